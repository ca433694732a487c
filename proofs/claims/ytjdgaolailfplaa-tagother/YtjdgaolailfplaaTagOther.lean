/- For whatever arguments the statement TagOther returns true and its arguments read as before. No condition. -/
import Derived.Test.YtjdgaolailfplaaTagA
import Derived.Test.YtjdgaolailfplaaRfRows
namespace Go.Proofs.Ytjdgaolailfplaa
open Go.ChangeShapes Go.WideShapes Go.ChangeAt Go.RowKit Bk
open Go.ChangeMaps (open_string shut_string)
set_option linter.unusedVariables false
set_option linter.unusedSimpArgs false

theorem set_same {l : List UInt8} {k : Nat} {y : UInt8} (hk : k < l.length) (h : by' l k = y.toNat) : l.set k y = l := by
  have e : l[k] = y := by
    have : by' l k = l[k].toNat := by unfold by'; rw [List.getD_eq_getElem?_getD, List.getElem?_eq_getElem hk]; rfl
    exact UInt8.toNat_inj.1 (by rw [← this, h])
  rw [← e]; exact List.set_getElem_self hk
theorem set_other {l : List UInt8} {k : Nat} {y : UInt8} (hk : k < l.length) (h : l.set k y = l) : by' l k = y.toNat := by
  have e : (l.set k y)[k]'(by rw [List.length_set]; exact hk) = y := List.getElem_set_self _
  have e2 : l[k] = y := by rw [← e]; congr 1; exact h.symm
  unfold by'; rw [List.getD_eq_getElem?_getD, List.getElem?_eq_getElem hk, e2]; rfl

set_option maxRecDepth 100000 in
set_option maxHeartbeats 8000000 in
theorem tagOther_big0 (w : World) (i : ByteArray) (n m : Int) (t : ByteArray) (s : ByteArray) (z y : Int)  (g0 : 100 < i.size) :
    Calls Try.prog 7 #[.agg #[.string i, .int .i64 n, .int .i64 m, .string t], .string s, .int .i64 z, .int .u8 y] w fun e w' => e = .returned (.bool true) ∧ Below w.heap.size w w' := by
  have f0 : (100 : Int) < (i.size : Int) := by omega
  clear g0
  obtain ⟨W, eW, hB, hC⟩ := of_world w i n m t
  have HX0 := hide (Below.refl W.heap.size W)
  have HB := hide hB
  have HC := hide hC
  obtain ⟨a0, a1, a2, a3⟩ := HC.out _ HX0.out
  clear hB hC
  go_enter Try.func7, Try.ntmps7
  go_wp2_with fail
  refine (tawake_any _).mono ?_
  rintro e w1 ⟨rfl, hw1⟩
  have HXw1 := hide (HX0.out.trans (hw1.mono HX0.out.size))
  clear hw1 HX0 a0 a1 a2 a3
  obtain ⟨a0, a1, a2, a3⟩ := HC.out _ HXw1.out
  go_wp2_with fail
  go_ret
  exact ⟨rfl, HB.out.trans (HXw1.out.mono HB.out.size)⟩

set_option maxRecDepth 100000 in
set_option maxHeartbeats 8000000 in
theorem tagOther_big1 (w : World) (i : ByteArray) (n m : Int) (t : ByteArray) (s : ByteArray) (z y : Int) (g0 : ¬ (100 < i.size)) (g1 : 3000 < t.size) :
    Calls Try.prog 7 #[.agg #[.string i, .int .i64 n, .int .i64 m, .string t], .string s, .int .i64 z, .int .u8 y] w fun e w' => e = .returned (.bool true) ∧ Below w.heap.size w w' := by
  have f0 : ¬ ((100 : Int) < (i.size : Int)) := by omega
  have f1 : (3000 : Int) < (t.size : Int) := by omega
  clear g0 g1
  obtain ⟨W, eW, hB, hC⟩ := of_world w i n m t
  have HX0 := hide (Below.refl W.heap.size W)
  have HB := hide hB
  have HC := hide hC
  obtain ⟨a0, a1, a2, a3⟩ := HC.out _ HX0.out
  clear hB hC
  go_enter Try.func7, Try.ntmps7
  go_wp2_with fail
  refine (tawake_any _).mono ?_
  rintro e w1 ⟨rfl, hw1⟩
  have HXw1 := hide (HX0.out.trans (hw1.mono HX0.out.size))
  clear hw1 HX0 a0 a1 a2 a3
  obtain ⟨a0, a1, a2, a3⟩ := HC.out _ HXw1.out
  go_wp2_with fail
  go_ret
  exact ⟨rfl, HB.out.trans (HXw1.out.mono HB.out.size)⟩

set_option maxRecDepth 100000 in
set_option maxHeartbeats 8000000 in
theorem tagOther_big2 (w : World) (i : ByteArray) (n m : Int) (t : ByteArray) (s : ByteArray) (z y : Int) (g0 : ¬ (100 < i.size)) (g1 : ¬ (3000 < t.size)) (g2 : 100 < s.size) :
    Calls Try.prog 7 #[.agg #[.string i, .int .i64 n, .int .i64 m, .string t], .string s, .int .i64 z, .int .u8 y] w fun e w' => e = .returned (.bool true) ∧ Below w.heap.size w w' := by
  have f0 : ¬ ((100 : Int) < (i.size : Int)) := by omega
  have f1 : ¬ ((3000 : Int) < (t.size : Int)) := by omega
  have f2 : (100 : Int) < (s.size : Int) := by omega
  clear g0 g1 g2
  obtain ⟨W, eW, hB, hC⟩ := of_world w i n m t
  have HX0 := hide (Below.refl W.heap.size W)
  have HB := hide hB
  have HC := hide hC
  obtain ⟨a0, a1, a2, a3⟩ := HC.out _ HX0.out
  clear hB hC
  go_enter Try.func7, Try.ntmps7
  go_wp2_with fail
  refine (tawake_any _).mono ?_
  rintro e w1 ⟨rfl, hw1⟩
  have HXw1 := hide (HX0.out.trans (hw1.mono HX0.out.size))
  clear hw1 HX0 a0 a1 a2 a3
  obtain ⟨a0, a1, a2, a3⟩ := HC.out _ HXw1.out
  go_wp2_with fail
  go_ret
  exact ⟨rfl, HB.out.trans (HXw1.out.mono HB.out.size)⟩

set_option maxRecDepth 100000 in
set_option maxHeartbeats 8000000 in
theorem tagOther_no8 (w : World) (i : ByteArray) (n m : Int) (t : ByteArray) (s : ByteArray) (z y : Int) (g0 : ¬ (100 < i.size)) (g1 : ¬ (3000 < t.size)) (g2 : ¬ (100 < s.size)) (h8 : s.size = 8) (ho : ¬ okOf i n m) :
    Calls Try.prog 7 #[.agg #[.string i, .int .i64 n, .int .i64 m, .string t], .string s, .int .i64 z, .int .u8 y] w fun e w' => e = .returned (.bool true) ∧ Below w.heap.size w w' := by
  have f0 : ¬ ((100 : Int) < (i.size : Int)) := by omega
  have f1 : ¬ ((3000 : Int) < (t.size : Int)) := by omega
  have f2 : ¬ ((100 : Int) < (s.size : Int)) := by omega
  have hd1 := hide (show t.size ≤ 100000 by omega)
  clear g0 g1 g2
  have s8 : ((s.size : Int) != 8) = false := by simp; omega
  clear h8
  have HO := hide (And.intro (oer_no ho) (And.intro (omk_no (d := t) ho) (ois_no (t := t) ho s)))
  clear ho
  obtain ⟨W, eW, hB, hC⟩ := of_world w i n m t
  have HX0 := hide (Below.refl W.heap.size W)
  have HB := hide hB
  have HC := hide hC
  obtain ⟨a0, a1, a2, a3⟩ := HC.out _ HX0.out
  clear hB hC
  go_enter Try.func7, Try.ntmps7
  go_wp2_with fail
  refine (tawake_any _).mono ?_
  rintro e w1 ⟨rfl, hw1⟩
  have HXw1 := hide (HX0.out.trans (hw1.mono HX0.out.size))
  clear hw1 HX0 a0 a1 a2 a3
  obtain ⟨a0, a1, a2, a3⟩ := HC.out _ HXw1.out
  go_wp2_with fail
  refine (make_any i n m t _ hd1.out).mono ?_
  rintro e w2 ⟨rfl, hw2⟩
  rw [HO.out.1, HO.out.2.1]
  have HXw2 := hide (HXw1.out.trans (hw2.mono HXw1.out.size))
  clear hw2 HXw1 a0 a1 a2 a3
  obtain ⟨a0, a1, a2, a3⟩ := HC.out _ HXw2.out
  go_wp2_with fail
  refine (is_any i n m t s _ hd1.out).mono ?_
  rintro e w3 ⟨rfl, hw3⟩
  rw [HO.out.2.2]
  have HXw3 := hide (HXw2.out.trans (hw3.mono HXw2.out.size))
  clear hw3 HXw2 a0 a1 a2 a3
  obtain ⟨a0, a1, a2, a3⟩ := HC.out _ HXw3.out
  go_wp2_with fail
  go_ret
  exact ⟨rfl, HB.out.trans (HXw3.out.mono HB.out.size)⟩

set_option maxRecDepth 100000 in
set_option maxHeartbeats 8000000 in
theorem tagOther_same8 (w : World) (i : ByteArray) (n m : Int) (t : ByteArray) (s : ByteArray) (z y : Int) (g0 : ¬ (100 < i.size)) (g1 : ¬ (3000 < t.size)) (g2 : ¬ (100 < s.size)) (h8 : s.size = 8) (ho : okOf i n m) (hy : 0 ≤ y ∧ y ≤ 255) (k : Nat) (hk : wrap64 ((IntKind.u64.wrap z).tmod 8) = (k : Int)) (hkn : k < 8) (hxy : by' (sb (omk i n m t)) k = y.toNat) :
    Calls Try.prog 7 #[.agg #[.string i, .int .i64 n, .int .i64 m, .string t], .string s, .int .i64 z, .int .u8 y] w fun e w' => e = .returned (.bool true) ∧ Below w.heap.size w w' := by
  have f0 : ¬ ((100 : Int) < (i.size : Int)) := by omega
  have f1 : ¬ ((3000 : Int) < (t.size : Int)) := by omega
  have f2 : ¬ ((100 : Int) < (s.size : Int)) := by omega
  have hd1 := hide (show t.size ≤ 100000 by omega)
  clear g0 g1 g2
  have s8 : ((s.size : Int) != 8) = false := by simp; omega
  clear h8
  obtain ⟨M, eM⟩ : ∃ M, omk i n m t = M := ⟨_, rfl⟩
  have lM : (sb M).length = 8 := by rw [sb_length, ← eM]; exact omk_size ho
  have mM : M.size = 8 := by rw [← eM]; exact omk_size ho
  rw [eM] at hxy
  obtain ⟨Y, rfl⟩ : ∃ Y : UInt8, (Y.toNat : Int) = y := ⟨UInt8.ofNat y.toNat, by simp; omega⟩
  rw [Int.toNat_natCast] at hxy
  obtain ⟨x, ex⟩ : ∃ x, by' (sb M) k = x := ⟨_, rfl⟩
  obtain ⟨yn, ey⟩ : ∃ yn, Y.toNat = yn := ⟨_, rfl⟩
  obtain ⟨Z, eZ⟩ : ∃ Z : ByteArray, ⟨((sb M).set k Y).toArray⟩ = Z := ⟨_, rfl⟩
  have hI : ois i n m t Z = true := by
    have h9 := set_same (l := sb M) (k := k) (y := Y) (by omega) (hxy)
    rw [← eZ, h9, mk_sb, ← eM]; exact ois_self ho
  have hbe : ((x : Int) == (yn : Int)) = true := by rw [← ex, ← ey, hxy]; simp
  have HO := hide (And.intro (oer_ok ho) (And.intro eM hI))
  have HZ2 := hide (And.intro eZ (And.intro lM (And.intro ex ey)))
  rw [ey]
  clear ho hxy eM hI lM ex ey eZ
  obtain ⟨W, eW, hB, hC⟩ := of_world w i n m t
  have HX0 := hide (Below.refl W.heap.size W)
  have HB := hide hB
  have HC := hide hC
  obtain ⟨a0, a1, a2, a3⟩ := HC.out _ HX0.out
  clear hB hC
  go_enter Try.func7, Try.ntmps7
  go_wp2_with fail
  refine (tawake_any _).mono ?_
  rintro e w1 ⟨rfl, hw1⟩
  have HXw1 := hide (HX0.out.trans (hw1.mono HX0.out.size))
  clear hw1 HX0 a0 a1 a2 a3
  obtain ⟨a0, a1, a2, a3⟩ := HC.out _ HXw1.out
  go_wp2_with fail
  refine (make_any i n m t _ hd1.out).mono ?_
  rintro e w2 ⟨rfl, hw2⟩
  rw [HO.out.1, HO.out.2.1]
  have HXw2 := hide (HXw1.out.trans (hw2.mono HXw1.out.size))
  clear hw2 HXw1 a0 a1 a2 a3
  obtain ⟨a0, a1, a2, a3⟩ := HC.out _ HXw2.out
  obtain ⟨vb, wb, hcv, hO, hBb⟩ := run_bytesO (P := Try.prog) w2 9 31 5 M Try.underlying9 Try.underlying31 Try.underlying5
  rw [mM] at hO
  obtain ⟨g, cap, rfl, hg, hcap, hR⟩ := hO.row (by decide)
  have hck := hR.y0 k (by rw [HZ2.out.2.1]; exact hkn)
  have hfk := hR.f0 k (by rw [bs_length, HZ2.out.2.1]; exact hkn)
  rw [HZ2.out.2.2.1] at hck
  obtain ⟨W3, eW3, hB3, hR3⟩ : ∃ W3, wb.setCell ⟨g, k, none⟩ (.int .u8 (yn : Int)) = W3 ∧ Below w2.heap.size w2 W3 ∧ Row W3 g 0 (bs ((sb M).set k Y)) :=
    ⟨_, rfl, hBb.setCell (p := ⟨g, k, none⟩) hg _, by have h9 := hR.set0 (i := k) (by rw [bs_length, HZ2.out.2.1]; exact hkn) (.int .u8 (Y.toNat : Int)); rw [← bs_setU, HZ2.out.2.2.2] at h9; exact h9⟩
  have hx := run_textR (P := Try.prog) W3 31 9 5 (c := cap) (n := 8) (l := (sb M).set k Y) Try.underlying31 Try.underlying5 Try.underlying9 g 0 rfl (by rw [List.length_set]; exact HZ2.out.2.1) hR3.cell
  rw [HZ2.out.1] at hx
  have HX3 := hide (HXw2.out.trans (hB3.mono HXw2.out.size))
  have hkI : (k : Int) < 8 := by omega
  obtain ⟨d0, d1, d2, d3⟩ := HC.out _ HX3.out
  clear hO hR hR3 hB3 hBb HXw2
  go_wp2_with fail
  refine (is_any i n m t Z _ hd1.out).mono ?_
  rintro e w9 ⟨rfl, h9⟩
  rw [HO.out.2.2]
  have HX9 := hide (HX3.out.trans (h9.mono HX3.out.size))
  clear h9
  go_wp2_with fail
  go_ret
  exact ⟨rfl, HB.out.trans (HX9.out.mono HB.out.size)⟩

set_option maxRecDepth 100000 in
set_option maxHeartbeats 8000000 in
theorem tagOther_other8 (w : World) (i : ByteArray) (n m : Int) (t : ByteArray) (s : ByteArray) (z y : Int) (g0 : ¬ (100 < i.size)) (g1 : ¬ (3000 < t.size)) (g2 : ¬ (100 < s.size)) (h8 : s.size = 8) (ho : okOf i n m) (hy : 0 ≤ y ∧ y ≤ 255) (k : Nat) (hk : wrap64 ((IntKind.u64.wrap z).tmod 8) = (k : Int)) (hkn : k < 8) (hxy : ¬ by' (sb (omk i n m t)) k = y.toNat) :
    Calls Try.prog 7 #[.agg #[.string i, .int .i64 n, .int .i64 m, .string t], .string s, .int .i64 z, .int .u8 y] w fun e w' => e = .returned (.bool true) ∧ Below w.heap.size w w' := by
  have f0 : ¬ ((100 : Int) < (i.size : Int)) := by omega
  have f1 : ¬ ((3000 : Int) < (t.size : Int)) := by omega
  have f2 : ¬ ((100 : Int) < (s.size : Int)) := by omega
  have hd1 := hide (show t.size ≤ 100000 by omega)
  clear g0 g1 g2
  have s8 : ((s.size : Int) != 8) = false := by simp; omega
  clear h8
  obtain ⟨M, eM⟩ : ∃ M, omk i n m t = M := ⟨_, rfl⟩
  have lM : (sb M).length = 8 := by rw [sb_length, ← eM]; exact omk_size ho
  have mM : M.size = 8 := by rw [← eM]; exact omk_size ho
  rw [eM] at hxy
  obtain ⟨Y, rfl⟩ : ∃ Y : UInt8, (Y.toNat : Int) = y := ⟨UInt8.ofNat y.toNat, by simp; omega⟩
  rw [Int.toNat_natCast] at hxy
  obtain ⟨x, ex⟩ : ∃ x, by' (sb M) k = x := ⟨_, rfl⟩
  obtain ⟨yn, ey⟩ : ∃ yn, Y.toNat = yn := ⟨_, rfl⟩
  obtain ⟨Z, eZ⟩ : ∃ Z : ByteArray, ⟨((sb M).set k Y).toArray⟩ = Z := ⟨_, rfl⟩
  have hI : ois i n m t Z = false := by
    rw [ois_ok ho, toList_beq, eM]
    refine decide_eq_false fun e => hxy ?_
    have h9 := set_other (l := sb M) (k := k) (y := Y) (by omega) (by rw [← sb_mk ((sb M).set k Y), eZ, e])
    exact h9
  have hbe : ((x : Int) == (yn : Int)) = false := by rw [← ex, ← ey]; simp; omega
  have HO := hide (And.intro (oer_ok ho) (And.intro eM hI))
  have HZ2 := hide (And.intro eZ (And.intro lM (And.intro ex ey)))
  rw [ey]
  clear ho hxy eM hI lM ex ey eZ
  obtain ⟨W, eW, hB, hC⟩ := of_world w i n m t
  have HX0 := hide (Below.refl W.heap.size W)
  have HB := hide hB
  have HC := hide hC
  obtain ⟨a0, a1, a2, a3⟩ := HC.out _ HX0.out
  clear hB hC
  go_enter Try.func7, Try.ntmps7
  go_wp2_with fail
  refine (tawake_any _).mono ?_
  rintro e w1 ⟨rfl, hw1⟩
  have HXw1 := hide (HX0.out.trans (hw1.mono HX0.out.size))
  clear hw1 HX0 a0 a1 a2 a3
  obtain ⟨a0, a1, a2, a3⟩ := HC.out _ HXw1.out
  go_wp2_with fail
  refine (make_any i n m t _ hd1.out).mono ?_
  rintro e w2 ⟨rfl, hw2⟩
  rw [HO.out.1, HO.out.2.1]
  have HXw2 := hide (HXw1.out.trans (hw2.mono HXw1.out.size))
  clear hw2 HXw1 a0 a1 a2 a3
  obtain ⟨a0, a1, a2, a3⟩ := HC.out _ HXw2.out
  obtain ⟨vb, wb, hcv, hO, hBb⟩ := run_bytesO (P := Try.prog) w2 9 31 5 M Try.underlying9 Try.underlying31 Try.underlying5
  rw [mM] at hO
  obtain ⟨g, cap, rfl, hg, hcap, hR⟩ := hO.row (by decide)
  have hck := hR.y0 k (by rw [HZ2.out.2.1]; exact hkn)
  have hfk := hR.f0 k (by rw [bs_length, HZ2.out.2.1]; exact hkn)
  rw [HZ2.out.2.2.1] at hck
  obtain ⟨W3, eW3, hB3, hR3⟩ : ∃ W3, wb.setCell ⟨g, k, none⟩ (.int .u8 (yn : Int)) = W3 ∧ Below w2.heap.size w2 W3 ∧ Row W3 g 0 (bs ((sb M).set k Y)) :=
    ⟨_, rfl, hBb.setCell (p := ⟨g, k, none⟩) hg _, by have h9 := hR.set0 (i := k) (by rw [bs_length, HZ2.out.2.1]; exact hkn) (.int .u8 (Y.toNat : Int)); rw [← bs_setU, HZ2.out.2.2.2] at h9; exact h9⟩
  have hx := run_textR (P := Try.prog) W3 31 9 5 (c := cap) (n := 8) (l := (sb M).set k Y) Try.underlying31 Try.underlying5 Try.underlying9 g 0 rfl (by rw [List.length_set]; exact HZ2.out.2.1) hR3.cell
  rw [HZ2.out.1] at hx
  have HX3 := hide (HXw2.out.trans (hB3.mono HXw2.out.size))
  have hkI : (k : Int) < 8 := by omega
  obtain ⟨d0, d1, d2, d3⟩ := HC.out _ HX3.out
  clear hO hR hR3 hB3 hBb HXw2
  go_wp2_with fail
  refine (is_any i n m t Z _ hd1.out).mono ?_
  rintro e w9 ⟨rfl, h9⟩
  rw [HO.out.2.2]
  have HX9 := hide (HX3.out.trans (h9.mono HX3.out.size))
  clear h9
  go_wp2_with fail
  go_ret
  exact ⟨rfl, HB.out.trans (HX9.out.mono HB.out.size)⟩

set_option maxRecDepth 100000 in
set_option maxHeartbeats 8000000 in
theorem tagOther_no (w : World) (i : ByteArray) (n m : Int) (t : ByteArray) (s : ByteArray) (z y : Int) (g0 : ¬ (100 < i.size)) (g1 : ¬ (3000 < t.size)) (g2 : ¬ (100 < s.size)) (h8 : s.size ≠ 8) (ho : ¬ okOf i n m) :
    Calls Try.prog 7 #[.agg #[.string i, .int .i64 n, .int .i64 m, .string t], .string s, .int .i64 z, .int .u8 y] w fun e w' => e = .returned (.bool true) ∧ Below w.heap.size w w' := by
  have f0 : ¬ ((100 : Int) < (i.size : Int)) := by omega
  have f1 : ¬ ((3000 : Int) < (t.size : Int)) := by omega
  have f2 : ¬ ((100 : Int) < (s.size : Int)) := by omega
  have hd1 := hide (show t.size ≤ 100000 by omega)
  clear g0 g1 g2
  have s8 : ((s.size : Int) != 8) = true := by simp; omega
  have HZ := hide (ois_size (i := i) (n := n) (m := m) (t := t) h8)
  clear h8
  have HO := hide (And.intro (oer_no ho) (And.intro (omk_no (d := t) ho) (ois_no (t := t) ho s)))
  clear ho
  obtain ⟨W, eW, hB, hC⟩ := of_world w i n m t
  have HX0 := hide (Below.refl W.heap.size W)
  have HB := hide hB
  have HC := hide hC
  obtain ⟨a0, a1, a2, a3⟩ := HC.out _ HX0.out
  clear hB hC
  go_enter Try.func7, Try.ntmps7
  go_wp2_with fail
  refine (tawake_any _).mono ?_
  rintro e w1 ⟨rfl, hw1⟩
  have HXw1 := hide (HX0.out.trans (hw1.mono HX0.out.size))
  clear hw1 HX0 a0 a1 a2 a3
  obtain ⟨a0, a1, a2, a3⟩ := HC.out _ HXw1.out
  go_wp2_with fail
  refine (is_any i n m t s _ hd1.out).mono ?_
  rintro e w2 ⟨rfl, hw2⟩
  rw [HZ.out]
  have HXw2 := hide (HXw1.out.trans (hw2.mono HXw1.out.size))
  clear hw2 HXw1 a0 a1 a2 a3
  obtain ⟨a0, a1, a2, a3⟩ := HC.out _ HXw2.out
  go_wp2_with fail
  refine (make_any i n m t _ hd1.out).mono ?_
  rintro e w3 ⟨rfl, hw3⟩
  rw [HO.out.1, HO.out.2.1]
  have HXw3 := hide (HXw2.out.trans (hw3.mono HXw2.out.size))
  clear hw3 HXw2 a0 a1 a2 a3
  obtain ⟨a0, a1, a2, a3⟩ := HC.out _ HXw3.out
  go_wp2_with fail
  refine (is_any i n m t s _ hd1.out).mono ?_
  rintro e w4 ⟨rfl, hw4⟩
  rw [HO.out.2.2]
  have HXw4 := hide (HXw3.out.trans (hw4.mono HXw3.out.size))
  clear hw4 HXw3 a0 a1 a2 a3
  obtain ⟨a0, a1, a2, a3⟩ := HC.out _ HXw4.out
  go_wp2_with fail
  go_ret
  exact ⟨rfl, HB.out.trans (HXw4.out.mono HB.out.size)⟩

set_option maxRecDepth 100000 in
set_option maxHeartbeats 8000000 in
theorem tagOther_same (w : World) (i : ByteArray) (n m : Int) (t : ByteArray) (s : ByteArray) (z y : Int) (g0 : ¬ (100 < i.size)) (g1 : ¬ (3000 < t.size)) (g2 : ¬ (100 < s.size)) (h8 : s.size ≠ 8) (ho : okOf i n m) (hy : 0 ≤ y ∧ y ≤ 255) (k : Nat) (hk : wrap64 ((IntKind.u64.wrap z).tmod 8) = (k : Int)) (hkn : k < 8) (hxy : by' (sb (omk i n m t)) k = y.toNat) :
    Calls Try.prog 7 #[.agg #[.string i, .int .i64 n, .int .i64 m, .string t], .string s, .int .i64 z, .int .u8 y] w fun e w' => e = .returned (.bool true) ∧ Below w.heap.size w w' := by
  have f0 : ¬ ((100 : Int) < (i.size : Int)) := by omega
  have f1 : ¬ ((3000 : Int) < (t.size : Int)) := by omega
  have f2 : ¬ ((100 : Int) < (s.size : Int)) := by omega
  have hd1 := hide (show t.size ≤ 100000 by omega)
  clear g0 g1 g2
  have s8 : ((s.size : Int) != 8) = true := by simp; omega
  have HZ := hide (ois_size (i := i) (n := n) (m := m) (t := t) h8)
  clear h8
  obtain ⟨M, eM⟩ : ∃ M, omk i n m t = M := ⟨_, rfl⟩
  have lM : (sb M).length = 8 := by rw [sb_length, ← eM]; exact omk_size ho
  have mM : M.size = 8 := by rw [← eM]; exact omk_size ho
  rw [eM] at hxy
  obtain ⟨Y, rfl⟩ : ∃ Y : UInt8, (Y.toNat : Int) = y := ⟨UInt8.ofNat y.toNat, by simp; omega⟩
  rw [Int.toNat_natCast] at hxy
  obtain ⟨x, ex⟩ : ∃ x, by' (sb M) k = x := ⟨_, rfl⟩
  obtain ⟨yn, ey⟩ : ∃ yn, Y.toNat = yn := ⟨_, rfl⟩
  obtain ⟨Z, eZ⟩ : ∃ Z : ByteArray, ⟨((sb M).set k Y).toArray⟩ = Z := ⟨_, rfl⟩
  have hI : ois i n m t Z = true := by
    have h9 := set_same (l := sb M) (k := k) (y := Y) (by omega) (hxy)
    rw [← eZ, h9, mk_sb, ← eM]; exact ois_self ho
  have hbe : ((x : Int) == (yn : Int)) = true := by rw [← ex, ← ey, hxy]; simp
  have HO := hide (And.intro (oer_ok ho) (And.intro eM hI))
  have HZ2 := hide (And.intro eZ (And.intro lM (And.intro ex ey)))
  rw [ey]
  clear ho hxy eM hI lM ex ey eZ
  obtain ⟨W, eW, hB, hC⟩ := of_world w i n m t
  have HX0 := hide (Below.refl W.heap.size W)
  have HB := hide hB
  have HC := hide hC
  obtain ⟨a0, a1, a2, a3⟩ := HC.out _ HX0.out
  clear hB hC
  go_enter Try.func7, Try.ntmps7
  go_wp2_with fail
  refine (tawake_any _).mono ?_
  rintro e w1 ⟨rfl, hw1⟩
  have HXw1 := hide (HX0.out.trans (hw1.mono HX0.out.size))
  clear hw1 HX0 a0 a1 a2 a3
  obtain ⟨a0, a1, a2, a3⟩ := HC.out _ HXw1.out
  go_wp2_with fail
  refine (is_any i n m t s _ hd1.out).mono ?_
  rintro e w2 ⟨rfl, hw2⟩
  rw [HZ.out]
  have HXw2 := hide (HXw1.out.trans (hw2.mono HXw1.out.size))
  clear hw2 HXw1 a0 a1 a2 a3
  obtain ⟨a0, a1, a2, a3⟩ := HC.out _ HXw2.out
  go_wp2_with fail
  refine (make_any i n m t _ hd1.out).mono ?_
  rintro e w3 ⟨rfl, hw3⟩
  rw [HO.out.1, HO.out.2.1]
  have HXw3 := hide (HXw2.out.trans (hw3.mono HXw2.out.size))
  clear hw3 HXw2 a0 a1 a2 a3
  obtain ⟨a0, a1, a2, a3⟩ := HC.out _ HXw3.out
  obtain ⟨vb, wb, hcv, hO, hBb⟩ := run_bytesO (P := Try.prog) w3 9 31 5 M Try.underlying9 Try.underlying31 Try.underlying5
  rw [mM] at hO
  obtain ⟨g, cap, rfl, hg, hcap, hR⟩ := hO.row (by decide)
  have hck := hR.y0 k (by rw [HZ2.out.2.1]; exact hkn)
  have hfk := hR.f0 k (by rw [bs_length, HZ2.out.2.1]; exact hkn)
  rw [HZ2.out.2.2.1] at hck
  obtain ⟨W3, eW3, hB3, hR3⟩ : ∃ W3, wb.setCell ⟨g, k, none⟩ (.int .u8 (yn : Int)) = W3 ∧ Below w3.heap.size w3 W3 ∧ Row W3 g 0 (bs ((sb M).set k Y)) :=
    ⟨_, rfl, hBb.setCell (p := ⟨g, k, none⟩) hg _, by have h9 := hR.set0 (i := k) (by rw [bs_length, HZ2.out.2.1]; exact hkn) (.int .u8 (Y.toNat : Int)); rw [← bs_setU, HZ2.out.2.2.2] at h9; exact h9⟩
  have hx := run_textR (P := Try.prog) W3 31 9 5 (c := cap) (n := 8) (l := (sb M).set k Y) Try.underlying31 Try.underlying5 Try.underlying9 g 0 rfl (by rw [List.length_set]; exact HZ2.out.2.1) hR3.cell
  rw [HZ2.out.1] at hx
  have HX3 := hide (HXw3.out.trans (hB3.mono HXw3.out.size))
  have hkI : (k : Int) < 8 := by omega
  obtain ⟨d0, d1, d2, d3⟩ := HC.out _ HX3.out
  clear hO hR hR3 hB3 hBb HXw3
  go_wp2_with fail
  refine (is_any i n m t Z _ hd1.out).mono ?_
  rintro e w9 ⟨rfl, h9⟩
  rw [HO.out.2.2]
  have HX9 := hide (HX3.out.trans (h9.mono HX3.out.size))
  clear h9
  go_wp2_with fail
  go_ret
  exact ⟨rfl, HB.out.trans (HX9.out.mono HB.out.size)⟩

set_option maxRecDepth 100000 in
set_option maxHeartbeats 8000000 in
theorem tagOther_other (w : World) (i : ByteArray) (n m : Int) (t : ByteArray) (s : ByteArray) (z y : Int) (g0 : ¬ (100 < i.size)) (g1 : ¬ (3000 < t.size)) (g2 : ¬ (100 < s.size)) (h8 : s.size ≠ 8) (ho : okOf i n m) (hy : 0 ≤ y ∧ y ≤ 255) (k : Nat) (hk : wrap64 ((IntKind.u64.wrap z).tmod 8) = (k : Int)) (hkn : k < 8) (hxy : ¬ by' (sb (omk i n m t)) k = y.toNat) :
    Calls Try.prog 7 #[.agg #[.string i, .int .i64 n, .int .i64 m, .string t], .string s, .int .i64 z, .int .u8 y] w fun e w' => e = .returned (.bool true) ∧ Below w.heap.size w w' := by
  have f0 : ¬ ((100 : Int) < (i.size : Int)) := by omega
  have f1 : ¬ ((3000 : Int) < (t.size : Int)) := by omega
  have f2 : ¬ ((100 : Int) < (s.size : Int)) := by omega
  have hd1 := hide (show t.size ≤ 100000 by omega)
  clear g0 g1 g2
  have s8 : ((s.size : Int) != 8) = true := by simp; omega
  have HZ := hide (ois_size (i := i) (n := n) (m := m) (t := t) h8)
  clear h8
  obtain ⟨M, eM⟩ : ∃ M, omk i n m t = M := ⟨_, rfl⟩
  have lM : (sb M).length = 8 := by rw [sb_length, ← eM]; exact omk_size ho
  have mM : M.size = 8 := by rw [← eM]; exact omk_size ho
  rw [eM] at hxy
  obtain ⟨Y, rfl⟩ : ∃ Y : UInt8, (Y.toNat : Int) = y := ⟨UInt8.ofNat y.toNat, by simp; omega⟩
  rw [Int.toNat_natCast] at hxy
  obtain ⟨x, ex⟩ : ∃ x, by' (sb M) k = x := ⟨_, rfl⟩
  obtain ⟨yn, ey⟩ : ∃ yn, Y.toNat = yn := ⟨_, rfl⟩
  obtain ⟨Z, eZ⟩ : ∃ Z : ByteArray, ⟨((sb M).set k Y).toArray⟩ = Z := ⟨_, rfl⟩
  have hI : ois i n m t Z = false := by
    rw [ois_ok ho, toList_beq, eM]
    refine decide_eq_false fun e => hxy ?_
    have h9 := set_other (l := sb M) (k := k) (y := Y) (by omega) (by rw [← sb_mk ((sb M).set k Y), eZ, e])
    exact h9
  have hbe : ((x : Int) == (yn : Int)) = false := by rw [← ex, ← ey]; simp; omega
  have HO := hide (And.intro (oer_ok ho) (And.intro eM hI))
  have HZ2 := hide (And.intro eZ (And.intro lM (And.intro ex ey)))
  rw [ey]
  clear ho hxy eM hI lM ex ey eZ
  obtain ⟨W, eW, hB, hC⟩ := of_world w i n m t
  have HX0 := hide (Below.refl W.heap.size W)
  have HB := hide hB
  have HC := hide hC
  obtain ⟨a0, a1, a2, a3⟩ := HC.out _ HX0.out
  clear hB hC
  go_enter Try.func7, Try.ntmps7
  go_wp2_with fail
  refine (tawake_any _).mono ?_
  rintro e w1 ⟨rfl, hw1⟩
  have HXw1 := hide (HX0.out.trans (hw1.mono HX0.out.size))
  clear hw1 HX0 a0 a1 a2 a3
  obtain ⟨a0, a1, a2, a3⟩ := HC.out _ HXw1.out
  go_wp2_with fail
  refine (is_any i n m t s _ hd1.out).mono ?_
  rintro e w2 ⟨rfl, hw2⟩
  rw [HZ.out]
  have HXw2 := hide (HXw1.out.trans (hw2.mono HXw1.out.size))
  clear hw2 HXw1 a0 a1 a2 a3
  obtain ⟨a0, a1, a2, a3⟩ := HC.out _ HXw2.out
  go_wp2_with fail
  refine (make_any i n m t _ hd1.out).mono ?_
  rintro e w3 ⟨rfl, hw3⟩
  rw [HO.out.1, HO.out.2.1]
  have HXw3 := hide (HXw2.out.trans (hw3.mono HXw2.out.size))
  clear hw3 HXw2 a0 a1 a2 a3
  obtain ⟨a0, a1, a2, a3⟩ := HC.out _ HXw3.out
  obtain ⟨vb, wb, hcv, hO, hBb⟩ := run_bytesO (P := Try.prog) w3 9 31 5 M Try.underlying9 Try.underlying31 Try.underlying5
  rw [mM] at hO
  obtain ⟨g, cap, rfl, hg, hcap, hR⟩ := hO.row (by decide)
  have hck := hR.y0 k (by rw [HZ2.out.2.1]; exact hkn)
  have hfk := hR.f0 k (by rw [bs_length, HZ2.out.2.1]; exact hkn)
  rw [HZ2.out.2.2.1] at hck
  obtain ⟨W3, eW3, hB3, hR3⟩ : ∃ W3, wb.setCell ⟨g, k, none⟩ (.int .u8 (yn : Int)) = W3 ∧ Below w3.heap.size w3 W3 ∧ Row W3 g 0 (bs ((sb M).set k Y)) :=
    ⟨_, rfl, hBb.setCell (p := ⟨g, k, none⟩) hg _, by have h9 := hR.set0 (i := k) (by rw [bs_length, HZ2.out.2.1]; exact hkn) (.int .u8 (Y.toNat : Int)); rw [← bs_setU, HZ2.out.2.2.2] at h9; exact h9⟩
  have hx := run_textR (P := Try.prog) W3 31 9 5 (c := cap) (n := 8) (l := (sb M).set k Y) Try.underlying31 Try.underlying5 Try.underlying9 g 0 rfl (by rw [List.length_set]; exact HZ2.out.2.1) hR3.cell
  rw [HZ2.out.1] at hx
  have HX3 := hide (HXw3.out.trans (hB3.mono HXw3.out.size))
  have hkI : (k : Int) < 8 := by omega
  obtain ⟨d0, d1, d2, d3⟩ := HC.out _ HX3.out
  clear hO hR hR3 hB3 hBb HXw3
  go_wp2_with fail
  refine (is_any i n m t Z _ hd1.out).mono ?_
  rintro e w9 ⟨rfl, h9⟩
  rw [HO.out.2.2]
  have HX9 := hide (HX3.out.trans (h9.mono HX3.out.size))
  clear h9
  go_wp2_with fail
  go_ret
  exact ⟨rfl, HB.out.trans (HX9.out.mono HB.out.size)⟩

theorem tagOther_any (w : World) (i : ByteArray) (n m : Int) (t : ByteArray) (s : ByteArray) (m0 : s.size ≤ 140737488351232) (z : Int) (hz : -9223372036854775808 ≤ z ∧ z ≤ 9223372036854775807) (y : Int) (hy : 0 ≤ y ∧ y ≤ 255) :
    Calls Try.prog 7 #[.agg #[.string i, .int .i64 n, .int .i64 m, .string t], .string s, .int .i64 z, .int .u8 y] w fun e w' => e = .returned (.bool true) ∧ Below w.heap.size w w' := by
  by_cases g0 : 100 < i.size
  · exact tagOther_big0 w i n m t s z y g0
  by_cases g1 : 3000 < t.size
  · exact tagOther_big1 w i n m t s z y g0 g1
  by_cases g2 : 100 < s.size
  · exact tagOther_big2 w i n m t s z y g0 g1 g2
  obtain ⟨k, hk, hk8⟩ := u64_rest z 8 (by decide) (by decide)
  by_cases h8 : s.size = 8
  · by_cases ho : okOf i n m
    · by_cases hxy : by' (sb (omk i n m t)) k = y.toNat
      · exact tagOther_same8 w i n m t s z y g0 g1 g2 h8 ho hy k hk (by omega) hxy
      · exact tagOther_other8 w i n m t s z y g0 g1 g2 h8 ho hy k hk (by omega) hxy
    · exact tagOther_no8 w i n m t s z y g0 g1 g2 h8 ho
  · by_cases ho : okOf i n m
    · by_cases hxy : by' (sb (omk i n m t)) k = y.toNat
      · exact tagOther_same w i n m t s z y g0 g1 g2 h8 ho hy k hk (by omega) hxy
      · exact tagOther_other w i n m t s z y g0 g1 g2 h8 ho hy k hk (by omega) hxy
    · exact tagOther_no w i n m t s z y g0 g1 g2 h8 ho

theorem tagOther_own : ownKnob Try.prog.godebug = none := by kernel_rfl
theorem tagOther_laidOut : laidOutB Try.prog = true := by kernel_rfl

set_option maxRecDepth 100000 in
theorem tagOther_lifted (os : Os) (started : os.Started) (H : Type) (enc : TypeId × Value → H) :
    ReturnsInHanded {} Try.checked os 7 .any (Rows.tagOtherSpec.pre6 enc Try.prog Try.f7 Rows.tagOtherRow.domain false) (Rows.tagOtherSpec.post enc Try.prog Try.f7 false true false false) := by
  refine returnsInHanded_of_change_sized (C := Try.checked) tagOther_own started (by kernel_rfl) Try.func7
    (ChangeSpec.witness6 (enc := enc) (C := Try.checked) false ⟨#[], #[.agg #[.string ⟨#[]⟩, .int .i64 0, .int .i64 0, .string ⟨#[]⟩], .string ⟨#[]⟩, .int .i64 0, .int .u8 0], []⟩ 8 (by kernel_rfl) (by kernel_rfl) (by kernel_rfl) (by kernel_rfl)) ?_
  intro W base args ds gs before hval0 hW hcnd hsz0 _
  have hval : ∀ (j : Nat) t v, Try.f7.params[j]? = some t → args[j]? = some v → Value.okWide Try.prog W .any base t v := hval0
  have hW' := hW
  obtain ⟨p, q, hA0, hV, rfl, hfz, hnd⟩ := hW
  have hA : DataW.TrodAll enc Try.prog W 0 (fun _ => true) true Try.f7.params.toList args.toList ds p := hA0
  rw [Try.params7] at hA hval
  obtain ⟨v0, vs0, d0, ds0, p0, q0, hargs, rfl, rfl, h0, r0⟩ := trodAll_cons hA
  obtain ⟨v1, vs1, d1, ds1, p1, q1, rfl, rfl, rfl, h1, r1⟩ := trodAll_cons r0
  obtain ⟨v2, vs2, d2, ds2, p2, q2, rfl, rfl, rfl, h2, r2⟩ := trodAll_cons r1
  obtain ⟨v3, vs3, d3, ds3, p3, q3, rfl, rfl, rfl, h3, r3⟩ := trodAll_cons r2
  obtain ⟨rfl, rfl, rfl⟩ := trodAll_nil r3
  obtain rfl : args = #[v0, v1, v2, v3] := by cases args; simp_all
  obtain ⟨rfl, rfl⟩ := trodVars_none hV
  have k0 := h0
  have lt0 : ∀ x ∈ p0, x.block < W.heap.size := by obtain ⟨m, hm⟩ := k0; exact DataW.trod_lt m _ _ _ hm
  obtain ⟨i0, n0, m0, b0, rfl⟩ := open_of (hval 0 23 v0 rfl rfl) h0
  obtain ⟨a1, rfl, rfl, rfl, w1⟩ := open_string Try.underlying9 (hval 1 9 v1 rfl rfl) h1
  have s1 : a1.size ≤ 140737488351232 := sized_string hsz0 (j := 1) (t := 9) rfl rfl
  obtain ⟨a2, rfl, rfl, rfl, w2⟩ := open_int Try.underlying3 (hval 2 3 v2 rfl rfl) h2
  obtain ⟨a3, rfl, rfl, rfl, w3⟩ := open_int Try.underlying5 (hval 3 5 v3 rfl rfl) h3
  clear hA0 hval0 hsz0
  simp only [List.append_nil] at hW'
  refine (tagOther_any W i0 n0 m0 b0 a1 s1 a2 (bounds_i64 w2) a3 (bounds_u8 w3)).mono fun e W' ⟨he, bel⟩ => ?_
  subst he
  exact ⟨_, rfl, _, _, _, [], _, [], hW', trodAll_mk1 (shut_bool Try.underlying4 _), (trodAll_cons_mk (Below.trod tagOther_laidOut (by kernel_rfl) (of_decide_eq_true (by kernel_rfl)) k0 bel lt0) (trodAll_cons_mk (shut_string Try.underlying9 w1) (trodAll_cons_mk (shut_int Try.underlying3 w2) (trodAll_cons_mk (shut_int Try.underlying5 w3) trodAll_mk0)))), rfl, bel.frame _, fun h => by cases h⟩

theorem tagOther_holds : Rows.TagOtherSaid :=
  OpenClaim.holds_of_wide 7 Try.f7 rfl rfl rfl rfl rfl rfl rfl ⟨rfl, rfl, rfl, rfl, rfl⟩ rfl rfl rfl rfl rfl (by kernel_rfl) Try.func7 (by kernel_rfl)
    (of_decide_eq_true (by kernel_rfl)) (by unfold Func.isWrapper; first | (rw [if_pos (by decide +kernel)]; kernel_rfl) | (rw [if_neg (by decide +kernel)]; exact ⟨rfl, rfl⟩))
    (fun os started H enc _ => tagOther_lifted os started H enc)

#print axioms tagOther_holds

end Go.Proofs.Ytjdgaolailfplaa
