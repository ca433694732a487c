/- What the laws ask first: a byte so often, bytes as hexadecimal digits, the examples; walked. -/
import Derived.Test.YtlpnneghlomakaaHTop
import Derived.Deep.OwnRows
import Derived.BigQuiet
namespace Go.Proofs.Ytlpnneghlomakaa
open Go.RowKit Bk
set_option linter.unusedVariables false
set_option linter.unusedSimpArgs false

theorem made_bytes (n : Nat) : (madeCells #[.int .u8 0] n).toList = bs (List.replicate n 0) := by
  apply List.ext_getElem
  · simp [madeCells, bs]
  · intro i h1 h2
    simp [madeCells, bs, Nat.mod_one]
theorem row_made (w : World) (n : Nat) : Row (w.alloc (.cells (madeCells #[.int .u8 0] n) 5)) w.heap.size 0 (bs (List.replicate n 0)) := by
  have k := Row.new w (madeCells #[.int .u8 0] n) 5
  rwa [made_bytes] at k
theorem info8' : (Try.prog.info? 5).map (fun i => (i.zero, i.size, i.bytes)) = some (some (.int .u8 0), 1, 1) := by kernel_rfl
theorem mk_bytes (n : Nat) (hn : n ≤ 1000000) (w : World) : (Instr.makeSlice 48 (.int .i64 (n : Int)) (.int .i64 (n : Int))).run Try.prog w = .ok (.slice (some ⟨w.heap.size, 0, none⟩) n n) (w.alloc (.cells (madeCells #[.int .u8 0] n) 5)) :=
  run_make_row' 48 5 (.int .u8 0) 1 Try.underlying48 info8' rfl .i64 .i64 n (by omega) (by omega) w
theorem bs_setU (l : List UInt8) (i : Nat) (x : UInt8) : bs (l.set i x) = (bs l).set i (.int .u8 (x.toNat : Int)) := by simp [bs, List.map_set]
theorem rep_set (c : UInt8) (k n : Nat) (h : k < n) : (List.replicate k c ++ List.replicate (n - k) 0).set k c = List.replicate (k + 1) c ++ List.replicate (n - (k + 1)) 0 := by
  rw [List.set_append_right _ _ (by simp), List.length_replicate, Nat.sub_self, show n - k = (n - (k + 1)) + 1 by omega, List.replicate_succ, List.set_cons_zero, List.replicate_succ']
  simp

set_option maxRecDepth 100000 in
set_option maxHeartbeats 4000000 in
theorem many_any (n : Nat) (c : UInt8) (w : World) (hn : n ≤ 1000000) : Calls Try.prog 11 #[.int .i64 n, .int .u8 (c.toNat : Int)] w fun e w' => e = .returned (.string ⟨(List.replicate n c).toArray⟩) ∧ Below w.heap.size w w' := by
  have hmk := mk_bytes n hn
  obtain ⟨x, hx⟩ : ∃ x, c.toNat = x := ⟨_, rfl⟩
  rw [hx]
  have hnew := row_made w n
  have hbl := (Below.refl _ w).alloc (Nat.le_refl _) (.cells (madeCells #[.int .u8 0] n) 5)
  have HN := hide hnew
  have HB := hide hbl
  clear hnew hbl
  go_enter Try.func11, Try.ntmps11
  go_wp2_with fail
  go_loopg [6] n (fun g t wr => ∃ k : Nat, k + g = n ∧ t = .int .i64 k ∧ Row wr w.heap.size 0 (bs (List.replicate k c ++ List.replicate (n - k) 0)) ∧ Below w.heap.size w wr)
  case atStart => exact ⟨0, by omega, rfl, by simpa using HN.out, HB.out⟩
  case round =>
    clear HN HB
    obtain ⟨k, hkg, rfl, hR, hBl⟩ := hrel
    by_cases hlt : k < n
    · have hlt' : (k : Int) < (n : Int) := by omega
      obtain ⟨g3, rfl⟩ : ∃ g3, gk = g3 + 1 := ⟨gk - 1, by omega⟩
      have hlen : (List.replicate k c ++ List.replicate (n - k) (0 : UInt8)).length = n := by simp; omega
      have hc := hR.y0 k (by omega)
      have hf := hR.f0 k (by rw [bs_length]; omega)
      have hR2 := hR.set0 (i := k) (by rw [bs_length]; omega) (.int .u8 (c.toNat : Int))
      rw [← bs_setU, rep_set c k n hlt, hx] at hR2
      have HR2 := hide hR2
      have HB := hide (hBl.setCell (p := ⟨w.heap.size, k, none⟩) (Nat.le_refl _) (.int .u8 (x : Int)))
      clear hR hR2 hBl
      go_wp2
      go_roundg g3
      case measure => omega
      case rel => exact ⟨k + 1, by omega, by go_num, HR2.out, HB.out⟩
    · obtain rfl : k = n := by omega
      rw [Nat.sub_self, List.replicate_zero, List.append_nil] at hR
      have hxx := run_textR (P := Try.prog) wr 48 9 5 (c := k) (n := k) (l := List.replicate k c) Try.underlying48 Try.underlying5 Try.underlying9 w.heap.size 0 rfl (by simp) hR.cell
      have HB := hide hBl
      clear hR hBl
      go_wp2_with fail
      go_ret
      exact ⟨rfl, HB.out⟩

/-- A digit of sixteen; two of them a byte. -/
def hd (x : Nat) : List UInt8 := ([48, 49, 50, 51, 52, 53, 54, 55, 56, 57, 97, 98, 99, 100, 101, 102].drop x).take 1
def hxs (l : List UInt8) : List UInt8 := l.flatMap fun c => hd (c.toNat / 16) ++ hd (c.toNat % 16)
theorem hxs_take (l : List UInt8) (k : Nat) (hk : k < l.length) : hxs (l.take (k + 1)) = hxs (l.take k) ++ (hd (by' l k / 16) ++ hd (by' l k % 16)) := by
  unfold hxs
  rw [List.take_add_one, List.flatMap_append]
  simp [by', hk]
theorem idx_str (s : ByteArray) (k : Nat) (hk : k < s.size) (w : World) : (Instr.index 9 (.string s) (.int .i64 (k : Int))).run Try.prog w = .ok (.int .u8 ((by' (sb s) k : Nat) : Int)) w := by
  have h1 : (0 : Int) ≤ (k : Int) := Int.natCast_nonneg k
  have h2 : (k : Int) < (s.size : Int) := Int.ofNat_lt.2 hk
  rw [run_index_string _ _ _ _ _ Try.underlying9, dif_pos (And.intro h1 h2)]
  congr 2
  simp only [Int.toNat_natCast, by', sb, List.getD_eq_getElem?_getD, Array.getElem?_toList]
  rw [Array.getElem?_eq_getElem (show k < s.data.size from hk)]
  rfl

theorem ext_digit (x : Nat) (hx : x < 16) : (ByteArray.mk #[48, 49, 50, 51, 52, 53, 54, 55, 56, 57, 97, 98, 99, 100, 101, 102]).extract x (x + 1) = ⟨(hd x).toArray⟩ := by
  have h := ByteArray.extract_mk [48, 49, 50, 51, 52, 53, 54, 55, 56, 57, 97, 98, 99, 100, 101, 102] x (x + 1)
  rw [Nat.add_sub_cancel_left] at h
  exact h
theorem mk_append (a b : List UInt8) : ByteArray.mk a.toArray ++ ByteArray.mk b.toArray = ByteArray.mk (a ++ b).toArray := by
  apply ByteArray.ext
  simp

theorem sum_empty : sum 0 [] = [105, 33, 122, 48, 121, 144, 128, 148, 225, 17, 33, 208, 66, 53, 74, 124, 31, 85, 182, 72, 44, 161, 165, 30, 27, 37, 13, 253, 30, 208, 238, 249] := by kernel_rfl
theorem sum_abc : sum 0 [97, 98, 99] = [80, 140, 94, 140, 50, 124, 20, 226, 225, 167, 43, 163, 78, 235, 69, 47, 55, 69, 139, 32, 158, 214, 58, 41, 77, 153, 155, 76, 134, 103, 89, 130] := by kernel_rfl

set_option maxRecDepth 100000 in
set_option maxHeartbeats 4000000 in
theorem hex_any (s : ByteArray) (w : World) (hs : s.size ≤ 1000) : Calls Try.prog 19 #[.string s] w fun e w' => e = .returned (.string ⟨(hxs (sb s)).toArray⟩) ∧ Below w.heap.size w w' := by
  obtain ⟨n, en⟩ : ∃ n, s.size = n := ⟨_, rfl⟩
  have hlen : (sb s).length = n := by rw [sb_length, en]
  have HE := hide (And.intro en hlen)
  have hnI : (s.size : Int) = (n : Int) := by omega
  clear en hlen
  go_enter Try.func19, Try.ntmps19
  go_wp2_with fail
  go_loopg [3, 4] n (fun g v t wr => ∃ k : Nat, k + g = n ∧ t = .int .i64 k ∧ v = .string ⟨(hxs ((sb s).take k)).toArray⟩ ∧ Below w.heap.size w wr)
  case atStart => exact ⟨0, by omega, rfl, rfl, Below.refl _ _⟩
  case round =>
    obtain ⟨k, hkg, rfl, rfl, hB⟩ := hrel
    by_cases hlt : k < n
    · have hlt' : (k : Int) < (n : Int) := by omega
      obtain ⟨g3, rfl⟩ : ∃ g3, gk = g3 + 1 := ⟨gk - 1, by omega⟩
      have hi := idx_str s k (by rw [HE.out.1]; exact hlt)
      obtain ⟨x, ex⟩ : ∃ x, by' (sb s) k = x := ⟨_, rfl⟩
      have lx : x < 256 := ex ▸ by_lt _ _
      rw [ex] at hi
      have HX := hide ex
      clear ex
      have HB := hide hB
      have sd : ∀ y : Nat, y < 16 → ∀ w : World, (Instr.slice 9 (.string (ByteArray.mk #[48, 49, 50, 51, 52, 53, 54, 55, 56, 57, 97, 98, 99, 100, 101, 102])) (some (.int .u8 (y : Int))) (some (.int .u8 ((y : Int) + 1))) none).run Try.prog w = .ok (.string ⟨(hd y).toArray⟩) w := fun y hy w => by
        have e := run_slice_string (P := Try.prog) w 9 (ByteArray.mk #[48, 49, 50, 51, 52, 53, 54, 55, 56, 57, 97, 98, 99, 100, 101, 102]) .u8 .u8 (y : Int) ((y : Int) + 1) Try.underlying9 (Int.natCast_nonneg y) (by omega) (by show (y : Int) + 1 ≤ 16; omega)
        rw [e, show ((y : Int) + 1).toNat = y + 1 by omega, Int.toNat_natCast, ext_digit y hy]
      have hd1 : ∀ y, (hd y).length ≤ 1 := fun y => by unfold hd; rw [List.length_take]; omega
      have hx1 : ∀ l : List UInt8, (hxs l).length ≤ 2 * l.length := fun l => by
        induction l with
        | nil => exact Nat.le_refl _
        | cons c r ih =>
          have a1 := hd1 (c.toNat / 16)
          have a2 := hd1 (c.toNat % 16)
          have e : hxs (c :: r) = (hd (c.toNat / 16) ++ hd (c.toNat % 16)) ++ hxs r := rfl
          rw [e, List.length_append, List.length_append, List.length_cons]; omega
      have hxk := hx1 ((sb s).take k)
      rw [List.length_take] at hxk
      have p1 : ∀ w, (Op.stringOp .add (ByteArray.mk (hxs ((sb s).take k)).toArray) (ByteArray.mk (hd (x / 16)).toArray)).run Try.prog w = .ok (.string ⟨(hxs ((sb s).take k) ++ hd (x / 16)).toArray⟩) w := fun w => by
        rw [run_string_add_sum _ _ _ (by have := hd1 (x / 16); show (hxs _).length + (hd _).length ≤ _; omega), mk_append]
      have p2 : ∀ w, (Op.stringOp .add (ByteArray.mk (hxs ((sb s).take k) ++ hd (x / 16)).toArray) (ByteArray.mk (hd (x % 16)).toArray)).run Try.prog w = .ok (.string ⟨(hxs ((sb s).take (k + 1))).toArray⟩) w := fun w => by
        rw [run_string_add_sum _ _ _ (by have := hd1 (x / 16); have := hd1 (x % 16); show (hxs _ ++ hd _).length + (hd _).length ≤ _; rw [List.length_append]; omega), mk_append, hxs_take _ _ (by rw [HE.out.2]; exact hlt), HX.out, List.append_assoc]
      have s1 := sd (x / 16) (by omega)
      have s2 := sd (x % 16) (by omega)
      have c1 : ((x / 16 : Nat) : Int) = (x : Int) / 16 := by omega
      have c2 : ((x % 16 : Nat) : Int) = (x : Int) % 16 := by omega
      have b1 : IntKind.u8.wrap ((x : Int) / 16 + 1) = (x : Int) / 16 + 1 := IntWalk.u8_in _ (by omega)
      have b2 : IntKind.u8.wrap ((x : Int) % 16 + 1) = (x : Int) % 16 + 1 := IntWalk.u8_in _ (by omega)
      have b3 : IntKind.u8.wrap ((x : Int) / 16) = (x : Int) / 16 := IntWalk.u8_in _ (by omega)
      have b4 : IntKind.u8.wrap ((x : Int) % 16) = (x : Int) % 16 := IntWalk.u8_in _ (by omega)
      rw [c1] at s1
      rw [c2] at s2
      clear hB sd c1 c2 hd1 hx1 hxk
      go_wp2_with fail
      go_quiet (fail)
      go_wp2
      go_roundg g3
      case measure => omega
      case rel => exact ⟨k + 1, by omega, by go_num, rfl, below_drewN HB.out nq⟩
    · obtain rfl : k = n := by omega
      rw [List.take_of_length_le (Nat.le_of_eq HE.out.2)]
      have HB := hide hB
      clear hB
      go_wp2_with fail
      go_ret
      exact ⟨rfl, HB.out⟩

def sA : ByteArray := ⟨(hxs (sum 0 [])).toArray⟩
def sB : ByteArray := ⟨(hxs (sum 0 [97, 98, 99])).toArray⟩
theorem hx_empty : hxs (sum 0 []) = [54, 57, 50, 49, 55, 97, 51, 48, 55, 57, 57, 48, 56, 48, 57, 52, 101, 49, 49, 49, 50, 49, 100, 48, 52, 50, 51, 53, 52, 97, 55, 99, 49, 102, 53, 53, 98, 54, 52, 56, 50, 99, 97, 49, 97, 53, 49, 101, 49, 98, 50, 53, 48, 100, 102, 100, 49, 101, 100, 48, 101, 101, 102, 57] := by rw [sum_empty]; kernel_rfl
theorem hx_abc : hxs (sum 0 [97, 98, 99]) = [53, 48, 56, 99, 53, 101, 56, 99, 51, 50, 55, 99, 49, 52, 101, 50, 101, 49, 97, 55, 50, 98, 97, 51, 52, 101, 101, 98, 52, 53, 50, 102, 51, 55, 52, 53, 56, 98, 50, 48, 57, 101, 100, 54, 51, 97, 50, 57, 52, 100, 57, 57, 57, 98, 52, 99, 56, 54, 54, 55, 53, 57, 56, 50] := by rw [sum_abc]; kernel_rfl
theorem sA_size : sA.size = 64 := by rw [← sb_length]; unfold sA; rw [sb_mk, hx_empty]; kernel_rfl
theorem sB_size : sB.size = 64 := by rw [← sb_length]; unfold sB; rw [sb_mk, hx_abc]; kernel_rfl
set_option maxRecDepth 10000 in
theorem sA_16 : sA.extract 0 16 = ByteArray.mk #[54, 57, 50, 49, 55, 97, 51, 48, 55, 57, 57, 48, 56, 48, 57, 52] := by
  unfold sA; rw [hx_empty]; exact ByteArray.extract_mk _ 0 16
set_option maxRecDepth 10000 in
theorem sB_16 : sB.extract 0 16 = ByteArray.mk #[53, 48, 56, 99, 53, 101, 56, 99, 51, 50, 55, 99, 49, 52, 101, 50] := by
  unfold sB; rw [hx_abc]; exact ByteArray.extract_mk _ 0 16
set_option maxRecDepth 10000 in
theorem sB_8 : sB.extract 56 64 = ByteArray.mk #[56, 54, 54, 55, 53, 57, 56, 50] := by
  unfold sB; rw [hx_abc]; exact ByteArray.extract_mk _ 56 64

set_option maxRecDepth 100000 in
set_option maxHeartbeats 4000000 in
theorem works_any (w : World) : Calls Try.prog 9 #[] w fun e w' => e = .returned (.bool true) ∧ Below w.heap.size w w' := by
  have c1 : (ByteArray.mk (hxs (sb (dg 0 (sb ⟨#[]⟩)))).toArray) = sA := rfl
  have c2 : (ByteArray.mk (hxs (sb (dg 0 (sb ⟨#[97, 98, 99]⟩)))).toArray) = sB := rfl
  have hm : ByteArray.mk (List.replicate 33 (107 : UInt8)).toArray = ByteArray.mk (List.replicate 33 (107 : UInt8)).toArray := rfl
  obtain ⟨K, eK⟩ : ∃ K : ByteArray, ByteArray.mk (List.replicate 33 (107 : UInt8)).toArray = K := ⟨_, rfl⟩
  have lK : K.size = 33 := by rw [← eK]; rfl
  have vK : kyv K ⟨#[]⟩ = ⟨#[]⟩ := by unfold kyv; rw [if_pos (by omega)]
  have wK : kye K = 1 := by unfold kye; rw [if_pos (by omega)]
  obtain ⟨A, eA⟩ : ∃ A, sA = A := ⟨_, rfl⟩
  obtain ⟨B, eB⟩ : ∃ B, sB = B := ⟨_, rfl⟩
  have a1 : A.size = 64 := eA ▸ sA_size
  have b1 : B.size = 64 := eB ▸ sB_size
  have a2 := eA ▸ sA_16
  have b2 := eB ▸ sB_16
  have b3 := eB ▸ sB_8
  have C1 := hide (c1.trans eA)
  have C2 := hide (c2.trans eB)
  have HK := hide (And.intro eK (And.intro lK (And.intro vK wK)))
  clear c1 c2 hm eK lK vK wK eA eB
  go_enter Try.func9, Try.ntmps9
  go_wp2_with fail
  refine (bsum_any ⟨#[]⟩ _ (by decide)).mono ?_
  rintro e w1 ⟨rfl, h1⟩
  have H1 := hide h1
  clear h1
  go_wp2_with fail
  refine (hex_any _ _ (by rw [dg_size]; decide)).mono ?_
  rintro e w2 ⟨rfl, h2⟩
  rw [C1.out]
  have H2 := hide (H1.out.trans (h2.mono H1.out.size))
  clear h2
  go_wp2_with fail
  refine (bsum_any ⟨#[97, 98, 99]⟩ _ (by decide)).mono ?_
  rintro e w3 ⟨rfl, h3⟩
  have H3 := hide (H2.out.trans (h3.mono H2.out.size))
  clear h3
  go_wp2_with fail
  refine (hex_any _ _ (by rw [dg_size]; decide)).mono ?_
  rintro e w4 ⟨rfl, h4⟩
  rw [C2.out]
  have H4 := hide (H3.out.trans (h4.mono H3.out.size))
  clear h4
  go_wp2_with fail
  refine (many_any 33 107 _ (by decide)).mono ?_
  rintro e w5 ⟨rfl, h5⟩
  rw [HK.out.1]
  have H5 := hide (H4.out.trans (h5.mono H4.out.size))
  clear h5
  go_wp2_with fail
  refine (keyed_any K ⟨#[]⟩ _ (by rw [HK.out.2.1]; decide) (by decide)).mono ?_
  rintro e w6 ⟨rfl, h6⟩
  rw [HK.out.2.2.1, HK.out.2.2.2]
  have H6 := hide (H5.out.trans (h6.mono H5.out.size))
  clear h6
  go_wp2_with fail
  go_ret
  exact ⟨rfl, H6.out⟩
end Go.Proofs.Ytlpnneghlomakaa
