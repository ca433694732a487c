/- The program's tag: a number in two bytes, parts behind one another, the text, the tag, and whether a text is a tag; walked. For data of at most 100000 bytes. -/
import Derived.Test.YtjdgaolailfplaaBArgs
import Derived.Test.YtjdgaolailfplaaTBld
namespace Go.Proofs.Ytjdgaolailfplaa
open Go.RowKit Bk
set_option linter.unusedVariables false
set_option linter.unusedSimpArgs false

/-- A number in two bytes. -/
def tb (n : Nat) : List UInt8 := [UInt8.ofNat (n / 256), UInt8.ofNat (n % 256)]
theorem tb_bs (n : Nat) (hn : n ≤ 65535) : (#[.int .u8 ((n : Int) / 256), .int .u8 ((n : Int) % 256)] : Array Value) = (bs (tb n)).toArray := by
  have h1 : (UInt8.ofNat (n / 256)).toNat = n / 256 := by simp; omega
  have h2 : (UInt8.ofNat (n % 256)).toNat = n % 256 := by simp
  simp only [tb, bs, List.map_cons, List.map_nil, h1, h2]
  simp

set_option maxRecDepth 100000 in
theorem twoBytes_any (n : Nat) (w : World) (hn : n ≤ 65535) : Calls Try.prog 18 #[.int .i64 n] w fun e w' => e = .returned (.string ⟨(tb n).toArray⟩) ∧ Below w.heap.size w w' := by
  have h1 : (n : Int) ≤ 65535 := by omega
  obtain ⟨W, eW, hB, hR⟩ : ∃ W, w.alloc (.cells #[.int .u8 ((n : Int) / 256), .int .u8 ((n : Int) % 256)] 5) = W ∧ Below w.heap.size w W ∧ Row W w.heap.size 0 (bs (tb n)) :=
    ⟨_, rfl, (Below.refl _ w).alloc (Nat.le_refl _) _, by rw [tb_bs n hn]; exact Row.newL _ _ _⟩
  have hx := run_textR (P := Try.prog) W 31 9 5 (c := 2) (n := 2) (l := tb n) Try.underlying31 Try.underlying5 Try.underlying9 w.heap.size 0 rfl rfl hR.cell
  clear hR
  go_enter Try.func18, Try.ntmps18
  go_wp2
  go_ret
  exact ⟨rfl, hB⟩

theorem isNumber_any (n : Int) (w : World) : Calls Try.prog 16 #[.int .i64 n] w fun e w' => e = .returned (.bool (decide (0 ≤ n) && decide (n ≤ 65535))) ∧ w' = w := by
  by_cases h : 0 ≤ n
  · go_enter Try.func16, Try.ntmps16
    go_wp2
    go_ret
    exact ⟨by simp [h], rfl⟩
  · go_enter Try.func16, Try.ntmps16
    go_wp2
    go_ret
    exact ⟨by rw [decide_eq_false (Int.not_le.2 h)]; rfl, rfl⟩

/-- The first k of some texts, put together. -/
def catK (K : Nat → ByteArray) : Nat → List UInt8
  | 0 => []
  | k + 1 => catK K k ++ sb (K k)
theorem catK_le (K : Nat → ByteArray) {j k : Nat} (h : j ≤ k) : (catK K j).length ≤ (catK K k).length := by
  induction k with
  | zero => obtain rfl : j = 0 := by omega
            exact Nat.le_refl _
  | succ k ih =>
    by_cases e : j = k + 1
    · subst e; exact Nat.le_refl _
    · have := ih (by omega)
      simp only [catK, List.length_append]; omega

set_option maxRecDepth 100000 in
set_option maxHeartbeats 4000000 in
theorem joined_any (b n c : Nat) (K : Nat → ByteArray) (w : World) (hb : b < w.heap.size) (hc : ∀ j, j < n → w.cell? ⟨b, j, none⟩ = some (.string (K j))) (hn : n ≤ 1000) (h0 : catK K n ≠ []) (hs : (catK K n).length ≤ 140737488355328) :
    Calls Try.prog 17 #[.slice (some ⟨b, 0, none⟩) n c] w fun e w' => e = .returned (.string ⟨(catK K n).toArray⟩) ∧ Below w.heap.size w w' := by
  have HC := hide hc
  have H0 := hide h0
  have HS := hide hs
  clear hc h0 hs
  go_enter Try.func17, Try.ntmps17
  go_wp2_with fail
  go_loopg [5, 8] n (fun g _ t wr => ∃ k : Nat, k + g = n ∧ t = .int .i64 k ∧ Lib.IsBuilder 49 5 w.heap.size w.heap.size (Lib.byteCells (catK K k)) wr ∧ Below w.heap.size w wr)
  case atStart => exact ⟨0, by omega, rfl, Lib.fresh_isBuilder _ _ _, (Below.refl _ w).alloc (Nat.le_refl _) _⟩
  case round =>
    obtain ⟨k, hkg, rfl, hI, hB⟩ := hrel
    by_cases hlt : k < n
    · have hltI : (k : Int) < (n : Int) := by omega
      obtain ⟨g3, rfl⟩ : ∃ g3, gk = g3 + 1 := ⟨gk - 1, by omega⟩
      have hck := (hB.cell (p := ⟨b, k, none⟩) hb).trans (HC.out k hlt)
      have hkk := catK_le K (show k + 1 ≤ n by omega)
      simp only [catK, List.length_append, sb_length] at hkk
      obtain ⟨x, ex⟩ : ∃ x, K k = x := ⟨_, rfl⟩
      rw [ex] at hck hkk
      have HX := hide ex
      have HI := hide hI
      have HB := hide hB
      have HL := hide (show (Lib.byteCells (catK K k)).length + x.size ≤ 140737488355328 by have := HS.out; rw [Lib.byteCells_length]; omega)
      clear ex hI hB hkk
      go_wp2_with fail
      refine (bwrite_any w.heap.size w.heap.size _ x _ HI.out HL.out HB.out.size).mono ?_
      rintro e w1 ⟨rfl, hI1, hB1⟩
      have HI1 := hide hI1
      have HB1 := hide (HB.out.trans hB1)
      clear hI1 hB1
      go_wp2_with fail
      go_roundg g3
      case measure => omega
      case rel =>
        refine ⟨k + 1, by omega, by go_num, ?_, HB1.out⟩
        have e1 : Lib.byteCells (catK K (k + 1)) = Lib.byteCells (catK K k) ++ Lib.strCells x := by
          simp only [catK, Lib.byteCells, Lib.strCells, List.map_append, HX.out, sb]
        rw [e1]
        exact HI1.out
    · obtain rfl : k = n := by omega
      have HI := hide hI
      have HB := hide hB
      clear hI hB
      go_wp2_with fail
      refine (bstring_any w.heap.size w.heap.size _ _ HI.out H0.out).mono ?_
      rintro e w1 ⟨rfl, hB1⟩
      have HB1 := hide (HB.out.trans hB1)
      clear hB1
      go_wp2_with fail
      go_ret
      exact ⟨rfl, HB1.out⟩

/-- What may be: an ID of 16 bytes, and two numbers of two bytes. -/
abbrev okOf (id : ByteArray) (v s : Int) : Prop := id.size = 16 ∧ (0 ≤ v ∧ v ≤ 65535) ∧ (0 ≤ s ∧ s ≤ 65535)
def txl (id : ByteArray) (v s : Int) (d : ByteArray) : List UInt8 := sb id ++ tb v.toNat ++ tb s.toNat ++ sb d
/-- The text, the tag, and the error. -/
def otx (id : ByteArray) (v s : Int) (d : ByteArray) : ByteArray := if okOf id v s then ⟨(txl id v s d).toArray⟩ else ⟨#[]⟩
def oer (id : ByteArray) (v s : Int) : Int := if okOf id v s then 0 else 1

set_option maxRecDepth 100000 in
set_option maxHeartbeats 4000000 in
theorem text_bad (id : ByteArray) (v s : Int) (d : ByteArray) (w : World) (h : ¬ okOf id v s) :
    Calls Try.prog 11 #[.agg #[.string id, .int .i64 v, .int .i64 s, .string d]] w fun e w' => e = .returned (.tuple #[.string ⟨#[]⟩, .int .i64 1]) ∧ Below w.heap.size w w' := by
  by_cases h1 : id.size = 16
  · have h1I : (id.size : Int) = 16 := by omega
    have h1b : (Value.int .i64 (id.size : Int)) = .int .i64 16 := by rw [h1I]
    by_cases h2 : 0 ≤ v ∧ v ≤ 65535
    · have h3 : (decide (0 ≤ s) && decide (s ≤ 65535)) = false := by
        unfold okOf at h
        by_cases a : 0 ≤ s
        · by_cases b : s ≤ 65535
          · exact absurd ⟨h1, h2, a, b⟩ h
          · simp [b]
        · simp [a]
      have h2' : (decide (0 ≤ v) && decide (v ≤ 65535)) = true := by simp [h2]
      clear h h1 h2
      go_enter Try.func11, Try.ntmps11
      go_wp2_with fail
      refine (isNumber_any v _).mono ?_
      rintro e w1 ⟨rfl, hw1⟩
      obtain rfl := hw1.symm
      rw [h2']
      go_wp2_with fail
      refine (isNumber_any s _).mono ?_
      rintro e w1 ⟨rfl, hw1⟩
      obtain rfl := hw1.symm
      rw [h3]
      go_wp2_with fail
      go_ret2
      exact ⟨rfl, (Below.refl _ w).alloc (Nat.le_refl _) _⟩
    · have h3 : (decide (0 ≤ v) && decide (v ≤ 65535)) = false := by
        by_cases a : 0 ≤ v
        · by_cases b : v ≤ 65535
          · exact absurd ⟨a, b⟩ h2
          · simp [b]
        · simp [a]
      clear h h1 h2
      go_enter Try.func11, Try.ntmps11
      go_wp2_with fail
      refine (isNumber_any v _).mono ?_
      rintro e w1 ⟨rfl, hw1⟩
      obtain rfl := hw1.symm
      rw [h3]
      go_wp2_with fail
      go_ret2
      exact ⟨rfl, (Below.refl _ w).alloc (Nat.le_refl _) _⟩
  · have h1I : ¬ ((id.size : Int) = 16) := by omega
    have h1b : ((id.size : Int) != 16) = true := by simpa using h1I
    clear h h1
    go_enter Try.func11, Try.ntmps11
    go_wp2_with fail
    go_ret2
    exact ⟨rfl, (Below.refl _ w).alloc (Nat.le_refl _) _⟩

/-- The four parts, as the walk joins them. -/
def Kt (id : ByteArray) (v s : Nat) (d : ByteArray) (j : Nat) : ByteArray := if j = 0 then id else if j = 1 then ⟨(tb v).toArray⟩ else if j = 2 then ⟨(tb s).toArray⟩ else d
theorem Kt_cat (id : ByteArray) (v s : Nat) (d : ByteArray) : catK (Kt id v s d) 4 = txl id v s d := by
  simp [catK, Kt, txl, sb_mk]
theorem txl_length (id : ByteArray) (v s : Int) (d : ByteArray) : (txl id v s d).length = id.size + 4 + d.size := by
  simp [txl, tb, sb_length]; omega

set_option maxRecDepth 100000 in
set_option maxHeartbeats 8000000 in
theorem text_good (id : ByteArray) (v s : Nat) (d : ByteArray) (w : World) (h : id.size = 16) (hv : v ≤ 65535) (hs : s ≤ 65535) (hd : d.size ≤ 100000) :
    Calls Try.prog 11 #[.agg #[.string id, .int .i64 v, .int .i64 s, .string d]] w fun e w' => e = .returned (.tuple #[.string ⟨(txl id v s d).toArray⟩, .int .i64 0]) ∧ Below w.heap.size w w' := by
  have h1I : (id.size : Int) = 16 := by omega
  have h2' : (decide (0 ≤ (v : Int)) && decide ((v : Int) ≤ 65535)) = true := by simp; omega
  have h3' : (decide (0 ≤ (s : Int)) && decide ((s : Int) ≤ 65535)) = true := by simp; omega
  have HD := hide (show id.size + 4 + d.size ≤ 140737488355328 by omega)
  obtain ⟨W, eW, hB, hR⟩ : ∃ W, w.alloc (.cells #[.string id, .int .i64 (v : Int), .int .i64 (s : Int), .string d] 23) = W ∧ Below w.heap.size w W ∧ Row W w.heap.size 0 [.string id, .int .i64 (v : Int), .int .i64 (s : Int), .string d] :=
    ⟨_, rfl, (Below.refl _ w).alloc (Nat.le_refl _) _, Row.newL _ _ _⟩
  have hlt : w.heap.size < W.drew.heap.size := hR.lt
  have c0 : W.drew.cell? ⟨w.heap.size, 0, none⟩ = some (.string id) := hR.drew.at' (j := 0) rfl
  have c1 : W.drew.cell? ⟨w.heap.size, 1, none⟩ = some (.int .i64 (v : Int)) := by have h5 := hR.drew.at' (j := 1) rfl; rwa [Nat.zero_add] at h5
  have c2 : W.drew.cell? ⟨w.heap.size, 2, none⟩ = some (.int .i64 (s : Int)) := by have h5 := hR.drew.at' (j := 2) rfl; rwa [Nat.zero_add] at h5
  have c3 : W.drew.cell? ⟨w.heap.size, 3, none⟩ = some (.string d) := by have h5 := hR.drew.at' (j := 3) rfl; rwa [Nat.zero_add] at h5
  have HC : Hid (∀ x : World, Below W.drew.heap.size W.drew x → x.cell? ⟨w.heap.size, 0, none⟩ = some (.string id) ∧ x.cell? ⟨w.heap.size, 1, none⟩ = some (.int .i64 (v : Int)) ∧ x.cell? ⟨w.heap.size, 2, none⟩ = some (.int .i64 (s : Int)) ∧ x.cell? ⟨w.heap.size, 3, none⟩ = some (.string d)) := hide (fun x hx =>
    ⟨(hx.cell (p := ⟨w.heap.size, 0, none⟩) hlt).trans c0, (hx.cell (p := ⟨w.heap.size, 1, none⟩) hlt).trans c1, (hx.cell (p := ⟨w.heap.size, 2, none⟩) hlt).trans c2, (hx.cell (p := ⟨w.heap.size, 3, none⟩) hlt).trans c3⟩)
  have HX := hide (Below.refl W.drew.heap.size W.drew)
  have HB := hide hB
  have hd0 : W.cell? ⟨w.heap.size, 0, none⟩ = some (.string id) := c0
  have hd1 : W.cell? ⟨w.heap.size, 1, none⟩ = some (.int .i64 (v : Int)) := c1
  have hd2 : W.cell? ⟨w.heap.size, 2, none⟩ = some (.int .i64 (s : Int)) := c2
  clear h hB hR c0 c1 c2 c3 hlt hd
  go_enter Try.func11, Try.ntmps11
  go_wp2_with fail
  refine (isNumber_any v _).mono ?_
  rintro e w1 ⟨rfl, hw1⟩
  obtain rfl := hw1.symm
  rw [h2']
  go_wp2_with fail
  refine (isNumber_any s _).mono ?_
  rintro e w1 ⟨rfl, hw1⟩
  obtain rfl := hw1.symm
  rw [h3']
  go_wp2_with fail
  refine wp_region_ord (fun w9 => w9.cell? ⟨w.heap.size, 0, none⟩ = some (.string id) ∧ w9.cell? ⟨w.heap.size, 1, none⟩ = some (.int .i64 (v : Int)) ∧ w9.cell? ⟨w.heap.size, 2, none⟩ = some (.int .i64 (s : Int)) ∧ w9.cell? ⟨w.heap.size, 3, none⟩ = some (.string d)) 12 [(0, some true), (2, some true), (5, some true), (8, some true), (1, some false), (3, some false), (6, some false), (9, some false), (4, none), (7, none), (10, none), (11, none), (12, none), (13, none)] (by kernel_rfl) (by kernel_rfl) (fun _ _ _ _ h => h) (HC.out _ HX.out) ?_
  refine ord_pure (o := ⟨some 20, _, _, _, _, _⟩) (.pointer (some ⟨w.heap.size, 0, none⟩)) rfl (by kernel_rfl) (fun w9 => by go_simp) ?_
  simp only [Act.put, List.setIfInBounds_toArray, List.set_cons_zero, List.set_cons_succ]
  refine ord_pure (o := ⟨some 22, _, _, _, _, _⟩) (.pointer (some ⟨w.heap.size, 1, none⟩)) rfl (by kernel_rfl) (fun w9 => by go_simp) ?_
  simp only [Act.put, List.setIfInBounds_toArray, List.set_cons_zero, List.set_cons_succ]
  refine ord_pure (o := ⟨some 25, _, _, _, _, _⟩) (.pointer (some ⟨w.heap.size, 2, none⟩)) rfl (by kernel_rfl) (fun w9 => by go_simp) ?_
  simp only [Act.put, List.setIfInBounds_toArray, List.set_cons_zero, List.set_cons_succ]
  refine ord_pure (o := ⟨some 28, _, _, _, _, _⟩) (.pointer (some ⟨w.heap.size, 3, none⟩)) rfl (by kernel_rfl) (fun w9 => by go_simp) ?_
  simp only [Act.put, List.setIfInBounds_toArray, List.set_cons_zero, List.set_cons_succ]
  refine ord_held (o := ⟨some 21, _, _, _, _, _⟩) (.string id) rfl (by kernel_rfl) (fun w9 h9 => by have h8 := h9.1; go_simp) ?_
  simp only [Act.put, List.setIfInBounds_toArray, List.set_cons_zero, List.set_cons_succ]
  refine ord_held (o := ⟨some 23, _, _, _, _, _⟩) (.int .i64 (v : Int)) rfl (by kernel_rfl) (fun w9 h9 => by have h8 := h9.2.1; go_simp) ?_
  simp only [Act.put, List.setIfInBounds_toArray, List.set_cons_zero, List.set_cons_succ]
  refine ord_held (o := ⟨some 26, _, _, _, _, _⟩) (.int .i64 (s : Int)) rfl (by kernel_rfl) (fun w9 h9 => by have h8 := h9.2.2.1; go_simp) ?_
  simp only [Act.put, List.setIfInBounds_toArray, List.set_cons_zero, List.set_cons_succ]
  refine ord_held (o := ⟨some 29, _, _, _, _, _⟩) (.string d) rfl (by kernel_rfl) (fun w9 h9 => by have h8 := h9.2.2.2; go_simp) ?_
  simp only [Act.put, List.setIfInBounds_toArray, List.set_cons_zero, List.set_cons_succ]
  refine ord_go rfl (fun K9 hK => ?_)
  go_simp
  go_wp2_with fail
  refine (twoBytes_any v _ hv).mono ?_
  rintro e w1 ⟨rfl, hB1⟩
  have HB1 := hide (HB.out.drew.trans (hB1.mono HB.out.drew.size))
  have HX1 := hide (HX.out.trans hB1)
  clear hB1
  dsimp only
  refine hK.out _ _ (fun _ => HC.out _ HX1.out) ?_
  clear hK K9
  refine ord_go rfl (fun K9 hK => ?_)
  go_simp
  go_wp2_with fail
  refine (twoBytes_any s _ hs).mono ?_
  rintro e w2 ⟨rfl, hB2⟩
  have HB2 := hide (HB1.out.trans (hB2.mono HB1.out.size))
  have HX2 := hide (HX1.out.trans (hB2.mono HX1.out.size))
  clear hB2 HB1 HX1
  dsimp only
  refine hK.out _ _ (fun _ => HC.out _ HX2.out) ?_
  clear hK K9
  refine ord_go rfl (fun K9 hK => ?_)
  go_simp
  refine hK.out _ _ (fun _ => HC.out _ (HX2.out.alloc HX2.out.size _)) ?_
  clear hK K9
  refine ord_go rfl (fun K9 hK => ?_)
  go_simp
  go_wp2_with fail
  refine (joined_any w2.heap.size 4 4 (Kt id v s d) _ ?hb ?hc (by decide) ?h0 ?hs).mono ?_
  case hb => simp
  case hc =>
    intro j hj
    have hr := (Row.newL w2 [.string id, .string ⟨(tb v).toArray⟩, .string ⟨(tb s).toArray⟩, .string d] 9)
    have h5 := hr.at' (j := j) (v := .string (Kt id v s d j)) (by
      match j, hj with
      | 0, _ => rfl
      | 1, _ => rfl
      | 2, _ => rfl
      | 3, _ => rfl)
    rw [Nat.zero_add] at h5
    exact h5
  case h0 => rw [Kt_cat]; intro h9; have := congrArg List.length h9; rw [txl_length] at this; simp at this
  case hs => rw [Kt_cat, txl_length]; have := HD.out; omega
  rintro e w3 ⟨rfl, hB3⟩
  rw [Kt_cat]
  have HB3 := hide ((HB2.out.alloc HB2.out.size (.cells #[.string id, .string ⟨(tb v).toArray⟩, .string ⟨(tb s).toArray⟩, .string d] 9)).trans (hB3.mono (HB2.out.alloc HB2.out.size (.cells #[.string id, .string ⟨(tb v).toArray⟩, .string ⟨(tb s).toArray⟩, .string d] 9)).size))
  have HX3 := hide ((HX2.out.alloc HX2.out.size (.cells #[.string id, .string ⟨(tb v).toArray⟩, .string ⟨(tb s).toArray⟩, .string d] 9)).trans (hB3.mono (HX2.out.alloc HX2.out.size (.cells #[.string id, .string ⟨(tb v).toArray⟩, .string ⟨(tb s).toArray⟩, .string d] 9)).size))
  clear hB3 HB2 HX2
  dsimp only
  refine hK.out _ _ (fun _ => HC.out _ HX3.out) ?_
  clear hK K9
  refine ord_go rfl (fun K9 hK => ?_)
  go_simp
  refine hK.out _ _ (fun h => by cases h) ?_
  clear hK K9
  refine ord_go rfl (fun K9 hK => ?_)
  go_simp
  refine hK.out _ _ (fun h => by cases h) ?_
  clear hK K9
  refine ord_end ?_
  go_wp2_with fail
  go_ret2
  exact ⟨rfl, HB3.out⟩
end Go.Proofs.Ytjdgaolailfplaa
