/- New, Copy and Sum of a hash, walked. For a hash that has taken in fewer than 2 to the power of 62 bytes. -/
import Derived.Test.YtjdgaolailfplaaBHash
namespace Go.Proofs.Ytjdgaolailfplaa
open Go.RowKit Bk
set_option linter.unusedVariables false
set_option linter.unusedSimpArgs false

theorem built_hash (k : Nat) : Try.prog.built 61 [(0, .agg (stv (h0 k) 0).toArray)] = some (hcs (h0 k) 0 none 0).toArray := by kernel_rfl
theorem Hs.first {w : World} (h : List Nat) (b : Nat) (hr : Row w b 0 (hcs h 0 none 0)) (ht : Ty w b) : Hs w b h [] := ⟨ht, none, hr, Sb.nil w⟩

set_option maxRecDepth 100000 in
set_option maxHeartbeats 4000000 in
theorem new_any (w : World) : Calls Try.prog 20 #[] w fun e w' => ∃ b, e = .returned (.pointer (some ⟨b, 0, none⟩)) ∧ w.heap.size ≤ b ∧ Hs w' b (h0 0) [] ∧ Below w.heap.size w w' := by
  go_enter Try.func20, Try.ntmps20
  go_wp2_with fail
  refine (begin_any 0 _ (by omega)).mono ?_
  rintro e w1 ⟨rfl, hB⟩
  have HB := hide hB
  clear hB
  go_wp2_with (refine wpList_buildL (op := ⟨some 2, _, _, _, _, _⟩) rfl 61 _ rfl (hcs (h0 0) 0 none 0) (built_hash 0) ?_)
  go_ret
  exact ⟨_, rfl, HB.out.size, Hs.first _ _ (Row.newL w1 _ _) ⟨_, _, heap_alloc_last w1 _⟩, HB.out.alloc HB.out.size _⟩

theorem Hs.row {w : World} {b : Nat} {h : List Nat} {l : List UInt8} (H : Hs w b h l) (h8 : h.length = 8) (lh : Lt h) :
    ∃ a N T n, Row w b 0 (stv N T) ∧ Row w b 9 [.slice a n n] ∧ Sb w a n n (lf l) ∧ Row w b 0 (hcs N T a n) ∧ N.length = 8 ∧ Lt N ∧ N = hst h l ∧ T = 64 * qn l.length ∧ n = (lf l).length := by
  obtain ⟨a, hr, hs⟩ := H.ex
  have n8 : (hst h l).length = 8 := st_length h8 _ _
  refine ⟨a, hst h l, 64 * qn l.length, (lf l).length, hr.left, ?_, hs, hr, n8, st_lt lh _ _, rfl, rfl, rfl⟩
  have k : Row w b (0 + (stv (hst h l) (64 * qn l.length)).length) [.slice a (lf l).length (lf l).length] := hr.right
  rwa [stv_length, n8] at k
theorem nums_fill (l : List UInt8) : nums (fill64 l []) = nums l := by
  apply nums_ext
  intro j hj
  unfold fill64
  by_cases e : j < l.length
  · rw [by_app _ _ _ e]
  · rw [by_app2 _ _ _ (by omega), by_out l j (by omega)]
    simp only [List.nil_append]
    unfold by'
    simp [List.getD_eq_getElem?_getD, List.getElem?_replicate]
    split <;> rfl
theorem hsum_eq (h : List Nat) (l : List UInt8) : cmp (hst h l) (64 * qn l.length + (lf l).length) (nums (fill64 (lf l) [])) true = fin h l := by
  have := qn_le l.length
  rw [nums_fill, lf_length, show 64 * qn l.length + (l.length - 64 * qn l.length) = l.length by omega]
  rfl

set_option maxRecDepth 100000 in
set_option maxHeartbeats 4000000 in
theorem hsum_any {w : World} {b : Nat} {h : List Nat} {l : List UInt8} (H : Hs w b h l) (h8 : h.length = 8) (lh : Lt h) (hl : l.length < 4611686018427387904) :
    Calls Try.prog 22 #[.pointer (some ⟨b, 0, none⟩)] w fun e w' => e = .returned (.string ⟨(dig (fin h l) 8).toArray⟩) ∧ Below w.heap.size w w' := by
  obtain ⟨a, N, T, n, r1, r2, hs, hr, nN, lN, eN, eT, en⟩ := (H.drew).row h8 lh
  have hq := qn_le l.length
  have hn64 : n ≤ 64 := en ▸ lf_le l
  have hTn : T + n = l.length := by rw [eT, en, lf_length]; omega
  have hfin : cmp N (T + n) (nums (fill64 (lf l) [])) true = fin h l := by rw [eN, eT, en]; exact hsum_eq h l
  obtain ⟨F, eF⟩ : ∃ F, fill64 (lf l) [] = F := ⟨_, rfl⟩
  have lF : F.length = 64 := eF ▸ fill64_length _ _ (by simp; omega)
  rw [eF] at hfin
  obtain ⟨G, eG⟩ : ∃ G, fin h l = G := ⟨_, rfl⟩
  have nG : G.length = 8 := eG ▸ cmp_length _ _ _ _
  have lG : Lt G := eG ▸ cmp_lt (st_lt lh _ _) _ _ _
  rw [eG] at hfin
  have HG := hide eG
  have HLG := hide lG
  have HFI := hide hfin
  have HF := hide eF
  have HS := hide hs
  have HR := hide (And.intro r1 r2)
  have HlN := hide lN
  have hb := hr.lt
  clear eG lG hfin eF eN eT en hs r1 r2 hr H lN hq
  have n64 : (n : Int) ≤ 64 := by omega
  go_enter Try.func22, Try.ntmps22
  go_wp2_with fail
  refine wp_region_ord (fun w9 => Row w9 b 0 (stv N T) ∧ w9.cell? ⟨b, 9, none⟩ = some (.slice a n n)) 16 [(0, some true), (1, some true), (2, some true), (3, some false), (4, some true), (5, some true), (6, some true), (7, some false), (9, some true), (10, some true), (11, some true), (12, some false), (13, some true), (8, none), (14, none), (15, none), (16, none)] (by kernel_rfl) (by kernel_rfl) (fun _ _ _ _ h => h) ⟨HR.out.1, HR.out.2.cell 0 _ rfl⟩ ?_
  refine ord_pure (.pointer (some ⟨b, 0, none⟩)) rfl (by kernel_rfl) (fun w9 => by go_simp) ?_
  simp only [Act.put, List.setIfInBounds_toArray, List.set_cons_zero, List.set_cons_succ]
  refine ord_pure (.pointer (some ⟨b, 0, none⟩)) rfl (by kernel_rfl) (fun w9 => by go_simp) ?_
  simp only [Act.put, List.setIfInBounds_toArray, List.set_cons_zero, List.set_cons_succ]
  refine ord_pure (.pointer (some ⟨b, 0, none⟩)) rfl (by kernel_rfl) (fun w9 => by go_simp) ?_
  simp only [Act.put, List.setIfInBounds_toArray, List.set_cons_zero, List.set_cons_succ]
  refine ord_load 58 (.tmp 8) rfl rfl (by kernel_rfl) rfl _ (fun w9 h9 => h9.1.cell) Try.underlying58 rfl (by rw [stv_length, nN]; kernel_rfl) ?_
  simp only [Act.put, List.setIfInBounds_toArray, List.set_cons_zero, List.set_cons_succ]
  refine ord_pure (.pointer (some ⟨b, 0, none⟩)) rfl (by kernel_rfl) (fun w9 => by go_simp) ?_
  simp only [Act.put, List.setIfInBounds_toArray, List.set_cons_zero, List.set_cons_succ]
  refine ord_pure (.pointer (some ⟨b, 0, none⟩)) rfl (by kernel_rfl) (fun w9 => by go_simp) ?_
  simp only [Act.put, List.setIfInBounds_toArray, List.set_cons_zero, List.set_cons_succ]
  refine ord_pure (.pointer (some ⟨b, 9, none⟩)) rfl (by kernel_rfl) (fun w9 => by go_simp) ?_
  simp only [Act.put, List.setIfInBounds_toArray, List.set_cons_zero, List.set_cons_succ]
  refine ord_held (.slice a n n) rfl (by kernel_rfl) (fun w9 h9 => by have h8 := h9.2; go_simp) ?_
  simp only [Act.put, List.setIfInBounds_toArray, List.set_cons_zero, List.set_cons_succ]
  refine ord_pure (.pointer (some ⟨b, 0, none⟩)) rfl (by kernel_rfl) (fun w9 => by go_simp) ?_
  simp only [Act.put, List.setIfInBounds_toArray, List.set_cons_zero, List.set_cons_succ]
  refine ord_pure (.pointer (some ⟨b, 0, none⟩)) rfl (by kernel_rfl) (fun w9 => by go_simp) ?_
  simp only [Act.put, List.setIfInBounds_toArray, List.set_cons_zero, List.set_cons_succ]
  refine ord_pure (.pointer (some ⟨b, 9, none⟩)) rfl (by kernel_rfl) (fun w9 => by go_simp) ?_
  simp only [Act.put, List.setIfInBounds_toArray, List.set_cons_zero, List.set_cons_succ]
  refine ord_held (.slice a n n) rfl (by kernel_rfl) (fun w9 h9 => by have h8 := h9.2; go_simp) ?_
  simp only [Act.put, List.setIfInBounds_toArray, List.set_cons_zero, List.set_cons_succ]
  refine ord_pure (.int .i64 (n : Int)) rfl (by kernel_rfl) (fun w9 => by go_simp) ?_
  simp only [Act.put, List.setIfInBounds_toArray, List.set_cons_zero, List.set_cons_succ]
  refine ord_go rfl (fun K hK => ?_)
  go_simp
  go_wp2_with fail
  refine (filled_any _ a n n (lf l) _ HS.out (by show n + 0 ≤ 64; omega)).mono ?_
  rintro e w5 ⟨rfl, hB5⟩
  rw [show fill64 (lf l) (sb ⟨#[]⟩) = F from HF.out]
  dsimp only
  have h5 := HR.out.1.below hB5 HR.out.1.lt
  have h5c : w5.cell? ⟨b, 9, none⟩ = some (.slice a n n) := (HR.out.2.below hB5 HR.out.2.lt).cell 0 _ rfl
  refine hK.out _ _ (fun _ => ⟨h5, h5c⟩) ?_
  have HB5 := hide hB5
  have H5 := hide (And.intro h5 h5c)
  clear hK K hB5 h5 h5c
  refine ord_go rfl (fun K hK => ?_)
  go_simp
  go_wp2_with fail
  refine (after_any N T n F true _ nN HlN.out lF (by omega)).mono ?_
  rintro e w6 ⟨rfl, hB6⟩
  rw [HFI.out]
  dsimp only
  have hb5 := H5.out.1.lt
  have h6 := H5.out.1.below hB6 hb5
  have h6c : w6.cell? ⟨b, 9, none⟩ = some (.slice a n n) := (hB6.cell (p := ⟨b, 9, none⟩) hb5).trans H5.out.2
  refine hK.out _ _ (fun _ => ⟨h6, h6c⟩) ?_
  have HB6 := hide hB6
  have H6 := hide (And.intro h6 h6c)
  clear hK K hB6 h6 h6c
  refine ord_go rfl (fun K hK => ?_)
  go_simp
  go_wp2_with fail
  refine (digest_any G _ _ nG HLG.out).mono ?_
  rintro e w7 ⟨rfl, hB7⟩
  dsimp only
  have hb6 := H6.out.1.lt
  have h7 := H6.out.1.below hB7 hb6
  have h7c : w7.cell? ⟨b, 9, none⟩ = some (.slice a n n) := (hB7.cell (p := ⟨b, 9, none⟩) hb6).trans H6.out.2
  refine hK.out _ _ (fun _ => ⟨h7, h7c⟩) ?_
  have HB7 := hide hB7
  clear hK K hB7 h7 h7c
  refine ord_go rfl (fun K hK => ?_)
  go_simp
  refine hK.out _ _ (fun h => by cases h) ?_
  clear hK K
  refine ord_end ?_
  go_wp2_with fail
  go_ret
  refine ⟨congrArg (fun z => Ending.returned (.string ⟨(dig z 8).toArray⟩)) HG.out.symm, ?_⟩
  have k5 := HB5.out
  have k6 := HB6.out
  have k7 := HB7.out
  have q5 : Below w.heap.size w w5 := (Below.refl w.heap.size w).drew.trans k5
  have q6 := q5.trans (k6.mono q5.size)
  exact q6.trans (k7.mono q6.size)
end Go.Proofs.Ytjdgaolailfplaa
