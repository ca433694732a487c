/- Copy, Sum and Keyed of bytes, and the calls on nil, walked. For fewer than 2 to the power of 61 bytes. -/
import Derived.Test.YtlpnneghlomakaaHAdd
namespace Go.Proofs.Ytlpnneghlomakaa
open Go.RowKit Bk
set_option linter.unusedVariables false
set_option linter.unusedSimpArgs false

/-- What is summed by a key: the key, filled up to a block, ahead of the bytes. -/
def kd (k s : List UInt8) : List UInt8 := if k.length = 0 then s else (k ++ List.replicate (64 - k.length) 0) ++ s
/-- A digest, as a string. -/
def dg (k : Nat) (l : List UInt8) : ByteArray := ⟨(sum k l).toArray⟩
theorem sb_dg (k : Nat) (l : List UInt8) : sb (dg k l) = sum k l := rfl
theorem dg_size (k : Nat) (l : List UInt8) : (dg k l).size = 32 := by rw [← sb_length, sb_dg, sum_length]

set_option maxRecDepth 100000 in
set_option maxHeartbeats 4000000 in
theorem hcopy_any {w : World} {b : Nat} {h : List Nat} {l : List UInt8} (H : Hs w b h l) (h8 : h.length = 8) (lh : Lt h) :
    Calls Try.prog 13 #[.pointer (some ⟨b, 0, none⟩)] w fun e w' => ∃ b', e = .returned (.pointer (some ⟨b', 0, none⟩)) ∧ w.heap.size ≤ b' ∧ Hs w' b' h l ∧ Below w.heap.size w w' := by
  obtain ⟨a, N, T, n, r1, r2, hs, hr, nN, lN, eN, eT, en⟩ := H.row h8 lh
  have HE := hide (And.intro eN (And.intro eT en))
  have HR := hide hr
  have HS := hide hs
  have hlen : (hcs N T a n).length = 10 := by rw [hcs_length, nN]
  have hone : ∀ v ∈ hcs N T a n, v.oneCell' = true := by
    intro v hv
    simp only [hcs, List.mem_append, List.mem_singleton] at hv
    rcases hv with hv | rfl
    · exact stv_one hv
    · rfl
  obtain ⟨C, hC⟩ : ∃ C, hcs N T a n = C := ⟨_, rfl⟩
  rw [hC] at hlen hone HR
  have HC := hide hC
  have hlt := hr.lt
  clear r1 r2 hs hr lN eN eT en H hC
  have hz : (Try.prog.info? 50).map (fun i => (i.zero, i.size)) = some (some (.agg (hcs [0, 0, 0, 0, 0, 0, 0, 0] 0 none 0).toArray), 10) := by kernel_rfl
  have hnew := Row.newL w (hcs [0, 0, 0, 0, 0, 0, 0, 0] 0 none 0) 50
  obtain ⟨W, hW, k1, k2, k3⟩ : ∃ W, (w.alloc (.cells (hcs [0, 0, 0, 0, 0, 0, 0, 0] 0 none 0).toArray 50)).setCells w.heap.size 0 C = W ∧ Row W w.heap.size 0 C ∧ Below w.heap.size w W ∧ Ty W w.heap.size :=
    ⟨_, rfl, hnew.put C (by rw [hlen, hcs_length]; rfl), ((Below.refl _ w).alloc (Nat.le_refl _) _).trans (below_setCells (Nat.le_refl _) _ _ _), Ty.setCells (b := w.heap.size) ⟨_, _, heap_alloc_last w _⟩ _ _ _⟩
  have HN := hide hnew
  have HK := hide (And.intro k1 (And.intro k2 k3))
  clear hnew k1 k2 k3
  go_enter Try.func13, Try.ntmps13
  go_wp2_with (first | (refine wpList_loadR (op := ⟨some 8, _, _, _, _, _⟩) rfl 50 (.tmp 7) rfl rfl _ HR.out Try.underlying50 rfl (by rw [hlen]; kernel_rfl) ?_) | (refine wpList_allocL (op := ⟨some 3, _, _, _, _, _⟩) rfl 50 rfl (hcs [0, 0, 0, 0, 0, 0, 0, 0] 0 none 0) 10 hz ?_) | (refine wpList_storeR (op := ⟨none, _, _, _, _, _⟩) rfl 50 (.tmp 3) (.tmp 8) rfl rfl (vs := C) rfl HN.out (by rw [hlen, hcs_length]; rfl) (by rw [hlen]; kernel_rfl) hone ?_; rw [hW]))
  go_ret
  refine ⟨_, rfl, Nat.le_refl _, ⟨HK.out.2.2, a, ?_, ?_⟩, HK.out.2.1⟩
  · rw [← HE.out.1, ← HE.out.2.1, ← HE.out.2.2, HC.out]; exact HK.out.1
  · rw [← HE.out.2.2]; exact HS.out.below HK.out.2.1
set_option maxRecDepth 100000 in
theorem hcopy_nil (w : World) : Calls Try.prog 13 #[.pointer none] w fun e w' => e = .returned (.pointer none) ∧ w' = w := by
  go_enter Try.func13, Try.ntmps13
  go_wp2
  go_ret
  exact ⟨rfl, rfl⟩
set_option maxRecDepth 100000 in
theorem hadd_nil (w : World) (s : ByteArray) : Calls Try.prog 12 #[.pointer none, .string s] w fun e w' => e = .returned (.int .i64 2) ∧ w' = w := by
  go_enter Try.func12, Try.ntmps12
  go_wp2
  go_ret
  exact ⟨rfl, rfl⟩

set_option maxRecDepth 100000 in
set_option maxHeartbeats 4000000 in
theorem bsum_any (s : ByteArray) (w : World) (hs : s.size < 2305843009213693952) : Calls Try.prog 15 #[.string s] w fun e w' => e = .returned (.string (dg 0 (sb s))) ∧ Below w.heap.size w w' := by
  go_enter Try.func15, Try.ntmps15
  go_wp2_with fail
  refine (new_any _).mono ?_
  rintro e w1 ⟨b, rfl, hb, hH, hB⟩
  have HH := hide hH
  have HB := hide hB
  clear hH hB
  go_wp2_with fail
  refine (hadd_any s HH.out (h0_length 0) (h0_lt 0 (by omega)) (by simp; omega)).mono ?_
  rintro e w2 ⟨rfl, hH2, hB2⟩
  rw [List.nil_append] at hH2
  have HH2 := hide hH2
  have HB2 := hide hB2
  clear hH2 hB2
  go_wp2_with fail
  refine (hsum_any HH2.out (h0_length 0) (h0_lt 0 (by omega)) (by rw [sb_length]; omega)).mono ?_
  rintro e w3 ⟨rfl, hB3⟩
  have HB3 := hide hB3
  clear hB3
  go_wp2_with fail
  go_ret
  refine ⟨rfl, ?_⟩
  have q2 : Below w.heap.size w w2 := HB.out.trans (HB2.out.below hb HB.out.size)
  exact q2.trans (HB3.out.mono q2.size)

theorem hsum_nil (w : World) : Calls Try.prog 14 #[.pointer none] w fun e w' => e = .returned (.string (dg 0 [])) ∧ Below w.heap.size w w' := by
  go_enter Try.func14, Try.ntmps14
  go_wp2_with fail
  refine (bsum_any ⟨#[]⟩ _ (by decide)).mono ?_
  rintro e w1 ⟨rfl, hB⟩
  have HB := hide hB
  clear hB
  go_wp2_with fail
  go_ret
  exact ⟨rfl, HB.out⟩

set_option maxRecDepth 100000 in
set_option maxHeartbeats 4000000 in
theorem keyed_bad (k s : ByteArray) (w : World) (hk : 32 < k.size) (hk2 : k.size < 2305843009213693952) : Calls Try.prog 10 #[.string k, .string s] w fun e w' => e = .returned (.tuple #[.string ⟨#[]⟩, .int .i64 1]) ∧ w' = w := by
  have h1 : (32 : Int) < (k.size : Int) := by omega
  go_enter Try.func10, Try.ntmps10
  go_wp2
  go_ret2
  exact ⟨rfl, rfl⟩
set_option maxRecDepth 100000 in
set_option maxHeartbeats 4000000 in
theorem keyed_none (s : ByteArray) (w : World) (hs : s.size < 2305843009213693952) : Calls Try.prog 10 #[.string ⟨#[]⟩, .string s] w fun e w' => e = .returned (.tuple #[.string (dg 0 (sb s)), .int .i64 0]) ∧ Below w.heap.size w w' := by
  go_enter Try.func10, Try.ntmps10
  go_wp2_with fail
  refine (begin_any 0 _ (by omega)).mono ?_
  rintro e w1 ⟨rfl, hB⟩
  have hN : Hs (w1.alloc (.cells (hcs (h0 0) 0 none 0).toArray 50)) w1.heap.size (h0 0) [] := Hs.first _ _ (Row.newL w1 _ _) ⟨_, _, heap_alloc_last w1 _⟩
  have hA := hB.alloc hB.size (.cells (hcs (h0 0) 0 none 0).toArray 50)
  obtain ⟨W, hW, hN', hA', hb⟩ : ∃ W, w1.alloc (.cells (hcs (h0 0) 0 none 0).toArray 50) = W ∧ Hs W w1.heap.size (h0 0) [] ∧ Below w.heap.size w W ∧ w.heap.size ≤ w1.heap.size := ⟨_, rfl, hN, hA, hB.size⟩
  have HN := hide hN'
  have HA := hide hA'
  clear hB hN hA hN' hA'
  dsimp only
  go_step
  refine wpList_buildL (op := ⟨some 14, _, _, _, _, _⟩) rfl 50 _ rfl (hcs (h0 0) 0 none 0) (by rw [List.map_toArray]; exact built_hash 0) ?_
  go_wp2_with fail
  refine (hadd_any s HN.out (h0_length 0) (h0_lt 0 (by omega)) (by simp; omega)).mono ?_
  rintro e w2 ⟨rfl, hH2, hB2⟩
  rw [List.nil_append] at hH2
  have HH2 := hide hH2
  have HB2 := hide hB2
  clear hH2 hB2
  go_wp2_with fail
  refine (hsum_any HH2.out (h0_length 0) (h0_lt 0 (by omega)) (by rw [sb_length]; omega)).mono ?_
  rintro e w3 ⟨rfl, hB3⟩
  have HB3 := hide hB3
  clear hB3
  go_wp2_with fail
  go_ret2
  refine ⟨rfl, ?_⟩
  have q2 : Below w.heap.size w w2 := HA.out.trans (HB2.out.below hb HA.out.size)
  exact q2.trans (HB3.out.mono q2.size)
set_option maxRecDepth 100000 in
set_option maxHeartbeats 4000000 in
theorem keyed_key (k s : ByteArray) (w : World) (hk : k.size ≤ 32) (hk0 : 0 < k.size) (hs : s.size < 2305843009213693952) :
    Calls Try.prog 10 #[.string k, .string s] w fun e w' => e = .returned (.tuple #[.string (dg k.size (kd (sb k) (sb s))), .int .i64 0]) ∧ Below w.heap.size w w' := by
  obtain ⟨n, en⟩ : ∃ n, k.size = n := ⟨_, rfl⟩
  have h1 : ¬ ((32 : Int) < (n : Int)) := by omega
  have h2 : (0 : Int) < (n : Int) := by omega
  obtain ⟨F, eF⟩ : ∃ F, fill64 [] (sb k) = F := ⟨_, rfl⟩
  have lF : F.length = 64 := by rw [← eF]; exact fill64_length _ _ (by simp [sb_length]; omega)
  have eK : [] ++ F ++ sb s = kd (sb k) (sb s) := by
    rw [← eF]; unfold kd fill64
    rw [if_neg (by rw [sb_length]; omega)]
    simp
  rw [en] at hk
  have HF := hide eF
  have HK := hide eK
  have HN32 := hide hk
  have hks := hide (show 0 + k.size ≤ 64 by omega)
  have hz : (Try.prog.info? 51).map (fun i => (i.zero, i.size)) = some (some (.agg (bs (List.replicate 64 0)).toArray), 64) := by kernel_rfl
  rw [en]
  clear eF eK hk hk0
  go_enter Try.func10, Try.ntmps10
  go_wp2_with fail
  refine (begin_any n _ HN32.out).mono ?_
  rintro e w1 ⟨rfl, hB⟩
  have hN : Hs (w1.alloc (.cells (hcs (h0 n) 0 none 0).toArray 50)) w1.heap.size (h0 n) [] := Hs.first _ _ (Row.newL w1 _ _) ⟨_, _, heap_alloc_last w1 _⟩
  have hA := hB.alloc hB.size (.cells (hcs (h0 n) 0 none 0).toArray 50)
  obtain ⟨b, W, hb, hW, hN', hA', hb0, hb9⟩ : ∃ b W, w1.heap.size = b ∧ w1.alloc (.cells (hcs (h0 n) 0 none 0).toArray 50) = W ∧ Hs W b (h0 n) [] ∧ Below w.heap.size w W ∧ w.heap.size ≤ b ∧ b < W.heap.size := ⟨_, _, rfl, rfl, hN, hA, hB.size, by simp⟩
  have HN := hide hN'
  have HA := hide hA'
  clear hB hN hA hN' hA'
  dsimp only
  go_step
  refine wpList_buildL (op := ⟨some 14, _, _, _, _, _⟩) rfl 50 _ rfl (hcs (h0 n) 0 none 0) (by rw [List.map_toArray]; exact built_hash n) ?_
  go_wp2_with fail
  refine (filled_any _ none 0 0 [] k (Sb.nil _) hks.out).mono ?_
  rintro e w2 ⟨rfl, hB2⟩
  rw [HF.out]
  have hN2 := HN.out.below hB2
  have hA2 := HA.out.trans (hB2.mono HA.out.size)
  have hb2 : b < w2.heap.size := Nat.lt_of_lt_of_le hb9 hB2.size
  have hnew := Row.newL w2 (bs (List.replicate 64 0)) 51
  obtain ⟨c, W3, hc, hW3, k1, k2, k3⟩ : ∃ c W, w2.heap.size = c ∧ (w2.alloc (.cells (bs (List.replicate 64 0)).toArray 51)).setCells w2.heap.size 0 (bs F) = W ∧ Row W c 0 (bs F) ∧ Hs W b (h0 n) [] ∧ Below w.heap.size w W := by
    have hB3 : Below w2.heap.size w2 ((w2.alloc (.cells (bs (List.replicate 64 0)).toArray 51)).setCells w2.heap.size 0 (bs F)) := ((Below.refl _ w2).alloc (Nat.le_refl _) _).trans (below_setCells (Nat.le_refl _) _ _ _)
    exact ⟨_, _, rfl, rfl, hnew.put _ (by rw [bs_length, bs_length, lF, List.length_replicate]), hN2.below hB3, hA2.trans (hB3.mono hA2.size)⟩
  have hx := run_textR (P := Try.prog) W3 48 9 5 (c := 64) (n := 64) (l := F) Try.underlying48 Try.underlying5 Try.underlying9 c 0 rfl lF k1.cell
  have HNEW := hide hnew
  have H2 := hide k2
  have H3 := hide k3
  clear hB2 hN2 hA2 hnew k1 k2 k3
  rw [hc] at hW3
  go_wp2_with (first | (refine wpList_allocL (op := ⟨some 7, _, _, _, _, _⟩) rfl 51 rfl (bs (List.replicate 64 0)) 64 hz ?_) | (refine wpList_storeR (op := ⟨none, _, _, _, _, _⟩) rfl 51 (.tmp 7) (.tmp 20) rfl rfl (vs := bs F) rfl HNEW.out (by rw [bs_length, bs_length, lF, List.length_replicate]) (by rw [bs_length, lF]; kernel_rfl) (fun v hv => bs_one hv) ?_; rw [hc, hW3]))
  refine (hadd_any ⟨F.toArray⟩ H2.out (h0_length n) (h0_lt n HN32.out) (by rw [← sb_length, sb_mk, lF]; simp)).mono ?_
  rintro e w4 ⟨rfl, hH4, hB4⟩
  rw [sb_mk] at hH4
  have HH4 := hide hH4
  have HB4 := hide (H3.out.trans (hB4.below hb0 H3.out.size))
  clear hH4 hB4
  go_wp2_with fail
  refine (hadd_any s HH4.out (h0_length n) (h0_lt n HN32.out) (by simp [lF]; omega)).mono ?_
  rintro e w5 ⟨rfl, hH5, hB5⟩
  rw [HK.out] at hH5
  have HH5 := hide hH5
  have HB5 := hide (HB4.out.trans (hB5.below hb0 HB4.out.size))
  clear hH5 hB5
  go_wp2_with fail
  refine (hsum_any HH5.out (h0_length n) (h0_lt n HN32.out) (by have h9 := HN32.out; rw [← HK.out]; simp [lF, sb_length]; omega)).mono ?_
  rintro e w6 ⟨rfl, hB6⟩
  have HB6 := hide (HB5.out.trans (hB6.mono HB5.out.size))
  clear hB6
  go_wp2_with fail
  go_ret2
  exact ⟨rfl, HB6.out⟩

/-- A digest by a key, or the refusal. -/
def kyv (k s : ByteArray) : ByteArray := if 32 < k.size then ⟨#[]⟩ else dg k.size (kd (sb k) (sb s))
def kye (k : ByteArray) : Int := if 32 < k.size then 1 else 0
theorem keyed_any (k s : ByteArray) (w : World) (hk : k.size < 2305843009213693952) (hs : s.size < 2305843009213693952) :
    Calls Try.prog 10 #[.string k, .string s] w fun e w' => e = .returned (.tuple #[.string (kyv k s), .int .i64 (kye k)]) ∧ Below w.heap.size w w' := by
  by_cases h : 32 < k.size
  · refine (keyed_bad k s w h hk).mono ?_
    rintro e w' ⟨rfl, rfl⟩
    unfold kyv kye
    rw [if_pos h, if_pos h]
    exact ⟨rfl, Below.refl _ _⟩
  · unfold kyv kye
    rw [if_neg h, if_neg h]
    by_cases h0 : k.size = 0
    · have : k = ⟨#[]⟩ := sb_inj (List.length_eq_zero_iff.1 (by rw [sb_length]; exact h0))
      subst this
      exact keyed_none s w hs
    · exact keyed_key k s w (by omega) (by omega) hs
theorem kyv_none (s : ByteArray) : kyv ⟨#[]⟩ s = dg 0 (sb s) := rfl
end Go.Proofs.Ytlpnneghlomakaa
