/- The digest by a key, walked. For keys and bytes of fewer than 2 to the power of 59 bytes each. -/
import Derived.Test.YtdcmjmmfclhfbaaSSum
import Derived.Test.YtdcmjmmfclhfbaaSComb
namespace Go.Proofs.Ytdcmjmmfclhfbaa
open Go.RowKit Bk
set_option linter.unusedVariables false
set_option linter.unusedSimpArgs false

/-- The digest by a key, as a string; a key as it is filled up. -/
def shm (k s : ByteArray) : ByteArray := ⟨(shmac (sb k) (sb s)).toArray⟩
theorem sb_shm (k s : ByteArray) : sb (shm k s) = shmac (sb k) (sb s) := rfl
theorem shm_size (k s : ByteArray) : (shm k s).size = 32 := by rw [← sb_length, sb_shm, shmac_length]

set_option maxRecDepth 100000 in
set_option maxHeartbeats 8000000 in
theorem shmac_short (K s : ByteArray) (w : World) (hK : K.size ≤ 64) (hs : s.size < 576460752303423488) :
    Calls Try.prog 13 #[.string K, .string s] w fun e w' => e = .returned (.string (shm K s)) ∧ Below w.heap.size w w' := by
  have h1 : ¬ ((64 : Int) < (K.size : Int)) := by omega
  obtain ⟨C1, e1⟩ : ∃ C, ByteArray.mk (scmb (sb K) 92).toArray = C := ⟨_, rfl⟩
  obtain ⟨C2, e2⟩ : ∃ C, ByteArray.mk (scmb (sb K) 54).toArray = C := ⟨_, rfl⟩
  have s1 : C1.size = 64 := by rw [← e1, ← sb_length, sb_mk, scmb_length _ _ (by rw [sb_length]; exact hK)]
  have s2 : C2.size = 64 := by rw [← e2, ← sb_length, sb_mk, scmb_length _ _ (by rw [sb_length]; exact hK)]
  obtain ⟨D, eD⟩ : ∃ D, sdg (sb (C2 ++ s)) = D := ⟨_, rfl⟩
  have sD : D.size = 32 := eD ▸ sdg_size _
  have hF : sdg (sb (C1 ++ D)) = shm K s := by
    have i1 : sb C1 = scmb (sb K) 92 := by rw [← e1]; rfl
    have i2 : sb C2 = scmb (sb K) 54 := by rw [← e2]; rfl
    have i3 : sb D = ssum (sb (C2 ++ s)) := by rw [← eD]; rfl
    have i4 : skey (sb K) = sb K := by unfold skey; rw [if_neg (by rw [sb_length]; omega)]
    unfold shm shmac sdg
    rw [sb_append, i1, i3, sb_append, i2, i4]
  have z2 : (C2 ++ s).size = 64 + s.size := by rw [← sb_length, sb_append, List.length_append, sb_length, sb_length, s2]
  have z1 : (C1 ++ D).size = 96 := by rw [← sb_length, sb_append, List.length_append, sb_length, sb_length, s1, sD]
  have E1 := hide e1
  have E2 := hide e2
  have ED := hide eD
  have HF := hide hF
  have Z := hide (And.intro z1 z2)
  clear e1 e2 eD hF z1 z2
  go_enter Try.func13, Try.ntmps13
  go_wp2_with fail
  refine (combined_any K 92 _ hK).mono ?_
  rintro e w1 ⟨rfl, hB1⟩
  rw [E1.out]
  have B1 := hide hB1
  clear hB1
  go_wp2_with fail
  refine (combined_any K 54 _ hK).mono ?_
  rintro e w2 ⟨rfl, hB2⟩
  rw [E2.out]
  have B2 := hide (B1.out.trans (hB2.mono B1.out.size))
  clear hB2
  go_wp2_with fail
  refine (ssum_any (C2 ++ s) _ (by rw [Z.out.2]; omega)).mono ?_
  rintro e w3 ⟨rfl, hB3⟩
  rw [ED.out]
  have B3 := hide (B2.out.trans (hB3.mono B2.out.size))
  clear hB3
  go_wp2_with fail
  refine (ssum_any (C1 ++ D) _ (by rw [Z.out.1]; decide)).mono ?_
  rintro e w4 ⟨rfl, hB4⟩
  rw [HF.out]
  have B4 := hide (B3.out.trans (hB4.mono B3.out.size))
  clear hB4
  go_wp2_with fail
  go_ret
  exact ⟨rfl, B4.out⟩

set_option maxRecDepth 100000 in
set_option maxHeartbeats 8000000 in
theorem shmac_long (L s : ByteArray) (w : World) (hL : 64 < L.size) (hL2 : L.size < 576460752303423488) (hs : s.size < 576460752303423488) :
    Calls Try.prog 13 #[.string L, .string s] w fun e w' => e = .returned (.string (shm L s)) ∧ Below w.heap.size w w' := by
  have h1 : (64 : Int) < (L.size : Int) := by omega
  obtain ⟨K, eK⟩ : ∃ K, sdg (sb L) = K := ⟨_, rfl⟩
  have hK : K.size ≤ 64 := by rw [← eK, sdg_size]; decide
  have EK := hide eK
  obtain ⟨C1, e1⟩ : ∃ C, ByteArray.mk (scmb (sb K) 92).toArray = C := ⟨_, rfl⟩
  obtain ⟨C2, e2⟩ : ∃ C, ByteArray.mk (scmb (sb K) 54).toArray = C := ⟨_, rfl⟩
  have s1 : C1.size = 64 := by rw [← e1, ← sb_length, sb_mk, scmb_length _ _ (by rw [sb_length]; exact hK)]
  have s2 : C2.size = 64 := by rw [← e2, ← sb_length, sb_mk, scmb_length _ _ (by rw [sb_length]; exact hK)]
  obtain ⟨D, eD⟩ : ∃ D, sdg (sb (C2 ++ s)) = D := ⟨_, rfl⟩
  have sD : D.size = 32 := eD ▸ sdg_size _
  have hF : sdg (sb (C1 ++ D)) = shm L s := by
    have i1 : sb C1 = scmb (sb K) 92 := by rw [← e1]; rfl
    have i2 : sb C2 = scmb (sb K) 54 := by rw [← e2]; rfl
    have i3 : sb D = ssum (sb (C2 ++ s)) := by rw [← eD]; rfl
    have i4 : skey (sb L) = sb K := by unfold skey; rw [if_pos (by rw [sb_length]; omega), ← eK]; rfl
    unfold shm shmac sdg
    rw [sb_append, i1, i3, sb_append, i2, i4]
  have z2 : (C2 ++ s).size = 64 + s.size := by rw [← sb_length, sb_append, List.length_append, sb_length, sb_length, s2]
  have z1 : (C1 ++ D).size = 96 := by rw [← sb_length, sb_append, List.length_append, sb_length, sb_length, s1, sD]
  have E1 := hide e1
  have E2 := hide e2
  have ED := hide eD
  have HF := hide hF
  have Z := hide (And.intro z1 z2)
  clear e1 e2 eD hF z1 z2 eK
  go_enter Try.func13, Try.ntmps13
  go_wp2_with fail
  refine (ssum_any L _ (by omega)).mono ?_
  rintro e w0 ⟨rfl, hB0⟩
  rw [EK.out]
  have B0 := hide hB0
  clear hB0
  go_wp2_with fail
  refine (combined_any K 92 _ hK).mono ?_
  rintro e w1 ⟨rfl, hB1⟩
  rw [E1.out]
  have B1 := hide (B0.out.trans (hB1.mono B0.out.size))
  clear hB1
  go_wp2_with fail
  refine (combined_any K 54 _ hK).mono ?_
  rintro e w2 ⟨rfl, hB2⟩
  rw [E2.out]
  have B2 := hide (B1.out.trans (hB2.mono B1.out.size))
  clear hB2
  go_wp2_with fail
  refine (ssum_any (C2 ++ s) _ (by rw [Z.out.2]; omega)).mono ?_
  rintro e w3 ⟨rfl, hB3⟩
  rw [ED.out]
  have B3 := hide (B2.out.trans (hB3.mono B2.out.size))
  clear hB3
  go_wp2_with fail
  refine (ssum_any (C1 ++ D) _ (by rw [Z.out.1]; decide)).mono ?_
  rintro e w4 ⟨rfl, hB4⟩
  rw [HF.out]
  have B4 := hide (B3.out.trans (hB4.mono B3.out.size))
  clear hB4
  go_wp2_with fail
  go_ret
  exact ⟨rfl, B4.out⟩

theorem shmac_any (k s : ByteArray) (w : World) (hk : k.size < 576460752303423488) (hs : s.size < 576460752303423488) :
    Calls Try.prog 13 #[.string k, .string s] w fun e w' => e = .returned (.string (shm k s)) ∧ Below w.heap.size w w' := by
  by_cases h : 64 < k.size
  · exact shmac_long k s w h hk hs
  · exact shmac_short k s w (by omega) hs
end Go.Proofs.Ytdcmjmmfclhfbaa
