/- What each statement on keys asks first: the examples, walked; and bytes put together by exclusive or. -/
import Derived.Test.YtdcmjmmfclhfbaaKKey
namespace Go.Proofs.Ytdcmjmmfclhfbaa
open Go.RowKit Bk
set_option linter.unusedVariables false
set_option linter.unusedSimpArgs false

def saltS : ByteArray := ⟨#[115, 97, 108, 116, 101, 100, 32, 98, 121, 32, 116, 104, 101, 115, 101, 32]⟩
def saltT : ByteArray := ⟨#[97, 108, 116, 101, 100, 32, 98, 121, 32, 116, 104, 101, 115, 101, 32]⟩
theorem salt_cut : saltS.extract 1 16 = saltT := ByteArray.extract_mk _ 1 16
def pP : ByteArray := ⟨#[112]⟩
theorem dst_one (p f : ByteArray) : dst p f 1 = shm p f := by
  show ByteArray.mk (kxo (sb p) (sb f) 1).toArray = shm p f
  rw [kxo_one]
  rfl
theorem ok_p1 : okD pP saltS 1 := ⟨by decide, rfl, by decide, by decide⟩
theorem no_p15 : ¬ okD pP saltT 1 := fun h => absurd h.2.1 (by decide)
theorem no_p0 : ¬ okD pP saltS 0 := fun h => absurd h.2.2.1 (by decide)
theorem nb4_one : nb4 1 = ⟨#[0, 0, 0, 1]⟩ := rfl
theorem nb4_two : nb4 2 = ⟨#[0, 0, 0, 2]⟩ := rfl
theorem ke_ok {p s : ByteArray} {n : Int} (h : okD p s n) : ke p s n = 0 := if_pos h
theorem ke_no {p s : ByteArray} {n : Int} (h : ¬ okD p s n) : ke p s n = 1 := if_neg h
theorem kk_ok {p s : ByteArray} {n : Int} (h : okD p s n) : kk p s n = dst p (s ++ nb4 1) n.toNat := if_pos h
theorem kk_no {p s : ByteArray} {n : Int} (h : ¬ okD p s n) : kk p s n = ⟨#[]⟩ := if_neg h
theorem kc_ok {p s : ByteArray} {n : Int} (h : okD p s n) : kc p s n = (dst p (s ++ nb4 2) n.toNat).extract 0 8 := if_pos h
theorem kc_no {p s : ByteArray} {n : Int} (h : ¬ okD p s n) : kc p s n = ⟨#[]⟩ := if_neg h
theorem se_ok {p s : ByteArray} {n b : Int} (h : okS p s n b) : se p s n b = 0 := if_pos h
theorem se_no {p s : ByteArray} {n b : Int} (h : ¬ okS p s n b) : se p s n b = 1 := if_neg h
theorem st_ok {p s : ByteArray} {n b : Int} (h : okS p s n b) : st p s n b = dst p (s ++ nb4 b.toNat) n.toNat := if_pos h
theorem st_no {p s : ByteArray} {n b : Int} (h : ¬ okS p s n b) : st p s n b = ⟨#[]⟩ := if_neg h

set_option maxRecDepth 100000 in
set_option maxHeartbeats 4000000 in
theorem awake8_any (w : World) : Calls Try.prog 8 #[] w fun e w' => e = .returned (.bool true) ∧ Below w.heap.size w w' := by
  obtain ⟨Z, eZ⟩ : ∃ Z, saltS = Z := ⟨_, rfl⟩
  have hZ : Z.size = 16 := by rw [← eZ]; rfl
  have hZ1 : Z.extract 1 16 = saltT := by rw [← eZ]; exact salt_cut
  obtain ⟨H1, e1⟩ : ∃ H, shm pP (Z ++ nb4 1) = H := ⟨_, rfl⟩
  obtain ⟨H2, e2⟩ : ∃ H, shm pP (Z ++ nb4 2) = H := ⟨_, rfl⟩
  obtain ⟨C8, e8⟩ : ∃ C, H2.extract 0 8 = C := ⟨_, rfl⟩
  have z2 : H2.size = 32 := by rw [← e2]; exact shm_size _ _
  have HK := hide (show ke pP Z 1 = 0 ∧ kk pP Z 1 = H1 ∧ kc pP Z 1 = C8 from by
    have ok : okD pP Z 1 := eZ ▸ ok_p1
    refine ⟨ke_ok ok, ?_, ?_⟩
    · rw [kk_ok ok, ← e1]; exact dst_one _ _
    · rw [kc_ok ok, ← e8, ← e2]; exact congrArg (fun x => ByteArray.extract x 0 8) (dst_one _ _))
  have HE := hide (show ke pP saltT 1 = 1 ∧ ke pP Z 0 = 1 from ⟨ke_no no_p15, ke_no (eZ ▸ no_p0)⟩)
  have HS := hide (show (Z ++ (⟨#[0, 0, 0, 1]⟩ : ByteArray)).size < 576460752303423488 ∧ (Z ++ (⟨#[0, 0, 0, 2]⟩ : ByteArray)).size < 576460752303423488 by
    rw [ByteArray.size_append, ByteArray.size_append, hZ]; decide)
  have HM := hide (show shm pP (Z ++ (⟨#[0, 0, 0, 1]⟩ : ByteArray)) = H1 ∧ shm pP (Z ++ (⟨#[0, 0, 0, 2]⟩ : ByteArray)) = H2 from ⟨e1, e2⟩)
  have HZ := hide (show (⟨#[115, 97, 108, 116, 101, 100, 32, 98, 121, 32, 116, 104, 101, 115, 101, 32]⟩ : ByteArray) = Z from eZ)
  clear e1 e2 eZ
  go_enter Try.func8, Try.ntmps8
  rw [HZ.out]
  go_wp2_with fail
  refine (key_any pP saltT 1 _).mono ?_
  rintro e w1 ⟨rfl, hB1⟩
  rw [HE.out.1]
  have HB1 := hide hB1
  clear hB1
  go_wp2_with fail
  refine (key_any pP Z 0 _).mono ?_
  rintro e w2 ⟨rfl, hB2⟩
  rw [HE.out.2]
  have HB2 := hide (HB1.out.trans (hB2.mono HB1.out.size))
  clear hB2
  go_wp2_with fail
  refine (key_any pP Z 1 _).mono ?_
  rintro e w3 ⟨rfl, hB3⟩
  rw [HK.out.1, HK.out.2.1, HK.out.2.2]
  have HB3 := hide (HB2.out.trans (hB3.mono HB2.out.size))
  clear hB3
  go_wp2_with fail
  refine (shmac_any pP (Z ++ (⟨#[0, 0, 0, 1]⟩ : ByteArray)) _ (by decide) HS.out.1).mono ?_
  rintro e w4 ⟨rfl, hB4⟩
  rw [HM.out.1]
  have HB4 := hide (HB3.out.trans (hB4.mono HB3.out.size))
  clear hB4
  go_wp2_with fail
  refine (shmac_any pP (Z ++ (⟨#[0, 0, 0, 2]⟩ : ByteArray)) _ (by decide) HS.out.2).mono ?_
  rintro e w5 ⟨rfl, hB5⟩
  rw [HM.out.2]
  have HB5 := hide (HB4.out.trans (hB5.mono HB4.out.size))
  clear hB5
  go_wp2_with fail
  go_ret
  exact ⟨rfl, HB5.out⟩
end Go.Proofs.Ytdcmjmmfclhfbaa
