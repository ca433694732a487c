/- The closed statement AesNames returns true. No condition. -/
import Derived.Test.YtllhnbnddcghoaaAWks
import Derived.Test.YtllhnbnddcghoaaIArgs
import Derived.SizedLaws
namespace Go.Proofs.Ytllhnbnddcghoaa
open Go.ChangeShapes Go.WideShapes Go.ChangeAt Go.RowKit Bk
open Go.ChangeMaps (open_string shut_string)
set_option linter.unusedVariables false
set_option linter.unusedSimpArgs false

set_option maxRecDepth 100000 in
set_option maxHeartbeats 16000000 in
theorem aesNames_any (w : World) : Calls Try.prog 3 #[] w fun e w' => e = .returned (.bool true) ∧ Below w.heap.size w w' := by
  obtain ⟨K, eK⟩ : ∃ K, rwt 32 0 = K := ⟨_, rfl⟩
  obtain ⟨X, eX⟩ : ∃ K, rwt 16 0 = K := ⟨_, rfl⟩
  obtain ⟨K3, eK3⟩ : ∃ K, rwt 33 0 = K := ⟨_, rfl⟩
  obtain ⟨X7, eX7⟩ : ∃ K, rwt 17 0 = K := ⟨_, rfl⟩
  obtain ⟨D, eD⟩ : ∃ z, dt K X = z := ⟨_, rfl⟩
  have zK : K.size = 32 := by rw [← eK, rwt_size]
  have zX : X.size = 16 := by rw [← eX, rwt_size]
  have HL := hide (show K.size = 32 ∧ X.size = 16 ∧ K3.size ≠ 32 ∧ X7.size ≠ 16 ∧ (⟨#[]⟩ : ByteArray).size ≠ 32 ∧ (⟨#[]⟩ : ByteArray).size ≠ 16 from ⟨zK, zX, by rw [← eK3, rwt_size]; decide, by rw [← eX7, rwt_size]; decide, by decide, by decide⟩)
  have HD := hide (show D.size = 16 ∧ et K D = X from ⟨by rw [← eD]; exact dt_size zK zX, by rw [← eD]; exact et_dt zK zX⟩)
  have zD : (D.size : Int) = 16 := by have := HD.out.1; omega
  have HE := hide (And.intro eK (And.intro eX (And.intro eK3 (And.intro eX7 eD))))
  clear eK eX eK3 eX7 eD zK zX
  go_enter Try.func3, Try.ntmps3
  have HS0 := hide (Below.refl w.heap.size w)
  go_wp2_with fail
  refine (aEnc_nil _ _).mono ?_
  rintro e w1 ⟨rfl, hB⟩
  have HS1 := hide (show Below w.heap.size w w1 from HS0.out.trans (hB.mono HS0.out.size))
  clear HS0 hB
  go_wp2_with fail
  refine (row_16_0 _).mono ?_
  rintro e w2 ⟨rfl, hB⟩
  rw [HE.out.2.1]
  have HS2 := hide (show Below w.heap.size w w2 from HS1.out.trans (hB.mono HS1.out.size))
  clear HS1 hB
  go_wp2_with fail
  refine (aDec_nil _ _).mono ?_
  rintro e w3 ⟨rfl, hB⟩
  have HS3 := hide (show Below w.heap.size w w3 from HS2.out.trans (hB.mono HS2.out.size))
  clear HS2 hB
  go_wp2_with fail
  refine (row_32_0 _).mono ?_
  rintro e w4 ⟨rfl, hB⟩
  rw [HE.out.1]
  have HS4 := hide (show Below w.heap.size w w4 from HS3.out.trans (hB.mono HS3.out.size))
  clear HS3 hB
  go_wp2_with fail
  refine (new_c K _ HL.out.1).mono ?_
  rintro e w5 ⟨b, rfl, hR, hb, hB⟩
  have HS5 := hide (show Below w.heap.size w w5 ∧ Row w5 b 0 (bs (ciB (kw K))) from ⟨HS4.out.trans (hB.mono HS4.out.size), hR⟩)
  clear HS4 hB hR hb
  go_wp2_with fail
  refine (aNew_bad _ _ HL.out.2.2.2.2.1).mono ?_
  rintro e w6 ⟨rfl, hw⟩
  obtain rfl := hw.symm
  go_wp2_with fail
  refine (row_33_0 _).mono ?_
  rintro e w7 ⟨rfl, hB⟩
  rw [HE.out.2.2.1]
  have HS7 := hide (show Below w.heap.size w w7 ∧ Row w7 b 0 (bs (ciB (kw K))) from ⟨HS5.out.1.trans (hB.mono HS5.out.1.size), HS5.out.2.below hB HS5.out.2.lt⟩)
  clear HS5 hB
  go_wp2_with fail
  refine (aNew_bad K3 _ HL.out.2.2.1).mono ?_
  rintro e w8 ⟨rfl, hw⟩
  obtain rfl := hw.symm
  go_wp2_with fail
  refine (works_any _).mono ?_
  rintro e w9 ⟨rfl, hB⟩
  have HS9 := hide (show Below w.heap.size w w9 ∧ Row w9 b 0 (bs (ciB (kw K))) from ⟨HS7.out.1.trans (hB.mono HS7.out.1.size), HS7.out.2.below hB HS7.out.2.lt⟩)
  clear HS7 hB
  go_wp2_with fail
  refine (row_17_0 _).mono ?_
  rintro e w10 ⟨rfl, hB⟩
  rw [HE.out.2.2.2.1]
  have HS10 := hide (show Below w.heap.size w w10 ∧ Row w10 b 0 (bs (ciB (kw K))) from ⟨HS9.out.1.trans (hB.mono HS9.out.1.size), HS9.out.2.below hB HS9.out.2.lt⟩)
  clear HS9 hB
  go_wp2_with fail
  refine (aDec_bad X7 b _ HL.out.2.2.2.1).mono ?_
  rintro e w11 ⟨rfl, hB⟩
  have HS11 := hide (show Below w.heap.size w w11 ∧ Row w11 b 0 (bs (ciB (kw K))) from ⟨HS10.out.1.trans (hB.mono HS10.out.1.size), HS10.out.2.below hB HS10.out.2.lt⟩)
  clear HS10 hB
  go_wp2_with fail
  refine (aDec_bad _ b _ HL.out.2.2.2.2.2).mono ?_
  rintro e w12 ⟨rfl, hB⟩
  have HS12 := hide (show Below w.heap.size w w12 ∧ Row w12 b 0 (bs (ciB (kw K))) from ⟨HS11.out.1.trans (hB.mono HS11.out.1.size), HS11.out.2.below hB HS11.out.2.lt⟩)
  clear HS11 hB
  go_wp2_with fail
  refine (row_16_0 _).mono ?_
  rintro e w13 ⟨rfl, hB⟩
  rw [HE.out.2.1]
  have HS13 := hide (show Below w.heap.size w w13 ∧ Row w13 b 0 (bs (ciB (kw K))) from ⟨HS12.out.1.trans (hB.mono HS12.out.1.size), HS12.out.2.below hB HS12.out.2.lt⟩)
  clear HS12 hB
  go_wp2_with fail
  refine (dec_c K X _ b HL.out.1 HL.out.2.1 HS13.out.2).mono ?_
  rintro e w14 ⟨rfl, hB⟩
  rw [HE.out.2.2.2.2]
  have HS14 := hide (show Below w.heap.size w w14 ∧ Row w14 b 0 (bs (ciB (kw K))) from ⟨HS13.out.1.trans (hB.mono HS13.out.1.size), HS13.out.2.below hB HS13.out.2.lt⟩)
  clear HS13 hB
  go_wp2_with fail
  refine (enc_c K D _ b HL.out.1 HD.out.1 HS14.out.2).mono ?_
  rintro e w15 ⟨rfl, hB⟩
  rw [HD.out.2]
  have HS15 := hide (show Below w.heap.size w w15 ∧ Row w15 b 0 (bs (ciB (kw K))) from ⟨HS14.out.1.trans (hB.mono HS14.out.1.size), HS14.out.2.below hB HS14.out.2.lt⟩)
  clear HS14 hB
  go_wp2_with fail
  refine (row_16_0 _).mono ?_
  rintro e w16 ⟨rfl, hB⟩
  rw [HE.out.2.1]
  have HS16 := hide (show Below w.heap.size w w16 ∧ Row w16 b 0 (bs (ciB (kw K))) from ⟨HS15.out.1.trans (hB.mono HS15.out.1.size), HS15.out.2.below hB HS15.out.2.lt⟩)
  clear HS15 hB
  go_wp2_with fail
  go_ret
  exact ⟨rfl, HS16.out.1⟩

theorem aesNames_own : ownKnob Try.prog.godebug = none := by kernel_rfl
theorem aesNames_laidOut : laidOutB Try.prog = true := by kernel_rfl

set_option maxRecDepth 100000 in
theorem aesNames_lifted (os : Os) (started : os.Started) (H : Type) (enc : TypeId × Value → H) :
    ReturnsInHanded {} Try.checked os 3 .any (Rows.aesNamesSpec.pre6 enc Try.prog Try.f3 Rows.aesNamesRow.domain false) (Rows.aesNamesSpec.post enc Try.prog Try.f3 false true false false) := by
  refine returnsInHanded_of_change_sized (C := Try.checked) aesNames_own started (by kernel_rfl) Try.func3
    (ChangeSpec.witness6 (enc := enc) (C := Try.checked) false ⟨#[], #[], []⟩ 8 (by kernel_rfl) (by kernel_rfl) (by kernel_rfl) (by kernel_rfl)) ?_
  intro W base args ds gs before hval0 hW hcnd hsz0 _
  have hval : ∀ (j : Nat) t v, Try.f3.params[j]? = some t → args[j]? = some v → Value.okWide Try.prog W .any base t v := hval0
  have hW' := hW
  obtain ⟨p, q, hA0, hV, rfl, hfz, hnd⟩ := hW
  have hA : DataW.TrodAll enc Try.prog W 0 (fun _ => true) true Try.f3.params.toList args.toList ds p := hA0
  rw [Try.params3] at hA hval
  obtain ⟨rfl, rfl, rfl⟩ := trodAll_none hA
  obtain ⟨rfl, rfl⟩ := trodVars_none hV
  clear hA0 hval0 hsz0
  simp only [List.append_nil] at hW'
  refine (aesNames_any W ).mono fun e W' ⟨he, bel⟩ => ?_
  subst he
  exact ⟨_, rfl, _, _, _, [], [], [], hW', trodAll_mk1 (shut_bool Try.underlying4 _), rfl, rfl, bel.frame _, fun h => by cases h⟩

theorem aesNames_holds : Rows.AesNamesSaid :=
  OpenClaim.holds_of_wide 3 Try.f3 rfl rfl rfl rfl rfl rfl rfl ⟨rfl, rfl, rfl, rfl, rfl⟩ rfl rfl rfl rfl rfl (by kernel_rfl) Try.func3 (by kernel_rfl)
    (of_decide_eq_true (by kernel_rfl)) (by unfold Func.isWrapper; first | (rw [if_pos (by decide +kernel)]; kernel_rfl) | (rw [if_neg (by decide +kernel)]; exact ⟨rfl, rfl⟩))
    (fun os started H enc _ => aesNames_lifted os started H enc)

#print axioms aesNames_holds

end Go.Proofs.Ytllhnbnddcghoaa
