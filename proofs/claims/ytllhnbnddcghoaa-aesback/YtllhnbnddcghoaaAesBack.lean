/- For any key and any two blocks the statement AesBack returns true and its arguments read as before. No condition. -/
import Derived.Test.YtllhnbnddcghoaaAWks
import Derived.Test.YtllhnbnddcghoaaIArgs
import Derived.SizedLaws
namespace Go.Proofs.Ytllhnbnddcghoaa
open Go.ChangeShapes Go.WideShapes Go.ChangeAt Go.RowKit Bk
open Go.ChangeMaps (open_string shut_string)
set_option linter.unusedVariables false
set_option linter.unusedSimpArgs false

theorem toList_beq (a b : ByteArray) : (a.toList == b.toList) = decide (b = a) := by
  by_cases h : b = a
  · subst h; simp
  · rw [decide_eq_false h]
    have : ¬ a.toList = b.toList := fun k => h (sb_inj (by rw [ByteArray.toList_eq, ByteArray.toList_eq] at k; exact k.symm))
    simp [this]
theorem toList_ne {a b : ByteArray} (h : a ≠ b) : (a.toList == b.toList) = false := by
  rw [toList_beq]
  exact decide_eq_false (fun e => h e.symm)

set_option maxRecDepth 100000 in
set_option maxHeartbeats 16000000 in
theorem aesBack_key (K a b : ByteArray) (w : World) (hk : K.size ≠ 32) : Calls Try.prog 5 #[.string K, .string a, .string b] w fun e w' => e = .returned (.bool true) ∧ Below w.heap.size w w' := by
  have hK := hide hk
  clear hk
  go_enter Try.func5, Try.ntmps5
  have HS0 := hide (Below.refl w.heap.size w)
  go_wp2_with fail
  refine (aNew_bad K _ hK.out).mono ?_
  rintro e w1 ⟨rfl, hw⟩
  obtain rfl := hw.symm
  go_wp2_with fail
  refine (works_any _).mono ?_
  rintro e w2 ⟨rfl, hB⟩
  have HS2 := hide (show Below w.heap.size w w2 from HS0.out.trans (hB.mono HS0.out.size))
  clear HS0 hB
  go_wp2_with fail
  refine (works_any _).mono ?_
  rintro e w3 ⟨rfl, hB⟩
  have HS3 := hide (show Below w.heap.size w w3 from HS2.out.trans (hB.mono HS2.out.size))
  clear HS2 hB
  go_wp2_with fail
  go_ret
  exact ⟨rfl, HS3.out⟩

set_option maxRecDepth 100000 in
set_option maxHeartbeats 16000000 in
theorem aesBack_a (K a b : ByteArray) (w : World) (hk : K.size = 32) (ha : a.size ≠ 16) : Calls Try.prog 5 #[.string K, .string a, .string b] w fun e w' => e = .returned (.bool true) ∧ Below w.heap.size w w' := by
  have hK := hide hk
  have f1 : ((a.size : Int) != 16) = true := by rw [bne_iff_ne]; omega
  clear hk ha
  go_enter Try.func5, Try.ntmps5
  have HS0 := hide (Below.refl w.heap.size w)
  go_wp2_with fail
  refine (new_c K _ hK.out).mono ?_
  rintro e w1 ⟨c, rfl, hR, hb, hB⟩
  have HS1 := hide (show Below w.heap.size w w1 ∧ Row w1 c 0 (bs (ciB (kw K))) from ⟨HS0.out.trans (hB.mono HS0.out.size), hR⟩)
  clear HS0 hB hR hb
  go_wp2_with fail
  refine (works_any _).mono ?_
  rintro e w2 ⟨rfl, hB⟩
  have HS2 := hide (show Below w.heap.size w w2 ∧ Row w2 c 0 (bs (ciB (kw K))) from ⟨HS1.out.1.trans (hB.mono HS1.out.1.size), HS1.out.2.below hB HS1.out.2.lt⟩)
  clear HS1 hB
  go_wp2_with fail
  refine (works_any _).mono ?_
  rintro e w3 ⟨rfl, hB⟩
  have HS3 := hide (show Below w.heap.size w w3 ∧ Row w3 c 0 (bs (ciB (kw K))) from ⟨HS2.out.1.trans (hB.mono HS2.out.1.size), HS2.out.2.below hB HS2.out.2.lt⟩)
  clear HS2 hB
  go_wp2_with fail
  go_ret
  exact ⟨rfl, HS3.out.1⟩

set_option maxRecDepth 100000 in
set_option maxHeartbeats 16000000 in
theorem aesBack_b (K a b : ByteArray) (w : World) (hk : K.size = 32) (ha : a.size = 16) (hb : b.size ≠ 16) : Calls Try.prog 5 #[.string K, .string a, .string b] w fun e w' => e = .returned (.bool true) ∧ Below w.heap.size w w' := by
  have hK := hide hk
  have f1 : ((a.size : Int) != 16) = false := by rw [ha]; rfl
  have f2 : ((b.size : Int) != 16) = true := by rw [bne_iff_ne]; omega
  clear hk ha hb
  go_enter Try.func5, Try.ntmps5
  have HS0 := hide (Below.refl w.heap.size w)
  go_wp2_with fail
  refine (new_c K _ hK.out).mono ?_
  rintro e w1 ⟨c, rfl, hR, hb, hB⟩
  have HS1 := hide (show Below w.heap.size w w1 ∧ Row w1 c 0 (bs (ciB (kw K))) from ⟨HS0.out.trans (hB.mono HS0.out.size), hR⟩)
  clear HS0 hB hR hb
  go_wp2_with fail
  refine (works_any _).mono ?_
  rintro e w2 ⟨rfl, hB⟩
  have HS2 := hide (show Below w.heap.size w w2 ∧ Row w2 c 0 (bs (ciB (kw K))) from ⟨HS1.out.1.trans (hB.mono HS1.out.1.size), HS1.out.2.below hB HS1.out.2.lt⟩)
  clear HS1 hB
  go_wp2_with fail
  refine (works_any _).mono ?_
  rintro e w3 ⟨rfl, hB⟩
  have HS3 := hide (show Below w.heap.size w w3 ∧ Row w3 c 0 (bs (ciB (kw K))) from ⟨HS2.out.1.trans (hB.mono HS2.out.1.size), HS2.out.2.below hB HS2.out.2.lt⟩)
  clear HS2 hB
  go_wp2_with fail
  go_ret
  exact ⟨rfl, HS3.out.1⟩

set_option maxRecDepth 100000 in
set_option maxHeartbeats 16000000 in
theorem aesBack_same (K a : ByteArray) (w : World) (hk : K.size = 32) (ha : a.size = 16) : Calls Try.prog 5 #[.string K, .string a, .string a] w fun e w' => e = .returned (.bool true) ∧ Below w.heap.size w w' := by
  have f1 : ((a.size : Int) != 16) = false := by rw [ha]; rfl
  obtain ⟨X, eX⟩ : ∃ z, et K a = z := ⟨_, rfl⟩
  obtain ⟨Z, eZ⟩ : ∃ z, dt K a = z := ⟨_, rfl⟩
  have zX : X.size = 16 := by rw [← eX]; exact et_size hk ha
  have zZ : Z.size = 16 := by rw [← eZ]; exact dt_size hk ha
  have zXi : (X.size : Int) = 16 := by omega
  have hY : dt K X = a := by rw [← eX]; exact dt_et hk ha
  have hW : et K Z = a := by rw [← eZ]; exact et_dt hk ha
  have HE := hide (And.intro eX (And.intro eZ (And.intro hY hW)))
  have HL := hide (And.intro hk (And.intro ha (And.intro zX zZ)))
  clear eX eZ hY hW hk ha zX zZ
  go_enter Try.func5, Try.ntmps5
  have HS0 := hide (Below.refl w.heap.size w)
  go_wp2_with fail
  refine (new_c K _ HL.out.1).mono ?_
  rintro e w1 ⟨c, rfl, hR, hb, hB⟩
  have HS1 := hide (show Below w.heap.size w w1 ∧ Row w1 c 0 (bs (ciB (kw K))) from ⟨HS0.out.trans (hB.mono HS0.out.size), hR⟩)
  clear HS0 hB hR hb
  go_wp2_with fail
  refine (works_any _).mono ?_
  rintro e w2 ⟨rfl, hB⟩
  have HS2 := hide (show Below w.heap.size w w2 ∧ Row w2 c 0 (bs (ciB (kw K))) from ⟨HS1.out.1.trans (hB.mono HS1.out.1.size), HS1.out.2.below hB HS1.out.2.lt⟩)
  clear HS1 hB
  go_wp2_with fail
  refine (enc_c K a _ c HL.out.1 HL.out.2.1 HS2.out.2).mono ?_
  rintro e w3 ⟨rfl, hB⟩
  rw [HE.out.1]
  have HS3 := hide (show Below w.heap.size w w3 ∧ Row w3 c 0 (bs (ciB (kw K))) from ⟨HS2.out.1.trans (hB.mono HS2.out.1.size), HS2.out.2.below hB HS2.out.2.lt⟩)
  clear HS2 hB
  go_wp2_with fail
  refine (dec_c K X _ c HL.out.1 HL.out.2.2.1 HS3.out.2).mono ?_
  rintro e w4 ⟨rfl, hB⟩
  rw [HE.out.2.2.1]
  have HS4 := hide (show Below w.heap.size w w4 ∧ Row w4 c 0 (bs (ciB (kw K))) from ⟨HS3.out.1.trans (hB.mono HS3.out.1.size), HS3.out.2.below hB HS3.out.2.lt⟩)
  clear HS3 hB
  go_wp2_with fail
  refine (dec_c K a _ c HL.out.1 HL.out.2.1 HS4.out.2).mono ?_
  rintro e w5 ⟨rfl, hB⟩
  rw [HE.out.2.1]
  have HS5 := hide (show Below w.heap.size w w5 ∧ Row w5 c 0 (bs (ciB (kw K))) from ⟨HS4.out.1.trans (hB.mono HS4.out.1.size), HS4.out.2.below hB HS4.out.2.lt⟩)
  clear HS4 hB
  go_wp2_with fail
  refine (enc_c K Z _ c HL.out.1 HL.out.2.2.2 HS5.out.2).mono ?_
  rintro e w6 ⟨rfl, hB⟩
  rw [HE.out.2.2.2]
  have HS6 := hide (show Below w.heap.size w w6 ∧ Row w6 c 0 (bs (ciB (kw K))) from ⟨HS5.out.1.trans (hB.mono HS5.out.1.size), HS5.out.2.below hB HS5.out.2.lt⟩)
  clear HS5 hB
  go_wp2_with fail
  refine (enc_c K a _ c HL.out.1 HL.out.2.1 HS6.out.2).mono ?_
  rintro e w7 ⟨rfl, hB⟩
  rw [HE.out.1]
  have HS7 := hide (show Below w.heap.size w w7 ∧ Row w7 c 0 (bs (ciB (kw K))) from ⟨HS6.out.1.trans (hB.mono HS6.out.1.size), HS6.out.2.below hB HS6.out.2.lt⟩)
  clear HS6 hB
  go_wp2_with fail
  refine (dec_c K a _ c HL.out.1 HL.out.2.1 HS7.out.2).mono ?_
  rintro e w8 ⟨rfl, hB⟩
  rw [HE.out.2.1]
  have HS8 := hide (show Below w.heap.size w w8 ∧ Row w8 c 0 (bs (ciB (kw K))) from ⟨HS7.out.1.trans (hB.mono HS7.out.1.size), HS7.out.2.below hB HS7.out.2.lt⟩)
  clear HS7 hB
  go_wp2_with fail
  go_ret
  exact ⟨rfl, HS8.out.1⟩

set_option maxRecDepth 100000 in
set_option maxHeartbeats 16000000 in
theorem aesBack_other (K a b : ByteArray) (w : World) (hk : K.size = 32) (ha : a.size = 16) (hb : b.size = 16) (hn : a ≠ b) : Calls Try.prog 5 #[.string K, .string a, .string b] w fun e w' => e = .returned (.bool true) ∧ Below w.heap.size w w' := by
  have f1 : ((a.size : Int) != 16) = false := by rw [ha]; rfl
  have f2 : ((b.size : Int) != 16) = false := by rw [hb]; rfl
  obtain ⟨X, eX⟩ : ∃ z, et K a = z := ⟨_, rfl⟩
  obtain ⟨Z, eZ⟩ : ∃ z, dt K a = z := ⟨_, rfl⟩
  have zX : X.size = 16 := by rw [← eX]; exact et_size hk ha
  have zZ : Z.size = 16 := by rw [← eZ]; exact dt_size hk ha
  have zXi : (X.size : Int) = 16 := by omega
  have hY : dt K X = a := by rw [← eX]; exact dt_et hk ha
  have hW : et K Z = a := by rw [← eZ]; exact et_dt hk ha
  obtain ⟨V, eV⟩ : ∃ z, et K b = z := ⟨_, rfl⟩
  obtain ⟨U, eU⟩ : ∃ z, dt K b = z := ⟨_, rfl⟩
  have n1 : X ≠ V := by rw [← eX, ← eV]; exact fun h => hn ((et_inj hk ha hb).1 h)
  have n2 : Z ≠ U := by rw [← eZ, ← eU]; exact fun h => hn ((dt_inj hk ha hb).1 h)
  have q1 : (X.toList == V.toList) = false := toList_ne n1
  have q2 : (Z.toList == U.toList) = false := toList_ne n2
  have q3 : (a.toList == b.toList) = false := toList_ne hn
  have HE := hide (And.intro eX (And.intro eZ (And.intro hY hW)))
  have HL := hide (And.intro hk (And.intro ha (And.intro zX zZ)))
  have HV := hide (And.intro eV (And.intro eU hb))
  clear eV eU hb n1 n2 hn
  clear eX eZ hY hW hk ha zX zZ
  go_enter Try.func5, Try.ntmps5
  have HS0 := hide (Below.refl w.heap.size w)
  go_wp2_with fail
  refine (new_c K _ HL.out.1).mono ?_
  rintro e w1 ⟨c, rfl, hR, hb, hB⟩
  have HS1 := hide (show Below w.heap.size w w1 ∧ Row w1 c 0 (bs (ciB (kw K))) from ⟨HS0.out.trans (hB.mono HS0.out.size), hR⟩)
  clear HS0 hB hR hb
  go_wp2_with fail
  refine (works_any _).mono ?_
  rintro e w2 ⟨rfl, hB⟩
  have HS2 := hide (show Below w.heap.size w w2 ∧ Row w2 c 0 (bs (ciB (kw K))) from ⟨HS1.out.1.trans (hB.mono HS1.out.1.size), HS1.out.2.below hB HS1.out.2.lt⟩)
  clear HS1 hB
  go_wp2_with fail
  refine (enc_c K a _ c HL.out.1 HL.out.2.1 HS2.out.2).mono ?_
  rintro e w3 ⟨rfl, hB⟩
  rw [HE.out.1]
  have HS3 := hide (show Below w.heap.size w w3 ∧ Row w3 c 0 (bs (ciB (kw K))) from ⟨HS2.out.1.trans (hB.mono HS2.out.1.size), HS2.out.2.below hB HS2.out.2.lt⟩)
  clear HS2 hB
  go_wp2_with fail
  refine (dec_c K X _ c HL.out.1 HL.out.2.2.1 HS3.out.2).mono ?_
  rintro e w4 ⟨rfl, hB⟩
  rw [HE.out.2.2.1]
  have HS4 := hide (show Below w.heap.size w w4 ∧ Row w4 c 0 (bs (ciB (kw K))) from ⟨HS3.out.1.trans (hB.mono HS3.out.1.size), HS3.out.2.below hB HS3.out.2.lt⟩)
  clear HS3 hB
  go_wp2_with fail
  refine (dec_c K a _ c HL.out.1 HL.out.2.1 HS4.out.2).mono ?_
  rintro e w5 ⟨rfl, hB⟩
  rw [HE.out.2.1]
  have HS5 := hide (show Below w.heap.size w w5 ∧ Row w5 c 0 (bs (ciB (kw K))) from ⟨HS4.out.1.trans (hB.mono HS4.out.1.size), HS4.out.2.below hB HS4.out.2.lt⟩)
  clear HS4 hB
  go_wp2_with fail
  refine (enc_c K Z _ c HL.out.1 HL.out.2.2.2 HS5.out.2).mono ?_
  rintro e w6 ⟨rfl, hB⟩
  rw [HE.out.2.2.2]
  have HS6 := hide (show Below w.heap.size w w6 ∧ Row w6 c 0 (bs (ciB (kw K))) from ⟨HS5.out.1.trans (hB.mono HS5.out.1.size), HS5.out.2.below hB HS5.out.2.lt⟩)
  clear HS5 hB
  go_wp2_with fail
  refine (enc_c K b _ c HL.out.1 HV.out.2.2 HS6.out.2).mono ?_
  rintro e w7 ⟨rfl, hB⟩
  rw [HV.out.1]
  have HS7 := hide (show Below w.heap.size w w7 ∧ Row w7 c 0 (bs (ciB (kw K))) from ⟨HS6.out.1.trans (hB.mono HS6.out.1.size), HS6.out.2.below hB HS6.out.2.lt⟩)
  clear HS6 hB
  go_wp2_with fail
  refine (dec_c K b _ c HL.out.1 HV.out.2.2 HS7.out.2).mono ?_
  rintro e w8 ⟨rfl, hB⟩
  rw [HV.out.2.1]
  have HS8 := hide (show Below w.heap.size w w8 ∧ Row w8 c 0 (bs (ciB (kw K))) from ⟨HS7.out.1.trans (hB.mono HS7.out.1.size), HS7.out.2.below hB HS7.out.2.lt⟩)
  clear HS7 hB
  go_wp2_with fail
  go_ret
  exact ⟨rfl, HS8.out.1⟩

theorem aesBack_any (w : World) (K : ByteArray) (m0 : K.size ≤ 140737488351232) (a : ByteArray) (m1 : a.size ≤ 140737488351232) (b : ByteArray) (m2 : b.size ≤ 140737488351232) : Calls Try.prog 5 #[.string K, .string a, .string b] w fun e w' => e = .returned (.bool true) ∧ Below w.heap.size w w' := by
  by_cases hk : K.size = 32
  · by_cases ha : a.size = 16
    · by_cases hb : b.size = 16
      · by_cases e : a = b
        · subst e; exact aesBack_same K a w hk ha
        · exact aesBack_other K a b w hk ha hb e
      · exact aesBack_b K a b w hk ha hb
    · exact aesBack_a K a b w hk ha
  · exact aesBack_key K a b w hk

theorem aesBack_own : ownKnob Try.prog.godebug = none := by kernel_rfl
theorem aesBack_laidOut : laidOutB Try.prog = true := by kernel_rfl

set_option maxRecDepth 100000 in
theorem aesBack_lifted (os : Os) (started : os.Started) (H : Type) (enc : TypeId × Value → H) :
    ReturnsInHanded {} Try.checked os 5 .any (Rows.aesBackSpec.pre6 enc Try.prog Try.f5 Rows.aesBackRow.domain false) (Rows.aesBackSpec.post enc Try.prog Try.f5 false true false false) := by
  refine returnsInHanded_of_change_sized (C := Try.checked) aesBack_own started (by kernel_rfl) Try.func5
    (ChangeSpec.witness6 (enc := enc) (C := Try.checked) false ⟨#[], #[.string ⟨#[]⟩, .string ⟨#[]⟩, .string ⟨#[]⟩], []⟩ 8 (by kernel_rfl) (by kernel_rfl) (by kernel_rfl) (by kernel_rfl)) ?_
  intro W base args ds gs before hval0 hW hcnd hsz0 _
  have hval : ∀ (j : Nat) t v, Try.f5.params[j]? = some t → args[j]? = some v → Value.okWide Try.prog W .any base t v := hval0
  have hW' := hW
  obtain ⟨p, q, hA0, hV, rfl, hfz, hnd⟩ := hW
  have hA : DataW.TrodAll enc Try.prog W 0 (fun _ => true) true Try.f5.params.toList args.toList ds p := hA0
  rw [Try.params5] at hA hval
  obtain ⟨v0, vs0, d0, ds0, p0, q0, hargs, rfl, rfl, h0, r0⟩ := trodAll_cons hA
  obtain ⟨v1, vs1, d1, ds1, p1, q1, rfl, rfl, rfl, h1, r1⟩ := trodAll_cons r0
  obtain ⟨v2, vs2, d2, ds2, p2, q2, rfl, rfl, rfl, h2, r2⟩ := trodAll_cons r1
  obtain ⟨rfl, rfl, rfl⟩ := trodAll_nil r2
  obtain rfl : args = #[v0, v1, v2] := by cases args; simp_all
  obtain ⟨rfl, rfl⟩ := trodVars_none hV
  obtain ⟨a0, rfl, rfl, rfl, w0⟩ := open_string Try.underlying9 (hval 0 9 v0 rfl rfl) h0
  have s0 : a0.size ≤ 140737488351232 := sized_string hsz0 (j := 0) (t := 9) rfl rfl
  obtain ⟨a1, rfl, rfl, rfl, w1⟩ := open_string Try.underlying9 (hval 1 9 v1 rfl rfl) h1
  have s1 : a1.size ≤ 140737488351232 := sized_string hsz0 (j := 1) (t := 9) rfl rfl
  obtain ⟨a2, rfl, rfl, rfl, w2⟩ := open_string Try.underlying9 (hval 2 9 v2 rfl rfl) h2
  have s2 : a2.size ≤ 140737488351232 := sized_string hsz0 (j := 2) (t := 9) rfl rfl
  clear hA0 hval0 hsz0
  simp only [List.append_nil] at hW'
  refine (aesBack_any W a0 s0 a1 s1 a2 s2).mono fun e W' ⟨he, bel⟩ => ?_
  subst he
  exact ⟨_, rfl, _, _, _, [], _, [], hW', trodAll_mk1 (shut_bool Try.underlying4 _), (trodAll_cons_mk (shut_string Try.underlying9 w0) (trodAll_cons_mk (shut_string Try.underlying9 w1) (trodAll_cons_mk (shut_string Try.underlying9 w2) trodAll_mk0))), rfl, bel.frame _, fun h => by cases h⟩

theorem aesBack_holds : Rows.AesBackSaid :=
  OpenClaim.holds_of_wide 5 Try.f5 rfl rfl rfl rfl rfl rfl rfl ⟨rfl, rfl, rfl, rfl, rfl⟩ rfl rfl rfl rfl rfl (by kernel_rfl) Try.func5 (by kernel_rfl)
    (of_decide_eq_true (by kernel_rfl)) (by unfold Func.isWrapper; first | (rw [if_pos (by decide +kernel)]; kernel_rfl) | (rw [if_neg (by decide +kernel)]; exact ⟨rfl, rfl⟩))
    (fun os started H enc _ => aesBack_lifted os started H enc)

#print axioms aesBack_holds

end Go.Proofs.Ytllhnbnddcghoaa
