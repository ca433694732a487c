/- For any key and first block and any two texts the statement CbcTells returns true and its arguments read as before. No condition. -/
import Derived.Test.YtknjmmbebkcnpaaRun13
import Derived.Test.YtknjmmbebkcnpaaRun19
namespace Go.Proofs.Ytknjmmbebkcnpaa
open Go.ChangeShapes Go.WideShapes Go.ChangeAt Go.RowKit Bk
open Go.ChangeMaps (open_string shut_string)
set_option linter.unusedVariables false
set_option linter.unusedSimpArgs false

set_option maxRecDepth 100000 in
set_option maxHeartbeats 16000000 in
theorem cbcTells_no0 (K f d s : ByteArray) (w : World) (hK : 100 < K.size) : Calls Try.prog 3 #[.string K, .string f, .string d, .string s] w fun e w' => e = .returned (.bool true) ∧ Below w.heap.size w w' := by
  have qK : (100 : Int) < (K.size : Int) := by omega
  clear hK
  go_enter Try.func3, Try.ntmps3
  have HS0 := hide (Below.refl w.heap.size w)
  go_wp2_with fail
  refine (awakeC_any _).mono ?_
  rintro e w1 ⟨rfl, hB⟩
  have HS1 := hide (show Below w.heap.size w w1 from HS0.out.trans (hB.mono HS0.out.size))
  clear HS0 hB
  go_wp2_with fail
  go_ret
  exact ⟨rfl, HS1.out⟩

set_option maxRecDepth 100000 in
set_option maxHeartbeats 16000000 in
theorem cbcTells_no1 (K f d s : ByteArray) (w : World) (hK : K.size ≤ 100) (hf : 100 < f.size) : Calls Try.prog 3 #[.string K, .string f, .string d, .string s] w fun e w' => e = .returned (.bool true) ∧ Below w.heap.size w w' := by
  have qK : ¬ (100 : Int) < (K.size : Int) := by omega
  have qf : (100 : Int) < (f.size : Int) := by omega
  clear hK hf
  go_enter Try.func3, Try.ntmps3
  have HS0 := hide (Below.refl w.heap.size w)
  go_wp2_with fail
  refine (awakeC_any _).mono ?_
  rintro e w1 ⟨rfl, hB⟩
  have HS1 := hide (show Below w.heap.size w w1 from HS0.out.trans (hB.mono HS0.out.size))
  clear HS0 hB
  go_wp2_with fail
  go_ret
  exact ⟨rfl, HS1.out⟩

set_option maxRecDepth 100000 in
set_option maxHeartbeats 16000000 in
theorem cbcTells_no2 (K f d s : ByteArray) (w : World) (hK : K.size ≤ 100) (hf : f.size ≤ 100) (hd : 600 < d.size) : Calls Try.prog 3 #[.string K, .string f, .string d, .string s] w fun e w' => e = .returned (.bool true) ∧ Below w.heap.size w w' := by
  have qK : ¬ (100 : Int) < (K.size : Int) := by omega
  have qf : ¬ (100 : Int) < (f.size : Int) := by omega
  have qd : (600 : Int) < (d.size : Int) := by omega
  clear hK hf hd
  go_enter Try.func3, Try.ntmps3
  have HS0 := hide (Below.refl w.heap.size w)
  go_wp2_with fail
  refine (awakeC_any _).mono ?_
  rintro e w1 ⟨rfl, hB⟩
  have HS1 := hide (show Below w.heap.size w w1 from HS0.out.trans (hB.mono HS0.out.size))
  clear HS0 hB
  go_wp2_with fail
  go_ret
  exact ⟨rfl, HS1.out⟩

set_option maxRecDepth 100000 in
set_option maxHeartbeats 16000000 in
theorem cbcTells_no3 (K f d s : ByteArray) (w : World) (hK : K.size ≤ 100) (hf : f.size ≤ 100) (hd : d.size ≤ 600) (hs : 600 < s.size) : Calls Try.prog 3 #[.string K, .string f, .string d, .string s] w fun e w' => e = .returned (.bool true) ∧ Below w.heap.size w w' := by
  have qK : ¬ (100 : Int) < (K.size : Int) := by omega
  have qf : ¬ (100 : Int) < (f.size : Int) := by omega
  have qd : ¬ (600 : Int) < (d.size : Int) := by omega
  have qs : (600 : Int) < (s.size : Int) := by omega
  clear hK hf hd hs
  go_enter Try.func3, Try.ntmps3
  have HS0 := hide (Below.refl w.heap.size w)
  go_wp2_with fail
  refine (awakeC_any _).mono ?_
  rintro e w1 ⟨rfl, hB⟩
  have HS1 := hide (show Below w.heap.size w w1 from HS0.out.trans (hB.mono HS0.out.size))
  clear HS0 hB
  go_wp2_with fail
  go_ret
  exact ⟨rfl, HS1.out⟩

set_option maxRecDepth 100000 in
set_option maxHeartbeats 16000000 in
theorem cbcTells_bad (K f d s : ByteArray) (w : World) (hK : K.size ≤ 100) (hf : f.size ≤ 100) (hd : d.size ≤ 600) (hs : s.size ≤ 600) (h : K.size ≠ 32 ∨ f.size ≠ 16) : Calls Try.prog 3 #[.string K, .string f, .string d, .string s] w fun e w' => e = .returned (.bool true) ∧ Below w.heap.size w w' := by
  have qK : ¬ (100 : Int) < (K.size : Int) := by omega
  have qf : ¬ (100 : Int) < (f.size : Int) := by omega
  have qd : ¬ (600 : Int) < (d.size : Int) := by omega
  have qs : ¬ (600 : Int) < (s.size : Int) := by omega
  have hB0 := hide h
  have HD := hide hd
  obtain ⟨F, eF⟩ : ∃ F, frm d = F := ⟨_, rfl⟩
  have HF := hide eF
  clear hK hf hd hs h eF
  go_enter Try.func3, Try.ntmps3
  have HS0 := hide (Below.refl w.heap.size w)
  go_wp2_with fail
  refine (cSeal_bad K f d _ hB0.out).mono ?_
  rintro e w1 ⟨rfl, hB⟩
  have HS1 := hide (show Below w.heap.size w w1 from HS0.out.trans (hB.mono HS0.out.size))
  clear HS0 hB
  go_wp2_with fail
  refine (rfSeal_bad K f d _ hB0.out).mono ?_
  rintro e w2 ⟨rfl, hB⟩
  have HS2 := hide (show Below w.heap.size w w2 from HS1.out.trans (hB.mono HS1.out.size))
  clear HS1 hB
  go_wp2_with fail
  refine (cOpen_bad K f s _ hB0.out).mono ?_
  rintro e w3 ⟨rfl, hB⟩
  have HS3 := hide (show Below w.heap.size w w3 from HS2.out.trans (hB.mono HS2.out.size))
  clear HS2 hB
  go_wp2_with fail
  refine (rfOpen_bad K f s _ hB0.out).mono ?_
  rintro e w4 ⟨rfl, hB⟩
  have HS4 := hide (show Below w.heap.size w w4 from HS3.out.trans (hB.mono HS3.out.size))
  clear HS3 hB
  go_wp2_with fail
  refine (cFrame_any d _ (by have := HD.out; omega)).mono ?_
  rintro e w5 ⟨rfl, hB⟩
  rw [HF.out]
  have HS5 := hide (show Below w.heap.size w w5 from HS4.out.trans (hB.mono HS4.out.size))
  clear HS4 hB
  go_wp2_with fail
  refine (rfFrame_any d _ (by have := HD.out; omega)).mono ?_
  rintro e w6 ⟨rfl, hB⟩
  rw [HF.out]
  have HS6 := hide (show Below w.heap.size w w6 from HS5.out.trans (hB.mono HS5.out.size))
  clear HS5 hB
  go_wp2_with fail
  refine (awakeC_any _).mono ?_
  rintro e w7 ⟨rfl, hB⟩
  have HS7 := hide (show Below w.heap.size w w7 from HS6.out.trans (hB.mono HS6.out.size))
  clear HS6 hB
  go_wp2_with fail
  go_ret
  exact ⟨rfl, HS7.out⟩

set_option maxRecDepth 100000 in
set_option maxHeartbeats 16000000 in
theorem cbcTells_ok (K f d s : ByteArray) (w : World) (hk : K.size = 32) (hf : f.size = 16) (hd : d.size ≤ 600) (hs : s.size ≤ 600) : Calls Try.prog 3 #[.string K, .string f, .string d, .string s] w fun e w' => e = .returned (.bool true) ∧ Below w.heap.size w w' := by
  have qK : ¬ (100 : Int) < (K.size : Int) := by omega
  have qf : ¬ (100 : Int) < (f.size : Int) := by omega
  have qd : ¬ (600 : Int) < (d.size : Int) := by omega
  have qs : ¬ (600 : Int) < (s.size : Int) := by omega
  obtain ⟨F, eF⟩ : ∃ F, frm d = F := ⟨_, rfl⟩
  obtain ⟨S, eS⟩ : ∃ F, seT K f d = F := ⟨_, rfl⟩
  obtain ⟨O, eO⟩ : ∃ F, opT K f s = F := ⟨_, rfl⟩
  obtain ⟨E, eE⟩ : ∃ F, opE K f s = F := ⟨_, rfl⟩
  have HE := hide (And.intro eF (And.intro eS (And.intro eO eE)))
  have HL := hide (And.intro hk (And.intro hf (And.intro hd hs)))
  clear hk hf hd hs eF eS eO eE
  go_enter Try.func3, Try.ntmps3
  have HS0 := hide (Below.refl w.heap.size w)
  go_wp2_with fail
  refine (cSeal_ok K f d _ HL.out.1 HL.out.2.1 (by have := HL.out.2.2.1; omega)).mono ?_
  rintro e w1 ⟨rfl, hB⟩
  rw [HE.out.2.1]
  have HS1 := hide (show Below w.heap.size w w1 from HS0.out.trans (hB.mono HS0.out.size))
  clear HS0 hB
  go_wp2_with fail
  refine (rfSeal_ok K f d _ HL.out.1 HL.out.2.1 (by have := HL.out.2.2.1; omega)).mono ?_
  rintro e w2 ⟨rfl, hB⟩
  rw [HE.out.2.1]
  have HS2 := hide (show Below w.heap.size w w2 from HS1.out.trans (hB.mono HS1.out.size))
  clear HS1 hB
  go_wp2_with fail
  refine (cOpen_any K f s _ HL.out.1 HL.out.2.1 (by have := HL.out.2.2.2; omega)).mono ?_
  rintro e w3 ⟨rfl, hB⟩
  rw [HE.out.2.2.1, HE.out.2.2.2]
  have HS3 := hide (show Below w.heap.size w w3 from HS2.out.trans (hB.mono HS2.out.size))
  clear HS2 hB
  go_wp2_with fail
  refine (rfOpen_any K f s _ HL.out.1 HL.out.2.1 (by have := HL.out.2.2.2; omega)).mono ?_
  rintro e w4 ⟨rfl, hB⟩
  rw [HE.out.2.2.1, HE.out.2.2.2]
  have HS4 := hide (show Below w.heap.size w w4 from HS3.out.trans (hB.mono HS3.out.size))
  clear HS3 hB
  go_wp2_with fail
  refine (cFrame_any d _ (by have := HL.out.2.2.1; omega)).mono ?_
  rintro e w5 ⟨rfl, hB⟩
  rw [HE.out.1]
  have HS5 := hide (show Below w.heap.size w w5 from HS4.out.trans (hB.mono HS4.out.size))
  clear HS4 hB
  go_wp2_with fail
  refine (rfFrame_any d _ (by have := HL.out.2.2.1; omega)).mono ?_
  rintro e w6 ⟨rfl, hB⟩
  rw [HE.out.1]
  have HS6 := hide (show Below w.heap.size w w6 from HS5.out.trans (hB.mono HS5.out.size))
  clear HS5 hB
  go_wp2_with fail
  refine (awakeC_any _).mono ?_
  rintro e w7 ⟨rfl, hB⟩
  have HS7 := hide (show Below w.heap.size w w7 from HS6.out.trans (hB.mono HS6.out.size))
  clear HS6 hB
  go_wp2_with fail
  go_ret
  exact ⟨rfl, HS7.out⟩

theorem cbcTells_any (w : World) (K : ByteArray) (m0 : K.size ≤ 140737488351232) (f : ByteArray) (m1 : f.size ≤ 140737488351232) (d : ByteArray) (m2 : d.size ≤ 140737488351232) (s : ByteArray) (m3 : s.size ≤ 140737488351232) : Calls Try.prog 3 #[.string K, .string f, .string d, .string s] w fun e w' => e = .returned (.bool true) ∧ Below w.heap.size w w' := by
  by_cases hK : K.size ≤ 100
  · by_cases hf : f.size ≤ 100
    · by_cases hd : d.size ≤ 600
      · by_cases hs : s.size ≤ 600
        · by_cases h : K.size = 32 ∧ f.size = 16
          · exact cbcTells_ok K f d s w h.1 h.2 hd hs
          · exact cbcTells_bad K f d s w hK hf hd hs (by omega)
        · exact cbcTells_no3 K f d s w hK hf hd (by omega)
      · exact cbcTells_no2 K f d s w hK hf (by omega)
    · exact cbcTells_no1 K f d s w hK (by omega)
  · exact cbcTells_no0 K f d s w (by omega)

theorem cbcTells_own : ownKnob Try.prog.godebug = none := by kernel_rfl
theorem cbcTells_laidOut : laidOutB Try.prog = true := by kernel_rfl

set_option maxRecDepth 100000 in
theorem cbcTells_lifted (os : Os) (started : os.Started) (H : Type) (enc : TypeId × Value → H) :
    ReturnsInHanded {} Try.checked os 3 .any (Rows.cbcTellsSpec.pre6 enc Try.prog Try.f3 Rows.cbcTellsRow.domain false) (Rows.cbcTellsSpec.post enc Try.prog Try.f3 false true false false) := by
  refine returnsInHanded_of_change_sized (C := Try.checked) cbcTells_own started (by kernel_rfl) Try.func3
    (ChangeSpec.witness6 (enc := enc) (C := Try.checked) false ⟨#[], #[.string ⟨#[]⟩, .string ⟨#[]⟩, .string ⟨#[]⟩, .string ⟨#[]⟩], []⟩ 8 (by kernel_rfl) (by kernel_rfl) (by kernel_rfl) (by kernel_rfl)) ?_
  intro W base args ds gs before hval0 hW hcnd hsz0 _
  have hval : ∀ (j : Nat) t v, Try.f3.params[j]? = some t → args[j]? = some v → Value.okWide Try.prog W .any base t v := hval0
  have hW' := hW
  obtain ⟨p, q, hA0, hV, rfl, hfz, hnd⟩ := hW
  have hA : DataW.TrodAll enc Try.prog W 0 (fun _ => true) true Try.f3.params.toList args.toList ds p := hA0
  rw [Try.params3] at hA hval
  obtain ⟨v0, vs0, d0, ds0, p0, q0, hargs, rfl, rfl, h0, r0⟩ := trodAll_cons hA
  obtain ⟨v1, vs1, d1, ds1, p1, q1, rfl, rfl, rfl, h1, r1⟩ := trodAll_cons r0
  obtain ⟨v2, vs2, d2, ds2, p2, q2, rfl, rfl, rfl, h2, r2⟩ := trodAll_cons r1
  obtain ⟨v3, vs3, d3, ds3, p3, q3, rfl, rfl, rfl, h3, r3⟩ := trodAll_cons r2
  obtain ⟨rfl, rfl, rfl⟩ := trodAll_nil r3
  obtain rfl : args = #[v0, v1, v2, v3] := by cases args; simp_all
  obtain ⟨rfl, rfl⟩ := trodVars_none hV
  obtain ⟨a0, rfl, rfl, rfl, w0⟩ := open_string Try.underlying9 (hval 0 9 v0 rfl rfl) h0
  have s0 : a0.size ≤ 140737488351232 := sized_string hsz0 (j := 0) (t := 9) rfl rfl
  obtain ⟨a1, rfl, rfl, rfl, w1⟩ := open_string Try.underlying9 (hval 1 9 v1 rfl rfl) h1
  have s1 : a1.size ≤ 140737488351232 := sized_string hsz0 (j := 1) (t := 9) rfl rfl
  obtain ⟨a2, rfl, rfl, rfl, w2⟩ := open_string Try.underlying9 (hval 2 9 v2 rfl rfl) h2
  have s2 : a2.size ≤ 140737488351232 := sized_string hsz0 (j := 2) (t := 9) rfl rfl
  obtain ⟨a3, rfl, rfl, rfl, w3⟩ := open_string Try.underlying9 (hval 3 9 v3 rfl rfl) h3
  have s3 : a3.size ≤ 140737488351232 := sized_string hsz0 (j := 3) (t := 9) rfl rfl
  clear hA0 hval0 hsz0
  simp only [List.append_nil] at hW'
  refine (cbcTells_any W a0 s0 a1 s1 a2 s2 a3 s3).mono fun e W' ⟨he, bel⟩ => ?_
  subst he
  exact ⟨_, rfl, _, _, _, [], _, [], hW', trodAll_mk1 (shut_bool Try.underlying4 _), (trodAll_cons_mk (shut_string Try.underlying9 w0) (trodAll_cons_mk (shut_string Try.underlying9 w1) (trodAll_cons_mk (shut_string Try.underlying9 w2) (trodAll_cons_mk (shut_string Try.underlying9 w3) trodAll_mk0)))), rfl, bel.frame _, fun h => by cases h⟩

theorem cbcTells_holds : Rows.CbcTellsSaid :=
  OpenClaim.holds_of_wide 3 Try.f3 rfl rfl rfl rfl rfl rfl rfl ⟨rfl, rfl, rfl, rfl, rfl⟩ rfl rfl rfl rfl rfl (by kernel_rfl) Try.func3 (by kernel_rfl)
    (of_decide_eq_true (by kernel_rfl)) (by unfold Func.isWrapper; first | (rw [if_pos (by decide +kernel)]; kernel_rfl) | (rw [if_neg (by decide +kernel)]; exact ⟨rfl, rfl⟩))
    (fun os started H enc _ => cbcTells_lifted os started H enc)

#print axioms cbcTells_holds

end Go.Proofs.Ytknjmmbebkcnpaa
