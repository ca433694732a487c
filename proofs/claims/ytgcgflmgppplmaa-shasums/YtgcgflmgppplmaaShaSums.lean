/- For any two strings the statement ShaSums returns true and its arguments read as before. No condition. -/
import Derived.Test.YtgcgflmgppplmaaSArgs
import Derived.Test.YtgcgflmgppplmaaQHmac
import Derived.SizedLaws
namespace Go.Proofs.Ytgcgflmgppplmaa
open Go.ChangeShapes Go.WideShapes Go.ChangeAt Go.RowKit Bk
open Go.ChangeMaps (open_string shut_string)
set_option linter.unusedVariables false
set_option linter.unusedSimpArgs false

set_option maxRecDepth 100000 in
set_option maxHeartbeats 8000000 in
theorem shaSums_any (w : World) (key : ByteArray) (m0 : key.size ≤ 140737488351232) (s : ByteArray) (m1 : s.size ≤ 140737488351232) :
    Calls Try.prog 4 #[.string key, .string s] w fun e w' => e = .returned (.bool true) ∧ Below w.heap.size w w' := by
  by_cases h1 : 20000 < s.size
  · have f1 : (20000 : Int) < (s.size : Int) := by omega
    go_enter Try.func4, Try.ntmps4
    go_wp2
    go_ret
    exact ⟨rfl, Below.refl _ _⟩
  · have f1 : ¬ ((20000 : Int) < (s.size : Int)) := by omega
    by_cases h2 : 20000 < key.size
    · have f2 : (20000 : Int) < (key.size : Int) := by omega
      go_enter Try.func4, Try.ntmps4
      go_wp2
      go_ret
      exact ⟨rfl, Below.refl _ _⟩
    · have f2 : ¬ ((20000 : Int) < (key.size : Int)) := by omega
      obtain ⟨V, eV⟩ : ∃ V, shm key s = V := ⟨_, rfl⟩
      obtain ⟨D, eD⟩ : ∃ D, sdg (sb s) = D := ⟨_, rfl⟩
      have HV := hide (And.intro eV eD)
      have hk := hide (show key.size ≤ 20000 ∧ s.size ≤ 20000 by omega)
      clear eV eD h1 h2 m0 m1
      go_enter Try.func4, Try.ntmps4
      have HB0 := hide (Below.refl w.heap.size w)
      go_wp2_with fail
      refine (ssum_any s _ (by have := hk.out; omega)).mono ?_
      rintro e w1 ⟨rfl, hw1⟩
      rw [HV.out.2]
      have HBw1 := hide (HB0.out.trans (hw1.mono HB0.out.size))
      clear hw1 HB0
      go_wp2_with fail
      refine (rsum_any s _ (by have := hk.out; omega)).mono ?_
      rintro e w2 ⟨rfl, hw2⟩
      rw [HV.out.2]
      have HBw2 := hide (HBw1.out.trans (hw2.mono HBw1.out.size))
      clear hw2 HBw1
      go_wp2_with fail
      refine (shmac_any key s _ (by have := hk.out; omega) (by have := hk.out; omega)).mono ?_
      rintro e w3 ⟨rfl, hw3⟩
      rw [HV.out.1]
      have HBw3 := hide (HBw2.out.trans (hw3.mono HBw2.out.size))
      clear hw3 HBw2
      go_wp2_with fail
      refine (rhmac_any key s _ (by have := hk.out; omega) (by have := hk.out; omega)).mono ?_
      rintro e w4 ⟨rfl, hw4⟩
      rw [HV.out.1]
      have HBw4 := hide (HBw3.out.trans (hw4.mono HBw3.out.size))
      clear hw4 HBw3
      go_wp2_with fail
      go_ret
      exact ⟨rfl, HBw4.out⟩

theorem shaSums_own : ownKnob Try.prog.godebug = none := by kernel_rfl
theorem shaSums_laidOut : laidOutB Try.prog = true := by kernel_rfl

set_option maxRecDepth 100000 in
theorem shaSums_lifted (os : Os) (started : os.Started) (H : Type) (enc : TypeId × Value → H) :
    ReturnsInHanded {} Try.checked os 4 .any (Rows.shaSumsSpec.pre6 enc Try.prog Try.f4 Rows.shaSumsRow.domain false) (Rows.shaSumsSpec.post enc Try.prog Try.f4 false true false false) := by
  refine returnsInHanded_of_change_sized (C := Try.checked) shaSums_own started (by kernel_rfl) Try.func4
    (ChangeSpec.witness6 (enc := enc) (C := Try.checked) false ⟨#[], #[.string ⟨#[]⟩, .string ⟨#[]⟩], []⟩ 8 (by kernel_rfl) (by kernel_rfl) (by kernel_rfl) (by kernel_rfl)) ?_
  intro W base args ds gs before hval0 hW hcnd hsz0 _
  have hval : ∀ (j : Nat) t v, Try.f4.params[j]? = some t → args[j]? = some v → Value.okWide Try.prog W .any base t v := hval0
  have hW' := hW
  obtain ⟨p, q, hA0, hV, rfl, hfz, hnd⟩ := hW
  have hA : DataW.TrodAll enc Try.prog W 0 (fun _ => true) true Try.f4.params.toList args.toList ds p := hA0
  rw [Try.params4] at hA hval
  obtain ⟨v0, vs0, d0, ds0, p0, q0, hargs, rfl, rfl, h0, r0⟩ := trodAll_cons hA
  obtain ⟨v1, vs1, d1, ds1, p1, q1, rfl, rfl, rfl, h1, r1⟩ := trodAll_cons r0
  obtain ⟨rfl, rfl, rfl⟩ := trodAll_nil r1
  obtain rfl : args = #[v0, v1] := by cases args; simp_all
  obtain ⟨rfl, rfl⟩ := trodVars_none hV
  obtain ⟨a0, rfl, rfl, rfl, w0⟩ := open_string Try.underlying9 (hval 0 9 v0 rfl rfl) h0
  have s0 : a0.size ≤ 140737488351232 := sized_string hsz0 (j := 0) (t := 9) rfl rfl
  obtain ⟨a1, rfl, rfl, rfl, w1⟩ := open_string Try.underlying9 (hval 1 9 v1 rfl rfl) h1
  have s1 : a1.size ≤ 140737488351232 := sized_string hsz0 (j := 1) (t := 9) rfl rfl
  clear hA0 hval0 hsz0
  simp only [List.append_nil] at hW'
  refine (shaSums_any W a0 s0 a1 s1).mono fun e W' ⟨he, bel⟩ => ?_
  subst he
  exact ⟨_, rfl, _, _, _, [], _, [], hW', trodAll_mk1 (shut_bool Try.underlying4 _), (trodAll_cons_mk (shut_string Try.underlying9 w0) (trodAll_cons_mk (shut_string Try.underlying9 w1) trodAll_mk0)), rfl, bel.frame _, fun h => by cases h⟩

theorem shaSums_holds : Rows.ShaSumsSaid :=
  OpenClaim.holds_of_wide 4 Try.f4 rfl rfl rfl rfl rfl rfl rfl ⟨rfl, rfl, rfl, rfl, rfl⟩ rfl rfl rfl rfl rfl (by kernel_rfl) Try.func4 (by kernel_rfl)
    (of_decide_eq_true (by kernel_rfl)) (by unfold Func.isWrapper; first | (rw [if_pos (by decide +kernel)]; kernel_rfl) | (rw [if_neg (by decide +kernel)]; exact ⟨rfl, rfl⟩))
    (fun os started H enc _ => shaSums_lifted os started H enc)

#print axioms shaSums_holds

end Go.Proofs.Ytgcgflmgppplmaa
