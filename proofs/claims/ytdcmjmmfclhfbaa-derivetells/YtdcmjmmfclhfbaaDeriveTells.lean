/- For any password, salt, number of rounds and block the statement DeriveTells returns true and its arguments read as before. No condition. -/
import Derived.Test.YtdcmjmmfclhfbaaKArgs
import Derived.Test.YtdcmjmmfclhfbaaKRf
namespace Go.Proofs.Ytdcmjmmfclhfbaa
open Go.ChangeShapes Go.WideShapes Go.ChangeAt Go.RowKit Bk
open Go.ChangeMaps (open_string shut_string)
set_option linter.unusedVariables false
set_option linter.unusedSimpArgs false

set_option maxRecDepth 100000 in
set_option maxHeartbeats 8000000 in
theorem deriveTells_big0 (p s : ByteArray) (n b : Int) (w : World) (h : 300 < p.size) : Calls Try.prog 3 #[.string p, .string s, .int .i64 n, .int .i64 b] w fun e w' => e = .returned (.bool true) ∧ Below w.heap.size w w' := by
  have f0 : (300 : Int) < (p.size : Int) := by omega
  clear h
  go_enter Try.func3, Try.ntmps3
  have HB0 := hide (Below.refl w.heap.size w)
  go_wp2_with fail
  refine (awake8_any _).mono ?_
  rintro e w1 ⟨rfl, hw1⟩
  have HB1 := hide (HB0.out.trans (hw1.mono HB0.out.size))
  clear hw1 HB0
  go_wp2_with fail
  go_ret
  exact ⟨rfl, HB1.out⟩

set_option maxRecDepth 100000 in
set_option maxHeartbeats 8000000 in
theorem deriveTells_big1 (p s : ByteArray) (n b : Int) (w : World) (h : p.size ≤ 300 ∧ 100 < s.size) : Calls Try.prog 3 #[.string p, .string s, .int .i64 n, .int .i64 b] w fun e w' => e = .returned (.bool true) ∧ Below w.heap.size w w' := by
  have f0 : ¬ ((300 : Int) < (p.size : Int)) := by omega
  have f1 : (100 : Int) < (s.size : Int) := by omega
  clear h
  go_enter Try.func3, Try.ntmps3
  have HB0 := hide (Below.refl w.heap.size w)
  go_wp2_with fail
  refine (awake8_any _).mono ?_
  rintro e w1 ⟨rfl, hw1⟩
  have HB1 := hide (HB0.out.trans (hw1.mono HB0.out.size))
  clear hw1 HB0
  go_wp2_with fail
  go_ret
  exact ⟨rfl, HB1.out⟩

set_option maxRecDepth 100000 in
set_option maxHeartbeats 8000000 in
theorem deriveTells_small (p s : ByteArray) (n b : Int) (w : World) (b0 : p.size ≤ 300) (b1 : s.size ≤ 100) : Calls Try.prog 3 #[.string p, .string s, .int .i64 n, .int .i64 b] w fun e w' => e = .returned (.bool true) ∧ Below w.heap.size w w' := by
  have f0 : ¬ ((300 : Int) < (p.size : Int)) := by omega
  have f1 : ¬ ((100 : Int) < (s.size : Int)) := by omega
  clear b0 b1
  go_enter Try.func3, Try.ntmps3
  have HB0 := hide (Below.refl w.heap.size w)
  go_wp2_with fail
  refine (key_any p s n _).mono ?_
  rintro e w1 ⟨rfl, hw1⟩
  have HB1 := hide (HB0.out.trans (hw1.mono HB0.out.size))
  clear hw1 HB0
  go_wp2_with fail
  refine (rfkey8_any p s n _).mono ?_
  rintro e w2 ⟨rfl, hw2⟩
  have HB2 := hide (HB1.out.trans (hw2.mono HB1.out.size))
  clear hw2 HB1
  go_wp2_with fail
  refine (stretch_any p s n b _).mono ?_
  rintro e w3 ⟨rfl, hw3⟩
  have HB3 := hide (HB2.out.trans (hw3.mono HB2.out.size))
  clear hw3 HB2
  go_wp2_with fail
  refine (rfstretch_any p s n b _).mono ?_
  rintro e w4 ⟨rfl, hw4⟩
  have HB4 := hide (HB3.out.trans (hw4.mono HB3.out.size))
  clear hw4 HB3
  go_wp2_with fail
  refine (awake8_any _).mono ?_
  rintro e w5 ⟨rfl, hw5⟩
  have HB5 := hide (HB4.out.trans (hw5.mono HB4.out.size))
  clear hw5 HB4
  go_wp2_with fail
  go_ret
  exact ⟨rfl, HB5.out⟩

theorem deriveTells_any (w : World) (p : ByteArray) (m0 : p.size ≤ 140737488351232) (s : ByteArray) (m1 : s.size ≤ 140737488351232) (n : Int) (bn : -9223372036854775808 ≤ n ∧ n ≤ 9223372036854775807) (b : Int) (bb : -9223372036854775808 ≤ b ∧ b ≤ 9223372036854775807) :
    Calls Try.prog 3 #[.string p, .string s, .int .i64 n, .int .i64 b] w fun e w' => e = .returned (.bool true) ∧ Below w.heap.size w w' := by
  by_cases h0 : 300 < p.size
  · exact deriveTells_big0 p s n b w h0
  · by_cases h1 : 100 < s.size
    · exact deriveTells_big1 p s n b w ⟨by omega, h1⟩
    · exact deriveTells_small p s n b w (by omega) (by omega)

theorem deriveTells_own : ownKnob Try.prog.godebug = none := by kernel_rfl
theorem deriveTells_laidOut : laidOutB Try.prog = true := by kernel_rfl

set_option maxRecDepth 100000 in
theorem deriveTells_lifted (os : Os) (started : os.Started) (H : Type) (enc : TypeId × Value → H) :
    ReturnsInHanded {} Try.checked os 3 .any (Rows.deriveTellsSpec.pre6 enc Try.prog Try.f3 Rows.deriveTellsRow.domain false) (Rows.deriveTellsSpec.post enc Try.prog Try.f3 false true false false) := by
  refine returnsInHanded_of_change_sized (C := Try.checked) deriveTells_own started (by kernel_rfl) Try.func3
    (ChangeSpec.witness6 (enc := enc) (C := Try.checked) false ⟨#[], #[.string ⟨#[]⟩, .string ⟨#[]⟩, .int .i64 0, .int .i64 0], []⟩ 8 (by kernel_rfl) (by kernel_rfl) (by kernel_rfl) (by kernel_rfl)) ?_
  intro W base args ds gs before hval0 hW hcnd hsz0 _
  have hval : ∀ (j : Nat) t v, Try.f3.params[j]? = some t → args[j]? = some v → Value.okWide Try.prog W .any base t v := hval0
  have hW' := hW
  obtain ⟨p, q, hA0, hV, rfl, hfz, hnd⟩ := hW
  have hA : DataW.TrodAll enc Try.prog W 0 (fun _ => true) true Try.f3.params.toList args.toList ds p := hA0
  rw [Try.params3] at hA hval
  obtain ⟨v0, vs0, d0, ds0, p0, q0, hargs, rfl, rfl, h0, r0⟩ := trodAll_cons hA
  obtain ⟨v1, vs1, d1, ds1, p1, q1, rfl, rfl, rfl, h1, r1⟩ := trodAll_cons r0
  obtain ⟨v2, vs2, d2, ds2, p2, q2, rfl, rfl, rfl, h2, r2⟩ := trodAll_cons r1
  obtain ⟨v3, vs3, d3, ds3, p3, q3, rfl, rfl, rfl, h3, r3⟩ := trodAll_cons r2
  obtain ⟨rfl, rfl, rfl⟩ := trodAll_nil r3
  obtain rfl : args = #[v0, v1, v2, v3] := by cases args; simp_all
  obtain ⟨rfl, rfl⟩ := trodVars_none hV
  obtain ⟨a0, rfl, rfl, rfl, w0⟩ := open_string Try.underlying9 (hval 0 9 v0 rfl rfl) h0
  have s0 : a0.size ≤ 140737488351232 := sized_string hsz0 (j := 0) (t := 9) rfl rfl
  obtain ⟨a1, rfl, rfl, rfl, w1⟩ := open_string Try.underlying9 (hval 1 9 v1 rfl rfl) h1
  have s1 : a1.size ≤ 140737488351232 := sized_string hsz0 (j := 1) (t := 9) rfl rfl
  obtain ⟨a2, rfl, rfl, rfl, w2⟩ := open_int Try.underlying3 (hval 2 3 v2 rfl rfl) h2
  obtain ⟨a3, rfl, rfl, rfl, w3⟩ := open_int Try.underlying3 (hval 3 3 v3 rfl rfl) h3
  clear hA0 hval0 hsz0
  simp only [List.append_nil] at hW'
  refine (deriveTells_any W a0 s0 a1 s1 a2 (bounds_i64 w2) a3 (bounds_i64 w3)).mono fun e W' ⟨he, bel⟩ => ?_
  subst he
  exact ⟨_, rfl, _, _, _, [], _, [], hW', trodAll_mk1 (shut_bool Try.underlying4 _), (trodAll_cons_mk (shut_string Try.underlying9 w0) (trodAll_cons_mk (shut_string Try.underlying9 w1) (trodAll_cons_mk (shut_int Try.underlying3 w2) (trodAll_cons_mk (shut_int Try.underlying3 w3) trodAll_mk0)))), rfl, bel.frame _, fun h => by cases h⟩

theorem deriveTells_holds : Rows.DeriveTellsSaid :=
  OpenClaim.holds_of_wide 3 Try.f3 rfl rfl rfl rfl rfl rfl rfl ⟨rfl, rfl, rfl, rfl, rfl⟩ rfl rfl rfl rfl rfl (by kernel_rfl) Try.func3 (by kernel_rfl)
    (of_decide_eq_true (by kernel_rfl)) (by unfold Func.isWrapper; first | (rw [if_pos (by decide +kernel)]; kernel_rfl) | (rw [if_neg (by decide +kernel)]; exact ⟨rfl, rfl⟩))
    (fun os started H enc _ => deriveTells_lifted os started H enc)

#print axioms deriveTells_holds

end Go.Proofs.Ytdcmjmmfclhfbaa
