/- For any password, salt and number of rounds the statement DerivePadded returns true and its arguments read as before. No condition. -/
import Derived.Test.YtdcmjmmfclhfbaaKArgs
namespace Go.Proofs.Ytdcmjmmfclhfbaa
open Go.ChangeShapes Go.WideShapes Go.ChangeAt Go.RowKit Bk
open Go.ChangeMaps (open_string shut_string)
set_option linter.unusedVariables false
set_option linter.unusedSimpArgs false

set_option maxRecDepth 100000 in
set_option maxHeartbeats 8000000 in
theorem derivePadded_big0 (p s : ByteArray) (n : Int) (w : World) (h : 300 < p.size) : Calls Try.prog 6 #[.string p, .string s, .int .i64 n] w fun e w' => e = .returned (.bool true) ∧ Below w.heap.size w w' := by
  have f0 : (300 : Int) < (p.size : Int) := by omega
  clear h
  go_enter Try.func6, Try.ntmps6
  have HB0 := hide (Below.refl w.heap.size w)
  go_wp2_with fail
  refine (awake8_any _).mono ?_
  rintro e w1 ⟨rfl, hw1⟩
  have HB1 := hide (HB0.out.trans (hw1.mono HB0.out.size))
  clear hw1 HB0
  go_wp2_with fail
  go_ret
  exact ⟨rfl, HB1.out⟩

set_option maxRecDepth 100000 in
set_option maxHeartbeats 8000000 in
theorem derivePadded_big1 (p s : ByteArray) (n : Int) (w : World) (h : p.size ≤ 300 ∧ 100 < s.size) : Calls Try.prog 6 #[.string p, .string s, .int .i64 n] w fun e w' => e = .returned (.bool true) ∧ Below w.heap.size w w' := by
  have f0 : ¬ ((300 : Int) < (p.size : Int)) := by omega
  have f1 : (100 : Int) < (s.size : Int) := by omega
  clear h
  go_enter Try.func6, Try.ntmps6
  have HB0 := hide (Below.refl w.heap.size w)
  go_wp2_with fail
  refine (awake8_any _).mono ?_
  rintro e w1 ⟨rfl, hw1⟩
  have HB1 := hide (HB0.out.trans (hw1.mono HB0.out.size))
  clear hw1 HB0
  go_wp2_with fail
  go_ret
  exact ⟨rfl, HB1.out⟩

set_option maxRecDepth 100000 in
set_option maxHeartbeats 8000000 in
theorem derivePadded_a (p s : ByteArray) (n : Int) (w : World) (b0 : p.size ≤ 300) (b1 : s.size ≤ 100) (hp : 64 ≤ p.size) : Calls Try.prog 6 #[.string p, .string s, .int .i64 n] w fun e w' => e = .returned (.bool true) ∧ Below w.heap.size w w' := by
  have f0 : ¬ ((300 : Int) < (p.size : Int)) := by omega
  have f1 : ¬ ((100 : Int) < (s.size : Int)) := by omega
  obtain ⟨Q, eQ⟩ : ∃ Q, p ++ (⟨#[0]⟩ : ByteArray) = Q := ⟨_, rfl⟩
  have f2 : (64 : Int) ≤ (p.size : Int) := by omega
  have f3 : ¬ ((p.size : Int) < 64) := by omega
  have hq : ¬ okD Q s n := fun k => by have := k.1; rw [← eQ, ByteArray.size_append] at this; have h1 : (⟨#[0]⟩ : ByteArray).size = 1 := rfl; omega
  have HQ := hide (And.intro (ke_no hq) (And.intro (kk_no hq) (kc_no hq)))
  clear hq
  have b2 : p.size ≤ 300 := b0
  clear b0 b1 hp
  go_enter Try.func6, Try.ntmps6
  have HB0 := hide (Below.refl w.heap.size w)
  go_wp2_with fail
  refine (awake8_any _).mono ?_
  rintro e w1 ⟨rfl, hw1⟩
  have HB1 := hide (HB0.out.trans (hw1.mono HB0.out.size))
  clear hw1 HB0
  go_wp2_with fail
  refine (key_any p s n _).mono ?_
  rintro e w2 ⟨rfl, hw2⟩
  have HB2 := hide (HB1.out.trans (hw2.mono HB1.out.size))
  clear hw2 HB1
  go_wp2_with fail
  refine (key_any Q s n _).mono ?_
  rintro e w3 ⟨rfl, hw3⟩
  rw [HQ.out.1, HQ.out.2.1, HQ.out.2.2]
  have HB3 := hide (HB2.out.trans (hw3.mono HB2.out.size))
  clear hw3 HB2
  go_wp2_with fail
  go_ret
  exact ⟨rfl, HB3.out⟩

set_option maxRecDepth 100000 in
set_option maxHeartbeats 8000000 in
theorem derivePadded_b (p s : ByteArray) (n : Int) (w : World) (b0 : p.size ≤ 300) (b1 : s.size ≤ 100) (hp : p.size < 64) : Calls Try.prog 6 #[.string p, .string s, .int .i64 n] w fun e w' => e = .returned (.bool true) ∧ Below w.heap.size w w' := by
  have f0 : ¬ ((300 : Int) < (p.size : Int)) := by omega
  have f1 : ¬ ((100 : Int) < (s.size : Int)) := by omega
  obtain ⟨Q, eQ⟩ : ∃ Q, p ++ (⟨#[0]⟩ : ByteArray) = Q := ⟨_, rfl⟩
  have f2 : ¬ ((64 : Int) ≤ (p.size : Int)) := by omega
  have f3 : (p.size : Int) < 64 := by omega
  have HQ := hide (show ke Q s n = ke p s n ∧ kk Q s n = kk p s n ∧ kc Q s n = kc p s n by rw [← eQ]; exact ⟨ke_pad hp, kk_pad hp, kc_pad hp⟩)
  have b2 : p.size ≤ 300 := b0
  clear b0 b1 hp
  go_enter Try.func6, Try.ntmps6
  have HB0 := hide (Below.refl w.heap.size w)
  go_wp2_with fail
  refine (awake8_any _).mono ?_
  rintro e w1 ⟨rfl, hw1⟩
  have HB1 := hide (HB0.out.trans (hw1.mono HB0.out.size))
  clear hw1 HB0
  go_wp2_with fail
  refine (key_any p s n _).mono ?_
  rintro e w2 ⟨rfl, hw2⟩
  have HB2 := hide (HB1.out.trans (hw2.mono HB1.out.size))
  clear hw2 HB1
  go_wp2_with fail
  refine (key_any Q s n _).mono ?_
  rintro e w3 ⟨rfl, hw3⟩
  rw [HQ.out.1, HQ.out.2.1, HQ.out.2.2]
  have HB3 := hide (HB2.out.trans (hw3.mono HB2.out.size))
  clear hw3 HB2
  go_wp2_with fail
  go_ret
  exact ⟨rfl, HB3.out⟩

theorem derivePadded_any (w : World) (p : ByteArray) (m0 : p.size ≤ 140737488351232) (s : ByteArray) (m1 : s.size ≤ 140737488351232) (n : Int) (bn : -9223372036854775808 ≤ n ∧ n ≤ 9223372036854775807) :
    Calls Try.prog 6 #[.string p, .string s, .int .i64 n] w fun e w' => e = .returned (.bool true) ∧ Below w.heap.size w w' := by
  by_cases h0 : 300 < p.size
  · exact derivePadded_big0 p s n w h0
  · by_cases h1 : 100 < s.size
    · exact derivePadded_big1 p s n w ⟨by omega, h1⟩
    · by_cases h : 64 ≤ p.size
      · exact derivePadded_a p s n w (by omega) (by omega) h
      · exact derivePadded_b p s n w (by omega) (by omega) (by omega)

theorem derivePadded_own : ownKnob Try.prog.godebug = none := by kernel_rfl
theorem derivePadded_laidOut : laidOutB Try.prog = true := by kernel_rfl

set_option maxRecDepth 100000 in
theorem derivePadded_lifted (os : Os) (started : os.Started) (H : Type) (enc : TypeId × Value → H) :
    ReturnsInHanded {} Try.checked os 6 .any (Rows.derivePaddedSpec.pre6 enc Try.prog Try.f6 Rows.derivePaddedRow.domain false) (Rows.derivePaddedSpec.post enc Try.prog Try.f6 false true false false) := by
  refine returnsInHanded_of_change_sized (C := Try.checked) derivePadded_own started (by kernel_rfl) Try.func6
    (ChangeSpec.witness6 (enc := enc) (C := Try.checked) false ⟨#[], #[.string ⟨#[]⟩, .string ⟨#[]⟩, .int .i64 0], []⟩ 8 (by kernel_rfl) (by kernel_rfl) (by kernel_rfl) (by kernel_rfl)) ?_
  intro W base args ds gs before hval0 hW hcnd hsz0 _
  have hval : ∀ (j : Nat) t v, Try.f6.params[j]? = some t → args[j]? = some v → Value.okWide Try.prog W .any base t v := hval0
  have hW' := hW
  obtain ⟨p, q, hA0, hV, rfl, hfz, hnd⟩ := hW
  have hA : DataW.TrodAll enc Try.prog W 0 (fun _ => true) true Try.f6.params.toList args.toList ds p := hA0
  rw [Try.params6] at hA hval
  obtain ⟨v0, vs0, d0, ds0, p0, q0, hargs, rfl, rfl, h0, r0⟩ := trodAll_cons hA
  obtain ⟨v1, vs1, d1, ds1, p1, q1, rfl, rfl, rfl, h1, r1⟩ := trodAll_cons r0
  obtain ⟨v2, vs2, d2, ds2, p2, q2, rfl, rfl, rfl, h2, r2⟩ := trodAll_cons r1
  obtain ⟨rfl, rfl, rfl⟩ := trodAll_nil r2
  obtain rfl : args = #[v0, v1, v2] := by cases args; simp_all
  obtain ⟨rfl, rfl⟩ := trodVars_none hV
  obtain ⟨a0, rfl, rfl, rfl, w0⟩ := open_string Try.underlying9 (hval 0 9 v0 rfl rfl) h0
  have s0 : a0.size ≤ 140737488351232 := sized_string hsz0 (j := 0) (t := 9) rfl rfl
  obtain ⟨a1, rfl, rfl, rfl, w1⟩ := open_string Try.underlying9 (hval 1 9 v1 rfl rfl) h1
  have s1 : a1.size ≤ 140737488351232 := sized_string hsz0 (j := 1) (t := 9) rfl rfl
  obtain ⟨a2, rfl, rfl, rfl, w2⟩ := open_int Try.underlying3 (hval 2 3 v2 rfl rfl) h2
  clear hA0 hval0 hsz0
  simp only [List.append_nil] at hW'
  refine (derivePadded_any W a0 s0 a1 s1 a2 (bounds_i64 w2)).mono fun e W' ⟨he, bel⟩ => ?_
  subst he
  exact ⟨_, rfl, _, _, _, [], _, [], hW', trodAll_mk1 (shut_bool Try.underlying4 _), (trodAll_cons_mk (shut_string Try.underlying9 w0) (trodAll_cons_mk (shut_string Try.underlying9 w1) (trodAll_cons_mk (shut_int Try.underlying3 w2) trodAll_mk0))), rfl, bel.frame _, fun h => by cases h⟩

theorem derivePadded_holds : Rows.DerivePaddedSaid :=
  OpenClaim.holds_of_wide 6 Try.f6 rfl rfl rfl rfl rfl rfl rfl ⟨rfl, rfl, rfl, rfl, rfl⟩ rfl rfl rfl rfl rfl (by kernel_rfl) Try.func6 (by kernel_rfl)
    (of_decide_eq_true (by kernel_rfl)) (by unfold Func.isWrapper; first | (rw [if_pos (by decide +kernel)]; kernel_rfl) | (rw [if_neg (by decide +kernel)]; exact ⟨rfl, rfl⟩))
    (fun os started H enc _ => derivePadded_lifted os started H enc)

#print axioms derivePadded_holds

end Go.Proofs.Ytdcmjmmfclhfbaa
