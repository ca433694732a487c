/- For any three numbers of 16 bits the statement FieldQuotients returns true and its arguments read as before. No condition. -/
import Derived.Test.YtekmoioeoglinabNums
import Derived.ProofKit
import Derived.OpenShut
namespace Go.Proofs.Ytekmoioeoglinab
open Go.ChangeShapes Go.WideShapes Go.ChangeAt Go.RowKit Go.Maps Gf

set_option maxRecDepth 100000 in
set_option maxHeartbeats 2000000 in
theorem quotients_zero (b c : Int) (w : World) :
    Calls Try.prog 3 #[.int .u16 0, .int .u16 b, .int .u16 c] w fun e w' => e = .returned (.bool true) ∧ Below w.heap.size w w' := by
  go_enter Try.func3, Try.ntmps3
  go_wp2_with fail
  refine (new_any _).mono ?_
  rintro e w2 ⟨rfl, rfl⟩
  go_wp2_with fail
  refine (inv_zero _ _).mono ?_
  rintro e w' ⟨rfl, rfl⟩
  go_wp2_with fail
  refine (works_any _).mono ?_
  rintro e w1 ⟨rfl, hbl⟩
  go_wp2_with fail
  refine (works_any _).mono ?_
  rintro e w3 ⟨rfl, hbm⟩
  go_wp2
  go_ret
  have h1 : Below w.heap.size w w1 := ((Below.refl _ _).alloc (Nat.le_refl _) _).trans (hbl.mono (by simp))
  exact ⟨rfl, h1.trans (hbm.mono h1.size)⟩

set_option maxRecDepth 100000 in
set_option maxHeartbeats 2000000 in
theorem fieldQuotients_any (a b c : Int) (w : World) (ha : 0 ≤ a ∧ a ≤ 65535) (hb : 0 ≤ b ∧ b ≤ 65535) (hc : 0 ≤ c ∧ c ≤ 65535) :
    Calls Try.prog 3 #[.int .u16 a, .int .u16 b, .int .u16 c] w fun e w' => e = .returned (.bool true) ∧ Below w.heap.size w w' := by
  by_cases h0 : a = 0
  · subst h0
    exact quotients_zero b c w
  have h1 := beq_no h0
  have b1 := pI_bd a 65534 (by omega)
  have b2 := gI_bd b (pI a 65534) (by omega)
  have b3 := gI_bd a b (by omega)
  have b4 := pI_bd b 65534 (by omega)
  have h2 := beq_no (f19 a ha h0)
  have k1 := bne_no (f15 a b ha hb h0)
  have k2 := bne_no (f18 a ha h0)
  obtain ⟨t, k3, k4⟩ : ∃ t : Bool, (gI a c == b) = t ∧ (c == gI b (pI a 65534)) = t := by
    by_cases h : gI a c = b
    · exact ⟨true, beq_yes h, beq_yes ((f16 a b c ha hb hc h0).1 h)⟩
    · exact ⟨false, beq_no h, beq_no (fun h' => h ((f16 a b c ha hb hc h0).2 h'))⟩
  by_cases hb0 : b = 0
  · subst hb0
    have k5 : gI a 0 = 0 := f9 a
    have k6 : (0 == gI (pI a 65534) 0) = true := beq_yes (f9 _).symm
    clear h0
    go_enter Try.func3, Try.ntmps3
    go_wp2_with (first
      | (go_at_call 4; refine (new_any _).mono ?_; rintro e w2 ⟨rfl, rfl⟩)
      | (go_at_call 6; refine (works_any _).mono ?_; rintro e w1 ⟨rfl, hbl⟩)
      | (go_at_call 7; refine (mul_any _ _ _ _ (by omega) (by omega)).mono ?_; rintro e w' ⟨rfl, rfl⟩))
    refine (inv_any _ _ _ (by omega) h1).mono ?_
    rintro e w' ⟨rfl, rfl⟩
    go_wp2_with (first
      | (go_at_call 4; refine (new_any _).mono ?_; rintro e w2 ⟨rfl, rfl⟩)
      | (go_at_call 6; refine (works_any _).mono ?_; rintro e w1 ⟨rfl, hbl⟩)
      | (go_at_call 7; refine (mul_any _ _ _ _ (by omega) (by omega)).mono ?_; rintro e w' ⟨rfl, rfl⟩))
    refine (inv_any _ _ _ (by omega) h2).mono ?_
    rintro e w' ⟨rfl, rfl⟩
    go_wp2_with (first
      | (go_at_call 4; refine (new_any _).mono ?_; rintro e w2 ⟨rfl, rfl⟩)
      | (go_at_call 6; refine (works_any _).mono ?_; rintro e w1 ⟨rfl, hbl⟩)
      | (go_at_call 7; refine (mul_any _ _ _ _ (by omega) (by omega)).mono ?_; rintro e w' ⟨rfl, rfl⟩))
    refine (inv_zero _ _).mono ?_
    rintro e w' ⟨rfl, rfl⟩
    go_wp2_with (first
      | (go_at_call 4; refine (new_any _).mono ?_; rintro e w2 ⟨rfl, rfl⟩)
      | (go_at_call 6; refine (works_any _).mono ?_; rintro e w1 ⟨rfl, hbl⟩)
      | (go_at_call 7; refine (mul_any _ _ _ _ (by omega) (by omega)).mono ?_; rintro e w' ⟨rfl, rfl⟩))
    refine (inv_zero _ _).mono ?_
    rintro e w' ⟨rfl, rfl⟩
    go_wp2_with (first
      | (go_at_call 4; refine (new_any _).mono ?_; rintro e w2 ⟨rfl, rfl⟩)
      | (go_at_call 6; refine (works_any _).mono ?_; rintro e w1 ⟨rfl, hbl⟩)
      | (go_at_call 7; refine (mul_any _ _ _ _ (by omega) (by omega)).mono ?_; rintro e w' ⟨rfl, rfl⟩))
    go_ret
    exact ⟨rfl, ((Below.refl _ _).alloc (Nat.le_refl _) _).trans (hbl.mono (by simp))⟩
  · have h3 := beq_no hb0
    have h4 := bne_yes hb0
    have h5 := beq_no (f11 a b ha hb h0 hb0)
    have k6 : (pI (gI a b) 65534 == gI (pI a 65534) (pI b 65534)) = true := beq_yes (f17 a b ha hb)
    clear h0 hb0
    go_enter Try.func3, Try.ntmps3
    go_wp2_with (first
      | (go_at_call 4; refine (new_any _).mono ?_; rintro e w2 ⟨rfl, rfl⟩)
      | (go_at_call 6; refine (works_any _).mono ?_; rintro e w1 ⟨rfl, hbl⟩)
      | (go_at_call 7; refine (mul_any _ _ _ _ (by omega) (by omega)).mono ?_; rintro e w' ⟨rfl, rfl⟩))
    refine (inv_any _ _ _ (by omega) h1).mono ?_
    rintro e w' ⟨rfl, rfl⟩
    go_wp2_with (first
      | (go_at_call 4; refine (new_any _).mono ?_; rintro e w2 ⟨rfl, rfl⟩)
      | (go_at_call 6; refine (works_any _).mono ?_; rintro e w1 ⟨rfl, hbl⟩)
      | (go_at_call 7; refine (mul_any _ _ _ _ (by omega) (by omega)).mono ?_; rintro e w' ⟨rfl, rfl⟩))
    refine (inv_any _ _ _ (by omega) h2).mono ?_
    rintro e w' ⟨rfl, rfl⟩
    go_wp2_with (first
      | (go_at_call 4; refine (new_any _).mono ?_; rintro e w2 ⟨rfl, rfl⟩)
      | (go_at_call 6; refine (works_any _).mono ?_; rintro e w1 ⟨rfl, hbl⟩)
      | (go_at_call 7; refine (mul_any _ _ _ _ (by omega) (by omega)).mono ?_; rintro e w' ⟨rfl, rfl⟩))
    refine (inv_any _ _ _ (by omega) h3).mono ?_
    rintro e w' ⟨rfl, rfl⟩
    go_wp2_with (first
      | (go_at_call 4; refine (new_any _).mono ?_; rintro e w2 ⟨rfl, rfl⟩)
      | (go_at_call 6; refine (works_any _).mono ?_; rintro e w1 ⟨rfl, hbl⟩)
      | (go_at_call 7; refine (mul_any _ _ _ _ (by omega) (by omega)).mono ?_; rintro e w' ⟨rfl, rfl⟩))
    refine (inv_any _ _ _ (by omega) h5).mono ?_
    rintro e w' ⟨rfl, rfl⟩
    go_wp2_with (first
      | (go_at_call 4; refine (new_any _).mono ?_; rintro e w2 ⟨rfl, rfl⟩)
      | (go_at_call 6; refine (works_any _).mono ?_; rintro e w1 ⟨rfl, hbl⟩)
      | (go_at_call 7; refine (mul_any _ _ _ _ (by omega) (by omega)).mono ?_; rintro e w' ⟨rfl, rfl⟩))
    go_ret
    exact ⟨rfl, ((Below.refl _ _).alloc (Nat.le_refl _) _).trans (hbl.mono (by simp))⟩

theorem fieldQuotients_own : ownKnob Try.prog.godebug = none := by kernel_rfl

set_option maxRecDepth 100000 in
theorem fieldQuotients_lifted (os : Os) (started : os.Started) (H : Type) (enc : TypeId × Value → H) :
    ReturnsInHanded {} Try.checked os 3 .any (Rows.fieldQuotientsSpec.pre6 enc Try.prog Try.f3 Rows.fieldQuotientsRow.domain false) (Rows.fieldQuotientsSpec.post enc Try.prog Try.f3 false true false false) := by
  refine returnsInHanded_of_change (C := Try.checked) fieldQuotients_own started (by kernel_rfl) Try.func3
    (ChangeSpec.witness6 (enc := enc) (C := Try.checked) false ⟨#[], #[.int .u16 0, .int .u16 0, .int .u16 0], []⟩ 8 (by kernel_rfl) (by kernel_rfl) (by kernel_rfl) (by kernel_rfl)) ?_
  intro W base args ds gs before hval0 hW hcnd _
  have hval : ∀ (j : Nat) t v, Try.f3.params[j]? = some t → args[j]? = some v → Value.okWide Try.prog W .any base t v := hval0
  have hW' := hW
  obtain ⟨p, q, hA0, hV, rfl, hfz, hnd⟩ := hW
  have hA : DataW.TrodAll enc Try.prog W 0 (fun _ => true) true Try.f3.params.toList args.toList ds p := hA0
  rw [Try.params3] at hA hval
  obtain ⟨v0, vs0, d0, ds0, p0, q0, hargs, rfl, rfl, h0, r0⟩ := trodAll_cons hA
  obtain ⟨v1, vs1, d1, ds1, p1, q1, rfl, rfl, rfl, h1, r1⟩ := trodAll_cons r0
  obtain ⟨v2, vs2, d2, ds2, p2, q2, rfl, rfl, rfl, h2, r2⟩ := trodAll_cons r1
  obtain ⟨rfl, rfl, rfl⟩ := trodAll_nil r2
  obtain rfl : args = #[v0, v1, v2] := by cases args; simp_all
  obtain ⟨rfl, rfl⟩ := trodVars_none hV
  obtain ⟨a0, rfl, rfl, rfl, w0⟩ := open_int Try.underlying22 (hval 0 22 v0 rfl rfl) h0
  obtain ⟨a1, rfl, rfl, rfl, w1⟩ := open_int Try.underlying22 (hval 1 22 v1 rfl rfl) h1
  obtain ⟨a2, rfl, rfl, rfl, w2⟩ := open_int Try.underlying22 (hval 2 22 v2 rfl rfl) h2
  clear hA0 hval0
  simp only [List.append_nil] at hW'
  refine (fieldQuotients_any a0 a1 a2 W (bounds_u16 w0) (bounds_u16 w1) (bounds_u16 w2)).mono fun e W' ⟨he, bel⟩ => ?_
  subst he
  exact ⟨_, rfl, _, _, _, [], [], [], hW', trodAll_mk1 (shut_bool Try.underlying4 _), (trodAll_cons_mk (shut_int Try.underlying22 w0) (trodAll_cons_mk (shut_int Try.underlying22 w1) (trodAll_cons_mk (shut_int Try.underlying22 w2) trodAll_mk0))), rfl, bel.frame _, fun h => by cases h⟩

theorem fieldQuotients_holds : Rows.FieldQuotientsSaid :=
  OpenClaim.holds_of_wide 3 Try.f3 rfl rfl rfl rfl rfl rfl rfl ⟨rfl, rfl, rfl, rfl, rfl⟩ rfl rfl rfl rfl rfl (by kernel_rfl) Try.func3 (by kernel_rfl)
    (of_decide_eq_true (by kernel_rfl)) (by unfold Func.isWrapper; first | (rw [if_pos (by decide +kernel)]; kernel_rfl) | (rw [if_neg (by decide +kernel)]; exact ⟨rfl, rfl⟩))
    (fun os started H enc _ => fieldQuotients_lifted os started H enc)

#print axioms fieldQuotients_holds

end Go.Proofs.Ytekmoioeoglinab
