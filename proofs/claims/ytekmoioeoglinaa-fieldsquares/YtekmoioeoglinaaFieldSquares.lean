/- For any two numbers of 16 bits the statement FieldSquares returns true and its arguments read as before. No condition. -/
import Derived.Test.YtekmoioeoglinaaNums
import Derived.ProofKit
import Derived.OpenShut
namespace Go.Proofs.Ytekmoioeoglinaa
open Go.ChangeShapes Go.WideShapes Go.ChangeAt Go.RowKit Go.Maps Gf

theorem sq_apart (a b : Int) (ha : 0 ≤ a ∧ a ≤ 65535) (hb : 0 ≤ b ∧ b ≤ 65535) (h : a ≠ b) : gI a a ≠ gI b b := by
  intro e
  have h1 := f13 a b ha.2 hb.2
  rw [e, f7] at h1
  have hx := xI_bd a b (by omega) (by omega)
  by_cases h0 : xI a b = 0
  · have h2 : xI (xI a b) b = xI 0 b := by rw [h0]
    rw [f3, f7, f6 a ha.1, f1, f6 b hb.1] at h2
    exact h h2
  · exact f11 (xI a b) (xI a b) (by omega) (by omega) h0 h0 h1

theorem sq_step (a k : Nat) (ha : a < 65536) : gI ((pw a (2 ^ k) : Nat) : Int) ((pw a (2 ^ k) : Nat) : Int) = ((pw a (2 ^ (k + 1)) : Nat) : Int) := by
  rw [gI_nat, ← pw_add ha, Nat.pow_succ, Nat.mul_two]

set_option maxRecDepth 100000 in
set_option maxHeartbeats 2000000 in
theorem fieldSquares_any (a b : Int) (w : World) (ha : 0 ≤ a ∧ a ≤ 65535) (hb : 0 ≤ b ∧ b ≤ 65535) :
    Calls Try.prog 8 #[.int .u16 a, .int .u16 b] w fun e w' => e = .returned (.bool true) ∧ Below w.heap.size w w' := by
  have k1 := bne_no (f13 a b ha.2 hb.2)
  have b1 := xI_bd a b (by omega) (by omega)
  have b3 := gI_bd a a (by omega)
  have b4 := gI_bd b b (by omega)
  obtain ⟨k2, k3⟩ : ∃ t : Bool, (a == b) = t ∧ (gI a a == gI b b) = t := by
    by_cases h : a = b
    · exact ⟨true, beq_yes h, beq_yes (by rw [h])⟩
    · exact ⟨false, beq_no h, beq_no (sq_apart a b ha hb h)⟩
  obtain ⟨k3, k4⟩ := k3
  go_enter Try.func8, Try.ntmps8
  go_wp2_with (first
    | (go_at_call 9; refine (new_any _).mono ?_; rintro e w2 ⟨rfl, rfl⟩)
    | (go_at_call 14; refine (works_any _).mono ?_; rintro e w1 ⟨rfl, hbl⟩)
    | (go_at_call 17; refine (add_any _ _ _ _ (by omega) (by omega)).mono ?_; rintro e w' ⟨rfl, rfl⟩)
    | (go_at_call 12; refine (mul_any _ _ _ _ (by omega) (by omega)).mono ?_; rintro e w' ⟨rfl, rfl⟩))
  go_loop [6, 7] (fun t i => ∃ k : Nat, k ≤ 16 ∧ i = .int .i64 k ∧ t = .int .u16 (pw a.toNat (2 ^ k) : Nat)) (fun _ i => 16 - (intOf i).toNat)
  case atStart => exact ⟨0, by decide, rfl, by rw [Nat.pow_zero, pw_1 (by omega)]; congr 1; omega⟩
  case round =>
    obtain ⟨k, hk, rfl, rfl⟩ := hrel
    have hp := pw_lt (a := a.toNat) (2 ^ k) (by omega)
    by_cases hlt : k < 16
    · go_wp2_with (go_at_call 12; refine (mul_any _ _ _ _ (by omega) (by omega)).mono ?_; rintro e w' ⟨rfl, rfl⟩)
      go_round
      case rel => exact ⟨k + 1, by omega, by go_num, by rw [sq_step _ _ (by omega)]⟩
      case measure => simp [intOf]; omega
    · have k5 : (((pw a.toNat (2 ^ k) : Nat) : Int) == a) = true := beq_yes (by rw [show k = 16 from by omega, show 2 ^ 16 = 65536 from rfl, frob (by omega)]; omega)
      go_wp2
      go_ret
      exact ⟨rfl, hbl.alloc hbl.size _⟩

theorem fieldSquares_own : ownKnob Try.prog.godebug = none := by kernel_rfl

set_option maxRecDepth 100000 in
theorem fieldSquares_lifted (os : Os) (started : os.Started) (H : Type) (enc : TypeId × Value → H) :
    ReturnsInHanded {} Try.checked os 8 .any (Rows.fieldSquaresSpec.pre6 enc Try.prog Try.f8 Rows.fieldSquaresRow.domain false) (Rows.fieldSquaresSpec.post enc Try.prog Try.f8 false true false false) := by
  refine returnsInHanded_of_change (C := Try.checked) fieldSquares_own started (by kernel_rfl) Try.func8
    (ChangeSpec.witness6 (enc := enc) (C := Try.checked) false ⟨#[], #[.int .u16 0, .int .u16 0], []⟩ 8 (by kernel_rfl) (by kernel_rfl) (by kernel_rfl) (by kernel_rfl)) ?_
  intro W base args ds gs before hval0 hW hcnd _
  have hval : ∀ (j : Nat) t v, Try.f8.params[j]? = some t → args[j]? = some v → Value.okWide Try.prog W .any base t v := hval0
  have hW' := hW
  obtain ⟨p, q, hA0, hV, rfl, hfz, hnd⟩ := hW
  have hA : DataW.TrodAll enc Try.prog W 0 (fun _ => true) true Try.f8.params.toList args.toList ds p := hA0
  rw [Try.params8] at hA hval
  obtain ⟨v0, vs0, d0, ds0, p0, q0, hargs, rfl, rfl, h0, r0⟩ := trodAll_cons hA
  obtain ⟨v1, vs1, d1, ds1, p1, q1, rfl, rfl, rfl, h1, r1⟩ := trodAll_cons r0
  obtain ⟨rfl, rfl, rfl⟩ := trodAll_nil r1
  obtain rfl : args = #[v0, v1] := by cases args; simp_all
  obtain ⟨rfl, rfl⟩ := trodVars_none hV
  obtain ⟨a0, rfl, rfl, rfl, w0⟩ := open_int Try.underlying25 (hval 0 25 v0 rfl rfl) h0
  obtain ⟨a1, rfl, rfl, rfl, w1⟩ := open_int Try.underlying25 (hval 1 25 v1 rfl rfl) h1
  clear hA0 hval0
  simp only [List.append_nil] at hW'
  refine (fieldSquares_any a0 a1 W (bounds_u16 w0) (bounds_u16 w1)).mono fun e W' ⟨he, bel⟩ => ?_
  subst he
  exact ⟨_, rfl, _, _, _, [], [], [], hW', trodAll_mk1 (shut_bool Try.underlying4 _), (trodAll_cons_mk (shut_int Try.underlying25 w0) (trodAll_cons_mk (shut_int Try.underlying25 w1) trodAll_mk0)), rfl, bel.frame _, fun h => by cases h⟩

theorem fieldSquares_holds : Rows.FieldSquaresSaid :=
  OpenClaim.holds_of_wide 8 Try.f8 rfl rfl rfl rfl rfl rfl rfl ⟨rfl, rfl, rfl, rfl, rfl⟩ rfl rfl rfl rfl rfl (by kernel_rfl) Try.func8 (by kernel_rfl)
    (of_decide_eq_true (by kernel_rfl)) (by unfold Func.isWrapper; first | (rw [if_pos (by decide +kernel)]; kernel_rfl) | (rw [if_neg (by decide +kernel)]; exact ⟨rfl, rfl⟩))
    (fun os started H enc _ => fieldSquares_lifted os started H enc)

#print axioms fieldSquares_holds

end Go.Proofs.Ytekmoioeoglinaa
