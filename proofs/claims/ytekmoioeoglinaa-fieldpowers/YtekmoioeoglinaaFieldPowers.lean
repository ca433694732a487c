/- For any two powers and any two numbers of 16 bits the statement FieldPowers returns true and its arguments read as before. No condition. -/
import Derived.Test.YtekmoioeoglinaaNums
import Derived.ProofKit
import Derived.OpenShut
namespace Go.Proofs.Ytekmoioeoglinaa
open Go.ChangeShapes Go.WideShapes Go.ChangeAt Go.RowKit Go.Maps Gf

theorem pw2_period (i j : Nat) (h : i % 65535 = j % 65535) : pw 2 i = pw 2 j := by
  have key : ∀ i, pw 2 i = pw 2 (i % 65535) := by
    intro i
    conv => lhs; rw [← Nat.div_add_mod i 65535]
    rw [pw_add (by decide), pw_mul (by decide), ord_one, pw_one, one_gm (pw_lt _ (by decide))]
  rw [key i, key j, h]

theorem exp_add (x y : Int) : pI 2 ((x + y) % 65535) = gI (pI 2 (x % 65535)) (pI 2 (y % 65535)) := by
  have h1 : pI 2 ((x + y) % 65535) = ((pw 2 ((x + y) % 65535).toNat : Nat) : Int) := by unfold pI; rfl
  have h2 : gI (pI 2 (x % 65535)) (pI 2 (y % 65535)) = ((gm (pw 2 (x % 65535).toNat) (pw 2 (y % 65535).toNat) : Nat) : Int) := by unfold gI pI; rfl
  rw [h1, h2, ← pw_add (by decide)]
  congr 1
  apply pw2_period
  omega

theorem exp_neg (x : Int) : gI (pI 2 (x % 65535)) (pI 2 (-x % 65535)) = 1 := by
  rw [← exp_add x (-x), show x + -x = 0 from by omega]
  rfl

theorem exp_log (n : Nat) (x : Int) (hn : n < 65535) (h : ((pw 2 n : Nat) : Int) = x) : pI 2 ((n : Int) % 65535) = x := by
  have h1 : pI 2 ((n : Int) % 65535) = ((pw 2 ((n : Int) % 65535).toNat : Nat) : Int) := by unfold pI; rfl
  rw [h1, ← h, show ((n : Int) % 65535).toNat = n from by omega]

theorem log_of (x : Int) (hx : 0 ≤ x ∧ x ≤ 65535) (h0 : x ≠ 0) : ∃ n : Nat, n < 65535 ∧ ((pw 2 n : Nat) : Int) = x := by
  obtain ⟨n, hn, h⟩ := ex_log (a := x.toNat) (by omega) (by omega)
  exact ⟨n, hn, by omega⟩

theorem log_sum (a b : Int) (i j k : Nat) (hi : i < 65535) (hj : j < 65535) (hk : k < 65535) (ei : ((pw 2 i : Nat) : Int) = a) (ej : ((pw 2 j : Nat) : Int) = b) (ek : ((pw 2 k : Nat) : Int) = gI a b) :
    k = i + j ∨ k + 65535 = i + j := by
  rw [← ei, ← ej, gI_nat, ← pw_add (by decide)] at ek
  have e : pw 2 k = pw 2 (i + j) := by omega
  have e2 : pw 2 ((i + j) % 65535) = pw 2 (i + j) := pw2_period _ _ (by omega)
  have e3 := pw2_inj (i := k) (j := (i + j) % 65535) hk (by omega) (by rw [e2, e])
  omega

theorem tm40 (n : Int) : -1099511627776 < n.tmod 1099511627776 ∧ n.tmod 1099511627776 < 1099511627776 := by
  have h1 : 0 ≤ n % 1099511627776 := Int.emod_nonneg _ (by decide)
  have h2 : n % 1099511627776 < 1099511627776 := Int.emod_lt_of_pos _ (by decide)
  rw [Int.tmod_eq_emod]
  split
  · simp; omega
  · simp
    rename_i hc
    have : n % 1099511627776 ≠ 0 := fun h => hc (Or.inr (Int.dvd_of_emod_eq_zero h))
    omega

set_option maxRecDepth 100000 in
set_option maxHeartbeats 2000000 in
theorem powers_both (n m a b : Int) (w : World) (ha : 0 ≤ a ∧ a ≤ 65535) (hb : 0 ≤ b ∧ b ≤ 65535) (ha0 : a ≠ 0) (hb0 : b ≠ 0) :
    Calls Try.prog 7 #[.int .i64 n, .int .i64 m, .int .u16 a, .int .u16 b] w fun e w' => e = .returned (.bool true) ∧ Below w.heap.size w w' := by
  have hN := tm40 n
  have hM := tm40 m
  have h1 := beq_no ha0
  have h2 := beq_no hb0
  have h1' := bne_yes ha0
  have g0 := f11 a b ha hb ha0 hb0
  have h3 := beq_no g0
  have b1 := gI_bd a b (by omega)
  obtain ⟨i, hi, ei⟩ := log_of a ha ha0
  obtain ⟨j, hj, ej⟩ := log_of b hb hb0
  obtain ⟨k, hk, ek⟩ := log_of (gI a b) (by omega) g0
  have hs := log_sum a b i j k hi hj hk ei ej ek
  have x1 := bne_no (exp_add (n.tmod 1099511627776) (m.tmod 1099511627776))
  have x2 := bne_no (exp_neg (n.tmod 1099511627776))
  have x3 := bne_no (exp_log i a hi ei)
  have b2 := pI_bd 2 (n.tmod 1099511627776 % 65535) (by decide)
  have b3 := pI_bd 2 (m.tmod 1099511627776 % 65535) (by decide)
  have b4 := pI_bd 2 (-(n.tmod 1099511627776) % 65535) (by decide)
  have EI := hide ei
  have EJ := hide ej
  have EK := hide ek
  clear ei ej ek g0 ha0 hb0
  have q : ((k : Int) == (i : Int) + (j : Int)) = true ∨ (((k : Int) == (i : Int) + (j : Int)) = false ∧ ((k : Int) == (i : Int) + (j : Int) - 65535) = true) := by
    by_cases h : (k : Int) = (i : Int) + (j : Int)
    · exact Or.inl (beq_yes h)
    · exact Or.inr ⟨beq_no h, beq_yes (by omega)⟩
  clear hs
  rcases q with q1 | ⟨q1, q2⟩
  all_goals
    go_enter Try.func7, Try.ntmps7
    go_wp2_with fail
    refine (works_any _).mono ?_
    rintro e w1 ⟨rfl, hbl⟩
    go_wp2_with fail
    refine (new_any _).mono ?_
    rintro e w2 ⟨rfl, rfl⟩
    go_wp2_with fail
    refine (log_any _ _ i _ hi EI h1).mono ?_
    rintro e w2 ⟨rfl, hb2⟩
    go_wp2_with fail
    refine (log_any _ _ j _ hj EJ h2).mono ?_
    rintro e w3 ⟨rfl, hb3⟩
    go_wp2_with fail
    refine (mul_any _ _ _ _ (by omega) (by omega)).mono ?_
    rintro e w' ⟨rfl, rfl⟩
    go_wp2_with fail
    refine (log_any _ _ k _ hk EK h3).mono ?_
    rintro e w4 ⟨rfl, hb4⟩
    go_wp2_with (first
      | (go_at_call 11; refine (exp_any _ _ _).mono ?_; rintro e w' ⟨rfl, rfl⟩)
      | (go_at_call 12; refine (mul_any _ _ _ _ (by omega) (by omega)).mono ?_; rintro e w' ⟨rfl, rfl⟩))
    go_ret
    have t1 := hbl.alloc hbl.size (Obj.cells #[] 40)
    have t2 := t1.trans (hb2.mono t1.size)
    have t3 := t2.trans (hb3.mono t2.size)
    exact ⟨rfl, t3.trans (hb4.mono t3.size)⟩

set_option maxRecDepth 100000 in
set_option maxHeartbeats 2000000 in
theorem powers_left (n m b : Int) (w : World) (hb : 0 ≤ b ∧ b ≤ 65535) :
    Calls Try.prog 7 #[.int .i64 n, .int .i64 m, .int .u16 0, .int .u16 b] w fun e w' => e = .returned (.bool true) ∧ Below w.heap.size w w' := by
  have hN := tm40 n
  have hM := tm40 m
  have x0 := f12 b
  have x1 := bne_no (exp_add (n.tmod 1099511627776) (m.tmod 1099511627776))
  have x2 := bne_no (exp_neg (n.tmod 1099511627776))
  have b2 := pI_bd 2 (n.tmod 1099511627776 % 65535) (by decide)
  have b3 := pI_bd 2 (m.tmod 1099511627776 % 65535) (by decide)
  have b4 := pI_bd 2 (-(n.tmod 1099511627776) % 65535) (by decide)
  by_cases hb0 : b = 0
  · subst hb0
    go_enter Try.func7, Try.ntmps7
    go_wp2_with (first
      | (go_at_call 9; refine (new_any _).mono ?_; rintro e w2 ⟨rfl, rfl⟩)
      | (go_at_call 14; refine (works_any _).mono ?_; rintro e w1 ⟨rfl, hbl⟩)
      | (go_at_call 10; refine (log_zero _ _).mono ?_; rintro e w' ⟨rfl, rfl⟩)
      | (go_at_call 11; refine (exp_any _ _ _).mono ?_; rintro e w' ⟨rfl, rfl⟩)
      | (go_at_call 12; refine (mul_any _ _ _ _ (by omega) (by omega)).mono ?_; rintro e w' ⟨rfl, rfl⟩))
    go_ret
    exact ⟨rfl, hbl.alloc hbl.size _⟩
  · have h2 := beq_no hb0
    obtain ⟨j, hj, ej⟩ := log_of b hb hb0
    have EJ := hide ej
    clear ej hb0
    go_enter Try.func7, Try.ntmps7
    go_wp2_with fail
    refine (works_any _).mono ?_
    rintro e w1 ⟨rfl, hbl⟩
    go_wp2_with fail
    refine (new_any _).mono ?_
    rintro e w2 ⟨rfl, rfl⟩
    go_wp2_with fail
    refine (log_zero _ _).mono ?_
    rintro e w' ⟨rfl, rfl⟩
    go_wp2_with fail
    refine (log_any _ _ j _ hj EJ h2).mono ?_
    rintro e w3 ⟨rfl, hb3⟩
    go_wp2_with (first
      | (go_at_call 10; refine (log_zero _ _).mono ?_; rintro e w' ⟨rfl, rfl⟩)
      | (go_at_call 11; refine (exp_any _ _ _).mono ?_; rintro e w' ⟨rfl, rfl⟩)
      | (go_at_call 12; refine (mul_any _ _ _ _ (by omega) (by omega)).mono ?_; rintro e w' ⟨rfl, rfl⟩))
    go_ret
    have t1 := hbl.alloc hbl.size (Obj.cells #[] 40)
    exact ⟨rfl, t1.trans (hb3.mono t1.size)⟩

set_option maxRecDepth 100000 in
set_option maxHeartbeats 2000000 in
theorem powers_right (n m a : Int) (w : World) (ha : 0 ≤ a ∧ a ≤ 65535) (ha0 : a ≠ 0) :
    Calls Try.prog 7 #[.int .i64 n, .int .i64 m, .int .u16 a, .int .u16 0] w fun e w' => e = .returned (.bool true) ∧ Below w.heap.size w w' := by
  have hN := tm40 n
  have hM := tm40 m
  have x0 := f9 a
  have x1 := bne_no (exp_add (n.tmod 1099511627776) (m.tmod 1099511627776))
  have x2 := bne_no (exp_neg (n.tmod 1099511627776))
  have b2 := pI_bd 2 (n.tmod 1099511627776 % 65535) (by decide)
  have b3 := pI_bd 2 (m.tmod 1099511627776 % 65535) (by decide)
  have b4 := pI_bd 2 (-(n.tmod 1099511627776) % 65535) (by decide)
  have h1 := beq_no ha0
  have h1' := bne_yes ha0
  obtain ⟨i, hi, ei⟩ := log_of a ha ha0
  have x3 := bne_no (exp_log i a hi ei)
  have EI := hide ei
  clear ei ha0
  go_enter Try.func7, Try.ntmps7
  go_wp2_with fail
  refine (works_any _).mono ?_
  rintro e w1 ⟨rfl, hbl⟩
  go_wp2_with fail
  refine (new_any _).mono ?_
  rintro e w2 ⟨rfl, rfl⟩
  go_wp2_with fail
  refine (log_any _ _ i _ hi EI h1).mono ?_
  rintro e w3 ⟨rfl, hb3⟩
  go_wp2_with (first
    | (go_at_call 10; refine (log_zero _ _).mono ?_; rintro e w' ⟨rfl, rfl⟩)
    | (go_at_call 11; refine (exp_any _ _ _).mono ?_; rintro e w' ⟨rfl, rfl⟩)
    | (go_at_call 12; refine (mul_any _ _ _ _ (by omega) (by omega)).mono ?_; rintro e w' ⟨rfl, rfl⟩))
  go_ret
  have t1 := hbl.alloc hbl.size (Obj.cells #[] 40)
  exact ⟨rfl, t1.trans (hb3.mono t1.size)⟩

theorem fieldPowers_any (n m a b : Int) (w : World) (_hn : -9223372036854775808 ≤ n ∧ n ≤ 9223372036854775807) (_hm : -9223372036854775808 ≤ m ∧ m ≤ 9223372036854775807) (ha : 0 ≤ a ∧ a ≤ 65535) (hb : 0 ≤ b ∧ b ≤ 65535) :
    Calls Try.prog 7 #[.int .i64 n, .int .i64 m, .int .u16 a, .int .u16 b] w fun e w' => e = .returned (.bool true) ∧ Below w.heap.size w w' := by
  by_cases ha0 : a = 0
  · subst ha0
    exact powers_left n m b w hb
  by_cases hb0 : b = 0
  · subst hb0
    exact powers_right n m a w ha ha0
  exact powers_both n m a b w ha hb ha0 hb0

theorem fieldPowers_own : ownKnob Try.prog.godebug = none := by kernel_rfl

set_option maxRecDepth 100000 in
theorem fieldPowers_lifted (os : Os) (started : os.Started) (H : Type) (enc : TypeId × Value → H) :
    ReturnsInHanded {} Try.checked os 7 .any (Rows.fieldPowersSpec.pre6 enc Try.prog Try.f7 Rows.fieldPowersRow.domain false) (Rows.fieldPowersSpec.post enc Try.prog Try.f7 false true false false) := by
  refine returnsInHanded_of_change (C := Try.checked) fieldPowers_own started (by kernel_rfl) Try.func7
    (ChangeSpec.witness6 (enc := enc) (C := Try.checked) false ⟨#[], #[.int .i64 0, .int .i64 0, .int .u16 0, .int .u16 0], []⟩ 8 (by kernel_rfl) (by kernel_rfl) (by kernel_rfl) (by kernel_rfl)) ?_
  intro W base args ds gs before hval0 hW hcnd _
  have hval : ∀ (j : Nat) t v, Try.f7.params[j]? = some t → args[j]? = some v → Value.okWide Try.prog W .any base t v := hval0
  have hW' := hW
  obtain ⟨p, q, hA0, hV, rfl, hfz, hnd⟩ := hW
  have hA : DataW.TrodAll enc Try.prog W 0 (fun _ => true) true Try.f7.params.toList args.toList ds p := hA0
  rw [Try.params7] at hA hval
  obtain ⟨v0, vs0, d0, ds0, p0, q0, hargs, rfl, rfl, h0, r0⟩ := trodAll_cons hA
  obtain ⟨v1, vs1, d1, ds1, p1, q1, rfl, rfl, rfl, h1, r1⟩ := trodAll_cons r0
  obtain ⟨v2, vs2, d2, ds2, p2, q2, rfl, rfl, rfl, h2, r2⟩ := trodAll_cons r1
  obtain ⟨v3, vs3, d3, ds3, p3, q3, rfl, rfl, rfl, h3, r3⟩ := trodAll_cons r2
  obtain ⟨rfl, rfl, rfl⟩ := trodAll_nil r3
  obtain rfl : args = #[v0, v1, v2, v3] := by cases args; simp_all
  obtain ⟨rfl, rfl⟩ := trodVars_none hV
  obtain ⟨a0, rfl, rfl, rfl, w0⟩ := open_int Try.underlying3 (hval 0 3 v0 rfl rfl) h0
  obtain ⟨a1, rfl, rfl, rfl, w1⟩ := open_int Try.underlying3 (hval 1 3 v1 rfl rfl) h1
  obtain ⟨a2, rfl, rfl, rfl, w2⟩ := open_int Try.underlying25 (hval 2 25 v2 rfl rfl) h2
  obtain ⟨a3, rfl, rfl, rfl, w3⟩ := open_int Try.underlying25 (hval 3 25 v3 rfl rfl) h3
  clear hA0 hval0
  simp only [List.append_nil] at hW'
  refine (fieldPowers_any a0 a1 a2 a3 W (bounds_i64 w0) (bounds_i64 w1) (bounds_u16 w2) (bounds_u16 w3)).mono fun e W' ⟨he, bel⟩ => ?_
  subst he
  exact ⟨_, rfl, _, _, _, [], [], [], hW', trodAll_mk1 (shut_bool Try.underlying4 _), (trodAll_cons_mk (shut_int Try.underlying3 w0) (trodAll_cons_mk (shut_int Try.underlying3 w1) (trodAll_cons_mk (shut_int Try.underlying25 w2) (trodAll_cons_mk (shut_int Try.underlying25 w3) trodAll_mk0)))), rfl, bel.frame _, fun h => by cases h⟩

theorem fieldPowers_holds : Rows.FieldPowersSaid :=
  OpenClaim.holds_of_wide 7 Try.f7 rfl rfl rfl rfl rfl rfl rfl ⟨rfl, rfl, rfl, rfl, rfl⟩ rfl rfl rfl rfl rfl (by kernel_rfl) Try.func7 (by kernel_rfl)
    (of_decide_eq_true (by kernel_rfl)) (by unfold Func.isWrapper; first | (rw [if_pos (by decide +kernel)]; kernel_rfl) | (rw [if_neg (by decide +kernel)]; exact ⟨rfl, rfl⟩))
    (fun os started H enc _ => fieldPowers_lifted os started H enc)

#print axioms fieldPowers_holds

end Go.Proofs.Ytekmoioeoglinaa
