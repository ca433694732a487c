/- For any two slices of numbers of 16 bits and any integer the statement DecodeApart returns true and its arguments read as before. No condition. -/
import Derived.Test.YtdbdidohldhnhaaDArgs
namespace Go.Proofs.Ytdbdidohldhnhaa
open Go.ChangeShapes Go.WideShapes Go.ChangeAt Go.RowKit Gf
open Go.ChangeMaps (open_string shut_string)
set_option linter.unusedVariables false

set_option maxRecDepth 100000 in
set_option maxHeartbeats 4000000 in
theorem decodeApart_any {w : World} {a0 a1 : Option Addr} {n0 c0 n1 c1 : Nat} {p0 p1 : Nat → Int} {r : Int} (h0 : Sl w a0 n0 c0 p0) (m0 : n0 ≤ maxLen) (h1 : Sl w a1 n1 c1 p1) (m1 : n1 ≤ maxLen) (br : -9223372036854775808 ≤ r ∧ r ≤ 9223372036854775807) :
    Calls Try.prog 7 #[.slice a0 n0 c0, .slice a1 n1 c1, .int .i64 r] w fun e w' => e = .returned (.bool true) ∧ Below w.heap.size w w' := by
  unfold maxLen at m0 m1
  by_cases g0 : (60 : Int) < (n0 : Int)
  · go_enter Try.func7, Try.ntmps7
    go_wp2_with fail
    refine (dawake_any _).mono ?_
    rintro e w1 ⟨rfl, hB⟩
    go_wp2
    go_ret
    exact ⟨rfl, hB⟩
  by_cases g1 : ((n1 : Int) != (n0 : Int)) = true
  · go_enter Try.func7, Try.ntmps7
    go_wp2_with fail
    refine (dawake_any _).mono ?_
    rintro e w1 ⟨rfl, hB⟩
    go_wp2
    go_ret
    exact ⟨rfl, hB⟩
  by_cases g2 : r < 0
  · go_enter Try.func7, Try.ntmps7
    go_wp2_with fail
    refine (dawake_any _).mono ?_
    rintro e w1 ⟨rfl, hB⟩
    go_wp2
    go_ret
    exact ⟨rfl, hB⟩
  by_cases g3 : 40 < r
  · go_enter Try.func7, Try.ntmps7
    go_wp2_with fail
    refine (dawake_any _).mono ?_
    rintro e w1 ⟨rfl, hB⟩
    go_wp2
    go_ret
    exact ⟨rfl, hB⟩
  obtain ⟨R, rfl⟩ := Int.eq_ofNat_of_zero_le (show 0 ≤ r by omega)
  obtain rfl : n0 = n1 := by simp at g1; omega
  have g1' : ((n0 : Int) != (n0 : Int)) = false := by simp
  have HS := hide (And.intro h0 h1)
  clear h0 h1 g1
  go_enter Try.func7, Try.ntmps7
  go_wp2_with fail
  refine (dawake_any _).mono ?_
  rintro e w1 ⟨rfl, b1⟩
  have HB1 := hide b1
  clear b1
  go_wp2_with fail
  refine (check_any (HS.out.1.below HB1.out) R (by omega)).mono ?_
  rintro e w2 ⟨a2, c2, k2, rfl, h2, q2⟩
  have HB2 := hide (HB1.out.trans (h2.bel.mono HB1.out.size))
  have H2 := hide h2.sl
  have HQ2 := hide q2
  clear h2 q2
  go_wp2_with fail
  refine (check_any (HS.out.2.below HB2.out) R (by omega)).mono ?_
  rintro e w3 ⟨a3, c3, k3, rfl, h3, q3⟩
  have HB3 := hide (HB2.out.trans (h3.bel.mono HB2.out.size))
  have H2' := hide (H2.out.below h3.bel)
  have H3 := hide h3.sl
  have HQ3 := hide q3
  clear h3 q3
  go_wp2_with fail
  refine (differ_any (HS.out.1.below HB3.out) (HS.out.2.below HB3.out) (by omega)).mono ?_
  rintro e w4 ⟨rfl, b4⟩
  have HB4 := hide (HB3.out.trans (b4.mono HB3.out.size))
  have H4 := hide (And.intro (H2'.out.below b4) (H3.out.below b4))
  clear b4
  have f0 := HS.out.1.bd
  have f1 := HS.out.2.bd
  have hw : cnt (n0 + R) (addp (cat n0 p0 k2) (cat n0 p1 k3)) = cnt n0 (addp p0 p1) + cnt R (addp k2 k3) := by rw [addp_cat, cnt_cat]
  have hz : cnt n0 (addp p0 p1) + cnt R (addp k2 k3) ≤ R → cnt n0 (addp p0 p1) = 0 ∧ cnt R (addp k2 k3) = 0 := fun hle => by
    have h5 := apart (n := n0 + R) (r := R) (d := addp (cat n0 p0 k2) (cat n0 p1 k3)) (by omega) (addp16 (cat16 f0 HQ2.out.bd) (cat16 f1 HQ3.out.bd)) (HQ2.out.rt.add (cat16 f0 HQ2.out.bd) (cat16 f1 HQ3.out.bd) HQ3.out.rt) (by rw [hw]; exact hle)
    have h6 := cnt_none h5
    omega
  have ht := cnt_top R (addp k2 k3)
  have ht0 := cnt_top n0 (addp p0 p1)
  have cD : ∀ {w' : World} (h : Sl w' a2 R c2 k2) (h' : Sl w' a3 R c3 k3), Calls Try.prog 18 #[.slice a2 R c2, .slice a3 R c3] w' fun e w'' => e = .returned (.int .i64 ((cnt R (addp k2 k3) : Nat) : Int)) ∧ Below w'.heap.size w' w'' := fun h h' => differ_any h h' (by omega)
  have HCD := hide (cD H4.out.1 H4.out.2)
  clear f0 f1 hw cD
  obtain ⟨A, hA⟩ : ∃ A, cnt n0 (addp p0 p1) = A := ⟨_, rfl⟩
  obtain ⟨B, hB⟩ : ∃ B, cnt R (addp k2 k3) = B := ⟨_, rfl⟩
  rw [hA, hB] at hz
  rw [hA] at ht0 ⊢
  rw [hB] at ht HCD
  have HZ := hide hz
  clear hz hA hB
  by_cases hA0 : A = 0
  · subst hA0
    obtain rfl : B = 0 := (HZ.out (by omega)).2
    go_wp2_with fail
    refine HCD.out.mono ?_
    rintro e w5 ⟨rfl, b5⟩
    go_wp2_with fail
    go_ret
    exact ⟨rfl, HB4.out.trans (b5.mono HB4.out.size)⟩
  · have hA1 : ((A : Int) == 0) = false := beq_no (by omega)
    have hA2 : (0 : Int) < (A : Int) := by omega
    have hlt : (R : Int) < (A : Int) + (B : Int) := by
      rcases Nat.lt_or_ge R (A + B) with h | h
      · omega
      · exact (hA0 (HZ.out h).1).elim
    go_wp2_with fail
    refine HCD.out.mono ?_
    rintro e w5 ⟨rfl, b5⟩
    have HB5 := hide (HB4.out.trans (b5.mono HB4.out.size))
    clear b5
    go_wp2_with fail
    go_ret
    exact ⟨rfl, HB5.out⟩

theorem decodeApart_own : ownKnob Try.prog.godebug = none := by kernel_rfl
theorem decodeApart_laidOut : laidOutB Try.prog = true := by kernel_rfl

set_option maxRecDepth 100000 in
theorem decodeApart_lifted (os : Os) (started : os.Started) (H : Type) (enc : TypeId × Value → H) :
    ReturnsInHanded {} Try.checked os 7 .any (Rows.decodeApartSpec.pre6 enc Try.prog Try.f7 Rows.decodeApartRow.domain false) (Rows.decodeApartSpec.post enc Try.prog Try.f7 false true false false) := by
  refine returnsInHanded_of_change (C := Try.checked) decodeApart_own started (by kernel_rfl) Try.func7
    (ChangeSpec.witness6 (enc := enc) (C := Try.checked) false ⟨#[], #[.slice none 0 0, .slice none 0 0, .int .i64 0], []⟩ 8 (by kernel_rfl) (by kernel_rfl) (by kernel_rfl) (by kernel_rfl)) ?_
  intro W base args ds gs before hval0 hW hcnd _
  have hval : ∀ (j : Nat) t v, Try.f7.params[j]? = some t → args[j]? = some v → Value.okWide Try.prog W .any base t v := hval0
  have hW' := hW
  obtain ⟨p, q, hA0, hV, rfl, hfz, hnd⟩ := hW
  have hA : DataW.TrodAll enc Try.prog W 0 (fun _ => true) true Try.f7.params.toList args.toList ds p := hA0
  rw [Try.params7] at hA hval
  obtain ⟨v0, vs0, d0, ds0, p0, q0, hargs, rfl, rfl, h0, r0⟩ := trodAll_cons hA
  obtain ⟨v1, vs1, d1, ds1, p1, q1, rfl, rfl, rfl, h1, r1⟩ := trodAll_cons r0
  obtain ⟨v2, vs2, d2, ds2, p2, q2, rfl, rfl, rfl, h2, r2⟩ := trodAll_cons r1
  obtain ⟨rfl, rfl, rfl⟩ := trodAll_nil r2
  obtain rfl : args = #[v0, v1, v2] := by cases args; simp_all
  obtain ⟨rfl, rfl⟩ := trodVars_none hV
  obtain ⟨a0, len0, cap0, rfl⟩ := okWide_slice Try.underlying22 (hval 0 22 v0 rfl rfl)
  have k0 := h0
  have lt0 : ∀ x ∈ p0, x.block < W.heap.size := by obtain ⟨m, hm⟩ := k0; exact DataW.trod_lt m _ _ _ hm
  obtain ⟨z0, w0⟩ : ∃ zs, IsRow .u16 W a0 len0 cap0 zs := by
    obtain ⟨fuel, hf⟩ := h0
    rcases open_ints Try.underlying22 Try.underlying29 (by kernel_rfl) hf with ⟨hcs, _⟩ | ⟨x, l, c, zs, hcs, _, hl, hm, hz, _, hcell, hwz⟩
    · simp [Value.cells] at hcs
      obtain ⟨rfl, rfl, rfl⟩ := hcs
      exact ⟨[], .inl ⟨rfl, rfl, rfl, rfl⟩⟩
    · simp [Value.cells] at hcs
      obtain ⟨rfl, rfl, rfl⟩ := hcs
      exact ⟨zs, .inr ⟨_, rfl, hl, hm, by simpa using hz, hcell, hwz⟩⟩
  obtain ⟨a1, len1, cap1, rfl⟩ := okWide_slice Try.underlying22 (hval 1 22 v1 rfl rfl)
  have k1 := h1
  have lt1 : ∀ x ∈ p1, x.block < W.heap.size := by obtain ⟨m, hm⟩ := k1; exact DataW.trod_lt m _ _ _ hm
  obtain ⟨z1, w1⟩ : ∃ zs, IsRow .u16 W a1 len1 cap1 zs := by
    obtain ⟨fuel, hf⟩ := h1
    rcases open_ints Try.underlying22 Try.underlying29 (by kernel_rfl) hf with ⟨hcs, _⟩ | ⟨x, l, c, zs, hcs, _, hl, hm, hz, _, hcell, hwz⟩
    · simp [Value.cells] at hcs
      obtain ⟨rfl, rfl, rfl⟩ := hcs
      exact ⟨[], .inl ⟨rfl, rfl, rfl, rfl⟩⟩
    · simp [Value.cells] at hcs
      obtain ⟨rfl, rfl, rfl⟩ := hcs
      exact ⟨zs, .inr ⟨_, rfl, hl, hm, by simpa using hz, hcell, hwz⟩⟩
  obtain ⟨a2, rfl, rfl, rfl, w2⟩ := open_int Try.underlying3 (hval 2 3 v2 rfl rfl) h2
  clear hA0 hval0
  simp only [List.append_nil] at hW'
  refine (decodeApart_any (isRow_sl w0) (isRow_max w0) (isRow_sl w1) (isRow_max w1) (bounds_i64 w2)).mono fun e W' ⟨he, bel⟩ => ?_
  subst he
  exact ⟨_, rfl, _, _, _, [], _, [], hW', trodAll_mk1 (shut_bool Try.underlying4 _), (trodAll_cons_mk (Below.trod decodeApart_laidOut (by kernel_rfl) (of_decide_eq_true (by kernel_rfl)) k0 bel lt0) (trodAll_cons_mk (Below.trod decodeApart_laidOut (by kernel_rfl) (of_decide_eq_true (by kernel_rfl)) k1 bel lt1) (trodAll_cons_mk (shut_int Try.underlying3 w2) trodAll_mk0))), rfl, bel.frame _, fun h => by cases h⟩

theorem decodeApart_holds : Rows.DecodeApartSaid :=
  OpenClaim.holds_of_wide 7 Try.f7 rfl rfl rfl rfl rfl rfl rfl ⟨rfl, rfl, rfl, rfl, rfl⟩ rfl rfl rfl rfl rfl (by kernel_rfl) Try.func7 (by kernel_rfl)
    (of_decide_eq_true (by kernel_rfl)) (by unfold Func.isWrapper; first | (rw [if_pos (by decide +kernel)]; kernel_rfl) | (rw [if_neg (by decide +kernel)]; exact ⟨rfl, rfl⟩))
    (fun os started H enc _ => decodeApart_lifted os started H enc)

#print axioms decodeApart_holds

end Go.Proofs.Ytdbdidohldhnhaa
