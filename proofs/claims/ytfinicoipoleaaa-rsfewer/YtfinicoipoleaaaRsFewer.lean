/- For any two slices of numbers of 16 bits and any two integers the statement RsFewer returns true and its arguments read as before. No condition. -/
import Derived.Test.YtfinicoipoleaaaArgs
namespace Go.Proofs.Ytfinicoipoleaaa
open Go.ChangeShapes Go.WideShapes Go.ChangeAt Go.RowKit Gf
open Go.ChangeMaps (open_string shut_string)
set_option linter.unusedVariables false

set_option maxRecDepth 100000 in
set_option maxHeartbeats 4000000 in
theorem rsFewer_any {w : World} {a0 a3 : Option Addr} {n0 c0 n3 c3 : Nat} {p0 p3 : Nat → Int} {r s : Int} (h0 : Sl w a0 n0 c0 p0) (m0 : n0 ≤ maxLen) (br : -9223372036854775808 ≤ r ∧ r ≤ 9223372036854775807) (bs : -9223372036854775808 ≤ s ∧ s ≤ 9223372036854775807) (h3 : Sl w a3 n3 c3 p3) (m3 : n3 ≤ maxLen) :
    Calls Try.prog 8 #[.slice a0 n0 c0, .int .i64 r, .int .i64 s, .slice a3 n3 c3] w fun e w' => e = .returned (.bool true) ∧ Below w.heap.size w w' := by
  have m3' := m3
  unfold maxLen at m0 m3
  by_cases g0 : (200 : Int) < (n0 : Int)
  · go_enter Try.func8, Try.ntmps8
    go_wp2_with fail
    refine (works_any _).mono ?_
    rintro e w1 ⟨rfl, hB⟩
    go_wp2_with fail
    refine (works_any _).mono ?_
    rintro e w2 ⟨rfl, hB2⟩
    go_wp2
    go_ret
    exact ⟨rfl, hB.trans (hB2.mono hB.size)⟩
  by_cases g1 : r < 0
  · go_enter Try.func8, Try.ntmps8
    go_wp2_with fail
    refine (works_any _).mono ?_
    rintro e w1 ⟨rfl, hB⟩
    go_wp2_with fail
    refine (works_any _).mono ?_
    rintro e w2 ⟨rfl, hB2⟩
    go_wp2
    go_ret
    exact ⟨rfl, hB.trans (hB2.mono hB.size)⟩
  by_cases g2 : 255 < r
  · go_enter Try.func8, Try.ntmps8
    go_wp2_with fail
    refine (works_any _).mono ?_
    rintro e w1 ⟨rfl, hB⟩
    go_wp2_with fail
    refine (works_any _).mono ?_
    rintro e w2 ⟨rfl, hB2⟩
    go_wp2
    go_ret
    exact ⟨rfl, hB.trans (hB2.mono hB.size)⟩
  by_cases g3 : 255 < (n0 : Int) + r
  · go_enter Try.func8, Try.ntmps8
    go_wp2_with fail
    refine (works_any _).mono ?_
    rintro e w1 ⟨rfl, hB⟩
    go_wp2_with fail
    refine (works_any _).mono ?_
    rintro e w2 ⟨rfl, hB2⟩
    go_wp2
    go_ret
    exact ⟨rfl, hB.trans (hB2.mono hB.size)⟩
  by_cases g4 : s < 0
  · go_enter Try.func8, Try.ntmps8
    go_wp2_with fail
    refine (works_any _).mono ?_
    rintro e w1 ⟨rfl, hB⟩
    go_wp2_with fail
    refine (works_any _).mono ?_
    rintro e w2 ⟨rfl, hB2⟩
    go_wp2
    go_ret
    exact ⟨rfl, hB.trans (hB2.mono hB.size)⟩
  by_cases g5 : r < s
  · go_enter Try.func8, Try.ntmps8
    go_wp2_with fail
    refine (works_any _).mono ?_
    rintro e w1 ⟨rfl, hB⟩
    go_wp2_with fail
    refine (works_any _).mono ?_
    rintro e w2 ⟨rfl, hB2⟩
    go_wp2
    go_ret
    exact ⟨rfl, hB.trans (hB2.mono hB.size)⟩
  by_cases g6 : (255 : Int) < (n3 : Int)
  · go_enter Try.func8, Try.ntmps8
    go_wp2_with fail
    refine (works_any _).mono ?_
    rintro e w1 ⟨rfl, hB⟩
    go_wp2_with fail
    refine (works_any _).mono ?_
    rintro e w2 ⟨rfl, hB2⟩
    go_wp2
    go_ret
    exact ⟨rfl, hB.trans (hB2.mono hB.size)⟩
  obtain ⟨R, rfl⟩ := Int.eq_ofNat_of_zero_le (show 0 ≤ r by omega)
  obtain ⟨S, rfl⟩ := Int.eq_ofNat_of_zero_le (show 0 ≤ s by omega)
  have hT := Below.refl w.heap.size w
  have HF := hide h3.bd
  go_enter Try.func8, Try.ntmps8
  go_wp2_with fail
  refine (works_any _).mono ?_
  rintro e w11 ⟨rfl, b11⟩
  replace h0 := h0.below b11
  replace h3 := h3.below b11
  replace hT := hT.trans (b11.mono hT.size)
  clear b11
  go_wp2_with fail
  refine (word_any h0 R (by omega)).mono ?_
  rintro e w12 ⟨a12, c12, g12, rfl, h12, q12⟩
  replace h0 := h0.below h12.bel
  replace h3 := h3.below h12.bel
  replace hT := hT.trans (h12.bel.mono hT.size)
  replace h12 := h12.sl
  have HK := hide q12.rt
  clear q12
  go_wp2_with fail
  refine (right_yes h12 S (by omega) (by omega) (HK.out.fewer (by omega))).mono ?_
  rintro e w13 ⟨rfl, b13⟩
  replace h0 := h0.below b13
  replace h3 := h3.below b13
  replace h12 := h12.below b13
  replace hT := hT.trans (b13.mono hT.size)
  clear b13
  clear h12
  go_wp2_with fail
  refine (sums_any h3 R (by omega) (by omega)).mono ?_
  rintro e w14 ⟨ad14, rfl, h14⟩
  replace h0 := h0.below h14.bel
  replace h3 := h3.below h14.bel
  replace hT := hT.trans (h14.bel.mono hT.size)
  replace h14 := h14.sl
  go_wp2_with fail
  refine (sums_any h3 S (by omega) (by omega)).mono ?_
  rintro e w15 ⟨ad15, rfl, h15⟩
  replace h0 := h0.below h15.bel
  replace h3 := h3.below h15.bel
  replace h14 := h14.below h15.bel
  replace hT := hT.trans (h15.bel.mono hT.size)
  replace h15 := h15.sl
  have qe := beq_yes (rfl : (R : Int) = R)
  have qe2 := bne_no (rfl : (R : Int) = R)
  go_wp2_with fail
  refine (same_any (h14.take (g := vs n3 p3 S) (by omega) (fun j hj => by unfold vs; rw [if_pos hj, if_pos (by omega)]) (vs_out n3 p3 S)) h15 (by omega) rfl rfl).mono ?_
  rintro e w16 ⟨rfl, b16⟩
  replace h0 := h0.below b16
  replace h3 := h3.below b16
  replace h14 := h14.below b16
  replace h15 := h15.below b16
  replace hT := hT.trans (b16.mono hT.size)
  clear b16
  clear h14 h15
  by_cases hR : R ≤ n3
  · by_cases hRt : Rt n3 p3 R
    · have HR := hide hRt
      clear hRt
      have q9 : ¬ (n3 : Int) < (S : Int) := by omega
      go_wp2_with fail
      refine (right_yes h3 R hR (by omega) HR.out).mono ?_
      rintro e w30 ⟨rfl, hB⟩
      replace h3 := h3.below hB
      replace hT := hT.trans (hB.mono hT.size)
      go_wp2_with fail
      refine (right_yes h3 S (by omega) (by omega) (HR.out.fewer (by omega))).mono ?_
      rintro e w31 ⟨rfl, hB2⟩
      go_wp2
      go_ret
      exact ⟨rfl, hT.trans (hB2.mono hT.size)⟩
    · go_wp2_with fail
      refine (right_no h3 R hR (by omega) hRt).mono ?_
      rintro e w30 ⟨rfl, hB⟩
      go_wp2
      go_ret
      exact ⟨rfl, hT.trans (hB.mono hT.size)⟩
  · go_wp2_with fail
    refine (right_badB a3 n3 c3 (R : Int) _ m3' (by omega)).mono ?_
    rintro e w30 ⟨rfl, hB⟩
    go_wp2
    go_ret
    exact ⟨rfl, hT.trans (hB.mono hT.size)⟩

theorem rsFewer_own : ownKnob Try.prog.godebug = none := by kernel_rfl
theorem rsFewer_laidOut : laidOutB Try.prog = true := by kernel_rfl

set_option maxRecDepth 100000 in
theorem rsFewer_lifted (os : Os) (started : os.Started) (H : Type) (enc : TypeId × Value → H) :
    ReturnsInHanded {} Try.checked os 8 .any (Rows.rsFewerSpec.pre6 enc Try.prog Try.f8 Rows.rsFewerRow.domain false) (Rows.rsFewerSpec.post enc Try.prog Try.f8 false true false false) := by
  refine returnsInHanded_of_change (C := Try.checked) rsFewer_own started (by kernel_rfl) Try.func8
    (ChangeSpec.witness6 (enc := enc) (C := Try.checked) false ⟨#[], #[.slice none 0 0, .int .i64 0, .int .i64 0, .slice none 0 0], []⟩ 8 (by kernel_rfl) (by kernel_rfl) (by kernel_rfl) (by kernel_rfl)) ?_
  intro W base args ds gs before hval0 hW hcnd _
  have hval : ∀ (j : Nat) t v, Try.f8.params[j]? = some t → args[j]? = some v → Value.okWide Try.prog W .any base t v := hval0
  have hW' := hW
  obtain ⟨p, q, hA0, hV, rfl, hfz, hnd⟩ := hW
  have hA : DataW.TrodAll enc Try.prog W 0 (fun _ => true) true Try.f8.params.toList args.toList ds p := hA0
  rw [Try.params8] at hA hval
  obtain ⟨v0, vs0, d0, ds0, p0, q0, hargs, rfl, rfl, h0, r0⟩ := trodAll_cons hA
  obtain ⟨v1, vs1, d1, ds1, p1, q1, rfl, rfl, rfl, h1, r1⟩ := trodAll_cons r0
  obtain ⟨v2, vs2, d2, ds2, p2, q2, rfl, rfl, rfl, h2, r2⟩ := trodAll_cons r1
  obtain ⟨v3, vs3, d3, ds3, p3, q3, rfl, rfl, rfl, h3, r3⟩ := trodAll_cons r2
  obtain ⟨rfl, rfl, rfl⟩ := trodAll_nil r3
  obtain rfl : args = #[v0, v1, v2, v3] := by cases args; simp_all
  obtain ⟨rfl, rfl⟩ := trodVars_none hV
  obtain ⟨a0, len0, cap0, rfl⟩ := okWide_slice Try.underlying23 (hval 0 23 v0 rfl rfl)
  have k0 := h0
  have lt0 : ∀ x ∈ p0, x.block < W.heap.size := by obtain ⟨m, hm⟩ := k0; exact DataW.trod_lt m _ _ _ hm
  obtain ⟨z0, w0⟩ : ∃ zs, IsRow .u16 W a0 len0 cap0 zs := by
    obtain ⟨fuel, hf⟩ := h0
    rcases open_ints Try.underlying23 Try.underlying27 (by kernel_rfl) hf with ⟨hcs, _⟩ | ⟨x, l, c, zs, hcs, _, hl, hm, hz, _, hcell, hwz⟩
    · simp [Value.cells] at hcs
      obtain ⟨rfl, rfl, rfl⟩ := hcs
      exact ⟨[], .inl ⟨rfl, rfl, rfl, rfl⟩⟩
    · simp [Value.cells] at hcs
      obtain ⟨rfl, rfl, rfl⟩ := hcs
      exact ⟨zs, .inr ⟨_, rfl, hl, hm, by simpa using hz, hcell, hwz⟩⟩
  obtain ⟨a1, rfl, rfl, rfl, w1⟩ := open_int Try.underlying3 (hval 1 3 v1 rfl rfl) h1
  obtain ⟨a2, rfl, rfl, rfl, w2⟩ := open_int Try.underlying3 (hval 2 3 v2 rfl rfl) h2
  obtain ⟨a3, len3, cap3, rfl⟩ := okWide_slice Try.underlying23 (hval 3 23 v3 rfl rfl)
  have k3 := h3
  have lt3 : ∀ x ∈ p3, x.block < W.heap.size := by obtain ⟨m, hm⟩ := k3; exact DataW.trod_lt m _ _ _ hm
  obtain ⟨z3, w3⟩ : ∃ zs, IsRow .u16 W a3 len3 cap3 zs := by
    obtain ⟨fuel, hf⟩ := h3
    rcases open_ints Try.underlying23 Try.underlying27 (by kernel_rfl) hf with ⟨hcs, _⟩ | ⟨x, l, c, zs, hcs, _, hl, hm, hz, _, hcell, hwz⟩
    · simp [Value.cells] at hcs
      obtain ⟨rfl, rfl, rfl⟩ := hcs
      exact ⟨[], .inl ⟨rfl, rfl, rfl, rfl⟩⟩
    · simp [Value.cells] at hcs
      obtain ⟨rfl, rfl, rfl⟩ := hcs
      exact ⟨zs, .inr ⟨_, rfl, hl, hm, by simpa using hz, hcell, hwz⟩⟩
  clear hA0 hval0
  simp only [List.append_nil] at hW'
  refine (rsFewer_any (isRow_sl w0) (isRow_max w0) (bounds_i64 w1) (bounds_i64 w2) (isRow_sl w3) (isRow_max w3)).mono fun e W' ⟨he, bel⟩ => ?_
  subst he
  exact ⟨_, rfl, _, _, _, [], _, [], hW', trodAll_mk1 (shut_bool Try.underlying4 _), (trodAll_cons_mk (Below.trod rsFewer_laidOut (by kernel_rfl) (of_decide_eq_true (by kernel_rfl)) k0 bel lt0) (trodAll_cons_mk (shut_int Try.underlying3 w1) (trodAll_cons_mk (shut_int Try.underlying3 w2) (trodAll_cons_mk (Below.trod rsFewer_laidOut (by kernel_rfl) (of_decide_eq_true (by kernel_rfl)) k3 bel lt3) trodAll_mk0)))), rfl, bel.frame _, fun h => by cases h⟩

theorem rsFewer_holds : Rows.RsFewerSaid :=
  OpenClaim.holds_of_wide 8 Try.f8 rfl rfl rfl rfl rfl rfl rfl ⟨rfl, rfl, rfl, rfl, rfl⟩ rfl rfl rfl rfl rfl (by kernel_rfl) Try.func8 (by kernel_rfl)
    (of_decide_eq_true (by kernel_rfl)) (by unfold Func.isWrapper; first | (rw [if_pos (by decide +kernel)]; kernel_rfl) | (rw [if_neg (by decide +kernel)]; exact ⟨rfl, rfl⟩))
    (fun os started H enc _ => rsFewer_lifted os started H enc)

#print axioms rsFewer_holds

end Go.Proofs.Ytfinicoipoleaaa
