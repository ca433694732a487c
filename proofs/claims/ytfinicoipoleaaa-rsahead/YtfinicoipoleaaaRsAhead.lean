/- For any slice of numbers of 16 bits and any two integers the statement RsAhead returns true and its arguments read as before. No condition. -/
import Derived.Test.YtfinicoipoleaaaArgs
namespace Go.Proofs.Ytfinicoipoleaaa
open Go.ChangeShapes Go.WideShapes Go.ChangeAt Go.RowKit Gf
open Go.ChangeMaps (open_string shut_string)
set_option linter.unusedVariables false

theorem rt_ahead {k n r : Nat} {f : Nat → Int} : Rt (k + n) (bk k f) r ↔ Rt n f r :=
  ⟨fun h j hj => by rw [← vh_bk _ k]; exact h j hj, fun h j hj => by rw [vh_bk]; exact h j hj⟩
theorem chk_ahead {k n r : Nat} {f c : Nat → Int} (h : Chk (k + n) (bk k f) r c) : Chk n f r c := by
  refine ⟨h.bd, h.out, (rt_ahead (k := k)).1 ?_⟩
  have h1 := h.rt
  rw [Nat.add_assoc] at h1
  refine h1.congr fun j _ => ?_
  show (if j < k + n then (if j < k then 0 else f (j - k)) else c (j - (k + n))) = (if j < k then 0 else (if j - k < n then f (j - k) else c (j - k - n)))
  by_cases h2 : j < k
  · rw [if_pos (by omega), if_pos h2, if_pos h2]
  · rw [if_neg h2, if_neg h2]
    by_cases h3 : j < k + n
    · rw [if_pos h3, if_pos (by omega)]
    · rw [if_neg h3, if_neg (by omega), show j - (k + n) = j - k - n from by omega]

set_option maxRecDepth 100000 in
set_option maxHeartbeats 4000000 in
theorem rsAhead_any {w : World} {a0 : Option Addr} {n0 c0 : Nat} {p0 : Nat → Int} {n r : Int} (h0 : Sl w a0 n0 c0 p0) (m0 : n0 ≤ maxLen) (bn : -9223372036854775808 ≤ n ∧ n ≤ 9223372036854775807) (br : -9223372036854775808 ≤ r ∧ r ≤ 9223372036854775807) :
    Calls Try.prog 7 #[.slice a0 n0 c0, .int .i64 n, .int .i64 r] w fun e w' => e = .returned (.bool true) ∧ Below w.heap.size w w' := by
  unfold maxLen at m0
  obtain ⟨k, hk, hk100⟩ : ∃ k : Nat, wrap64 ((IntKind.u64.wrap n).tmod 100) = (k : Int) ∧ k < 100 := mod_ex 100 (by decide) (by decide) n
  by_cases g0 : (150 : Int) < (n0 : Int)
  · go_enter Try.func7, Try.ntmps7
    go_wp2_with fail
    refine (works_any _).mono ?_
    rintro e w1 ⟨rfl, hB⟩
    go_wp2_with fail
    refine (works_any _).mono ?_
    rintro e w2 ⟨rfl, hB2⟩
    go_wp2
    go_ret
    exact ⟨rfl, hB.trans (hB2.mono hB.size)⟩
  by_cases g1 : r < 0
  · go_enter Try.func7, Try.ntmps7
    go_wp2_with fail
    refine (works_any _).mono ?_
    rintro e w1 ⟨rfl, hB⟩
    go_wp2_with fail
    refine (works_any _).mono ?_
    rintro e w2 ⟨rfl, hB2⟩
    go_wp2
    go_ret
    exact ⟨rfl, hB.trans (hB2.mono hB.size)⟩
  by_cases g2 : 255 < r
  · go_enter Try.func7, Try.ntmps7
    go_wp2_with fail
    refine (works_any _).mono ?_
    rintro e w1 ⟨rfl, hB⟩
    go_wp2_with fail
    refine (works_any _).mono ?_
    rintro e w2 ⟨rfl, hB2⟩
    go_wp2
    go_ret
    exact ⟨rfl, hB.trans (hB2.mono hB.size)⟩
  by_cases g3 : 255 < (n0 : Int) + (k : Int) + r
  · go_enter Try.func7, Try.ntmps7
    go_wp2_with fail
    refine (works_any _).mono ?_
    rintro e w1 ⟨rfl, hB⟩
    go_wp2_with fail
    refine (works_any _).mono ?_
    rintro e w2 ⟨rfl, hB2⟩
    go_wp2
    go_ret
    exact ⟨rfl, hB.trans (hB2.mono hB.size)⟩
  obtain ⟨R, rfl⟩ := Int.eq_ofNat_of_zero_le (show 0 ≤ r by omega)
  have hmk := mk_int k (k : Int) rfl (by omega)
  have hT := Below.refl w.heap.size w
  have HF := hide (And.intro h0.bd h0.out)
  go_enter Try.func7, Try.ntmps7
  go_wp2_with fail
  refine (works_any _).mono ?_
  rintro e w11 ⟨rfl, b11⟩
  replace h0 := h0.below b11
  replace hT := hT.trans (b11.mono hT.size)
  clear b11
  have HO := hide (owns_made w11 k (by omega))
  have HB := hide (bel_lit w11 (.cells (madeCells #[.int .u16 0] k) 27))
  have HD := hide (h0.alloc (.cells (madeCells #[.int .u16 0] k) 27))
  go_wp2_with (refine append_sl rfl (.tmp 42) (.tmp 43) rfl w11.heap.size _ k nul rfl HO.out a0 n0 c0 p0 rfl HD.out (by omega) (by simp) w11 HB.out ?_; intro v20 w20 hown20 hb20)
  obtain ⟨a20, c20, rfl, h20⟩ := new_of_owns hown20 hb20 (cat16 nul16 HF.out.1) (cat_out HF.out.2)
  clear hown20 hb20 HO HB HD hmk
  replace h0 := h0.below h20.bel
  replace hT := hT.trans (h20.bel.mono hT.size)
  replace h20 := h20.sl
  replace h20 := h20.congr (show cat k nul p0 = bk k p0 from rfl)
  refine (check_any h0 R (by omega)).mono ?_
  rintro e w21 ⟨a21, c21, g21, rfl, h21, q21⟩
  replace h0 := h0.below h21.bel
  replace h20 := h20.below h21.bel
  replace hT := hT.trans (h21.bel.mono hT.size)
  replace h21 := h21.sl
  go_wp2_with fail
  refine (check_any h20 R (by omega)).mono ?_
  rintro e w22 ⟨a22, c22, g22, rfl, h22, q22⟩
  replace h0 := h0.below h22.bel
  replace h20 := h20.below h22.bel
  replace h21 := h21.below h22.bel
  replace hT := hT.trans (h22.bel.mono hT.size)
  replace h22 := h22.sl
  obtain rfl := q21.uniq (by omega) HF.out.1 (chk_ahead q22)
  clear q21 q22
  go_wp2_with fail
  refine (same_any h21 h22 (by omega) rfl rfl).mono ?_
  rintro e w23 ⟨rfl, b23⟩
  replace h0 := h0.below b23
  replace h20 := h20.below b23
  replace h21 := h21.below b23
  replace h22 := h22.below b23
  replace hT := hT.trans (b23.mono hT.size)
  clear b23
  clear h21 h22
  by_cases q9 : (n0 : Int) < (R : Int)
  · go_wp2
    go_ret
    exact ⟨rfl, hT⟩
  · by_cases hRt : Rt n0 p0 R
    · have HR := hide hRt
      clear hRt
      go_wp2_with fail
      refine (right_yes h0 R (by omega) (by omega) HR.out).mono ?_
      rintro e w40 ⟨rfl, b40⟩
      have h21 := h20.below b40
      have hT2 := hT.trans (b40.mono hT.size)
      go_wp2_with fail
      refine (right_yes h21 R (by omega) (by omega) (rt_ahead.2 HR.out)).mono ?_
      rintro e w41 ⟨rfl, b41⟩
      go_wp2
      go_ret
      exact ⟨rfl, hT2.trans (b41.mono hT2.size)⟩
    · have HR := hide hRt
      clear hRt
      go_wp2_with fail
      refine (right_no h0 R (by omega) (by omega) HR.out).mono ?_
      rintro e w40 ⟨rfl, b40⟩
      have h21 := h20.below b40
      have hT2 := hT.trans (b40.mono hT.size)
      go_wp2_with fail
      refine (right_no h21 R (by omega) (by omega) (fun h => HR.out (rt_ahead.1 h))).mono ?_
      rintro e w41 ⟨rfl, b41⟩
      go_wp2
      go_ret
      exact ⟨rfl, hT2.trans (b41.mono hT2.size)⟩

theorem rsAhead_own : ownKnob Try.prog.godebug = none := by kernel_rfl
theorem rsAhead_laidOut : laidOutB Try.prog = true := by kernel_rfl

set_option maxRecDepth 100000 in
theorem rsAhead_lifted (os : Os) (started : os.Started) (H : Type) (enc : TypeId × Value → H) :
    ReturnsInHanded {} Try.checked os 7 .any (Rows.rsAheadSpec.pre6 enc Try.prog Try.f7 Rows.rsAheadRow.domain false) (Rows.rsAheadSpec.post enc Try.prog Try.f7 false true false false) := by
  refine returnsInHanded_of_change (C := Try.checked) rsAhead_own started (by kernel_rfl) Try.func7
    (ChangeSpec.witness6 (enc := enc) (C := Try.checked) false ⟨#[], #[.slice none 0 0, .int .i64 0, .int .i64 0], []⟩ 8 (by kernel_rfl) (by kernel_rfl) (by kernel_rfl) (by kernel_rfl)) ?_
  intro W base args ds gs before hval0 hW hcnd _
  have hval : ∀ (j : Nat) t v, Try.f7.params[j]? = some t → args[j]? = some v → Value.okWide Try.prog W .any base t v := hval0
  have hW' := hW
  obtain ⟨p, q, hA0, hV, rfl, hfz, hnd⟩ := hW
  have hA : DataW.TrodAll enc Try.prog W 0 (fun _ => true) true Try.f7.params.toList args.toList ds p := hA0
  rw [Try.params7] at hA hval
  obtain ⟨v0, vs0, d0, ds0, p0, q0, hargs, rfl, rfl, h0, r0⟩ := trodAll_cons hA
  obtain ⟨v1, vs1, d1, ds1, p1, q1, rfl, rfl, rfl, h1, r1⟩ := trodAll_cons r0
  obtain ⟨v2, vs2, d2, ds2, p2, q2, rfl, rfl, rfl, h2, r2⟩ := trodAll_cons r1
  obtain ⟨rfl, rfl, rfl⟩ := trodAll_nil r2
  obtain rfl : args = #[v0, v1, v2] := by cases args; simp_all
  obtain ⟨rfl, rfl⟩ := trodVars_none hV
  obtain ⟨a0, len0, cap0, rfl⟩ := okWide_slice Try.underlying23 (hval 0 23 v0 rfl rfl)
  have k0 := h0
  have lt0 : ∀ x ∈ p0, x.block < W.heap.size := by obtain ⟨m, hm⟩ := k0; exact DataW.trod_lt m _ _ _ hm
  obtain ⟨z0, w0⟩ : ∃ zs, IsRow .u16 W a0 len0 cap0 zs := by
    obtain ⟨fuel, hf⟩ := h0
    rcases open_ints Try.underlying23 Try.underlying27 (by kernel_rfl) hf with ⟨hcs, _⟩ | ⟨x, l, c, zs, hcs, _, hl, hm, hz, _, hcell, hwz⟩
    · simp [Value.cells] at hcs
      obtain ⟨rfl, rfl, rfl⟩ := hcs
      exact ⟨[], .inl ⟨rfl, rfl, rfl, rfl⟩⟩
    · simp [Value.cells] at hcs
      obtain ⟨rfl, rfl, rfl⟩ := hcs
      exact ⟨zs, .inr ⟨_, rfl, hl, hm, by simpa using hz, hcell, hwz⟩⟩
  obtain ⟨a1, rfl, rfl, rfl, w1⟩ := open_int Try.underlying3 (hval 1 3 v1 rfl rfl) h1
  obtain ⟨a2, rfl, rfl, rfl, w2⟩ := open_int Try.underlying3 (hval 2 3 v2 rfl rfl) h2
  clear hA0 hval0
  simp only [List.append_nil] at hW'
  refine (rsAhead_any (isRow_sl w0) (isRow_max w0) (bounds_i64 w1) (bounds_i64 w2)).mono fun e W' ⟨he, bel⟩ => ?_
  subst he
  exact ⟨_, rfl, _, _, _, [], _, [], hW', trodAll_mk1 (shut_bool Try.underlying4 _), (trodAll_cons_mk (Below.trod rsAhead_laidOut (by kernel_rfl) (of_decide_eq_true (by kernel_rfl)) k0 bel lt0) (trodAll_cons_mk (shut_int Try.underlying3 w1) (trodAll_cons_mk (shut_int Try.underlying3 w2) trodAll_mk0))), rfl, bel.frame _, fun h => by cases h⟩

theorem rsAhead_holds : Rows.RsAheadSaid :=
  OpenClaim.holds_of_wide 7 Try.f7 rfl rfl rfl rfl rfl rfl rfl ⟨rfl, rfl, rfl, rfl, rfl⟩ rfl rfl rfl rfl rfl (by kernel_rfl) Try.func7 (by kernel_rfl)
    (of_decide_eq_true (by kernel_rfl)) (by unfold Func.isWrapper; first | (rw [if_pos (by decide +kernel)]; kernel_rfl) | (rw [if_neg (by decide +kernel)]; exact ⟨rfl, rfl⟩))
    (fun os started H enc _ => rsAhead_lifted os started H enc)

#print axioms rsAhead_holds

end Go.Proofs.Ytfinicoipoleaaa
