/- The statement RsNames returns true. No condition. -/
import Derived.Test.YtfinicoipoleaaaArgs
import Derived.ArgAppend
namespace Go.Proofs.Ytfinicoipoleaaa
open Go.ChangeShapes Go.WideShapes Go.ChangeAt Go.RowKit Gf
open Go.ChangeMaps (open_string shut_string)
set_option linter.unusedVariables false

theorem sl_made (w : World) (n : Nat) : Sl (w.alloc (.cells (madeCells #[.int .u16 0] n) 27)) (some ⟨w.heap.size, 0, none⟩) n n nul :=
  (Wr.made w n).sl n (Nat.le_refl _) nul16 (fun _ _ => rfl)
theorem Sl.first {w : World} {a : Option Addr} {n c : Nat} (h : Sl w a n c nul) (m : Nat) (hm : m ≤ n) : Sl w a m c nul := h.cut hm (fun _ _ => rfl)

theorem wp_append_run {o : Oper} {a : Act} {w : World} {K : Act → World → Prop} {Q : Exit → Act → World → Prop} (s x : Operand) (ho : o.op = .call { callee := .builtin .append, args := #[s, x], argTypes := #[23, 23] }) (v1 v2 : Value) (hs : a.eval s = v1) (hx : a.eval x = v2) (v' : Value) (w' : World)
    (hrun : (Builtin.append_ #[23, 23] o.type #[v1, v2]).run Try.prog w = .ok v' w') (h : K (a.put o.dst v') w') : Oper.wp Try.prog o a w K Q := by
  unfold Oper.wp
  simp [execOp, ho, resolve, invoke, builtin, hs, hx, hrun, Result.andThen]
  exact h
theorem wpList_append_run {ops : Array Oper} {rest : List Oper} {o : Oper} {a : Act} {w : World} {Q : Exit → Act → World → Prop} (hw : Region.wanted o (yielded ops a.tmps) = true) (s x : Operand) (ho : o.op = .call { callee := .builtin .append, args := #[s, x], argTypes := #[23, 23] }) (v1 v2 : Value) (hs : a.eval s = v1) (hx : a.eval x = v2) (v' : Value) (w' : World)
    (hrun : (Builtin.append_ #[23, 23] o.type #[v1, v2]).run Try.prog w = .ok v' w') (h : wpList Try.prog ops Q rest (a.put o.dst v') w') : wpList Try.prog ops Q (o :: rest) a w := by
  rw [wpList, if_pos hw]
  exact .inl (wp_append_run s x ho v1 v2 hs hx v' w' hrun h)
/-- append to a row that has no room. -/
theorem append_full {w : World} {b o n m c1 : Nat} {ad : Addr} {f g : Nat → Int} (h : Sl w (some ⟨b, o, none⟩) n n f) (hg : Sl w (some ad) m c1 g) (hm : 0 < m) (hn : n + m ≤ 4000) :
    ∃ a' c' w', (Builtin.append_ #[23, 23] 23 #[.slice (some ⟨b, o, none⟩) n n, .slice (some ad) m c1]).run Try.prog w = .ok (.slice a' (n + m) c') w' ∧ New w w' a' (n + m) c' (cat n f g) := by
  obtain ⟨i0, hi, hz0, hz1, hz2⟩ := info_parts info16
  obtain ⟨v', w', hrun, hown, hgrow⟩ := run_append_arg_grows (P := Try.prog) w 23 23 27 i0 (.int .u16 0) 1 2 Try.underlying23 hi hz0 hz1 hz2 rfl (by decide) ⟨b, o, none⟩ n n (vals f n) (by rw [vals_length, Nat.mul_one]) (fun j u hu => by
      have hj : j < n := by
        have := (List.getElem?_eq_some_iff.1 hu).1
        rwa [vals_length] at this
      obtain ⟨b', off', e, hb, hc⟩ := h.at'.resolve_left (by omega)
      cases e
      rw [vals_get f n j hj] at hu
      cases hu
      rw [add_at]
      exact hc j hj) ad m c1 (vals g m) (by rw [vals_length, Nat.mul_one]) (fun j u hu => by
      have hj : j < m := by
        have := (List.getElem?_eq_some_iff.1 hu).1
        rwa [vals_length] at this
      obtain ⟨b', off', e, hb, hc⟩ := hg.at'.resolve_left (by omega)
      cases e
      rw [vals_get g m j hj] at hu
      cases hu
      rw [add_at]
      exact hc j hj) (by omega) (by unfold maxLen; omega) (by omega)
  rw [vals_cat] at hown
  obtain ⟨a', c', rfl, hnew⟩ := new_of_owns hown ((Below.refl _ w).grown hgrow (Nat.le_refl _) (fun k e => by cases e)) (cat16 h.bd hg.bd) (cat_out hg.out)
  exact ⟨a', c', w', hrun, hnew⟩

set_option maxRecDepth 100000 in
set_option maxHeartbeats 8000000 in
theorem rsNames_any (w : World) :
    Calls Try.prog 3 #[] w fun e w' => e = .returned (.bool true) ∧ Below w.heap.size w w' := by
  have hmk := mk_int 255 255 rfl (by decide)
  have hT := Below.refl w.heap.size w
  go_enter Try.func3, Try.ntmps3
  go_wp2_with fail
  refine (works_any _).mono ?_
  rintro e w11 ⟨rfl, b11⟩
  replace hT := hT.trans (b11.mono hT.size)
  clear b11
  have hF := sl_made w11 255
  have bF := bel_lit w11 (.cells (madeCells #[.int .u16 0] 255) 27)
  replace hT := hT.trans (bF.mono hT.size)
  clear bF
  go_wp2_with fail
  refine (check_any hF 0 (by decide)).mono ?_
  rintro e w12 ⟨a12, c12, g12, rfl, h12, q12⟩
  replace hF := hF.below h12.bel
  replace hT := hT.trans (h12.bel.mono hT.size)
  replace h12 := h12.sl
  clear q12
  clear h12
  clear hmk
  go_wp2_with fail
  refine (check_badB _ 255 255 1 _ (by decide) (by decide)).mono ?_
  rintro e w13 ⟨rfl, b13⟩
  replace hF := hF.below b13
  replace hT := hT.trans (b13.mono hT.size)
  clear b13
  go_wp2_with fail
  refine (check_badB _ 1 255 (-1) _ (by decide) (by decide)).mono ?_
  rintro e w14 ⟨rfl, b14⟩
  replace hF := hF.below b14
  replace hT := hT.trans (b14.mono hT.size)
  clear b14
  go_wp2_with fail
  refine (check_any (hF.first 200 (by decide)) 55 (by decide)).mono ?_
  rintro e w15 ⟨a15, c15, g15, rfl, h15, q15⟩
  replace hF := hF.below h15.bel
  replace hT := hT.trans (h15.bel.mono hT.size)
  replace h15 := h15.sl
  clear q15
  clear h15
  go_wp2_with fail
  refine (check_badB _ 0 0 4611686018427387904 _ (by decide) (by decide)).mono ?_
  rintro e w16 ⟨rfl, b16⟩
  replace hF := hF.below b16
  replace hT := hT.trans (b16.mono hT.size)
  clear b16
  go_wp2_with fail
  refine (sums_any hF 255 (by decide) (by decide)).mono ?_
  rintro e w17 ⟨ad17, rfl, h17⟩
  replace hF := hF.below h17.bel
  replace hT := hT.trans (h17.bel.mono hT.size)
  clear h17
  have l18 : Sl (w17.alloc (.cells #[.int .u16 0] 27)) (some ⟨w17.heap.size, 0, none⟩) 1 1 (lf [0]) := by have := sl_lit w17 [0] (by decide); (try simp only [World.size_alloc] at this); exact this
  have bl18 := bel_lit w17 (.cells #[.int .u16 0] 27)
  replace hF := hF.below bl18
  replace hT := hT.trans (bl18.mono hT.size)
  clear bl18
  obtain ⟨a19, c19, w19, hrun19, h19⟩ := append_full hF l18 (by decide) (by decide)
  replace hF := hF.below h19.bel
  replace l18 := l18.below h19.bel
  replace hT := hT.trans (h19.bel.mono hT.size)
  clear h19
  clear l18
  go_wp2_with fail
  refine wp_append_run (.tmp 61) (.tmp 62) rfl _ _ rfl rfl _ _ hrun19 ?_
  clear hrun19
  go_wp2_with fail
  refine (sums_badB _ 256 c19 1 _ (by decide) (by decide)).mono ?_
  rintro e w20 ⟨rfl, b20⟩
  replace hF := hF.below b20
  replace hT := hT.trans (b20.mono hT.size)
  clear b20
  go_wp2_with fail
  refine (sums_badB _ 0 0 (-1) _ (by decide) (by decide)).mono ?_
  rintro e w21 ⟨rfl, b21⟩
  replace hF := hF.below b21
  replace hT := hT.trans (b21.mono hT.size)
  clear b21
  go_wp2_with fail
  refine (sums_any (sl_nil _) 2 (by decide) (by decide)).mono ?_
  rintro e w22 ⟨ad22, rfl, h22⟩
  replace hF := hF.below h22.bel
  replace hT := hT.trans (h22.bel.mono hT.size)
  clear h22
  go_wp2_with fail
  refine (sums_badB _ 0 0 256 _ (by decide) (by decide)).mono ?_
  rintro e w23 ⟨rfl, b23⟩
  replace hF := hF.below b23
  replace hT := hT.trans (b23.mono hT.size)
  clear b23
  go_wp2_with fail
  refine (right_yes hF 255 (by decide) (by decide) (rt_nul fun _ _ => rfl)).mono ?_
  rintro e w24 ⟨rfl, b24⟩
  replace hF := hF.below b24
  replace hT := hT.trans (b24.mono hT.size)
  clear b24
  have l25 : Sl (w24.alloc (.cells #[.int .u16 0] 27)) (some ⟨w24.heap.size, 0, none⟩) 1 1 (lf [0]) := by have := sl_lit w24 [0] (by decide); (try simp only [World.size_alloc] at this); exact this
  have bl25 := bel_lit w24 (.cells #[.int .u16 0] 27)
  replace hF := hF.below bl25
  replace hT := hT.trans (bl25.mono hT.size)
  clear bl25
  obtain ⟨a26, c26, w26, hrun26, h26⟩ := append_full hF l25 (by decide) (by decide)
  replace hF := hF.below h26.bel
  replace l25 := l25.below h26.bel
  replace hT := hT.trans (h26.bel.mono hT.size)
  clear h26
  clear l25
  go_wp2_with fail
  refine wpList_append_run (by rfl) (.tmp 127) (.tmp 128) rfl _ _ rfl rfl _ _ hrun26 ?_
  clear hrun26
  go_wp2_with fail
  refine (right_badB _ 256 c26 1 _ (by decide) (by decide)).mono ?_
  rintro e w27 ⟨rfl, b27⟩
  replace hF := hF.below b27
  replace hT := hT.trans (b27.mono hT.size)
  clear b27
  go_wp2_with fail
  refine (right_badB _ 0 0 1 _ (by decide) (by decide)).mono ?_
  rintro e w28 ⟨rfl, b28⟩
  replace hF := hF.below b28
  replace hT := hT.trans (b28.mono hT.size)
  clear b28
  go_wp2_with fail
  refine (right_yes (sl_nil _) 0 (by decide) (by decide) (fun j hj => by omega)).mono ?_
  rintro e w29 ⟨rfl, b29⟩
  replace hF := hF.below b29
  replace hT := hT.trans (b29.mono hT.size)
  clear b29
  go_wp2_with fail
  refine (right_badB _ 3 255 4 _ (by decide) (by decide)).mono ?_
  rintro e w30 ⟨rfl, b30⟩
  replace hF := hF.below b30
  replace hT := hT.trans (b30.mono hT.size)
  clear b30
  go_wp2_with fail
  refine (right_badB _ 255 255 (-1) _ (by decide) (by decide)).mono ?_
  rintro e w31 ⟨rfl, b31⟩
  replace hF := hF.below b31
  replace hT := hT.trans (b31.mono hT.size)
  clear b31
  go_wp2_with fail
  go_ret
  exact ⟨rfl, hT⟩

theorem rsNames_own : ownKnob Try.prog.godebug = none := by kernel_rfl
theorem rsNames_laidOut : laidOutB Try.prog = true := by kernel_rfl

set_option maxRecDepth 100000 in
theorem rsNames_lifted (os : Os) (started : os.Started) (H : Type) (enc : TypeId × Value → H) :
    ReturnsInHanded {} Try.checked os 3 .any (Rows.rsNamesSpec.pre6 enc Try.prog Try.f3 Rows.rsNamesRow.domain false) (Rows.rsNamesSpec.post enc Try.prog Try.f3 false true false false) := by
  refine returnsInHanded_of_change (C := Try.checked) rsNames_own started (by kernel_rfl) Try.func3
    (ChangeSpec.witness6 (enc := enc) (C := Try.checked) false ⟨#[], #[], []⟩ 8 (by kernel_rfl) (by kernel_rfl) (by kernel_rfl) (by kernel_rfl)) ?_
  intro W base args ds gs before hval0 hW hcnd _
  have hval : ∀ (j : Nat) t v, Try.f3.params[j]? = some t → args[j]? = some v → Value.okWide Try.prog W .any base t v := hval0
  have hW' := hW
  obtain ⟨p, q, hA0, hV, rfl, hfz, hnd⟩ := hW
  have hA : DataW.TrodAll enc Try.prog W 0 (fun _ => true) true Try.f3.params.toList args.toList ds p := hA0
  rw [Try.params3] at hA hval
  obtain ⟨rfl, rfl, rfl⟩ := trodAll_none hA
  obtain ⟨rfl, rfl⟩ := trodVars_none hV
  clear hA0 hval0
  simp only [List.append_nil] at hW'
  refine (rsNames_any W ).mono fun e W' ⟨he, bel⟩ => ?_
  subst he
  exact ⟨_, rfl, _, _, _, [], [], [], hW', trodAll_mk1 (shut_bool Try.underlying4 _), rfl, rfl, bel.frame _, fun h => by cases h⟩

theorem rsNames_holds : Rows.RsNamesSaid :=
  OpenClaim.holds_of_wide 3 Try.f3 rfl rfl rfl rfl rfl rfl rfl ⟨rfl, rfl, rfl, rfl, rfl⟩ rfl rfl rfl rfl rfl (by kernel_rfl) Try.func3 (by kernel_rfl)
    (of_decide_eq_true (by kernel_rfl)) (by unfold Func.isWrapper; first | (rw [if_pos (by decide +kernel)]; kernel_rfl) | (rw [if_neg (by decide +kernel)]; exact ⟨rfl, rfl⟩))
    (fun os started H enc _ => rsNames_lifted os started H enc)

#print axioms rsNames_holds

end Go.Proofs.Ytfinicoipoleaaa
