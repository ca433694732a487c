/- The statement PolyNames, which has no argument, returns true. No condition. -/
import Derived.Test.YtnbbenhiampknaaArgs
namespace Go.Proofs.Ytnbbenhiampknaa
open Go.ChangeShapes Go.WideShapes Go.ChangeAt Go.RowKit Gf
open Go.ChangeMaps (open_string shut_string)
set_option linter.unusedVariables false

theorem sl_nil (w : World) : Sl w none 0 0 nul := ⟨nul16, fun _ _ => rfl, Nat.le_refl _, fun _ => rfl, .inl rfl⟩
theorem shr_nul {f : Nat → Int} (h : f = nul) : Shr f 0 := ⟨.inl rfl, fun j _ => by rw [h]; rfl⟩
theorem lf_nul {xs : List Int} (h : ∀ j, j < xs.length → lf xs j = 0) : lf xs = nul := funext fun j => by
  by_cases hj : j < xs.length
  · exact h j hj
  · exact lf_out xs j (by omega)
theorem lf_trim : lf [5, 0] = lf [5] := lf_eq (fun j hj => by
  by_cases h : j < 2
  · have : j = 1 := by simp at hj; omega
    subst this; rfl
  · exact lf_out [5, 0] j (by simp; omega)) (by decide)
theorem ex_div : addp (mulp (lf [0, 1]) (lf [4])) nul = lf [0, 4, 0] := by
  rw [addp_nul (mulp16 (lf16 (by decide))), ← pm_mulp (n := 2) (lf16 (by decide)) (lf_out [0, 1])]
  exact lf_eq (fun j hj => pm_out (m := 1) (lf_out [4]) 2 j (by simp at hj; omega) (by decide)) (by decide +kernel)
theorem ex_add : addp (lf [1, 2]) (lf [1, 2, 0]) = nul := funext fun j => by
  by_cases h : j < 3
  · show xI (lf [1, 2] j) (lf [1, 2, 0] j) = 0
    have : j = 0 ∨ j = 1 ∨ j = 2 := by omega
    rcases this with rfl | rfl | rfl <;> decide +kernel
  · show xI (lf [1, 2] j) (lf [1, 2, 0] j) = 0
    rw [lf_out _ j (by simp; omega), lf_out _ j (by simp; omega), f7]
theorem ex_slope7 : slp (lf [7]) = nul := funext fun j => by
  unfold slp
  rw [lf_out _ (j + 1) (by simp)]
  simp [nul]
theorem ex_of0 : ofp nul 0 = lf [1] := lf_eq (fun j hj => ofp_out nul 0 j hj) (by decide +kernel)
theorem ex_at9 : atp 0 2 (lf [9, 1]) = 9 := by decide +kernel
theorem ex_at5 : atp 5 0 nul = 0 := rfl

set_option maxRecDepth 100000 in
set_option maxHeartbeats 8000000 in
theorem polyNames_any (w : World) : Calls Try.prog 4 #[] w fun e w' => e = .returned (.bool true) ∧ Below w.heap.size w w' := by
  have hT := Below.refl w.heap.size w
  go_enter Try.func4, Try.ntmps4
  have l11 : Sl (w.alloc (.cells #[.int .u16 1] 23)) (some ⟨w.heap.size, 0, none⟩) 1 1 (lf [1]) := by have := sl_lit w [1] (by decide); (try simp only [World.size_alloc] at this); exact this
  have bl11 := bel_lit w (.cells #[.int .u16 1] 23)
  replace hT := hT.trans (bl11.mono hT.size)
  clear bl11
  have l12 : Sl ((w.alloc (.cells #[.int .u16 1] 23)).alloc (.cells #[.int .u16 0, .int .u16 0] 23)) (some ⟨w.heap.size + 1, 0, none⟩) 2 2 (lf [0, 0]) := by have := sl_lit (w.alloc (.cells #[.int .u16 1] 23)) [0, 0] (by decide); (try simp only [World.size_alloc] at this); exact this
  have bl12 := bel_lit (w.alloc (.cells #[.int .u16 1] 23)) (.cells #[.int .u16 0, .int .u16 0] 23)
  replace l11 := l11.below bl12
  replace hT := hT.trans (bl12.mono hT.size)
  clear bl12
  go_wp2_with fail
  refine (div_zero l11 l12 (by decide) (by decide) (shr_nul (lf_nul (by decide)))).mono ?_
  rintro e w13 ⟨rfl, b13⟩
  replace l11 := l11.below b13
  replace l12 := l12.below b13
  replace hT := hT.trans (b13.mono hT.size)
  clear b13
  clear l11 l12
  have l14 : Sl (w13.alloc (.cells #[.int .u16 5, .int .u16 0] 23)) (some ⟨w13.heap.size, 0, none⟩) 2 2 (lf [5, 0]) := by have := sl_lit w13 [5, 0] (by decide); (try simp only [World.size_alloc] at this); exact this
  have bl14 := bel_lit w13 (.cells #[.int .u16 5, .int .u16 0] 23)
  replace hT := hT.trans (bl14.mono hT.size)
  clear bl14
  have ln := sl_nil (w13.alloc (.cells #[.int .u16 5, .int .u16 0] 23))
  go_wp2_with fail
  have hsh15 : Shr (lf [5, 0]) (0 + 1) := lf_trim ▸ shr_lit [5] (by decide)
  refine (div_any (m := 0) ln l14 (by decide) (by decide) hsh15).mono ?_
  rintro e w15 ⟨aq, nq, cq, ar, nr, cr, q, r, rfl, hq, hr, hsq, hsr, hnr, hnq, hnr', heq, hro, _⟩
  have hu := div_uniq (N := nq) (lf16 (xs := [5, 0]) (by decide)) hsh15 hq.sl.bd hr.sl.bd nul16 nul16 hsq.2 (fun _ _ => rfl) hro (fun _ _ => rfl) (heq.trans (by rw [mulp_nul (lf16 (by decide)), addp_nul nul16]))
  obtain ⟨rfl, rfl⟩ := hu
  obtain rfl := hsq.uniq (shr_nul rfl)
  obtain rfl := hsr.uniq (shr_nul rfl)
  replace l14 := l14.below hq.bel
  replace hT := hT.trans (hq.bel.mono hT.size)
  clear l14
  clear ln hq hr hsq hsr heq hro hsh15 hnr hnq hnr'
  have l16 : Sl (w15.alloc (.cells #[.int .u16 0, .int .u16 4, .int .u16 0] 23)) (some ⟨w15.heap.size, 0, none⟩) 3 3 (lf [0, 4, 0]) := by have := sl_lit w15 [0, 4, 0] (by decide); (try simp only [World.size_alloc] at this); exact this
  have bl16 := bel_lit w15 (.cells #[.int .u16 0, .int .u16 4, .int .u16 0] 23)
  replace hT := hT.trans (bl16.mono hT.size)
  clear bl16
  have l17 : Sl ((w15.alloc (.cells #[.int .u16 0, .int .u16 4, .int .u16 0] 23)).alloc (.cells #[.int .u16 4] 23)) (some ⟨w15.heap.size + 1, 0, none⟩) 1 1 (lf [4]) := by have := sl_lit (w15.alloc (.cells #[.int .u16 0, .int .u16 4, .int .u16 0] 23)) [4] (by decide); (try simp only [World.size_alloc] at this); exact this
  have bl17 := bel_lit (w15.alloc (.cells #[.int .u16 0, .int .u16 4, .int .u16 0] 23)) (.cells #[.int .u16 4] 23)
  replace l16 := l16.below bl17
  replace hT := hT.trans (bl17.mono hT.size)
  clear bl17
  go_wp2_with fail
  have hsh18 : Shr (lf [4]) (0 + 1) := shr_lit [4] (by decide)
  refine (div_any (m := 0) l16 l17 (by decide) (by decide) hsh18).mono ?_
  rintro e w18 ⟨sa, ns, cs, ta, nt, ct, sq, tq, rfl, hq, hr, hsq, hsr, hnr, hnq, hnr', heq, hro, _⟩
  have hu := div_uniq (N := ns + 2) (lf16 (xs := [4]) (by decide)) hsh18 hq.sl.bd hr.sl.bd (lf16 (xs := [0, 1]) (by decide)) nul16 (fun j hj => hsq.2 j (by omega)) (fun j hj => lf_out [0, 1] j (by simp; omega)) hro (fun _ _ => rfl) (heq.trans ex_div.symm)
  obtain ⟨rfl, rfl⟩ := hu
  obtain rfl := hsq.uniq (shr_lit [0, 1] (by decide))
  obtain rfl := hsr.uniq (shr_nul rfl)
  replace l16 := l16.below hq.bel
  replace l17 := l17.below hq.bel
  replace hT := hT.trans (hq.bel.mono hT.size)
  clear l16 l17
  replace hq := hq.sl
  clear hr hsq hsr heq hro hsh18 hnr hnq hnr'
  have l19 : Sl (w18.alloc (.cells #[.int .u16 0, .int .u16 1] 23)) (some ⟨w18.heap.size, 0, none⟩) 2 2 (lf [0, 1]) := by have := sl_lit w18 [0, 1] (by decide); (try simp only [World.size_alloc] at this); exact this
  have bl19 := bel_lit w18 (.cells #[.int .u16 0, .int .u16 1] 23)
  replace hq := hq.below bl19
  replace hT := hT.trans (bl19.mono hT.size)
  clear bl19
  go_wp2_with fail
  refine (same_any hq l19 (by decide) rfl rfl).mono ?_
  rintro e w20 ⟨rfl, b20⟩
  replace hq := hq.below b20
  replace l19 := l19.below b20
  replace hT := hT.trans (b20.mono hT.size)
  clear b20
  clear l19 hq
  have l21 : Sl (w20.alloc (.cells #[.int .u16 0, .int .u16 0] 23)) (some ⟨w20.heap.size, 0, none⟩) 2 2 (lf [0, 0]) := by have := sl_lit w20 [0, 0] (by decide); (try simp only [World.size_alloc] at this); exact this
  have bl21 := bel_lit w20 (.cells #[.int .u16 0, .int .u16 0] 23)
  replace hT := hT.trans (bl21.mono hT.size)
  clear bl21
  go_wp2_with fail
  refine (short_any l21 (by decide)).mono ?_
  rintro e w22 ⟨a22, n22, c22, rfl, m22, s22, h22⟩
  replace l21 := l21.below h22.bel
  replace hT := hT.trans (h22.bel.mono hT.size)
  replace h22 := h22.sl
  obtain rfl := s22.uniq (shr_nul (lf_nul (by decide)))
  clear l21 h22
  clear s22
  have l23 : Sl (w22.alloc (.cells #[.int .u16 1, .int .u16 2] 23)) (some ⟨w22.heap.size, 0, none⟩) 2 2 (lf [1, 2]) := by have := sl_lit w22 [1, 2] (by decide); (try simp only [World.size_alloc] at this); exact this
  have bl23 := bel_lit w22 (.cells #[.int .u16 1, .int .u16 2] 23)
  replace hT := hT.trans (bl23.mono hT.size)
  clear bl23
  have l24 : Sl ((w22.alloc (.cells #[.int .u16 1, .int .u16 2] 23)).alloc (.cells #[.int .u16 1, .int .u16 2, .int .u16 0] 23)) (some ⟨w22.heap.size + 1, 0, none⟩) 3 3 (lf [1, 2, 0]) := by have := sl_lit (w22.alloc (.cells #[.int .u16 1, .int .u16 2] 23)) [1, 2, 0] (by decide); (try simp only [World.size_alloc] at this); exact this
  have bl24 := bel_lit (w22.alloc (.cells #[.int .u16 1, .int .u16 2] 23)) (.cells #[.int .u16 1, .int .u16 2, .int .u16 0] 23)
  replace l23 := l23.below bl24
  replace hT := hT.trans (bl24.mono hT.size)
  clear bl24
  go_wp2_with fail
  refine (padd_any l23 l24 (by decide) (by decide)).mono ?_
  rintro e w25 ⟨a25, n25, c25, rfl, m25, s25, h25⟩
  replace l23 := l23.below h25.bel
  replace l24 := l24.below h25.bel
  replace hT := hT.trans (h25.bel.mono hT.size)
  replace h25 := h25.sl
  obtain rfl := s25.uniq (shr_nul ex_add)
  clear l23 l24 h25
  clear s25
  have l26 : Sl (w25.alloc (.cells #[.int .u16 1] 23)) (some ⟨w25.heap.size, 0, none⟩) 1 1 (lf [1]) := by have := sl_lit w25 [1] (by decide); (try simp only [World.size_alloc] at this); exact this
  have bl26 := bel_lit w25 (.cells #[.int .u16 1] 23)
  replace hT := hT.trans (bl26.mono hT.size)
  clear bl26
  have ln := sl_nil (w25.alloc (.cells #[.int .u16 1] 23))
  go_wp2_with fail
  refine (pmul_any ln l26 (by decide) (by decide)).mono ?_
  rintro e w27 ⟨a27, n27, c27, rfl, m27, s27, h27⟩
  replace l26 := l26.below h27.bel
  replace hT := hT.trans (h27.bel.mono hT.size)
  replace h27 := h27.sl
  obtain rfl := s27.uniq (shr_nul (mulp_nul (lf16 (by decide))))
  clear l26 h27
  clear s27 ln
  have ln := sl_nil w27
  go_wp2_with fail
  refine (at_any ln (by decide) (by decide)).mono ?_
  rintro e w28 ⟨rfl, b28⟩
  replace hT := hT.trans (b28.mono hT.size)
  clear b28
  rw [ex_at5]
  clear ln
  have l29 : Sl (w28.alloc (.cells #[.int .u16 9, .int .u16 1] 23)) (some ⟨w28.heap.size, 0, none⟩) 2 2 (lf [9, 1]) := by have := sl_lit w28 [9, 1] (by decide); (try simp only [World.size_alloc] at this); exact this
  have bl29 := bel_lit w28 (.cells #[.int .u16 9, .int .u16 1] 23)
  replace hT := hT.trans (bl29.mono hT.size)
  clear bl29
  go_wp2_with fail
  refine (at_any l29 (by decide) (by decide)).mono ?_
  rintro e w30 ⟨rfl, b30⟩
  replace l29 := l29.below b30
  replace hT := hT.trans (b30.mono hT.size)
  clear b30
  rw [ex_at9]
  clear l29
  have l31 : Sl (w30.alloc (.cells #[.int .u16 7] 23)) (some ⟨w30.heap.size, 0, none⟩) 1 1 (lf [7]) := by have := sl_lit w30 [7] (by decide); (try simp only [World.size_alloc] at this); exact this
  have bl31 := bel_lit w30 (.cells #[.int .u16 7] 23)
  replace hT := hT.trans (bl31.mono hT.size)
  clear bl31
  go_wp2_with fail
  refine (slope_any l31 (by decide)).mono ?_
  rintro e w32 ⟨a32, n32, c32, rfl, m32, s32, h32⟩
  replace l31 := l31.below h32.bel
  replace hT := hT.trans (h32.bel.mono hT.size)
  replace h32 := h32.sl
  obtain rfl := s32.uniq (shr_nul ex_slope7)
  clear l31 h32
  clear s32
  have ln := sl_nil w32
  go_wp2_with fail
  refine (of_any ln (by decide)).mono ?_
  rintro e w33 ⟨a33, c33, rfl, h33⟩
  replace hT := hT.trans (h33.bel.mono hT.size)
  replace h33 := h33.sl
  clear ln
  have l34 : Sl (w33.alloc (.cells #[.int .u16 1] 23)) (some ⟨w33.heap.size, 0, none⟩) 1 1 (lf [1]) := by have := sl_lit w33 [1] (by decide); (try simp only [World.size_alloc] at this); exact this
  have bl34 := bel_lit w33 (.cells #[.int .u16 1] 23)
  replace h33 := h33.below bl34
  replace hT := hT.trans (bl34.mono hT.size)
  clear bl34
  go_wp2_with fail
  refine (same_any h33 l34 (by decide) rfl ex_of0).mono ?_
  rintro e w35 ⟨rfl, b35⟩
  replace h33 := h33.below b35
  replace l34 := l34.below b35
  replace hT := hT.trans (b35.mono hT.size)
  clear b35
  clear l34 h33
  go_wp2_with fail
  refine (awake_any _).mono ?_
  rintro e w36 ⟨rfl, b36⟩
  replace hT := hT.trans (b36.mono hT.size)
  clear b36
  go_wp2_with fail
  go_ret
  exact ⟨rfl, hT⟩

theorem polyNames_own : ownKnob Try.prog.godebug = none := by kernel_rfl
theorem polyNames_laidOut : laidOutB Try.prog = true := by kernel_rfl

set_option maxRecDepth 100000 in
theorem polyNames_lifted (os : Os) (started : os.Started) (H : Type) (enc : TypeId × Value → H) :
    ReturnsInHanded {} Try.checked os 4 .any (Rows.polyNamesSpec.pre6 enc Try.prog Try.f4 Rows.polyNamesRow.domain false) (Rows.polyNamesSpec.post enc Try.prog Try.f4 false true false false) := by
  refine returnsInHanded_of_change (C := Try.checked) polyNames_own started (by kernel_rfl) Try.func4
    (ChangeSpec.witness6 (enc := enc) (C := Try.checked) false ⟨#[], #[], []⟩ 8 (by kernel_rfl) (by kernel_rfl) (by kernel_rfl) (by kernel_rfl)) ?_
  intro W base args ds gs before hval0 hW hcnd _
  have hval : ∀ (j : Nat) t v, Try.f4.params[j]? = some t → args[j]? = some v → Value.okWide Try.prog W .any base t v := hval0
  have hW' := hW
  obtain ⟨p, q, hA0, hV, rfl, hfz, hnd⟩ := hW
  have hA : DataW.TrodAll enc Try.prog W 0 (fun _ => true) true Try.f4.params.toList args.toList ds p := hA0
  rw [Try.params4] at hA hval
  obtain ⟨rfl, rfl, rfl⟩ := trodAll_none hA
  obtain ⟨rfl, rfl⟩ := trodVars_none hV
  clear hA0 hval0
  simp only [List.append_nil] at hW'
  refine (polyNames_any W ).mono fun e W' ⟨he, bel⟩ => ?_
  subst he
  exact ⟨_, rfl, _, _, _, [], [], [], hW', trodAll_mk1 (shut_bool Try.underlying4 _), rfl, rfl, bel.frame _, fun h => by cases h⟩

theorem polyNames_holds : Rows.PolyNamesSaid :=
  OpenClaim.holds_of_wide 4 Try.f4 rfl rfl rfl rfl rfl rfl rfl ⟨rfl, rfl, rfl, rfl, rfl⟩ rfl rfl rfl rfl rfl (by kernel_rfl) Try.func4 (by kernel_rfl)
    (of_decide_eq_true (by kernel_rfl)) (by unfold Func.isWrapper; first | (rw [if_pos (by decide +kernel)]; kernel_rfl) | (rw [if_neg (by decide +kernel)]; exact ⟨rfl, rfl⟩))
    (fun os started H enc _ => polyNames_lifted os started H enc)

#print axioms polyNames_holds

end Go.Proofs.Ytnbbenhiampknaa
