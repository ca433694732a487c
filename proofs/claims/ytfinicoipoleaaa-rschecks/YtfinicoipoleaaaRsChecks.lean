/- For any slice of numbers of 16 bits and any integer the statement RsChecks returns true and its arguments read as before. No condition. -/
import Derived.Test.YtfinicoipoleaaaArgs
import Derived.Test.YtfinicoipoleaaaBoths
namespace Go.Proofs.Ytfinicoipoleaaa
open Go.ChangeShapes Go.WideShapes Go.ChangeAt Go.RowKit Gf
open Go.ChangeMaps (open_string shut_string)
set_option linter.unusedVariables false

set_option maxRecDepth 100000 in
set_option maxHeartbeats 8000000 in
theorem rsChecks_any {w : World} {a0 : Option Addr} {n0 c0 : Nat} {p0 : Nat → Int} {r : Int} (h0 : Sl w a0 n0 c0 p0) (m0 : n0 ≤ maxLen) (br : -9223372036854775808 ≤ r ∧ r ≤ 9223372036854775807) :
    Calls Try.prog 4 #[.slice a0 n0 c0, .int .i64 r] w fun e w' => e = .returned (.bool true) ∧ Below w.heap.size w w' := by
  unfold maxLen at m0
  by_cases g0 : (600 : Int) < (n0 : Int)
  · go_enter Try.func4, Try.ntmps4
    go_wp2
    go_ret
    exact ⟨rfl, Below.refl _ _⟩
  obtain ⟨nk, ck, ec, hnk, kC, kRC⟩ := check_both r h0.bd h0.out (show n0 ≤ 1000 by omega)
  obtain ⟨ns, sk, es, hns, kS, kRS⟩ := sums_both (f := p0) r (show n0 ≤ 1000 by omega)
  obtain ⟨bo, kR, kRR⟩ := right_both (f := p0) r (show n0 ≤ 1000 by omega)
  have KK := hide (And.intro kC (And.intro kRC (And.intro kS (And.intro kRS (And.intro kR kRR)))))
  clear kC kRC kS kRS kR kRR
  obtain ⟨i0, hi, hz0, hz1, hz2⟩ := info_parts info16
  have HF := hide (And.intro h0.bd h0.out)
  have qe := bne_no (rfl : ec = ec)
  have qs := bne_no (rfl : es = es)
  have hT := Below.refl w.heap.size w
  go_enter Try.func4, Try.ntmps4
  go_wp2_with (first
    | (at_make
       refine wpList_make_own _ rfl _ _ 23 rfl w.heap.size 27 i0 (.int .u16 0) 1 Try.underlying23 hi hz0 hz1 .i64 .i64 _ (n0 + 300) rfl rfl (by omega) (by rw [hz2]; omega) (by unfold maxLen; omega) (Nat.le_refl _) ?_
       intro w1 hown1 hgrow1
       replace hown1 := hide hown1
       have hb1 := hide ((Below.refl w.heap.size w).grown hgrow1 (Nat.le_refl _) (fun k e => by cases e)))
    | (refine append_sl rfl (.tmp 23) (.tmp 24) rfl w.heap.size _ 0 nul rfl hown1.out a0 n0 c0 p0 rfl (h0.below hb1.out) (by omega) hb1.out.size w hb1.out ?_
       intro v2 w2 hown2 hb2
       replace hown2 := hide hown2
       replace hb2 := hide hb2))
  have hown3 := hown2.out
  rw [Nat.zero_add, cat_nil] at hown3
  obtain ⟨a2, c2, rfl, hnew⟩ := new_of_owns hown3 hb2.out HF.out.1 HF.out.2
  clear hown1 hgrow1 hb1 hown2 hown3 hb2
  replace h0 := h0.below hnew.bel
  replace hT := hT.trans (hnew.bel.mono hT.size)
  have hI := hnew.sl
  clear hnew
  refine (KK.out.2.1 _ _ _ h0).mono ?_
  rintro e w3 ⟨a3, c3, rfl, h3⟩
  replace hI := hI.below h3.bel
  replace h0 := h0.below h3.bel
  replace hT := hT.trans (h3.bel.mono hT.size)
  replace h3 := h3.sl
  go_wp2_with fail
  refine (KK.out.2.2.2.1 _ _ _ h0).mono ?_
  rintro e w4 ⟨a4, c4, rfl, h4⟩
  replace hI := hI.below h4.bel
  replace h0 := h0.below h4.bel
  replace h3 := h3.below h4.bel
  replace hT := hT.trans (h4.bel.mono hT.size)
  replace h4 := h4.sl
  have HI := hide hI
  have H0 := hide h0
  have H3 := hide h3
  have H4 := hide h4
  have HT := hide hT
  clear hI h0 h3 h4 hT
  go_wp2_with fail
  go_loopw [10, 11, 12, 13, 14, 15, 16] (fun t _ _ _ _ _ _ wr => ∃ q : Nat, t = .int .i64 q ∧ q ≤ 2 ∧ Below w4.heap.size w4 wr) (fun t _ _ _ _ _ _ _ => 2 - (intOf t).toNat)
  case atStart => exact ⟨0, rfl, by decide, Below.refl _ _⟩
  case round =>
    obtain ⟨q, rfl, hq, hbl⟩ := hrel
    obtain ⟨wo, hwo⟩ : ∃ v, v = wr := ⟨_, rfl⟩
    subst hwo
    by_cases hlt : q < 2
    · have hI := HI.out.below hbl
      have h0 := H0.out.below hbl
      have h3 := H3.out.below hbl
      have h4 := H4.out.below hbl
      have HBL := hide hbl
      clear hbl
      go_wp2_with fail
      refine (KK.out.1 _ _ _ hI).mono ?_
      rintro e w5 ⟨a5, c5, rfl, h5⟩
      replace hI := hI.below h5.bel
      replace h0 := h0.below h5.bel
      replace h3 := h3.below h5.bel
      replace h4 := h4.below h5.bel
      have hT := h5.bel
      have hso5 := h5.bel.size
      have m5 := h5.mine
      replace h5 := h5.sl
      go_wp2_with fail
      refine (KK.out.2.2.1 _ _ _ hI).mono ?_
      rintro e w6 ⟨a6, c6, rfl, h6⟩
      replace hI := hI.below h6.bel
      replace h0 := h0.below h6.bel
      replace h3 := h3.below h6.bel
      replace h4 := h4.below h6.bel
      replace h5 := h5.below h6.bel
      replace m5 := m5.below h6.bel
      have hs56 := h6.bel.size
      replace hT := hT.trans (h6.bel.mono hT.size)
      have m6 := h6.mine
      replace h6 := h6.sl
      go_wp2_with fail
      refine (same_any h3 h5 (by omega) rfl rfl).mono ?_
      rintro e w7 ⟨rfl, b7⟩
      replace hI := hI.below b7
      replace h0 := h0.below b7
      replace h4 := h4.below b7
      replace h6 := h6.below b7
      replace m5 := m5.below (b7.mono hs56)
      replace m6 := m6.below b7
      replace hT := hT.trans (b7.mono hT.size)
      have hs67 := b7.size
      clear h3 h5 b7
      go_wp2_with fail
      refine (same_any h4 h6 (by omega) rfl rfl).mono ?_
      rintro e w8 ⟨rfl, b8⟩
      replace hI := hI.below b8
      replace h0 := h0.below b8
      replace m5 := m5.below (b8.mono (by omega))
      replace m6 := m6.below (b8.mono (by omega))
      replace hT := hT.trans (b8.mono hT.size)
      have hs78 := b8.size
      clear h4 h6 b8
      go_wp2_with fail
      refine (KK.out.2.2.2.2.1 _ _ _ hI).mono ?_
      rintro e w9 ⟨rfl, b9⟩
      replace hI := hI.below b9
      replace h0 := h0.below b9
      replace m5 := m5.below (b9.mono (by omega))
      replace m6 := m6.below (b9.mono (by omega))
      replace hT := hT.trans (b9.mono hT.size)
      have hs89 := b9.size
      clear b9
      go_wp2_with fail
      refine (KK.out.2.2.2.2.2 _ _ _ h0).mono ?_
      rintro e w10 ⟨rfl, b10⟩
      replace hI := hI.below b10
      replace h0 := h0.below b10
      replace m5 := m5.below (b10.mono (by omega))
      replace m6 := m6.below (b10.mono (by omega))
      replace hT := hT.trans (b10.mono hT.size)
      have hs910 := b10.size
      clear b10
      have qb : (bo != bo) = false := by simp
      go_wp2_with fail
      refine (same_any hI h0 (by omega) rfl rfl).mono ?_
      rintro e w11 ⟨rfl, b11⟩
      replace m5 := m5.below (b11.mono (by omega))
      replace m6 := m6.below (b11.mono (by omega))
      replace hT := hT.trans (b11.mono hT.size)
      have M5 := hide m5
      have M6 := hide m6
      have HTT := hide hT
      clear m5 m6 hT b11 hI h0
      go_wp2_with fail
      go_loopw [15] (fun t wr => ∃ i : Nat, t = .int .i64 i ∧ i ≤ nk ∧ Mine wo.heap.size w5.heap.size wr a5 nk ∧ Mine w5.heap.size w6.heap.size wr a6 ns ∧ Below wo.heap.size wo wr) (fun t _ => nk - (intOf t).toNat)
      case atStart => exact ⟨0, rfl, Nat.zero_le _, M5.out, M6.out, HTT.out⟩
      case round =>
        obtain ⟨i, rfl, hi', m5, m6, hbl⟩ := hrel
        obtain ⟨wi, hwi⟩ : ∃ v, v = wr := ⟨_, rfl⟩
        subst hwi
        by_cases hlt2 : i < nk
        · obtain ⟨b, o, F, rfl, hb, hb', hw⟩ := m5.resolve_left (by omega)
          have hc := hw.cell i hlt2
          have hfz := hw.free i hlt2
          have HW := hide hw
          have HM6 := hide m6
          have HBI := hide hbl
          clear hw m6 hbl
          go_wp2_with fail
          go_roundw
          case rel => exact ⟨i + 1, by go_num, by omega, .inr ⟨b, o, _, rfl, hb, hb', HW.out.set i hlt2 _⟩, HM6.out.only (Only.setCell b (o + i) _ _) (.inl hb'), HBI.out.trans ((Only.setCell b (o + i) _ _).below hb)⟩
          case measure => (simp [intOf]; try omega)
        · obtain rfl : i = nk := by omega
          have HM6 := hide m6
          have HBI := hide hbl
          clear m5 m6 hbl
          go_wp2_with fail
          go_loopw [16] (fun t wr => ∃ j : Nat, t = .int .i64 j ∧ j ≤ ns ∧ Mine w5.heap.size w6.heap.size wr a6 ns ∧ Below wo.heap.size wo wr) (fun t _ => ns - (intOf t).toNat)
          case atStart => exact ⟨0, rfl, Nat.zero_le _, HM6.out, HBI.out⟩
          case round =>
            obtain ⟨j, rfl, hj, m6, hbl⟩ := hrel
            obtain ⟨wl, hwl⟩ : ∃ v, v = wr := ⟨_, rfl⟩
            subst hwl
            by_cases hlt3 : j < ns
            · obtain ⟨b, o, F, rfl, hb, hb', hw⟩ := m6.resolve_left (by omega)
              have hc := hw.cell j hlt3
              have hfz := hw.free j hlt3
              have hbo : wo.heap.size ≤ b := by omega
              have HW := hide hw
              have HBJ := hide hbl
              clear hw hbl
              go_wp2_with fail
              go_roundw
              case rel => exact ⟨j + 1, by go_num, by omega, .inr ⟨b, o, _, rfl, hb, hb', HW.out.set j hlt3 _⟩, HBJ.out.trans ((Only.setCell b (o + j) _ _).below hbo)⟩
              case measure => (simp [intOf]; try omega)
            · obtain rfl : j = ns := by omega
              have HBJ := hide hbl
              clear hbl m6
              go_wp2_with fail
              go_roundw
              case rel => exact ⟨q + 1, by go_num, by omega, HBL.out.trans (HBJ.out.mono HBL.out.size)⟩
              case measure => (simp [intOf]; try omega)
    · obtain rfl : q = 2 := by omega
      have hT2 := HT.out.trans (hbl.mono HT.out.size)
      go_wp2
      go_ret
      exact ⟨rfl, hT2⟩

theorem rsChecks_own : ownKnob Try.prog.godebug = none := by kernel_rfl
theorem rsChecks_laidOut : laidOutB Try.prog = true := by kernel_rfl

set_option maxRecDepth 100000 in
theorem rsChecks_lifted (os : Os) (started : os.Started) (H : Type) (enc : TypeId × Value → H) :
    ReturnsInHanded {} Try.checked os 4 .any (Rows.rsChecksSpec.pre6 enc Try.prog Try.f4 Rows.rsChecksRow.domain false) (Rows.rsChecksSpec.post enc Try.prog Try.f4 false true false false) := by
  refine returnsInHanded_of_change (C := Try.checked) rsChecks_own started (by kernel_rfl) Try.func4
    (ChangeSpec.witness6 (enc := enc) (C := Try.checked) false ⟨#[], #[.slice none 0 0, .int .i64 0], []⟩ 8 (by kernel_rfl) (by kernel_rfl) (by kernel_rfl) (by kernel_rfl)) ?_
  intro W base args ds gs before hval0 hW hcnd _
  have hval : ∀ (j : Nat) t v, Try.f4.params[j]? = some t → args[j]? = some v → Value.okWide Try.prog W .any base t v := hval0
  have hW' := hW
  obtain ⟨p, q, hA0, hV, rfl, hfz, hnd⟩ := hW
  have hA : DataW.TrodAll enc Try.prog W 0 (fun _ => true) true Try.f4.params.toList args.toList ds p := hA0
  rw [Try.params4] at hA hval
  obtain ⟨v0, vs0, d0, ds0, p0, q0, hargs, rfl, rfl, h0, r0⟩ := trodAll_cons hA
  obtain ⟨v1, vs1, d1, ds1, p1, q1, rfl, rfl, rfl, h1, r1⟩ := trodAll_cons r0
  obtain ⟨rfl, rfl, rfl⟩ := trodAll_nil r1
  obtain rfl : args = #[v0, v1] := by cases args; simp_all
  obtain ⟨rfl, rfl⟩ := trodVars_none hV
  obtain ⟨a0, len0, cap0, rfl⟩ := okWide_slice Try.underlying23 (hval 0 23 v0 rfl rfl)
  have k0 := h0
  have lt0 : ∀ x ∈ p0, x.block < W.heap.size := by obtain ⟨m, hm⟩ := k0; exact DataW.trod_lt m _ _ _ hm
  obtain ⟨z0, w0⟩ : ∃ zs, IsRow .u16 W a0 len0 cap0 zs := by
    obtain ⟨fuel, hf⟩ := h0
    rcases open_ints Try.underlying23 Try.underlying27 (by kernel_rfl) hf with ⟨hcs, _⟩ | ⟨x, l, c, zs, hcs, _, hl, hm, hz, _, hcell, hwz⟩
    · simp [Value.cells] at hcs
      obtain ⟨rfl, rfl, rfl⟩ := hcs
      exact ⟨[], .inl ⟨rfl, rfl, rfl, rfl⟩⟩
    · simp [Value.cells] at hcs
      obtain ⟨rfl, rfl, rfl⟩ := hcs
      exact ⟨zs, .inr ⟨_, rfl, hl, hm, by simpa using hz, hcell, hwz⟩⟩
  obtain ⟨a1, rfl, rfl, rfl, w1⟩ := open_int Try.underlying3 (hval 1 3 v1 rfl rfl) h1
  clear hA0 hval0
  simp only [List.append_nil] at hW'
  refine (rsChecks_any (isRow_sl w0) (isRow_max w0) (bounds_i64 w1)).mono fun e W' ⟨he, bel⟩ => ?_
  subst he
  exact ⟨_, rfl, _, _, _, [], _, [], hW', trodAll_mk1 (shut_bool Try.underlying4 _), (trodAll_cons_mk (Below.trod rsChecks_laidOut (by kernel_rfl) (of_decide_eq_true (by kernel_rfl)) k0 bel lt0) (trodAll_cons_mk (shut_int Try.underlying3 w1) trodAll_mk0)), rfl, bel.frame _, fun h => by cases h⟩

theorem rsChecks_holds : Rows.RsChecksSaid :=
  OpenClaim.holds_of_wide 4 Try.f4 rfl rfl rfl rfl rfl rfl rfl ⟨rfl, rfl, rfl, rfl, rfl⟩ rfl rfl rfl rfl rfl (by kernel_rfl) Try.func4 (by kernel_rfl)
    (of_decide_eq_true (by kernel_rfl)) (by unfold Func.isWrapper; first | (rw [if_pos (by decide +kernel)]; kernel_rfl) | (rw [if_neg (by decide +kernel)]; exact ⟨rfl, rfl⟩))
    (fun os started H enc _ => rsChecks_lifted os started H enc)

#print axioms rsChecks_holds

end Go.Proofs.Ytfinicoipoleaaa
