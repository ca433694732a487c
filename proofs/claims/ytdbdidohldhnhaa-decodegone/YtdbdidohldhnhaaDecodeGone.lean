/- For any two slices of numbers of 16 bits, any slice of ints and any integer the statement DecodeGone returns true and its arguments read as before. No condition. -/
import Derived.Test.YtdbdidohldhnhaaDArgs
namespace Go.Proofs.Ytdbdidohldhnhaa
open Go.ChangeShapes Go.WideShapes Go.ChangeAt Go.RowKit Gf
open Go.ChangeMaps (open_string shut_string)
set_option linter.unusedVariables false

theorem same_nil (w : World) : Calls Try.prog 12 #[.slice none 0 0, .slice none 0 0] w fun e w' => e = .returned (.bool true) ∧ Below w.heap.size w w' := same_any (sl_nil w) (sl_nil w) (by decide) rfl rfl

set_option maxRecDepth 100000 in
set_option maxHeartbeats 4000000 in
theorem decodeGone_any {w : World} {a0 a1 a2 : Option Addr} {n0 c0 n1 c1 n2 c2 : Nat} {p0 gl p2 : Nat → Int} {r : Int} (h0 : Sl w a0 n0 c0 p0) (m0 : n0 ≤ maxLen) (br : -9223372036854775808 ≤ r ∧ r ≤ 9223372036854775807) (h1 : Il w a1 n1 c1 gl) (m1 : n1 ≤ maxLen) (h2 : Sl w a2 n2 c2 p2) (m2 : n2 ≤ maxLen) :
    Calls Try.prog 8 #[.slice a0 n0 c0, .int .i64 r, .slice a1 n1 c1, .slice a2 n2 c2] w fun e w' => e = .returned (.bool true) ∧ Below w.heap.size w w' := by
  unfold maxLen at m0 m1 m2
  by_cases g0 : (60 : Int) < (n0 : Int)
  · go_enter Try.func8, Try.ntmps8
    go_wp2_with fail
    refine (dawake_any _).mono ?_
    rintro e w1 ⟨rfl, hB⟩
    go_wp2
    go_ret
    exact ⟨rfl, hB⟩
  by_cases g1 : (60 : Int) < (n1 : Int)
  · go_enter Try.func8, Try.ntmps8
    go_wp2_with fail
    refine (dawake_any _).mono ?_
    rintro e w1 ⟨rfl, hB⟩
    go_wp2
    go_ret
    exact ⟨rfl, hB⟩
  by_cases g2 : r < 0
  · go_enter Try.func8, Try.ntmps8
    go_wp2_with fail
    refine (dawake_any _).mono ?_
    rintro e w1 ⟨rfl, hB⟩
    go_wp2
    go_ret
    exact ⟨rfl, hB⟩
  by_cases g3 : 40 < r
  · go_enter Try.func8, Try.ntmps8
    go_wp2_with fail
    refine (dawake_any _).mono ?_
    rintro e w1 ⟨rfl, hB⟩
    go_wp2
    go_ret
    exact ⟨rfl, hB⟩
  by_cases g4 : (100 : Int) < (n2 : Int)
  · go_enter Try.func8, Try.ntmps8
    go_wp2_with fail
    refine (dawake_any _).mono ?_
    rintro e w1 ⟨rfl, hB⟩
    go_wp2
    go_ret
    exact ⟨rfl, hB⟩
  obtain ⟨R, rfl⟩ := Int.eq_ofNat_of_zero_le (show 0 ≤ r by omega)
  have HS := hide (And.intro h0 (And.intro h1 h2))
  clear h0 h1 h2
  go_enter Try.func8, Try.ntmps8
  go_wp2_with fail
  refine (dawake_any _).mono ?_
  rintro e w1 ⟨rfl, b1⟩
  have HB1 := hide b1
  have HO1 := hide (owns_nil w1 nul)
  have HBL1 := hide (bel_lit w1 (.cells #[] 29))
  have HL1 := hide ((HS.out.1.below b1).alloc (.cells #[] 29))
  clear b1
  go_wp2_with (
    refine append_sl rfl (.tmp 41) (.tmp 42) rfl w1.heap.size _ 0 nul rfl HO1.out _ n0 c0 p0 rfl HL1.out (by omega) (by simp) w1 HBL1.out ?_
    intro v2 w2 hown2 hb2
    rw [Nat.zero_add, cat_nil] at hown2
    obtain ⟨a3, c3, hv2, h3⟩ := new_of_owns hown2 hb2 HS.out.1.bd HS.out.1.out
    subst hv2
    have HH := hide h3.held
    have HB2 := hide h3.bel
    clear hown2 hb2 h3)
  go_loopw [10] (fun t wr => ∃ (k : Nat) (F : Nat → Int), t = .int .i64 k ∧ k ≤ n1 ∧ k ≤ n2 ∧ Held w1.heap.size wr a3 n0 c3 F ∧ (∀ j, j < n0 → gon gl k j = false → F j = p0 j) ∧ Below w1.heap.size w1 wr) (fun t _ => n1 - (intOf t).toNat)
  case atStart => exact ⟨0, p0, rfl, Nat.zero_le _, Nat.zero_le _, HH.out, fun _ _ _ => rfl, HB2.out⟩
  case round =>
    obtain ⟨k, F, rfl, hk1, hk2, hh, hF, hbl⟩ := hrel
    have HH' := hide hh
    have HF := hide hF
    have HB := hide hbl
    clear hh hF hbl
    have hBw := HB1.out.trans (HB.out.mono HB1.out.size)
    have HBw := hide hBw
    clear hBw
    by_cases hlt : k < n1 ∧ k < n2
    · obtain ⟨b1, o1, e1, hb1, hc1⟩ := (HS.out.2.1).at'.resolve_left (by omega)
      obtain ⟨b2, o2, e2, hb2, hc2⟩ := (HS.out.2.2).at'.resolve_left (by omega)
      subst e1 e2
      have x1 := c_be HBw.out hb1 (hc1 k hlt.1)
      have x2 := c_be HBw.out hb2 (hc2 k hlt.2)
      have hl1 : (k : Int) < (n1 : Int) := by omega
      have hl2 : (k : Int) < (n2 : Int) := by omega
      have g16 := HS.out.2.2.bd k
      have gbd := HS.out.2.1.bd k
      unfold I64 at gbd
      clear hc1 hc2
      by_cases q1 : 0 ≤ gl k
      · by_cases q2 : gl k < (n0 : Int)
        · obtain ⟨i, hi⟩ : ∃ i : Nat, gl k = (i : Int) := ⟨(gl k).toNat, by omega⟩
          have HI := hide hi
          rw [hi] at x1 q1 q2
          clear hi
          have hin : i < n0 := by omega
          obtain ⟨b3, o3, e3, hb3, hw3⟩ := HH'.out.2.resolve_left (by omega)
          subst e3
          have y1 := hw3.cell i hin
          have y2 := hw3.free i hin
          have HW3 := hide hw3
          clear hw3
          go_wp2_with fail
          go_region
          all_goals (
            go_wp2_with fail
            go_roundw
            case rel =>
              have hcap := HH'.out.1.cap
              refine ⟨k + 1, fun j => if j = i then p2 k else F j, by go_num, by omega, by omega, ⟨(HW3.out.put16 i hin (p2 k) c3 hcap g16 HH'.out.1.bd HH'.out.1.out).drew, .inr ⟨b3, o3, rfl, hb3, (HW3.out.set i hin (p2 k)).drew1⟩⟩, fun j hj hg => ?_, (HB.out.trans ((Only.setCell b3 (o3 + i) _ _).below hb3)).drew⟩
              rw [gon_succ, Bool.or_eq_false_iff] at hg
              show (if j = i then p2 k else F j) = p0 j
              rw [if_neg (fun (e : j = i) => by rw [HI.out, e] at hg; simp at hg)]
              exact HF.out j hj hg.1
            case measure => simp [intOf]; omega)
        · go_wp2_with fail
          go_roundw
          case rel =>
            refine ⟨k + 1, F, by go_num, by omega, by omega, HH'.out, fun j hj hg => ?_, HB.out⟩
            rw [gon_succ, Bool.or_eq_false_iff] at hg
            exact HF.out j hj hg.1
          case measure => simp [intOf]; omega
      · go_wp2_with fail
        go_roundw
        case rel =>
          refine ⟨k + 1, F, by go_num, by omega, by omega, HH'.out, fun j hj hg => ?_, HB.out⟩
          rw [gon_succ, Bool.or_eq_false_iff] at hg
          exact HF.out j hj hg.1
        case measure => simp [intOf]; omega
    · have hgk : ∀ j, gon gl n1 j = false → gon gl k j = false := fun j h => by
        cases hc : gon gl k j with
        | false => rfl
        | true =>
          obtain ⟨i, hi, e⟩ := gon_iff.1 hc
          have : gon gl n1 j = true := gon_iff.2 ⟨i, by omega, e⟩
          rw [h] at this
          cases this
      have hnear : ∀ cw, Near n0 p0 R n1 gl cw ↔ Near n0 F R n1 gl cw := fun cw =>
        ⟨fun h => h.gone (fun i hi hg => (HF.out i hi (hgk i hg)).symm), fun h => h.gone (fun i hi hg => HF.out i hi (hgk i hg))⟩
      have HNR := hide hnear
      clear hgk hnear
      obtain ⟨wo, hwo⟩ : ∃ v, v = wr := ⟨_, rfl⟩
      subst hwo
      have HA := hide (HS.out.1.below HBw.out)
      have HG := hide (HS.out.2.1.below HBw.out)
      have HO := hide HH'.out.1
      have hor : (¬ (k : Int) < (n1 : Int)) ∨ ((k : Int) < (n1 : Int) ∧ ¬ (k : Int) < (n2 : Int)) := by omega
      rcases hor with hl | ⟨hl, hl2⟩
      all_goals (
        clear hlt
        by_cases hbad : n0 = 0 ∨ 255 < n0 ∨ (R : Int) < 0 ∨ (n0 : Int) < (R : Int) ∨ ¬ Gn gl n1 n0
        · have HBAD := hide hbad
          clear hbad
          go_wp2_with fail
          refine (dword_bad (a := a0) (c := c0) (R : Int) (by unfold maxLen; omega) HG.out (by omega) HBAD.out).mono ?_
          rintro e w5 ⟨rfl, b5⟩
          have HG5 := hide (HG.out.below b5)
          have HB5 := hide b5
          clear b5
          go_wp2_with fail
          refine (dword_bad (a := a3) (c := c3) (R : Int) (by unfold maxLen; omega) HG5.out (by omega) HBAD.out).mono ?_
          rintro e w6 ⟨rfl, b6⟩
          have HB6 := hide b6
          clear b6
          go_wp2_with fail
          refine (same_nil _).mono ?_
          rintro e w7 ⟨rfl, b7⟩
          have HB7 := hide b7
          clear b7
          go_wp2_with fail
          go_ret
          have t5 := HBw.out.trans (HB5.out.mono HBw.out.size)
          have t6 := t5.trans (HB6.out.mono t5.size)
          exact ⟨rfl, t6.trans (HB7.out.mono t6.size)⟩
        · have hgn : Gn gl n1 n0 := Classical.byContradiction fun h => hbad (.inr (.inr (.inr (.inr h))))
          have hn0 : 0 < n0 := by omega
          have hRn : R ≤ n0 := by omega
          have HGN := hide hgn
          clear hbad hgn
          by_cases hex : ∃ cw, Near n0 p0 R n1 gl cw
          · obtain ⟨cw, hcw⟩ := hex
            have HCW := hide hcw
            clear hcw
            go_wp2_with fail
            refine (dword_ok HA.out HG.out (by omega) hn0 (by omega) hRn HGN.out HCW.out).mono ?_
            rintro e w5 ⟨a5, c5, rfl, h5⟩
            have H5 := hide h5.sl
            have HB5 := hide h5.bel
            have HG5 := hide (HG.out.below h5.bel)
            have HO5 := hide (HO.out.below h5.bel)
            clear h5
            go_wp2_with fail
            refine (dword_ok HO5.out HG5.out (by omega) hn0 (by omega) hRn HGN.out ((HNR.out cw).1 HCW.out)).mono ?_
            rintro e w6 ⟨a6, c6, rfl, h6⟩
            have H6 := hide h6.sl
            have HB6 := hide h6.bel
            have H56 := hide (H5.out.below h6.bel)
            clear h6
            go_wp2_with fail
            refine (same_any H56.out H6.out (by omega) rfl rfl).mono ?_
            rintro e w7 ⟨rfl, b7⟩
            have HB7 := hide b7
            clear b7
            go_wp2_with fail
            go_ret
            have t5 := HBw.out.trans (HB5.out.mono HBw.out.size)
            have t6 := t5.trans (HB6.out.mono t5.size)
            exact ⟨rfl, t6.trans (HB7.out.mono t6.size)⟩
          · have hno : ∀ cw, ¬ Near n0 p0 R n1 gl cw := fun cw h => hex ⟨cw, h⟩
            have HNO := hide hno
            clear hex hno
            go_wp2_with fail
            refine (dword_lost HA.out HG.out (by omega) hn0 (by omega) hRn HGN.out HNO.out).mono ?_
            rintro e w5 ⟨rfl, b5⟩
            have HB5 := hide b5
            have HG5 := hide (HG.out.below b5)
            have HO5 := hide (HO.out.below b5)
            clear b5
            go_wp2_with fail
            refine (dword_lost HO5.out HG5.out (by omega) hn0 (by omega) hRn HGN.out (fun cw h => HNO.out cw ((HNR.out cw).2 h))).mono ?_
            rintro e w6 ⟨rfl, b6⟩
            have HB6 := hide b6
            clear b6
            go_wp2_with fail
            refine (same_nil _).mono ?_
            rintro e w7 ⟨rfl, b7⟩
            have HB7 := hide b7
            clear b7
            go_wp2_with fail
            go_ret
            have t5 := HBw.out.trans (HB5.out.mono HBw.out.size)
            have t6 := t5.trans (HB6.out.mono t5.size)
            exact ⟨rfl, t6.trans (HB7.out.mono t6.size)⟩)

theorem decodeGone_own : ownKnob Try.prog.godebug = none := by kernel_rfl
theorem decodeGone_laidOut : laidOutB Try.prog = true := by kernel_rfl

set_option maxRecDepth 100000 in
theorem decodeGone_lifted (os : Os) (started : os.Started) (H : Type) (enc : TypeId × Value → H) :
    ReturnsInHanded {} Try.checked os 8 .any (Rows.decodeGoneSpec.pre6 enc Try.prog Try.f8 Rows.decodeGoneRow.domain false) (Rows.decodeGoneSpec.post enc Try.prog Try.f8 false true false false) := by
  refine returnsInHanded_of_change (C := Try.checked) decodeGone_own started (by kernel_rfl) Try.func8
    (ChangeSpec.witness6 (enc := enc) (C := Try.checked) false ⟨#[], #[.slice none 0 0, .int .i64 0, .slice none 0 0, .slice none 0 0], []⟩ 8 (by kernel_rfl) (by kernel_rfl) (by kernel_rfl) (by kernel_rfl)) ?_
  intro W base args ds gs before hval0 hW hcnd _
  have hval : ∀ (j : Nat) t v, Try.f8.params[j]? = some t → args[j]? = some v → Value.okWide Try.prog W .any base t v := hval0
  have hW' := hW
  obtain ⟨p, q, hA0, hV, rfl, hfz, hnd⟩ := hW
  have hA : DataW.TrodAll enc Try.prog W 0 (fun _ => true) true Try.f8.params.toList args.toList ds p := hA0
  rw [Try.params8] at hA hval
  obtain ⟨v0, vs0, d0, ds0, p0, q0, hargs, rfl, rfl, h0, r0⟩ := trodAll_cons hA
  obtain ⟨v1, vs1, d1, ds1, p1, q1, rfl, rfl, rfl, h1, r1⟩ := trodAll_cons r0
  obtain ⟨v2, vs2, d2, ds2, p2, q2, rfl, rfl, rfl, h2, r2⟩ := trodAll_cons r1
  obtain ⟨v3, vs3, d3, ds3, p3, q3, rfl, rfl, rfl, h3, r3⟩ := trodAll_cons r2
  obtain ⟨rfl, rfl, rfl⟩ := trodAll_nil r3
  obtain rfl : args = #[v0, v1, v2, v3] := by cases args; simp_all
  obtain ⟨rfl, rfl⟩ := trodVars_none hV
  obtain ⟨a0, len0, cap0, rfl⟩ := okWide_slice Try.underlying22 (hval 0 22 v0 rfl rfl)
  have k0 := h0
  have lt0 : ∀ x ∈ p0, x.block < W.heap.size := by obtain ⟨m, hm⟩ := k0; exact DataW.trod_lt m _ _ _ hm
  obtain ⟨z0, w0⟩ : ∃ zs, IsRow .u16 W a0 len0 cap0 zs := by
    obtain ⟨fuel, hf⟩ := h0
    rcases open_ints Try.underlying22 Try.underlying29 (by kernel_rfl) hf with ⟨hcs, _⟩ | ⟨x, l, c, zs, hcs, _, hl, hm, hz, _, hcell, hwz⟩
    · simp [Value.cells] at hcs
      obtain ⟨rfl, rfl, rfl⟩ := hcs
      exact ⟨[], .inl ⟨rfl, rfl, rfl, rfl⟩⟩
    · simp [Value.cells] at hcs
      obtain ⟨rfl, rfl, rfl⟩ := hcs
      exact ⟨zs, .inr ⟨_, rfl, hl, hm, by simpa using hz, hcell, hwz⟩⟩
  obtain ⟨a1, rfl, rfl, rfl, w1⟩ := open_int Try.underlying3 (hval 1 3 v1 rfl rfl) h1
  obtain ⟨a2, len2, cap2, rfl⟩ := okWide_slice Try.underlying23 (hval 2 23 v2 rfl rfl)
  have k2 := h2
  have lt2 : ∀ x ∈ p2, x.block < W.heap.size := by obtain ⟨m, hm⟩ := k2; exact DataW.trod_lt m _ _ _ hm
  obtain ⟨z2, w2⟩ : ∃ zs, IsRow .i64 W a2 len2 cap2 zs := by
    obtain ⟨fuel, hf⟩ := h2
    rcases open_ints Try.underlying23 Try.underlying3 (by kernel_rfl) hf with ⟨hcs, _⟩ | ⟨x, l, c, zs, hcs, _, hl, hm, hz, _, hcell, hwz⟩
    · simp [Value.cells] at hcs
      obtain ⟨rfl, rfl, rfl⟩ := hcs
      exact ⟨[], .inl ⟨rfl, rfl, rfl, rfl⟩⟩
    · simp [Value.cells] at hcs
      obtain ⟨rfl, rfl, rfl⟩ := hcs
      exact ⟨zs, .inr ⟨_, rfl, hl, hm, by simpa using hz, hcell, hwz⟩⟩
  obtain ⟨a3, len3, cap3, rfl⟩ := okWide_slice Try.underlying22 (hval 3 22 v3 rfl rfl)
  have k3 := h3
  have lt3 : ∀ x ∈ p3, x.block < W.heap.size := by obtain ⟨m, hm⟩ := k3; exact DataW.trod_lt m _ _ _ hm
  obtain ⟨z3, w3⟩ : ∃ zs, IsRow .u16 W a3 len3 cap3 zs := by
    obtain ⟨fuel, hf⟩ := h3
    rcases open_ints Try.underlying22 Try.underlying29 (by kernel_rfl) hf with ⟨hcs, _⟩ | ⟨x, l, c, zs, hcs, _, hl, hm, hz, _, hcell, hwz⟩
    · simp [Value.cells] at hcs
      obtain ⟨rfl, rfl, rfl⟩ := hcs
      exact ⟨[], .inl ⟨rfl, rfl, rfl, rfl⟩⟩
    · simp [Value.cells] at hcs
      obtain ⟨rfl, rfl, rfl⟩ := hcs
      exact ⟨zs, .inr ⟨_, rfl, hl, hm, by simpa using hz, hcell, hwz⟩⟩
  clear hA0 hval0
  simp only [List.append_nil] at hW'
  refine (decodeGone_any (isRow_sl w0) (isRow_max w0) (bounds_i64 w1) (isRow_il w2) (isRow_maxI w2) (isRow_sl w3) (isRow_max w3)).mono fun e W' ⟨he, bel⟩ => ?_
  subst he
  exact ⟨_, rfl, _, _, _, [], _, [], hW', trodAll_mk1 (shut_bool Try.underlying4 _), (trodAll_cons_mk (Below.trod decodeGone_laidOut (by kernel_rfl) (of_decide_eq_true (by kernel_rfl)) k0 bel lt0) (trodAll_cons_mk (shut_int Try.underlying3 w1) (trodAll_cons_mk (Below.trod decodeGone_laidOut (by kernel_rfl) (of_decide_eq_true (by kernel_rfl)) k2 bel lt2) (trodAll_cons_mk (Below.trod decodeGone_laidOut (by kernel_rfl) (of_decide_eq_true (by kernel_rfl)) k3 bel lt3) trodAll_mk0)))), rfl, bel.frame _, fun h => by cases h⟩

theorem decodeGone_holds : Rows.DecodeGoneSaid :=
  OpenClaim.holds_of_wide 8 Try.f8 rfl rfl rfl rfl rfl rfl rfl ⟨rfl, rfl, rfl, rfl, rfl⟩ rfl rfl rfl rfl rfl (by kernel_rfl) Try.func8 (by kernel_rfl)
    (of_decide_eq_true (by kernel_rfl)) (by unfold Func.isWrapper; first | (rw [if_pos (by decide +kernel)]; kernel_rfl) | (rw [if_neg (by decide +kernel)]; exact ⟨rfl, rfl⟩))
    (fun os started H enc _ => decodeGone_lifted os started H enc)

#print axioms decodeGone_holds

end Go.Proofs.Ytdbdidohldhnhaa
