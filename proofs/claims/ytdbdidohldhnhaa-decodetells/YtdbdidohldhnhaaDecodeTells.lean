/- For any slice of numbers of 16 bits, any integer and any slice of ints the statement DecodeTells returns true and its arguments read as before. No condition. -/
import Derived.Test.YtdbdidohldhnhaaRfWord
namespace Go.Proofs.Ytdbdidohldhnhaa
open Go.ChangeShapes Go.WideShapes Go.ChangeAt Go.RowKit Gf
open Go.ChangeMaps (open_string shut_string)
set_option linter.unusedVariables false

/-- Word and the document's own, side by side: they tell the same. -/
theorem word_both {n m : Nat} {f gl : Nat → Int} (r : Int) (hf : P16 f) (hn : n ≤ 60) (hm : m ≤ 60) : ∃ (nk : Nat) (ck : Nat → Int) (ec : Int), nk ≤ 255 ∧
    (∀ (w : World) (a ag : Option Addr) (c cg : Nat), Sl w a n c f → Il w ag m cg gl → Calls Try.prog 10 #[.slice a n c, .int .i64 r, .slice ag m cg] w fun e w' => ∃ a' c', e = .returned (.tuple #[.slice a' nk c', .int .i64 ec]) ∧ New w w' a' nk c' ck) ∧
    (∀ (w : World) (a ag : Option Addr) (c cg : Nat), Sl w a n c f → Il w ag m cg gl → Calls Try.prog 11 #[.slice a n c, .int .i64 r, .slice ag m cg] w fun e w' => ∃ a' c', e = .returned (.tuple #[.slice a' nk c', .int .i64 ec]) ∧ Sl w' a' nk c' ck ∧ Below w.heap.size w w') := by
  have hx : n ≤ maxLen := by unfold maxLen; omega
  by_cases hbad : n = 0 ∨ 255 < n ∨ r < 0 ∨ (n : Int) < r ∨ ¬ Gn gl m n
  · refine ⟨0, nul, 1, by decide, fun w a ag c cg h hg => ?_, fun w a ag c cg h hg => ?_⟩
    · refine (dword_bad r hx hg (by omega) hbad).mono ?_
      rintro e w' ⟨rfl, hB⟩
      exact ⟨none, 0, rfl, sl_nil _, hB, .inl rfl⟩
    · refine (rfword_bad r hx hg (by omega) hbad).mono ?_
      rintro e w' ⟨rfl, hB⟩
      exact ⟨none, 0, rfl, sl_nil _, hB⟩
  · have hG : Gn gl m n := Classical.byContradiction fun h => hbad (.inr (.inr (.inr (.inr h))))
    obtain ⟨R, rfl⟩ := Int.eq_ofNat_of_zero_le (show 0 ≤ r by omega)
    by_cases hex : ∃ cw, Near n f R m gl cw
    · obtain ⟨cw, hcw⟩ := hex
      refine ⟨n, cw, 0, by omega, fun w a ag c cg h hg => ?_, fun w a ag c cg h hg => ?_⟩
      · exact dword_ok h hg (by omega) (by omega) (by omega) (by omega) hG hcw
      · refine (rfword_any h hg (by omega) (by omega) (by omega) (by omega) hG).mono ?_
        rintro e w' ⟨hB, ⟨rfl, h1⟩ | ⟨a', c', cw', rfl, h2, h3⟩⟩
        · exact (h1 cw hcw).elim
        · rw [← h3.uniq (by omega) hf hcw]
          exact ⟨a', c', rfl, h2, hB⟩
    · have hno : ∀ cw, ¬ Near n f R m gl cw := fun cw h => hex ⟨cw, h⟩
      refine ⟨0, nul, 54, by decide, fun w a ag c cg h hg => ?_, fun w a ag c cg h hg => ?_⟩
      · refine (dword_lost h hg (by omega) (by omega) (by omega) (by omega) hG hno).mono ?_
        rintro e w' ⟨rfl, hB⟩
        exact ⟨none, 0, rfl, sl_nil _, hB, .inl rfl⟩
      · refine (rfword_any h hg (by omega) (by omega) (by omega) (by omega) hG).mono ?_
        rintro e w' ⟨hB, ⟨rfl, h1⟩ | ⟨a', c', cw', rfl, h2, h3⟩⟩
        · exact ⟨none, 0, rfl, sl_nil _, hB⟩
        · exact (hno cw' h3).elim
/-- How many wrong symbols are made right: both tell the same. -/
theorem most_both (r : Int) (m : Nat) (hr : r ≤ 40) : ∃ x : Int, (∀ w, Calls Try.prog 13 #[.int .i64 r, .int .i64 (m : Int)] w fun e w' => e = .returned (.int .i64 x) ∧ w' = w) ∧
    (∀ w, Calls Try.prog 14 #[.int .i64 r, .int .i64 (m : Int)] w fun e w' => e = .returned (.int .i64 x) ∧ w' = w) := by
  by_cases h : r < (m : Int)
  · exact ⟨-1, fun w => most_no r _ w h, fun w => rfmost_no r _ w h⟩
  · obtain ⟨R, rfl⟩ := Int.eq_ofNat_of_zero_le (show 0 ≤ r by omega)
    exact ⟨_, fun w => most_yes R m w (by omega) (by omega), fun w => rfmost_yes R m w (by omega) (by omega)⟩

set_option maxRecDepth 100000 in
set_option maxHeartbeats 8000000 in
theorem decodeTells_any {w : World} {a0 a1 : Option Addr} {n0 c0 n1 c1 : Nat} {p0 gl : Nat → Int} {r : Int} (h0 : Sl w a0 n0 c0 p0) (m0 : n0 ≤ maxLen) (br : -9223372036854775808 ≤ r ∧ r ≤ 9223372036854775807) (h1 : Il w a1 n1 c1 gl) (m1 : n1 ≤ maxLen) :
    Calls Try.prog 3 #[.slice a0 n0 c0, .int .i64 r, .slice a1 n1 c1] w fun e w' => e = .returned (.bool true) ∧ Below w.heap.size w w' := by
  unfold maxLen at m0 m1
  by_cases g0 : (60 : Int) < (n0 : Int)
  · go_enter Try.func3, Try.ntmps3
    go_wp2_with fail
    refine (dawake_any _).mono ?_
    rintro e w1 ⟨rfl, hB⟩
    go_wp2
    go_ret
    exact ⟨rfl, hB⟩
  by_cases g1 : (60 : Int) < (n1 : Int)
  · go_enter Try.func3, Try.ntmps3
    go_wp2_with fail
    refine (dawake_any _).mono ?_
    rintro e w1 ⟨rfl, hB⟩
    go_wp2
    go_ret
    exact ⟨rfl, hB⟩
  by_cases g2 : 40 < r
  · go_enter Try.func3, Try.ntmps3
    go_wp2_with fail
    refine (dawake_any _).mono ?_
    rintro e w1 ⟨rfl, hB⟩
    go_wp2
    go_ret
    exact ⟨rfl, hB⟩
  obtain ⟨nk, ck, ec, hnk, kW, kR⟩ := word_both (n := n0) (m := n1) (gl := gl) r h0.bd (by omega) (by omega)
  obtain ⟨mx, kM, kN⟩ := most_both r n1 (by omega)
  have KK := hide (And.intro kW (And.intro kR (And.intro kM kN)))
  have HS := hide (And.intro h0 h1)
  have qe := bne_no (rfl : ec = ec)
  have qm : (mx == mx) = true := by simp
  clear h0 h1 kW kR kM kN
  have HO1 := hide (owns_nil w nul)
  have HBL1 := hide (bel_lit w (.cells #[] 29))
  have HL1 := hide (HS.out.1.alloc (.cells #[] 29))
  go_enter Try.func3, Try.ntmps3
  go_wp2_with (first
    | (refine append_sl rfl (.tmp 29) (.tmp 30) rfl w.heap.size _ 0 nul rfl HO1.out _ n0 c0 p0 rfl HL1.out (by omega) (by simp) w HBL1.out ?_
       intro v2 w2 hown2 hb2
       rw [Nat.zero_add, cat_nil] at hown2
       obtain ⟨a2, c2, hv2, h2⟩ := new_of_owns hown2 hb2 HS.out.1.bd HS.out.1.out
       subst hv2
       have H2 := hide h2.sl
       have HB2 := hide h2.bel
       have HOI := hide (owns_nilI w2 nul)
       have HBLI := hide (bel_lit w2 (.cells #[] 3))
       have HLI := hide ((HS.out.2.below h2.bel).alloc (.cells #[] 3))
       clear hown2 hb2 h2)
    | (refine append_il rfl (.tmp 32) (.tmp 33) rfl w2.heap.size _ 0 nul rfl HOI.out _ n1 c1 gl rfl HLI.out (by omega) (by simp) w2 HBLI.out ?_
       intro v3 w3 hown3 hb3
       rw [Nat.zero_add, cat_nil] at hown3
       obtain ⟨a3, c3, hv3, h3⟩ := il_owned hown3 HS.out.2.bd HS.out.2.out
       subst hv3
       have H3 := hide h3
       have HB3 := hide hb3
       clear hown3 hb3 h3))
  have HT := hide (HB2.out.trans (HB3.out.mono HB2.out.size))
  have HI := hide (H2.out.below HB3.out)
  have H0 := hide (HS.out.1.below HT.out)
  have HG := hide (HS.out.2.below HT.out)
  clear HB2 HB3 H2 HO1 HBL1 HL1 HOI HBLI HLI
  go_loopw [9, 10, 11, 12, 13, 14] (fun t _ _ _ _ _ wr => ∃ q : Nat, t = .int .i64 q ∧ q ≤ 2 ∧ Below w3.heap.size w3 wr) (fun t _ _ _ _ _ _ => 2 - (intOf t).toNat)
  case atStart => exact ⟨0, rfl, by decide, Below.refl _ _⟩
  case round =>
    obtain ⟨q, rfl, hq, hbl⟩ := hrel
    obtain ⟨wo, hwo⟩ : ∃ v, v = wr := ⟨_, rfl⟩
    subst hwo
    have HBL := hide hbl
    clear hbl
    by_cases hlt : q < 2
    · have hlt' : (q : Int) < 2 := by omega
      go_wp2_with fail
      refine (KK.out.1 _ _ _ _ _ (HI.out.below HBL.out) (H3.out.below HBL.out)).mono ?_
      rintro e w5 ⟨a5, c5, rfl, h5⟩
      have H5 := hide h5
      have HB5 := hide (HBL.out.trans (h5.bel.mono HBL.out.size))
      clear h5
      go_wp2_with fail
      refine (KK.out.2.1 _ _ _ _ _ (H0.out.below HB5.out) (HG.out.below HB5.out)).mono ?_
      rintro e w6 ⟨a6, c6, rfl, h6, b6⟩
      have H6 := hide h6
      have HB6 := hide b6
      clear h6 b6
      go_wp2_with fail
      refine (same_any (H5.out.sl.below HB6.out) H6.out (by omega) rfl rfl).mono ?_
      rintro e w7 ⟨rfl, b7⟩
      have HB7 := hide b7
      clear b7
      go_wp2_with fail
      have hown : nk = 0 ∨ ∃ b o F, a5 = some ⟨b, o, none⟩ ∧ wo.heap.size ≤ b ∧ Wr w7 b o nk F := by
        rcases H5.out.own with h | ⟨b, o, e1, e2, e3⟩
        · exact .inl h
        · have e4 := e3.below HB6.out e3.lt
          exact .inr ⟨b, o, ck, e1, e2, e4.below HB7.out e4.lt⟩
      have HOW := hide hown
      have HTT := hide (H5.out.bel.trans ((HB6.out.trans (HB7.out.mono HB6.out.size)).mono H5.out.bel.size))
      clear hown
      go_loopw [14] (fun t wr => ∃ i : Nat, t = .int .i64 i ∧ i ≤ nk ∧ (nk = 0 ∨ ∃ b o F, a5 = some ⟨b, o, none⟩ ∧ wo.heap.size ≤ b ∧ Wr wr b o nk F) ∧ Below wo.heap.size wo wr) (fun t _ => nk - (intOf t).toNat)
      case atStart => exact ⟨0, rfl, Nat.zero_le _, HOW.out, HTT.out⟩
      case round =>
        obtain ⟨i, rfl, hi', m5, hbl⟩ := hrel
        obtain ⟨wi, hwi⟩ : ∃ v, v = wr := ⟨_, rfl⟩
        subst hwi
        by_cases hlt2 : i < nk
        · obtain ⟨b, o, F, rfl, hb, hw⟩ := m5.resolve_left (by omega)
          have hc := hw.cell i hlt2
          have hfz := hw.free i hlt2
          have HW := hide hw
          have HBI := hide hbl
          clear hw hbl
          go_wp2_with fail
          go_roundw
          case rel => exact ⟨i + 1, by go_num, by omega, .inr ⟨b, o, _, rfl, hb, HW.out.set i hlt2 _⟩, HBI.out.trans ((Only.setCell b (o + i) _ _).below hb)⟩
          case measure => (simp [intOf]; try omega)
        · obtain rfl : i = nk := by omega
          have HBI := hide hbl
          clear m5 hbl
          go_wp2_with fail
          go_roundw
          case rel => exact ⟨q + 1, by go_num, by omega, HBL.out.trans (HBI.out.mono HBL.out.size)⟩
          case measure => (simp [intOf]; try omega)
    · obtain rfl : q = 2 := by omega
      have HI2 := hide (HI.out.below HBL.out)
      have H02 := hide (H0.out.below HBL.out)
      have HA2 := hide (H3.out.below HBL.out)
      have HG2 := hide (HG.out.below HBL.out)
      have HT2 := hide (HT.out.trans (HBL.out.mono HT.out.size))
      go_wp2_with fail
      go_loopw [15] (fun t wr => ∃ i : Nat, t = .int .i64 i ∧ i ≤ n1 ∧ Below wo.heap.size wo wr) (fun t _ => n1 - (intOf t).toNat)
      case atStart => exact ⟨0, rfl, Nat.zero_le _, Below.refl _ _⟩
      case round =>
        obtain ⟨i, rfl, hi', hbl⟩ := hrel
        obtain ⟨wi, hwi⟩ : ∃ v, v = wr := ⟨_, rfl⟩
        subst hwi
        have HBI := hide hbl
        clear hbl
        by_cases hlt2 : i < n1
        · obtain ⟨b, o, rfl, hb, hc⟩ := HA2.out.at'.resolve_left (by omega)
          obtain ⟨b', o', rfl, hb', hc'⟩ := HG2.out.at'.resolve_left (by omega)
          have x1 := c_be HBI.out hb (hc i hlt2)
          have x2 := c_be HBI.out hb' (hc' i hlt2)
          have hlt2' : (i : Int) < (n1 : Int) := by omega
          have hq : (gl i != gl i) = false := by simp
          clear hc hc'
          go_wp2_with fail
          go_quiet (fail)
          go_wp2_with fail
          go_roundw
          case rel => exact ⟨i + 1, by go_num, by omega, below_drewN HBI.out nq⟩
          case measure => (simp [intOf]; try omega)
        · obtain rfl : i = n1 := by omega
          have hlt2' : ¬ (i : Int) < (i : Int) := by omega
          go_wp2_with fail
          refine (same_any (HI2.out.below HBI.out) (H02.out.below HBI.out) (by omega) rfl rfl).mono ?_
          rintro e w8 ⟨rfl, b8⟩
          have HB8 := hide b8
          clear b8
          go_wp2_with fail
          refine (KK.out.2.2.1 _).mono ?_
          rintro e w9 ⟨rfl, hw9⟩
          obtain rfl := hw9.symm
          go_wp2_with fail
          refine (KK.out.2.2.2 _).mono ?_
          rintro e w9 ⟨rfl, hw9⟩
          obtain rfl := hw9.symm
          go_wp2_with fail
          refine (dawake_any _).mono ?_
          rintro e w10 ⟨rfl, b10⟩
          have HB10 := hide b10
          clear b10
          go_wp2_with fail
          go_ret
          have t1 := HT2.out.trans (HBI.out.mono HT2.out.size)
          have t2 := t1.trans (HB8.out.mono t1.size)
          exact ⟨rfl, t2.trans (HB10.out.mono t2.size)⟩

theorem decodeTells_own : ownKnob Try.prog.godebug = none := by kernel_rfl
theorem decodeTells_laidOut : laidOutB Try.prog = true := by kernel_rfl

set_option maxRecDepth 100000 in
theorem decodeTells_lifted (os : Os) (started : os.Started) (H : Type) (enc : TypeId × Value → H) :
    ReturnsInHanded {} Try.checked os 3 .any (Rows.decodeTellsSpec.pre6 enc Try.prog Try.f3 Rows.decodeTellsRow.domain false) (Rows.decodeTellsSpec.post enc Try.prog Try.f3 false true false false) := by
  refine returnsInHanded_of_change (C := Try.checked) decodeTells_own started (by kernel_rfl) Try.func3
    (ChangeSpec.witness6 (enc := enc) (C := Try.checked) false ⟨#[], #[.slice none 0 0, .int .i64 0, .slice none 0 0], []⟩ 8 (by kernel_rfl) (by kernel_rfl) (by kernel_rfl) (by kernel_rfl)) ?_
  intro W base args ds gs before hval0 hW hcnd _
  have hval : ∀ (j : Nat) t v, Try.f3.params[j]? = some t → args[j]? = some v → Value.okWide Try.prog W .any base t v := hval0
  have hW' := hW
  obtain ⟨p, q, hA0, hV, rfl, hfz, hnd⟩ := hW
  have hA : DataW.TrodAll enc Try.prog W 0 (fun _ => true) true Try.f3.params.toList args.toList ds p := hA0
  rw [Try.params3] at hA hval
  obtain ⟨v0, vs0, d0, ds0, p0, q0, hargs, rfl, rfl, h0, r0⟩ := trodAll_cons hA
  obtain ⟨v1, vs1, d1, ds1, p1, q1, rfl, rfl, rfl, h1, r1⟩ := trodAll_cons r0
  obtain ⟨v2, vs2, d2, ds2, p2, q2, rfl, rfl, rfl, h2, r2⟩ := trodAll_cons r1
  obtain ⟨rfl, rfl, rfl⟩ := trodAll_nil r2
  obtain rfl : args = #[v0, v1, v2] := by cases args; simp_all
  obtain ⟨rfl, rfl⟩ := trodVars_none hV
  obtain ⟨a0, len0, cap0, rfl⟩ := okWide_slice Try.underlying22 (hval 0 22 v0 rfl rfl)
  have k0 := h0
  have lt0 : ∀ x ∈ p0, x.block < W.heap.size := by obtain ⟨m, hm⟩ := k0; exact DataW.trod_lt m _ _ _ hm
  obtain ⟨z0, w0⟩ : ∃ zs, IsRow .u16 W a0 len0 cap0 zs := by
    obtain ⟨fuel, hf⟩ := h0
    rcases open_ints Try.underlying22 Try.underlying29 (by kernel_rfl) hf with ⟨hcs, _⟩ | ⟨x, l, c, zs, hcs, _, hl, hm, hz, _, hcell, hwz⟩
    · simp [Value.cells] at hcs
      obtain ⟨rfl, rfl, rfl⟩ := hcs
      exact ⟨[], .inl ⟨rfl, rfl, rfl, rfl⟩⟩
    · simp [Value.cells] at hcs
      obtain ⟨rfl, rfl, rfl⟩ := hcs
      exact ⟨zs, .inr ⟨_, rfl, hl, hm, by simpa using hz, hcell, hwz⟩⟩
  obtain ⟨a1, rfl, rfl, rfl, w1⟩ := open_int Try.underlying3 (hval 1 3 v1 rfl rfl) h1
  obtain ⟨a2, len2, cap2, rfl⟩ := okWide_slice Try.underlying23 (hval 2 23 v2 rfl rfl)
  have k2 := h2
  have lt2 : ∀ x ∈ p2, x.block < W.heap.size := by obtain ⟨m, hm⟩ := k2; exact DataW.trod_lt m _ _ _ hm
  obtain ⟨z2, w2⟩ : ∃ zs, IsRow .i64 W a2 len2 cap2 zs := by
    obtain ⟨fuel, hf⟩ := h2
    rcases open_ints Try.underlying23 Try.underlying3 (by kernel_rfl) hf with ⟨hcs, _⟩ | ⟨x, l, c, zs, hcs, _, hl, hm, hz, _, hcell, hwz⟩
    · simp [Value.cells] at hcs
      obtain ⟨rfl, rfl, rfl⟩ := hcs
      exact ⟨[], .inl ⟨rfl, rfl, rfl, rfl⟩⟩
    · simp [Value.cells] at hcs
      obtain ⟨rfl, rfl, rfl⟩ := hcs
      exact ⟨zs, .inr ⟨_, rfl, hl, hm, by simpa using hz, hcell, hwz⟩⟩
  clear hA0 hval0
  simp only [List.append_nil] at hW'
  refine (decodeTells_any (isRow_sl w0) (isRow_max w0) (bounds_i64 w1) (isRow_il w2) (isRow_maxI w2)).mono fun e W' ⟨he, bel⟩ => ?_
  subst he
  exact ⟨_, rfl, _, _, _, [], _, [], hW', trodAll_mk1 (shut_bool Try.underlying4 _), (trodAll_cons_mk (Below.trod decodeTells_laidOut (by kernel_rfl) (of_decide_eq_true (by kernel_rfl)) k0 bel lt0) (trodAll_cons_mk (shut_int Try.underlying3 w1) (trodAll_cons_mk (Below.trod decodeTells_laidOut (by kernel_rfl) (of_decide_eq_true (by kernel_rfl)) k2 bel lt2) trodAll_mk0))), rfl, bel.frame _, fun h => by cases h⟩

theorem decodeTells_holds : Rows.DecodeTellsSaid :=
  OpenClaim.holds_of_wide 3 Try.f3 rfl rfl rfl rfl rfl rfl rfl ⟨rfl, rfl, rfl, rfl, rfl⟩ rfl rfl rfl rfl rfl (by kernel_rfl) Try.func3 (by kernel_rfl)
    (of_decide_eq_true (by kernel_rfl)) (by unfold Func.isWrapper; first | (rw [if_pos (by decide +kernel)]; kernel_rfl) | (rw [if_neg (by decide +kernel)]; exact ⟨rfl, rfl⟩))
    (fun os started H enc _ => decodeTells_lifted os started H enc)

#print axioms decodeTells_holds

end Go.Proofs.Ytdbdidohldhnhaa
