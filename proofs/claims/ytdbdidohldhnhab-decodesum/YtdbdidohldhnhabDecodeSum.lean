/- For any two slices of numbers of 16 bits, any slice of ints and any integer the statement DecodeSum returns true and its arguments read as before. No condition. -/
import Derived.Test.YtdbdidohldhnhabDArgs
namespace Go.Proofs.Ytdbdidohldhnhab
open Go.ChangeShapes Go.WideShapes Go.ChangeAt Go.RowKit Gf
open Go.ChangeMaps (open_string shut_string)
set_option linter.unusedVariables false

/-- Put together up to place k. -/
def upto (k : Nat) (f g : Nat → Int) : Nat → Int := fun j => if j < k then xI (f j) (g j) else f j
theorem upto16 {k : Nat} {f g : Nat → Int} (hf : P16 f) (hg : P16 g) : P16 (upto k f g) := fun j => by
  unfold upto
  split
  · exact x16 (hf j) (hg j)
  · exact hf j

set_option maxRecDepth 100000 in
set_option maxHeartbeats 4000000 in
theorem decodeSum_any {w : World} {a0 a1 a2 : Option Addr} {n0 c0 n1 c1 n2 c2 : Nat} {p0 gl p2 : Nat → Int} {r : Int} (h0 : Sl w a0 n0 c0 p0) (m0 : n0 ≤ maxLen) (br : -9223372036854775808 ≤ r ∧ r ≤ 9223372036854775807) (h1 : Il w a1 n1 c1 gl) (m1 : n1 ≤ maxLen) (h2 : Sl w a2 n2 c2 p2) (m2 : n2 ≤ maxLen) :
    Calls Try.prog 3 #[.slice a0 n0 c0, .int .i64 r, .slice a1 n1 c1, .slice a2 n2 c2] w fun e w' => e = .returned (.bool true) ∧ Below w.heap.size w w' := by
  unfold maxLen at m0 m1 m2
  by_cases g0 : (60 : Int) < (n0 : Int)
  · go_enter Try.func3, Try.ntmps3
    go_wp2_with fail
    refine (dawake_any _).mono ?_
    rintro e w1 ⟨rfl, hB⟩
    go_wp2
    go_ret
    exact ⟨rfl, hB⟩
  by_cases g1 : (60 : Int) < (n1 : Int)
  · go_enter Try.func3, Try.ntmps3
    go_wp2_with fail
    refine (dawake_any _).mono ?_
    rintro e w1 ⟨rfl, hB⟩
    go_wp2
    go_ret
    exact ⟨rfl, hB⟩
  by_cases g2 : r < 0
  · go_enter Try.func3, Try.ntmps3
    go_wp2_with fail
    refine (dawake_any _).mono ?_
    rintro e w1 ⟨rfl, hB⟩
    go_wp2
    go_ret
    exact ⟨rfl, hB⟩
  by_cases g3 : 40 < r
  · go_enter Try.func3, Try.ntmps3
    go_wp2_with fail
    refine (dawake_any _).mono ?_
    rintro e w1 ⟨rfl, hB⟩
    go_wp2
    go_ret
    exact ⟨rfl, hB⟩
  by_cases gbig : (100000 : Int) < (n2 : Int)
  · have hw : (wrap64 ((n2 : Int) + r) != (n0 : Int)) = true := bne_yes (by unfold wrap64; omega)
    go_enter Try.func3, Try.ntmps3
    go_wp2_with fail
    refine (dawake_any _).mono ?_
    rintro e w1 ⟨rfl, hB⟩
    go_wp2
    go_ret
    exact ⟨rfl, hB⟩
  by_cases g4 : ((n2 : Int) + r != (n0 : Int)) = true
  · go_enter Try.func3, Try.ntmps3
    go_wp2_with fail
    refine (dawake_any _).mono ?_
    rintro e w1 ⟨rfl, hB⟩
    go_wp2
    go_ret
    exact ⟨rfl, hB⟩
  obtain ⟨R, rfl⟩ := Int.eq_ofNat_of_zero_le (show 0 ≤ r by omega)
  have hlen' : n2 + R = n0 := by simp at g4; omega
  have g4' : ((n2 : Int) + (R : Int) != (n0 : Int)) = false := bne_no (by omega)
  have HLN := hide hlen'
  have hRn : R ≤ n0 := by omega
  have hn2 : n2 ≤ n0 := by omega
  have HS := hide (And.intro h0 (And.intro h1 h2))
  clear h0 h1 h2 g4 hlen'
  go_enter Try.func3, Try.ntmps3
  go_wp2_with fail
  refine (dawake_any _).mono ?_
  rintro e w1 ⟨rfl, b1⟩
  have HB1 := hide b1
  clear b1
  go_wp2_with fail
  refine (check_any (HS.out.2.2.below HB1.out) R (by omega)).mono ?_
  rintro e w3 ⟨a4, c4, ck, rfl, h4, hk⟩
  have HK := hide hk
  have HB3 := hide (HB1.out.trans (h4.bel.mono HB1.out.size))
  have HC3 := hide h4.sl
  have HO3 := hide (owns_nil w3 nul)
  have HBL3 := hide (bel_lit w3 (.cells #[] 28))
  have HL3 := hide ((HS.out.2.2.below HB3.out).alloc (.cells #[] 28))
  clear h4 hk
  go_wp2_with (first
    | (refine append_sl rfl (.tmp 56) (.tmp 57) rfl w3.heap.size _ 0 nul rfl HO3.out _ n2 c2 p2 rfl HL3.out (by omega) (by simp) w3 HBL3.out ?_
       intro v5 w5 hown5 hb5
       rw [Nat.zero_add, cat_nil] at hown5
       have HO5 := hide hown5
       have HB5 := hide hb5
       clear hown5 hb5)
    | (refine append_sl rfl (.tmp 58) (.tmp 59) rfl w3.heap.size _ n2 p2 rfl HO5.out _ R c4 ck rfl (HC3.out.below HB5.out) (by omega) HB5.out.size w3 HB5.out ?_
       intro v6 w6 hown6 hb6
       obtain ⟨a5, c5, hv6, h5⟩ := new_of_owns hown6 hb6 (cat16 HS.out.2.2.bd HK.out.bd) (cat_out HK.out.out)
       subst hv6
       obtain ⟨X, hX⟩ : ∃ X, cat n2 p2 ck = X := ⟨_, rfl⟩
       have hR : Rt n0 X R := by rw [← hX, ← HLN.out]; exact HK.out.rt
       rw [hX, HLN.out] at h5
       rw [HLN.out]
       have HXR := hide hR
       have HT := hide (HB3.out.trans (h5.bel.mono HB3.out.size))
       have HX := hide h5.sl
       have HO6 := hide (owns_nil w6 nul)
       have HBL6 := hide (bel_lit w6 (.cells #[] 28))
       have HL6 := hide ((HS.out.1.below HT.out).alloc (.cells #[] 28))
       clear hown6 hb6 h5 hX hR)
    | (refine append_sl rfl (.tmp 61) (.tmp 62) rfl w6.heap.size _ 0 nul rfl HO6.out _ n0 c0 p0 rfl HL6.out (by omega) (by simp) w6 HBL6.out ?_
       intro v7 w7 hown7 hb7
       rw [Nat.zero_add, cat_nil] at hown7
       obtain ⟨a7, c7, hv7, h7⟩ := new_of_owns hown7 hb7 HS.out.1.bd HS.out.1.out
       subst hv7
       have HH := hide h7.held
       have HB7 := hide h7.bel
       clear hown7 hb7 h7))
  go_loopw [13] (fun t wr => ∃ (k : Nat), t = .int .i64 k ∧ k ≤ n0 ∧ Held w6.heap.size wr a7 n0 c7 (upto k p0 X) ∧ Below w6.heap.size w6 wr) (fun t _ => n0 - (intOf t).toNat)
  case atStart =>
    have e : upto 0 p0 X = p0 := funext fun j => by unfold upto; rw [if_neg (by omega)]
    exact ⟨0, rfl, Nat.zero_le _, by rw [e]; exact HH.out, HB7.out⟩
  case round =>
    obtain ⟨k, rfl, hk, hh, hbl⟩ := hrel
    have HHk := hide hh
    have HB := hide hbl
    clear hh hbl
    by_cases hlt : k < n0
    · have hlt' : (k : Int) < (n0 : Int) := by omega
      obtain ⟨bx, ox, ex, hbx, hcx⟩ := HX.out.at'.resolve_left (by omega)
      obtain ⟨bo, oo, eo, hbo, hwo⟩ := HHk.out.own.resolve_left (by omega)
      subst ex eo
      have x1 := c_be HB.out hbx (hcx k hlt)
      have x2 : wr.cell? ⟨bo, oo + k, none⟩ = some (.int .u16 (p0 k)) := by
        rw [hwo.cell k hlt]
        unfold upto
        rw [if_neg (by omega)]
      have x3 := hwo.free k hlt
      have p16 := HS.out.1.bd k
      have q16 := HX.out.bd k
      have hxor := xI_bits (p0 k) (X k) (by omega) (by omega)
      have HW := hide hwo
      clear hcx hwo
      go_wp2_with fail
      go_region
      all_goals (
        go_wp2_with fail
        go_roundw
        case rel =>
          have e : (fun j => if j = k then xI (p0 k) (X k) else upto k p0 X j) = upto (k + 1) p0 X := funext fun j => by
            unfold upto
            by_cases e : j = k
            · rw [if_pos e, if_pos (by omega), e]
            · rw [if_neg e]
              by_cases e2 : j < k
              · rw [if_pos e2, if_pos (by omega)]
              · rw [if_neg e2, if_neg (by omega)]
          have h9 := HW.out.set k hlt (xI (p0 k) (X k))
          rw [e] at h9
          refine ⟨k + 1, by go_num, by omega, ⟨(h9.sl c7 HHk.out.sl.cap (upto16 HS.out.1.bd HX.out.bd) (fun j hj => by unfold upto; rw [if_neg (by omega)]; exact HS.out.1.out j hj)).drew, .inr ⟨bo, oo, rfl, hbo, h9.drew1⟩⟩, (HB.out.trans ((Only.setCell bo (oo + k) _ _).below hbo)).drew⟩
        case measure => simp [intOf]; omega)
    · obtain rfl : k = n0 := by omega
      have hlt' : ¬ (k : Int) < (k : Int) := by omega
      obtain ⟨wo, hwo⟩ : ∃ v, v = wr := ⟨_, rfl⟩
      subst hwo
      have e : upto k p0 X = addp p0 X := funext fun j => by
        unfold upto
        by_cases h : j < k
        · rw [if_pos h]; rfl
        · rw [if_neg h, HS.out.1.out j (by omega)]
          show 0 = xI (p0 j) (X j)
          rw [HS.out.1.out j (by omega), HX.out.out j (by omega), f7]
      have hO := HHk.out.sl
      rw [e] at hO
      have HO := hide hO
      have HTo := hide (HT.out.trans (HB.out.mono HT.out.size))
      have HA := hide (HS.out.1.below HTo.out)
      have HG := hide (HS.out.2.1.below HTo.out)
      have HXo := hide (HX.out.below HB.out)
      have hback : addp (addp p0 X) X = p0 := by rw [addp_assoc, addp_self, addp_nul HS.out.1.bd]
      have hn1 : ∀ cw, Near k p0 R n1 gl cw → Near k (addp p0 X) R n1 gl (addp cw X) := fun cw h => h.sum HX.out.bd HX.out.out HXR.out
      have hn2 : (∀ cw, ¬ Near k p0 R n1 gl cw) → ∀ cw, ¬ Near k (addp p0 X) R n1 gl cw := fun h cw hc => by
        have h1 := hc.sum HX.out.bd HX.out.out HXR.out
        rw [hback] at h1
        exact h _ h1
      have HN1 := hide hn1
      have HN2 := hide hn2
      clear e hO hback hn1 hn2
      by_cases hbad : k = 0 ∨ 255 < k ∨ (R : Int) < 0 ∨ (k : Int) < (R : Int) ∨ ¬ Gn gl n1 k
      · have HBAD := hide hbad
        clear hbad
        go_wp2_with fail
        refine (dword_bad (a := a0) (c := c0) (R : Int) (by unfold maxLen; omega) HG.out (by omega) HBAD.out).mono ?_
        rintro e w8 ⟨rfl, b8⟩
        have HG8 := hide (HG.out.below b8)
        have HB8 := hide (HTo.out.trans (b8.mono HTo.out.size))
        clear b8
        go_wp2_with fail
        refine (dword_bad (a := a7) (c := c7) (R : Int) (by unfold maxLen; omega) HG8.out (by omega) HBAD.out).mono ?_
        rintro e w9 ⟨rfl, b9⟩
        have HB9 := hide (HB8.out.trans (b9.mono HB8.out.size))
        clear b9
        go_wp2_with fail
        refine wp_loop_rounds 1 ?_
        rw [rounds_succ]
        go_wp2_with fail
        go_ret
        exact ⟨rfl, HB9.out⟩
      · have hgn : Gn gl n1 k := Classical.byContradiction fun h => hbad (.inr (.inr (.inr (.inr h))))
        have hn0 : 0 < k := by omega
        have HGN := hide hgn
        clear hbad hgn
        by_cases hex : ∃ cw, Near k p0 R n1 gl cw
        · obtain ⟨cw, hcw⟩ := hex
          have HCW := hide hcw
          clear hcw
          go_wp2_with fail
          refine (dword_ok HA.out HG.out (by omega) hn0 (by omega) hRn HGN.out HCW.out).mono ?_
          rintro e w8 ⟨a8, c8, rfl, h8⟩
          have H8 := hide h8.sl
          have HB8 := hide h8.bel
          clear h8
          go_wp2_with fail
          refine (dword_ok (HO.out.below HB8.out) (HG.out.below HB8.out) (by omega) hn0 (by omega) hRn HGN.out (HN1.out cw HCW.out)).mono ?_
          rintro e w9 ⟨a9, c9, rfl, h9⟩
          have H9 := hide (And.intro (H8.out.below h9.bel) (And.intro h9.sl ((HXo.out.below HB8.out).below h9.bel)))
          have hB9 := HB8.out.trans (h9.bel.mono HB8.out.size)
          have HB9 := hide (HTo.out.trans (hB9.mono HTo.out.size))
          clear h9 hB9
          go_wp2_with fail
          go_loopw [17] (fun t wr => ∃ (i : Nat), t = .int .i64 i ∧ i ≤ k ∧ Below w9.heap.size w9 wr) (fun t _ => k - (intOf t).toNat)
          case atStart => exact ⟨0, rfl, Nat.zero_le _, Below.refl _ _⟩
          case round =>
            obtain ⟨i, rfl, hi, hbl⟩ := hrel
            have HBi := hide hbl
            clear hbl
            by_cases hlt2 : i < k
            · have hlt2' : (i : Int) < (k : Int) := by omega
              obtain ⟨b1, o1, e1, hb1, hc1⟩ := H9.out.1.at'.resolve_left (by omega)
              obtain ⟨b2, o2, e2, hb2, hc2⟩ := H9.out.2.1.at'.resolve_left (by omega)
              obtain ⟨b3, o3, e3, hb3, hc3⟩ := H9.out.2.2.at'.resolve_left (by omega)
              subst e1 e2 e3
              have x1 := c_be HBi.out hb1 (hc1 i hlt2)
              have x2 : wr.cell? ⟨b2, o2 + i, none⟩ = some (.int .u16 (xI (cw i) (X i))) := c_be HBi.out hb2 (hc2 i hlt2)
              have x3 := c_be HBi.out hb3 (hc3 i hlt2)
              have p16 := HCW.out.bd i
              have q16 := HX.out.bd i
              have hxor := xI_bits (cw i) (X i) (by omega) (by omega)
              have hne : (xI (cw i) (X i) != xI (cw i) (X i)) = false := by simp
              clear hc1 hc2 hc3
              go_wp2_with fail
              go_quiet (fail)
              go_wp2_with fail
              go_roundw
              case rel => exact ⟨i + 1, by go_num, by omega, below_drewN HBi.out nq⟩
              case measure => simp [intOf]; omega
            · have hlt2' : ¬ (i : Int) < (k : Int) := by omega
              go_wp2_with fail
              go_ret
              exact ⟨rfl, HB9.out.trans (HBi.out.mono HB9.out.size)⟩
        · have hno : ∀ cw, ¬ Near k p0 R n1 gl cw := fun cw h => hex ⟨cw, h⟩
          have HNO := hide hno
          clear hex hno
          go_wp2_with fail
          refine (dword_lost HA.out HG.out (by omega) hn0 (by omega) hRn HGN.out HNO.out).mono ?_
          rintro e w8 ⟨rfl, b8⟩
          have HB8 := hide b8
          clear b8
          go_wp2_with fail
          refine (dword_lost (HO.out.below HB8.out) (HG.out.below HB8.out) (by omega) hn0 (by omega) hRn HGN.out (HN2.out HNO.out)).mono ?_
          rintro e w9 ⟨rfl, b9⟩
          have hB9 := HB8.out.trans (b9.mono HB8.out.size)
          have HB9 := hide (HTo.out.trans (hB9.mono HTo.out.size))
          clear b9 hB9
          go_wp2_with fail
          refine wp_loop_rounds 1 ?_
          rw [rounds_succ]
          go_wp2_with fail
          go_ret
          exact ⟨rfl, HB9.out⟩

theorem decodeSum_own : ownKnob Try.prog.godebug = none := by kernel_rfl
theorem decodeSum_laidOut : laidOutB Try.prog = true := by kernel_rfl

set_option maxRecDepth 100000 in
theorem decodeSum_lifted (os : Os) (started : os.Started) (H : Type) (enc : TypeId × Value → H) :
    ReturnsInHanded {} Try.checked os 3 .any (Rows.decodeSumSpec.pre6 enc Try.prog Try.f3 Rows.decodeSumRow.domain false) (Rows.decodeSumSpec.post enc Try.prog Try.f3 false true false false) := by
  refine returnsInHanded_of_change (C := Try.checked) decodeSum_own started (by kernel_rfl) Try.func3
    (ChangeSpec.witness6 (enc := enc) (C := Try.checked) false ⟨#[], #[.slice none 0 0, .int .i64 0, .slice none 0 0, .slice none 0 0], []⟩ 8 (by kernel_rfl) (by kernel_rfl) (by kernel_rfl) (by kernel_rfl)) ?_
  intro W base args ds gs before hval0 hW hcnd _
  have hval : ∀ (j : Nat) t v, Try.f3.params[j]? = some t → args[j]? = some v → Value.okWide Try.prog W .any base t v := hval0
  have hW' := hW
  obtain ⟨p, q, hA0, hV, rfl, hfz, hnd⟩ := hW
  have hA : DataW.TrodAll enc Try.prog W 0 (fun _ => true) true Try.f3.params.toList args.toList ds p := hA0
  rw [Try.params3] at hA hval
  obtain ⟨v0, vs0, d0, ds0, p0, q0, hargs, rfl, rfl, h0, r0⟩ := trodAll_cons hA
  obtain ⟨v1, vs1, d1, ds1, p1, q1, rfl, rfl, rfl, h1, r1⟩ := trodAll_cons r0
  obtain ⟨v2, vs2, d2, ds2, p2, q2, rfl, rfl, rfl, h2, r2⟩ := trodAll_cons r1
  obtain ⟨v3, vs3, d3, ds3, p3, q3, rfl, rfl, rfl, h3, r3⟩ := trodAll_cons r2
  obtain ⟨rfl, rfl, rfl⟩ := trodAll_nil r3
  obtain rfl : args = #[v0, v1, v2, v3] := by cases args; simp_all
  obtain ⟨rfl, rfl⟩ := trodVars_none hV
  obtain ⟨a0, len0, cap0, rfl⟩ := okWide_slice Try.underlying22 (hval 0 22 v0 rfl rfl)
  have k0 := h0
  have lt0 : ∀ x ∈ p0, x.block < W.heap.size := by obtain ⟨m, hm⟩ := k0; exact DataW.trod_lt m _ _ _ hm
  obtain ⟨z0, w0⟩ : ∃ zs, IsRow .u16 W a0 len0 cap0 zs := by
    obtain ⟨fuel, hf⟩ := h0
    rcases open_ints Try.underlying22 Try.underlying28 (by kernel_rfl) hf with ⟨hcs, _⟩ | ⟨x, l, c, zs, hcs, _, hl, hm, hz, _, hcell, hwz⟩
    · simp [Value.cells] at hcs
      obtain ⟨rfl, rfl, rfl⟩ := hcs
      exact ⟨[], .inl ⟨rfl, rfl, rfl, rfl⟩⟩
    · simp [Value.cells] at hcs
      obtain ⟨rfl, rfl, rfl⟩ := hcs
      exact ⟨zs, .inr ⟨_, rfl, hl, hm, by simpa using hz, hcell, hwz⟩⟩
  obtain ⟨a1, rfl, rfl, rfl, w1⟩ := open_int Try.underlying3 (hval 1 3 v1 rfl rfl) h1
  obtain ⟨a2, len2, cap2, rfl⟩ := okWide_slice Try.underlying23 (hval 2 23 v2 rfl rfl)
  have k2 := h2
  have lt2 : ∀ x ∈ p2, x.block < W.heap.size := by obtain ⟨m, hm⟩ := k2; exact DataW.trod_lt m _ _ _ hm
  obtain ⟨z2, w2⟩ : ∃ zs, IsRow .i64 W a2 len2 cap2 zs := by
    obtain ⟨fuel, hf⟩ := h2
    rcases open_ints Try.underlying23 Try.underlying3 (by kernel_rfl) hf with ⟨hcs, _⟩ | ⟨x, l, c, zs, hcs, _, hl, hm, hz, _, hcell, hwz⟩
    · simp [Value.cells] at hcs
      obtain ⟨rfl, rfl, rfl⟩ := hcs
      exact ⟨[], .inl ⟨rfl, rfl, rfl, rfl⟩⟩
    · simp [Value.cells] at hcs
      obtain ⟨rfl, rfl, rfl⟩ := hcs
      exact ⟨zs, .inr ⟨_, rfl, hl, hm, by simpa using hz, hcell, hwz⟩⟩
  obtain ⟨a3, len3, cap3, rfl⟩ := okWide_slice Try.underlying22 (hval 3 22 v3 rfl rfl)
  have k3 := h3
  have lt3 : ∀ x ∈ p3, x.block < W.heap.size := by obtain ⟨m, hm⟩ := k3; exact DataW.trod_lt m _ _ _ hm
  obtain ⟨z3, w3⟩ : ∃ zs, IsRow .u16 W a3 len3 cap3 zs := by
    obtain ⟨fuel, hf⟩ := h3
    rcases open_ints Try.underlying22 Try.underlying28 (by kernel_rfl) hf with ⟨hcs, _⟩ | ⟨x, l, c, zs, hcs, _, hl, hm, hz, _, hcell, hwz⟩
    · simp [Value.cells] at hcs
      obtain ⟨rfl, rfl, rfl⟩ := hcs
      exact ⟨[], .inl ⟨rfl, rfl, rfl, rfl⟩⟩
    · simp [Value.cells] at hcs
      obtain ⟨rfl, rfl, rfl⟩ := hcs
      exact ⟨zs, .inr ⟨_, rfl, hl, hm, by simpa using hz, hcell, hwz⟩⟩
  clear hA0 hval0
  simp only [List.append_nil] at hW'
  refine (decodeSum_any (isRow_sl w0) (isRow_max w0) (bounds_i64 w1) (isRow_il w2) (isRow_maxI w2) (isRow_sl w3) (isRow_max w3)).mono fun e W' ⟨he, bel⟩ => ?_
  subst he
  exact ⟨_, rfl, _, _, _, [], _, [], hW', trodAll_mk1 (shut_bool Try.underlying4 _), (trodAll_cons_mk (Below.trod decodeSum_laidOut (by kernel_rfl) (of_decide_eq_true (by kernel_rfl)) k0 bel lt0) (trodAll_cons_mk (shut_int Try.underlying3 w1) (trodAll_cons_mk (Below.trod decodeSum_laidOut (by kernel_rfl) (of_decide_eq_true (by kernel_rfl)) k2 bel lt2) (trodAll_cons_mk (Below.trod decodeSum_laidOut (by kernel_rfl) (of_decide_eq_true (by kernel_rfl)) k3 bel lt3) trodAll_mk0)))), rfl, bel.frame _, fun h => by cases h⟩

theorem decodeSum_holds : Rows.DecodeSumSaid :=
  OpenClaim.holds_of_wide 3 Try.f3 rfl rfl rfl rfl rfl rfl rfl ⟨rfl, rfl, rfl, rfl, rfl⟩ rfl rfl rfl rfl rfl (by kernel_rfl) Try.func3 (by kernel_rfl)
    (of_decide_eq_true (by kernel_rfl)) (by unfold Func.isWrapper; first | (rw [if_pos (by decide +kernel)]; kernel_rfl) | (rw [if_neg (by decide +kernel)]; exact ⟨rfl, rfl⟩))
    (fun os started H enc _ => decodeSum_lifted os started H enc)

#print axioms decodeSum_holds

end Go.Proofs.Ytdbdidohldhnhab
