/- For any two slices of numbers of 16 bits and any such number the statement PolyDivided returns true and its arguments read as before. No condition. -/
import Derived.Test.YtnbbenhiampknaaArgs
import Derived.Test.YtnbbenhiampknaaRoots
namespace Go.Proofs.Ytnbbenhiampknaa
open Go.ChangeShapes Go.WideShapes Go.ChangeAt Go.RowKit Gf
open Go.ChangeMaps (open_string shut_string)
set_option linter.unusedVariables false

theorem bool_iff {b c : Bool} {p : Prop} (h : b = true ↔ p) (h' : c = true ↔ p) : b = c := by
  cases b <;> cases c <;> simp_all

set_option maxRecDepth 100000 in
set_option maxHeartbeats 8000000 in
theorem polyDivided_any {w : World} {a0 a1 : Option Addr} {n0 c0 n1 c1 : Nat} {p0 p1 : Nat → Int} {x : Int} (h0 : Sl w a0 n0 c0 p0) (m0 : n0 ≤ maxLen) (h1 : Sl w a1 n1 c1 p1) (m1 : n1 ≤ maxLen) (hx : 0 ≤ x ∧ x ≤ 65535) :
    Calls Try.prog 6 #[.slice a0 n0 c0, .slice a1 n1 c1, .int .u16 x] w fun e w' => e = .returned (.bool true) ∧ Below w.heap.size w w' := by
  unfold maxLen at m0 m1
  by_cases g0 : 60 < n0
  · go_enter Try.func6, Try.ntmps6
    go_wp2_with fail
    refine (awake_any _).mono ?_
    rintro e w' ⟨rfl, hB⟩
    go_wp2
    go_ret
    exact ⟨rfl, hB⟩
  by_cases g1 : 60 < n1
  · go_enter Try.func6, Try.ntmps6
    go_wp2_with fail
    refine (awake_any _).mono ?_
    rintro e w' ⟨rfl, hB⟩
    go_wp2
    go_ret
    exact ⟨rfl, hB⟩
  have hT := Below.refl w.heap.size w
  have HD := hide (And.intro h0.bd h1.bd)
  go_enter Try.func6, Try.ntmps6
  go_wp2_with fail
  refine (awake_any _).mono ?_
  rintro e w11 ⟨rfl, b11⟩
  replace h0 := h0.below b11
  replace h1 := h1.below b11
  replace hT := hT.trans (b11.mono hT.size)
  clear b11
  go_wp2_with fail
  refine (of_any h0 (by omega)).mono ?_
  rintro e w12 ⟨a12, c12, rfl, h12⟩
  replace h0 := h0.below h12.bel
  replace h1 := h1.below h12.bel
  replace hT := hT.trans (h12.bel.mono hT.size)
  replace h12 := h12.sl
  have HT := hide (And.intro hT (And.intro h0 (And.intro h1 h12)))
  clear hT h0 h1 h12
  go_wp2_with fail
  go_loopw [8, 9] (fun rt i wr => ∃ (k : Nat) (rb : Bool), i = .int .i64 k ∧ rt = .bool rb ∧ k ≤ n0 ∧ (rb = true ↔ ∃ j, j < k ∧ p0 j = x) ∧ Below w12.heap.size w12 wr) (fun _ i _ => n0 - (intOf i).toNat)
  case atStart => exact ⟨0, false, rfl, rfl, Nat.zero_le _, by simp, Below.refl _ _⟩
  case round =>
    obtain ⟨k, rb, rfl, rfl, hk, hrb, hbl⟩ := hrel
    have HR := hide hrb
    clear hrb
    obtain ⟨hT, h0, h1, h12⟩ := HT.out
    replace h0 := h0.below hbl
    replace h1 := h1.below hbl
    replace h12 := h12.below hbl
    replace hT := hT.trans (hbl.mono hT.size)
    by_cases hlt : k < n0
    · obtain ⟨b, off, rfl, hb, hc⟩ := h0.at'.resolve_left (by omega)
      have hck := hc k hlt
      have bk := HD.out.1 k
      have hroot : atp (p0 k) (n0 + 1) (ofp p0 n0) = 0 := (ofp_root p0 HD.out.1 (p0 k) bk n0).2 ⟨k, hlt, rfl⟩
      have HO := hide hroot
      clear hc hroot
      obtain ⟨v, hv⟩ : ∃ v, p0 k = v := ⟨_, rfl⟩
      rw [hv] at hck bk HO
      have HV := hide hv
      clear hv
      have key : ∀ rb' : Bool, (rb' = (rb || v == x)) → (rb' = true ↔ ∃ j, j < k + 1 ∧ p0 j = x) := by
        intro rb' e
        rw [e, Bool.or_eq_true, HR.out, beq_iff_eq]
        constructor
        · rintro (⟨j, hj, e⟩ | e)
          · exact ⟨j, by omega, e⟩
          · exact ⟨k, by omega, HV.out.trans e⟩
        · rintro ⟨j, hj, e⟩
          by_cases h : j = k
          · subst h; exact .inr (HV.out.symm.trans e)
          · exact .inl ⟨j, by omega, e⟩
      have HK := hide key
      clear key
      cases rb with
      | true =>
        go_wp2_with fail
        refine (at_any h12 (by omega) bk).mono ?_
        rintro e w30 ⟨rfl, b30⟩
        rw [HO.out]
        go_wp2
        go_roundw
        case rel => exact ⟨k + 1, true, by go_num, rfl, by omega, HK.out true (by simp), hbl.trans (b30.mono hbl.size)⟩
        case measure => simp [intOf]; omega
      | false =>
        go_wp2_with fail
        refine (at_any h12 (by omega) bk).mono ?_
        rintro e w30 ⟨rfl, b30⟩
        rw [HO.out]
        go_wp2
        go_roundw
        case rel => exact ⟨k + 1, (v == x), by go_num, rfl, by omega, HK.out _ (by simp), hbl.trans (b30.mono hbl.size)⟩
        case measure => simp [intOf]; omega
    · obtain rfl : k = n0 := by omega
      have hval : (atp x (k + 1) (ofp p0 k) == 0) = rb := by
        refine bool_iff (p := ∃ j, j < k ∧ p0 j = x) ?_ HR.out
        rw [beq_iff_eq]
        exact ofp_root p0 HD.out.1 x hx k
      have q0 : ((k : Int) + 1 != (k : Int) + 1) = false := bne_no rfl
      have HVAL := hide hval
      clear hval HR HT hbl
      go_wp2_with fail
      refine (at_any h12 (by omega) hx).mono ?_
      rintro e w31 ⟨rfl, b31⟩
      replace h0 := h0.below b31
      replace h1 := h1.below b31
      replace hT := hT.trans (b31.mono hT.size)
      clear h12 b31
      have hval := HVAL.out
      clear HVAL
      obtain ⟨m1', hm1', hs1⟩ := shr_ex p1 n1 h1.out
      cases m1' with
      | zero =>
        cases rb
        all_goals (
          go_wp2_with fail
          refine (div_zero h0 h1 (by omega) (by omega) hs1).mono ?_
          rintro e w32 ⟨rfl, b32⟩
          replace h1 := h1.below b32
          replace hT := hT.trans (b32.mono hT.size)
          go_wp2_with fail
          refine (short_any h1 (by omega)).mono ?_
          rintro e w33 ⟨a33, n33, c33, rfl, m33, s33, h33⟩
          obtain rfl := s33.uniq hs1
          replace hT := hT.trans (h33.bel.mono hT.size)
          go_wp2
          go_ret
          exact ⟨rfl, hT⟩)
      | succ m =>
        cases rb
        all_goals (
          go_wp2_with fail
          refine (div_any h0 h1 (by omega) (by omega) hs1).mono ?_
          rintro e w32 ⟨aq, nq, cq, ar, nr, cr, q, r, rfl, hq, hr, hsq, hsr, hnr, hnq, hnr', heq, hro, _⟩
          replace h0 := h0.below hq.bel
          replace h1 := h1.below hq.bel
          replace hT := hT.trans (hq.bel.mono hT.size)
          replace hq := hq.sl
          replace hr := hr.sl
          go_wp2_with fail
          refine (short_any h1 (by omega)).mono ?_
          rintro e w33 ⟨a33, n33, c33, rfl, m33, s33, h33⟩
          obtain rfl := s33.uniq hs1
          replace h0 := h0.below h33.bel
          replace h1 := h1.below h33.bel
          replace hq := hq.below h33.bel
          replace hr := hr.below h33.bel
          replace hT := hT.trans (h33.bel.mono hT.size)
          have q1 : ((m : Int) + 1 == 0) = false := beq_no (by omega)
          have q2 : ¬ ((m : Int) + 1 ≤ (nr : Int)) := by omega
          clear h33 s33
          go_wp2_with fail
          refine (pmul_any hq h1 (by omega) (by omega)).mono ?_
          rintro e w34 ⟨a34, n34, c34, rfl, m34, s34, h34⟩
          replace h0 := h0.below h34.bel
          replace h1 := h1.below h34.bel
          replace hr := hr.below h34.bel
          replace hT := hT.trans (h34.bel.mono hT.size)
          go_wp2_with fail
          refine (padd_any h34.sl hr (by omega) (by omega)).mono ?_
          rintro e w35 ⟨a35, n35, c35, rfl, m35, s35, h35⟩
          replace h0 := h0.below h35.bel
          replace h1 := h1.below h35.bel
          replace hT := hT.trans (h35.bel.mono hT.size)
          replace h35 := h35.sl
          go_wp2_with fail
          refine (short_any h0 (by omega)).mono ?_
          rintro e w36 ⟨a36, n36, c36, rfl, m36, s36, h36⟩
          replace h0 := h0.below h36.bel
          replace h1 := h1.below h36.bel
          replace h35 := h35.below h36.bel
          replace hT := hT.trans (h36.bel.mono hT.size)
          go_wp2_with fail
          refine (same_sh h35 h36.sl s35 s36 (by omega) heq).mono ?_
          rintro e w37 ⟨rfl, b37⟩
          replace h0 := h0.below b37
          replace h1 := h1.below b37
          replace hT := hT.trans (b37.mono hT.size)
          clear hq hr hsq hsr heq hro h34 h35 h36 s34 s35 s36 b37
          go_wp2_with fail
          refine (pmul_any h0 h1 (by omega) (by omega)).mono ?_
          rintro e w38 ⟨a38, n38, c38, rfl, m38, s38, h38⟩
          replace h0 := h0.below h38.bel
          replace h1 := h1.below h38.bel
          replace hT := hT.trans (h38.bel.mono hT.size)
          go_wp2_with fail
          refine (div_any h38.sl h1 (by omega) (by omega) hs1).mono ?_
          rintro e w39 ⟨aq, nq, cq, ar, nr, cr, q, r, rfl, hq, hr, hsq, hsr, hnr, hnq, hnr', heq, hro, _⟩
          have hu := div_uniq (N := nq + k) HD.out.2 hs1 hq.sl.bd hr.sl.bd HD.out.1 nul16 (fun j hj => hsq.2 j (by omega)) (fun j hj => h0.out j (by omega)) hro (fun _ _ => rfl) (heq.trans (addp_nul (mulp16 HD.out.2)).symm)
          obtain ⟨rfl, rfl⟩ := hu
          obtain rfl := hsr.uniq (n := 0) ⟨.inl rfl, fun _ _ => rfl⟩
          replace h0 := h0.below hq.bel
          replace hT := hT.trans (hq.bel.mono hT.size)
          replace hq := hq.sl
          clear h38 s38 hr hsr heq hro
          go_wp2_with fail
          refine (short_any h0 (by omega)).mono ?_
          rintro e w40 ⟨a40, n40, c40, rfl, m40, s40, h40⟩
          replace hq := hq.below h40.bel
          replace hT := hT.trans (h40.bel.mono hT.size)
          go_wp2_with fail
          refine (same_sh hq h40.sl hsq s40 (by omega) rfl).mono ?_
          rintro e w41 ⟨rfl, b41⟩
          replace hT := hT.trans (b41.mono hT.size)
          go_wp2
          go_ret
          exact ⟨rfl, hT⟩)

theorem polyDivided_own : ownKnob Try.prog.godebug = none := by kernel_rfl
theorem polyDivided_laidOut : laidOutB Try.prog = true := by kernel_rfl

set_option maxRecDepth 100000 in
theorem polyDivided_lifted (os : Os) (started : os.Started) (H : Type) (enc : TypeId × Value → H) :
    ReturnsInHanded {} Try.checked os 6 .any (Rows.polyDividedSpec.pre6 enc Try.prog Try.f6 Rows.polyDividedRow.domain false) (Rows.polyDividedSpec.post enc Try.prog Try.f6 false true false false) := by
  refine returnsInHanded_of_change (C := Try.checked) polyDivided_own started (by kernel_rfl) Try.func6
    (ChangeSpec.witness6 (enc := enc) (C := Try.checked) false ⟨#[], #[.slice none 0 0, .slice none 0 0, .int .u16 0], []⟩ 8 (by kernel_rfl) (by kernel_rfl) (by kernel_rfl) (by kernel_rfl)) ?_
  intro W base args ds gs before hval0 hW hcnd _
  have hval : ∀ (j : Nat) t v, Try.f6.params[j]? = some t → args[j]? = some v → Value.okWide Try.prog W .any base t v := hval0
  have hW' := hW
  obtain ⟨p, q, hA0, hV, rfl, hfz, hnd⟩ := hW
  have hA : DataW.TrodAll enc Try.prog W 0 (fun _ => true) true Try.f6.params.toList args.toList ds p := hA0
  rw [Try.params6] at hA hval
  obtain ⟨v0, vs0, d0, ds0, p0, q0, hargs, rfl, rfl, h0, r0⟩ := trodAll_cons hA
  obtain ⟨v1, vs1, d1, ds1, p1, q1, rfl, rfl, rfl, h1, r1⟩ := trodAll_cons r0
  obtain ⟨v2, vs2, d2, ds2, p2, q2, rfl, rfl, rfl, h2, r2⟩ := trodAll_cons r1
  obtain ⟨rfl, rfl, rfl⟩ := trodAll_nil r2
  obtain rfl : args = #[v0, v1, v2] := by cases args; simp_all
  obtain ⟨rfl, rfl⟩ := trodVars_none hV
  obtain ⟨a0, len0, cap0, rfl⟩ := okWide_slice Try.underlying22 (hval 0 22 v0 rfl rfl)
  have k0 := h0
  have lt0 : ∀ x ∈ p0, x.block < W.heap.size := by obtain ⟨m, hm⟩ := k0; exact DataW.trod_lt m _ _ _ hm
  obtain ⟨z0, w0⟩ : ∃ zs, IsRow .u16 W a0 len0 cap0 zs := by
    obtain ⟨fuel, hf⟩ := h0
    rcases open_ints Try.underlying22 Try.underlying23 (by kernel_rfl) hf with ⟨hcs, _⟩ | ⟨x, l, c, zs, hcs, _, hl, hm, hz, _, hcell, hwz⟩
    · simp [Value.cells] at hcs
      obtain ⟨rfl, rfl, rfl⟩ := hcs
      exact ⟨[], .inl ⟨rfl, rfl, rfl, rfl⟩⟩
    · simp [Value.cells] at hcs
      obtain ⟨rfl, rfl, rfl⟩ := hcs
      exact ⟨zs, .inr ⟨_, rfl, hl, hm, by simpa using hz, hcell, hwz⟩⟩
  obtain ⟨a1, len1, cap1, rfl⟩ := okWide_slice Try.underlying22 (hval 1 22 v1 rfl rfl)
  have k1 := h1
  have lt1 : ∀ x ∈ p1, x.block < W.heap.size := by obtain ⟨m, hm⟩ := k1; exact DataW.trod_lt m _ _ _ hm
  obtain ⟨z1, w1⟩ : ∃ zs, IsRow .u16 W a1 len1 cap1 zs := by
    obtain ⟨fuel, hf⟩ := h1
    rcases open_ints Try.underlying22 Try.underlying23 (by kernel_rfl) hf with ⟨hcs, _⟩ | ⟨x, l, c, zs, hcs, _, hl, hm, hz, _, hcell, hwz⟩
    · simp [Value.cells] at hcs
      obtain ⟨rfl, rfl, rfl⟩ := hcs
      exact ⟨[], .inl ⟨rfl, rfl, rfl, rfl⟩⟩
    · simp [Value.cells] at hcs
      obtain ⟨rfl, rfl, rfl⟩ := hcs
      exact ⟨zs, .inr ⟨_, rfl, hl, hm, by simpa using hz, hcell, hwz⟩⟩
  obtain ⟨a2, rfl, rfl, rfl, w2⟩ := open_int Try.underlying23 (hval 2 23 v2 rfl rfl) h2
  clear hA0 hval0
  simp only [List.append_nil] at hW'
  refine (polyDivided_any (isRow_sl w0) (isRow_max w0) (isRow_sl w1) (isRow_max w1) (bounds_u16 w2)).mono fun e W' ⟨he, bel⟩ => ?_
  subst he
  exact ⟨_, rfl, _, _, _, [], _, [], hW', trodAll_mk1 (shut_bool Try.underlying4 _), (trodAll_cons_mk (Below.trod polyDivided_laidOut (by kernel_rfl) (of_decide_eq_true (by kernel_rfl)) k0 bel lt0) (trodAll_cons_mk (Below.trod polyDivided_laidOut (by kernel_rfl) (of_decide_eq_true (by kernel_rfl)) k1 bel lt1) (trodAll_cons_mk (shut_int Try.underlying23 w2) trodAll_mk0))), rfl, bel.frame _, fun h => by cases h⟩

theorem polyDivided_holds : Rows.PolyDividedSaid :=
  OpenClaim.holds_of_wide 6 Try.f6 rfl rfl rfl rfl rfl rfl rfl ⟨rfl, rfl, rfl, rfl, rfl⟩ rfl rfl rfl rfl rfl (by kernel_rfl) Try.func6 (by kernel_rfl)
    (of_decide_eq_true (by kernel_rfl)) (by unfold Func.isWrapper; first | (rw [if_pos (by decide +kernel)]; kernel_rfl) | (rw [if_neg (by decide +kernel)]; exact ⟨rfl, rfl⟩))
    (fun os started H enc _ => polyDivided_lifted os started H enc)

#print axioms polyDivided_holds

end Go.Proofs.Ytnbbenhiampknaa
