/- For any two slices of numbers of 16 bits the statement PolyRoots returns true and its arguments read as before. No condition. -/
import Derived.Test.YtnbbenhiampknaaArgs
import Derived.Test.YtnbbenhiampknaaRoots
import Derived.Deep.RegionHeld
namespace Go.Proofs.Ytnbbenhiampknaa
open Go.ChangeShapes Go.WideShapes Go.ChangeAt Go.RowKit Gf
open Go.ChangeMaps (open_string shut_string)
set_option linter.unusedVariables false

theorem Sl.drew {w : World} {a : Option Addr} {n c : Nat} {f : Nat → Int} (h : Sl w a n c f) : Sl w.drew a n c f := ⟨h.bd, h.out, h.cap, h.nil, h.at'⟩
theorem Below.drewN' {B : Nat} {a w : World} (h : Below B a w) (q : Nat) : Below B a (w.drewN q) := below_drewN h q
theorem sl_lin {w : World} {y : Int} (hy : 0 ≤ y ∧ y ≤ 65535) : Sl (w.alloc (.cells #[.int .u16 y, .int .u16 1] 23)) (some ⟨w.heap.size, 0, none⟩) 2 2 (lf [y, 1]) :=
  sl_lit w [y, 1] (by
    intro z hz
    rcases List.mem_cons.1 hz with rfl | hz
    · exact hy
    · have : z = 1 := by simpa using hz
      subst this
      decide)

set_option maxRecDepth 100000 in
set_option maxHeartbeats 8000000 in
theorem polyRoots_any {w : World} {a0 a1 : Option Addr} {n0 c0 n1 c1 : Nat} {p0 p1 : Nat → Int} (h0 : Sl w a0 n0 c0 p0) (m0 : n0 ≤ maxLen) (h1 : Sl w a1 n1 c1 p1) (m1 : n1 ≤ maxLen) :
    Calls Try.prog 8 #[.slice a0 n0 c0, .slice a1 n1 c1] w fun e w' => e = .returned (.bool true) ∧ Below w.heap.size w w' := by
  unfold maxLen at m0 m1
  by_cases g0 : 60 < n0
  · go_enter Try.func8, Try.ntmps8
    go_wp2_with fail
    refine (awake_any _).mono ?_
    rintro e w' ⟨rfl, hB⟩
    go_wp2
    go_ret
    exact ⟨rfl, hB⟩
  by_cases g1 : 200 < n1
  · go_enter Try.func8, Try.ntmps8
    go_wp2_with fail
    refine (awake_any _).mono ?_
    rintro e w' ⟨rfl, hB⟩
    go_wp2
    go_ret
    exact ⟨rfl, hB⟩
  have hT := Below.refl w.heap.size w
  have HD := hide (And.intro h0.bd (And.intro h1.bd h0.out))
  go_enter Try.func8, Try.ntmps8
  go_wp2_with fail
  refine (awake_any _).mono ?_
  rintro e w11 ⟨rfl, b11⟩
  replace h0 := h0.below b11
  replace h1 := h1.below b11
  replace hT := hT.trans (b11.mono hT.size)
  clear b11
  go_wp2_with fail
  refine (short_any h0 (by omega)).mono ?_
  rintro e w12 ⟨a12, n12, c12, rfl, m12, s12, h12⟩
  replace h0 := h0.below h12.bel
  replace h1 := h1.below h12.bel
  replace hT := hT.trans (h12.bel.mono hT.size)
  replace h12 := h12.sl
  clear h12
  cases n12 with
  | zero =>
    go_wp2
    go_ret
    exact ⟨rfl, hT⟩
  | succ ns =>
  have q1 : ((ns : Int) + 1 == 0) = false := beq_no (by omega)
  have HT := hide (And.intro hT (And.intro h0 (And.intro h1 s12)))
  clear hT h0 h1 s12
  go_wp2_with fail
  go_loopw [6, 7, 8, 9, 10, 11, 12, 13] (fun nn ii _ _ _ _ _ _ wr => ∃ (i : Nat) (xs : List Int), ii = .int .i64 i ∧ nn = .int .i64 (xs.length : Int) ∧ i ≤ n1 ∧ xs.length ≤ i ∧ xs.Nodup ∧ (∀ y ∈ xs, (∃ j, j < i ∧ p1 j = y) ∧ atp y n0 p0 = 0) ∧ Below w12.heap.size w12 wr) (fun _ ii _ _ _ _ _ _ _ => n1 - (intOf ii).toNat)
  case atStart => exact ⟨0, [], rfl, rfl, Nat.zero_le _, Nat.zero_le _, List.nodup_nil, by simp, Below.refl _ _⟩
  case round =>
    obtain ⟨i, xs, rfl, rfl, hi, hxl, hnd, hxs, hbl⟩ := hrel
    have HX := hide (And.intro hnd hxs)
    clear hnd hxs
    by_cases hlt : i < n1
    · obtain ⟨hT, h0, h1, s12⟩ := HT.out
      clear s12
      replace h0 := h0.below hbl
      replace h1 := h1.below hbl
      replace hT := hT.trans (hbl.mono hT.size)
      obtain ⟨b, off, rfl, hb, hc⟩ := h1.at'.resolve_left (by omega)
      obtain ⟨y, hy⟩ : ∃ y, p1 i = y := ⟨_, rfl⟩
      have by' : 0 ≤ y ∧ y ≤ 65535 := hy ▸ HD.out.2.1 i
      have HY := hide hy
      have HC := hide hc
      have hci : wr.cell? ⟨b, off + i, none⟩ = some (.int .u16 y) := hy ▸ hc i hlt
      clear hy hc
      have HH := hide (And.intro hT (And.intro h0 h1))
      clear hT h0 h1
      have hlt' : (i : Int) < (n1 : Int) := by omega
      go_wp2_with fail
      go_loopw [8, 9] (fun tt kk wr' => ∃ (k : Nat) (tb : Bool), kk = .int .i64 k ∧ tt = .bool tb ∧ k ≤ i ∧ (tb = true ↔ ∃ j, j < k ∧ p1 j = y) ∧ Below wr.heap.size wr wr') (fun _ kk _ => i - (intOf kk).toNat)
      case atStart => exact ⟨0, false, rfl, rfl, Nat.zero_le _, by simp, Below.refl _ _⟩
      case round =>
        obtain ⟨k, tb, rfl, rfl, hk, htb, hbi⟩ := hrel
        have HTB := hide htb
        clear htb
        have hci' := (hbi.cell (p := ⟨b, off + i, none⟩) hb).trans hci
        by_cases hki : k < i
        · have hck := (hbi.cell (p := ⟨b, off + k, none⟩) hb).trans (HC.out k (by omega))
          obtain ⟨v, hv⟩ : ∃ v, p1 k = v := ⟨_, rfl⟩
          rw [hv] at hck
          have HV := hide hv
          clear hv
          have hki' : (k : Int) < (i : Int) := by omega
          have hkn' : (k : Int) < (n1 : Int) := by omega
          have key : ∀ tb' : Bool, (tb' = (tb || v == y)) → (tb' = true ↔ ∃ j, j < k + 1 ∧ p1 j = y) := by
            intro tb' e
            rw [e, Bool.or_eq_true, HTB.out, beq_iff_eq]
            constructor
            · rintro (⟨j, hj, e⟩ | e)
              · exact ⟨j, by omega, e⟩
              · exact ⟨k, by omega, HV.out.trans e⟩
            · rintro ⟨j, hj, e⟩
              by_cases h : j = k
              · subst h; exact .inr (HV.out.symm.trans e)
              · exact .inl ⟨j, by omega, e⟩
          have HK := hide key
          clear key
          cases tb with
          | true =>
            go_wp2_with fail
            go_quiet (fail)
            go_wp2
            go_roundw
            case rel => exact ⟨k + 1, true, by go_num, rfl, by omega, HK.out true (by simp), below_drewN hbi nq⟩
            case measure => simp [intOf]; omega
          | false =>
            go_wp2_with fail
            go_quiet (fail)
            go_wp2
            go_roundw
            case rel => exact ⟨k + 1, (v == y), by go_num, rfl, by omega, HK.out _ (by simp), below_drewN hbi nq⟩
            case measure => simp [intOf]; omega
        · obtain rfl : k = i := by omega
          obtain ⟨hT, h0, h1⟩ := HH.out
          replace h0 := h0.below hbi
          replace h1 := h1.below hbi
          replace hT := hT.trans (hbi.mono hT.size)
          have hbw := hbl.trans (hbi.mono hbl.size)
          have hb2 := Nat.lt_of_lt_of_le hb hbi.size
          clear hci hbl hbi HH HC
          go_wp2_with fail
          refine (at_any h0 (by omega) by').mono ?_
          rintro e w30 ⟨rfl, b30⟩
          replace h0 := h0.below b30
          replace hT := hT.trans (b30.mono hT.size)
          replace hbw := hbw.trans (b30.mono hbw.size)
          have hc30 := (b30.cell (p := ⟨b, off + k, none⟩) hb2).trans hci'
          have hb3 := Nat.lt_of_lt_of_le hb2 b30.size
          obtain ⟨v, hv⟩ : ∃ v, atp y n0 p0 = v := ⟨_, rfl⟩
          have bv : 0 ≤ v ∧ v ≤ 65535 := hv ▸ atp16 y n0 p0 HD.out.1
          rw [hv]
          have HV := hide hv
          clear hv hci' b30 h1 hb hb2
          have l1 := sl_lin (w := w30) by'
          have h0' := h0.alloc (.cells #[.int .u16 y, .int .u16 1] 23)
          have hB' := bel_lit w30 (.cells #[.int .u16 y, .int .u16 1] 23)
          have hkn' : (k : Int) < (n1 : Int) := by omega
          have HL := hide (And.intro l1 (And.intro h0' hB'))
          clear l1 h0' hB' h0
          by_cases hv0 : v = 0
          · subst hv0
            cases tb with
            | true =>
              go_wp2_with fail
              obtain ⟨l1, h0, hB'⟩ := HL.out
              refine (div_any h0 l1 (by omega) (by decide) (lin_shr y)).mono ?_
              rintro e w31 ⟨aq, nq', cq, ar, nr, cr, q, r, rfl, hq, hr, hsq, hsr, hnr, hnq, hnr', heq, hro, _⟩
              have hrest : atp y n0 p0 = r 0 := lin_rest by' hq.sl.bd hr.sl.bd hsq.2 hro HD.out.2.2 heq
              rw [HV.out] at hrest
              obtain rfl : nr = 0 := hsr.uniq ⟨.inl rfl, fun j _ => by
                by_cases h : j = 0
                · rw [h]; exact hrest.symm
                · exact hro j (by omega)⟩
              have hB31 := hB'.trans (hr.bel.mono hB'.size)
              replace hbw := hbw.trans (hB31.mono hbw.size)
              clear hq hr hsq hsr heq hro hrest hB' hB31 l1 h0 HL hc30
              go_wp2_with fail
              go_quiet (fail)
              go_wp2
              go_roundw
              case rel => exact ⟨k + 1, xs, by go_num, rfl, by omega, by omega, HX.out.1, fun z hz => ⟨by obtain ⟨⟨j, hj, e⟩, _⟩ := HX.out.2 z hz; exact ⟨j, by omega, e⟩, (HX.out.2 z hz).2⟩, Below.drewN' hbw nq⟩
              case measure => simp [intOf]; omega
            | false =>
              go_wp2_with fail
              obtain ⟨l1, h0, hB'⟩ := HL.out
              refine (div_any h0 l1 (by omega) (by decide) (lin_shr y)).mono ?_
              rintro e w31 ⟨aq, nq', cq, ar, nr, cr, q, r, rfl, hq, hr, hsq, hsr, hnr, hnq, hnr', heq, hro, _⟩
              have hrest : atp y n0 p0 = r 0 := lin_rest by' hq.sl.bd hr.sl.bd hsq.2 hro HD.out.2.2 heq
              rw [HV.out] at hrest
              obtain rfl : nr = 0 := hsr.uniq ⟨.inl rfl, fun j _ => by
                by_cases h : j = 0
                · rw [h]; exact hrest.symm
                · exact hro j (by omega)⟩
              have hB31 := hB'.trans (hr.bel.mono hB'.size)
              replace hbw := hbw.trans (hB31.mono hbw.size)
              clear hq hr hsq hsr heq hro hrest hB' hB31 l1 h0 HL hc30
              go_wp2_with fail
              go_quiet (fail)
              go_wp2
              go_roundw
              case rel =>
                refine ⟨k + 1, y :: xs, by go_num, by simp, by omega, by simp; omega, List.nodup_cons.2 ⟨fun hm => ?_, HX.out.1⟩, fun z hz => ?_, Below.drewN' hbw nq⟩
                · obtain ⟨⟨j, hj, e⟩, _⟩ := HX.out.2 y hm
                  have := HTB.out.2 ⟨j, hj, e⟩
                  cases this
                · rcases List.mem_cons.1 hz with rfl | hz
                  · exact ⟨⟨k, by omega, HY.out⟩, HV.out⟩
                  · exact ⟨by obtain ⟨⟨j, hj, e⟩, _⟩ := HX.out.2 z hz; exact ⟨j, by omega, e⟩, (HX.out.2 z hz).2⟩
              case measure => simp [intOf]; omega
          · have hv1 : (v == 0) = false := beq_no hv0
            have HV0 := hide hv0
            clear hv0
            cases tb
            all_goals (
              go_wp2_with fail
              obtain ⟨l1, h0, hB'⟩ := HL.out
              refine (div_any h0 l1 (by omega) (by decide) (lin_shr y)).mono ?_
              rintro e w31 ⟨aq, nq', cq, ar, nr, cr, q, r, rfl, hq, hr, hsq, hsr, hnr, hnq, hnr', heq, hro, _⟩
              have hrest : atp y n0 p0 = r 0 := lin_rest by' hq.sl.bd hr.sl.bd hsq.2 hro HD.out.2.2 heq
              rw [HV.out] at hrest
              obtain rfl : nr = 1 := hsr.uniq ⟨.inr (by show r 0 ≠ 0; rw [← hrest]; exact HV0.out), hro⟩
              obtain ⟨br, orr, rfl, hbr, hcr⟩ := hr.sl.at'.resolve_left (by omega)
              have kr : w31.cell? ⟨br, orr, none⟩ = some (.int .u16 v) := by have := hcr 0 (by omega); rw [Nat.add_zero, ← hrest] at this; exact this
              have hB31 := hB'.trans (hr.bel.mono hB'.size)
              have ky : w31.cell? ⟨b, off + k, none⟩ = some (.int .u16 y) := (hB31.cell (p := ⟨b, off + k, none⟩) hb3).trans hc30
              have hb31 := Nat.lt_of_lt_of_le hb3 hB31.size
              replace hbw := hbw.trans (hB31.mono hbw.size)
              have h0d : Sl w31.drew a0 n0 c0 p0 := (h0.below hr.bel).drew
              have q5 : (v != atp y n0 p0) = false := bne_no HV.out.symm
              clear hq hr hsq hsr heq hro hcr hrest hB' hB31 l1 h0 HL hc30
              go_wp2_with fail
              go_region_held (fun w' => w'.cell? ⟨br, orr, none⟩ = some (.int .u16 v) ∧ w'.cell? ⟨b, off + k, none⟩ = some (.int .u16 y)) ((first | exact ⟨kr, ky⟩ | exact ⟨(b40.cell (p := ⟨br, orr, none⟩) hbr).trans kr, (b40.cell (p := ⟨b, off + k, none⟩) hb31).trans ky⟩))
                ((go_at_call 19; refine (at_any h0d (by omega) by').mono ?_; rintro e w40 ⟨rfl, b40⟩))
              all_goals (
                go_wp2
                go_roundw
                case rel => exact ⟨k + 1, xs, by go_num, rfl, by omega, by omega, HX.out.1, fun z hz => ⟨by obtain ⟨⟨j, hj, e⟩, _⟩ := HX.out.2 z hz; exact ⟨j, by omega, e⟩, (HX.out.2 z hz).2⟩, hbw.drew.trans (b40.mono (show _ ≤ w31.heap.size from hbw.size))⟩
                case measure => simp [intOf]; omega))
    · obtain rfl : i = n1 := by omega
      obtain ⟨hT, h0, h1, s12⟩ := HT.out
      have hcnt : xs.length ≤ ns := roots_bound xs p0 ns HD.out.1 s12 HX.out.1 (fun y hy => by
        obtain ⟨⟨j, _, e⟩, hz⟩ := HX.out.2 y hy
        refine ⟨e ▸ HD.out.2.1 j, ?_⟩
        rw [atp_same y s12.2 HD.out.2.2]
        exact hz)
      replace hT := hT.trans (hbl.mono hT.size)
      have hcnt' : (xs.length : Int) < (ns : Int) + 1 := by omega
      clear h0 h1 s12 HT HX
      go_wp2
      go_ret
      exact ⟨rfl, hT⟩

theorem polyRoots_own : ownKnob Try.prog.godebug = none := by kernel_rfl
theorem polyRoots_laidOut : laidOutB Try.prog = true := by kernel_rfl

set_option maxRecDepth 100000 in
theorem polyRoots_lifted (os : Os) (started : os.Started) (H : Type) (enc : TypeId × Value → H) :
    ReturnsInHanded {} Try.checked os 8 .any (Rows.polyRootsSpec.pre6 enc Try.prog Try.f8 Rows.polyRootsRow.domain false) (Rows.polyRootsSpec.post enc Try.prog Try.f8 false true false false) := by
  refine returnsInHanded_of_change (C := Try.checked) polyRoots_own started (by kernel_rfl) Try.func8
    (ChangeSpec.witness6 (enc := enc) (C := Try.checked) false ⟨#[], #[.slice none 0 0, .slice none 0 0], []⟩ 8 (by kernel_rfl) (by kernel_rfl) (by kernel_rfl) (by kernel_rfl)) ?_
  intro W base args ds gs before hval0 hW hcnd _
  have hval : ∀ (j : Nat) t v, Try.f8.params[j]? = some t → args[j]? = some v → Value.okWide Try.prog W .any base t v := hval0
  have hW' := hW
  obtain ⟨p, q, hA0, hV, rfl, hfz, hnd⟩ := hW
  have hA : DataW.TrodAll enc Try.prog W 0 (fun _ => true) true Try.f8.params.toList args.toList ds p := hA0
  rw [Try.params8] at hA hval
  obtain ⟨v0, vs0, d0, ds0, p0, q0, hargs, rfl, rfl, h0, r0⟩ := trodAll_cons hA
  obtain ⟨v1, vs1, d1, ds1, p1, q1, rfl, rfl, rfl, h1, r1⟩ := trodAll_cons r0
  obtain ⟨rfl, rfl, rfl⟩ := trodAll_nil r1
  obtain rfl : args = #[v0, v1] := by cases args; simp_all
  obtain ⟨rfl, rfl⟩ := trodVars_none hV
  obtain ⟨a0, len0, cap0, rfl⟩ := okWide_slice Try.underlying22 (hval 0 22 v0 rfl rfl)
  have k0 := h0
  have lt0 : ∀ x ∈ p0, x.block < W.heap.size := by obtain ⟨m, hm⟩ := k0; exact DataW.trod_lt m _ _ _ hm
  obtain ⟨z0, w0⟩ : ∃ zs, IsRow .u16 W a0 len0 cap0 zs := by
    obtain ⟨fuel, hf⟩ := h0
    rcases open_ints Try.underlying22 Try.underlying23 (by kernel_rfl) hf with ⟨hcs, _⟩ | ⟨x, l, c, zs, hcs, _, hl, hm, hz, _, hcell, hwz⟩
    · simp [Value.cells] at hcs
      obtain ⟨rfl, rfl, rfl⟩ := hcs
      exact ⟨[], .inl ⟨rfl, rfl, rfl, rfl⟩⟩
    · simp [Value.cells] at hcs
      obtain ⟨rfl, rfl, rfl⟩ := hcs
      exact ⟨zs, .inr ⟨_, rfl, hl, hm, by simpa using hz, hcell, hwz⟩⟩
  obtain ⟨a1, len1, cap1, rfl⟩ := okWide_slice Try.underlying22 (hval 1 22 v1 rfl rfl)
  have k1 := h1
  have lt1 : ∀ x ∈ p1, x.block < W.heap.size := by obtain ⟨m, hm⟩ := k1; exact DataW.trod_lt m _ _ _ hm
  obtain ⟨z1, w1⟩ : ∃ zs, IsRow .u16 W a1 len1 cap1 zs := by
    obtain ⟨fuel, hf⟩ := h1
    rcases open_ints Try.underlying22 Try.underlying23 (by kernel_rfl) hf with ⟨hcs, _⟩ | ⟨x, l, c, zs, hcs, _, hl, hm, hz, _, hcell, hwz⟩
    · simp [Value.cells] at hcs
      obtain ⟨rfl, rfl, rfl⟩ := hcs
      exact ⟨[], .inl ⟨rfl, rfl, rfl, rfl⟩⟩
    · simp [Value.cells] at hcs
      obtain ⟨rfl, rfl, rfl⟩ := hcs
      exact ⟨zs, .inr ⟨_, rfl, hl, hm, by simpa using hz, hcell, hwz⟩⟩
  clear hA0 hval0
  refine (polyRoots_any (isRow_sl w0) (isRow_max w0) (isRow_sl w1) (isRow_max w1)).mono fun e W' ⟨he, bel⟩ => ?_
  subst he
  exact ⟨_, rfl, _, _, _, [], _, [], hW', trodAll_mk1 (shut_bool Try.underlying4 _), (trodAll_cons_mk (Below.trod polyRoots_laidOut (by kernel_rfl) (of_decide_eq_true (by kernel_rfl)) k0 bel lt0) (trodAll_cons_mk (Below.trod polyRoots_laidOut (by kernel_rfl) (of_decide_eq_true (by kernel_rfl)) k1 bel lt1) trodAll_mk0)), rfl, bel.frame _, fun h => by cases h⟩

theorem polyRoots_holds : Rows.PolyRootsSaid :=
  OpenClaim.holds_of_wide 8 Try.f8 rfl rfl rfl rfl rfl rfl rfl ⟨rfl, rfl, rfl, rfl, rfl⟩ rfl rfl rfl rfl rfl (by kernel_rfl) Try.func8 (by kernel_rfl)
    (of_decide_eq_true (by kernel_rfl)) (by unfold Func.isWrapper; first | (rw [if_pos (by decide +kernel)]; kernel_rfl) | (rw [if_neg (by decide +kernel)]; exact ⟨rfl, rfl⟩))
    (fun os started H enc _ => polyRoots_lifted os started H enc)

#print axioms polyRoots_holds

end Go.Proofs.Ytnbbenhiampknaa
