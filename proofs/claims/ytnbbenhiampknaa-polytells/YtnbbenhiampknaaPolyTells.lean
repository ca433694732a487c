/- For any two slices of numbers of 16 bits and any such number the statement PolyTells returns true and its arguments read as before. No condition. -/
import Derived.Test.YtnbbenhiampknaaRef4
namespace Go.Proofs.Ytnbbenhiampknaa
open Go.ChangeShapes Go.WideShapes Go.ChangeAt Go.RowKit Gf
open Go.ChangeMaps (open_string shut_string)
set_option linter.unusedVariables false

/-- The quotient, the rest and the error of a division. -/
def DSpec (f g : Nat → Int) (ev : Int) (q r : Nat → Int) : Prop :=
  (Shr g 0 ∧ ev = 1 ∧ q = nul ∧ r = nul) ∨ ∃ m N, Shr g (m + 1) ∧ ev = 0 ∧ P16 q ∧ P16 r ∧ (∀ j, N ≤ j → q j = 0) ∧ (∀ j, m ≤ j → r j = 0) ∧ addp (mulp q g) r = f
theorem dspec_ex {f g : Nat → Int} {n n' : Nat} (hf : P16 f) (hg : P16 g) (hfo : ∀ j, n ≤ j → f j = 0) (hgo : ∀ j, n' ≤ j → g j = 0) : ∃ ev q r, DSpec f g ev q r := by
  obtain ⟨k, _, hk⟩ := shr_ex g n' hgo
  cases k with
  | zero => exact ⟨1, nul, nul, .inl ⟨hk, rfl, rfl, rfl⟩⟩
  | succ m =>
    obtain ⟨q, r, N, h1, h2, h3, h4, h5⟩ := quot_ex hf hg hk hfo
    exact ⟨0, q, r, .inr ⟨m, N, hk, rfl, h1, h2, h3, h4, h5⟩⟩

theorem nil_new (w w' : World) (hB : Below w.heap.size w w') : New w w' none 0 0 nul := ⟨⟨nul16, fun _ _ => rfl, Nat.le_refl _, fun _ => rfl, .inl rfl⟩, hB, .inl rfl⟩

theorem div_spec {w : World} {a a' : Option Addr} {n c n' c' : Nat} {f g q r : Nat → Int} {ev : Int} (h : Sl w a n c f) (h' : Sl w a' n' c' g) (hn : n ≤ 1000) (hn' : n' ≤ 1000) (hs : DSpec f g ev q r) :
    Calls Try.prog 10 #[.slice a n c, .slice a' n' c'] w fun e w' => ∃ aq nq cq ar nr cr, e = .returned (.tuple #[.slice aq nq cq, .slice ar nr cr, .int .i64 ev]) ∧ New w w' aq nq cq q ∧ New w w' ar nr cr r ∧ Shr q nq ∧ Shr r nr ∧ nq ≤ 1000 ∧ nr ≤ 1000 ∧ (∀ x y, aq = some x → ar = some y → x.block ≠ y.block) := by
  rcases hs with ⟨hz, rfl, rfl, rfl⟩ | ⟨m, N, hg, rfl, hq16, hr16, hqo, hro, he⟩
  · refine (div_zero h h' hn hn' hz).mono ?_
    rintro e w' ⟨rfl, hB⟩
    exact ⟨none, 0, 0, none, 0, 0, rfl, nil_new w w' hB, nil_new w w' hB, ⟨.inl rfl, fun _ _ => rfl⟩, ⟨.inl rfl, fun _ _ => rfl⟩, by decide, by decide, fun x y e => by cases e⟩
  · refine (div_any h h' hn hn' hg).mono ?_
    rintro e w' ⟨aq, nq, cq, ar, nr, cr, q', r', rfl, hq, hr, hsq, hsr, hnr, hnq, hnr', heq, hro', hap⟩
    obtain ⟨rfl, rfl⟩ := div_uniq (N := nq + N) h'.bd hg hq.sl.bd hr.sl.bd hq16 hr16 (fun j hj => hsq.2 j (by omega)) (fun j hj => hqo j (by omega)) hro' hro (heq.trans he.symm)
    exact ⟨aq, nq, cq, ar, nr, cr, rfl, hq, hr, hsq, hsr, by omega, by omega, hap⟩

theorem rdiv_spec {w : World} {a a' : Option Addr} {n c n' c' : Nat} {f g q r : Nat → Int} {ev : Int} (h : Sl w a n c f) (h' : Sl w a' n' c' g) (hn : n ≤ 1000) (hn' : n' ≤ 1000) (hs : DSpec f g ev q r) :
    Calls Try.prog 11 #[.slice a n c, .slice a' n' c'] w fun e w' => ∃ aq nq cq ar nr cr, e = .returned (.tuple #[.slice aq nq cq, .slice ar nr cr, .int .i64 ev]) ∧ Sl w' aq nq cq q ∧ Held w.heap.size w' ar nr cr r ∧ Shr q nq ∧ Shr r nr ∧ nq ≤ 1000 ∧ nr ≤ 1000 ∧ Below w.heap.size w w' := by
  rcases hs with ⟨hz, rfl, rfl, rfl⟩ | ⟨m, N, hg, rfl, hq16, hr16, hqo, hro, he⟩
  · refine (rdiv_zero h h' hn hn' hz).mono ?_
    rintro e w' ⟨rfl, hB⟩
    exact ⟨none, 0, 0, none, 0, 0, rfl, (nil_new w w' hB).sl, (nil_new w w' hB).held, ⟨.inl rfl, fun _ _ => rfl⟩, ⟨.inl rfl, fun _ _ => rfl⟩, by decide, by decide, hB⟩
  · refine (rdiv_any h h' hn hn' hg).mono ?_
    rintro e w' ⟨aq, nq, cq, ar, nr, cr, q', r', rfl, hq, hr, hnq, hnr, hsq, hsr, heq, hro', hB⟩
    obtain ⟨rfl, rfl⟩ := div_uniq (N := nq + N) h'.bd hg hq.bd hr.sl.bd hq16 hr16 (fun j hj => hsq.2 j (by omega)) (fun j hj => hqo j (by omega)) hro' hro (heq.trans he.symm)
    exact ⟨aq, nq, cq, ar, nr, cr, rfl, hq, hr, hsq, hsr, hnq, hnr, hB⟩

theorem triple_bel {w wA wB wC : World} {a : Option Addr} {n c : Nat} {f : Nat → Int} (hA : New w wA a n c f) (hb : Below wA.heap.size wA wB) (bt : But a n wB wC) : Below w.heap.size w wC := by
  have h1 := hA.bel.trans (hb.mono hA.bel.size)
  refine h1.trans (bt.below (fun h0 x e => ?_) h1.size)
  obtain ⟨b, off, e', hb', _⟩ := hA.own.resolve_left h0
  rw [e'] at e
  cases e
  exact hb'
theorem held_bel {w0 w w' : World} {a : Option Addr} {n c : Nat} {f : Nat → Int} (h : Held w0.heap.size w a n c f) (bt : But a n w w') (hB : Below w0.heap.size w0 w) : Below w0.heap.size w0 w' := by
  refine hB.trans (bt.below (fun h0 x e => ?_) hB.size)
  obtain ⟨b, off, e', hb', _⟩ := h.own.resolve_left h0
  rw [e'] at e
  cases e
  exact hb'
theorem But.held {a a' : Option Addr} {n n' c L : Nat} {w w' : World} {f : Nat → Int} (h : But a n w w') (hs : Held L w a' n' c f) (hne : n ≠ 0 → n' ≠ 0 → ∀ x y, a = some x → a' = some y → x.block ≠ y.block) : Held L w' a' n' c f := by
  rcases hs.own with h0 | ⟨b, off, ha, hb, hw⟩
  · exact ⟨⟨hs.sl.bd, hs.sl.out, hs.sl.cap, hs.sl.nil, .inl h0⟩, .inl h0⟩
  · by_cases hn0 : n' = 0
    · exact ⟨⟨hs.sl.bd, hs.sl.out, hs.sl.cap, hs.sl.nil, .inl hn0⟩, .inl hn0⟩
    · have hblk := h.block b hw.lt (fun h1 x e => hne h1 hn0 x _ e ha)
      have hw' : Wr w' b off n' f := ⟨Nat.lt_of_lt_of_le hw.lt h.size, fun j hj => (World.cell?_of_block (w := w) hblk).trans (hw.cell j hj), fun j hj => (World.frozen?_of_block (w := w) hblk).trans (hw.free j hj)⟩
      exact ⟨⟨hs.sl.bd, hs.sl.out, hs.sl.cap, hs.sl.nil, .inr ⟨b, off, ha, hw'.lt, hw'.cell⟩⟩, .inr ⟨b, off, ha, hb, hw'⟩⟩
theorem Held.blk {L n c : Nat} {w : World} {a : Option Addr} {f : Nat → Int} (h : Held L w a n c f) (hn : n ≠ 0) {x : Addr} (e : a = some x) : L ≤ x.block ∧ x.block < w.heap.size := by
  obtain ⟨b, off, e', hb, hw⟩ := h.own.resolve_left hn
  rw [e'] at e
  cases e
  exact ⟨hb, hw.lt⟩

/-- append([]uint16{}, x...): a copy. -/
theorem wpList_copy {ops : Array Oper} {rest : List Oper} {o : Oper} {act : Act} {Q : Exit → Act → World → Prop} (hgd : o.guard = none) (s x : Operand)
    (ho : o.op = .call { callee := .builtin .append, args := #[s, x], argTypes := #[22, 22] }) {w : World} {a : Option Addr} {n c : Nat} {f : Nat → Int} (h : Sl w a n c f) (hn : n ≤ 4000)
    (hs : act.eval s = .slice (some ⟨w.heap.size, 0, none⟩) 0 0) (hx : act.eval x = .slice a n c)
    (hK : ∀ a' c' w', New w w' a' n c' f → wpList Try.prog ops Q rest (act.put o.dst (.slice a' n c')) w') : wpList Try.prog ops Q (o :: rest) act (w.alloc (.cells #[] 23)) := by
  obtain ⟨i0, hi, hz0, hz1, hz2⟩ := info_parts info16
  have hown : (w.alloc (.cells #[] 23)).ownsRow w.heap.size 23 1 (.slice (some ⟨w.heap.size, 0, none⟩) 0 0) 0 [] := ⟨rfl, .inr ⟨w.heap.size, 0, #[], rfl, Nat.le_refl _, Go.Deep.blk_alloc_new w _, Nat.le_refl _, by decide, rfl, rfl⟩⟩
  by_cases h0 : n = 0
  · subst h0
    refine wpList_append_fits_any _ hgd _ _ 22 ho w.heap.size 23 i0 1 Try.underlying22 hi hz1 w.heap.size 0 0 [] hs hown a 0 c [] hx rfl (fun e => ⟨rfl, h.nil e⟩) (fun _ _ j u hu => by simp at hu) (fun u hu => by simp at hu) (by omega) ?_
    intro w2 hown2 hgrow
    exact hK _ _ _ ⟨⟨h.bd, h.out, Nat.le_refl _, fun e => (by cases e), .inl rfl⟩, ((Below.refl _ w).alloc (Nat.le_refl _) _).grown hgrow (by simp) (fun k e => by cases e; exact Nat.le_refl _), .inl rfl⟩
  · obtain ⟨b, off, rfl, hb, hc⟩ := h.at'.resolve_left h0
    refine wpList_append_own _ hgd _ _ 22 ho w.heap.size 23 i0 (.int .u16 0) 1 2 Try.underlying22 hi hz0 hz1 hz2 rfl (by decide) _ 0 [] hs hown ⟨b, off, none⟩ n c (vals f n) hx (by simp [vals_length]) ?_ (fun u hu => vals_one hu) (by unfold maxLen; omega) (by omega) (by simp) ?_
    · intro j u hu
      have hj : j < n := by
        have := (List.getElem?_eq_some_iff.1 hu).1
        rwa [vals_length] at this
      rw [vals_get f n j hj] at hu
      cases hu
      rw [add_at, ← hc j hj]
      exact World.cell?_of_block (w := w) (Go.Deep.blk_alloc_lt _ _ _ hb)
    · intro v' w2 hown2 hgrow _
      rw [Nat.zero_add, List.nil_append] at hown2
      obtain ⟨a', c', rfl, hnew⟩ := new_of_owns hown2 (((Below.refl _ w).alloc (Nat.le_refl _) _).grown hgrow (by simp) (fun k e => by cases e; exact Nat.le_refl _)) h.bd h.out
      exact hK _ _ _ hnew

set_option maxRecDepth 100000 in
set_option maxHeartbeats 8000000 in
theorem polyTells_any {w : World} {a0 a1 : Option Addr} {n0 c0 n1 c1 : Nat} {p0 p1 : Nat → Int} {x : Int} (h0 : Sl w a0 n0 c0 p0) (m0 : n0 ≤ maxLen) (h1 : Sl w a1 n1 c1 p1) (m1 : n1 ≤ maxLen) (hx : 0 ≤ x ∧ x ≤ 65535) :
    Calls Try.prog 3 #[.slice a0 n0 c0, .slice a1 n1 c1, .int .u16 x] w fun e w' => e = .returned (.bool true) ∧ Below w.heap.size w w' := by
  unfold maxLen at m0 m1
  by_cases g0 : 100 < n0
  · go_enter Try.func3, Try.ntmps3
    go_wp2_with fail
    refine (awake_any _).mono ?_
    rintro e w' ⟨rfl, hB⟩
    go_wp2
    go_ret
    exact ⟨rfl, hB⟩
  by_cases g1 : 100 < n1
  · go_enter Try.func3, Try.ntmps3
    go_wp2_with fail
    refine (awake_any _).mono ?_
    rintro e w' ⟨rfl, hB⟩
    go_wp2
    go_ret
    exact ⟨rfl, hB⟩
  obtain ⟨ev, q, r, hspec⟩ := dspec_ex h0.bd h1.bd h0.out h1.out
  have HS := hide hspec
  clear hspec
  go_enter Try.func3, Try.ntmps3
  go_wp2_with (first
    | (at_builtin; refine wpList_copy rfl _ _ rfl h0 (by omega) rfl rfl ?_; intro ac cc wc hc; have h1c := h1.below hc.bel)
    | (at_builtin; refine wpList_copy rfl _ _ rfl h1c (by omega) rfl rfl ?_; intro ad cd wd hd))
  have hT := hc.bel.trans (hd.bel.mono hc.bel.size)
  have HL := hide (And.intro ((h0.below hc.bel).below hd.bel) (And.intro (h1c.below hd.bel) (And.intro (hc.sl.below hd.bel) (And.intro hd.sl hT))))
  clear h0 h1 h1c hc hd hT
  go_loopw [9, 10, 11, 12, 13, 14, 15] (fun i _ _ _ _ _ _ wr => ∃ k : Nat, i = .int .i64 (k : Int) ∧ k ≤ 2 ∧ Below wd.heap.size wd wr) (fun i _ _ _ _ _ _ _ => 2 - (intOf i).toNat)
  case atStart => exact ⟨0, rfl, Nat.zero_le _, Below.refl _ _⟩
  case round =>
    obtain ⟨k, rfl, hk, hbl⟩ := hrel
    obtain ⟨wo, hwo⟩ : ∃ v, v = wr := ⟨_, rfl⟩
    subst hwo
    obtain ⟨h0, h1, hc, hd, hT⟩ := HL.out
    replace h0 := h0.below hbl
    replace h1 := h1.below hbl
    replace hc := hc.below hbl
    replace hd := hd.below hbl
    replace hT := hT.trans (hbl.mono hT.size)
    by_cases hlt : k < 2
    · have hlt' : (k : Int) < 2 := by omega
      have qev : (ev != ev) = false := bne_no rfl
      have qat : (atp x n0 p0 != atp x n0 p0) = false := bne_no rfl
      go_wp2_with fail
      refine (div_spec hc hd (by omega) (by omega) HS.out).mono ?_
      rintro e w1 ⟨aq, nq, cq, ar, nr, cr, rfl, hq, hr, sq, sr, lq, lr, hap⟩
      have hB := hq.bel
      go_wp2_with fail
      refine (rdiv_spec (h0.below hB) (h1.below hB) (by omega) (by omega) HS.out).mono ?_
      rintro e w2 ⟨as', ns, cs, at', nt, ct, rfl, hs, ht, ss, st, ls, lt, b2⟩
      have hqh := hq.held.below b2
      have hrh := hr.held.below b2
      replace hB := hB.trans (b2.mono hB.size)
      have hqr : nq ≠ 0 → nr ≠ 0 → ∀ x y, aq = some x → ar = some y → x.block ≠ y.block := fun _ _ => hap
      have hqt : nq ≠ 0 → nt ≠ 0 → ∀ x y, aq = some x → at' = some y → x.block ≠ y.block := fun e1 e2 x y e3 e4 => by
        have := (hq.held.blk e1 e3).2
        have := (ht.blk e2 e4).1
        omega
      have HAP := hide (And.intro hqr hqt)
      clear hq hr hap hqr hqt b2
      go_wp2_with fail
      refine (short_any (hc.below hB) (by omega)).mono ?_
      rintro e w5 ⟨a5, n5, c5, rfl, m5, s5, h5⟩
      go_wp2_with fail
      refine (rshort_any (h0.below (hB.trans (h5.bel.mono hB.size))) (by omega)).mono ?_
      rintro e w6 ⟨a6, n6, c6, rfl, m6, s6, h6⟩
      go_wp2_with fail
      refine (spoil_any (h5.held.below h6.bel) h6.sl s5 s6 (by omega) rfl).mono ?_
      rintro e w7 ⟨rfl, b7⟩
      have d7 := triple_bel h5 h6.bel b7
      clear s5 s6
      replace hB := hB.trans (d7.mono hB.size)
      replace hqh := hqh.below d7
      replace hrh := hrh.below d7
      replace hs := hs.below d7
      replace ht := ht.below d7
      clear h5 h6 b7 d7
      go_wp2_with fail
      refine (padd_any (hc.below hB) (hd.below hB) (by omega) (by omega)).mono ?_
      rintro e w8 ⟨a8, n8, c8, rfl, m8, s8, h8⟩
      go_wp2_with fail
      refine (radd_any (h0.below (hB.trans (h8.bel.mono hB.size))) (h1.below (hB.trans (h8.bel.mono hB.size))) (by omega) (by omega)).mono ?_
      rintro e w9 ⟨a9, n9, c9, rfl, m9, s9, h9⟩
      go_wp2_with fail
      refine (spoil_any (h8.held.below h9.bel) h9.sl s8 s9 (by omega) rfl).mono ?_
      rintro e w10 ⟨rfl, b10⟩
      have d10 := triple_bel h8 h9.bel b10
      clear s8 s9
      replace hB := hB.trans (d10.mono hB.size)
      replace hqh := hqh.below d10
      replace hrh := hrh.below d10
      replace hs := hs.below d10
      replace ht := ht.below d10
      clear h8 h9 b10 d10
      go_wp2_with fail
      refine (pmul_any (hc.below hB) (hd.below hB) (by omega) (by omega)).mono ?_
      rintro e w11 ⟨a11, n11, c11, rfl, m11, s11, h11⟩
      go_wp2_with fail
      refine (rmul_any (h0.below (hB.trans (h11.bel.mono hB.size))) (h1.below (hB.trans (h11.bel.mono hB.size))) (by omega) (by omega)).mono ?_
      rintro e w12 ⟨a12, n12, c12, rfl, m12, s12, h12⟩
      go_wp2_with fail
      refine (spoil_any (h11.held.below h12.bel) h12.sl s11 s12 (by omega) rfl).mono ?_
      rintro e w13 ⟨rfl, b13⟩
      have d13 := triple_bel h11 h12.bel b13
      clear s11 s12
      replace hB := hB.trans (d13.mono hB.size)
      replace hqh := hqh.below d13
      replace hrh := hrh.below d13
      replace hs := hs.below d13
      replace ht := ht.below d13
      clear h11 h12 b13 d13
      go_wp2_with fail
      refine (spoil_any hqh hs sq ss (by omega) rfl).mono ?_
      rintro e w20 ⟨rfl, b20⟩
      replace hB := held_bel hqh b20 hB
      replace hrh := b20.held hrh HAP.out.1
      replace ht := b20.held ht HAP.out.2
      clear hqh hs sq ss b20
      go_wp2_with fail
      refine (spoil_any hrh ht.sl sr st (by omega) rfl).mono ?_
      rintro e w21 ⟨rfl, b21⟩
      replace hB := held_bel hrh b21 hB
      clear hrh ht sr st b21 HAP
      go_wp2_with fail
      refine (at_any (hc.below hB) (by omega) hx).mono ?_
      rintro e w22 ⟨rfl, b22⟩
      replace hB := hB.trans (b22.mono hB.size)
      go_wp2_with fail
      refine (rat_any (h0.below hB) (by omega) hx).mono ?_
      rintro e w23 ⟨rfl, b23⟩
      replace hB := hB.trans (b23.mono hB.size)
      clear b22 b23
      go_wp2_with fail
      refine (slope_any (hc.below hB) (by omega)).mono ?_
      rintro e w33 ⟨a33, n33, c33, rfl, m33, s33, h33⟩
      go_wp2_with fail
      refine (rslope_any (h0.below (hB.trans (h33.bel.mono hB.size))) (by omega)).mono ?_
      rintro e w34 ⟨a34, n34, c34, rfl, m34, s34, h34⟩
      go_wp2_with fail
      refine (spoil_any (h33.held.below h34.bel) h34.sl s33 s34 (by omega) rfl).mono ?_
      rintro e w35 ⟨rfl, b35⟩
      have d35 := triple_bel h33 h34.bel b35
      clear s33 s34
      replace hB := hB.trans (d35.mono hB.size)
      clear h33 h34 b35 d35
      go_wp2_with fail
      refine (of_any (hc.below hB) (by omega)).mono ?_
      rintro e w36 ⟨a36, c36, rfl, h36⟩
      go_wp2_with fail
      refine (rof_any (h0.below (hB.trans (h36.bel.mono hB.size))) (by omega)).mono ?_
      rintro e w37 ⟨a37, c37, rfl, h37, e37⟩
      go_wp2_with fail
      refine (spoil_any (h36.held.below e37) h37 (ofp_shr p0 n0) (ofp_shr p0 n0) (by omega) rfl).mono ?_
      rintro e w38 ⟨rfl, b38⟩
      have d38 := triple_bel h36 e37 b38
      clear e37
      replace hB := hB.trans (d38.mono hB.size)
      clear h36 h37 b38 d38
      go_wp2
      go_roundw
      case rel => exact ⟨k + 1, by go_num, by omega, hbl.trans (hB.mono hbl.size)⟩
      case measure => simp [intOf]; omega
    · obtain rfl : k = 2 := by omega
      go_wp2_with fail
      refine (same_any hc h0 (by omega) rfl rfl).mono ?_
      rintro e w1 ⟨rfl, b1⟩
      replace h1 := h1.below b1
      replace hd := hd.below b1
      replace hT := hT.trans (b1.mono hT.size)
      go_wp2_with fail
      refine (same_any hd h1 (by omega) rfl rfl).mono ?_
      rintro e w2 ⟨rfl, b2⟩
      replace hT := hT.trans (b2.mono hT.size)
      go_wp2_with fail
      refine (awake_any _).mono ?_
      rintro e w3 ⟨rfl, b3⟩
      replace hT := hT.trans (b3.mono hT.size)
      go_wp2
      go_ret
      exact ⟨rfl, hT⟩

theorem polyTells_own : ownKnob Try.prog.godebug = none := by kernel_rfl
theorem polyTells_laidOut : laidOutB Try.prog = true := by kernel_rfl

set_option maxRecDepth 100000 in
theorem polyTells_lifted (os : Os) (started : os.Started) (H : Type) (enc : TypeId × Value → H) :
    ReturnsInHanded {} Try.checked os 3 .any (Rows.polyTellsSpec.pre6 enc Try.prog Try.f3 Rows.polyTellsRow.domain false) (Rows.polyTellsSpec.post enc Try.prog Try.f3 false true false false) := by
  refine returnsInHanded_of_change (C := Try.checked) polyTells_own started (by kernel_rfl) Try.func3
    (ChangeSpec.witness6 (enc := enc) (C := Try.checked) false ⟨#[], #[.slice none 0 0, .slice none 0 0, .int .u16 0], []⟩ 8 (by kernel_rfl) (by kernel_rfl) (by kernel_rfl) (by kernel_rfl)) ?_
  intro W base args ds gs before hval0 hW hcnd _
  have hval : ∀ (j : Nat) t v, Try.f3.params[j]? = some t → args[j]? = some v → Value.okWide Try.prog W .any base t v := hval0
  have hW' := hW
  obtain ⟨p, q, hA0, hV, rfl, hfz, hnd⟩ := hW
  have hA : DataW.TrodAll enc Try.prog W 0 (fun _ => true) true Try.f3.params.toList args.toList ds p := hA0
  rw [Try.params3] at hA hval
  obtain ⟨v0, vs0, d0, ds0, p0, q0, hargs, rfl, rfl, h0, r0⟩ := trodAll_cons hA
  obtain ⟨v1, vs1, d1, ds1, p1, q1, rfl, rfl, rfl, h1, r1⟩ := trodAll_cons r0
  obtain ⟨v2, vs2, d2, ds2, p2, q2, rfl, rfl, rfl, h2, r2⟩ := trodAll_cons r1
  obtain ⟨rfl, rfl, rfl⟩ := trodAll_nil r2
  obtain rfl : args = #[v0, v1, v2] := by cases args; simp_all
  obtain ⟨rfl, rfl⟩ := trodVars_none hV
  obtain ⟨a0, len0, cap0, rfl⟩ := okWide_slice Try.underlying22 (hval 0 22 v0 rfl rfl)
  have k0 := h0
  have lt0 : ∀ x ∈ p0, x.block < W.heap.size := by obtain ⟨m, hm⟩ := k0; exact DataW.trod_lt m _ _ _ hm
  obtain ⟨z0, w0⟩ : ∃ zs, IsRow .u16 W a0 len0 cap0 zs := by
    obtain ⟨fuel, hf⟩ := h0
    rcases open_ints Try.underlying22 Try.underlying23 (by kernel_rfl) hf with ⟨hcs, _⟩ | ⟨x, l, c, zs, hcs, _, hl, hm, hz, _, hcell, hwz⟩
    · simp [Value.cells] at hcs
      obtain ⟨rfl, rfl, rfl⟩ := hcs
      exact ⟨[], .inl ⟨rfl, rfl, rfl, rfl⟩⟩
    · simp [Value.cells] at hcs
      obtain ⟨rfl, rfl, rfl⟩ := hcs
      exact ⟨zs, .inr ⟨_, rfl, hl, hm, by simpa using hz, hcell, hwz⟩⟩
  obtain ⟨a1, len1, cap1, rfl⟩ := okWide_slice Try.underlying22 (hval 1 22 v1 rfl rfl)
  have k1 := h1
  have lt1 : ∀ x ∈ p1, x.block < W.heap.size := by obtain ⟨m, hm⟩ := k1; exact DataW.trod_lt m _ _ _ hm
  obtain ⟨z1, w1⟩ : ∃ zs, IsRow .u16 W a1 len1 cap1 zs := by
    obtain ⟨fuel, hf⟩ := h1
    rcases open_ints Try.underlying22 Try.underlying23 (by kernel_rfl) hf with ⟨hcs, _⟩ | ⟨x, l, c, zs, hcs, _, hl, hm, hz, _, hcell, hwz⟩
    · simp [Value.cells] at hcs
      obtain ⟨rfl, rfl, rfl⟩ := hcs
      exact ⟨[], .inl ⟨rfl, rfl, rfl, rfl⟩⟩
    · simp [Value.cells] at hcs
      obtain ⟨rfl, rfl, rfl⟩ := hcs
      exact ⟨zs, .inr ⟨_, rfl, hl, hm, by simpa using hz, hcell, hwz⟩⟩
  obtain ⟨a2, rfl, rfl, rfl, w2⟩ := open_int Try.underlying23 (hval 2 23 v2 rfl rfl) h2
  clear hA0 hval0
  simp only [List.append_nil] at hW'
  refine (polyTells_any (isRow_sl w0) (isRow_max w0) (isRow_sl w1) (isRow_max w1) (bounds_u16 w2)).mono fun e W' ⟨he, bel⟩ => ?_
  subst he
  exact ⟨_, rfl, _, _, _, [], _, [], hW', trodAll_mk1 (shut_bool Try.underlying4 _), (trodAll_cons_mk (Below.trod polyTells_laidOut (by kernel_rfl) (of_decide_eq_true (by kernel_rfl)) k0 bel lt0) (trodAll_cons_mk (Below.trod polyTells_laidOut (by kernel_rfl) (of_decide_eq_true (by kernel_rfl)) k1 bel lt1) (trodAll_cons_mk (shut_int Try.underlying23 w2) trodAll_mk0))), rfl, bel.frame _, fun h => by cases h⟩

theorem polyTells_holds : Rows.PolyTellsSaid :=
  OpenClaim.holds_of_wide 3 Try.f3 rfl rfl rfl rfl rfl rfl rfl ⟨rfl, rfl, rfl, rfl, rfl⟩ rfl rfl rfl rfl rfl (by kernel_rfl) Try.func3 (by kernel_rfl)
    (of_decide_eq_true (by kernel_rfl)) (by unfold Func.isWrapper; first | (rw [if_pos (by decide +kernel)]; kernel_rfl) | (rw [if_neg (by decide +kernel)]; exact ⟨rfl, rfl⟩))
    (fun os started H enc _ => polyTells_lifted os started H enc)

#print axioms polyTells_holds

end Go.Proofs.Ytnbbenhiampknaa
