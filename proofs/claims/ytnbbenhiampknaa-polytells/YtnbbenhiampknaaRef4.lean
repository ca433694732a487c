/- The document's own division by hand, as the statements reckon it: for slices of at most 1000 numbers of 16 bits it returns the error of a divisor that is 0, or the quotient and the rest, short; nothing that was there is changed. -/
import Derived.Test.YtnbbenhiampknaaRef3
namespace Go.Proofs.Ytnbbenhiampknaa
open Go.RowKit Gf
set_option linter.unusedVariables false

def sliceLen : Value → Nat
  | .slice _ n _ => n
  | _ => 0

theorem Held.mono' {L L' : Nat} {w : World} {a : Option Addr} {n c : Nat} {f : Nat → Int} (h : Held L w a n c f) (hL : L' ≤ L) : Held L' w a n c f := by
  refine ⟨h.sl, ?_⟩
  rcases h.own with h0 | ⟨b, off, ha, hb, hw⟩
  · exact .inl h0
  · exact .inr ⟨b, off, ha, by omega, hw⟩

theorem Held.below {L : Nat} {w w' : World} {a : Option Addr} {n c : Nat} {f : Nat → Int} (h : Held L w a n c f) (hB : Below w.heap.size w w') : Held L w' a n c f := by
  refine ⟨h.sl.below hB, ?_⟩
  rcases h.own with h0 | ⟨b, off, ha, hb, hw⟩
  · exact .inl h0
  · exact .inr ⟨b, off, ha, hb, hw.below hB hw.lt⟩

/-- What holds between two rounds of the division. -/
structure RD (w : World) (f g : Nat → Int) (m bb ob : Nat) (wr : World) (aa : Option Addr) (na ca : Nat) (A Q : Nat → Int) (nq : Nat) (sq : Value) : Prop where
  held : Held w.heap.size wr aa na ca A
  sh : Shr A na
  anb : na ≠ 0 → ∀ x, aa = some x → x.block ≠ bb
  inv : DInv f g m (na - m) (A, Q)
  qout : ∀ j, nq ≤ j → Q j = 0
  nq1 : nq ≤ 1000
  na1 : na ≤ 1000
  q : (sq = .slice none 0 0 ∧ nq = 0) ∨ ∃ bq oq cq, sq = .slice (some ⟨bq, oq, none⟩) nq cq ∧ nq ≤ cq ∧ Wr wr bq oq nq Q ∧ (na ≠ 0 → ∀ x, aa = some x → x.block ≠ bq) ∧ bq ≠ bb ∧ w.heap.size ≤ bq ∧ na - m ≤ nq
  bel : Below w.heap.size w wr
  bc : ∀ j, j < m + 1 → wr.cell? ⟨bb, ob + j, none⟩ = some (.int .u16 (g j))
  bb1 : bb < wr.heap.size

/-- The row of what is divided, when k of the divisor's coefficients are taken away at place t. -/
def arow (A g : Nat → Int) (c : Int) (t k : Nat) : Nat → Int := fun i => if t ≤ i ∧ i < t + k then xI (A i) (gI c (g (i - t))) else A i
theorem arow_step (A g : Nat → Int) (c : Int) (t k i : Nat) : (if i = t + k then xI (A (t + k)) (gI c (g k)) else arow A g c t k i) = arow A g c t (k + 1) i := by
  unfold arow
  by_cases e : i = t + k
  · subst e
    rw [if_pos rfl, if_pos (by omega), show t + k - t = k from by omega]
  · rw [if_neg e]
    by_cases h : t ≤ i ∧ i < t + k
    · rw [if_pos h, if_pos (by omega)]
    · rw [if_neg h, if_neg (by omega)]
theorem arow_at (A g : Nat → Int) (c : Int) (t k : Nat) : arow A g c t k (t + k) = A (t + k) := by unfold arow; rw [if_neg (by omega)]
theorem arow_last {A g Q : Nat → Int} {inv : Int} {m : Nat} (hA : P16 A) (hg : P16 g) (hgo : ∀ j, m + 1 ≤ j → g j = 0) (t : Nat) : arow A g (gI (A (t + m)) inv) t (m + 1) = (dst m inv g (A, Q) t).1 := funext fun k => by
  show (if t ≤ k ∧ k < t + (m + 1) then xI (A k) (gI (gI (A (t + m)) inv) (g (k - t))) else A k) = (if k < t then A k else xI (A k) (gI (g (k - t)) (gI (A (t + m)) inv)))
  by_cases h1 : k < t
  · rw [if_neg (by omega), if_pos h1]
  · rw [if_neg h1]
    by_cases h2 : k < t + (m + 1)
    · rw [if_pos (by omega), g2 (g16 (hA _)) (hg _)]
    · rw [if_neg (by omega), hgo _ (by omega), f12, f6 _ (hA k).1]

set_option maxRecDepth 100000 in
set_option maxHeartbeats 2000000 in
theorem rdiv_zero {w : World} {a a' : Option Addr} {n c n' c' : Nat} {f g : Nat → Int} (h : Sl w a n c f) (h' : Sl w a' n' c' g) (hn : n ≤ 1000) (hn' : n' ≤ 1000) (hz : Shr g 0) :
    Calls Try.prog 11 #[.slice a n c, .slice a' n' c'] w fun e w' => e = .returned (.tuple #[.slice none 0 0, .slice none 0 0, .int .i64 1]) ∧ Below w.heap.size w w' := by
  go_enter Try.func11, Try.ntmps11
  go_wp2_with fail
  refine (rshort_any h (by omega)).mono ?_
  rintro e w1 ⟨a1, n1, c1, rfl, m1, s1, h1⟩
  go_wp2_with fail
  refine (rshort_any (h'.below h1.bel) (by omega)).mono ?_
  rintro e w2 ⟨a2, n2, c2, rfl, m2, s2, h2⟩
  obtain rfl := s2.uniq hz
  go_wp2
  refine bodyPost_ret (v := .tuple #[.slice none 0 0, .slice none 0 0, .int .i64 1]) ?_ rfl ⟨rfl, h1.bel.trans (h2.bel.mono h1.bel.size)⟩
  simp [results, Try.f11, go_sem]

set_option maxRecDepth 100000 in
set_option maxHeartbeats 8000000 in
theorem rdiv_any {w : World} {a a' : Option Addr} {n c n' c' m : Nat} {f g : Nat → Int} (h : Sl w a n c f) (h' : Sl w a' n' c' g) (hn : n ≤ 1000) (hn' : n' ≤ 1000) (hg : Shr g (m + 1)) :
    Calls Try.prog 11 #[.slice a n c, .slice a' n' c'] w fun e w' => ∃ aq nq cq ar nr cr q r, e = .returned (.tuple #[.slice aq nq cq, .slice ar nr cr, .int .i64 0]) ∧ Sl w' aq nq cq q ∧ Held w.heap.size w' ar nr cr r ∧ nq ≤ 1000 ∧ nr ≤ 1000 ∧ Shr q nq ∧ Shr r nr ∧ addp (mulp q g) r = f ∧ (∀ j, m ≤ j → r j = 0) ∧ Below w.heap.size w w' := by
  obtain ⟨i0, hi, hz0, hz1, hz2⟩ := info_parts info16
  have HP := hide (And.intro h.bd h'.bd)
  have hgm : (g m == 0) = false := beq_no (hg.1.resolve_left (by omega))
  have bgm := h'.bd m
  have binv := pI_bd (g m) 65534 (by omega)
  have hm1 : m + 1 ≤ 1000 := by
    rcases Nat.lt_or_ge n' (m + 1) with h1 | h1
    · exact (hg.1.resolve_left (by omega) (h'.out _ (by omega))).elim
    · omega
  go_enter Try.func11, Try.ntmps11
  go_wp2_with fail
  refine (rshort_any h (by omega)).mono ?_
  rintro e w1 ⟨a1, n1, c1, rfl, m1, s1, h1⟩
  go_wp2_with fail
  refine (rshort_any (h'.below h1.bel) (by omega)).mono ?_
  rintro e w2 ⟨a2, n2, c2, rfl, m2, s2, h2⟩
  obtain rfl := s2.uniq hg
  obtain ⟨bb, ob, rfl, hbb, hwb⟩ := h2.own.resolve_left (by omega)
  have q1 : ((m : Int) + 1 == 0) = false := beq_no (by omega)
  have hcb : w2.cell? ⟨bb, ob + m, none⟩ = some (.int .u16 (g m)) := hwb.cell m (by omega)
  have hm' : (m : Int) < (m : Int) + 1 := by omega
  have hT2 := h1.bel.trans (h2.bel.mono h1.bel.size)
  have hRD : RD w f g m bb ob w2 a1 n1 c1 f nul 0 (.slice none 0 0) := by
    refine ⟨?_, s1, ?_, ⟨HP.out.1, nul16, by show addp (mulp nul g) f = f; rw [mulp_nul HP.out.2, nul_addp HP.out.1], fun j hj => s1.2 j (by omega), fun _ _ => rfl⟩, fun _ _ => rfl, Nat.zero_le _, by omega, .inl ⟨rfl, rfl⟩, hT2, hwb.cell, hwb.lt⟩
    · refine ⟨h1.sl.below h2.bel, ?_⟩
      rcases h1.own with h0 | ⟨b, off, ha, hb, hw⟩
      · exact .inl h0
      · exact .inr ⟨b, off, ha, hb, hw.below h2.bel hw.lt⟩
    · intro hne x e
      obtain ⟨b, off, ha, hb, hw⟩ := h1.sl.at'.resolve_left hne
      rw [ha] at e
      cases e
      show b ≠ bb
      omega
  have HR := hide hRD
  have HG := hide hg
  clear hRD h1 h2 s1 s2 hwb hT2 h h' hg
  go_wp2_with fail
  refine (refInv_any _ _ (by omega) hgm).mono ?_
  rintro e w3 ⟨rfl, rfl⟩
  clear hcb
  obtain ⟨inv, hinv⟩ : ∃ inv, pI (g m) 65534 = inv := ⟨_, rfl⟩
  rw [hinv] at binv ⊢
  have HI := hide hinv
  clear hinv
  go_wp2_with fail
  go_loopw [0, 9, 10, 11, 12] (fun sa sq _ _ _ wr => ∃ (aa : Option Addr) (na ca : Nat) (A Q : Nat → Int) (nq : Nat), sa = .slice aa na ca ∧ RD w f g m bb ob wr aa na ca A Q nq sq) (fun sa _ _ _ _ _ => sliceLen sa)
  case atStart => exact ⟨a1, n1, c1, f, nul, 0, rfl, HR.out⟩
  case round =>
    obtain ⟨aa, na, ca, A, Q, nq, rfl, hrd⟩ := hrel
    obtain ⟨vq, hvq⟩ : ∃ v, v = u9 := ⟨_, rfl⟩
    subst hvq
    obtain ⟨wo, hwo⟩ : ∃ v, v = wr := ⟨_, rfl⟩
    subst hwo
    have HRD := hide hrd
    by_cases hge : m + 1 ≤ na
    · obtain ⟨t, rfl⟩ : ∃ t, na = t + m + 1 := ⟨na - m - 1, by omega⟩
      obtain ⟨ba, oa, rfl, hba, hwa⟩ := hrd.held.own.resolve_left (by omega)
      have hctop : wo.cell? ⟨ba, oa + (t + m), none⟩ = some (.int .u16 (A (t + m))) := hwa.cell (t + m) (by omega)
      have btop : 0 ≤ A (t + m) ∧ A (t + m) ≤ 65535 := hrd.inv.r16 (t + m)
      have hna1 := hrd.na1
      have hanb : ba ≠ bb := hrd.anb (by omega) _ rfl
      have hcap := hrd.held.sl.cap
      have HST := hide (dinv_step HP.out.2 HG.out (n := t) (by have := hrd.inv; rwa [show t + m + 1 - m = t + 1 from by omega] at this))
      clear hrd hwa
      have hge' : (m : Int) + 1 ≤ (t : Int) + (m : Int) + 1 := by omega
      have e1 : ((t : Int) + (m : Int) + 1 - 1) = (t : Int) + (m : Int) := by omega
      have e2 : ((t : Int) + (m : Int) + 1 - ((m : Int) + 1)) = (t : Int) := by omega
      have e3 : ((t : Int) + (m : Int)).toNat = t + m := by omega
      have e4 : (t : Int) + (m : Int) < (t : Int) + (m : Int) + 1 := by omega
      have e5 : (0 : Int) ≤ (t : Int) + (m : Int) := by omega
      obtain ⟨top, htop⟩ : ∃ top, A (t + m) = top := ⟨_, rfl⟩
      rw [htop] at hctop btop
      have HTOP := hide htop
      clear htop
      have bc := gI_bd top inv (by omega)
      go_wp2_with (go_at_call 26; refine (refMul_any _ _ _ (by omega) (by omega)).mono ?_; rintro e w' ⟨rfl, hw'⟩; obtain rfl := hw'.symm)
      obtain ⟨cc, hcc⟩ : ∃ cc, gI top inv = cc := ⟨_, rfl⟩
      rw [hcc] at bc ⊢
      have HCC := hide hcc
      clear hcc hctop
      have e6 : ((t : Int)).toNat = t := by omega
      have hqinit : (nq = 0 ∧ vq = .slice none 0 0 ∧ Q = nul) ∨ (nq ≠ 0 ∧ ∃ bq oq cq, vq = .slice (some ⟨bq, oq, none⟩) nq cq ∧ t + 1 ≤ nq) := by
        rcases HRD.out.q with ⟨h1, h2⟩ | ⟨bq, oq, cq, h1, _, _, _, _, _, h2⟩
        · exact .inl ⟨h2, h1, funext fun j => HRD.out.qout j (by omega)⟩
        · exact .inr ⟨by omega, bq, oq, cq, h1, by omega⟩
      have HQI := hide hqinit
      clear hqinit
      go_loopw [9] (fun v wr' => (nq = 0 ∧ Q = nul ∧ ∃ (k : Nat) (aq : Option Addr) (cq : Nat), v = .slice aq k cq ∧ k ≤ t + 1 ∧ wr'.ownsRow wo.heap.size 23 1 (.slice aq k cq) k (vals nul k) ∧ Below wo.heap.size wo wr') ∨ (nq ≠ 0 ∧ v = vq ∧ wr' = wo)) (fun v _ => t + 1 - sliceLen v)
      case atStart =>
        rcases HQI.out with ⟨h1, h2, h3⟩ | ⟨h1, _⟩
        · exact .inl ⟨h1, h3, 0, none, 0, h2, Nat.zero_le _, World.ownsRow_nil _ _ _ _, Below.refl _ _⟩
        · exact .inr ⟨h1, rfl, rfl⟩
      case round =>
        by_cases hmore : nq = 0 ∧ ∃ (k : Nat) (aq : Option Addr) (cq : Nat), u9 = .slice aq k cq ∧ k < t + 1 ∧ wr.ownsRow wo.heap.size 23 1 (.slice aq k cq) k (vals nul k) ∧ Below wo.heap.size wo wr ∧ Q = nul
        · obtain ⟨hq0, k, aq, cq, rfl, hkt, hown0, hbl, hQn⟩ := hmore
          have HO := hide (And.intro hown0 hQn)
          clear hown0 hrel hQn
          have hkt' : (k : Int) ≤ (t : Int) := by omega
          go_wp2_with (at_builtin; refine wpList_append_own _ rfl _ _ 22 rfl wo.heap.size 23 i0 (.int .u16 0) 1 2 Try.underlying22 hi hz0 hz1 hz2 rfl (by decide) _ k (vals nul k) rfl (HO.out.1.alloc _) ⟨wr.heap.size, 0, none⟩ 1 1 [.int .u16 0] rfl rfl (cell_one_new _ _ _) (fun u hu => by simp at hu; subst hu; rfl) (by unfold maxLen; omega) (by omega) (by have := hbl.size; simp; omega) ?_; intro v' w2' hown hgrow _; rw [vals_snoc nul k (y := 0) rfl] at hown; obtain ⟨a4, c4, e4', hnew4⟩ := new_of_owns (w := wo) hown ((hbl.trans ((bel_lit wr _).mono hbl.size)).grown hgrow (by have := hbl.size; simp; omega) (fun j e => ownBlock_ge HO.out.1 e)) nul16 (fun _ _ => rfl); subst e4'; clear hgrow)
          go_roundw
          case rel => exact .inl ⟨hq0, HO.out.2, k + 1, a4, c4, rfl, by omega, hown, hnew4.bel⟩
          case measure => simp [sliceLen]; omega
        · have hex : ∃ (bq oq nq' cq : Nat), u9 = .slice (some ⟨bq, oq, none⟩) nq' cq ∧ t + 1 ≤ nq' ∧ nq' ≤ 1000 ∧ nq' ≤ cq ∧ Wr wr bq oq nq' Q ∧ (∀ j, nq' ≤ j → Q j = 0) ∧ ba ≠ bq ∧ bq ≠ bb ∧ w.heap.size ≤ bq ∧ Below wo.heap.size wo wr := by
            rcases hrel with ⟨h1, h2, k, aq, cq, h3, h4, h5, h6⟩ | ⟨h1, h2, h3⟩
            · have hk : k = t + 1 := by
                rcases Nat.lt_or_ge k (t + 1) with h | h
                · exact (hmore ⟨h1, k, aq, cq, h3, h, h5, h6, h2⟩).elim
                · omega
              subst hk
              obtain ⟨a4, c4, e4', hnew4⟩ := new_of_owns (w := wo) h5 h6 nul16 (fun _ _ => rfl)
              cases e4'
              obtain ⟨bq, oq, e5', hbq, hwq⟩ := hnew4.own.resolve_left (by omega)
              subst e5'
              have := HRD.out.bel.size
              have := HRD.out.bb1
              have hbaw : ba < wo.heap.size := (HRD.out.held.sl.at'.resolve_left (by omega)).elim fun b hb => hb.elim fun o ho => by cases ho.1; exact ho.2.1
              exact ⟨bq, oq, t + 1, cq, h3, Nat.le_refl _, by omega, hnew4.sl.cap, h2 ▸ hwq, fun j hj => by rw [h2]; rfl, by omega, by omega, by omega, h6⟩
            · subst h3
              rcases HRD.out.q with ⟨_, h4⟩ | ⟨bq, oq, cq, h4, h5, h6, h7, h8, h9, h10⟩
              · exact (h1 h4).elim
              · exact ⟨bq, oq, nq, cq, h2.trans h4, by omega, HRD.out.nq1, h5, h6, HRD.out.qout, h7 (by omega) _ rfl, h8, h9, Below.refl _ _⟩
          obtain ⟨bq, oq, nq', cq, rfl, hq1, hq2, hq3, hwq, hqo, hne1, hne2, hq4, hbl⟩ := hex
          clear hrel hmore
          have hbaw : ba < wo.heap.size := (HRD.out.held.sl.at'.resolve_left (by omega)).elim fun b hb => hb.elim fun o ho => by cases ho.1; exact ho.2.1
          have hwa0 : Wr wo ba oa (t + m + 1) A := by
            obtain ⟨b9, o9, e9, _, hw9⟩ := HRD.out.held.own.resolve_left (by omega)
            cases e9
            exact hw9
          have hwa : Wr wr ba oa (t + m + 1) A := hwa0.below hbl hbaw
          clear hwa0
          have hcq := hwq.cell t (by omega)
          have hfq := hwq.free t (by omega)
          have hnt : ¬ ((nq' : Int) ≤ (t : Int)) := by omega
          have htn : (t : Int) < (nq' : Int) := by omega
          have HX := hide (And.intro hwq (And.intro hwa (And.intro hqo hbl)))
          clear hwq hwa hqo hbl
          go_wp2_with fail
          have hW2 : ∃ W2, wr.setCell ⟨bq, oq + t, none⟩ (.int .u16 cc) = W2 ∧ Only bq wr W2 ∧ Wr W2 bq oq nq' (dst m inv g (A, Q) t).2 := by
            refine ⟨_, rfl, Only.setCell _ _ _ _, (HX.out.1.set t (by omega) cc).congr fun j _ => ?_⟩
            show (if j = t then cc else Q j) = (if j = t then gI (A (t + m)) inv else Q j)
            rw [HTOP.out, HCC.out]
          obtain ⟨W2, hW2e, o2, hq2⟩ := hW2
          rw [hW2e]
          clear hW2e hcq hfq
          have hwa2 : Wr W2 ba oa (t + m + 1) A := o2.wr HX.out.2.1 hne1
          have hbc2 : ∀ j, j < m + 1 → W2.cell? ⟨bb, ob + j, none⟩ = some (.int .u16 (g j)) := fun j hj => (o2.cell (p := ⟨bb, ob + j, none⟩) (Ne.symm hne2)).trans ((HX.out.2.2.2.cell (p := ⟨bb, ob + j, none⟩) HRD.out.bb1).trans (HRD.out.bc j hj))
          have HW2 := hide (And.intro o2 (And.intro hq2 (And.intro hwa2 hbc2)))
          clear o2 hq2 hwa2 hbc2
          go_loopw [12] (fun kk wr3 => ∃ k : Nat, kk = .int .i64 (k : Int) ∧ k ≤ m + 1 ∧ Wr wr3 ba oa (t + m + 1) (arow A g cc t k) ∧ Only ba W2 wr3) (fun kk _ => m + 1 - (intOf kk).toNat)
          case atStart => exact ⟨0, rfl, Nat.zero_le _, HW2.out.2.2.1.congr (fun j _ => by unfold arow; rw [if_neg (by omega)]), Only.refl _ _⟩
          case round =>
            obtain ⟨w3, hw3⟩ : ∃ v, v = wr := ⟨_, rfl⟩
            subst hw3
            obtain ⟨k, rfl, hk, hwk, hok⟩ := hrel
            by_cases hkm : k < m + 1
            · have hcg := (hok.cell (p := ⟨bb, ob + k, none⟩) (Ne.symm hanb)).trans (HW2.out.2.2.2 k hkm)
              have hca : w3.cell? ⟨ba, oa + (t + k), none⟩ = some (.int .u16 (A (t + k))) := by rw [hwk.cell (t + k) (by omega), arow_at]
              have hfa := hwk.free (t + k) (by omega)
              have bA : 0 ≤ A (t + k) ∧ A (t + k) ≤ 65535 := HRD.out.inv.r16 (t + k)
              have bg := HP.out.2 k
              have HST2 := hide (fun i => arow_step A g cc t k i)
              revert hca bA HST2
              generalize A (t + k) = y
              intro hca bA HST2
              have bgi := gI_bd cc (g k) (by omega)
              have hxor := xI_bits y (gI cc (g k)) (by omega) (by omega)
              have f1' : ((t : Int) + (k : Int)).toNat = t + k := by omega
              have f2' : (t : Int) + (k : Int) < (t : Int) + (m : Int) + 1 := by omega
              have f3' : (0 : Int) ≤ (t : Int) + (k : Int) := by omega
              have f4' : IntKind.i64.wrap ((t : Int) + (k : Int)) = (t : Int) + (k : Int) := wrap_small _ (by omega) (by omega)
              have f5' : (k : Int) < (m : Int) + 1 := by omega
              have HWK := hide (And.intro hwk hok)
              clear hwk hok
              go_wp2_with fail
              refine wp_region_still_tail 18 (by kernel_rfl) (by kernel_rfl) ?_
              simp only [List.take_succ_cons, List.take_zero, List.drop_succ_cons, List.drop_zero]
              repeat still_step
              still_call (refMul_any _ _ _ (by omega) (by omega))
              repeat still_step
              refine wpStill_nil ?_
              go_wp2
              go_roundw
              case rel =>
                refine ⟨k + 1, by go_num, by omega, Wr.drew1 ?_, (HWK.out.2.trans (Only.setCell ba (oa + (t + k)) _ _)).drew⟩
                exact (HWK.out.1.set (t + k) (by omega) (xI y (gI cc (g k)))).congr fun i _ => HST2.out i
              case measure => simp [intOf]; omega
            · obtain rfl : k = m + 1 := by omega
              have f5' : ¬ ((m : Int) + 1 < (m : Int) + 1) := by omega
              have hlast : arow A g cc t (m + 1) = (dst m inv g (A, Q) t).1 := by
                rw [← HCC.out, ← HTOP.out]
                exact arow_last HRD.out.inv.r16 HP.out.2 HG.out.2 t
              rw [hlast] at hwk
              have hst := HST.out
              rw [HI.out] at hst
              have hheld : Held w.heap.size w3 (some ⟨ba, oa, none⟩) (t + m + 1) ca (dst m inv g (A, Q) t).1 := ⟨hwk.sl ca hcap hst.r16 (fun j hj => hst.rout j (by omega)), .inr ⟨ba, oa, rfl, hba, hwk⟩⟩
              have hBw : Below w.heap.size w w3 := ((HRD.out.bel.trans (HX.out.2.2.2.mono HRD.out.bel.size)).trans (HW2.out.1.below hq4)).trans (hok.below hba)
              have HE := hide (And.intro hheld (And.intro hst (And.intro hBw hok)))
              clear hwk hok hst hBw hlast
              go_wp2_with fail
              refine (rshort_any hheld.sl (by omega)).mono ?_
              rintro e w4 ⟨a4, n4, c4, rfl, m4, s4, h4⟩
              have hn4 : n4 ≤ m + t := by
                rcases s4.1 with h0 | h0
                · omega
                · rcases Nat.lt_or_ge (m + t) n4 with h1 | h1
                  · exact (h0 (HE.out.2.1.rout _ (by omega))).elim
                  · exact h1
              clear hheld
              go_wp2_with fail
              go_roundw
              case rel =>
                obtain ⟨hheld, hst, hBw, hok⟩ := HE.out
                have hsz3 : w3.heap.size ≤ w4.heap.size := h4.bel.size
                have hq3w : Wr w3 bq oq nq' (dst m inv g (A, Q) t).2 := hok.wr HW2.out.2.1 (Ne.symm hne1)
                refine ⟨a4, n4, c4, (dst m inv g (A, Q) t).1, (dst m inv g (A, Q) t).2, nq', rfl, ?_⟩
                refine ⟨(h4.held).mono' (by have := hBw.size; omega), s4, fun hne x e => ?_, ⟨hst.r16, hst.q16, hst.eq, fun j hj => s4.2 j (by omega), fun j hj => hst.qlow j (by omega)⟩, fun j hj => ?_, hq2, by omega, .inr ⟨bq, oq, cq, rfl, hq3, hq3w.below h4.bel hq3w.lt, fun hne x e => ?_, hne2, hq4, by omega⟩, hBw.trans (h4.bel.mono hBw.size), fun j hj => ?_, ?_⟩
                · obtain ⟨b9, o9, e9, hb9, _⟩ := h4.own.resolve_left hne
                  rw [e9] at e
                  cases e
                  have := HRD.out.bb1
                  have := HX.out.2.2.2.size
                  have := HW2.out.1.size
                  have := hok.size
                  show b9 ≠ bb
                  omega
                · show (if j = t then _ else Q j) = 0
                  rw [if_neg (by omega)]
                  exact HX.out.2.2.1 j hj
                · obtain ⟨b9, o9, e9, hb9, _⟩ := h4.own.resolve_left hne
                  rw [e9] at e
                  cases e
                  have := hq3w.lt
                  show b9 ≠ bq
                  omega
                · have hbb3 : bb < w3.heap.size := by
                    have := HRD.out.bb1
                    have := HX.out.2.2.2.size
                    have := HW2.out.1.size
                    have := hok.size
                    omega
                  exact (h4.bel.cell (p := ⟨bb, ob + j, none⟩) hbb3).trans ((hok.cell (p := ⟨bb, ob + j, none⟩) (Ne.symm hanb)).trans (HW2.out.2.2.2 j hj))
                · have := HRD.out.bb1
                  have := HX.out.2.2.2.size
                  have := HW2.out.1.size
                  have := hok.size
                  omega
              case measure => simp [sliceLen]; omega
    · have hge' : ¬ ((m : Int) + 1 ≤ (na : Int)) := by omega
      have hqs : ∃ aq cq, vq = .slice aq nq cq ∧ Sl wo aq nq cq Q := by
        rcases hrd.q with ⟨h1, h2⟩ | ⟨bq, oq, cq, h1, h2, h3, _⟩
        · subst h2
          exact ⟨none, 0, h1, ⟨hrd.inv.q16, hrd.qout, Nat.le_refl _, fun _ => rfl, .inl rfl⟩⟩
        · exact ⟨_, cq, h1, h3.sl cq h2 hrd.inv.q16 hrd.qout⟩
      obtain ⟨aq, cq, rfl, hsq⟩ := hqs
      have hnq1 := hrd.nq1
      clear hrd
      go_wp2_with fail
      refine (rshort_any hsq (by omega)).mono ?_
      rintro e w4 ⟨a4, n4, c4, rfl, m4, s4, h4⟩
      go_wp2_with fail
      obtain ⟨hheld, hsh, _, hinv, _, _, hna9, _, hbel, _, _⟩ := HRD.out
      refine bodyPost_ret (v := .tuple #[.slice a4 n4 c4, .slice aa na ca, .int .i64 0]) ?_ rfl ⟨a4, n4, c4, aa, na, ca, Q, A, rfl, h4.sl, hheld.below h4.bel, by omega, hna9, s4, hsh, hinv.eq, fun j hj => hsh.2 j (by omega), hbel.trans (h4.bel.mono hbel.size)⟩
      simp [results, Try.f11, go_sem]

end Go.Proofs.Ytnbbenhiampknaa
