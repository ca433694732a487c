/- What division by hand makes is the quotient and the rest, and these are the only ones; products of roots; how many roots there can be. Pure arithmetic, and Div's contract said with it. -/
import Derived.Test.YtdbdidohldhnhaaDivs
import Derived.Test.YtdbdidohldhnhaaPAlg
namespace Go.Proofs.Ytdbdidohldhnhaa
open Go.RowKit Gf
set_option linter.unusedVariables false

def shi (i : Nat) (h : Nat → Int) : Nat → Int := fun k => if k < i then 0 else h (k - i)
theorem shi_zero (h : Nat → Int) : shi 0 h = h := funext fun k => by unfold shi; rw [if_neg (by omega)]; rfl
theorem shi_succ (i : Nat) (h : Nat → Int) : shi (i + 1) h = sh (shi i h) := funext fun k => by
  show (if k < i + 1 then 0 else h (k - (i + 1))) = (if k = 0 then 0 else if k - 1 < i then 0 else h (k - 1 - i))
  by_cases h0 : k = 0
  · subst h0; rw [if_pos (by omega), if_pos rfl]
  · rw [if_neg h0]
    by_cases h1 : k < i + 1
    · rw [if_pos h1, if_pos (by omega)]
    · rw [if_neg h1, if_neg (by omega), show k - 1 - i = k - (i + 1) from by omega]
theorem shi16 {h : Nat → Int} (hh : P16 h) (i : Nat) : P16 (shi i h) := fun j => by
  unfold shi
  split
  · exact z16
  · exact hh _
theorem mulp_shi {f g : Nat → Int} (hf : P16 f) (hg : P16 g) (i : Nat) : mulp (shi i f) g = shi i (mulp f g) := by
  induction i with
  | zero => rw [shi_zero, shi_zero]
  | succ i ih => rw [shi_succ, mulp_shl (shi16 hf i) hg, ih, shi_succ]

/-- What holds when the places from n on are done. -/
structure DInv (f g : Nat → Int) (m n : Nat) (s : (Nat → Int) × (Nat → Int)) : Prop where
  r16 : P16 s.1
  q16 : P16 s.2
  eq : addp (mulp s.2 g) s.1 = f
  rout : ∀ j, m + n ≤ j → s.1 j = 0
  qlow : ∀ j, j < n → s.2 j = 0

theorem dinv_step {f g : Nat → Int} {m n : Nat} {s : (Nat → Int) × (Nat → Int)} (hg : P16 g) (hgs : Shr g (m + 1)) (h : DInv f g m (n + 1) s) : DInv f g m n (dst m (pI (g m) 65534) g s n) := by
  have hgm : g m ≠ 0 := hgs.1.resolve_left (by omega)
  obtain ⟨c, hc⟩ : ∃ c, gI (s.1 (n + m)) (pI (g m) 65534) = c := ⟨_, rfl⟩
  have c16 : 0 ≤ c ∧ c ≤ 65535 := hc ▸ g16 (h.r16 _)
  have e1 : (dst m (pI (g m) 65534) g s n).1 = addp s.1 (shi n (sc c g)) := funext fun k => by
    show (if k < n then s.1 k else xI (s.1 k) (gI (g (k - n)) (gI (s.1 (n + m)) (pI (g m) 65534)))) = xI (s.1 k) (if k < n then 0 else gI (g (k - n)) c)
    rw [hc]
    split
    · rw [f6 _ (h.r16 k).1]
    · rfl
  have e2 : (dst m (pI (g m) 65534) g s n).2 = addp s.2 (shi n (cst c)) := funext fun k => by
    show (if k = n then gI (s.1 (n + m)) (pI (g m) 65534) else s.2 k) = xI (s.2 k) (if k < n then 0 else if k - n = 0 then c else 0)
    rw [hc]
    by_cases h0 : k = n
    · subst h0
      rw [if_pos rfl, h.qlow k (by omega), if_neg (by omega), if_pos (by omega), x0 c16]
    · rw [if_neg h0]
      by_cases h1 : k < n
      · rw [if_pos h1, f6 _ (h.q16 k).1]
      · rw [if_neg h1, if_neg (by omega), f6 _ (h.q16 k).1]
  have p16 := dst16 (m := m) (inv := pI (g m) 65534) hg ⟨h.r16, h.q16⟩ n
  refine ⟨p16.1, p16.2, ?_, ?_, ?_⟩
  · rw [e1, e2, mulp_addl h.q16 (shi16 (cst16 c16) n) hg, mulp_shi (cst16 c16) hg, mulp_comm (cst16 c16) hg, mulp_cst hg c16, addp_swap, addp_self, addp_nul (addp16 (mulp16 hg) h.r16), h.eq]
  · intro j hj
    rw [e1]
    show xI (s.1 j) (if j < n then 0 else gI (g (j - n)) c) = 0
    rw [if_neg (by omega)]
    by_cases h0 : j = n + m
    · subst h0
      rw [show n + m - n = m from by omega, ← hc, f15 _ _ (hg m) (h.r16 _) hgm, f7]
    · rw [h.rout j (by omega), hgs.2 _ (by omega), f12, f7]
  · intro j hj
    rw [e2]
    show xI (s.2 j) (if j < n then 0 else _) = 0
    rw [if_pos hj, h.qlow j (by omega), f7]

theorem dinv_fold {f g : Nat → Int} {m : Nat} (hg : P16 g) (hgs : Shr g (m + 1)) : ∀ (n : Nat) (s : (Nat → Int) × (Nat → Int)), DInv f g m n s →
    DInv f g m 0 ((down n).foldl (dst m (pI (g m) 65534) g) s) ∧ ∀ j, n ≤ j → ((down n).foldl (dst m (pI (g m) 65534) g) s).2 j = s.2 j := by
  intro n
  induction n with
  | zero => intro s h; exact ⟨h, fun _ _ => rfl⟩
  | succ n ih =>
    intro s h
    obtain ⟨h1, h2⟩ := ih _ (dinv_step hg hgs h)
    refine ⟨h1, fun j hj => ?_⟩
    show ((down n).foldl (dst m (pI (g m) 65534) g) (dst m (pI (g m) 65534) g s n)).2 j = _
    rw [h2 j (by omega)]
    show (if j = n then _ else s.2 j) = _
    rw [if_neg (by omega)]

theorem mulp_nul {g : Nat → Int} (hg : P16 g) : mulp nul g = nul := (pm_mulp hg (n := 0) (fun _ _ => rfl)).symm

theorem dfold_ok {f g : Nat → Int} {m d : Nat} (hf : P16 f) (hg : P16 g) (hgs : Shr g (m + 1)) (hfs : Shr f (m + (d + 1))) :
    DInv f g m 0 (dfold m (pI (g m) 65534) g f (down (d + 1))) ∧ Shr (dfold m (pI (g m) 65534) g f (down (d + 1))).2 (d + 1) := by
  have h0 : DInv f g m (d + 1) (f, fun _ => 0) := ⟨hf, nul16, by show addp (mulp nul g) f = f; rw [mulp_nul hg, nul_addp hf], hfs.2, fun _ _ => rfl⟩
  refine ⟨(dinv_fold hg hgs (d + 1) _ h0).1, .inr ?_, fun j hj => (dinv_fold hg hgs (d + 1) _ h0).2 j hj⟩
  show ((down d).foldl (dst m (pI (g m) 65534) g) (dst m (pI (g m) 65534) g (f, fun _ => 0) d)).2 (d + 1 - 1) ≠ 0
  rw [show d + 1 - 1 = d from rfl, (dinv_fold hg hgs d _ (dinv_step hg hgs h0)).2 d (Nat.le_refl _)]
  show (if d = d then gI (f (d + m)) (pI (g m) 65534) else 0) ≠ 0
  rw [if_pos rfl]
  have hfm : f (m + (d + 1) - 1) ≠ 0 := hfs.1.resolve_left (by omega)
  rw [show m + (d + 1) - 1 = d + m from by omega] at hfm
  have hgm : g m ≠ 0 := hgs.1.resolve_left (by omega)
  have hpb := pI_bd (g m) 65534 (by have := hg m; omega)
  exact f11 _ _ (hf _) (by omega) hfm (f19 _ (hg m) hgm)

/-- The only quotient and the only rest. -/
theorem div_uniq {g q r q' r' : Nat → Int} {m N : Nat} (hg : P16 g) (hgs : Shr g (m + 1)) (hq : P16 q) (hr : P16 r) (hq' : P16 q') (hr' : P16 r') (hqo : ∀ j, N ≤ j → q j = 0) (hqo' : ∀ j, N ≤ j → q' j = 0)
    (hro : ∀ j, m ≤ j → r j = 0) (hro' : ∀ j, m ≤ j → r' j = 0) (h : addp (mulp q g) r = addp (mulp q' g) r') : q = q' ∧ r = r' := by
  have hu16 : P16 (addp q q') := addp16 hq hq'
  have e : mulp (addp q q') g = addp r r' := by
    rw [mulp_addl hq hq' hg]
    have h2 : addp (addp (mulp q g) r) (addp (mulp q' g) r') = nul := by rw [h, addp_self]
    rw [addp_swap] at h2
    funext k
    have h3 : xI (addp (mulp q g) (mulp q' g) k) (addp r r' k) = 0 := congrFun h2 k
    exact x_eq (addp16 (mulp16 hg) (mulp16 hg) k) (addp16 hr hr' k) h3
  obtain ⟨t, _, ht⟩ := shr_ex (addp q q') N (fun j hj => by show xI (q j) (q' j) = 0; rw [hqo j hj, hqo' j hj, f7])
  have hz : addp q q' = nul := by
    cases t with
    | zero => exact funext fun k => ht.2 k (Nat.zero_le _)
    | succ t =>
      have h1 := mulp_top (n := t) (m := m) hg ht.2 hgs.2
      rw [e] at h1
      have h2 : addp r r' (t + m) = 0 := by show xI (r (t + m)) (r' (t + m)) = 0; rw [hro _ (by omega), hro' _ (by omega), f7]
      rw [h2] at h1
      exact (f11 _ _ (hg m) (hu16 t) (hgs.1.resolve_left (by omega)) (ht.1.resolve_left (by omega)) h1.symm).elim
  have hqq : q = q' := funext fun k => x_eq (hq k) (hq' k) (congrFun hz k)
  refine ⟨hqq, ?_⟩
  subst hqq
  funext k
  have h3 : xI (mulp q g k) (r k) = xI (mulp q g k) (r' k) := congrFun h k
  have h4 := xx (a := mulp q g k) (hr k)
  rw [h3, xx (hr' k)] at h4
  exact h4.symm

/-- Div by a divisor that is not 0. -/
theorem div_any {w : World} {a a' : Option Addr} {n c n' c' m : Nat} {f g : Nat → Int} (h : Sl w a n c f) (h' : Sl w a' n' c' g) (hn : n ≤ 1000) (hn' : n' ≤ 1000) (hg : Shr g (m + 1)) :
    Calls Try.prog 54 #[.slice a n c, .slice a' n' c'] w fun e w' => ∃ aq nq cq ar nr cr q r, e = .returned (.tuple #[.slice aq nq cq, .slice ar nr cr, .int .i64 0]) ∧ New w w' aq nq cq q ∧ New w w' ar nr cr r ∧ Shr q nq ∧ Shr r nr ∧ nr ≤ m ∧ nq ≤ n ∧ nr ≤ n ∧ addp (mulp q g) r = f ∧ (∀ j, m ≤ j → r j = 0) ∧
      (∀ x y, aq = some x → ar = some y → x.block ≠ y.block) := by
  obtain ⟨k, hk, hfs⟩ := shr_ex f n h.out
  by_cases hlt : k < m + 1
  · refine (div_less h h' hn hn' hg hfs hlt).mono ?_
    rintro e w' ⟨ar, cr, rfl, hr⟩
    refine ⟨none, 0, 0, ar, k, cr, nul, f, rfl, ⟨⟨nul16, fun _ _ => rfl, Nat.le_refl _, fun _ => rfl, .inl rfl⟩, hr.bel, .inl rfl⟩, hr, ⟨.inl rfl, fun _ _ => rfl⟩, hfs, by omega, Nat.zero_le _, hk, ?_, fun j hj => hfs.2 j (by omega), fun x y e => by cases e⟩
    rw [mulp_nul h'.bd, nul_addp h.bd]
  · obtain ⟨d, rfl⟩ : ∃ d, k = m + (d + 1) := ⟨k - m - 1, by omega⟩
    refine (callsIn_wide.1 (div_in h h' hn hn' hg hfs)).mono ?_
    rintro e w' ⟨is, aq, cq, ar, kr, cr, rfl, rfl, hq, hsr, hr, hne⟩
    obtain ⟨hinv, hsq⟩ := dfold_ok h.bd h'.bd hg hfs
    have hro : ∀ j, m ≤ j → (dfold m (pI (g m) 65534) g f (down (d + 1))).1 j = 0 := fun j hj => hinv.rout j (by omega)
    have hkr : kr ≤ m := by
      rcases hsr.1 with h0 | h0
      · omega
      · rcases Nat.lt_or_ge m kr with h1 | h1
        · exact (h0 (hro _ (by omega))).elim
        · exact h1
    exact ⟨aq, d + 1, cq, ar, kr, cr, _, _, rfl, hq, hr, hsq, hsr, hkr, by omega, by omega, hinv.eq, hro, hne⟩

end Go.Proofs.Ytdbdidohldhnhaa
