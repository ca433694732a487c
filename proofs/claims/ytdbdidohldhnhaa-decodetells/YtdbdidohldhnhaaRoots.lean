/- Roots: a product of z + x is 0 at each of its roots and at no other number; what a division by z + x leaves is the value at x; a polynomial that is not 0 has no more roots than its degree. Pure arithmetic. -/
import Derived.Test.YtdbdidohldhnhaaLits
import Derived.Test.YtdbdidohldhnhaaDivM
namespace Go.Proofs.Ytdbdidohldhnhaa
open Go.RowKit Gf
set_option linter.unusedVariables false

theorem shr_lit (xs : List Int) (h : xs ≠ [] → lf xs (xs.length - 1) ≠ 0) : Shr (lf xs) xs.length := by
  refine ⟨?_, lf_out xs⟩
  cases xs with
  | nil => exact .inl rfl
  | cons x xs => exact .inr (h (by simp))
theorem ofp_step (r : Nat → Int) (t : Nat) : ofp r (t + 1) = addp (sh (ofp r t)) (sc (r t) (ofp r t)) := rfl
theorem ofp_val (r : Nat → Int) (hr : P16 r) (x : Int) (hx : 0 ≤ x ∧ x ≤ 65535) (t : Nat) : atp x (t + 1 + 1) (ofp r (t + 1)) = gI (atp x (t + 1) (ofp r t)) (xI x (r t)) := by
  rw [ofp_step, atp_add x hx _ (sh16 (ofp16 r t)) (sc16 (ofp16 r t) _), atp_sh x _ (ofp16 r t), atp_sc x _ hx (hr t) _ (ofp16 r t), atp_more x (ofp_out r t) 1, f5]
theorem ofp_root (r : Nat → Int) (hr : P16 r) (x : Int) (hx : 0 ≤ x ∧ x ≤ 65535) (n : Nat) : atp x (n + 1) (ofp r n) = 0 ↔ ∃ i, i < n ∧ r i = x := by
  induction n with
  | zero =>
    refine ⟨fun h => ?_, fun ⟨i, hi, _⟩ => by omega⟩
    have h1 : atp x (0 + 1) (ofp r 0) = 1 := by
      show xI (gI 0 x) 1 = 1
      rw [f12, x0 (by decide)]
    rw [h1] at h
    cases h
  | succ n ih =>
    rw [ofp_val r hr x hx n]
    have hV := atp16 x (n + 1) (ofp r n) (ofp16 r n)
    constructor
    · intro h
      by_cases h1 : atp x (n + 1) (ofp r n) = 0
      · obtain ⟨i, hi, e⟩ := ih.1 h1
        exact ⟨i, by omega, e⟩
      · by_cases h2 : xI x (r n) = 0
        · exact ⟨n, by omega, (x_eq hx (hr n) h2).symm⟩
        · exact (f11 _ _ hV (x16 hx (hr n)) h1 h2 h).elim
    · rintro ⟨i, hi, e⟩
      by_cases h1 : i = n
      · subst h1
        rw [e, f7, f9]
      · rw [ih.2 ⟨i, by omega, e⟩, f12]

theorem lin_shr (x : Int) : Shr (lf [x, 1]) (1 + 1) := shr_lit [x, 1] (fun _ => by show (1 : Int) ≠ 0; decide)
theorem lin16 {x : Int} (hx : 0 ≤ x ∧ x ≤ 65535) : P16 (lf [x, 1]) := lf16 (by
  intro y hy
  rcases List.mem_cons.1 hy with rfl | hy
  · exact hx
  · have : y = 1 := by simpa using hy
    subst this
    decide)
theorem lin_val {x y : Int} (hy : 0 ≤ y ∧ y ≤ 65535) : atp y 2 (lf [x, 1]) = xI y x := by
  show xI (gI (xI (gI 0 y) 1) y) x = _
  rw [f12, x0 (by decide), g2 (by decide) hy, f8 _ hy.1]
/-- What is left of a division by z + x. -/
theorem lin_rest {p q r : Nat → Int} {x : Int} {n nq : Nat} (hx : 0 ≤ x ∧ x ≤ 65535) (hq : P16 q) (hr : P16 r) (hqo : ∀ j, nq ≤ j → q j = 0) (hro : ∀ j, 1 ≤ j → r j = 0) (hpo : ∀ j, n ≤ j → p j = 0) (h : addp (mulp q (lf [x, 1])) r = p) : atp x n p = r 0 := by
  have hN : ∀ j, n + nq + 3 ≤ j → p j = 0 := fun j hj => hpo j (by omega)
  rw [atp_same x hpo hN, ← h, atp_add x hx _ (mulp16 (lin16 hx)) hr, atp_mul x hx (n := nq) (m := 2) hq (lin16 hx) hqo (lf_out [x, 1]) (by omega), lin_val hx, f7, f9, atp_same x (n := n + nq + 3) (m := 1) (fun j hj => hro j (by omega)) hro]
  show xI 0 (xI (gI 0 x) (r 0)) = r 0
  rw [f12, x0 (hr 0), x0 (hr 0)]

theorem quot_ex {f g : Nat → Int} {m n : Nat} (hf : P16 f) (hg : P16 g) (hgs : Shr g (m + 1)) (hfo : ∀ j, n ≤ j → f j = 0) : ∃ (q r : Nat → Int) (N : Nat), P16 q ∧ P16 r ∧ (∀ j, N ≤ j → q j = 0) ∧ (∀ j, m ≤ j → r j = 0) ∧ addp (mulp q g) r = f := by
  obtain ⟨k, hk, hfs⟩ := shr_ex f n hfo
  by_cases hlt : k < m + 1
  · exact ⟨nul, f, 0, nul16, hf, fun _ _ => rfl, fun j hj => hfs.2 j (by omega), by rw [mulp_nul hg, nul_addp hf]⟩
  · obtain ⟨d, rfl⟩ : ∃ d, k = m + (d + 1) := ⟨k - m - 1, by omega⟩
    obtain ⟨hi, hs⟩ := dfold_ok hf hg hgs hfs
    exact ⟨_, _, d + 1, hi.q16, hi.r16, hs.2, fun j hj => hi.rout j (by omega), hi.eq⟩

theorem roots_bound : ∀ (xs : List Int) (f : Nat → Int) (k : Nat), P16 f → Shr f (k + 1) → xs.Nodup → (∀ x ∈ xs, (0 ≤ x ∧ x ≤ 65535) ∧ atp x (k + 1) f = 0) → xs.length ≤ k := by
  intro xs
  induction xs with
  | nil => intro f k _ _ _ _; exact Nat.zero_le _
  | cons x xs ih =>
    intro f k hf hs hnd hz
    obtain ⟨hx, hx0⟩ := hz x (by simp)
    obtain ⟨q, r, N, hq, hr, hqo, hro, he⟩ := quot_ex hf (lin16 hx) (lin_shr x) hs.2
    have hr0 : r 0 = 0 := by rw [← lin_rest (n := k + 1) hx hq hr hqo hro hs.2 he]; exact hx0
    have hrn : r = nul := funext fun j => by
      by_cases hj : j = 0
      · rw [hj]; exact hr0
      · exact hro j (by omega)
    rw [hrn, addp_nul (mulp16 (lin16 hx))] at he
    obtain ⟨t, _, ht⟩ := shr_ex q N hqo
    cases t with
    | zero =>
      have hqn : q = nul := funext fun j => ht.2 j (Nat.zero_le _)
      rw [hqn, mulp_nul (lin16 hx)] at he
      exact (hs.1.resolve_left (by omega) (by rw [← he]; rfl)).elim
    | succ t =>
      have h1 := mulp_shr (n := t) (m := 1) hq (lin16 hx) ht (lin_shr x)
      rw [he] at h1
      have h2 := h1.uniq hs
      obtain rfl : k = t + 1 := by omega
      have := ih q t hq ht (List.nodup_cons.1 hnd).2 (fun y hy => by
        obtain ⟨hy16, hy0⟩ := hz y (by simp [hy])
        refine ⟨hy16, ?_⟩
        have e3 : atp y (t + 1 + 1) f = gI (atp y (t + 1) q) (xI y x) := by
          rw [atp_same y (m := t + 1 + 2) h1.2 (fun j hj => h1.2 j (by omega)), ← he, atp_mul y hy16 (n := t + 1) (m := 2) hq (lin16 hx) ht.2 (lf_out [x, 1]) (by omega), lin_val hy16]
        rw [hy0] at e3
        by_cases hq0 : atp y (t + 1) q = 0
        · exact hq0
        · have hne : xI y x ≠ 0 := fun h => (List.nodup_cons.1 hnd).1 (x_eq hy16 hx h ▸ hy)
          exact (f11 _ _ (atp16 y (t + 1) q hq) (x16 hy16 hx) hq0 hne e3.symm).elim)
      simp
      omega

end Go.Proofs.Ytdbdidohldhnhaa
