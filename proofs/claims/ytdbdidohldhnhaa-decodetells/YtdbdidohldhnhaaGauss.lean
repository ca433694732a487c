/- Equations in rows, solved column by column: what stays the same, that the only solution is found. Pure arithmetic. -/
import Derived.Test.YtdbdidohldhnhaaEuclid
namespace Go.Proofs.Ytdbdidohldhnhaa
open Go.RowKit Gf
set_option linter.unusedVariables false

/-- A row, times the unknowns and the number behind them. -/
def dot (n : Nat) (m v : Nat → Int) : Int := sm (n + 1) (fun k => gI (m k) (v k))
/-- All rows come to 0. -/
def Kr (M : Nat → Nat → Int) (R n : Nat) (v : Nat → Int) : Prop := ∀ i, i < R → dot n (M i) v = 0
/-- x, with 1 behind, is what all solutions are multiples of. -/
structure Uq (M : Nat → Nat → Int) (R n : Nat) (x : Nat → Int) : Prop where
  bd : P16 x
  one : x n = 1
  sol : Kr M R n x
  uq : ∀ v, P16 v → Kr M R n v → ∀ k, k ≤ n → v k = gI (v n) (x k)
theorem Uq.of {M M' : Nat → Nat → Int} {R n : Nat} {x : Nat → Int} (h : Uq M R n x) (e : ∀ v, P16 v → (Kr M R n v ↔ Kr M' R n v)) : Uq M' R n x :=
  ⟨h.bd, h.one, (e x h.bd).1 h.sol, fun v hv hk => h.uq v hv ((e v hv).2 hk)⟩

theorem dot16 {n : Nat} {m v : Nat → Int} (hm : P16 m) : 0 ≤ dot n m v ∧ dot n m v ≤ 65535 := sm16 fun j _ => g16 (hm j)
theorem dot_sc {n : Nat} {m v : Nat → Int} {c : Int} (hm : P16 m) (hv : P16 v) (hc : 0 ≤ c ∧ c ≤ 65535) : dot n (fun k => gI (m k) c) v = gI c (dot n m v) := by
  unfold dot
  rw [← sm_mul]
  refine sm_congr fun k _ => ?_
  show gI (gI (m k) c) (v k) = gI c (gI (m k) (v k))
  rw [g2 (hm k) hc, g4 hc (hm k)]
theorem dot_comb {n : Nat} {m d v : Nat → Int} {c : Int} (hm : P16 m) (hd : P16 d) (hv : P16 v) (hc : 0 ≤ c ∧ c ≤ 65535) : dot n (fun k => xI (m k) (gI c (d k))) v = xI (dot n m v) (gI c (dot n d v)) := by
  unfold dot
  rw [← sm_mul, ← sm_add]
  refine sm_congr fun k _ => ?_
  show gI (xI (m k) (gI c (d k))) (v k) = xI (gI (m k) (v k)) (gI c (gI (d k) (v k)))
  rw [g5 (hm k) (g16 hc) (hv k), g4 hc (hd k)]

/-- Two rows change places. -/
def swp (M : Nat → Nat → Int) (a b : Nat) : Nat → Nat → Int := fun i => if i = a then M b else if i = b then M a else M i
/-- A row times a number, its first t places. -/
def nrm (M : Nat → Nat → Int) (d : Nat) (c : Int) (t : Nat) : Nat → Nat → Int := fun i k => if i = d ∧ k < t then gI (M d k) c else M i k
/-- Row d is added to the first t rows but itself, as often as their place c says. -/
def elm (M : Nat → Nat → Int) (d c t : Nat) : Nat → Nat → Int := fun i k => if i < t ∧ i ≠ d then xI (M i k) (gI (M i c) (M d k)) else M i k
theorem swp16 {M : Nat → Nat → Int} (h : ∀ i, P16 (M i)) (a b : Nat) : ∀ i, P16 (swp M a b i) := fun i => by
  unfold swp
  split
  · exact h _
  · split
    · exact h _
    · exact h _
theorem nrm16 {M : Nat → Nat → Int} (h : ∀ i, P16 (M i)) (d : Nat) (c : Int) (t : Nat) : ∀ i, P16 (nrm M d c t i) := fun i k => by
  unfold nrm
  split
  · exact g16 (h d k)
  · exact h i k
theorem elm16 {M : Nat → Nat → Int} (h : ∀ i, P16 (M i)) (d c t : Nat) : ∀ i, P16 (elm M d c t i) := fun i k => by
  unfold elm
  split
  · exact x16 (h i k) (g16 (h i c))
  · exact h i k
theorem swp_kr {M : Nat → Nat → Int} {R n a b : Nat} (ha : a < R) (hb : b < R) (v : Nat → Int) : Kr M R n v ↔ Kr (swp M a b) R n v := by
  constructor
  · intro h i hi
    unfold swp
    split
    · exact h b hb
    · split
      · exact h a ha
      · exact h i hi
  · intro h i hi
    by_cases e : i = a
    · have := h b hb
      unfold swp at this
      by_cases e2 : b = a
      · rw [if_pos e2] at this
        rw [e, ← e2]
        exact this
      · rw [if_neg e2, if_pos rfl] at this
        rw [e]
        exact this
    · by_cases e2 : i = b
      · have := h a ha
        unfold swp at this
        rw [if_pos rfl] at this
        rw [e2]
        exact this
      · have := h i hi
        unfold swp at this
        rw [if_neg e, if_neg e2] at this
        exact this
theorem nrm_kr {M : Nat → Nat → Int} {R n d : Nat} {c : Int} (hM : ∀ i, P16 (M i)) (hd : d < R) (hc : 0 ≤ c ∧ c ≤ 65535) (hc0 : c ≠ 0) (v : Nat → Int) (hv : P16 v) : Kr M R n v ↔ Kr (nrm M d c (n + 1)) R n v := by
  have e1 : dot n (nrm M d c (n + 1) d) v = gI c (dot n (M d) v) := by
    rw [← dot_sc (hM d) hv hc]
    exact sm_congr fun k hk => by
      show gI (if d = d ∧ k < n + 1 then gI (M d k) c else M d k) (v k) = gI (gI (M d k) c) (v k)
      rw [if_pos ⟨rfl, hk⟩]
  have e2 : ∀ i, i ≠ d → nrm M d c (n + 1) i = M i := fun i hi => funext fun k => by
    unfold nrm
    rw [if_neg (fun h => hi h.1)]
  constructor
  · intro h i hi
    by_cases e : i = d
    · rw [e, e1, h d hd, f9]
    · rw [e2 i e]; exact h i hi
  · intro h i hi
    by_cases e : i = d
    · have h1 := h d hd
      rw [e1] at h1
      rw [e]
      exact Decidable.byContradiction fun h2 => f11 _ _ hc (dot16 (hM d)) hc0 h2 h1
    · have := h i hi
      rwa [e2 i e] at this
theorem elm_kr {M : Nat → Nat → Int} {R n d c : Nat} (hM : ∀ i, P16 (M i)) (hd : d < R) (v : Nat → Int) (hv : P16 v) : Kr M R n v ↔ Kr (elm M d c R) R n v := by
  have e1 : elm M d c R d = M d := funext fun k => by
    unfold elm
    rw [if_neg (fun h => h.2 rfl)]
  have e2 : ∀ i, i < R → i ≠ d → dot n (elm M d c R i) v = xI (dot n (M i) v) (gI (M i c) (dot n (M d) v)) := fun i hi hne => by
    rw [← dot_comb (hM i) (hM d) hv (hM i c)]
    congr 1
    funext k
    unfold elm
    rw [if_pos ⟨hi, hne⟩]
  constructor
  · intro h i hi
    by_cases e : i = d
    · rw [e, e1]; exact h d hd
    · rw [e2 i hi e, h i hi, h d hd, f9, f7]
  · intro h i hi
    have h0 := h d hd
    rw [e1] at h0
    by_cases e : i = d
    · rw [e]; exact h0
    · have := h i hi
      rw [e2 i hi e, h0, f9, f6 _ (dot16 (hM i)).1] at this
      exact this

/-- The first c columns are done. -/
structure Pv (M : Nat → Nat → Int) (R c : Nat) : Prop where
  one : ∀ k, k < c → ∀ i, i < R → M i k = if i = k then 1 else 0
  le : c ≤ R
theorem pv_zero (M : Nat → Nat → Int) (R : Nat) : Pv M R 0 := ⟨fun k hk => by omega, Nat.zero_le _⟩

theorem sm_two {n p q : Nat} {g : Nat → Int} (hg : ∀ i, 0 ≤ g i ∧ g i ≤ 65535) (hp : p < n) (hq : q < n) (hne : p ≠ q) (h : ∀ i, i < n → i ≠ p → i ≠ q → g i = 0) : sm n g = xI (g p) (g q) := by
  rw [sm_split hg hp, sm_one (q := q) hq (by rw [if_neg (fun e => hne e.symm)]; exact hg q) (fun i hi hiq => by
    show (if i = p then 0 else g i) = 0
    split
    · rfl
    · rename_i hip
      exact h i hi hip hiq), if_neg (fun e => hne e.symm)]
theorem sm_none {n : Nat} {g : Nat → Int} (h : ∀ i, i < n → g i = 0) : sm n g = 0 := by
  induction n with
  | zero => rfl
  | succ n ih =>
    show xI (sm n g) (g n) = 0
    rw [ih (fun i hi => h i (by omega)), h n (by omega), f7]

theorem pivot_ex {M : Nat → Nat → Int} {R n c : Nat} {x : Nat → Int} (hM : ∀ i, P16 (M i)) (hP : Pv M R c) (hc : c < n) (hU : Uq M R n x) : ∃ i, c ≤ i ∧ i < R ∧ M i c ≠ 0 := by
  refine Classical.byContradiction fun hno => ?_
  have hz : ∀ i, c ≤ i → i < R → M i c = 0 := fun i h1 h2 => Decidable.byContradiction fun h => hno ⟨i, h1, h2, h⟩
  have hv : P16 (fun k => if k < c then M k c else if k = c then 1 else 0) := fun k => by
    show 0 ≤ (if k < c then M k c else if k = c then 1 else 0) ∧ (if k < c then M k c else if k = c then 1 else 0) ≤ 65535
    split
    · exact hM k c
    · split
      · exact o16
      · exact z16
  have hle := hP.le
  have hK : Kr M R n (fun k => if k < c then M k c else if k = c then 1 else 0) := fun i hi => by
    unfold dot
    have h16 : ∀ k, 0 ≤ gI (M i k) (if k < c then M k c else if k = c then 1 else 0) ∧ gI (M i k) (if k < c then M k c else if k = c then 1 else 0) ≤ 65535 := fun k => g16 (hM i k)
    by_cases hic : i < c
    · rw [sm_two (p := i) (q := c) h16 (by omega) (by omega) (by omega) (fun k hk h1 h2 => by
        by_cases hkc : k < c
        · rw [hP.one k hkc i hi, if_neg (fun e => h1 e.symm), f12]
        · rw [if_neg hkc, if_neg h2, f9]), if_pos hic, if_neg (by omega), if_pos rfl, hP.one i hic i hi, if_pos rfl, g2 o16 (hM i c), f8 _ (hM i c).1, f7]
    · exact sm_none fun k hk => by
        show gI (M i k) (if k < c then M k c else if k = c then 1 else 0) = 0
        by_cases hkc : k < c
        · rw [hP.one k hkc i hi, if_neg (by omega), f12]
        · rw [if_neg hkc]
          by_cases hke : k = c
          · rw [hke, hz i (by omega) hi, f12]
          · rw [if_neg hke, f9]
  have h1 := hU.uq _ hv hK c (by omega)
  have h2 : (if c < c then M c c else if c = c then (1 : Int) else 0) = gI (if n < c then M n c else if n = c then 1 else 0) (x c) := h1
  rw [if_neg (by omega), if_pos rfl, if_neg (by omega), if_neg (by omega), f12] at h2
  cases h2
theorem pv_sol {M : Nat → Nat → Int} {R n : Nat} {x : Nat → Int} (hM : ∀ i, P16 (M i)) (hP : Pv M R n) (hU : Uq M R n x) : (∀ i, i < n → M i n = x i) ∧ ∀ i, n ≤ i → i < R → M i n = 0 := by
  have hle := hP.le
  constructor
  · intro i hi
    have h := hU.sol i (by omega)
    unfold dot at h
    rw [sm_two (p := i) (q := n) (fun k => g16 (hM i k)) (by omega) (by omega) (by omega) (fun k hk h1 h2 => by
      rw [hP.one k (by omega) i (by omega), if_neg (fun e => h1 e.symm), f12]), hP.one i hi i (by omega), if_pos rfl, hU.one, f8 _ (hM i n).1, g2 o16 (hU.bd i), f8 _ (hU.bd i).1] at h
    exact (x_eq (hU.bd i) (hM i n) h).symm
  · intro i h1 hi
    have h := hU.sol i hi
    unfold dot at h
    rw [sm_one (q := n) (by omega) (g16 (hM i n)) (fun k hk h2 => by
      rw [hP.one k (by omega) i hi, if_neg (by omega), f12]), hU.one, f8 _ (hM i n).1] at h
    exact h
/-- One column more. -/
theorem pv_step {M : Nat → Nat → Int} {R c a n : Nat} (hM : ∀ i, P16 (M i)) (hP : Pv M R c) (ha : c ≤ a) (haR : a < R) (hne : M a c ≠ 0) (hcn : c < n + 1) :
    Pv (elm (nrm (swp M a c) c (pI (M a c) 65534) (n + 1)) c c R) R (c + 1) := by
  have hcR : c < R := by omega
  have sc : swp M a c c = M a := by
    unfold swp
    by_cases e : c = a
    · rw [if_pos e, ← e]
    · rw [if_neg e, if_pos rfl]
  have low : ∀ k, k < c → ∀ i, i < R → swp M a c i k = if i = k then 1 else 0 := fun k hk i hi => by
    unfold swp
    by_cases e : i = a
    · rw [if_pos e, hP.one k hk c hcR, if_neg (by omega), if_neg (by omega)]
    · rw [if_neg e]
      by_cases e2 : i = c
      · rw [if_pos e2, hP.one k hk a haR, if_neg (by omega), if_neg (by omega)]
      · rw [if_neg e2, hP.one k hk i hi]
  obtain ⟨N, hN⟩ : ∃ N, nrm (swp M a c) c (pI (M a c) 65534) (n + 1) = N := ⟨_, rfl⟩
  have n16 : ∀ i, P16 (N i) := hN ▸ nrm16 (swp16 hM a c) c _ _
  have hNc : ∀ k, k < n + 1 → N c k = gI (M a k) (pI (M a c) 65534) := fun k hk => by
    rw [← hN]
    unfold nrm
    rw [if_pos ⟨rfl, hk⟩, sc]
  have hNi : ∀ i, i ≠ c → N i = swp M a c i := fun i hi => funext fun k => by
    rw [← hN]
    unfold nrm
    rw [if_neg (fun h => hi h.1)]
  have hNcc : N c c = 1 := by rw [hNc c hcn, f10 _ (hM a c) hne]
  rw [hN]
  refine ⟨fun k hk i hi => ?_, by omega⟩
  have hlow : ∀ k, k < c → N c k = 0 := fun k hk => by rw [hNc k (by omega), hP.one k hk a haR, if_neg (by omega), f12]
  unfold elm
  by_cases e : i = c
  · rw [if_neg (fun h => h.2 e), e]
    by_cases e2 : k = c
    · rw [e2, hNcc, if_pos rfl]
    · rw [hlow k (by omega), if_neg (fun h => e2 h.symm)]
  · rw [if_pos ⟨hi, e⟩]
    by_cases e2 : k = c
    · rw [e2, hNcc, f8 _ (n16 i c).1, f7, if_neg e]
    · rw [hlow k (by omega), f9, f6 _ (n16 i k).1, hNi i e, low k (by omega) i hi]

end Go.Proofs.Ytdbdidohldhnhaa
