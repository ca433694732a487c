/- The document's own division, as its Check reckons it, in plain numbers. Pure arithmetic. -/
import Derived.Test.YtfinicoipoleaaaWords
namespace Go.Proofs.Ytfinicoipoleaaa
open Go.RowKit Gf
set_option linter.unusedVariables false

/-- A row read from its end. -/
def rv (N : Nat) (L : Nat → Int) : Nat → Int := fun i => L (N - 1 - i)
theorem rv16 {N : Nat} {L : Nat → Int} (h : P16 L) : P16 (rv N L) := fun i => h _
/-- A product one place up. -/
def up1 (k p : Nat) : Int := if p = 0 then 0 else ofp al k (p - 1)
/-- The next product, m places of it. -/
def nm (k m : Nat) : Nat → Int := fun p => xI (if p ≤ m then up1 k p else 0) (if p < m then gI (ofp al k p) (al k) else 0)
theorem up16 (k p : Nat) : 0 ≤ up1 k p ∧ up1 k p ≤ 65535 := by
  unfold up1
  split
  · exact z16
  · exact ofp16 al k _
theorem nm_zero (k p : Nat) : nm k 0 p = 0 := by
  unfold nm
  rw [if_neg (show ¬ p < 0 by omega)]
  by_cases h : p ≤ 0
  · rw [if_pos h, show p = 0 from by omega]
    show xI (if 0 = 0 then 0 else _) 0 = 0
    rw [if_pos rfl, f7]
  · rw [if_neg h, f7]
theorem nm_full (k p : Nat) (hp : p < k + 2) : nm k (k + 1) p = ofp al (k + 1) p := by
  unfold nm
  show _ = xI (if p = 0 then 0 else ofp al k (p - 1)) (gI (ofp al k p) (al k))
  rw [if_pos (by omega)]
  by_cases h : p < k + 1
  · rw [if_pos h]
    rfl
  · rw [if_neg h, ofp_out al k p (by omega), f12]
    rfl
/-- What stands at the two places that a step turns. -/
theorem nm_hi (k m : Nat) : nm k m (m + 1) = 0 := by
  unfold nm
  rw [if_neg (by omega), if_neg (by omega), f7]
theorem nm_lo (k m : Nat) : nm k m m = up1 k m := by
  unfold nm
  rw [if_pos (Nat.le_refl _), if_neg (by omega), f6 _ (up16 k m).1]
theorem nm_step (k m p : Nat) : (if p = m then xI (up1 k m) (gI (ofp al k m) (al k)) else if p = m + 1 then ofp al k m else nm k m p) = nm k (m + 1) p := by
  by_cases h : p = m
  · subst h
    rw [if_pos rfl]
    unfold nm
    rw [if_pos (by omega), if_pos (by omega)]
  · rw [if_neg h]
    by_cases h2 : p = m + 1
    · subst h2
      rw [if_pos rfl]
      unfold nm up1
      rw [if_pos (by omega), if_neg (by omega), if_neg (by omega), f6 _ (ofp16 al k _).1]
      rfl
    · rw [if_neg h2]
      unfold nm
      by_cases h3 : p < m
      · rw [if_pos (by omega), if_pos h3, if_pos (by omega), if_pos (by omega)]
      · rw [if_neg (by omega), if_neg h3, if_neg (by omega), if_neg (by omega)]
/-- The divisor, taken c times, added from place s on: its first m coefficients. -/
def ad1 (L : Nat → Int) (c : Int) (r s m : Nat) : Nat → Int := fun p => if s ≤ p ∧ p < s + m then xI (L p) (gI c (ofp al r (p - s))) else L p
theorem ad16 {L : Nat → Int} (hL : P16 L) {c : Int} (hc : 0 ≤ c ∧ c ≤ 65535) (r s m : Nat) : P16 (ad1 L c r s m) := fun p => by
  unfold ad1
  split
  · exact x16 (hL p) (g16 hc)
  · exact hL p
theorem ad_step (L : Nat → Int) (c : Int) (r s m p : Nat) : (if p = s + m then xI (L (s + m)) (gI c (ofp al r m)) else ad1 L c r s m p) = ad1 L c r s (m + 1) p := by
  unfold ad1
  by_cases h : p = s + m
  · subst h
    rw [if_pos rfl, if_pos (by omega), show s + m - s = m from by omega]
  · rw [if_neg h]
    by_cases h2 : s ≤ p ∧ p < s + m
    · rw [if_pos h2, if_pos (by omega)]
    · rw [if_neg h2, if_neg (by omega)]
theorem ad_at (L : Nat → Int) (c : Int) (r s m : Nat) : ad1 L c r s m (s + m) = L (s + m) := by
  unfold ad1
  rw [if_neg (by omega)]
/-- A step of the division does not turn the values at the roots. -/
theorem ad_val {L : Nat → Int} (hL : P16 L) {c : Int} (hc : 0 ≤ c ∧ c ≤ 65535) {r s t N j : Nat} (hN : N = s + r + 1 + t) (hj : j < r) : vh (al j) N (rv N (ad1 L c r s (r + 1))) = vh (al j) N (rv N L) := by
  have hD : P16 (fun p => if s ≤ p ∧ p < s + (r + 1) then gI c (ofp al r (p - s)) else 0) := fun p => by
    show 0 ≤ (if s ≤ p ∧ p < s + (r + 1) then gI c (ofp al r (p - s)) else 0) ∧ (if s ≤ p ∧ p < s + (r + 1) then gI c (ofp al r (p - s)) else 0) ≤ 65535
    split
    · exact g16 hc
    · exact z16
  have e : rv N (ad1 L c r s (r + 1)) = addp (rv N L) (rv N (fun p => if s ≤ p ∧ p < s + (r + 1) then gI c (ofp al r (p - s)) else 0)) := funext fun i => by
    show (if s ≤ N - 1 - i ∧ N - 1 - i < s + (r + 1) then xI (L (N - 1 - i)) (gI c (ofp al r (N - 1 - i - s))) else L (N - 1 - i)) = xI (L (N - 1 - i)) (if s ≤ N - 1 - i ∧ N - 1 - i < s + (r + 1) then gI c (ofp al r (N - 1 - i - s)) else 0)
    split
    · rfl
    · rw [f6 _ (hL _).1]
  rw [e, vh_add (al16 j) N (rv16 hL) (rv16 hD)]
  have h0 : vh (al j) N (rv N (fun p => if s ≤ p ∧ p < s + (r + 1) then gI c (ofp al r (p - s)) else 0)) = 0 := by
    refine vh_block (al j) (t := t) (k := r + 1) (N := N) (by omega) (fun i hi => ?_) (fun i h1 h2 => ?_) ?_
    · show (if s ≤ N - 1 - i ∧ N - 1 - i < s + (r + 1) then gI c (ofp al r (N - 1 - i - s)) else 0) = 0
      rw [if_neg (by omega)]
    · show (if s ≤ N - 1 - i ∧ N - 1 - i < s + (r + 1) then gI c (ofp al r (N - 1 - i - s)) else 0) = 0
      rw [if_neg (by omega)]
    · have h1 := vh_sc (al16 j) hc (r + 1) (dw16 r)
      rw [dw_val r j hj, f12] at h1
      refine Eq.trans (vh_congr _ (fun i hi => ?_)) h1
      show (if s ≤ N - 1 - (t + i) ∧ N - 1 - (t + i) < s + (r + 1) then gI c (ofp al r (N - 1 - (t + i) - s)) else 0) = gI (dw r i) c
      rw [if_pos (by omega), show N - 1 - (t + i) - s = r - i from by omega, g2 hc (ofp16 al r _)]
      congr 1
      unfold dw dv
      by_cases h0 : i = 0
      · subst h0
        rw [if_pos rfl, Nat.sub_zero, ofp_top]
      · rw [if_neg h0, if_pos (by omega)]
        congr 1
        omega
  rw [h0, f6 _ (vh16 (rv16 hL) N).1]
theorem ad_top {L : Nat → Int} (r s : Nat) (hL : P16 L) : ad1 L (L (s + r)) r s (r + 1) (s + r) = 0 := by
  unfold ad1
  rw [if_pos (by omega), show s + r - s = r from by omega, ofp_top, f8 _ (hL _).1, f7]
/-- The data, laid from the end. -/
def ld (f : Nat → Int) (N i : Nat) : Nat → Int := fun p => if N - i ≤ p ∧ p < N then f (N - 1 - p) else 0
theorem ld16 {f : Nat → Int} (hf : P16 f) (N i : Nat) : P16 (ld f N i) := fun p => by
  unfold ld
  split
  · exact hf _
  · exact z16
theorem ld_step (f : Nat → Int) (N i p : Nat) (hi : i < N) : (if p = N - 1 - i then f i else ld f N i p) = ld f N (i + 1) p := by
  unfold ld
  by_cases h : p = N - 1 - i
  · subst h
    rw [if_pos rfl, if_pos (by omega), show N - 1 - (N - 1 - i) = i from by omega]
  · rw [if_neg h]
    by_cases h2 : N - i ≤ p ∧ p < N
    · rw [if_pos h2, if_pos (by omega)]
    · rw [if_neg h2, if_neg (by omega)]
theorem ld_val {f : Nat → Int} {n N : Nat} (hf : ∀ j, n ≤ j → f j = 0) (hn : n ≤ N) (x : Int) : vh x N (rv N (ld f N n)) = vh x N f := vh_congr x fun i hi => by
  show (if N - n ≤ N - 1 - i ∧ N - 1 - i < N then f (N - 1 - (N - 1 - i)) else 0) = f i
  by_cases h : i < n
  · rw [if_pos (by omega), show N - 1 - (N - 1 - i) = i from by omega]
  · rw [if_neg (by omega), hf i (by omega)]
/-- What is told. -/
def ot (L : Nat → Int) (r k : Nat) : Nat → Int := fun m => if m < k then L (r - 1 - m) else 0
theorem ot16 {L : Nat → Int} (hL : P16 L) (r k : Nat) : P16 (ot L r k) := fun m => by
  unfold ot
  split
  · exact hL _
  · exact z16
theorem ot_out (L : Nat → Int) (r k : Nat) : ∀ j, k ≤ j → ot L r k j = 0 := fun j hj => by unfold ot; rw [if_neg (by omega)]
theorem ot_val {L : Nat → Int} {n r : Nat} (h0 : ∀ p, r ≤ p → p < n + r → L p = 0) (x : Int) : vh x (n + r) (rv (n + r) L) = vh x r (ot L r r) := by
  rw [vh_ahead x n r (f := rv (n + r) L) (fun i hi => h0 (n + r - 1 - i) (by omega) (by omega))]
  refine vh_congr x fun i hi => ?_
  show L (n + r - 1 - (n + i)) = (if i < r then L (r - 1 - i) else 0)
  rw [if_pos hi]
  congr 1
  omega
theorem vals_congr {f g : Nat → Int} {n : Nat} (h : ∀ j, j < n → f j = g j) : vals f n = vals g n := by
  unfold vals
  refine List.map_congr_left fun j hj => ?_
  rw [h j (by simpa using hj)]

end Go.Proofs.Ytfinicoipoleaaa
