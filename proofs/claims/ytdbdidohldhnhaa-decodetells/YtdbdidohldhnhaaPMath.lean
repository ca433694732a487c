/- Polynomials over the field as functions from places to numbers (0 beyond some place): sums, products, shifts, slopes, products of roots, values. Pure arithmetic. -/
import Derived.Test.YtdbdidohldhnhaaNumsP
namespace Go.Proofs.Ytdbdidohldhnhaa
open Go.RowKit Gf

/-- Numbers of 16 bits throughout. -/
def P16 (f : Nat → Int) : Prop := ∀ j, 0 ≤ f j ∧ f j ≤ 65535
/-- The sum. -/
def addp (f g : Nat → Int) : Nat → Int := fun k => xI (f k) (g k)
/-- The product of the first t coefficients of f with g. -/
def pm : Nat → (Nat → Int) → (Nat → Int) → Nat → Int
  | 0, _, _ => fun _ => 0
  | t + 1, f, g => fun k => if k < t then pm t f g k else xI (pm t f g k) (gI (g (k - t)) (f t))
/-- The product. -/
def mulp (f g : Nat → Int) : Nat → Int := fun k => pm (k + 1) f g k
/-- The slope. -/
def slp (f : Nat → Int) : Nat → Int := fun k => if k % 2 = 0 then f (k + 1) else 0
/-- Of roots r 0 .. r (t - 1). -/
def ofp (r : Nat → Int) : Nat → Nat → Int
  | 0 => fun k => if k = 0 then 1 else 0
  | t + 1 => fun k => xI (if k = 0 then 0 else ofp r t (k - 1)) (gI (ofp r t k) (r t))
/-- The value at x of the first n coefficients, from the highest one down. -/
def atp (x : Int) : Nat → (Nat → Int) → Int
  | 0, _ => 0
  | n + 1, f => xI (gI (atp x n (fun j => f (j + 1))) x) (f 0)

theorem z16 : (0 : Int) ≤ 0 ∧ (0 : Int) ≤ 65535 := by decide
theorem x16 {a b : Int} (ha : 0 ≤ a ∧ a ≤ 65535) (hb : 0 ≤ b ∧ b ≤ 65535) : 0 ≤ xI a b ∧ xI a b ≤ 65535 := by
  have := xI_bd a b (by omega) (by omega); omega
theorem g16 {a b : Int} (ha : 0 ≤ a ∧ a ≤ 65535) : 0 ≤ gI a b ∧ gI a b ≤ 65535 := by
  have := gI_bd a b (by omega); omega
theorem addp16 {f g : Nat → Int} (hf : P16 f) (hg : P16 g) : P16 (addp f g) := fun j => x16 (hf j) (hg j)
theorem pm16 {f g : Nat → Int} (hg : P16 g) (t : Nat) : P16 (pm t f g) := by
  induction t with
  | zero => intro j; exact z16
  | succ t ih =>
    intro j
    show 0 ≤ (if j < t then pm t f g j else _) ∧ (if j < t then pm t f g j else _) ≤ 65535
    split
    · exact ih j
    · exact x16 (ih j) (g16 (hg _))
theorem mulp16 {f g : Nat → Int} (hg : P16 g) : P16 (mulp f g) := fun j => pm16 hg (j + 1) j
theorem slp16 {f : Nat → Int} (hf : P16 f) : P16 (slp f) := by
  intro j
  unfold slp
  split
  · exact hf _
  · exact ⟨Int.le_refl _, by decide⟩
theorem ofp16 (r : Nat → Int) (t : Nat) : P16 (ofp r t) := by
  induction t with
  | zero => intro j; show 0 ≤ (if j = 0 then (1 : Int) else 0) ∧ (if j = 0 then (1 : Int) else 0) ≤ 65535; split <;> decide
  | succ t ih =>
    intro j
    show 0 ≤ xI (if j = 0 then 0 else ofp r t (j - 1)) (gI (ofp r t j) (r t)) ∧ xI (if j = 0 then 0 else ofp r t (j - 1)) (gI (ofp r t j) (r t)) ≤ 65535
    refine x16 ?_ (g16 (ih j))
    split
    · exact ⟨Int.le_refl _, by decide⟩
    · exact ih _
theorem atp16 (x : Int) (n : Nat) (f : Nat → Int) (hf : P16 f) : 0 ≤ atp x n f ∧ atp x n f ≤ 65535 := by
  induction n generalizing f with
  | zero => exact z16
  | succ n ih => exact x16 (g16 (ih _ fun j => hf _)) (hf 0)

/-- Coefficients of f that are 0 add nothing. -/
theorem pm_more {f g : Nat → Int} (hg : P16 g) {n : Nat} (hf : ∀ j, n ≤ j → f j = 0) (t : Nat) : pm (n + t) f g = pm n f g := by
  induction t with
  | zero => rfl
  | succ t ih =>
    funext k
    show (if k < n + t then pm (n + t) f g k else xI (pm (n + t) f g k) (gI (g (k - (n + t))) (f (n + t)))) = _
    rw [hf (n + t) (by omega), f9, f6 _ (pm16 hg _ _).1, ih]
    simp
/-- Coefficients of f beyond k do not matter at place k. -/
theorem pm_high (f g : Nat → Int) (k t : Nat) : pm (k + 1 + t) f g k = pm (k + 1) f g k := by
  induction t with
  | zero => rfl
  | succ t ih =>
    show (if k < k + 1 + t then pm (k + 1 + t) f g k else _) = _
    rw [if_pos (by omega), ih]
theorem pm_mulp {f g : Nat → Int} (hg : P16 g) {n : Nat} (hf : ∀ j, n ≤ j → f j = 0) : pm n f g = mulp f g := by
  funext k
  have h1 := congrFun (pm_more hg hf (k + 1)) k
  rw [← h1, show n + (k + 1) = k + 1 + n from by omega, pm_high]
  rfl

end Go.Proofs.Ytdbdidohldhnhaa
