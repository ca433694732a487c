/- The document's roots, mirrored: digits of 16 bits, products, comparisons, with every wrap; their bits, evaluated. No condition: pure arithmetic on Nat and lists. -/
import Derived.Test.YtdcmjmmfclhfbaaSMath
namespace Go.Proofs.Ytdcmjmmfclhfbaa.Bk

def w64 (x : Nat) : Nat := x % 18446744073709551616
def dgs (n : Nat) : List Nat := [n % 65536, n / 65536 % 65536, n / 65536 / 65536 % 65536, n / 65536 / 65536 / 65536]
/-- One digit by the first k of others, taken in from place i on; the carry. -/
def tmK (x : Nat) (b : List Nat) (i : Nat) (out : List Nat) : Nat → List Nat × Nat
  | 0 => (out, 0)
  | k + 1 =>
    let s := tmK x b i out k
    let v := w64 (w64 (at' s.1 (i + k) + w64 (x * at' b k)) + s.2)
    (s.1.set (i + k) (v % 65536), v / 65536)
def tmI (a b : List Nat) : Nat → List Nat
  | 0 => List.replicate (a.length + b.length) 0
  | i + 1 =>
    let s := tmK (at' a i) b i (tmI a b i) b.length
    s.1.set (i + b.length) s.2
def tms (a b : List Nat) : List Nat := tmI a b a.length
/-- The digit that is wanted at a place; are the first j digits at most those? -/
def wnt (p n j : Nat) : Nat := if n ≤ j ∧ j < n + 4 then at' (dgs p) (j - n) else 0
def wth (a : List Nat) (p n : Nat) : Nat → Bool
  | 0 => true
  | j + 1 => if at' a j = wnt p n j then wth a p n j else decide (at' a j < wnt p n j)
def wtn (a : List Nat) (p n : Nat) : Bool := wth a p n a.length
def sqW (p n : Nat) : Bool := wtn (tms (dgs n) (dgs n)) p 4
def cbW (p n : Nat) : Bool := wtn (tms (tms (dgs n) (dgs n)) (dgs n)) p 6
/-- The bits below bit k, one by one. -/
def rtb (f : Nat → Bool) : Nat → Nat → Nat
  | 0, x => x
  | k + 1, x => rtb f k (if f (x + 2 ^ k) then x + 2 ^ k else x)
def rts (f : Nat → Bool) : Nat := rtb f 37 0 % 4294967296
theorem tms_length (a b : List Nat) : (tms a b).length = a.length + b.length := by
  have h2 : ∀ x i out k, (tmK x b i out k).1.length = out.length := fun x i out k => by
    induction k with
    | zero => rfl
    | succ k ih => show (List.set _ _ _).length = _; rw [List.length_set, ih]
  have h : ∀ i, (tmI a b i).length = a.length + b.length := fun i => by
    induction i with
    | zero => show (List.replicate _ _).length = _; rw [List.length_replicate]
    | succ i ih => show (List.set _ _ _).length = _; rw [List.length_set, h2, ih]
  exact h _
theorem tmI_length (a b : List Nat) (i : Nat) : (tmI a b i).length = a.length + b.length := by
  have h2 : ∀ x i out k, (tmK x b i out k).1.length = out.length := fun x i out k => by
    induction k with
    | zero => rfl
    | succ k ih => show (List.set _ _ _).length = _; rw [List.length_set, ih]
  induction i with
  | zero => show (List.replicate _ _).length = _; rw [List.length_replicate]
  | succ i ih => show (List.set _ _ _).length = _; rw [List.length_set, h2, ih]
theorem tmK_length (x : Nat) (b : List Nat) (i : Nat) (out : List Nat) (k : Nat) : (tmK x b i out k).1.length = out.length := by
  induction k with
  | zero => rfl
  | succ k ih => show (List.set _ _ _).length = _; rw [List.length_set, ih]
theorem dgs_length (n : Nat) : (dgs n).length = 4 := rfl
theorem w64_lt (x : Nat) : w64 x < 18446744073709551616 := Nat.mod_lt _ (by decide)
end Go.Proofs.Ytdcmjmmfclhfbaa.Bk
