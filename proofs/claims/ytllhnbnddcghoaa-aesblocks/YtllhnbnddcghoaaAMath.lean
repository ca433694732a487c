/- AES-256 in plain bytes: products in the small field, stand-ins, blocks of 16 bytes as rows, rounds and what undoes them, a key's words. No condition but lengths: pure arithmetic on bytes and lists. -/
import Derived.Test.YtllhnbnddcghoaaBMath
namespace Go.Proofs.Ytllhnbnddcghoaa.Bk
set_option linter.unusedVariables false
set_option linter.unusedSimpArgs false

/-- A byte of a row. -/
def gy (l : List UInt8) (j : Nat) : UInt8 := l.getD j 0
theorem gy_nat (l : List UInt8) (j : Nat) : (gy l j).toNat = by' l j := rfl
theorem u8_eq {a b : UInt8} (h : a.toNat = b.toNat) : a = b := UInt8.toNat_inj.1 h
theorem u8_of (x : UInt8) : UInt8.ofNat x.toNat = x := UInt8.ofNat_toNat

/-- Twice, and a product, in the small field. -/
def dbl (a : Nat) : Nat := (a * 2 % 256) ^^^ (a / 128 * 27)
theorem x8_lt {a b : Nat} (h : a < 256) (k : b < 256) : a ^^^ b < 256 := Nat.xor_lt_two_pow (n := 8) h k
theorem dbl_lt {a : Nat} (h : a < 256) : dbl a < 256 := x8_lt (Nat.mod_lt _ (by decide)) (by omega)
def prN : Nat → Nat → Nat → Nat → Nat
  | 0, s, _, _ => s
  | k + 1, s, a, b => prN k (s ^^^ a * (b % 2)) (dbl a) (b / 2)
theorem prN_none : ∀ (k s a : Nat), prN k s a 0 = s
  | 0, _, _ => rfl
  | k + 1, s, a => by
    show prN k (s ^^^ a * (0 % 2)) (dbl a) (0 / 2) = s
    rw [Nat.zero_mod, Nat.mul_zero, Nat.xor_zero, Nat.zero_div]
    exact prN_none k s _
theorem mul_bit_lt {a : Nat} (h : a < 256) (b : Nat) : a * (b % 2) < 256 := by
  rcases Nat.mod_two_eq_zero_or_one b with e | e <;> rw [e] <;> omega
theorem prN_lt : ∀ (k s a b : Nat), s < 256 → a < 256 → prN k s a b < 256
  | 0, _, _, _, h, _ => h
  | k + 1, _, _, b, h, h2 => prN_lt k _ _ _ (x8_lt h (mul_bit_lt h2 b)) (dbl_lt h2)
def pr (a b : Nat) : Nat := prN 8 0 a b
theorem pr_lt {a : Nat} (h : a < 256) (b : Nat) : pr a b < 256 := prN_lt 8 0 a b (by decide) h
def mu (a b : UInt8) : UInt8 := UInt8.ofNat (pr a.toNat b.toNat)
theorem mu_nat (a b : UInt8) : (mu a b).toNat = pr a.toNat b.toNat := UInt8.toNat_ofNat_of_lt' (pr_lt (UInt8.toNat_lt a) _)

theorem xor4 (a b c d : Nat) : (a ^^^ b) ^^^ (c ^^^ d) = (a ^^^ c) ^^^ (b ^^^ d) := by
  rw [Nat.xor_assoc, Nat.xor_assoc, ← Nat.xor_assoc b c d, Nat.xor_comm b c, Nat.xor_assoc c b d]
theorem dbl_xor (a b : Nat) (ha : a < 256) (hb : b < 256) : dbl (a ^^^ b) = dbl a ^^^ dbl b := by
  unfold dbl
  rw [xor4]
  congr 1
  · rw [show a * 2 = a <<< 1 by rw [Nat.shiftLeft_eq], show b * 2 = b <<< 1 by rw [Nat.shiftLeft_eq], show (a ^^^ b) * 2 = (a ^^^ b) <<< 1 by rw [Nat.shiftLeft_eq], Nat.shiftLeft_xor_distrib]
    exact Nat.xor_mod_two_pow (n := 8)
  · have h7 : (a ^^^ b) / 128 = a / 128 ^^^ b / 128 := by
      rw [show (a ^^^ b) / 128 = (a ^^^ b) >>> 7 by rw [Nat.shiftRight_eq_div_pow], Nat.shiftRight_xor_distrib, Nat.shiftRight_eq_div_pow, Nat.shiftRight_eq_div_pow]
    rw [h7]
    have e1 : a / 128 = 0 ∨ a / 128 = 1 := by omega
    have e2 : b / 128 = 0 ∨ b / 128 = 1 := by omega
    rcases e1 with e1 | e1 <;> rcases e2 with e2 | e2 <;> rw [e1, e2] <;> decide
theorem mul_bit_xor (a a' b : Nat) : (a ^^^ a') * (b % 2) = a * (b % 2) ^^^ a' * (b % 2) := by
  rcases Nat.mod_two_eq_zero_or_one b with e | e <;> rw [e] <;> simp
theorem prN_xor : ∀ (k s s' a a' b : Nat), a < 256 → a' < 256 → prN k (s ^^^ s') (a ^^^ a') b = prN k s a b ^^^ prN k s' a' b
  | 0, _, _, _, _, _, _, _ => rfl
  | k + 1, s, s', a, a', b, h, h' => by
    show prN k ((s ^^^ s') ^^^ (a ^^^ a') * (b % 2)) (dbl (a ^^^ a')) (b / 2) = prN k (s ^^^ a * (b % 2)) (dbl a) (b / 2) ^^^ prN k (s' ^^^ a' * (b % 2)) (dbl a') (b / 2)
    rw [mul_bit_xor, xor4, dbl_xor a a' h h']
    exact prN_xor k _ _ _ _ _ (dbl_lt h) (dbl_lt h')
theorem mu_xor (a b f : UInt8) : mu (a ^^^ b) f = mu a f ^^^ mu b f := by
  apply u8_eq
  rw [UInt8.toNat_xor, mu_nat, mu_nat, mu_nat, UInt8.toNat_xor]
  exact prN_xor 8 0 0 _ _ _ (UInt8.toNat_lt a) (UInt8.toNat_lt b)

/-- What is closed over all bytes. -/
theorem all256 {p : Nat → Bool} (h : (List.range 256).all p = true) {x : Nat} (hx : x < 256) : p x = true := by
  rw [List.all_eq_true] at h
  exact h x (List.mem_range.2 hx)

/-- Four products put together: of a column x0 .. x3 by factors f0 .. f3. -/
def dot (x0 x1 x2 x3 f0 f1 f2 f3 : UInt8) : UInt8 := (((0 ^^^ mu x0 f0) ^^^ mu x1 f1) ^^^ mu x2 f2) ^^^ mu x3 f3
def back4 (e0 e1 e2 e3 d0 d1 d2 d3 x : Nat) : Nat := ((pr (pr x e0) d0 ^^^ pr (pr x e1) d1) ^^^ pr (pr x e2) d2) ^^^ pr (pr x e3) d3
theorem b_ed0 (x : Nat) (h : x < 256) : back4 2 1 1 3 14 11 13 9 x = x := of_decide_eq_true (all256 (p := fun x => decide (back4 2 1 1 3 14 11 13 9 x = x)) (by decide +kernel) h)
theorem b_ed1 (x : Nat) (h : x < 256) : back4 3 2 1 1 14 11 13 9 x = 0 := of_decide_eq_true (all256 (p := fun x => decide (back4 3 2 1 1 14 11 13 9 x = 0)) (by decide +kernel) h)
theorem b_ed2 (x : Nat) (h : x < 256) : back4 1 3 2 1 14 11 13 9 x = 0 := of_decide_eq_true (all256 (p := fun x => decide (back4 1 3 2 1 14 11 13 9 x = 0)) (by decide +kernel) h)
theorem b_ed3 (x : Nat) (h : x < 256) : back4 1 1 3 2 14 11 13 9 x = 0 := of_decide_eq_true (all256 (p := fun x => decide (back4 1 1 3 2 14 11 13 9 x = 0)) (by decide +kernel) h)
theorem b_de0 (x : Nat) (h : x < 256) : back4 14 9 13 11 2 3 1 1 x = x := of_decide_eq_true (all256 (p := fun x => decide (back4 14 9 13 11 2 3 1 1 x = x)) (by decide +kernel) h)
theorem b_de1 (x : Nat) (h : x < 256) : back4 11 14 9 13 2 3 1 1 x = 0 := of_decide_eq_true (all256 (p := fun x => decide (back4 11 14 9 13 2 3 1 1 x = 0)) (by decide +kernel) h)
theorem b_de2 (x : Nat) (h : x < 256) : back4 13 11 14 9 2 3 1 1 x = 0 := of_decide_eq_true (all256 (p := fun x => decide (back4 13 11 14 9 2 3 1 1 x = 0)) (by decide +kernel) h)
theorem b_de3 (x : Nat) (h : x < 256) : back4 9 13 11 14 2 3 1 1 x = 0 := of_decide_eq_true (all256 (p := fun x => decide (back4 9 13 11 14 2 3 1 1 x = 0)) (by decide +kernel) h)
end Go.Proofs.Ytllhnbnddcghoaa.Bk
