/- The field's laws in the numbers that the calls return: sums, products, powers of numbers of 16 bits. Pure arithmetic; the conditions are the numbers' bounds. -/
import Derived.Test.YtdbdidohldhnhaaMethP
namespace Go.Proofs.Ytdbdidohldhnhaa
open Go.RowKit Gf

theorem bne_no {x y : Int} (h : x = y) : (x != y) = false := by simp [h]
theorem bne_yes {x y : Int} (h : x ≠ y) : (x != y) = true := by simp [h]
theorem beq_yes {x y : Int} (h : x = y) : (x == y) = true := by simp [h]
theorem beq_no {x y : Int} (h : x ≠ y) : (x == y) = false := by simp [h]
theorem f1 (a b : Int) : xI a b = xI b a := by unfold xI; rw [Nat.xor_comm]
theorem f2 (a b : Int) (ha : a ≤ 65535) (hb : b ≤ 65535) : gI a b = gI b a := by unfold gI; rw [gm_comm (by omega) (by omega)]
theorem f3 (a b c : Int) : xI (xI a b) c = xI a (xI b c) := by unfold xI; simp [Nat.xor_assoc]
theorem f4 (a b c : Int) (ha : a ≤ 65535) (hb : b ≤ 65535) : gI (gI a b) c = gI a (gI b c) := by
  unfold gI
  simp [gm_assoc (a := a.toNat) (b := b.toNat) (c := c.toNat) (by omega) (by omega)]
theorem f5 (a b c : Int) : gI a (xI b c) = xI (gI a b) (gI a c) := by unfold gI xI; simp [gm_xor]
theorem f6 (a : Int) (ha : 0 ≤ a) : xI a 0 = a := by unfold xI; simp; omega
theorem f7 (a : Int) : xI a a = 0 := by unfold xI; simp
theorem f8 (a : Int) (ha : 0 ≤ a) : gI a 1 = a := by
  have h : gI a 1 = ((gm a.toNat 1 : Nat) : Int) := rfl
  rw [h, gm_one]; omega
theorem f9 (a : Int) : gI a 0 = 0 := by
  have h : gI a 0 = ((gm a.toNat 0 : Nat) : Int) := rfl
  rw [h, gm_zero]; rfl
theorem f10 (a : Int) (ha : 0 ≤ a ∧ a ≤ 65535) (h0 : a ≠ 0) : gI a (pI a 65534) = 1 := by
  have h : gI a (pI a 65534) = ((gm a.toNat (pw a.toNat 65534) : Nat) : Int) := by unfold gI pI; rfl
  rw [h, gm_inv (by omega) (by omega)]; rfl
theorem f11 (a b : Int) (ha : 0 ≤ a ∧ a ≤ 65535) (hb : 0 ≤ b ∧ b ≤ 65535) (h0 : a ≠ 0) (h1 : b ≠ 0) : gI a b ≠ 0 := by
  unfold gI
  intro h
  have h' : gm a.toNat b.toNat = 0 := by omega
  rcases (gm_eq_zero (by omega) (by omega)).1 h' with h | h <;> omega
theorem f12 (b : Int) : gI 0 b = 0 := by
  have h : gI 0 b = ((gm 0 b.toNat : Nat) : Int) := rfl
  rw [h, zero_gm]; rfl
theorem f13 (a b : Int) (ha : a ≤ 65535) (hb : b ≤ 65535) : gI (xI a b) (xI a b) = xI (gI a a) (gI b b) := by
  unfold gI xI
  simp [sq_xor (a := a.toNat) (b := b.toNat) (by omega) (by omega)]
/-- A product by one inverse takes the number away again. -/
theorem f14 (a c : Int) (ha : 0 ≤ a ∧ a ≤ 65535) (hc : 0 ≤ c ∧ c ≤ 65535) (h0 : a ≠ 0) : gI (pI a 65534) (gI a c) = c := by
  have hp := pI_bd a 65534 (by omega)
  rw [← f4 _ _ _ (by omega) (by omega), f2 (pI a 65534) a (by omega) (by omega), f10 a ha h0, f2 1 c (by omega) (by omega), f8 _ hc.1]
theorem f15 (a b : Int) (ha : 0 ≤ a ∧ a ≤ 65535) (hb : 0 ≤ b ∧ b ≤ 65535) (h0 : a ≠ 0) : gI a (gI b (pI a 65534)) = b := by
  have hp := pI_bd a 65534 (by omega)
  rw [f2 b _ (by omega) (by omega), ← f4 _ _ _ (by omega) (by omega), f10 a ha h0, f2 1 b (by omega) (by omega), f8 _ hb.1]
theorem f16 (a b c : Int) (ha : 0 ≤ a ∧ a ≤ 65535) (hb : 0 ≤ b ∧ b ≤ 65535) (hc : 0 ≤ c ∧ c ≤ 65535) (h0 : a ≠ 0) : gI a c = b ↔ c = gI b (pI a 65534) := by
  have hp := pI_bd a 65534 (by omega)
  constructor
  · intro h
    rw [← h, f2 _ (pI a 65534) (by have := gI_bd a c (by omega); omega) (by omega), f14 a c ha hc h0]
  · intro h
    rw [h, f15 a b ha hb h0]
theorem f17 (a b : Int) (ha : 0 ≤ a ∧ a ≤ 65535) (hb : 0 ≤ b ∧ b ≤ 65535) : pI (gI a b) 65534 = gI (pI a 65534) (pI b 65534) := by
  have h : pI (gI a b) 65534 = ((pw (gm a.toNat b.toNat) 65534 : Nat) : Int) := by unfold gI pI; rfl
  have h' : gI (pI a 65534) (pI b 65534) = ((gm (pw a.toNat 65534) (pw b.toNat 65534) : Nat) : Int) := by unfold gI pI; rfl
  rw [h, h', pw_gm (by omega) (by omega)]
theorem f18 (a : Int) (ha : 0 ≤ a ∧ a ≤ 65535) (h0 : a ≠ 0) : pI (pI a 65534) 65534 = a := by
  have hp := pI_bd a 65534 (by omega)
  have h1 : pI a 65534 ≠ 0 := by
    intro h
    have := f10 a ha h0
    rw [h, f9] at this
    cases this
  have h2 := f10 (pI a 65534) (by omega) h1
  have h3 := f10 a ha h0
  have h4 := f14 (pI a 65534) a (by omega) ha h1
  rw [f2 (pI a 65534) a (by omega) (by omega), h3, f8 _ (by have := pI_bd (pI a 65534) 65534 (by omega); omega)] at h4
  exact h4
theorem f19 (a : Int) (ha : 0 ≤ a ∧ a ≤ 65535) (h0 : a ≠ 0) : pI a 65534 ≠ 0 := by
  intro h
  have := f10 a ha h0
  rw [h, f9] at this
  cases this

end Go.Proofs.Ytdbdidohldhnhaa
