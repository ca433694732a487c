/- The field's own calls: New, Add, Mul and, where a seat has them, Inv, Exp, at a field that is not nil and numbers of 16 bits. Each but New leaves the world as it is; New makes one block. -/
import Derived.Test.YtdbdidohldhnhaaLow
namespace Go.Proofs.Ytdbdidohldhnhaa
open Go.RowKit Gf

set_option maxHeartbeats 400000 in
theorem new_any (w : World) :
    Calls Try.prog 35 #[] w fun e w' => e = .returned (.pointer (some ⟨w.heap.size, 0, none⟩)) ∧ w' = w.alloc (.cells #[] 73) := by
  go_enter Try.func35, Try.ntmps35
  go_wp2
  go_ret
  exact ⟨rfl, rfl⟩

/-- A sum of Go's numbers. -/
def xI (x y : Int) : Int := (x.toNat ^^^ y.toNat : Nat)
theorem xI_bd (x y : Int) (h1 : x < 65536) (h2 : y < 65536) : 0 ≤ xI x y ∧ xI x y < 65536 := by
  unfold xI
  have := xor_lt (a := x.toNat) (b := y.toNat) (k := 16) (by omega) (by omega)
  omega
theorem xI_bits (x y : Int) (hx : 0 ≤ x ∧ x < 65536) (hy : 0 ≤ y ∧ y < 65536) : bits BinOp.xor IntKind.u16 x y = xI x y := u16_xor x y hx.1 hx.2 hy.1 hy.2

set_option maxHeartbeats 400000 in
theorem add_any (f : Addr) (x y : Int) (w : World) (hx : 0 ≤ x ∧ x < 65536) (hy : 0 ≤ y ∧ y < 65536) :
    Calls Try.prog 47 #[.pointer (some f), .int .u16 x, .int .u16 y] w fun e w' => e = .returned (.int .u16 (xI x y)) ∧ w' = w := by
  go_enter Try.func47, Try.ntmps47
  go_wp2
  go_ret
  exact ⟨ret_u16 (xI_bits x y hx hy), rfl⟩

set_option maxHeartbeats 400000 in
theorem mul_any (f : Addr) (x y : Int) (w : World) (hx : 0 ≤ x ∧ x < 65536) (hy : 0 ≤ y ∧ y < 65536) :
    Calls Try.prog 46 #[.pointer (some f), .int .u16 x, .int .u16 y] w fun e w' => e = .returned (.int .u16 (gI x y)) ∧ w' = w := by
  go_enter Try.func46, Try.ntmps46
  go_wp2_with (go_at_call 58; refine (times_any _ _ _ hx hy).mono ?_; rintro e w' ⟨rfl, rfl⟩)
  go_ret
  exact ⟨rfl, rfl⟩

set_option maxHeartbeats 400000 in
theorem inv_any (f : Addr) (x : Int) (w : World) (hx : 0 ≤ x ∧ x < 65536) (h0 : (x == 0) = false) :
    Calls Try.prog 45 #[.pointer (some f), .int .u16 x] w fun e w' => e = .returned (.tuple #[.int .u16 (pI x 65534), .bool true]) ∧ w' = w := by
  go_enter Try.func45, Try.ntmps45
  go_wp2_with (go_at_call 57; refine (power_any _ _ _ hx (by decide)).mono ?_; rintro e w' ⟨rfl, rfl⟩)
  go_ret2
  exact ⟨rfl, rfl⟩

set_option maxHeartbeats 400000 in
theorem inv_zero (f : Addr) (w : World) :
    Calls Try.prog 45 #[.pointer (some f), .int .u16 0] w fun e w' => e = .returned (.tuple #[.int .u16 0, .bool false]) ∧ w' = w := by
  go_enter Try.func45, Try.ntmps45
  go_wp2
  go_ret2
  exact ⟨rfl, rfl⟩

theorem tm_yes (n : Int) (h : 0 ≤ n.tmod 65535) : n.tmod 65535 = n % 65535 := by
  rw [Int.tmod_eq_emod] at h ⊢
  split <;> rename_i hc
  · simp
  · rw [if_neg hc] at h
    have : n % 65535 < 65535 := Int.emod_lt_of_pos _ (by decide)
    simp at h
    omega
theorem tm_no (n : Int) (h : n.tmod 65535 < 0) : n.tmod 65535 + 65535 = n % 65535 := by
  rw [Int.tmod_eq_emod] at h ⊢
  split <;> rename_i hc
  · rw [if_pos hc] at h
    have : 0 ≤ n % 65535 := Int.emod_nonneg _ (by decide)
    omega
  · simp
theorem tm_bd (n : Int) : -65535 < n.tmod 65535 ∧ n.tmod 65535 < 65535 := by
  have h1 : 0 ≤ n % 65535 := Int.emod_nonneg _ (by decide)
  have h2 : n % 65535 < 65535 := Int.emod_lt_of_pos _ (by decide)
  rw [Int.tmod_eq_emod]
  split
  · simp; omega
  · simp
    rename_i hc
    have : n % 65535 ≠ 0 := fun h => hc (Or.inr (Int.dvd_of_emod_eq_zero h))
    omega

set_option maxHeartbeats 400000 in
theorem exp_any (f : Addr) (n : Int) (w : World) :
    Calls Try.prog 51 #[.pointer (some f), .int .i64 n] w fun e w' => e = .returned (.int .u16 (pI 2 (n % 65535))) ∧ w' = w := by
  have hb := tm_bd n
  have h1 : 0 ≤ n % 65535 := Int.emod_nonneg _ (by decide)
  have h2 : n % 65535 < 65535 := Int.emod_lt_of_pos _ (by decide)
  by_cases hneg : n.tmod 65535 < 0
  · go_enter Try.func51, Try.ntmps51
    go_wp2_with fail
    rw [tm_no n hneg]
    refine (power_any _ _ _ (by decide) ⟨h1, by omega⟩).mono ?_
    rintro e w' ⟨rfl, rfl⟩
    go_wp2
    go_ret
    exact ⟨rfl, rfl⟩
  · have hpos : 0 ≤ n.tmod 65535 := by omega
    go_enter Try.func51, Try.ntmps51
    go_wp2_with fail
    rw [tm_yes n hpos]
    refine (power_any _ _ _ (by decide) ⟨h1, by omega⟩).mono ?_
    rintro e w' ⟨rfl, rfl⟩
    go_wp2
    go_ret
    exact ⟨rfl, rfl⟩

end Go.Proofs.Ytdbdidohldhnhaa
