/- The field's own calls: New, Add, Mul, Inv, at a field that is not nil and numbers of 16 bits. Each but New leaves the world as it is; New makes one block. -/
import Derived.Test.YtnbbenhiampknaaLow
namespace Go.Proofs.Ytnbbenhiampknaa
open Go.RowKit Gf

set_option maxHeartbeats 400000 in
theorem new_any (w : World) :
    Calls Try.prog 28 #[] w fun e w' => e = .returned (.pointer (some ⟨w.heap.size, 0, none⟩)) ∧ w' = w.alloc (.cells #[] 46) := by
  go_enter Try.func28, Try.ntmps28
  go_wp2
  go_ret
  exact ⟨rfl, rfl⟩

/-- A sum of Go's numbers. -/
def xI (x y : Int) : Int := (x.toNat ^^^ y.toNat : Nat)
theorem xI_bd (x y : Int) (h1 : x < 65536) (h2 : y < 65536) : 0 ≤ xI x y ∧ xI x y < 65536 := by
  unfold xI
  have := xor_lt (a := x.toNat) (b := y.toNat) (k := 16) (by omega) (by omega)
  omega
theorem xI_bits (x y : Int) (hx : 0 ≤ x ∧ x < 65536) (hy : 0 ≤ y ∧ y < 65536) : bits BinOp.xor IntKind.u16 x y = xI x y := u16_xor x y hx.1 hx.2 hy.1 hy.2

set_option maxHeartbeats 400000 in
theorem add_any (f : Addr) (x y : Int) (w : World) (hx : 0 ≤ x ∧ x < 65536) (hy : 0 ≤ y ∧ y < 65536) :
    Calls Try.prog 33 #[.pointer (some f), .int .u16 x, .int .u16 y] w fun e w' => e = .returned (.int .u16 (xI x y)) ∧ w' = w := by
  go_enter Try.func33, Try.ntmps33
  go_wp2
  go_ret
  exact ⟨ret_u16 (xI_bits x y hx hy), rfl⟩

set_option maxHeartbeats 400000 in
theorem mul_any (f : Addr) (x y : Int) (w : World) (hx : 0 ≤ x ∧ x < 65536) (hy : 0 ≤ y ∧ y < 65536) :
    Calls Try.prog 31 #[.pointer (some f), .int .u16 x, .int .u16 y] w fun e w' => e = .returned (.int .u16 (gI x y)) ∧ w' = w := by
  go_enter Try.func31, Try.ntmps31
  go_wp2_with (go_at_call 39; refine (times_any _ _ _ hx hy).mono ?_; rintro e w' ⟨rfl, rfl⟩)
  go_ret
  exact ⟨rfl, rfl⟩

set_option maxHeartbeats 400000 in
theorem inv_any (f : Addr) (x : Int) (w : World) (hx : 0 ≤ x ∧ x < 65536) (h0 : (x == 0) = false) :
    Calls Try.prog 29 #[.pointer (some f), .int .u16 x] w fun e w' => e = .returned (.tuple #[.int .u16 (pI x 65534), .bool true]) ∧ w' = w := by
  go_enter Try.func29, Try.ntmps29
  go_wp2_with (go_at_call 37; refine (power_any _ _ _ hx (by decide)).mono ?_; rintro e w' ⟨rfl, rfl⟩)
  go_ret2
  exact ⟨rfl, rfl⟩

set_option maxHeartbeats 400000 in
theorem inv_zero (f : Addr) (w : World) :
    Calls Try.prog 29 #[.pointer (some f), .int .u16 0] w fun e w' => e = .returned (.tuple #[.int .u16 0, .bool false]) ∧ w' = w := by
  go_enter Try.func29, Try.ntmps29
  go_wp2
  go_ret2
  exact ⟨rfl, rfl⟩

end Go.Proofs.Ytnbbenhiampknaa
