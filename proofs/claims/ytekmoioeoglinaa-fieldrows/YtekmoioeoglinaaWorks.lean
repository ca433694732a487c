/- What each statement asks first: works() returns true, and changes nothing old. No condition. -/
import Derived.Test.YtekmoioeoglinaaLogs
namespace Go.Proofs.Ytekmoioeoglinaa
open Go.RowKit Go.Maps Gf

theorem w1 : gI 2 32768 = 4107 := by decide +kernel
theorem w2 : pI 2 (16 % 65535) = 4107 := by decide +kernel
theorem w3 : xI 5 3 = 6 := by decide +kernel
theorem pw_succ (a n : Nat) : pw a (n + 1) = gm (pw a n) a := rfl
theorem w4 : gI (pI 2 65534) 2 = 1 := by
  have h1 : pI 2 65534 = ((pw 2 65534 : Nat) : Int) := pI_nat 2 65534
  have h2 : gI ((pw 2 65534 : Nat) : Int) 2 = ((gm (pw 2 65534) 2 : Nat) : Int) := gI_nat (pw 2 65534) 2
  have h3 : gm (pw 2 65534) 2 = 1 := (pw_succ 2 65534).symm.trans ord_one
  rw [h1, h2, h3]
  rfl
theorem w5 : Hid (((pw 2 16 : Nat) : Int) = 4107) := by
  unfold Hid
  decide +kernel

theorem mul_w1 (f : Addr) (w : World) : Calls Try.prog 12 #[.pointer (some f), .int .u16 2, .int .u16 32768] w fun e w' => e = .returned (.int .u16 4107) ∧ w' = w := by
  have h := mul_any f 2 32768 w (by decide) (by decide)
  rw [w1] at h
  exact h
theorem exp_w2 (f : Addr) (w : World) : Calls Try.prog 11 #[.pointer (some f), .int .i64 16] w fun e w' => e = .returned (.int .u16 4107) ∧ w' = w := by
  have h := exp_any f 16 w
  rw [w2] at h
  exact h
theorem add_w3 (f : Addr) (w : World) : Calls Try.prog 17 #[.pointer (some f), .int .u16 5, .int .u16 3] w fun e w' => e = .returned (.int .u16 6) ∧ w' = w := by
  have h := add_any f 5 3 w (by decide) (by decide)
  rw [w3] at h
  exact h
theorem mul_w4 (f : Addr) (w : World) : Calls Try.prog 12 #[.pointer (some f), .int .u16 (pI 2 65534), .int .u16 2] w fun e w' => e = .returned (.int .u16 1) ∧ w' = w := by
  have h := mul_any f (pI 2 65534) 2 w (pI_bd _ _ (by decide)) (by decide)
  rw [w4] at h
  exact h

set_option maxRecDepth 100000 in
set_option maxHeartbeats 1000000 in
theorem works_any (w : World) :
    Calls Try.prog 14 #[] w fun e w' => e = .returned (.bool true) ∧ Below w.heap.size w w' := by
  go_enter Try.func14, Try.ntmps14
  go_wp2_with fail
  refine (new_any _).mono ?_
  rintro e w1 ⟨rfl, rfl⟩
  go_wp2_with fail
  refine (log_any _ _ 16 _ (by decide) w5 (by decide)).mono ?_
  rintro e w1 ⟨rfl, hbl⟩
  go_wp2_with fail
  refine (inv_zero _ _).mono ?_
  rintro e w' ⟨rfl, rfl⟩
  go_wp2_with fail
  refine (mul_w1 _ _).mono ?_
  rintro e w' ⟨rfl, rfl⟩
  go_wp2_with fail
  refine (exp_w2 _ _).mono ?_
  rintro e w' ⟨rfl, rfl⟩
  go_wp2_with fail
  refine (add_w3 _ _).mono ?_
  rintro e w' ⟨rfl, rfl⟩
  go_wp2_with fail
  refine (exp_any _ _ _).mono ?_
  rintro e w' ⟨rfl, rfl⟩
  go_wp2_with fail
  refine (mul_w4 _ _).mono ?_
  rintro e w' ⟨rfl, rfl⟩
  go_wp2
  go_ret
  exact ⟨rfl, ((Below.refl _ _).alloc (Nat.le_refl _) _).trans (hbl.mono (by simp))⟩

end Go.Proofs.Ytekmoioeoglinaa
