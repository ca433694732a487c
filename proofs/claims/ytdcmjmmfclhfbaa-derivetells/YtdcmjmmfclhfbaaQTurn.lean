/- The document's turn of bits, walked. For numbers of 32 bits and the ten turns: the call returns what the plain numbers of SMath say, and leaves the world as it is. -/
import Derived.Test.YtdcmjmmfclhfbaaSLow
namespace Go.Proofs.Ytdcmjmmfclhfbaa
open Go.RowKit Bk
set_option linter.unusedVariables false

theorem qor_rr (p q x : Nat) (hx : x < 4294967296) : bits .or .u32 ((x : Int) / (q : Int)) ((x : Int) * (p : Int) % 4294967296) = ((rr p q x : Nat) : Int) := by
  have e1 : (x : Int) / (q : Int) = ((x / q : Nat) : Int) := by simp
  have e2 : (x : Int) * (p : Int) % 4294967296 = ((x * p % 4294967296 : Nat) : Int) := by simp
  rw [e1, e2, u32_or_nat _ _ (Nat.lt_of_le_of_lt (Nat.div_le_self _ _) hx) (Nat.mod_lt _ (by decide))]
  unfold rr
  rw [Nat.or_comm]
set_option maxRecDepth 100000 in
set_option maxHeartbeats 4000000 in
theorem qturn2e {x a : Nat} (w : World) (hx : x < 4294967296) (e : tu 2 x = a) : Calls Try.prog 41 #[.int .u32 (x : Int), .int .u32 2] w fun e w' => e = .returned (.int .u32 (a : Nat)) ∧ w' = w := by
  have h := qor_rr 1073741824 4 x hx
  have h2 : rr 1073741824 4 x = a := e
  rw [h2] at h
  clear h2 e
  go_enter Try.func41, Try.ntmps41
  go_wp2
  go_ret
  exact ⟨ret_u32 h, rfl⟩
set_option maxRecDepth 100000 in
set_option maxHeartbeats 4000000 in
theorem qturn6e {x a : Nat} (w : World) (hx : x < 4294967296) (e : tu 6 x = a) : Calls Try.prog 41 #[.int .u32 (x : Int), .int .u32 6] w fun e w' => e = .returned (.int .u32 (a : Nat)) ∧ w' = w := by
  have h := qor_rr 67108864 64 x hx
  have h2 : rr 67108864 64 x = a := e
  rw [h2] at h
  clear h2 e
  go_enter Try.func41, Try.ntmps41
  go_wp2
  go_ret
  exact ⟨ret_u32 h, rfl⟩
set_option maxRecDepth 100000 in
set_option maxHeartbeats 4000000 in
theorem qturn7e {x a : Nat} (w : World) (hx : x < 4294967296) (e : tu 7 x = a) : Calls Try.prog 41 #[.int .u32 (x : Int), .int .u32 7] w fun e w' => e = .returned (.int .u32 (a : Nat)) ∧ w' = w := by
  have h := qor_rr 33554432 128 x hx
  have h2 : rr 33554432 128 x = a := e
  rw [h2] at h
  clear h2 e
  go_enter Try.func41, Try.ntmps41
  go_wp2
  go_ret
  exact ⟨ret_u32 h, rfl⟩
set_option maxRecDepth 100000 in
set_option maxHeartbeats 4000000 in
theorem qturn11e {x a : Nat} (w : World) (hx : x < 4294967296) (e : tu 11 x = a) : Calls Try.prog 41 #[.int .u32 (x : Int), .int .u32 11] w fun e w' => e = .returned (.int .u32 (a : Nat)) ∧ w' = w := by
  have h := qor_rr 2097152 2048 x hx
  have h2 : rr 2097152 2048 x = a := e
  rw [h2] at h
  clear h2 e
  go_enter Try.func41, Try.ntmps41
  go_wp2
  go_ret
  exact ⟨ret_u32 h, rfl⟩
set_option maxRecDepth 100000 in
set_option maxHeartbeats 4000000 in
theorem qturn13e {x a : Nat} (w : World) (hx : x < 4294967296) (e : tu 13 x = a) : Calls Try.prog 41 #[.int .u32 (x : Int), .int .u32 13] w fun e w' => e = .returned (.int .u32 (a : Nat)) ∧ w' = w := by
  have h := qor_rr 524288 8192 x hx
  have h2 : rr 524288 8192 x = a := e
  rw [h2] at h
  clear h2 e
  go_enter Try.func41, Try.ntmps41
  go_wp2
  go_ret
  exact ⟨ret_u32 h, rfl⟩
set_option maxRecDepth 100000 in
set_option maxHeartbeats 4000000 in
theorem qturn17e {x a : Nat} (w : World) (hx : x < 4294967296) (e : tu 17 x = a) : Calls Try.prog 41 #[.int .u32 (x : Int), .int .u32 17] w fun e w' => e = .returned (.int .u32 (a : Nat)) ∧ w' = w := by
  have h := qor_rr 32768 131072 x hx
  have h2 : rr 32768 131072 x = a := e
  rw [h2] at h
  clear h2 e
  go_enter Try.func41, Try.ntmps41
  go_wp2
  go_ret
  exact ⟨ret_u32 h, rfl⟩
set_option maxRecDepth 100000 in
set_option maxHeartbeats 4000000 in
theorem qturn18e {x a : Nat} (w : World) (hx : x < 4294967296) (e : tu 18 x = a) : Calls Try.prog 41 #[.int .u32 (x : Int), .int .u32 18] w fun e w' => e = .returned (.int .u32 (a : Nat)) ∧ w' = w := by
  have h := qor_rr 16384 262144 x hx
  have h2 : rr 16384 262144 x = a := e
  rw [h2] at h
  clear h2 e
  go_enter Try.func41, Try.ntmps41
  go_wp2
  go_ret
  exact ⟨ret_u32 h, rfl⟩
set_option maxRecDepth 100000 in
set_option maxHeartbeats 4000000 in
theorem qturn19e {x a : Nat} (w : World) (hx : x < 4294967296) (e : tu 19 x = a) : Calls Try.prog 41 #[.int .u32 (x : Int), .int .u32 19] w fun e w' => e = .returned (.int .u32 (a : Nat)) ∧ w' = w := by
  have h := qor_rr 8192 524288 x hx
  have h2 : rr 8192 524288 x = a := e
  rw [h2] at h
  clear h2 e
  go_enter Try.func41, Try.ntmps41
  go_wp2
  go_ret
  exact ⟨ret_u32 h, rfl⟩
set_option maxRecDepth 100000 in
set_option maxHeartbeats 4000000 in
theorem qturn22e {x a : Nat} (w : World) (hx : x < 4294967296) (e : tu 22 x = a) : Calls Try.prog 41 #[.int .u32 (x : Int), .int .u32 22] w fun e w' => e = .returned (.int .u32 (a : Nat)) ∧ w' = w := by
  have h := qor_rr 1024 4194304 x hx
  have h2 : rr 1024 4194304 x = a := e
  rw [h2] at h
  clear h2 e
  go_enter Try.func41, Try.ntmps41
  go_wp2
  go_ret
  exact ⟨ret_u32 h, rfl⟩
set_option maxRecDepth 100000 in
set_option maxHeartbeats 4000000 in
theorem qturn25e {x a : Nat} (w : World) (hx : x < 4294967296) (e : tu 25 x = a) : Calls Try.prog 41 #[.int .u32 (x : Int), .int .u32 25] w fun e w' => e = .returned (.int .u32 (a : Nat)) ∧ w' = w := by
  have h := qor_rr 128 33554432 x hx
  have h2 : rr 128 33554432 x = a := e
  rw [h2] at h
  clear h2 e
  go_enter Try.func41, Try.ntmps41
  go_wp2
  go_ret
  exact ⟨ret_u32 h, rfl⟩
end Go.Proofs.Ytdcmjmmfclhfbaa
