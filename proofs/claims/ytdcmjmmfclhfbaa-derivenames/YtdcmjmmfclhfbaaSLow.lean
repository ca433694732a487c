/- The turns of bits of SHA-256, walked; how a number, a sum and an exclusive or are spelled. For numbers of 32 bits: each call returns what the plain numbers of SMath say, and leaves the world as it is. -/
import Derived.Test.YtdcmjmmfclhfbaaBLow
import Derived.Test.YtdcmjmmfclhfbaaSMath
namespace Go.Proofs.Ytdcmjmmfclhfbaa
open Go.RowKit Bk
set_option linter.unusedVariables false

theorem an_int {p q : Nat} (hp : p < 4294967296) (hq : q < 4294967296) : bits .and .u32 (p : Int) (q : Int) = ((p &&& q : Nat) : Int) := u32_and_nat p q hp hq

theorem wt2 : bits BinOp.and IntKind.u64 (IntKind.u64.wrap (-2)) 31 = 30 := by decide
theorem tu2 (x : Nat) : rr 1073741824 4 x = tu 2 x := rfl
set_option maxHeartbeats 400000 in
theorem srotl2 (x : Nat) (w : World) (hx : x < 4294967296) :
    Calls Try.prog 55 #[.int .u32 x, .int .i64 (-2)] w fun e w' => e = .returned (.int .u32 (tu 2 x : Nat)) ∧ w' = w := by
  have h := wt2
  go_enter Try.func55, Try.ntmps55
  go_wp2
  go_ret
  rw [← tu2]
  exact ⟨ret_u32 (or_rr 1073741824 4 x hx), rfl⟩
theorem sturn2 (x : Nat) (w : World) (hx : x < 4294967296) :
    Calls Try.prog 47 #[.int .u32 x, .int .i64 2] w fun e w' => e = .returned (.int .u32 (tu 2 x : Nat)) ∧ w' = w := by
  go_enter Try.func47, Try.ntmps47
  go_wp2_with fail
  refine (srotl2 x _ hx).mono ?_
  rintro e w' ⟨rfl, rfl⟩
  go_wp2
  go_ret
  exact ⟨rfl, rfl⟩

theorem wt6 : bits BinOp.and IntKind.u64 (IntKind.u64.wrap (-6)) 31 = 26 := by decide
theorem tu6 (x : Nat) : rr 67108864 64 x = tu 6 x := rfl
set_option maxHeartbeats 400000 in
theorem srotl6 (x : Nat) (w : World) (hx : x < 4294967296) :
    Calls Try.prog 55 #[.int .u32 x, .int .i64 (-6)] w fun e w' => e = .returned (.int .u32 (tu 6 x : Nat)) ∧ w' = w := by
  have h := wt6
  go_enter Try.func55, Try.ntmps55
  go_wp2
  go_ret
  rw [← tu6]
  exact ⟨ret_u32 (or_rr 67108864 64 x hx), rfl⟩
theorem sturn6 (x : Nat) (w : World) (hx : x < 4294967296) :
    Calls Try.prog 47 #[.int .u32 x, .int .i64 6] w fun e w' => e = .returned (.int .u32 (tu 6 x : Nat)) ∧ w' = w := by
  go_enter Try.func47, Try.ntmps47
  go_wp2_with fail
  refine (srotl6 x _ hx).mono ?_
  rintro e w' ⟨rfl, rfl⟩
  go_wp2
  go_ret
  exact ⟨rfl, rfl⟩

theorem wt7 : bits BinOp.and IntKind.u64 (IntKind.u64.wrap (-7)) 31 = 25 := by decide
theorem tu7 (x : Nat) : rr 33554432 128 x = tu 7 x := rfl
set_option maxHeartbeats 400000 in
theorem srotl7 (x : Nat) (w : World) (hx : x < 4294967296) :
    Calls Try.prog 55 #[.int .u32 x, .int .i64 (-7)] w fun e w' => e = .returned (.int .u32 (tu 7 x : Nat)) ∧ w' = w := by
  have h := wt7
  go_enter Try.func55, Try.ntmps55
  go_wp2
  go_ret
  rw [← tu7]
  exact ⟨ret_u32 (or_rr 33554432 128 x hx), rfl⟩
theorem sturn7 (x : Nat) (w : World) (hx : x < 4294967296) :
    Calls Try.prog 47 #[.int .u32 x, .int .i64 7] w fun e w' => e = .returned (.int .u32 (tu 7 x : Nat)) ∧ w' = w := by
  go_enter Try.func47, Try.ntmps47
  go_wp2_with fail
  refine (srotl7 x _ hx).mono ?_
  rintro e w' ⟨rfl, rfl⟩
  go_wp2
  go_ret
  exact ⟨rfl, rfl⟩

theorem wt11 : bits BinOp.and IntKind.u64 (IntKind.u64.wrap (-11)) 31 = 21 := by decide
theorem tu11 (x : Nat) : rr 2097152 2048 x = tu 11 x := rfl
set_option maxHeartbeats 400000 in
theorem srotl11 (x : Nat) (w : World) (hx : x < 4294967296) :
    Calls Try.prog 55 #[.int .u32 x, .int .i64 (-11)] w fun e w' => e = .returned (.int .u32 (tu 11 x : Nat)) ∧ w' = w := by
  have h := wt11
  go_enter Try.func55, Try.ntmps55
  go_wp2
  go_ret
  rw [← tu11]
  exact ⟨ret_u32 (or_rr 2097152 2048 x hx), rfl⟩
theorem sturn11 (x : Nat) (w : World) (hx : x < 4294967296) :
    Calls Try.prog 47 #[.int .u32 x, .int .i64 11] w fun e w' => e = .returned (.int .u32 (tu 11 x : Nat)) ∧ w' = w := by
  go_enter Try.func47, Try.ntmps47
  go_wp2_with fail
  refine (srotl11 x _ hx).mono ?_
  rintro e w' ⟨rfl, rfl⟩
  go_wp2
  go_ret
  exact ⟨rfl, rfl⟩

theorem wt13 : bits BinOp.and IntKind.u64 (IntKind.u64.wrap (-13)) 31 = 19 := by decide
theorem tu13 (x : Nat) : rr 524288 8192 x = tu 13 x := rfl
set_option maxHeartbeats 400000 in
theorem srotl13 (x : Nat) (w : World) (hx : x < 4294967296) :
    Calls Try.prog 55 #[.int .u32 x, .int .i64 (-13)] w fun e w' => e = .returned (.int .u32 (tu 13 x : Nat)) ∧ w' = w := by
  have h := wt13
  go_enter Try.func55, Try.ntmps55
  go_wp2
  go_ret
  rw [← tu13]
  exact ⟨ret_u32 (or_rr 524288 8192 x hx), rfl⟩
theorem sturn13 (x : Nat) (w : World) (hx : x < 4294967296) :
    Calls Try.prog 47 #[.int .u32 x, .int .i64 13] w fun e w' => e = .returned (.int .u32 (tu 13 x : Nat)) ∧ w' = w := by
  go_enter Try.func47, Try.ntmps47
  go_wp2_with fail
  refine (srotl13 x _ hx).mono ?_
  rintro e w' ⟨rfl, rfl⟩
  go_wp2
  go_ret
  exact ⟨rfl, rfl⟩

theorem wt17 : bits BinOp.and IntKind.u64 (IntKind.u64.wrap (-17)) 31 = 15 := by decide
theorem tu17 (x : Nat) : rr 32768 131072 x = tu 17 x := rfl
set_option maxHeartbeats 400000 in
theorem srotl17 (x : Nat) (w : World) (hx : x < 4294967296) :
    Calls Try.prog 55 #[.int .u32 x, .int .i64 (-17)] w fun e w' => e = .returned (.int .u32 (tu 17 x : Nat)) ∧ w' = w := by
  have h := wt17
  go_enter Try.func55, Try.ntmps55
  go_wp2
  go_ret
  rw [← tu17]
  exact ⟨ret_u32 (or_rr 32768 131072 x hx), rfl⟩
theorem sturn17 (x : Nat) (w : World) (hx : x < 4294967296) :
    Calls Try.prog 47 #[.int .u32 x, .int .i64 17] w fun e w' => e = .returned (.int .u32 (tu 17 x : Nat)) ∧ w' = w := by
  go_enter Try.func47, Try.ntmps47
  go_wp2_with fail
  refine (srotl17 x _ hx).mono ?_
  rintro e w' ⟨rfl, rfl⟩
  go_wp2
  go_ret
  exact ⟨rfl, rfl⟩

theorem wt18 : bits BinOp.and IntKind.u64 (IntKind.u64.wrap (-18)) 31 = 14 := by decide
theorem tu18 (x : Nat) : rr 16384 262144 x = tu 18 x := rfl
set_option maxHeartbeats 400000 in
theorem srotl18 (x : Nat) (w : World) (hx : x < 4294967296) :
    Calls Try.prog 55 #[.int .u32 x, .int .i64 (-18)] w fun e w' => e = .returned (.int .u32 (tu 18 x : Nat)) ∧ w' = w := by
  have h := wt18
  go_enter Try.func55, Try.ntmps55
  go_wp2
  go_ret
  rw [← tu18]
  exact ⟨ret_u32 (or_rr 16384 262144 x hx), rfl⟩
theorem sturn18 (x : Nat) (w : World) (hx : x < 4294967296) :
    Calls Try.prog 47 #[.int .u32 x, .int .i64 18] w fun e w' => e = .returned (.int .u32 (tu 18 x : Nat)) ∧ w' = w := by
  go_enter Try.func47, Try.ntmps47
  go_wp2_with fail
  refine (srotl18 x _ hx).mono ?_
  rintro e w' ⟨rfl, rfl⟩
  go_wp2
  go_ret
  exact ⟨rfl, rfl⟩

theorem wt19 : bits BinOp.and IntKind.u64 (IntKind.u64.wrap (-19)) 31 = 13 := by decide
theorem tu19 (x : Nat) : rr 8192 524288 x = tu 19 x := rfl
set_option maxHeartbeats 400000 in
theorem srotl19 (x : Nat) (w : World) (hx : x < 4294967296) :
    Calls Try.prog 55 #[.int .u32 x, .int .i64 (-19)] w fun e w' => e = .returned (.int .u32 (tu 19 x : Nat)) ∧ w' = w := by
  have h := wt19
  go_enter Try.func55, Try.ntmps55
  go_wp2
  go_ret
  rw [← tu19]
  exact ⟨ret_u32 (or_rr 8192 524288 x hx), rfl⟩
theorem sturn19 (x : Nat) (w : World) (hx : x < 4294967296) :
    Calls Try.prog 47 #[.int .u32 x, .int .i64 19] w fun e w' => e = .returned (.int .u32 (tu 19 x : Nat)) ∧ w' = w := by
  go_enter Try.func47, Try.ntmps47
  go_wp2_with fail
  refine (srotl19 x _ hx).mono ?_
  rintro e w' ⟨rfl, rfl⟩
  go_wp2
  go_ret
  exact ⟨rfl, rfl⟩

theorem wt22 : bits BinOp.and IntKind.u64 (IntKind.u64.wrap (-22)) 31 = 10 := by decide
theorem tu22 (x : Nat) : rr 1024 4194304 x = tu 22 x := rfl
set_option maxHeartbeats 400000 in
theorem srotl22 (x : Nat) (w : World) (hx : x < 4294967296) :
    Calls Try.prog 55 #[.int .u32 x, .int .i64 (-22)] w fun e w' => e = .returned (.int .u32 (tu 22 x : Nat)) ∧ w' = w := by
  have h := wt22
  go_enter Try.func55, Try.ntmps55
  go_wp2
  go_ret
  rw [← tu22]
  exact ⟨ret_u32 (or_rr 1024 4194304 x hx), rfl⟩
theorem sturn22 (x : Nat) (w : World) (hx : x < 4294967296) :
    Calls Try.prog 47 #[.int .u32 x, .int .i64 22] w fun e w' => e = .returned (.int .u32 (tu 22 x : Nat)) ∧ w' = w := by
  go_enter Try.func47, Try.ntmps47
  go_wp2_with fail
  refine (srotl22 x _ hx).mono ?_
  rintro e w' ⟨rfl, rfl⟩
  go_wp2
  go_ret
  exact ⟨rfl, rfl⟩

theorem wt25 : bits BinOp.and IntKind.u64 (IntKind.u64.wrap (-25)) 31 = 7 := by decide
theorem tu25 (x : Nat) : rr 128 33554432 x = tu 25 x := rfl
set_option maxHeartbeats 400000 in
theorem srotl25 (x : Nat) (w : World) (hx : x < 4294967296) :
    Calls Try.prog 55 #[.int .u32 x, .int .i64 (-25)] w fun e w' => e = .returned (.int .u32 (tu 25 x : Nat)) ∧ w' = w := by
  have h := wt25
  go_enter Try.func55, Try.ntmps55
  go_wp2
  go_ret
  rw [← tu25]
  exact ⟨ret_u32 (or_rr 128 33554432 x hx), rfl⟩
theorem sturn25 (x : Nat) (w : World) (hx : x < 4294967296) :
    Calls Try.prog 47 #[.int .u32 x, .int .i64 25] w fun e w' => e = .returned (.int .u32 (tu 25 x : Nat)) ∧ w' = w := by
  go_enter Try.func47, Try.ntmps47
  go_wp2_with fail
  refine (srotl25 x _ hx).mono ?_
  rintro e w' ⟨rfl, rfl⟩
  go_wp2
  go_ret
  exact ⟨rfl, rfl⟩

theorem sturn2e {x a : Nat} (w : World) (hx : x < 4294967296) (e : tu 2 x = a) : Calls Try.prog 47 #[.int .u32 x, .int .i64 2] w fun e w' => e = .returned (.int .u32 (a : Nat)) ∧ w' = w := e ▸ sturn2 x w hx
theorem sturn6e {x a : Nat} (w : World) (hx : x < 4294967296) (e : tu 6 x = a) : Calls Try.prog 47 #[.int .u32 x, .int .i64 6] w fun e w' => e = .returned (.int .u32 (a : Nat)) ∧ w' = w := e ▸ sturn6 x w hx
theorem sturn7e {x a : Nat} (w : World) (hx : x < 4294967296) (e : tu 7 x = a) : Calls Try.prog 47 #[.int .u32 x, .int .i64 7] w fun e w' => e = .returned (.int .u32 (a : Nat)) ∧ w' = w := e ▸ sturn7 x w hx
theorem sturn11e {x a : Nat} (w : World) (hx : x < 4294967296) (e : tu 11 x = a) : Calls Try.prog 47 #[.int .u32 x, .int .i64 11] w fun e w' => e = .returned (.int .u32 (a : Nat)) ∧ w' = w := e ▸ sturn11 x w hx
theorem sturn13e {x a : Nat} (w : World) (hx : x < 4294967296) (e : tu 13 x = a) : Calls Try.prog 47 #[.int .u32 x, .int .i64 13] w fun e w' => e = .returned (.int .u32 (a : Nat)) ∧ w' = w := e ▸ sturn13 x w hx
theorem sturn17e {x a : Nat} (w : World) (hx : x < 4294967296) (e : tu 17 x = a) : Calls Try.prog 47 #[.int .u32 x, .int .i64 17] w fun e w' => e = .returned (.int .u32 (a : Nat)) ∧ w' = w := e ▸ sturn17 x w hx
theorem sturn18e {x a : Nat} (w : World) (hx : x < 4294967296) (e : tu 18 x = a) : Calls Try.prog 47 #[.int .u32 x, .int .i64 18] w fun e w' => e = .returned (.int .u32 (a : Nat)) ∧ w' = w := e ▸ sturn18 x w hx
theorem sturn19e {x a : Nat} (w : World) (hx : x < 4294967296) (e : tu 19 x = a) : Calls Try.prog 47 #[.int .u32 x, .int .i64 19] w fun e w' => e = .returned (.int .u32 (a : Nat)) ∧ w' = w := e ▸ sturn19 x w hx
theorem sturn22e {x a : Nat} (w : World) (hx : x < 4294967296) (e : tu 22 x = a) : Calls Try.prog 47 #[.int .u32 x, .int .i64 22] w fun e w' => e = .returned (.int .u32 (a : Nat)) ∧ w' = w := e ▸ sturn22 x w hx
theorem sturn25e {x a : Nat} (w : World) (hx : x < 4294967296) (e : tu 25 x = a) : Calls Try.prog 47 #[.int .u32 x, .int .i64 25] w fun e w' => e = .returned (.int .u32 (a : Nat)) ∧ w' = w := e ▸ sturn25 x w hx
theorem ad_wrap (p q : Nat) : IntKind.u32.wrap ((p : Int) + (q : Int)) = ((ad p q : Nat) : Int) := by rw [IntKind.wrap_u32]; exact ad_int p q
theorem div_int (x q : Nat) : (x : Int) / (q : Int) = ((x / q : Nat) : Int) := (Int.natCast_ediv x q).symm
end Go.Proofs.Ytdcmjmmfclhfbaa
