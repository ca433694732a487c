/- Why a cipher does not take a block, walked; a cipher's memory, as the callers see it. No condition. -/
import Derived.Test.YtllhnbnddcghoaaARnd
namespace Go.Proofs.Ytllhnbnddcghoaa
open Go.RowKit Bk
set_option linter.unusedVariables false
set_option linter.unusedSimpArgs false

theorem takes_nil (x : ByteArray) (w : World) : Calls Try.prog 15 #[.pointer none, .string x] w fun e w' => e = .returned (.int .i64 2) ∧ w' = w := by
  go_enter Try.func15, Try.ntmps15
  go_wp2_with fail
  go_ret
  exact ⟨rfl, rfl⟩
theorem takes_bad (a : Addr) (x : ByteArray) (w : World) (hx : x.size ≠ 16) : Calls Try.prog 15 #[.pointer (some a), .string x] w fun e w' => e = .returned (.int .i64 1) ∧ w' = w := by
  have h : ((x.size : Int) != 16) = true := by rw [bne_iff_ne]; omega
  go_enter Try.func15, Try.ntmps15
  go_wp2_with fail
  go_ret
  exact ⟨rfl, rfl⟩
theorem takes_ok (a : Addr) (x : ByteArray) (w : World) (hx : x.size = 16) : Calls Try.prog 15 #[.pointer (some a), .string x] w fun e w' => e = .returned (.int .i64 0) ∧ w' = w := by
  have h : ((x.size : Int) != 16) = false := by rw [hx]; rfl
  go_enter Try.func15, Try.ntmps15
  go_wp2_with fail
  go_ret
  exact ⟨rfl, rfl⟩
end Go.Proofs.Ytllhnbnddcghoaa
