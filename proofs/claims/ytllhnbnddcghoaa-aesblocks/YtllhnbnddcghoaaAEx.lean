/- AES-256: the chapter's example, reckoned. Closed. -/
import Derived.Test.YtllhnbnddcghoaaATab
namespace Go.Proofs.Ytllhnbnddcghoaa.Bk
set_option linter.unusedVariables false

/-- n bytes, each so much more than the one ahead of it. -/
def rwl (n : Nat) (by' : UInt8) : List UInt8 := (List.range n).map fun i => UInt8.ofNat (i * by'.toNat)
theorem rwl_length (n : Nat) (c : UInt8) : (rwl n c).length = n := by simp [rwl]
theorem gy_rwl {n : Nat} (c : UInt8) {i : Nat} (h : i < n) : gy (rwl n c) i = UInt8.ofNat (i * c.toNat) := gy_range h
theorem rwl_next {n : Nat} (c : UInt8) {i : Nat} (h : i + 1 < n) : ((gy (rwl n c) i).toNat + c.toNat) % 256 = (gy (rwl n c) (i + 1)).toNat := by
  rw [gy_rwl c h, gy_rwl c (by omega), UInt8.toNat_ofNat', UInt8.toNat_ofNat', Nat.succ_mul]
  omega
def exW : List UInt8 := spr SB (rwl 32 1) 60
def exE : List UInt8 := [142, 162, 183, 202, 81, 103, 69, 191, 234, 252, 73, 144, 75, 73, 96, 137]
theorem ex_ok : enc (spr SB (rwl 32 1) 60) (rwl 16 17) = exE := by decide +kernel
end Go.Proofs.Ytllhnbnddcghoaa.Bk
