/- The turns of bits and the mixing of four numbers, walked. For numbers of 32 bits: each call returns what the plain numbers of BMath say, and leaves the world as it is. -/
import Derived.Test.YtllhnbnddcghoaaRows
import Derived.Test.YtllhnbnddcghoaaBMath
import Derived.WalkKit
import Derived.WalkSpells
import Derived.WalkLawsBesides
namespace Go.Proofs.Ytllhnbnddcghoaa
open Go.RowKit Bk

theorem hide {p : Prop} (h : p) : Hid p := h
theorem ret_u32 {a b : Int} (h : a = b) : Ending.returned (.int .u32 a) = .returned (.int .u32 b) := by rw [h]
theorem or_rr (p q x : Nat) (hx : x < 4294967296) : bits .or .u32 ((x : Int) * (p : Int) % 4294967296) ((x : Int) / (q : Int)) = ((rr p q x : Nat) : Int) := by
  have e1 : (x : Int) * (p : Int) % 4294967296 = ((x * p % 4294967296 : Nat) : Int) := by rw [Int.natCast_emod, Int.natCast_mul]; rfl
  have e2 : (x : Int) / (q : Int) = ((x / q : Nat) : Int) := (Int.natCast_ediv x q).symm
  rw [e1, e2, u32_or_nat _ _ (Nat.mod_lt _ (by decide)) (Nat.lt_of_le_of_lt (Nat.div_le_self _ _) hx)]
  rfl
theorem w16 : bits BinOp.and IntKind.u64 (IntKind.u64.wrap (-16)) 31 = 16 := by decide
theorem w12 : bits BinOp.and IntKind.u64 (IntKind.u64.wrap (-12)) 31 = 20 := by decide
theorem w8 : bits BinOp.and IntKind.u64 (IntKind.u64.wrap (-8)) 31 = 24 := by decide
theorem w7 : bits BinOp.and IntKind.u64 (IntKind.u64.wrap (-7)) 31 = 25 := by decide

theorem ad_int (p q : Nat) : ((p : Int) + (q : Int)) % 4294967296 = ((ad p q : Nat) : Int) := by
  unfold ad; rw [Int.natCast_emod, Int.natCast_add]; rfl
theorem xr_int {p q : Nat} (hp : p < 4294967296) (hq : q < 4294967296) : bits .xor .u32 (p : Int) (q : Int) = ((p ^^^ q : Nat) : Int) := u32_xor_nat p q hp hq

end Go.Proofs.Ytllhnbnddcghoaa
