/- A block's number in four bytes, walked. For blocks from 1 to 2 to the power of 31 less 1. -/
import Derived.Test.YtdcmjmmfclhfbaaKMath
import Derived.Test.YtdcmjmmfclhfbaaSComb
namespace Go.Proofs.Ytdcmjmmfclhfbaa
open Go.RowKit Bk
set_option linter.unusedVariables false
set_option linter.unusedSimpArgs false

def nb4 (b : Nat) : ByteArray := ⟨(kn4 b).toArray⟩
theorem nb4_size (b : Nat) : (nb4 b).size = 4 := rfl
theorem kn4_bs (b : Nat) (hb : b ≤ 2147483647) : (#[.int .u8 ((b : Int) / 16777216), .int .u8 ((b : Int) / 65536 % 256), .int .u8 ((b : Int) / 256 % 256), .int .u8 ((b : Int) % 256)] : Array Value) = (bs (kn4 b)).toArray := by
  have h1 : (UInt8.ofNat (b / 16777216)).toNat = b / 16777216 := by simp; omega
  have h2 : (UInt8.ofNat (b / 65536)).toNat = b / 65536 % 256 := by simp
  have h3 : (UInt8.ofNat (b / 256)).toNat = b / 256 % 256 := by simp
  have h4 : (UInt8.ofNat b).toNat = b % 256 := by simp
  simp only [kn4, bs, List.map_cons, List.map_nil, h1, h2, h3, h4]
  simp

set_option maxRecDepth 100000 in
theorem number_any (b : Nat) (w : World) (hb : b ≤ 2147483647) : Calls Try.prog 21 #[.int .i64 b] w fun e w' => e = .returned (.string (nb4 b)) ∧ Below w.heap.size w w' := by
  have h1 : (b : Int) ≤ 2147483647 := by omega
  obtain ⟨W, eW, hB, hR⟩ : ∃ W, w.alloc (.cells #[.int .u8 ((b : Int) / 16777216), .int .u8 ((b : Int) / 65536 % 256), .int .u8 ((b : Int) / 256 % 256), .int .u8 ((b : Int) % 256)] 5) = W ∧ Below w.heap.size w W ∧ Row W w.heap.size 0 (bs (kn4 b)) :=
    ⟨_, rfl, (Below.refl _ w).alloc (Nat.le_refl _) _, by rw [kn4_bs b hb]; exact Row.newL _ _ _⟩
  have hx := run_textR (P := Try.prog) W 29 9 5 (c := 4) (n := 4) (l := kn4 b) Try.underlying29 Try.underlying5 Try.underlying9 w.heap.size 0 rfl rfl hR.cell
  clear hR hb
  go_enter Try.func21, Try.ntmps21
  go_wp2
  go_ret
  exact ⟨rfl, hB⟩
end Go.Proofs.Ytdcmjmmfclhfbaa
