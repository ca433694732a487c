/- The document's products and comparisons, at a number's four digits: as the roots ask them. No condition. -/
import Derived.Test.YtdcmjmmfclhfbaaQPrimes
namespace Go.Proofs.Ytdcmjmmfclhfbaa
open Go.RowKit Bk

namespace Bk
def dg4 (X : Nat) : List Value := uq (dgs X)
def sq8 (X : Nat) : List Value := uq (tms (dgs X) (dgs X))
def cb12 (X : Nat) : List Value := uq (tms (tms (dgs X) (dgs X)) (dgs X))
end Bk
theorem rdig_any (X : Nat) (w : World) (h : X < 18446744073709551616) : Calls Try.prog 52 #[.int .u64 X] w fun e w' => ∃ g, e = .returned (.slice (some ⟨g, 0, none⟩) 4 4) ∧ w.heap.size ≤ g ∧ Row w' g 0 (dg4 X) ∧ Below w.heap.size w w' := rdigits_any X w h
theorem rsq_any {w : World} {ga : Nat} (X : Nat) (ra : Row w ga 0 (dg4 X)) : Calls Try.prog 54 #[.slice (some ⟨ga, 0, none⟩) 4 4, .slice (some ⟨ga, 0, none⟩) 4 4] w fun e w' => ∃ g, e = .returned (.slice (some ⟨g, 0, none⟩) 8 8) ∧ w.heap.size ≤ g ∧ Row w' g 0 (sq8 X) ∧ Below w.heap.size w w' :=
  rtimes_any (dgs X) (dgs X) 4 4 4 4 (dgs_length X) (dgs_length X) ra ra ⟨by decide, by decide⟩
theorem rcb_any {w : World} {ga gb : Nat} (X : Nat) (ra : Row w ga 0 (sq8 X)) (rb : Row w gb 0 (dg4 X)) : Calls Try.prog 54 #[.slice (some ⟨ga, 0, none⟩) 8 8, .slice (some ⟨gb, 0, none⟩) 4 4] w fun e w' => ∃ g, e = .returned (.slice (some ⟨g, 0, none⟩) 12 12) ∧ w.heap.size ≤ g ∧ Row w' g 0 (cb12 X) ∧ Below w.heap.size w w' :=
  rtimes_any (tms (dgs X) (dgs X)) (dgs X) 8 4 8 4 (by rw [tms_length, dgs_length]) (dgs_length X) ra rb ⟨by decide, by decide⟩
theorem rwsq_any {w : World} {ga : Nat} (X p : Nat) (hp : p < 18446744073709551616) (ra : Row w ga 0 (sq8 X)) : Calls Try.prog 53 #[.slice (some ⟨ga, 0, none⟩) 8 8, .int .u64 p, .int .i64 4] w fun e w' => e = .returned (.bool (sqW p X)) ∧ Below w.heap.size w w' :=
  rwithin_any (tms (dgs X) (dgs X)) 8 8 p 4 (by rw [tms_length, dgs_length]) ra ⟨by decide, by decide⟩ hp
theorem rwcb_any {w : World} {ga : Nat} (X p : Nat) (hp : p < 18446744073709551616) (ra : Row w ga 0 (cb12 X)) : Calls Try.prog 53 #[.slice (some ⟨ga, 0, none⟩) 12 12, .int .u64 p, .int .i64 6] w fun e w' => e = .returned (.bool (cbW p X)) ∧ Below w.heap.size w w' :=
  rwithin_any (tms (tms (dgs X) (dgs X)) (dgs X)) 12 12 p 6 (by rw [tms_length, tms_length, dgs_length]) ra ⟨by decide, by decide⟩ hp
end Go.Proofs.Ytdcmjmmfclhfbaa
