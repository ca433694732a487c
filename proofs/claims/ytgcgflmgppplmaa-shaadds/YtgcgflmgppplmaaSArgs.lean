/- Hashes of SHA-256 behind one another, as the walks of the laws take them. No call is walked here. -/
import Derived.Test.YtgcgflmgppplmaaSWorks
import Derived.Test.YtgcgflmgppplmaaIArgs
import Derived.SizedLaws
namespace Go.Proofs.Ytgcgflmgppplmaa
open Go.RowKit Bk
set_option linter.unusedVariables false

/-- A new hash is none of those that were there. -/
theorem Ss.ne {w : World} {b c : Nat} {l : List UInt8} (H : Ss w b l) (hc : w.heap.size ≤ c) : b ≠ c := by
  have := H.lt; omega
end Go.Proofs.Ytgcgflmgppplmaa
