/- A loop of a function, by itself. No call is walked here. -/
import Derived.Test.YtdcmjmmfclhfbaaQSum
import Derived.Test.YtdcmjmmfclhfbaaQTurn
import Derived.Test.YtdcmjmmfclhfbaaSAfter
import Derived.Test.YtdcmjmmfclhfbaaOrdR
import Derived.LoopN
namespace Go.Proofs.Ytdcmjmmfclhfbaa
open Go.RowKit Bk
set_option linter.unusedVariables false
set_option linter.unusedSimpArgs false

theorem rounds_k {P : Program} {c : Code} {Q : Exit → Act → World → Prop} {n : Nat} {a : Act} {w : World} (h : ∀ K : Act → World → Prop, (∀ a w, Code.rounds P c Q n a w → K a w) → c.wp P (Exit.then K Q) a w) : Code.rounds P c Q (n + 1) a w := h _ (fun _ _ h => h)
theorem Row.here {w w' : World} {b o B : Nat} {cs : List Value} (h : Row w b o cs) (k : Below B w w') (hB : w.heap.size ≤ B) : Row w' b o cs := h.below k (Nat.lt_of_lt_of_le h.lt hB)
/-- The code in block n. -/
def blockAt (n : Nat) : Code → Option Code
  | .block k c => if k = n then some c else blockAt n c
  | .seq a b => match blockAt n a with
    | some c => some c
    | none => blockAt n b
  | .cond _ a b => match blockAt n a with
    | some c => some c
    | none => blockAt n b
  | .loop c => blockAt n c
  | .scope c => blockAt n c
  | .rangeFunc _ _ a b => match blockAt n a with
    | some c => some c
    | none => blockAt n b
  | _ => none
end Go.Proofs.Ytdcmjmmfclhfbaa
