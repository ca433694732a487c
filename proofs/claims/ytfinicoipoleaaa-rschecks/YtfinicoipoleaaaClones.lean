/- slices.Clone at slices of numbers of 16 bits, at most 4000 of them: the same numbers in new memory that may be written; of nil: nil. Nothing that was there is changed. -/
import Derived.Test.YtfinicoipoleaaaCuts
import Derived.OwnWalk
import Derived.Maps.AppendAt
namespace Go.Proofs.Ytfinicoipoleaaa
open Go.RowKit Gf

theorem add_at (b off j : Nat) : (⟨b, off, none⟩ : Addr).add j = ⟨b, off + j, none⟩ := by
  unfold Addr.add
  split <;> simp_all

theorem info16 : (Try.prog.info? 27).map (fun i => (i.zero, i.size, i.bytes)) = some (some (.int .u16 0), 1, 2) := by kernel_rfl

end Go.Proofs.Ytfinicoipoleaaa
