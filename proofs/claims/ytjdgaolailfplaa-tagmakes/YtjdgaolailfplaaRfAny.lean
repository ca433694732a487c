/- The document's Keyed and Sum, as one contract each. For at most 100000 bytes. -/
import Derived.Test.YtjdgaolailfplaaRfKeyedE
import Derived.Test.YtjdgaolailfplaaRfKeyedN
namespace Go.Proofs.Ytjdgaolailfplaa
open Go.RowKit Bk
set_option linter.unusedVariables false

theorem rfkeyed_any (k s : ByteArray) (w : World) (hk : k.size < 2305843009213693952) (hs : s.size ≤ 100000) :
    Calls Try.prog 23 #[.string k, .string s] w fun e w' => e = .returned (.tuple #[.string (kyv k s), .int .i64 (kye k)]) ∧ Below w.heap.size w w' := by
  by_cases h : 32 < k.size
  · refine (rfkeyed_bad k s w h hk).mono ?_
    rintro e w' ⟨rfl, rfl⟩
    unfold kyv kye
    rw [if_pos h, if_pos h]
    exact ⟨rfl, Below.refl _ _⟩
  · unfold kyv kye
    rw [if_neg h, if_neg h]
    by_cases h0 : k.size = 0
    · exact rfkeyed_E k s w h0 (by omega) hs
    · exact rfkeyed_N k s w (by omega) (by omega) hs
set_option maxRecDepth 100000 in
theorem rfsum_any (s : ByteArray) (w : World) (hs : s.size ≤ 100000) : Calls Try.prog 15 #[.string s] w fun e w' => e = .returned (.string (dg 0 (sb s))) ∧ Below w.heap.size w w' := by
  go_enter Try.func15, Try.ntmps15
  go_wp2_with fail
  refine (rfkeyed_any ⟨#[]⟩ s _ (by decide) hs).mono ?_
  rintro e w1 ⟨rfl, hB⟩
  rw [kyv_none]
  have HB := hide hB
  clear hB
  go_wp2_with fail
  go_ret
  exact ⟨rfl, HB.out⟩
end Go.Proofs.Ytjdgaolailfplaa
