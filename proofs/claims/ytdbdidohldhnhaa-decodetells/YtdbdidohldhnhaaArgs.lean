/- Slices of numbers of 16 bits that came in with a call, as the walks take them. -/
import Derived.Test.YtdbdidohldhnhaaWords
import Derived.ProofKit
import Derived.OpenShut
import Derived.ChangeOld
namespace Go.Proofs.Ytdbdidohldhnhaa
open Go.ChangeShapes Go.WideShapes Go.ChangeAt Go.RowKit Gf

/-- A slice of integers that came in: nil, or a row of cells that hold the numbers zs, each of its kind. -/
def IsRow (k : IntKind) (w : World) (a : Option Addr) (len cap : Nat) (zs : List Int) : Prop :=
  (a = none ∧ len = 0 ∧ cap = 0 ∧ zs = []) ∨
  ∃ x, a = some x ∧ len ≤ cap ∧ cap ≤ maxLen ∧ zs.length = cap ∧ (∀ i, i < zs.length → w.cell? (x.add i) = some (.int k (zs.getD i 0))) ∧ ∀ n ∈ zs, (Lit.int k n).wf = true

def cut0 (zs : List Int) (len : Nat) : Nat → Int := fun j => if j < len then zs.getD j 0 else 0

theorem isRow_sl {w : World} {a : Option Addr} {len cap : Nat} {zs : List Int} (h : IsRow .u16 w a len cap zs) : Sl w a len cap (cut0 zs len) := by
  have hout : ∀ j, len ≤ j → cut0 zs len j = 0 := fun j hj => by unfold cut0; rw [if_neg (by omega)]
  rcases h with ⟨rfl, rfl, rfl, rfl⟩ | ⟨x, rfl, hl, hm, hz, hcell, hwz⟩
  · exact ⟨fun j => by rw [hout j (Nat.zero_le _)]; exact z16, hout, Nat.le_refl _, fun _ => rfl, .inl rfl⟩
  · have hb : P16 (cut0 zs len) := fun j => by
      by_cases hj : j < len
      · unfold cut0
        rw [if_pos hj]
        refine bounds_u16 (hwz _ ?_)
        rw [List.getD_eq_getElem?_getD, List.getElem?_eq_getElem (by omega)]
        exact List.getElem_mem _
      · rw [hout j (by omega)]; exact z16
    refine ⟨hb, hout, hl, fun e => (by cases e), ?_⟩
    by_cases h0 : len = 0
    · exact .inl h0
    · obtain ⟨b, off, rfl, hc⟩ := ints_at hcell (by omega)
      refine .inr ⟨b, off, rfl, World.block_lt_of_cell? w _ (hc 0 (by omega)), fun j hj => ?_⟩
      rw [hc j (by omega)]
      unfold cut0
      rw [if_pos hj]
theorem isRow_max {w : World} {a : Option Addr} {len cap : Nat} {zs : List Int} (h : IsRow .u16 w a len cap zs) : len ≤ maxLen := by
  rcases h with ⟨rfl, rfl, rfl, rfl⟩ | ⟨x, rfl, hl, hm, _⟩
  · exact Nat.zero_le _
  · omega

end Go.Proofs.Ytdbdidohldhnhaa
