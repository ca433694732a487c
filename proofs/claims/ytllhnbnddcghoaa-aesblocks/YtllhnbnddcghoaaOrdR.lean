/- A row stored in a region that draws its order. No call is walked here. -/
import Derived.Test.YtllhnbnddcghoaaOrdsX
import Derived.Test.YtllhnbnddcghoaaArr
namespace Go.Proofs.Ytllhnbnddcghoaa
open Go.RowKit Bk
set_option linter.unusedVariables false

section
variable {P : Program} {ops : Array Oper} {Q : Exit → Act → World → Prop} {S : World → Prop} {s : Nat}
theorem ord_storeR {i : Nat} {o : Oper} {r : List (Nat × Option Bool)} {b : Bool} {a : Act} {w : World} (h0 : ops[i]? = some o) (hg : o.guard = none) (hd : o.dst = none) (ty : TypeId) (x y : Operand) (ho : o.op = .store ty x y) {bl off : Nat} (hx : a.eval x = .pointer (some ⟨bl, off, none⟩)) {cs vs : List Value} (hy : a.eval y = .agg vs.toArray) (hr : Row w bl off cs)
    (hl : vs.length = cs.length) (hi : (P.info? ty).map (·.size) = some vs.length) (h1 : ∀ v ∈ vs, v.oneCell' = true) (hS : ahead s i b = true → S (w.setCells bl off vs)) (h : wpOrd P ops Q S s r (ahead s i b) a (w.setCells bl off vs)) : wpOrd P ops Q S s ((i, none) :: r) b a w :=
  ord_go h0 fun K hK => by
    rw [if_pos (by unfold Region.wanted; rw [hg])]
    refine wp_store_mid ty x y ho bl off vs.toArray hx hy (by have := hr.there; rw [← hl] at this; simpa using this) (by simpa using hi) (all_oneCell_toArray h1) ?_
    exact hK.out _ _ (by simpa using hS) (by rw [hd]; simpa [Act.put] using h)
end
end Go.Proofs.Ytllhnbnddcghoaa
