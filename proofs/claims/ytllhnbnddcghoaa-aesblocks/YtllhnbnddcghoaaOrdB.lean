/- A statement whose operations may come in more than one order, where one that makes memory may come up anywhere: each way is walked, in a tree. No call is walked here. -/
import Derived.Test.YtllhnbnddcghoaaOrdsX
import Derived.Test.YtllhnbnddcghoaaOrdR
namespace Go.Proofs.Ytllhnbnddcghoaa
open Go.RowKit
set_option linter.unusedVariables false

/-- What is asked of a statement that ends as it should. -/
def onlyN (R : Act → World → Prop) : Exit → Act → World → Prop
  | .normal, a, w => R a w
  | _, _, _ => False
theorem wp_only {P : Program} {c : Code} {R : Act → World → Prop} {Q : Exit → Act → World → Prop} {a : Act} {w : World} (h : c.wp P (onlyN R) a w) (hR : ∀ a w, R a w → Q .normal a w) : c.wp P Q a w :=
  wp_mono h (fun e a w h => by
    cases e with
    | normal => exact hR a w h
    | _ => exact h.elim)

section
variable {P : Program} {ops : Array Oper} {R : Act → World → Prop} {md : Region.Mode} {S : World → Prop} {s : Nat}

theorem wp_region_U {id : Nat} {l : List Oper} {a : Act} {w : World} (S : World → Prop) (s : Nat) (hm : P.follows .mixedOrders = true) (h : anyU P .any l.toArray (onlyN R) S s l.length (Array.replicate l.length false) a w.drew) : (Code.region id l.toArray true).wp P (onlyN R) a w := by
  refine wp_region_any hm ?_
  have H := any_of_U _ _ _ _ h
  simpa using H
theorem U_p {k : Nat} {o : Oper} {f : Nat} {listed : Array Bool} {a : Act} {w : World} (h0 : ops[k]? = some o) (hB : (Region.noSelect ops && Region.free md ops listed k && (Region.ready md ops listed).contains k && decide (k ≠ s)) = true)
    (hw : Region.wanted o (yielded ops a.tmps) = true) (hS : listed.getD s true = false → S w) (h : ∃ v, (∀ w, (execOp a.eval o).run P w = .ok (.value v) w) ∧ anyU P md ops (onlyN R) S s f (listed.setIfInBounds k true) (a.put o.dst v) w) : anyU P md ops (onlyN R) S s (f + 1) listed a w := by
  simp only [Bool.and_eq_true, decide_eq_true_eq] at hB
  obtain ⟨⟨⟨h1, h2⟩, h3⟩, h4⟩ := hB
  obtain ⟨v, hv, h⟩ := h
  exact U_take (T := fun _ => True) h0 h1 (fun _ _ _ _ _ h => h) h4 (.inl fun _ => trivial) h2 h3 (.inr fun _ => trivial) (.inl ⟨hw, fun w _ => hv w⟩) hS h
theorem U_h {k : Nat} {o : Oper} {f : Nat} {listed : Array Bool} {a : Act} {w : World} (h0 : ops[k]? = some o) (hB : (Region.noSelect ops && Region.free md ops listed k && (Region.ready md ops listed).contains k && decide (k ≠ s) && Region.waitsFor md ops s k && decide (listed.getD s true = false)) = true)
    (hw : Region.wanted o (yielded ops a.tmps) = true) (hS : S w) (h : ∃ v, (∀ w, S w → (execOp a.eval o).run P w = .ok (.value v) w) ∧ anyU P md ops (onlyN R) S s f (listed.setIfInBounds k true) (a.put o.dst v) w) : anyU P md ops (onlyN R) S s (f + 1) listed a w := by
  simp only [Bool.and_eq_true, decide_eq_true_eq] at hB
  obtain ⟨⟨⟨⟨⟨h1, h2⟩, h3⟩, h4⟩, h5⟩, h6⟩ := hB
  obtain ⟨v, hv, h⟩ := h
  exact U_take (T := S) h0 h1 (fun _ _ _ _ _ h => h) h4 (.inr ⟨rfl, h5⟩) h2 h3 (.inl h6) (.inl ⟨hw, fun w hs => hv w hs⟩) (fun _ => hS) h
theorem U_one {i : Nat} {f : Nat} {listed : Array Bool} {a : Act} {w : World} (hr : Region.ready md ops listed = [i])
    (h1 : wpOp P ops (onlyN R) i (fun a' w' => ((listed.setIfInBounds i true).getD s true = false → S w') ∧ anyU P md ops (onlyN R) S s f (listed.setIfInBounds i true) a' w') a w) : anyU P md ops (onlyN R) S s (f + 1) listed a w :=
  ⟨fun h => (by rw [hr] at h; cases h), fun k hk => by
    rw [hr] at hk
    obtain rfl : k = i := by simpa using hk
    exact h1⟩
theorem U_two {i j : Nat} {f : Nat} {listed : Array Bool} {a : Act} {w : World} (hr : Region.ready md ops listed = [i, j])
    (h1 : wpOp P ops (onlyN R) i (fun a' w' => ((listed.setIfInBounds i true).getD s true = false → S w') ∧ anyU P md ops (onlyN R) S s f (listed.setIfInBounds i true) a' w') a w)
    (h2 : wpOp P ops (onlyN R) j (fun a' w' => ((listed.setIfInBounds j true).getD s true = false → S w') ∧ anyU P md ops (onlyN R) S s f (listed.setIfInBounds j true) a' w') a w) : anyU P md ops (onlyN R) S s (f + 1) listed a w :=
  ⟨fun h => (by rw [hr] at h; cases h), fun k hk => by
    rw [hr] at hk
    rcases List.mem_cons.1 hk with rfl | hk
    · exact h1
    · obtain rfl : k = j := by simpa using hk
      exact h2⟩
theorem U_go {i : Nat} {o : Oper} {f : Nat} {listed : Array Bool} {a : Act} {w : World} (h0 : ops[i]? = some o)
    (h : ∀ K' : Act → World → Prop, Shut (∀ a w, ((listed.setIfInBounds i true).getD s true = false → S w) → anyU P md ops (onlyN R) S s f (listed.setIfInBounds i true) a w → K' a w) → if Region.wanted o (yielded ops a.tmps) = true then Oper.wp P o a w K' (onlyN R) else K' (a.put o.dst undef) w) :
    wpOp P ops (onlyN R) i (fun a' w' => ((listed.setIfInBounds i true).getD s true = false → S w') ∧ anyU P md ops (onlyN R) S s f (listed.setIfInBounds i true) a' w') a w :=
  wpOp_step h0 fun K' hK => h K' (fun a w hS hW => hK a w ⟨hS, hW⟩)
theorem U_end {listed : Array Bool} {a : Act} {w : World} (hr : Region.ready md ops listed = []) (h : R a w) : anyU P md ops (onlyN R) S s 0 listed a w := ⟨hr, h⟩
/-- A row stored. -/
theorem U_storeR {i : Nat} {o : Oper} {f : Nat} {listed : Array Bool} {a : Act} {w : World} (h0 : ops[i]? = some o) (hg : o.guard = none) (hd : o.dst = none) (ty : TypeId) (x y : Operand) (ho : o.op = .store ty x y) {bl off : Nat} (hx : a.eval x = .pointer (some ⟨bl, off, none⟩)) {cs vs : List Value} (hy : a.eval y = .agg vs.toArray) (hr : Row w bl off cs)
    (hl : vs.length = cs.length) (hi : (P.info? ty).map (·.size) = some vs.length) (h1 : ∀ v ∈ vs, v.oneCell' = true) (hS : (listed.setIfInBounds i true).getD s true = false → S (w.setCells bl off vs)) (h : anyU P md ops (onlyN R) S s f (listed.setIfInBounds i true) a (w.setCells bl off vs)) :
    wpOp P ops (onlyN R) i (fun a' w' => ((listed.setIfInBounds i true).getD s true = false → S w') ∧ anyU P md ops (onlyN R) S s f (listed.setIfInBounds i true) a' w') a w :=
  U_go h0 fun K hK => by
    rw [if_pos (by unfold Region.wanted; rw [hg])]
    refine wp_store_mid ty x y ho bl off vs.toArray hx hy (by have := hr.there; rw [← hl] at this; simpa using this) (by simpa using hi) (all_oneCell_toArray h1) ?_
    exact hK.out _ _ (by simpa using hS) (by rw [hd]; simpa [Act.put] using h)
end
end Go.Proofs.Ytllhnbnddcghoaa
