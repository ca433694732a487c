/- A statement whose operations may come in more than one order, walked in an order of the prover's: as Ords, but for the order. No call is walked here. -/
import Derived.Test.YtllhnbnddcghoaaOrds
namespace Go.Proofs.Ytllhnbnddcghoaa
set_option linter.unusedVariables false

section
variable {P : Program} {ops : Array Oper} {Q : Exit → Act → World → Prop} {md : Region.Mode} {S : World → Prop} {s : Nat}

/-- Has number s not come up yet? (b: it had not.) -/
def ahead (s i : Nat) (b : Bool) : Bool := b && decide (i ≠ s)
/-- The order is one that the region allows: modes as in Ords. -/
def ordU (md : Region.Mode) (ops : Array Oper) (s : Nat) : List (Nat × Option Bool) → Bool → Array Bool → Bool
  | [], _, listed => (Region.ready md ops listed).isEmpty
  | (i, none) :: r, b, listed => decide (Region.ready md ops listed = [i]) && decide (b = true ↔ listed.getD s true = false) && ordU md ops s r (ahead s i b) (listed.setIfInBounds i true)
  | (i, some true) :: r, b, listed => (Region.ready md ops listed).contains i && Region.free md ops listed i && decide (i ≠ s) && ordU md ops s r b (listed.setIfInBounds i true)
  | (i, some false) :: r, b, listed => (Region.ready md ops listed).contains i && Region.free md ops listed i && decide (i ≠ s) && b && decide (listed.getD s true = false) && Region.waitsFor md ops s i && ordU md ops s r b (listed.setIfInBounds i true)

def wpOrd (P : Program) (ops : Array Oper) (Q : Exit → Act → World → Prop) (S : World → Prop) (s : Nat) : List (Nat × Option Bool) → Bool → Act → World → Prop
  | [], _, a, w => Q .normal a w
  | (i, none) :: r, b, a, w => wpOp P ops Q i (fun a' w' => (ahead s i b = true → S w') ∧ wpOrd P ops Q S s r (ahead s i b) a' w') a w
  | (i, some true) :: r, b, a, w => ∃ o v, ops[i]? = some o ∧ YieldsIf P ops (fun _ => True) o v a ∧ wpOrd P ops Q S s r b (a.put o.dst v) w
  | (i, some false) :: r, b, a, w => ∃ o v, ops[i]? = some o ∧ YieldsIf P ops S o v a ∧ wpOrd P ops Q S s r b (a.put o.dst v) w

theorem U_of_ord (hsel : Region.noSelect ops = true) (hQ : ∀ c a d u w, Q (.panic c) (a.put d u) w → Q (.panic c) a w) :
    ∀ (l : List (Nat × Option Bool)) (b : Bool) (listed : Array Bool) (a : Act) (w : World), (listed.getD s true = false → b = true) → ordU md ops s l b listed = true →
      (b = true → S w) → wpOrd P ops Q S s l b a w → anyU P md ops Q S s l.length listed a w
  | [], b, listed, a, w, _, hB, _, h => ⟨by simpa [ordU] using hB, h⟩
  | (i, none) :: r, b, listed, a, w, hb, hB, hS, h => by
    simp only [ordU, Bool.and_eq_true, decide_eq_true_eq] at hB
    obtain ⟨⟨hr, hbb⟩, hB'⟩ := hB
    refine ⟨fun h1 => (by rw [hr] at h1; cases h1), fun j hj => ?_⟩
    rw [hr] at hj
    obtain rfl : j = i := by simpa using hj
    have hjr : j ∈ Region.ready md ops listed := by rw [hr]; simp
    have hun := (mem_ready.1 hjr).1
    have hnext : (listed.setIfInBounds j true).getD s true = false → ahead s j b = true := by
      intro hz
      unfold ahead
      by_cases e : j = s
      · subst e
        have hlt : j < listed.size := by
          rcases Nat.lt_or_ge j listed.size with h' | h'
          · exact h'
          · simp [Array.getElem?_eq_none h'] at hun
        simp [hlt] at hz
      · rw [getD_set_ne true e] at hz
        simp [hbb.2 hz, e]
    refine wpOp_mono (fun a' w' h3 => ?_) (show wpOp P ops Q j (fun a' w' => (ahead s j b = true → S w') ∧ wpOrd P ops Q S s r (ahead s j b) a' w') a w from h)
    exact ⟨fun hz => h3.1 (hnext hz), U_of_ord hsel hQ r (ahead s j b) _ a' w' hnext hB' h3.1 h3.2⟩
  | (i, some true) :: r, b, listed, a, w, hb, hB, hS, h => by
    simp only [ordU, Bool.and_eq_true, decide_eq_true_eq] at hB
    obtain ⟨⟨⟨hr, hf⟩, hne⟩, hB'⟩ := hB
    obtain ⟨o, v, h0, hy, hk⟩ : ∃ o v, ops[i]? = some o ∧ YieldsIf P ops (fun _ => True) o v a ∧ wpOrd P ops Q S s r b (a.put o.dst v) w := h
    refine U_take h0 hsel hQ hne (.inl fun _ => trivial) hf hr (.inr fun _ => trivial) hy (fun hz => hS (hb hz)) ?_
    exact U_of_ord hsel hQ r b _ _ w (fun hz => hb (by rwa [getD_set_ne true hne] at hz)) hB' hS hk
  | (i, some false) :: r, b, listed, a, w, hb, hB, hS, h => by
    simp only [ordU, Bool.and_eq_true, decide_eq_true_eq] at hB
    obtain ⟨⟨⟨⟨⟨⟨hr, hf⟩, hne⟩, hbt⟩, hls⟩, hws⟩, hB'⟩ := hB
    obtain ⟨o, v, h0, hy, hk⟩ : ∃ o v, ops[i]? = some o ∧ YieldsIf P ops S o v a ∧ wpOrd P ops Q S s r b (a.put o.dst v) w := h
    refine U_take h0 hsel hQ hne (.inr ⟨rfl, hws⟩) hf hr (.inl hls) hy (fun hz => hS (hb hz)) ?_
    exact U_of_ord hsel hQ r b _ _ w (fun hz => hb (by rwa [getD_set_ne true hne] at hz)) hB' hS hk

/-- The law: a region that draws its order, in an order of the prover's. -/
theorem wp_region_ord {id : Nat} {l : List Oper} {a : Act} {w : World} (S : World → Prop) (s : Nat) (r : List (Nat × Option Bool)) (hm : P.follows .mixedOrders = true)
    (hB : (Region.noSelect l.toArray && decide (r.length = l.length) && decide (s < l.length) && ordU .any l.toArray s r true (Array.replicate l.length false)) = true)
    (hQ0 : ∀ c (a : Act) tm w, Q (.panic c) { a with tmps := tm } w → Q (.panic c) a w) (hS : S w.drew) (h : wpOrd P l.toArray Q S s r true a w.drew) : (Code.region id l.toArray true).wp P Q a w := by
  simp only [Bool.and_eq_true, decide_eq_true_eq] at hB
  obtain ⟨⟨⟨hsel, hlen⟩, _⟩, hord⟩ := hB
  have hQ : ∀ c a d u w, Q (.panic c) (Act.put a d u) w → Q (.panic c) a w := by
    intro c a d u w h
    cases d with
    | none => exact h
    | some t => exact hQ0 c a _ w h
  refine wp_region_any hm ?_
  have H := any_of_U _ _ _ _ (U_of_ord (md := .any) hsel hQ r true _ a w.drew (fun _ => rfl) hord (fun _ => hS) h)
  rw [hlen] at H
  simpa using H

theorem ord_pure {i : Nat} {o : Oper} {r : List (Nat × Option Bool)} {b : Bool} {a : Act} {w : World} (v : Value) (h0 : ops[i]? = some o) (hw : Region.wanted o (yielded ops a.tmps) = true)
    (hv : ∀ w, (execOp a.eval o).run P w = .ok (.value v) w) (h : wpOrd P ops Q S s r b (a.put o.dst v) w) : wpOrd P ops Q S s ((i, some true) :: r) b a w :=
  ⟨o, v, h0, .inl ⟨hw, fun w _ => hv w⟩, h⟩
theorem ord_held {i : Nat} {o : Oper} {r : List (Nat × Option Bool)} {b : Bool} {a : Act} {w : World} (v : Value) (h0 : ops[i]? = some o) (hw : Region.wanted o (yielded ops a.tmps) = true)
    (hv : ∀ w, S w → (execOp a.eval o).run P w = .ok (.value v) w) (h : wpOrd P ops Q S s r b (a.put o.dst v) w) : wpOrd P ops Q S s ((i, some false) :: r) b a w :=
  ⟨o, v, h0, .inl ⟨hw, hv⟩, h⟩
theorem ord_load {i : Nat} {o : Oper} {r : List (Nat × Option Bool)} {b : Bool} {a : Act} {w : World} (ty : TypeId) (x : Operand) (h0 : ops[i]? = some o) (ho : o.op = .load ty x) (hw : Region.wanted o (yielded ops a.tmps) = true) {bl off : Nat}
    (hx : a.eval x = .pointer (some ⟨bl, off, none⟩)) {cs : List Value} (d : TypeDesc) (hS : ∀ w, S w → w.rangeAt bl off cs) (hu : P.underlying ty = some d) (hd : d.isRow = true) (hi : (P.info? ty).map (·.size) = some cs.length)
    (h : wpOrd P ops Q S s r b (a.put o.dst (.agg cs.toArray)) w) : wpOrd P ops Q S s ((i, some false) :: r) b a w :=
  ⟨o, _, h0, yieldsIf_load_mid hw ty x ho bl off hx cs d hS hu hd hi, h⟩
theorem ord_skip {i : Nat} {o : Oper} {m : Bool} {r : List (Nat × Option Bool)} {b : Bool} {a : Act} {w : World} (h0 : ops[i]? = some o) (hw : Region.wanted o (yielded ops a.tmps) = false)
    (h : wpOrd P ops Q S s r b (a.put o.dst undef) w) : wpOrd P ops Q S s ((i, some m) :: r) b a w := by
  cases m
  · exact ⟨o, undef, h0, .inr ⟨hw, rfl⟩, h⟩
  · exact ⟨o, undef, h0, .inr ⟨hw, rfl⟩, h⟩
theorem ord_go {i : Nat} {o : Oper} {r : List (Nat × Option Bool)} {b : Bool} {a : Act} {w : World} (h0 : ops[i]? = some o)
    (h : ∀ K' : Act → World → Prop, Shut (∀ a w, (ahead s i b = true → S w) → wpOrd P ops Q S s r (ahead s i b) a w → K' a w) → if Region.wanted o (yielded ops a.tmps) = true then Oper.wp P o a w K' Q else K' (a.put o.dst undef) w) :
    wpOrd P ops Q S s ((i, none) :: r) b a w :=
  wpOp_step h0 fun K' hK => h K' (fun a w hS hW => hK a w ⟨hS, hW⟩)
theorem ord_end {b : Bool} {a : Act} {w : World} (h : Q .normal a w) : wpOrd P ops Q S s [] b a w := h
theorem ord_pureE {i : Nat} {o : Oper} {r : List (Nat × Option Bool)} {b : Bool} {a : Act} {w : World} (h0 : ops[i]? = some o) (hw : Region.wanted o (yielded ops a.tmps) = true)
    (h : ∃ v, (∀ w, (execOp a.eval o).run P w = .ok (.value v) w) ∧ wpOrd P ops Q S s r b (a.put o.dst v) w) : wpOrd P ops Q S s ((i, some true) :: r) b a w := by
  obtain ⟨v, hv, h⟩ := h
  exact ord_pure v h0 hw hv h
theorem ord_heldE {i : Nat} {o : Oper} {r : List (Nat × Option Bool)} {b : Bool} {a : Act} {w : World} (h0 : ops[i]? = some o) (hw : Region.wanted o (yielded ops a.tmps) = true)
    (h : ∃ v, (∀ w, S w → (execOp a.eval o).run P w = .ok (.value v) w) ∧ wpOrd P ops Q S s r b (a.put o.dst v) w) : wpOrd P ops Q S s ((i, some false) :: r) b a w := by
  obtain ⟨v, hv, h⟩ := h
  exact ord_held v h0 hw hv h
end
end Go.Proofs.Ytllhnbnddcghoaa
