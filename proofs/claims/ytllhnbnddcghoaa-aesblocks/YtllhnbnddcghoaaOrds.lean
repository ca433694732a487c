/- A statement whose operations may come in more than one order, walked in the order of its text: which operations may be taken first is asked of the kernel once; a condition S on the world is shown behind each operation that is carried out ahead of number s. No call is walked here. -/
import Derived.Test.YtllhnbnddcghoaaRows
import Derived.OrdersHeld
import Derived.Deep.RegionHeld
import Derived.StillTail
namespace Go.Proofs.Ytllhnbnddcghoaa
set_option linter.unusedVariables false

section
variable {P : Program} {ops : Array Oper} {Q : Exit → Act → World → Prop} {md : Region.Mode} {S : World → Prop} {s : Nat}

/-- Whatever order is picked from here on; ahead of number s the condition holds behind each. -/
def anyU (P : Program) (md : Region.Mode) (ops : Array Oper) (Q : Exit → Act → World → Prop) (S : World → Prop) (s : Nat) : Nat → Array Bool → Act → World → Prop
  | 0, listed, a, w => Region.ready md ops listed = [] ∧ Q .normal a w
  | f + 1, listed, a, w =>
    (Region.ready md ops listed = [] → Q .normal a w) ∧
    ∀ i ∈ Region.ready md ops listed, wpOp P ops Q i (fun a' w' => ((listed.setIfInBounds i true).getD s true = false → S w') ∧ anyU P md ops Q S s f (listed.setIfInBounds i true) a' w') a w

theorem any_of_U : ∀ (f : Nat) (listed : Array Bool) (a : Act) (w : World), anyU P md ops Q S s f listed a w → wpAny P md ops Q f listed a w
  | 0, _, _, _, h => h
  | f + 1, _, _, _, h => ⟨h.1, fun i hi => wpOp_mono (fun a' w' k => any_of_U f _ a' w' k.2) (h.2 i hi)⟩

/-- One that may come up, and yields its value in each world that meets T, may be taken first: T is S, and number s waits for it, or T asks nothing. -/
theorem U_first {T : World → Prop} {i : Nat} {oi : Oper} {v : Value} (hi : ops[i]? = some oi) (hsel : ∀ (j : Nat) (o : Oper) cs b, ops[j]? = some o → o.op ≠ .select cs b)
    (hQ : ∀ c a d u w, Q (.panic c) (a.put d u) w → Q (.panic c) a w) (hne : i ≠ s) (hT : (∀ w, T w) ∨ (T = S ∧ Region.waitsFor md ops s i = true)) :
    ∀ (f : Nat) (listed : Array Bool) (a : Act) (w : World),
      (∀ j oj, ops[j]? = some oj → j ≠ i → listed.getD j true = false → (∀ e ∈ oj.after, Region.binds md e = true → e.on ≠ i) → oi.apart ops oj = true) →
      i ∈ Region.ready md ops listed → YieldsIf P ops T oi v a → listed.getD s true = false ∨ (∀ w, T w) → (listed.getD s true = false → S w) →
      anyU P md ops Q S s f (listed.setIfInBounds i true) (a.put oi.dst v) w → anyU P md ops Q S s (f + 1) listed a w := by
  have tw : ∀ {listed : Array Bool} {w : World}, (listed.getD s true = false ∨ ∀ w, T w) → (listed.getD s true = false → S w) → T w := by
    intro listed w h1 h2
    rcases h1 with h1 | h1
    · rcases hT with h | ⟨rfl, _⟩
      · exact h w
      · exact h2 h1
    · exact h1 w
  intro f
  induction f with
  | zero =>
    intro listed a w _ hr hy hu hS H
    refine ⟨fun h => (by rw [h] at hr; cases hr), fun j hj => ?_⟩
    by_cases hji : j = i
    · subst hji
      exact hy.wpOp hi (tw hu hS) ⟨fun hz => hS (by rwa [getD_set_ne true hne] at hz), H⟩
    · have := ready_mono hj hji
      rw [H.1] at this
      cases this
  | succ f ih =>
    intro listed a w hfree hr hy hu hS H
    refine ⟨fun h => (by rw [h] at hr; cases hr), fun j hj => ?_⟩
    by_cases hji : j = i
    · subst hji
      exact hy.wpOp hi (tw hu hS) ⟨fun hz => hS (by rwa [getD_set_ne true hne] at hz), H⟩
    · have h1 := H.2 j (ready_mono hj hji)
      obtain ⟨hjun, oj, hoj, hall⟩ := mem_ready.1 hj
      have hun := (mem_ready.1 hr).1
      have hnot : ∀ e ∈ oj.after, Region.binds md e = true → e.on ≠ i := fun e he hb heq => by
        have h2 := hall e he hb
        rw [heq, getD_both hun] at h2
        cases h2
      have hjs : listed.getD s true = false ∨ (∀ w, T w) → (listed.setIfInBounds j true).getD s true = false ∨ (∀ w, T w) := by
        intro hh
        rcases hh with hh | hh
        · rcases hT with h | ⟨_, hws⟩
          · exact .inr h
          · left
            obtain ⟨os, hos, e, he, hb, hon⟩ := Region.waitsFor_spec hws
            have : j ≠ s := fun hh => by
              subst hh
              have : oj = os := Option.some.inj (hoj.symm.trans hos)
              subst this
              exact hnot e he hb hon
            rw [getD_set_ne true this]; exact hh
        · exact .inr hh
      have h2 := wpOp_putIf hoj (hfree j oj hoj hji hjun hnot) (fun cs b => hsel i oi cs b hi) (fun cs b => hsel j oj cs b hoj) (fun c a w => hQ c a _ _ w) hy h1
      have hfree' : ∀ k ok, ops[k]? = some ok → k ≠ i → (listed.setIfInBounds j true).getD k true = false →
          (∀ e ∈ ok.after, Region.binds md e = true → e.on ≠ i) → oi.apart ops ok = true := fun k ok hk hki hkn hno => by
        refine hfree k ok hk hki ?_ hno
        by_cases hjk : j = k
        · subst hjk; exact hjun
        · rw [getD_set_ne true hjk] at hkn; exact hkn
      have hS' : ∀ {w' : World}, (((listed.setIfInBounds i true).setIfInBounds j true).getD s true = false → S w') → ((listed.setIfInBounds j true).getD s true = false → S w') := by
        intro w' hh hz
        refine hh ?_
        rw [Array.setIfInBounds_comm _ _ (Ne.symm hji), getD_set_ne true hne]
        exact hz
      refine wpOp_mono (fun a' w' h3 => ⟨hS' h3.2.1, ih (listed.setIfInBounds j true) a' w' hfree' (ready_mono hr (Ne.symm hji)) h3.1 (hjs hu) (hS' h3.2.1) ?_⟩) h2
      rw [Array.setIfInBounds_comm _ _ hji]
      exact h3.2.2

theorem U_take {T : World → Prop} {k : Nat} {o : Oper} {v : Value} {f : Nat} {listed : Array Bool} {a : Act} {w : World} (h0 : ops[k]? = some o) (hsel : Region.noSelect ops = true)
    (hQ : ∀ c a d u w, Q (.panic c) (a.put d u) w → Q (.panic c) a w) (hne : k ≠ s) (hT : (∀ w, T w) ∨ (T = S ∧ Region.waitsFor md ops s k = true)) (hf : Region.free md ops listed k = true)
    (hr : (Region.ready md ops listed).contains k = true) (hu : listed.getD s true = false ∨ (∀ w, T w)) (hy : YieldsIf P ops T o v a) (hS : listed.getD s true = false → S w)
    (h : anyU P md ops Q S s f (listed.setIfInBounds k true) (a.put o.dst v) w) : anyU P md ops Q S s (f + 1) listed a w :=
  U_first h0 (Region.noSelect_spec hsel) hQ hne hT f listed a w (Region.free_spec h0 hf) (by simpa using hr) hy hu hS h

/-- The first k have come up. -/
def upTo (n k : Nat) : Array Bool := Array.ofFn (n := n) fun i => decide (i.val < k)
theorem upTo_set (n k : Nat) : (upTo n k).setIfInBounds k true = upTo n (k + 1) := by
  apply Array.ext
  · simp [upTo]
  · intro j h1 h2
    simp only [upTo, Array.size_setIfInBounds, Array.size_ofFn] at h1
    rw [Array.getElem_setIfInBounds (by simpa [upTo] using h1)]
    simp only [upTo, Array.getElem_ofFn]
    by_cases e : k = j
    · subst e; simp
    · rw [if_neg e]
      by_cases e2 : j < k
      · simp [e2, show j < k + 1 by omega]
      · simp [e2, show ¬ j < k + 1 by omega]
theorem upTo_zero (n : Nat) : upTo n 0 = Array.replicate n false := by
  apply Array.ext
  · simp [upTo]
  · intro j h1 h2; simp [upTo]
theorem upTo_get (n k s : Nat) : (upTo n k).getD s true = false ↔ s < n ∧ k ≤ s := by
  by_cases h : s < n
  · simp [upTo, h]
  · simp [upTo, h]

/-- Modes: none: it alone may come up; true: it yields its value in whatever world; false: in each world that meets S, and number s waits for it. -/
def lexU (md : Region.Mode) (ops : Array Oper) (s : Nat) : List (Option Bool) → Nat → Bool
  | [], k => (Region.ready md ops (upTo ops.size k)).isEmpty
  | none :: r, k => decide (Region.ready md ops (upTo ops.size k) = [k]) && lexU md ops s r (k + 1)
  | some true :: r, k => (Region.ready md ops (upTo ops.size k)).contains k && Region.free md ops (upTo ops.size k) k && decide (k ≠ s) && lexU md ops s r (k + 1)
  | some false :: r, k => (Region.ready md ops (upTo ops.size k)).contains k && Region.free md ops (upTo ops.size k) k && decide (k < s ∧ s < ops.size) && Region.waitsFor md ops s k && lexU md ops s r (k + 1)

/-- In the order of the text. -/
def wpLex (P : Program) (ops : Array Oper) (Q : Exit → Act → World → Prop) (S : World → Prop) (s : Nat) : List (Option Bool) → List Oper → Nat → Act → World → Prop
  | none :: ms, o :: r, k, a, w => wpOp P ops Q k (fun a' w' => (k < s → S w') ∧ wpLex P ops Q S s ms r (k + 1) a' w') a w
  | some true :: ms, o :: r, k, a, w => ∃ v, YieldsIf P ops (fun _ => True) o v a ∧ wpLex P ops Q S s ms r (k + 1) (a.put o.dst v) w
  | some false :: ms, o :: r, k, a, w => ∃ v, YieldsIf P ops S o v a ∧ wpLex P ops Q S s ms r (k + 1) (a.put o.dst v) w
  | [], _, _, a, w => Q .normal a w
  | _ :: _, [], _, _, _ => False

theorem U_of_lex (hsel : Region.noSelect ops = true) (hQ : ∀ c a d u w, Q (.panic c) (a.put d u) w → Q (.panic c) a w) :
    ∀ (ms : List (Option Bool)) (l : List Oper) (k : Nat) (a : Act) (w : World), ms.length = l.length → (∀ j, l[j]? = ops[k + j]?) → lexU md ops s ms k = true →
      (k ≤ s → S w) → wpLex P ops Q S s ms l k a w → anyU P md ops Q S s ms.length (upTo ops.size k) a w
  | [], [], k, a, w, _, _, hB, _, h => ⟨by simpa [lexU] using hB, h⟩
  | [], _ :: _, _, _, _, hlen, _, _, _, _ => (by simp at hlen)
  | _ :: _, [], _, _, _, hlen, _, _, _, _ => (by simp at hlen)
  | none :: ms, o :: l, k, a, w, hlen, hl, hB, hS, h => by
    have h0 : ops[k]? = some o := by simpa using (hl 0).symm
    have hl' : ∀ j, l[j]? = ops[(k + 1) + j]? := fun j => by
      have h9 : l[j]? = ops[k + (j + 1)]? := hl (j + 1)
      rw [h9, show k + (j + 1) = k + 1 + j from by omega]
    have hB1 : decide (Region.ready md ops (upTo ops.size k) = [k]) = true ∧ lexU md ops s ms (k + 1) = true := Bool.and_eq_true_iff.1 hB
    have hm' := of_decide_eq_true hB1.1
    refine ⟨fun h1 => (by rw [hm'] at h1; cases h1), fun i hi => ?_⟩
    rw [hm'] at hi
    obtain rfl : i = k := by simpa using hi
    refine wpOp_mono (fun a' w' h3 => ?_) (show wpOp P ops Q i (fun a' w' => (i < s → S w') ∧ wpLex P ops Q S s ms l (i + 1) a' w') a w from h)
    rw [upTo_set]
    exact ⟨fun hz => h3.1 ((upTo_get _ _ _).1 hz).2, U_of_lex hsel hQ ms l (i + 1) a' w' (by simpa using hlen) hl' hB1.2 (fun hz => h3.1 hz) h3.2⟩
  | some true :: ms, o :: l, k, a, w, hlen, hl, hB, hS, h => by
    have h0 : ops[k]? = some o := by simpa using (hl 0).symm
    have hl' : ∀ j, l[j]? = ops[(k + 1) + j]? := fun j => by
      have h9 : l[j]? = ops[k + (j + 1)]? := hl (j + 1)
      rw [h9, show k + (j + 1) = k + 1 + j from by omega]
    simp only [lexU, Bool.and_eq_true, decide_eq_true_eq] at hB
    obtain ⟨⟨⟨hr, hf⟩, hne⟩, hB'⟩ := hB
    obtain ⟨v, hy, hk⟩ : ∃ v, YieldsIf P ops (fun _ => True) o v a ∧ wpLex P ops Q S s ms l (k + 1) (a.put o.dst v) w := h
    refine U_take h0 hsel hQ hne (.inl fun _ => trivial) hf hr (.inr fun _ => trivial) hy (fun hz => hS ((upTo_get _ _ _).1 hz).2) ?_
    rw [upTo_set]
    exact U_of_lex hsel hQ ms l (k + 1) _ w (by simpa using hlen) hl' hB' (fun hz => hS (by omega)) hk
  | some false :: ms, o :: l, k, a, w, hlen, hl, hB, hS, h => by
    have h0 : ops[k]? = some o := by simpa using (hl 0).symm
    have hl' : ∀ j, l[j]? = ops[(k + 1) + j]? := fun j => by
      have h9 : l[j]? = ops[k + (j + 1)]? := hl (j + 1)
      rw [h9, show k + (j + 1) = k + 1 + j from by omega]
    simp only [lexU, Bool.and_eq_true, decide_eq_true_eq] at hB
    obtain ⟨⟨⟨⟨hr, hf⟩, hks⟩, hws⟩, hB'⟩ := hB
    obtain ⟨v, hy, hk⟩ : ∃ v, YieldsIf P ops S o v a ∧ wpLex P ops Q S s ms l (k + 1) (a.put o.dst v) w := h
    refine U_take h0 hsel hQ (by omega) (.inr ⟨rfl, hws⟩) hf hr (.inl ((upTo_get _ _ _).2 ⟨hks.2, by omega⟩)) hy (fun hz => hS ((upTo_get _ _ _).1 hz).2) ?_
    rw [upTo_set]
    exact U_of_lex hsel hQ ms l (k + 1) _ w (by simpa using hlen) hl' hB' (fun hz => hS (by omega)) hk

/-- The law: a region that draws its order, in the order of its text. -/
theorem wp_region_lex {id : Nat} {l : List Oper} {a : Act} {w : World} (S : World → Prop) (s : Nat) (ms : List (Option Bool)) (hm : P.follows .mixedOrders = true)
    (hB : (Region.noSelect l.toArray && decide (ms.length = l.length) && lexU .any l.toArray s ms 0) = true)
    (hQ0 : ∀ c (a : Act) tm w, Q (.panic c) { a with tmps := tm } w → Q (.panic c) a w) (hS : S w.drew) (h : wpLex P l.toArray Q S s ms l 0 a w.drew) : (Code.region id l.toArray true).wp P Q a w := by
  simp only [Bool.and_eq_true, decide_eq_true_eq] at hB
  obtain ⟨⟨hsel, hlen⟩, hlex⟩ := hB
  have hQ : ∀ c a d u w, Q (.panic c) (Act.put a d u) w → Q (.panic c) a w := by
    intro c a d u w h
    cases d with
    | none => exact h
    | some t => exact hQ0 c a _ w h
  refine wp_region_any hm ?_
  have H := any_of_U _ _ _ _ (U_of_lex (md := .any) hsel hQ ms l 0 a w.drew hlen (fun j => by simp) hlex (fun _ => hS) h)
  rw [upTo_zero, hlen] at H
  simpa using H

/-- Reads first, then one row of operations: over the world behind the draw. -/
theorem region_tail {id : Nat} {l : List Oper} {a : Act} {w : World} (n : Nat) (hm : P.follows .mixedOrders = true) (hB : Region.lexTailB .any l.toArray n = true)
    (h : wpStill P l.toArray w.drew (fun a' => wpList P l.toArray Q (l.drop n) a' w.drew) (l.take n) a) : (Code.region id l.toArray true).wp P Q a w := wp_region_still_tail n hm hB h

theorem lex_pure {o : Oper} {ms : List (Option Bool)} {r : List Oper} {k : Nat} {a : Act} {w : World} (v : Value) (hw : Region.wanted o (yielded ops a.tmps) = true)
    (hv : ∀ w, (execOp a.eval o).run P w = .ok (.value v) w) (h : wpLex P ops Q S s ms r (k + 1) (a.put o.dst v) w) : wpLex P ops Q S s (some true :: ms) (o :: r) k a w :=
  ⟨v, .inl ⟨hw, fun w _ => hv w⟩, h⟩
theorem lex_held {o : Oper} {ms : List (Option Bool)} {r : List Oper} {k : Nat} {a : Act} {w : World} (v : Value) (hw : Region.wanted o (yielded ops a.tmps) = true)
    (hv : ∀ w, S w → (execOp a.eval o).run P w = .ok (.value v) w) (h : wpLex P ops Q S s ms r (k + 1) (a.put o.dst v) w) : wpLex P ops Q S s (some false :: ms) (o :: r) k a w :=
  ⟨v, .inl ⟨hw, hv⟩, h⟩
theorem lex_load {o : Oper} {ms : List (Option Bool)} {r : List Oper} {k : Nat} {a : Act} {w : World} (ty : TypeId) (x : Operand) (ho : o.op = .load ty x) (hw : Region.wanted o (yielded ops a.tmps) = true) {b off : Nat}
    (hx : a.eval x = .pointer (some ⟨b, off, none⟩)) {cs : List Value} (d : TypeDesc) (hS : ∀ w, S w → w.rangeAt b off cs) (hu : P.underlying ty = some d) (hd : d.isRow = true) (hi : (P.info? ty).map (·.size) = some cs.length)
    (h : wpLex P ops Q S s ms r (k + 1) (a.put o.dst (.agg cs.toArray)) w) : wpLex P ops Q S s (some false :: ms) (o :: r) k a w :=
  ⟨_, yieldsIf_load_mid hw ty x ho b off hx cs d hS hu hd hi, h⟩
theorem lex_skip {o : Oper} {m : Bool} {ms : List (Option Bool)} {r : List Oper} {k : Nat} {a : Act} {w : World} (hw : Region.wanted o (yielded ops a.tmps) = false)
    (h : wpLex P ops Q S s ms r (k + 1) (a.put o.dst undef) w) : wpLex P ops Q S s (some m :: ms) (o :: r) k a w := by
  cases m
  · exact ⟨undef, .inr ⟨hw, rfl⟩, h⟩
  · exact ⟨undef, .inr ⟨hw, rfl⟩, h⟩
theorem lex_go {o : Oper} {ms : List (Option Bool)} {r : List Oper} {k : Nat} {a : Act} {w : World} (h0 : ops[k]? = some o)
    (h : ∀ K' : Act → World → Prop, Shut (∀ a w, (k < s → S w) → wpLex P ops Q S s ms r (k + 1) a w → K' a w) → if Region.wanted o (yielded ops a.tmps) = true then Oper.wp P o a w K' Q else K' (a.put o.dst undef) w) :
    wpLex P ops Q S s (none :: ms) (o :: r) k a w :=
  wpOp_step h0 fun K' hK => h K' (fun a w hS hW => hK a w ⟨hS, hW⟩)
/-- Behind s: as a plain row of operations. -/
theorem lex_rest0 {r : List Oper} : ∀ {ms : List (Option Bool)} {k : Nat} {a : Act} {w : World}, s ≤ k → ms.all (fun m => m.isNone) = true → ms.length = r.length → (∀ j, r[j]? = ops[k + j]?) → wpList P ops Q r a w → wpLex P ops Q S s ms r k a w := by
  induction r with
  | nil =>
    intro ms k a w _ _ hlen _ h
    obtain rfl : ms = [] := List.length_eq_zero_iff.1 hlen
    exact h
  | cons o r ih =>
    intro ms k a w hs hall hlen hl h
    match ms, hlen, hall with
    | none :: ms, hlen, hall =>
      have h0 : ops[k]? = some o := by simpa using (hl 0).symm
      have hw : wpOp P ops Q k (wpList P ops Q r) a w := by unfold wpOp; simp only [h0]; exact h
      exact wpOp_mono (fun a' w' h' => ⟨fun hz => by omega, ih (by omega) (by simpa using hall) (by simpa using hlen) (fun j => by
        have h9 : r[j]? = ops[k + (j + 1)]? := hl (j + 1)
        rw [h9, show k + (j + 1) = k + 1 + j from by omega]) h'⟩) hw
    | some _ :: ms, _, hall => simp at hall
theorem lex_rest {r : List Oper} {ms : List (Option Bool)} {k : Nat} {a : Act} {w : World} (hs : s ≤ k) (hB : (ms.all (fun m => m.isNone) && decide (ms.length = r.length)) = true) (hl : r = ops.toList.drop k) (h : wpList P ops Q r a w) : wpLex P ops Q S s ms r k a w := by
  simp only [Bool.and_eq_true, decide_eq_true_eq] at hB
  exact lex_rest0 hs hB.1 hB.2 (fun j => by rw [hl, List.getElem?_drop]; simp) h
theorem lex_end {k : Nat} {a : Act} {w : World} (h : Q .normal a w) : wpLex P ops Q S s [] [] k a w := h
end
end Go.Proofs.Ytllhnbnddcghoaa
