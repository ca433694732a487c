/- Several texts of ours, one behind the other; what each is for stands ahead of it. -/
import Derived.Test.YtknjmmbebkcnpaaRun1
import Derived.Test.YtknjmmbebkcnpaaRows
import Derived.OrdersHeld
import Derived.Deep.RegionHeld
import Derived.StillTail

/- Rows of a call's own that grow: of numbers, of bytes; append of a row, of a string; bytes of a string. No call is walked here. -/
namespace Go.Proofs.Ytknjmmbebkcnpaa
open Go.RowKit Bk
set_option linter.unusedVariables false
set_option linter.unusedSimpArgs false

/-- A slice of the call's own, in a block from B on: what it holds, and room behind it. -/
def Ow (w : World) (B : Nat) (v : Value) (n : Nat) (xs : List Value) : Prop :=
  xs.length = n ∧ ((v = .slice none 0 0 ∧ n = 0) ∨ ∃ g cap zs, v = .slice (some ⟨g, 0, none⟩) n cap ∧ B ≤ g ∧ n ≤ cap ∧ zs.length = cap - n ∧ Row w g 0 (xs ++ zs))
theorem Ow.nil (w : World) (B : Nat) : Ow w B (.slice none 0 0) 0 [] := ⟨rfl, .inl ⟨rfl, rfl⟩⟩
theorem Ow.keep {w w' : World} {B : Nat} {v : Value} {n : Nat} {xs : List Value} (h : Ow w B v n xs) (k : Below w.heap.size w w') : Ow w' B v n xs := by
  refine ⟨h.1, ?_⟩
  rcases h.2 with h0 | ⟨g, cap, zs, hv, hg, hn, hz, hR⟩
  · exact .inl h0
  · exact .inr ⟨g, cap, zs, hv, hg, hn, hz, hR.below k hR.lt⟩
theorem Ow.drew {w : World} {B : Nat} {v : Value} {n : Nat} {xs : List Value} (h : Ow w B v n xs) : Ow w.drew B v n xs := by
  refine ⟨h.1, ?_⟩
  rcases h.2 with h0 | ⟨g, cap, zs, hv, hg, hn, hz, hR⟩
  · exact .inl h0
  · exact .inr ⟨g, cap, zs, hv, hg, hn, hz, hR.drew⟩
theorem Ow.drewN {w : World} {B : Nat} {v : Value} {n : Nat} {xs : List Value} (h : Ow w B v n xs) (q : Nat) : Ow (w.drewN q) B v n xs := by
  refine ⟨h.1, ?_⟩
  rcases h.2 with h0 | ⟨g, cap, zs, hv, hg, hn, hz, hR⟩
  · exact .inl h0
  · exact .inr ⟨g, cap, zs, hv, hg, hn, hz, hR.drewN q⟩
theorem Ow.row {w : World} {B : Nat} {v : Value} {n : Nat} {xs : List Value} (h : Ow w B v n xs) (hn : 0 < n) : ∃ g cap, v = .slice (some ⟨g, 0, none⟩) n cap ∧ B ≤ g ∧ n ≤ cap ∧ Row w g 0 xs := by
  rcases h.2 with ⟨_, h0⟩ | ⟨g, cap, zs, hv, hg, hc, hz, hR⟩
  · omega
  · exact ⟨g, cap, hv, hg, hc, hR.left⟩
theorem Ow.shape {w : World} {B : Nat} {v : Value} {n : Nat} {xs : List Value} (h : Ow w B v n xs) : ∃ a cap, v = .slice a n cap ∧ n ≤ cap := by
  rcases h.2 with ⟨rfl, rfl⟩ | ⟨g, cap, zs, hv, hg, hc, hz, hR⟩
  · exact ⟨none, 0, rfl, Nat.le_refl _⟩
  · exact ⟨_, cap, hv, hc⟩
theorem Ow.made (w : World) (B : Nat) (hB : B ≤ w.heap.size) (xs : List Value) (t : TypeId) : Ow (w.alloc (.cells xs.toArray t)) B (.slice (some ⟨w.heap.size, 0, none⟩) xs.length xs.length) xs.length xs :=
  ⟨rfl, .inr ⟨w.heap.size, xs.length, [], rfl, hB, Nat.le_refl _, by simp, by rw [List.append_nil]; exact Row.newL w xs t⟩⟩
theorem Ow.src {P : Program} {w : World} {B : Nat} {v : Value} {n : Nat} {xs : List Value} {tx e : TypeId} (h : Ow w B v n xs) (hk : P.underlying tx = some (.slice e)) (h1 : ∀ u ∈ xs, u.oneCell' = true) : Src P 1 tx v n xs w := by
  obtain ⟨hl, h⟩ := h
  rcases h with ⟨rfl, rfl⟩ | ⟨g, cap, zs, rfl, hg, hn, hz, hR⟩
  · obtain rfl : xs = [] := List.length_eq_zero_iff.1 hl
    exact Src.ofNil w hk 0
  · exact Src.ofSlice w hk ⟨g, 0, none⟩ n cap xs (by rw [hl, Nat.mul_one]) (fun j u hj => by rw [Addr.add_mid]; exact hR.left.cell j u hj) h1
theorem Row.src {P : Program} {w : World} {g o n cap : Nat} {xs : List Value} {tx e : TypeId} (h : Row w g o xs) (hl : xs.length = n) (hk : P.underlying tx = some (.slice e)) (h1 : ∀ u ∈ xs, u.oneCell' = true) : Src P 1 tx (.slice (some ⟨g, o, none⟩) n cap) n xs w :=
  Src.ofSlice w hk ⟨g, o, none⟩ n cap xs (by rw [hl, Nat.mul_one]) (fun j u hj => by rw [Addr.add_mid]; exact h.cell j u hj) h1

section
variable {P : Program} {ops : Array Oper} {rest : List Oper} {o : Oper} {a : Act} {w : World} {Q : Exit → Act → World → Prop}
theorem run_appendO (w : World) (t tx ty e : TypeId) (ht : P.underlying t = some (.slice e)) {z : Value} {bytes : Nat} (hinfo : (P.info? e).map (fun i => (i.zero, i.size, i.bytes)) = some (some z, 1, bytes)) (hb : bytes ≤ 16) (hz1 : z.cells.size = 1)
    {B n m : Nat} {v xv : Value} {xs news : List Value} (hO : Ow w B v n xs) (hsrc : Src P 1 tx xv m news w) (hnm : n + m ≤ 1000000) (hB : B ≤ w.heap.size) (h1 : ∀ u ∈ xs, u.oneCell' = true) :
    ∃ v' w', (Builtin.append_ #[t, tx] ty #[v, xv]).run P w = .ok v' w' ∧ Ow w' B v' (n + m) (xs ++ news) ∧ Below B w w' := by
  obtain ⟨i, hi, hz, hs, hy⟩ := info_parts hinfo
  have hnl : news.length = m := by have := hsrc.newsLen; omega
  obtain ⟨hl, hO⟩ := hO
  have growcase : ∀ (base : Option Addr) (cap : Nat), n ≤ cap → cap < n + m → (Builtin.firstCells 1 n (.slice base n cap)).run P w.drew = .ok xs.toArray w.drew →
      ∃ v' w', (Builtin.append_ #[t, tx] ty #[.slice base n cap, xv]).run P w = .ok v' w' ∧ Ow w' B v' (n + m) (xs ++ news) ∧ Below B w w' := by
    intro base cap hc hg hold
    have hfit : Builtin.nextslicecap (n + m) cap * i.bytes ≤ 281474976710656 := by
      have h2 := nextslicecap_le (need := n + m) (old := cap) hg
      rw [hy]
      exact Nat.le_trans (Nat.mul_le_mul h2 hb) (by omega)
    have hrun := run_append_grow_src (P := P) w t tx ty e i z ht hi hz base n cap xs (by rw [hs]; exact hold) xv m news (by rw [hs]; exact hsrc) hg (by omega) hfit
    have hge := grownCap_ge w (n + m) cap e
    refine ⟨_, _, hrun, ⟨by rw [List.length_append, hl, hnl], .inr ⟨w.heap.size, _, (Builtin.zeroCells z.cells (grownCap w (n + m) cap e - (n + m))).toList, rfl, hB, hge, ?_, ?_⟩⟩, ((Below.refl _ w).drew).alloc hB _⟩
    · simp [Builtin.zeroCells, hz1]
    · have k := Row.new w.drew ((xs ++ news).toArray ++ Builtin.zeroCells z.cells (grownCap w (n + m) cap e - (n + m))) e
      rw [Array.toList_append] at k
      exact k
  rcases hO with ⟨rfl, rfl⟩ | ⟨g, cap, zs, rfl, hg, hn, hzl, hR⟩
  · obtain rfl : xs = [] := List.length_eq_zero_iff.1 hl
    by_cases hm : m = 0
    · subst hm
      obtain rfl : news = [] := List.length_eq_zero_iff.1 hnl
      refine ⟨.slice none 0 0, w, ?_, Ow.nil w B, Below.refl _ _⟩
      have hc := hsrc.cells
      rcases hsrc.kind with ⟨e', hk⟩ | hk <;> simp [Builtin.append_, run_underlying ht, run_underlying hk, sizeOf, typeInfo, hi, hs, hsrc.len, hc]
    · exact growcase none 0 (Nat.le_refl _) (by omega) (run_firstCells_none _ _ _ _ _)
  · by_cases hroom : n + m ≤ cap
    · have hsp : zs = zs.take m ++ zs.drop m := (List.take_append_drop m zs).symm
      have hR2 := hR.right
      rw [hsp] at hR2
      have hRm := hR2.left
      have hRr := hR2.right
      have hlm : (zs.take m).length = m := by rw [List.length_take]; omega
      have ht' := hRm.there
      rw [hlm, hl, Nat.zero_add] at ht'
      have hrun := run_append_room_src (P := P) w t tx ty e i ht hi g 0 n cap xv m news (by rw [hs]; exact hsrc) hroom (fun j hj => by rw [hs, Nat.mul_one, Nat.zero_add]; exact (ht' j (by omega)).1) (fun j hj => by rw [hs, Nat.mul_one, Nat.zero_add]; exact (ht' j (by omega)).2)
      rw [hs, Nat.mul_one, Nat.zero_add] at hrun
      refine ⟨_, _, hrun, ⟨by rw [List.length_append, hl, hnl], .inr ⟨g, cap, zs.drop m, rfl, hg, hroom, by rw [List.length_drop]; omega, ?_⟩⟩, below_setCells hg _ _ _⟩
      rw [List.append_assoc]
      refine (hR.left.apart g n news (.inr (.inl (by omega)))).join ?_
      have e0 : 0 + xs.length = n := by omega
      rw [e0]
      rw [e0] at hRm hRr
      refine (hRm.put news (by rw [hnl, hlm])).join ?_
      rw [hnl]
      rw [hlm] at hRr
      exact hRr.apart g n news (.inr (.inr (by omega)))
    · exact growcase (some ⟨g, 0, none⟩) cap hn (by omega) (run_firstCells_some w.drew 1 n ⟨g, 0, none⟩ n cap xs (by omega) (fun j u hj => by rw [Addr.add_mid]; exact hR.drew.left.cell j u hj))
theorem wpList_appendO (hg : o.guard = none) (d x : Operand) (t tx : TypeId) (ho : o.op = .call { callee := .builtin .append, args := #[d, x], argTypes := #[t, tx] }) (e : TypeId) (ht : P.underlying t = some (.slice e)) {z : Value} {bytes : Nat}
    (hinfo : (P.info? e).map (fun i => (i.zero, i.size, i.bytes)) = some (some z, 1, bytes)) (hb : bytes ≤ 16) (hz1 : z.cells.size = 1) {B n m : Nat} {v xv : Value} {xs news : List Value} (hd : a.eval d = v) (hx : a.eval x = xv) (hO : Ow w B v n xs) (hsrc : Src P 1 tx xv m news w)
    (hnm : n + m ≤ 1000000) (hB : B ≤ w.heap.size) (h1 : ∀ u ∈ xs, u.oneCell' = true)
    (h : ∀ v' w', Ow w' B v' (n + m) (xs ++ news) → Below B w w' → wpList P ops Q rest (a.put o.dst v') w') : wpList P ops Q (o :: rest) a w := by
  refine wpList_plain hg fun K hK => ?_
  obtain ⟨v', w', hrun, hOw, hBl⟩ := run_appendO (P := P) w t tx o.type e ht hinfo hb hz1 hO hsrc hnm hB h1
  unfold Oper.wp
  simp [execOp, ho, resolve, invoke, builtin, hd, hx, hrun, Result.andThen]
  exact hK _ _ (h v' w' hOw hBl)
/-- The bytes of a string, as a row of the call's own. -/
theorem run_bytesO (w : World) (src dst e : TypeId) (s : ByteArray) (hs : P.underlying src = some .string) (hd : P.underlying dst = some (.slice e)) (he : P.underlying e = some (.int .u8)) :
    ∃ v w', (convert src dst (.string s)).run P w = .ok v w' ∧ Ow w' w.heap.size v s.size (bs (sb s)) ∧ Below w.heap.size w w' := by
  refine ⟨_, _, run_bytes_of_string w src dst e s hs hd he, ⟨by rw [bs_length, sb_length], .inr ⟨w.heap.size, _, List.replicate (grownCap w s.size 0 e - s.size) (.int .u8 0), rfl, Nat.le_refl _, grownCap_ge w s.size 0 e, by simp, ?_⟩⟩, ((Below.refl _ w).drew).alloc (Nat.le_refl _) _⟩
  have hsz : (bytesRow s (grownCap w s.size 0 e)).toList = bs (sb s) ++ List.replicate (grownCap w s.size 0 e - s.size) (.int .u8 0) := by
    unfold bytesRow bs sb
    simp
  refine ⟨by simp, fun j v hj => ?_, fun j hj => ?_⟩
  · rw [← hsz] at hj
    show (w.drew.alloc _).cell? ⟨w.heap.size, 0 + j, none⟩ = some v
    rw [cell_of_row _ w.heap.size (0 + j) _ _ _ (heap_alloc_last w.drew _), Nat.zero_add, ← hj, Array.getElem?_toList]
  · unfold World.frozen?
    rw [show (w.drew.alloc (.cells (bytesRow s (grownCap w s.size 0 e)) e ((bytesRow s (grownCap w s.size 0 e)).size, (bytesRow s (grownCap w s.size 0 e)).size + 1))).heap[w.heap.size]? = _ from heap_alloc_last w.drew _]
    have hl : (bytesRow s (grownCap w s.size 0 e)).size = (bs (sb s) ++ List.replicate (grownCap w s.size 0 e - s.size) (Value.int .u8 0)).length := by rw [← hsz, Array.length_toList]
    simp only [Nat.zero_add, hl]
    simp
    intro h
    simp at hj
    omega
end
end Go.Proofs.Ytknjmmbebkcnpaa

/- A statement whose operations may come in more than one order, walked in the order of its text: which operations may be taken first is asked of the kernel once; a condition S on the world is shown behind each operation that is carried out ahead of number s. No call is walked here. -/
namespace Go.Proofs.Ytknjmmbebkcnpaa
set_option linter.unusedVariables false

section
variable {P : Program} {ops : Array Oper} {Q : Exit → Act → World → Prop} {md : Region.Mode} {S : World → Prop} {s : Nat}

/-- Whatever order is picked from here on; ahead of number s the condition holds behind each. -/
def anyU (P : Program) (md : Region.Mode) (ops : Array Oper) (Q : Exit → Act → World → Prop) (S : World → Prop) (s : Nat) : Nat → Array Bool → Act → World → Prop
  | 0, listed, a, w => Region.ready md ops listed = [] ∧ Q .normal a w
  | f + 1, listed, a, w =>
    (Region.ready md ops listed = [] → Q .normal a w) ∧
    ∀ i ∈ Region.ready md ops listed, wpOp P ops Q i (fun a' w' => ((listed.setIfInBounds i true).getD s true = false → S w') ∧ anyU P md ops Q S s f (listed.setIfInBounds i true) a' w') a w

theorem any_of_U : ∀ (f : Nat) (listed : Array Bool) (a : Act) (w : World), anyU P md ops Q S s f listed a w → wpAny P md ops Q f listed a w
  | 0, _, _, _, h => h
  | f + 1, _, _, _, h => ⟨h.1, fun i hi => wpOp_mono (fun a' w' k => any_of_U f _ a' w' k.2) (h.2 i hi)⟩

/-- One that may come up, and yields its value in each world that meets T, may be taken first: T is S, and number s waits for it, or T asks nothing. -/
theorem U_first {T : World → Prop} {i : Nat} {oi : Oper} {v : Value} (hi : ops[i]? = some oi) (hsel : ∀ (j : Nat) (o : Oper) cs b, ops[j]? = some o → o.op ≠ .select cs b)
    (hQ : ∀ c a d u w, Q (.panic c) (a.put d u) w → Q (.panic c) a w) (hne : i ≠ s) (hT : (∀ w, T w) ∨ (T = S ∧ Region.waitsFor md ops s i = true)) :
    ∀ (f : Nat) (listed : Array Bool) (a : Act) (w : World),
      (∀ j oj, ops[j]? = some oj → j ≠ i → listed.getD j true = false → (∀ e ∈ oj.after, Region.binds md e = true → e.on ≠ i) → oi.apart ops oj = true) →
      i ∈ Region.ready md ops listed → YieldsIf P ops T oi v a → listed.getD s true = false ∨ (∀ w, T w) → (listed.getD s true = false → S w) →
      anyU P md ops Q S s f (listed.setIfInBounds i true) (a.put oi.dst v) w → anyU P md ops Q S s (f + 1) listed a w := by
  have tw : ∀ {listed : Array Bool} {w : World}, (listed.getD s true = false ∨ ∀ w, T w) → (listed.getD s true = false → S w) → T w := by
    intro listed w h1 h2
    rcases h1 with h1 | h1
    · rcases hT with h | ⟨rfl, _⟩
      · exact h w
      · exact h2 h1
    · exact h1 w
  intro f
  induction f with
  | zero =>
    intro listed a w _ hr hy hu hS H
    refine ⟨fun h => (by rw [h] at hr; cases hr), fun j hj => ?_⟩
    by_cases hji : j = i
    · subst hji
      exact hy.wpOp hi (tw hu hS) ⟨fun hz => hS (by rwa [getD_set_ne true hne] at hz), H⟩
    · have := ready_mono hj hji
      rw [H.1] at this
      cases this
  | succ f ih =>
    intro listed a w hfree hr hy hu hS H
    refine ⟨fun h => (by rw [h] at hr; cases hr), fun j hj => ?_⟩
    by_cases hji : j = i
    · subst hji
      exact hy.wpOp hi (tw hu hS) ⟨fun hz => hS (by rwa [getD_set_ne true hne] at hz), H⟩
    · have h1 := H.2 j (ready_mono hj hji)
      obtain ⟨hjun, oj, hoj, hall⟩ := mem_ready.1 hj
      have hun := (mem_ready.1 hr).1
      have hnot : ∀ e ∈ oj.after, Region.binds md e = true → e.on ≠ i := fun e he hb heq => by
        have h2 := hall e he hb
        rw [heq, getD_both hun] at h2
        cases h2
      have hjs : listed.getD s true = false ∨ (∀ w, T w) → (listed.setIfInBounds j true).getD s true = false ∨ (∀ w, T w) := by
        intro hh
        rcases hh with hh | hh
        · rcases hT with h | ⟨_, hws⟩
          · exact .inr h
          · left
            obtain ⟨os, hos, e, he, hb, hon⟩ := Region.waitsFor_spec hws
            have : j ≠ s := fun hh => by
              subst hh
              have : oj = os := Option.some.inj (hoj.symm.trans hos)
              subst this
              exact hnot e he hb hon
            rw [getD_set_ne true this]; exact hh
        · exact .inr hh
      have h2 := wpOp_putIf hoj (hfree j oj hoj hji hjun hnot) (fun cs b => hsel i oi cs b hi) (fun cs b => hsel j oj cs b hoj) (fun c a w => hQ c a _ _ w) hy h1
      have hfree' : ∀ k ok, ops[k]? = some ok → k ≠ i → (listed.setIfInBounds j true).getD k true = false →
          (∀ e ∈ ok.after, Region.binds md e = true → e.on ≠ i) → oi.apart ops ok = true := fun k ok hk hki hkn hno => by
        refine hfree k ok hk hki ?_ hno
        by_cases hjk : j = k
        · subst hjk; exact hjun
        · rw [getD_set_ne true hjk] at hkn; exact hkn
      have hS' : ∀ {w' : World}, (((listed.setIfInBounds i true).setIfInBounds j true).getD s true = false → S w') → ((listed.setIfInBounds j true).getD s true = false → S w') := by
        intro w' hh hz
        refine hh ?_
        rw [Array.setIfInBounds_comm _ _ (Ne.symm hji), getD_set_ne true hne]
        exact hz
      refine wpOp_mono (fun a' w' h3 => ⟨hS' h3.2.1, ih (listed.setIfInBounds j true) a' w' hfree' (ready_mono hr (Ne.symm hji)) h3.1 (hjs hu) (hS' h3.2.1) ?_⟩) h2
      rw [Array.setIfInBounds_comm _ _ hji]
      exact h3.2.2

theorem U_take {T : World → Prop} {k : Nat} {o : Oper} {v : Value} {f : Nat} {listed : Array Bool} {a : Act} {w : World} (h0 : ops[k]? = some o) (hsel : Region.noSelect ops = true)
    (hQ : ∀ c a d u w, Q (.panic c) (a.put d u) w → Q (.panic c) a w) (hne : k ≠ s) (hT : (∀ w, T w) ∨ (T = S ∧ Region.waitsFor md ops s k = true)) (hf : Region.free md ops listed k = true)
    (hr : (Region.ready md ops listed).contains k = true) (hu : listed.getD s true = false ∨ (∀ w, T w)) (hy : YieldsIf P ops T o v a) (hS : listed.getD s true = false → S w)
    (h : anyU P md ops Q S s f (listed.setIfInBounds k true) (a.put o.dst v) w) : anyU P md ops Q S s (f + 1) listed a w :=
  U_first h0 (Region.noSelect_spec hsel) hQ hne hT f listed a w (Region.free_spec h0 hf) (by simpa using hr) hy hu hS h

/-- The first k have come up. -/
def upTo (n k : Nat) : Array Bool := Array.ofFn (n := n) fun i => decide (i.val < k)
theorem upTo_set (n k : Nat) : (upTo n k).setIfInBounds k true = upTo n (k + 1) := by
  apply Array.ext
  · simp [upTo]
  · intro j h1 h2
    simp only [upTo, Array.size_setIfInBounds, Array.size_ofFn] at h1
    rw [Array.getElem_setIfInBounds (by simpa [upTo] using h1)]
    simp only [upTo, Array.getElem_ofFn]
    by_cases e : k = j
    · subst e; simp
    · rw [if_neg e]
      by_cases e2 : j < k
      · simp [e2, show j < k + 1 by omega]
      · simp [e2, show ¬ j < k + 1 by omega]
theorem upTo_zero (n : Nat) : upTo n 0 = Array.replicate n false := by
  apply Array.ext
  · simp [upTo]
  · intro j h1 h2; simp [upTo]
theorem upTo_get (n k s : Nat) : (upTo n k).getD s true = false ↔ s < n ∧ k ≤ s := by
  by_cases h : s < n
  · simp [upTo, h]
  · simp [upTo, h]

/-- Modes: none: it alone may come up; true: it yields its value in whatever world; false: in each world that meets S, and number s waits for it. -/
def lexU (md : Region.Mode) (ops : Array Oper) (s : Nat) : List (Option Bool) → Nat → Bool
  | [], k => (Region.ready md ops (upTo ops.size k)).isEmpty
  | none :: r, k => decide (Region.ready md ops (upTo ops.size k) = [k]) && lexU md ops s r (k + 1)
  | some true :: r, k => (Region.ready md ops (upTo ops.size k)).contains k && Region.free md ops (upTo ops.size k) k && decide (k ≠ s) && lexU md ops s r (k + 1)
  | some false :: r, k => (Region.ready md ops (upTo ops.size k)).contains k && Region.free md ops (upTo ops.size k) k && decide (k < s ∧ s < ops.size) && Region.waitsFor md ops s k && lexU md ops s r (k + 1)

/-- In the order of the text. -/
def wpLex (P : Program) (ops : Array Oper) (Q : Exit → Act → World → Prop) (S : World → Prop) (s : Nat) : List (Option Bool) → List Oper → Nat → Act → World → Prop
  | none :: ms, o :: r, k, a, w => wpOp P ops Q k (fun a' w' => (k < s → S w') ∧ wpLex P ops Q S s ms r (k + 1) a' w') a w
  | some true :: ms, o :: r, k, a, w => ∃ v, YieldsIf P ops (fun _ => True) o v a ∧ wpLex P ops Q S s ms r (k + 1) (a.put o.dst v) w
  | some false :: ms, o :: r, k, a, w => ∃ v, YieldsIf P ops S o v a ∧ wpLex P ops Q S s ms r (k + 1) (a.put o.dst v) w
  | [], _, _, a, w => Q .normal a w
  | _ :: _, [], _, _, _ => False

theorem U_of_lex (hsel : Region.noSelect ops = true) (hQ : ∀ c a d u w, Q (.panic c) (a.put d u) w → Q (.panic c) a w) :
    ∀ (ms : List (Option Bool)) (l : List Oper) (k : Nat) (a : Act) (w : World), ms.length = l.length → (∀ j, l[j]? = ops[k + j]?) → lexU md ops s ms k = true →
      (k ≤ s → S w) → wpLex P ops Q S s ms l k a w → anyU P md ops Q S s ms.length (upTo ops.size k) a w
  | [], [], k, a, w, _, _, hB, _, h => ⟨by simpa [lexU] using hB, h⟩
  | [], _ :: _, _, _, _, hlen, _, _, _, _ => (by simp at hlen)
  | _ :: _, [], _, _, _, hlen, _, _, _, _ => (by simp at hlen)
  | none :: ms, o :: l, k, a, w, hlen, hl, hB, hS, h => by
    have h0 : ops[k]? = some o := by simpa using (hl 0).symm
    have hl' : ∀ j, l[j]? = ops[(k + 1) + j]? := fun j => by
      have h9 : l[j]? = ops[k + (j + 1)]? := hl (j + 1)
      rw [h9, show k + (j + 1) = k + 1 + j from by omega]
    have hB1 : decide (Region.ready md ops (upTo ops.size k) = [k]) = true ∧ lexU md ops s ms (k + 1) = true := Bool.and_eq_true_iff.1 hB
    have hm' := of_decide_eq_true hB1.1
    refine ⟨fun h1 => (by rw [hm'] at h1; cases h1), fun i hi => ?_⟩
    rw [hm'] at hi
    obtain rfl : i = k := by simpa using hi
    refine wpOp_mono (fun a' w' h3 => ?_) (show wpOp P ops Q i (fun a' w' => (i < s → S w') ∧ wpLex P ops Q S s ms l (i + 1) a' w') a w from h)
    rw [upTo_set]
    exact ⟨fun hz => h3.1 ((upTo_get _ _ _).1 hz).2, U_of_lex hsel hQ ms l (i + 1) a' w' (by simpa using hlen) hl' hB1.2 (fun hz => h3.1 hz) h3.2⟩
  | some true :: ms, o :: l, k, a, w, hlen, hl, hB, hS, h => by
    have h0 : ops[k]? = some o := by simpa using (hl 0).symm
    have hl' : ∀ j, l[j]? = ops[(k + 1) + j]? := fun j => by
      have h9 : l[j]? = ops[k + (j + 1)]? := hl (j + 1)
      rw [h9, show k + (j + 1) = k + 1 + j from by omega]
    simp only [lexU, Bool.and_eq_true, decide_eq_true_eq] at hB
    obtain ⟨⟨⟨hr, hf⟩, hne⟩, hB'⟩ := hB
    obtain ⟨v, hy, hk⟩ : ∃ v, YieldsIf P ops (fun _ => True) o v a ∧ wpLex P ops Q S s ms l (k + 1) (a.put o.dst v) w := h
    refine U_take h0 hsel hQ hne (.inl fun _ => trivial) hf hr (.inr fun _ => trivial) hy (fun hz => hS ((upTo_get _ _ _).1 hz).2) ?_
    rw [upTo_set]
    exact U_of_lex hsel hQ ms l (k + 1) _ w (by simpa using hlen) hl' hB' (fun hz => hS (by omega)) hk
  | some false :: ms, o :: l, k, a, w, hlen, hl, hB, hS, h => by
    have h0 : ops[k]? = some o := by simpa using (hl 0).symm
    have hl' : ∀ j, l[j]? = ops[(k + 1) + j]? := fun j => by
      have h9 : l[j]? = ops[k + (j + 1)]? := hl (j + 1)
      rw [h9, show k + (j + 1) = k + 1 + j from by omega]
    simp only [lexU, Bool.and_eq_true, decide_eq_true_eq] at hB
    obtain ⟨⟨⟨⟨hr, hf⟩, hks⟩, hws⟩, hB'⟩ := hB
    obtain ⟨v, hy, hk⟩ : ∃ v, YieldsIf P ops S o v a ∧ wpLex P ops Q S s ms l (k + 1) (a.put o.dst v) w := h
    refine U_take h0 hsel hQ (by omega) (.inr ⟨rfl, hws⟩) hf hr (.inl ((upTo_get _ _ _).2 ⟨hks.2, by omega⟩)) hy (fun hz => hS ((upTo_get _ _ _).1 hz).2) ?_
    rw [upTo_set]
    exact U_of_lex hsel hQ ms l (k + 1) _ w (by simpa using hlen) hl' hB' (fun hz => hS (by omega)) hk

/-- The law: a region that draws its order, in the order of its text. -/
theorem wp_region_lex {id : Nat} {l : List Oper} {a : Act} {w : World} (S : World → Prop) (s : Nat) (ms : List (Option Bool)) (hm : P.follows .mixedOrders = true)
    (hB : (Region.noSelect l.toArray && decide (ms.length = l.length) && lexU .any l.toArray s ms 0) = true)
    (hQ0 : ∀ c (a : Act) tm w, Q (.panic c) { a with tmps := tm } w → Q (.panic c) a w) (hS : S w.drew) (h : wpLex P l.toArray Q S s ms l 0 a w.drew) : (Code.region id l.toArray true).wp P Q a w := by
  simp only [Bool.and_eq_true, decide_eq_true_eq] at hB
  obtain ⟨⟨hsel, hlen⟩, hlex⟩ := hB
  have hQ : ∀ c a d u w, Q (.panic c) (Act.put a d u) w → Q (.panic c) a w := by
    intro c a d u w h
    cases d with
    | none => exact h
    | some t => exact hQ0 c a _ w h
  refine wp_region_any hm ?_
  have H := any_of_U _ _ _ _ (U_of_lex (md := .any) hsel hQ ms l 0 a w.drew hlen (fun j => by simp) hlex (fun _ => hS) h)
  rw [upTo_zero, hlen] at H
  simpa using H

/-- Reads first, then one row of operations: over the world behind the draw. -/
theorem region_tail {id : Nat} {l : List Oper} {a : Act} {w : World} (n : Nat) (hm : P.follows .mixedOrders = true) (hB : Region.lexTailB .any l.toArray n = true)
    (h : wpStill P l.toArray w.drew (fun a' => wpList P l.toArray Q (l.drop n) a' w.drew) (l.take n) a) : (Code.region id l.toArray true).wp P Q a w := wp_region_still_tail n hm hB h

theorem lex_pure {o : Oper} {ms : List (Option Bool)} {r : List Oper} {k : Nat} {a : Act} {w : World} (v : Value) (hw : Region.wanted o (yielded ops a.tmps) = true)
    (hv : ∀ w, (execOp a.eval o).run P w = .ok (.value v) w) (h : wpLex P ops Q S s ms r (k + 1) (a.put o.dst v) w) : wpLex P ops Q S s (some true :: ms) (o :: r) k a w :=
  ⟨v, .inl ⟨hw, fun w _ => hv w⟩, h⟩
theorem lex_held {o : Oper} {ms : List (Option Bool)} {r : List Oper} {k : Nat} {a : Act} {w : World} (v : Value) (hw : Region.wanted o (yielded ops a.tmps) = true)
    (hv : ∀ w, S w → (execOp a.eval o).run P w = .ok (.value v) w) (h : wpLex P ops Q S s ms r (k + 1) (a.put o.dst v) w) : wpLex P ops Q S s (some false :: ms) (o :: r) k a w :=
  ⟨v, .inl ⟨hw, hv⟩, h⟩
theorem lex_load {o : Oper} {ms : List (Option Bool)} {r : List Oper} {k : Nat} {a : Act} {w : World} (ty : TypeId) (x : Operand) (ho : o.op = .load ty x) (hw : Region.wanted o (yielded ops a.tmps) = true) {b off : Nat}
    (hx : a.eval x = .pointer (some ⟨b, off, none⟩)) {cs : List Value} (d : TypeDesc) (hS : ∀ w, S w → w.rangeAt b off cs) (hu : P.underlying ty = some d) (hd : d.isRow = true) (hi : (P.info? ty).map (·.size) = some cs.length)
    (h : wpLex P ops Q S s ms r (k + 1) (a.put o.dst (.agg cs.toArray)) w) : wpLex P ops Q S s (some false :: ms) (o :: r) k a w :=
  ⟨_, yieldsIf_load_mid hw ty x ho b off hx cs d hS hu hd hi, h⟩
theorem lex_skip {o : Oper} {m : Bool} {ms : List (Option Bool)} {r : List Oper} {k : Nat} {a : Act} {w : World} (hw : Region.wanted o (yielded ops a.tmps) = false)
    (h : wpLex P ops Q S s ms r (k + 1) (a.put o.dst undef) w) : wpLex P ops Q S s (some m :: ms) (o :: r) k a w := by
  cases m
  · exact ⟨undef, .inr ⟨hw, rfl⟩, h⟩
  · exact ⟨undef, .inr ⟨hw, rfl⟩, h⟩
theorem lex_go {o : Oper} {ms : List (Option Bool)} {r : List Oper} {k : Nat} {a : Act} {w : World} (h0 : ops[k]? = some o)
    (h : ∀ K' : Act → World → Prop, Shut (∀ a w, (k < s → S w) → wpLex P ops Q S s ms r (k + 1) a w → K' a w) → if Region.wanted o (yielded ops a.tmps) = true then Oper.wp P o a w K' Q else K' (a.put o.dst undef) w) :
    wpLex P ops Q S s (none :: ms) (o :: r) k a w :=
  wpOp_step h0 fun K' hK => h K' (fun a w hS hW => hK a w ⟨hS, hW⟩)
/-- Behind s: as a plain row of operations. -/
theorem lex_rest0 {r : List Oper} : ∀ {ms : List (Option Bool)} {k : Nat} {a : Act} {w : World}, s ≤ k → ms.all (fun m => m.isNone) = true → ms.length = r.length → (∀ j, r[j]? = ops[k + j]?) → wpList P ops Q r a w → wpLex P ops Q S s ms r k a w := by
  induction r with
  | nil =>
    intro ms k a w _ _ hlen _ h
    obtain rfl : ms = [] := List.length_eq_zero_iff.1 hlen
    exact h
  | cons o r ih =>
    intro ms k a w hs hall hlen hl h
    match ms, hlen, hall with
    | none :: ms, hlen, hall =>
      have h0 : ops[k]? = some o := by simpa using (hl 0).symm
      have hw : wpOp P ops Q k (wpList P ops Q r) a w := by unfold wpOp; simp only [h0]; exact h
      exact wpOp_mono (fun a' w' h' => ⟨fun hz => by omega, ih (by omega) (by simpa using hall) (by simpa using hlen) (fun j => by
        have h9 : r[j]? = ops[k + (j + 1)]? := hl (j + 1)
        rw [h9, show k + (j + 1) = k + 1 + j from by omega]) h'⟩) hw
    | some _ :: ms, _, hall => simp at hall
theorem lex_rest {r : List Oper} {ms : List (Option Bool)} {k : Nat} {a : Act} {w : World} (hs : s ≤ k) (hB : (ms.all (fun m => m.isNone) && decide (ms.length = r.length)) = true) (hl : r = ops.toList.drop k) (h : wpList P ops Q r a w) : wpLex P ops Q S s ms r k a w := by
  simp only [Bool.and_eq_true, decide_eq_true_eq] at hB
  exact lex_rest0 hs hB.1 hB.2 (fun j => by rw [hl, List.getElem?_drop]; simp) h
theorem lex_end {k : Nat} {a : Act} {w : World} (h : Q .normal a w) : wpLex P ops Q S s [] [] k a w := h
end
end Go.Proofs.Ytknjmmbebkcnpaa

/- A statement whose operations may come in more than one order, walked in an order of the prover's: as Ords, but for the order. No call is walked here. -/
namespace Go.Proofs.Ytknjmmbebkcnpaa
set_option linter.unusedVariables false

section
variable {P : Program} {ops : Array Oper} {Q : Exit → Act → World → Prop} {md : Region.Mode} {S : World → Prop} {s : Nat}

/-- Has number s not come up yet? (b: it had not.) -/
def ahead (s i : Nat) (b : Bool) : Bool := b && decide (i ≠ s)
/-- The order is one that the region allows: modes as in Ords. -/
def ordU (md : Region.Mode) (ops : Array Oper) (s : Nat) : List (Nat × Option Bool) → Bool → Array Bool → Bool
  | [], _, listed => (Region.ready md ops listed).isEmpty
  | (i, none) :: r, b, listed => decide (Region.ready md ops listed = [i]) && decide (b = true ↔ listed.getD s true = false) && ordU md ops s r (ahead s i b) (listed.setIfInBounds i true)
  | (i, some true) :: r, b, listed => (Region.ready md ops listed).contains i && Region.free md ops listed i && decide (i ≠ s) && ordU md ops s r b (listed.setIfInBounds i true)
  | (i, some false) :: r, b, listed => (Region.ready md ops listed).contains i && Region.free md ops listed i && decide (i ≠ s) && b && decide (listed.getD s true = false) && Region.waitsFor md ops s i && ordU md ops s r b (listed.setIfInBounds i true)

def wpOrd (P : Program) (ops : Array Oper) (Q : Exit → Act → World → Prop) (S : World → Prop) (s : Nat) : List (Nat × Option Bool) → Bool → Act → World → Prop
  | [], _, a, w => Q .normal a w
  | (i, none) :: r, b, a, w => wpOp P ops Q i (fun a' w' => (ahead s i b = true → S w') ∧ wpOrd P ops Q S s r (ahead s i b) a' w') a w
  | (i, some true) :: r, b, a, w => ∃ o v, ops[i]? = some o ∧ YieldsIf P ops (fun _ => True) o v a ∧ wpOrd P ops Q S s r b (a.put o.dst v) w
  | (i, some false) :: r, b, a, w => ∃ o v, ops[i]? = some o ∧ YieldsIf P ops S o v a ∧ wpOrd P ops Q S s r b (a.put o.dst v) w

theorem U_of_ord (hsel : Region.noSelect ops = true) (hQ : ∀ c a d u w, Q (.panic c) (a.put d u) w → Q (.panic c) a w) :
    ∀ (l : List (Nat × Option Bool)) (b : Bool) (listed : Array Bool) (a : Act) (w : World), (listed.getD s true = false → b = true) → ordU md ops s l b listed = true →
      (b = true → S w) → wpOrd P ops Q S s l b a w → anyU P md ops Q S s l.length listed a w
  | [], b, listed, a, w, _, hB, _, h => ⟨by simpa [ordU] using hB, h⟩
  | (i, none) :: r, b, listed, a, w, hb, hB, hS, h => by
    simp only [ordU, Bool.and_eq_true, decide_eq_true_eq] at hB
    obtain ⟨⟨hr, hbb⟩, hB'⟩ := hB
    refine ⟨fun h1 => (by rw [hr] at h1; cases h1), fun j hj => ?_⟩
    rw [hr] at hj
    obtain rfl : j = i := by simpa using hj
    have hjr : j ∈ Region.ready md ops listed := by rw [hr]; simp
    have hun := (mem_ready.1 hjr).1
    have hnext : (listed.setIfInBounds j true).getD s true = false → ahead s j b = true := by
      intro hz
      unfold ahead
      by_cases e : j = s
      · subst e
        have hlt : j < listed.size := by
          rcases Nat.lt_or_ge j listed.size with h' | h'
          · exact h'
          · simp [Array.getElem?_eq_none h'] at hun
        simp [hlt] at hz
      · rw [getD_set_ne true e] at hz
        simp [hbb.2 hz, e]
    refine wpOp_mono (fun a' w' h3 => ?_) (show wpOp P ops Q j (fun a' w' => (ahead s j b = true → S w') ∧ wpOrd P ops Q S s r (ahead s j b) a' w') a w from h)
    exact ⟨fun hz => h3.1 (hnext hz), U_of_ord hsel hQ r (ahead s j b) _ a' w' hnext hB' h3.1 h3.2⟩
  | (i, some true) :: r, b, listed, a, w, hb, hB, hS, h => by
    simp only [ordU, Bool.and_eq_true, decide_eq_true_eq] at hB
    obtain ⟨⟨⟨hr, hf⟩, hne⟩, hB'⟩ := hB
    obtain ⟨o, v, h0, hy, hk⟩ : ∃ o v, ops[i]? = some o ∧ YieldsIf P ops (fun _ => True) o v a ∧ wpOrd P ops Q S s r b (a.put o.dst v) w := h
    refine U_take h0 hsel hQ hne (.inl fun _ => trivial) hf hr (.inr fun _ => trivial) hy (fun hz => hS (hb hz)) ?_
    exact U_of_ord hsel hQ r b _ _ w (fun hz => hb (by rwa [getD_set_ne true hne] at hz)) hB' hS hk
  | (i, some false) :: r, b, listed, a, w, hb, hB, hS, h => by
    simp only [ordU, Bool.and_eq_true, decide_eq_true_eq] at hB
    obtain ⟨⟨⟨⟨⟨⟨hr, hf⟩, hne⟩, hbt⟩, hls⟩, hws⟩, hB'⟩ := hB
    obtain ⟨o, v, h0, hy, hk⟩ : ∃ o v, ops[i]? = some o ∧ YieldsIf P ops S o v a ∧ wpOrd P ops Q S s r b (a.put o.dst v) w := h
    refine U_take h0 hsel hQ hne (.inr ⟨rfl, hws⟩) hf hr (.inl hls) hy (fun hz => hS (hb hz)) ?_
    exact U_of_ord hsel hQ r b _ _ w (fun hz => hb (by rwa [getD_set_ne true hne] at hz)) hB' hS hk

/-- The law: a region that draws its order, in an order of the prover's. -/
theorem wp_region_ord {id : Nat} {l : List Oper} {a : Act} {w : World} (S : World → Prop) (s : Nat) (r : List (Nat × Option Bool)) (hm : P.follows .mixedOrders = true)
    (hB : (Region.noSelect l.toArray && decide (r.length = l.length) && decide (s < l.length) && ordU .any l.toArray s r true (Array.replicate l.length false)) = true)
    (hQ0 : ∀ c (a : Act) tm w, Q (.panic c) { a with tmps := tm } w → Q (.panic c) a w) (hS : S w.drew) (h : wpOrd P l.toArray Q S s r true a w.drew) : (Code.region id l.toArray true).wp P Q a w := by
  simp only [Bool.and_eq_true, decide_eq_true_eq] at hB
  obtain ⟨⟨⟨hsel, hlen⟩, _⟩, hord⟩ := hB
  have hQ : ∀ c a d u w, Q (.panic c) (Act.put a d u) w → Q (.panic c) a w := by
    intro c a d u w h
    cases d with
    | none => exact h
    | some t => exact hQ0 c a _ w h
  refine wp_region_any hm ?_
  have H := any_of_U _ _ _ _ (U_of_ord (md := .any) hsel hQ r true _ a w.drew (fun _ => rfl) hord (fun _ => hS) h)
  rw [hlen] at H
  simpa using H

theorem ord_pure {i : Nat} {o : Oper} {r : List (Nat × Option Bool)} {b : Bool} {a : Act} {w : World} (v : Value) (h0 : ops[i]? = some o) (hw : Region.wanted o (yielded ops a.tmps) = true)
    (hv : ∀ w, (execOp a.eval o).run P w = .ok (.value v) w) (h : wpOrd P ops Q S s r b (a.put o.dst v) w) : wpOrd P ops Q S s ((i, some true) :: r) b a w :=
  ⟨o, v, h0, .inl ⟨hw, fun w _ => hv w⟩, h⟩
theorem ord_held {i : Nat} {o : Oper} {r : List (Nat × Option Bool)} {b : Bool} {a : Act} {w : World} (v : Value) (h0 : ops[i]? = some o) (hw : Region.wanted o (yielded ops a.tmps) = true)
    (hv : ∀ w, S w → (execOp a.eval o).run P w = .ok (.value v) w) (h : wpOrd P ops Q S s r b (a.put o.dst v) w) : wpOrd P ops Q S s ((i, some false) :: r) b a w :=
  ⟨o, v, h0, .inl ⟨hw, hv⟩, h⟩
theorem ord_load {i : Nat} {o : Oper} {r : List (Nat × Option Bool)} {b : Bool} {a : Act} {w : World} (ty : TypeId) (x : Operand) (h0 : ops[i]? = some o) (ho : o.op = .load ty x) (hw : Region.wanted o (yielded ops a.tmps) = true) {bl off : Nat}
    (hx : a.eval x = .pointer (some ⟨bl, off, none⟩)) {cs : List Value} (d : TypeDesc) (hS : ∀ w, S w → w.rangeAt bl off cs) (hu : P.underlying ty = some d) (hd : d.isRow = true) (hi : (P.info? ty).map (·.size) = some cs.length)
    (h : wpOrd P ops Q S s r b (a.put o.dst (.agg cs.toArray)) w) : wpOrd P ops Q S s ((i, some false) :: r) b a w :=
  ⟨o, _, h0, yieldsIf_load_mid hw ty x ho bl off hx cs d hS hu hd hi, h⟩
theorem ord_skip {i : Nat} {o : Oper} {m : Bool} {r : List (Nat × Option Bool)} {b : Bool} {a : Act} {w : World} (h0 : ops[i]? = some o) (hw : Region.wanted o (yielded ops a.tmps) = false)
    (h : wpOrd P ops Q S s r b (a.put o.dst undef) w) : wpOrd P ops Q S s ((i, some m) :: r) b a w := by
  cases m
  · exact ⟨o, undef, h0, .inr ⟨hw, rfl⟩, h⟩
  · exact ⟨o, undef, h0, .inr ⟨hw, rfl⟩, h⟩
theorem ord_go {i : Nat} {o : Oper} {r : List (Nat × Option Bool)} {b : Bool} {a : Act} {w : World} (h0 : ops[i]? = some o)
    (h : ∀ K' : Act → World → Prop, Shut (∀ a w, (ahead s i b = true → S w) → wpOrd P ops Q S s r (ahead s i b) a w → K' a w) → if Region.wanted o (yielded ops a.tmps) = true then Oper.wp P o a w K' Q else K' (a.put o.dst undef) w) :
    wpOrd P ops Q S s ((i, none) :: r) b a w :=
  wpOp_step h0 fun K' hK => h K' (fun a w hS hW => hK a w ⟨hS, hW⟩)
theorem ord_end {b : Bool} {a : Act} {w : World} (h : Q .normal a w) : wpOrd P ops Q S s [] b a w := h
theorem ord_pureE {i : Nat} {o : Oper} {r : List (Nat × Option Bool)} {b : Bool} {a : Act} {w : World} (h0 : ops[i]? = some o) (hw : Region.wanted o (yielded ops a.tmps) = true)
    (h : ∃ v, (∀ w, (execOp a.eval o).run P w = .ok (.value v) w) ∧ wpOrd P ops Q S s r b (a.put o.dst v) w) : wpOrd P ops Q S s ((i, some true) :: r) b a w := by
  obtain ⟨v, hv, h⟩ := h
  exact ord_pure v h0 hw hv h
theorem ord_heldE {i : Nat} {o : Oper} {r : List (Nat × Option Bool)} {b : Bool} {a : Act} {w : World} (h0 : ops[i]? = some o) (hw : Region.wanted o (yielded ops a.tmps) = true)
    (h : ∃ v, (∀ w, S w → (execOp a.eval o).run P w = .ok (.value v) w) ∧ wpOrd P ops Q S s r b (a.put o.dst v) w) : wpOrd P ops Q S s ((i, some false) :: r) b a w := by
  obtain ⟨v, hv, h⟩ := h
  exact ord_held v h0 hw hv h
end
end Go.Proofs.Ytknjmmbebkcnpaa

/- A row stored in a region that draws its order. No call is walked here. -/
namespace Go.Proofs.Ytknjmmbebkcnpaa
open Go.RowKit Bk
set_option linter.unusedVariables false

section
variable {P : Program} {ops : Array Oper} {Q : Exit → Act → World → Prop} {S : World → Prop} {s : Nat}
theorem ord_storeR {i : Nat} {o : Oper} {r : List (Nat × Option Bool)} {b : Bool} {a : Act} {w : World} (h0 : ops[i]? = some o) (hg : o.guard = none) (hd : o.dst = none) (ty : TypeId) (x y : Operand) (ho : o.op = .store ty x y) {bl off : Nat} (hx : a.eval x = .pointer (some ⟨bl, off, none⟩)) {cs vs : List Value} (hy : a.eval y = .agg vs.toArray) (hr : Row w bl off cs)
    (hl : vs.length = cs.length) (hi : (P.info? ty).map (·.size) = some vs.length) (h1 : ∀ v ∈ vs, v.oneCell' = true) (hS : ahead s i b = true → S (w.setCells bl off vs)) (h : wpOrd P ops Q S s r (ahead s i b) a (w.setCells bl off vs)) : wpOrd P ops Q S s ((i, none) :: r) b a w :=
  ord_go h0 fun K hK => by
    rw [if_pos (by unfold Region.wanted; rw [hg])]
    refine wp_store_mid ty x y ho bl off vs.toArray hx hy (by have := hr.there; rw [← hl] at this; simpa using this) (by simpa using hi) (all_oneCell_toArray h1) ?_
    exact hK.out _ _ (by simpa using hS) (by rw [hd]; simpa [Act.put] using h)
end
end Go.Proofs.Ytknjmmbebkcnpaa

/- A statement whose operations may come in more than one order, where one that makes memory may come up anywhere: each way is walked, in a tree. No call is walked here. -/
namespace Go.Proofs.Ytknjmmbebkcnpaa
open Go.RowKit
set_option linter.unusedVariables false

/-- What is asked of a statement that ends as it should. -/
def onlyN (R : Act → World → Prop) : Exit → Act → World → Prop
  | .normal, a, w => R a w
  | _, _, _ => False
theorem wp_only {P : Program} {c : Code} {R : Act → World → Prop} {Q : Exit → Act → World → Prop} {a : Act} {w : World} (h : c.wp P (onlyN R) a w) (hR : ∀ a w, R a w → Q .normal a w) : c.wp P Q a w :=
  wp_mono h (fun e a w h => by
    cases e with
    | normal => exact hR a w h
    | _ => exact h.elim)

section
variable {P : Program} {ops : Array Oper} {R : Act → World → Prop} {md : Region.Mode} {S : World → Prop} {s : Nat}

theorem wp_region_U {id : Nat} {l : List Oper} {a : Act} {w : World} (S : World → Prop) (s : Nat) (hm : P.follows .mixedOrders = true) (h : anyU P .any l.toArray (onlyN R) S s l.length (Array.replicate l.length false) a w.drew) : (Code.region id l.toArray true).wp P (onlyN R) a w := by
  refine wp_region_any hm ?_
  have H := any_of_U _ _ _ _ h
  simpa using H
theorem U_p {k : Nat} {o : Oper} {f : Nat} {listed : Array Bool} {a : Act} {w : World} (h0 : ops[k]? = some o) (hB : (Region.noSelect ops && Region.free md ops listed k && (Region.ready md ops listed).contains k && decide (k ≠ s)) = true)
    (hw : Region.wanted o (yielded ops a.tmps) = true) (hS : listed.getD s true = false → S w) (h : ∃ v, (∀ w, (execOp a.eval o).run P w = .ok (.value v) w) ∧ anyU P md ops (onlyN R) S s f (listed.setIfInBounds k true) (a.put o.dst v) w) : anyU P md ops (onlyN R) S s (f + 1) listed a w := by
  simp only [Bool.and_eq_true, decide_eq_true_eq] at hB
  obtain ⟨⟨⟨h1, h2⟩, h3⟩, h4⟩ := hB
  obtain ⟨v, hv, h⟩ := h
  exact U_take (T := fun _ => True) h0 h1 (fun _ _ _ _ _ h => h) h4 (.inl fun _ => trivial) h2 h3 (.inr fun _ => trivial) (.inl ⟨hw, fun w _ => hv w⟩) hS h
theorem U_h {k : Nat} {o : Oper} {f : Nat} {listed : Array Bool} {a : Act} {w : World} (h0 : ops[k]? = some o) (hB : (Region.noSelect ops && Region.free md ops listed k && (Region.ready md ops listed).contains k && decide (k ≠ s) && Region.waitsFor md ops s k && decide (listed.getD s true = false)) = true)
    (hw : Region.wanted o (yielded ops a.tmps) = true) (hS : S w) (h : ∃ v, (∀ w, S w → (execOp a.eval o).run P w = .ok (.value v) w) ∧ anyU P md ops (onlyN R) S s f (listed.setIfInBounds k true) (a.put o.dst v) w) : anyU P md ops (onlyN R) S s (f + 1) listed a w := by
  simp only [Bool.and_eq_true, decide_eq_true_eq] at hB
  obtain ⟨⟨⟨⟨⟨h1, h2⟩, h3⟩, h4⟩, h5⟩, h6⟩ := hB
  obtain ⟨v, hv, h⟩ := h
  exact U_take (T := S) h0 h1 (fun _ _ _ _ _ h => h) h4 (.inr ⟨rfl, h5⟩) h2 h3 (.inl h6) (.inl ⟨hw, fun w hs => hv w hs⟩) (fun _ => hS) h
theorem U_one {i : Nat} {f : Nat} {listed : Array Bool} {a : Act} {w : World} (hr : Region.ready md ops listed = [i])
    (h1 : wpOp P ops (onlyN R) i (fun a' w' => ((listed.setIfInBounds i true).getD s true = false → S w') ∧ anyU P md ops (onlyN R) S s f (listed.setIfInBounds i true) a' w') a w) : anyU P md ops (onlyN R) S s (f + 1) listed a w :=
  ⟨fun h => (by rw [hr] at h; cases h), fun k hk => by
    rw [hr] at hk
    obtain rfl : k = i := by simpa using hk
    exact h1⟩
theorem U_two {i j : Nat} {f : Nat} {listed : Array Bool} {a : Act} {w : World} (hr : Region.ready md ops listed = [i, j])
    (h1 : wpOp P ops (onlyN R) i (fun a' w' => ((listed.setIfInBounds i true).getD s true = false → S w') ∧ anyU P md ops (onlyN R) S s f (listed.setIfInBounds i true) a' w') a w)
    (h2 : wpOp P ops (onlyN R) j (fun a' w' => ((listed.setIfInBounds j true).getD s true = false → S w') ∧ anyU P md ops (onlyN R) S s f (listed.setIfInBounds j true) a' w') a w) : anyU P md ops (onlyN R) S s (f + 1) listed a w :=
  ⟨fun h => (by rw [hr] at h; cases h), fun k hk => by
    rw [hr] at hk
    rcases List.mem_cons.1 hk with rfl | hk
    · exact h1
    · obtain rfl : k = j := by simpa using hk
      exact h2⟩
theorem U_go {i : Nat} {o : Oper} {f : Nat} {listed : Array Bool} {a : Act} {w : World} (h0 : ops[i]? = some o)
    (h : ∀ K' : Act → World → Prop, Shut (∀ a w, ((listed.setIfInBounds i true).getD s true = false → S w) → anyU P md ops (onlyN R) S s f (listed.setIfInBounds i true) a w → K' a w) → if Region.wanted o (yielded ops a.tmps) = true then Oper.wp P o a w K' (onlyN R) else K' (a.put o.dst undef) w) :
    wpOp P ops (onlyN R) i (fun a' w' => ((listed.setIfInBounds i true).getD s true = false → S w') ∧ anyU P md ops (onlyN R) S s f (listed.setIfInBounds i true) a' w') a w :=
  wpOp_step h0 fun K' hK => h K' (fun a w hS hW => hK a w ⟨hS, hW⟩)
theorem U_end {listed : Array Bool} {a : Act} {w : World} (hr : Region.ready md ops listed = []) (h : R a w) : anyU P md ops (onlyN R) S s 0 listed a w := ⟨hr, h⟩
/-- A row stored. -/
theorem U_storeR {i : Nat} {o : Oper} {f : Nat} {listed : Array Bool} {a : Act} {w : World} (h0 : ops[i]? = some o) (hg : o.guard = none) (hd : o.dst = none) (ty : TypeId) (x y : Operand) (ho : o.op = .store ty x y) {bl off : Nat} (hx : a.eval x = .pointer (some ⟨bl, off, none⟩)) {cs vs : List Value} (hy : a.eval y = .agg vs.toArray) (hr : Row w bl off cs)
    (hl : vs.length = cs.length) (hi : (P.info? ty).map (·.size) = some vs.length) (h1 : ∀ v ∈ vs, v.oneCell' = true) (hS : (listed.setIfInBounds i true).getD s true = false → S (w.setCells bl off vs)) (h : anyU P md ops (onlyN R) S s f (listed.setIfInBounds i true) a (w.setCells bl off vs)) :
    wpOp P ops (onlyN R) i (fun a' w' => ((listed.setIfInBounds i true).getD s true = false → S w') ∧ anyU P md ops (onlyN R) S s f (listed.setIfInBounds i true) a' w') a w :=
  U_go h0 fun K hK => by
    rw [if_pos (by unfold Region.wanted; rw [hg])]
    refine wp_store_mid ty x y ho bl off vs.toArray hx hy (by have := hr.there; rw [← hl] at this; simpa using this) (by simpa using hi) (all_oneCell_toArray h1) ?_
    exact hK.out _ _ (by simpa using hS) (by rw [hd]; simpa [Act.put] using h)
end
end Go.Proofs.Ytknjmmbebkcnpaa
