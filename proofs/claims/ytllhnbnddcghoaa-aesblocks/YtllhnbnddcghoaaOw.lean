/- Rows of a call's own that grow: of numbers, of bytes; append of a row, of a string; bytes of a string. No call is walked here. -/
import Derived.Test.YtllhnbnddcghoaaBOps
namespace Go.Proofs.Ytllhnbnddcghoaa
open Go.RowKit Bk
set_option linter.unusedVariables false
set_option linter.unusedSimpArgs false

/-- A slice of the call's own, in a block from B on: what it holds, and room behind it. -/
def Ow (w : World) (B : Nat) (v : Value) (n : Nat) (xs : List Value) : Prop :=
  xs.length = n ∧ ((v = .slice none 0 0 ∧ n = 0) ∨ ∃ g cap zs, v = .slice (some ⟨g, 0, none⟩) n cap ∧ B ≤ g ∧ n ≤ cap ∧ zs.length = cap - n ∧ Row w g 0 (xs ++ zs))
theorem Ow.nil (w : World) (B : Nat) : Ow w B (.slice none 0 0) 0 [] := ⟨rfl, .inl ⟨rfl, rfl⟩⟩
theorem Ow.keep {w w' : World} {B : Nat} {v : Value} {n : Nat} {xs : List Value} (h : Ow w B v n xs) (k : Below w.heap.size w w') : Ow w' B v n xs := by
  refine ⟨h.1, ?_⟩
  rcases h.2 with h0 | ⟨g, cap, zs, hv, hg, hn, hz, hR⟩
  · exact .inl h0
  · exact .inr ⟨g, cap, zs, hv, hg, hn, hz, hR.below k hR.lt⟩
theorem Ow.drew {w : World} {B : Nat} {v : Value} {n : Nat} {xs : List Value} (h : Ow w B v n xs) : Ow w.drew B v n xs := by
  refine ⟨h.1, ?_⟩
  rcases h.2 with h0 | ⟨g, cap, zs, hv, hg, hn, hz, hR⟩
  · exact .inl h0
  · exact .inr ⟨g, cap, zs, hv, hg, hn, hz, hR.drew⟩
theorem Ow.drewN {w : World} {B : Nat} {v : Value} {n : Nat} {xs : List Value} (h : Ow w B v n xs) (q : Nat) : Ow (w.drewN q) B v n xs := by
  refine ⟨h.1, ?_⟩
  rcases h.2 with h0 | ⟨g, cap, zs, hv, hg, hn, hz, hR⟩
  · exact .inl h0
  · exact .inr ⟨g, cap, zs, hv, hg, hn, hz, hR.drewN q⟩
theorem Ow.row {w : World} {B : Nat} {v : Value} {n : Nat} {xs : List Value} (h : Ow w B v n xs) (hn : 0 < n) : ∃ g cap, v = .slice (some ⟨g, 0, none⟩) n cap ∧ B ≤ g ∧ n ≤ cap ∧ Row w g 0 xs := by
  rcases h.2 with ⟨_, h0⟩ | ⟨g, cap, zs, hv, hg, hc, hz, hR⟩
  · omega
  · exact ⟨g, cap, hv, hg, hc, hR.left⟩
theorem Ow.shape {w : World} {B : Nat} {v : Value} {n : Nat} {xs : List Value} (h : Ow w B v n xs) : ∃ a cap, v = .slice a n cap ∧ n ≤ cap := by
  rcases h.2 with ⟨rfl, rfl⟩ | ⟨g, cap, zs, hv, hg, hc, hz, hR⟩
  · exact ⟨none, 0, rfl, Nat.le_refl _⟩
  · exact ⟨_, cap, hv, hc⟩
theorem Ow.made (w : World) (B : Nat) (hB : B ≤ w.heap.size) (xs : List Value) (t : TypeId) : Ow (w.alloc (.cells xs.toArray t)) B (.slice (some ⟨w.heap.size, 0, none⟩) xs.length xs.length) xs.length xs :=
  ⟨rfl, .inr ⟨w.heap.size, xs.length, [], rfl, hB, Nat.le_refl _, by simp, by rw [List.append_nil]; exact Row.newL w xs t⟩⟩
theorem Ow.src {P : Program} {w : World} {B : Nat} {v : Value} {n : Nat} {xs : List Value} {tx e : TypeId} (h : Ow w B v n xs) (hk : P.underlying tx = some (.slice e)) (h1 : ∀ u ∈ xs, u.oneCell' = true) : Src P 1 tx v n xs w := by
  obtain ⟨hl, h⟩ := h
  rcases h with ⟨rfl, rfl⟩ | ⟨g, cap, zs, rfl, hg, hn, hz, hR⟩
  · obtain rfl : xs = [] := List.length_eq_zero_iff.1 hl
    exact Src.ofNil w hk 0
  · exact Src.ofSlice w hk ⟨g, 0, none⟩ n cap xs (by rw [hl, Nat.mul_one]) (fun j u hj => by rw [Addr.add_mid]; exact hR.left.cell j u hj) h1
theorem Row.src {P : Program} {w : World} {g o n cap : Nat} {xs : List Value} {tx e : TypeId} (h : Row w g o xs) (hl : xs.length = n) (hk : P.underlying tx = some (.slice e)) (h1 : ∀ u ∈ xs, u.oneCell' = true) : Src P 1 tx (.slice (some ⟨g, o, none⟩) n cap) n xs w :=
  Src.ofSlice w hk ⟨g, o, none⟩ n cap xs (by rw [hl, Nat.mul_one]) (fun j u hj => by rw [Addr.add_mid]; exact h.cell j u hj) h1

section
variable {P : Program} {ops : Array Oper} {rest : List Oper} {o : Oper} {a : Act} {w : World} {Q : Exit → Act → World → Prop}
theorem run_appendO (w : World) (t tx ty e : TypeId) (ht : P.underlying t = some (.slice e)) {z : Value} {bytes : Nat} (hinfo : (P.info? e).map (fun i => (i.zero, i.size, i.bytes)) = some (some z, 1, bytes)) (hb : bytes ≤ 16) (hz1 : z.cells.size = 1)
    {B n m : Nat} {v xv : Value} {xs news : List Value} (hO : Ow w B v n xs) (hsrc : Src P 1 tx xv m news w) (hnm : n + m ≤ 1000000) (hB : B ≤ w.heap.size) (h1 : ∀ u ∈ xs, u.oneCell' = true) :
    ∃ v' w', (Builtin.append_ #[t, tx] ty #[v, xv]).run P w = .ok v' w' ∧ Ow w' B v' (n + m) (xs ++ news) ∧ Below B w w' := by
  obtain ⟨i, hi, hz, hs, hy⟩ := info_parts hinfo
  have hnl : news.length = m := by have := hsrc.newsLen; omega
  obtain ⟨hl, hO⟩ := hO
  have growcase : ∀ (base : Option Addr) (cap : Nat), n ≤ cap → cap < n + m → (Builtin.firstCells 1 n (.slice base n cap)).run P w.drew = .ok xs.toArray w.drew →
      ∃ v' w', (Builtin.append_ #[t, tx] ty #[.slice base n cap, xv]).run P w = .ok v' w' ∧ Ow w' B v' (n + m) (xs ++ news) ∧ Below B w w' := by
    intro base cap hc hg hold
    have hfit : Builtin.nextslicecap (n + m) cap * i.bytes ≤ 281474976710656 := by
      have h2 := nextslicecap_le (need := n + m) (old := cap) hg
      rw [hy]
      exact Nat.le_trans (Nat.mul_le_mul h2 hb) (by omega)
    have hrun := run_append_grow_src (P := P) w t tx ty e i z ht hi hz base n cap xs (by rw [hs]; exact hold) xv m news (by rw [hs]; exact hsrc) hg (by omega) hfit
    have hge := grownCap_ge w (n + m) cap e
    refine ⟨_, _, hrun, ⟨by rw [List.length_append, hl, hnl], .inr ⟨w.heap.size, _, (Builtin.zeroCells z.cells (grownCap w (n + m) cap e - (n + m))).toList, rfl, hB, hge, ?_, ?_⟩⟩, ((Below.refl _ w).drew).alloc hB _⟩
    · simp [Builtin.zeroCells, hz1]
    · have k := Row.new w.drew ((xs ++ news).toArray ++ Builtin.zeroCells z.cells (grownCap w (n + m) cap e - (n + m))) e
      rw [Array.toList_append] at k
      exact k
  rcases hO with ⟨rfl, rfl⟩ | ⟨g, cap, zs, rfl, hg, hn, hzl, hR⟩
  · obtain rfl : xs = [] := List.length_eq_zero_iff.1 hl
    by_cases hm : m = 0
    · subst hm
      obtain rfl : news = [] := List.length_eq_zero_iff.1 hnl
      refine ⟨.slice none 0 0, w, ?_, Ow.nil w B, Below.refl _ _⟩
      have hc := hsrc.cells
      rcases hsrc.kind with ⟨e', hk⟩ | hk <;> simp [Builtin.append_, run_underlying ht, run_underlying hk, sizeOf, typeInfo, hi, hs, hsrc.len, hc]
    · exact growcase none 0 (Nat.le_refl _) (by omega) (run_firstCells_none _ _ _ _ _)
  · by_cases hroom : n + m ≤ cap
    · have hsp : zs = zs.take m ++ zs.drop m := (List.take_append_drop m zs).symm
      have hR2 := hR.right
      rw [hsp] at hR2
      have hRm := hR2.left
      have hRr := hR2.right
      have hlm : (zs.take m).length = m := by rw [List.length_take]; omega
      have ht' := hRm.there
      rw [hlm, hl, Nat.zero_add] at ht'
      have hrun := run_append_room_src (P := P) w t tx ty e i ht hi g 0 n cap xv m news (by rw [hs]; exact hsrc) hroom (fun j hj => by rw [hs, Nat.mul_one, Nat.zero_add]; exact (ht' j (by omega)).1) (fun j hj => by rw [hs, Nat.mul_one, Nat.zero_add]; exact (ht' j (by omega)).2)
      rw [hs, Nat.mul_one, Nat.zero_add] at hrun
      refine ⟨_, _, hrun, ⟨by rw [List.length_append, hl, hnl], .inr ⟨g, cap, zs.drop m, rfl, hg, hroom, by rw [List.length_drop]; omega, ?_⟩⟩, below_setCells hg _ _ _⟩
      rw [List.append_assoc]
      refine (hR.left.apart g n news (.inr (.inl (by omega)))).join ?_
      have e0 : 0 + xs.length = n := by omega
      rw [e0]
      rw [e0] at hRm hRr
      refine (hRm.put news (by rw [hnl, hlm])).join ?_
      rw [hnl]
      rw [hlm] at hRr
      exact hRr.apart g n news (.inr (.inr (by omega)))
    · exact growcase (some ⟨g, 0, none⟩) cap hn (by omega) (run_firstCells_some w.drew 1 n ⟨g, 0, none⟩ n cap xs (by omega) (fun j u hj => by rw [Addr.add_mid]; exact hR.drew.left.cell j u hj))
theorem wpList_appendO (hg : o.guard = none) (d x : Operand) (t tx : TypeId) (ho : o.op = .call { callee := .builtin .append, args := #[d, x], argTypes := #[t, tx] }) (e : TypeId) (ht : P.underlying t = some (.slice e)) {z : Value} {bytes : Nat}
    (hinfo : (P.info? e).map (fun i => (i.zero, i.size, i.bytes)) = some (some z, 1, bytes)) (hb : bytes ≤ 16) (hz1 : z.cells.size = 1) {B n m : Nat} {v xv : Value} {xs news : List Value} (hd : a.eval d = v) (hx : a.eval x = xv) (hO : Ow w B v n xs) (hsrc : Src P 1 tx xv m news w)
    (hnm : n + m ≤ 1000000) (hB : B ≤ w.heap.size) (h1 : ∀ u ∈ xs, u.oneCell' = true)
    (h : ∀ v' w', Ow w' B v' (n + m) (xs ++ news) → Below B w w' → wpList P ops Q rest (a.put o.dst v') w') : wpList P ops Q (o :: rest) a w := by
  refine wpList_plain hg fun K hK => ?_
  obtain ⟨v', w', hrun, hOw, hBl⟩ := run_appendO (P := P) w t tx o.type e ht hinfo hb hz1 hO hsrc hnm hB h1
  unfold Oper.wp
  simp [execOp, ho, resolve, invoke, builtin, hd, hx, hrun, Result.andThen]
  exact hK _ _ (h v' w' hOw hBl)
/-- The bytes of a string, as a row of the call's own. -/
theorem run_bytesO (w : World) (src dst e : TypeId) (s : ByteArray) (hs : P.underlying src = some .string) (hd : P.underlying dst = some (.slice e)) (he : P.underlying e = some (.int .u8)) :
    ∃ v w', (convert src dst (.string s)).run P w = .ok v w' ∧ Ow w' w.heap.size v s.size (bs (sb s)) ∧ Below w.heap.size w w' := by
  refine ⟨_, _, run_bytes_of_string w src dst e s hs hd he, ⟨by rw [bs_length, sb_length], .inr ⟨w.heap.size, _, List.replicate (grownCap w s.size 0 e - s.size) (.int .u8 0), rfl, Nat.le_refl _, grownCap_ge w s.size 0 e, by simp, ?_⟩⟩, ((Below.refl _ w).drew).alloc (Nat.le_refl _) _⟩
  have hsz : (bytesRow s (grownCap w s.size 0 e)).toList = bs (sb s) ++ List.replicate (grownCap w s.size 0 e - s.size) (.int .u8 0) := by
    unfold bytesRow bs sb
    simp
  refine ⟨by simp, fun j v hj => ?_, fun j hj => ?_⟩
  · rw [← hsz] at hj
    show (w.drew.alloc _).cell? ⟨w.heap.size, 0 + j, none⟩ = some v
    rw [cell_of_row _ w.heap.size (0 + j) _ _ _ (heap_alloc_last w.drew _), Nat.zero_add, ← hj, Array.getElem?_toList]
  · unfold World.frozen?
    rw [show (w.drew.alloc (.cells (bytesRow s (grownCap w s.size 0 e)) e ((bytesRow s (grownCap w s.size 0 e)).size, (bytesRow s (grownCap w s.size 0 e)).size + 1))).heap[w.heap.size]? = _ from heap_alloc_last w.drew _]
    have hl : (bytesRow s (grownCap w s.size 0 e)).size = (bs (sb s) ++ List.replicate (grownCap w s.size 0 e - s.size) (Value.int .u8 0)).length := by rw [← hsz, Array.length_toList]
    simp only [Nat.zero_add, hl]
    simp
    intro h
    simp at hj
    omega
end
end Go.Proofs.Ytllhnbnddcghoaa
