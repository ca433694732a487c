/- Appends to rows of the call's own that leave other rows of its own as they are. No call is walked here. -/
import Derived.Test.YtllhnbnddcghoaaOw
import Derived.Test.YtllhnbnddcghoaaBt
import Derived.Test.YtllhnbnddcghoaaOrdsX
namespace Go.Proofs.Ytllhnbnddcghoaa
open Go.RowKit Bk

namespace Bk
/-- The block that a slice's row lies in. -/
def blkOf : Value → Option Nat
  | .slice (some a) _ _ => some a.block
  | _ => none
end Bk
/-- What an append to v leaves, v' being what it tells. -/
structure Ap (v v' : Value) (w w' : World) : Prop where
  os : w'.os = w.os
  tape : w'.tape = w.tape
  output : w'.output = w.output
  size : w.heap.size ≤ w'.heap.size
  block : ∀ k, k < w.heap.size → blkOf v ≠ some k → w'.heap[k]? = w.heap[k]?
  fresh : ∀ g, blkOf v' = some g → blkOf v = some g ∨ w.heap.size ≤ g
theorem Ap.refl (v : Value) (w : World) : Ap v v w w := ⟨rfl, rfl, rfl, Nat.le_refl _, fun _ _ _ => rfl, fun _ h => .inl h⟩
theorem Ap.newly {v : Value} {w w' : World} {n cap : Nat} (h : Below w.heap.size w w') : Ap v (.slice (some ⟨w.heap.size, 0, none⟩) n cap) w w' :=
  ⟨h.os, h.tape, h.output, h.size, fun k hk _ => h.block k hk, fun g hg => .inr (Nat.le_of_eq (by simpa [blkOf] using hg))⟩
theorem Ap.put (g n cap m : Nat) (w : World) (o : Nat) (vs : List Value) : Ap (.slice (some ⟨g, 0, none⟩) n cap) (.slice (some ⟨g, 0, none⟩) m cap) w (w.setCells g o vs) :=
  have k := (Bt.refl g w).setCells o vs
  ⟨k.os, k.tape, k.output, k.size, fun i hi hn => k.block i hi (fun h => hn (by subst h; rfl)), fun _ h => .inl h⟩
theorem Ap.after {v v' : Value} {w w1 w2 : World} (h : Below w.heap.size w w1) (k : Ap v v' w1 w2) : Ap v v' w w2 :=
  ⟨k.os.trans h.os, k.tape.trans h.tape, k.output.trans h.output, Nat.le_trans h.size k.size, fun i hi hn => (k.block i (Nat.lt_of_lt_of_le hi h.size) hn).trans (h.block i hi), fun g hg => (k.fresh g hg).imp id (fun h9 => Nat.le_trans h.size h9)⟩
theorem Ow.blk {w : World} {B : Nat} {v : Value} {n : Nat} {xs : List Value} (h : Ow w B v n xs) {g : Nat} (hg : blkOf v = some g) : B ≤ g ∧ g < w.heap.size := by
  rcases h.2 with ⟨rfl, _⟩ | ⟨g', cap, zs, rfl, hB, hn, hz, hR⟩
  · simp [blkOf] at hg
  · have : g' = g := by simpa [blkOf] using hg
    subst this
    exact ⟨hB, hR.lt⟩
theorem Ap.below {v v' : Value} {w w' : World} {B n : Nat} {xs : List Value} (k : Ap v v' w w') (h : Ow w B v n xs) (hB : B ≤ w.heap.size) : Below B w w' :=
  ⟨k.os, k.tape, k.output, k.size, fun i hi => k.block i (by omega) (fun h9 => by have := (h.blk h9).1; omega)⟩
/-- Two slices' rows lie in blocks of their own. -/
def Dj (v1 v2 : Value) : Prop := ∀ g, blkOf v1 = some g → blkOf v2 ≠ some g
theorem Dj.symm {v1 v2 : Value} (h : Dj v1 v2) : Dj v2 v1 := fun g h1 h2 => h g h2 h1
theorem Dj.nil (v : Value) : Dj (.slice none 0 0) v := fun g h => by simp [blkOf] at h
theorem Dj.ap {v v' v2 : Value} {w w' : World} {B n : Nat} {xs : List Value} (h : Dj v v2) (k : Ap v v' w w') (h2 : Ow w B v2 n xs) : Dj v' v2 := fun g h1 h9 => by
  rcases k.fresh g h1 with h3 | h3
  · exact h g h3 h9
  · have := (h2.blk h9).2
    omega
theorem Row.ap {w w' : World} {v v' : Value} {g : Nat} {xs : List Value} (h : Row w g 0 xs) (k : Ap v v' w w') (hg : blkOf v ≠ some g) : Row w' g 0 xs :=
  ⟨Nat.lt_of_lt_of_le h.lt k.size, fun j u hj => (World.cell?_of_block (w := w) (k.block g h.lt hg)).trans (h.cell j u hj), fun j hj => (World.frozen?_of_block (w := w) (k.block g h.lt hg)).trans (h.free j hj)⟩
theorem Ow.ap {w w' : World} {B : Nat} {v v' v2 : Value} {n : Nat} {xs : List Value} (h : Ow w B v2 n xs) (k : Ap v v' w w') (hd : Dj v v2) : Ow w' B v2 n xs := by
  refine ⟨h.1, ?_⟩
  rcases h.2 with h0 | ⟨g, cap, zs, hv, hg, hn, hz, hR⟩
  · exact .inl h0
  · exact .inr ⟨g, cap, zs, hv, hg, hn, hz, hR.ap k (fun h9 => hd g h9 (by rw [hv]; rfl))⟩
section
variable {P : Program}
theorem run_appendP (w : World) (t tx ty e : TypeId) (ht : P.underlying t = some (.slice e)) {z : Value} {bytes : Nat} (hinfo : (P.info? e).map (fun i => (i.zero, i.size, i.bytes)) = some (some z, 1, bytes)) (hb : bytes ≤ 16) (hz1 : z.cells.size = 1)
    {B n m : Nat} {v xv : Value} {xs news : List Value} (hO : Ow w B v n xs) (hsrc : Src P 1 tx xv m news w) (hnm : n + m ≤ 1000000) (hB : B ≤ w.heap.size) (h1 : ∀ u ∈ xs, u.oneCell' = true) :
    ∃ v' w', (Builtin.append_ #[t, tx] ty #[v, xv]).run P w = .ok v' w' ∧ Ow w' B v' (n + m) (xs ++ news) ∧ Ap v v' w w' ∧ ∀ g, blkOf v = some g → Row w' g 0 xs := by
  obtain ⟨i, hi, hz, hs, hy⟩ := info_parts hinfo
  have hnl : news.length = m := by have := hsrc.newsLen; omega
  obtain ⟨hl, hO⟩ := hO
  have growcase : ∀ (base : Option Addr) (cap : Nat), n ≤ cap → cap < n + m → (Builtin.firstCells 1 n (.slice base n cap)).run P w.drew = .ok xs.toArray w.drew → (∀ g, blkOf (.slice base n cap) = some g → Row w g 0 xs) →
      ∃ v' w', (Builtin.append_ #[t, tx] ty #[.slice base n cap, xv]).run P w = .ok v' w' ∧ Ow w' B v' (n + m) (xs ++ news) ∧ Ap (.slice base n cap) v' w w' ∧ ∀ g, blkOf (.slice base n cap) = some g → Row w' g 0 xs := by
    intro base cap hc hg hold hold2
    have hfit : Builtin.nextslicecap (n + m) cap * i.bytes ≤ 281474976710656 := by
      have h2 := nextslicecap_le (need := n + m) (old := cap) hg
      rw [hy]
      exact Nat.le_trans (Nat.mul_le_mul h2 hb) (by omega)
    have hrun := run_append_grow_src (P := P) w t tx ty e i z ht hi hz base n cap xs (by rw [hs]; exact hold) xv m news (by rw [hs]; exact hsrc) hg (by omega) hfit
    have hge := grownCap_ge w (n + m) cap e
    refine ⟨_, _, hrun, ⟨by rw [List.length_append, hl, hnl], .inr ⟨w.heap.size, _, (Builtin.zeroCells z.cells (grownCap w (n + m) cap e - (n + m))).toList, rfl, hB, hge, ?_, ?_⟩⟩, Ap.newly (show Below w.heap.size w _ from ((Below.refl _ w).drew).alloc (Nat.le_refl _) _), fun g hg9 => (hold2 g hg9).drew.alloc _⟩
    · simp [Builtin.zeroCells, hz1]
    · have k := Row.new w.drew ((xs ++ news).toArray ++ Builtin.zeroCells z.cells (grownCap w (n + m) cap e - (n + m))) e
      rw [Array.toList_append] at k
      exact k
  rcases hO with ⟨rfl, rfl⟩ | ⟨g, cap, zs, rfl, hg, hn, hzl, hR⟩
  · obtain rfl : xs = [] := List.length_eq_zero_iff.1 hl
    by_cases hm : m = 0
    · subst hm
      obtain rfl : news = [] := List.length_eq_zero_iff.1 hnl
      refine ⟨.slice none 0 0, w, ?_, Ow.nil w B, Ap.refl _ _, fun g hg9 => by simp [blkOf] at hg9⟩
      have hc := hsrc.cells
      rcases hsrc.kind with ⟨e', hk⟩ | hk <;> simp [Builtin.append_, run_underlying ht, run_underlying hk, sizeOf, typeInfo, hi, hs, hsrc.len, hc]
    · exact growcase none 0 (Nat.le_refl _) (by omega) (run_firstCells_none _ _ _ _ _) (fun g hg9 => by simp [blkOf] at hg9)
  · by_cases hroom : n + m ≤ cap
    · have hsp : zs = zs.take m ++ zs.drop m := (List.take_append_drop m zs).symm
      have hR2 := hR.right
      rw [hsp] at hR2
      have hRm := hR2.left
      have hRr := hR2.right
      have hlm : (zs.take m).length = m := by rw [List.length_take]; omega
      have ht' := hRm.there
      rw [hlm, hl, Nat.zero_add] at ht'
      have hrun := run_append_room_src (P := P) w t tx ty e i ht hi g 0 n cap xv m news (by rw [hs]; exact hsrc) hroom (fun j hj => by rw [hs, Nat.mul_one, Nat.zero_add]; exact (ht' j (by omega)).1) (fun j hj => by rw [hs, Nat.mul_one, Nat.zero_add]; exact (ht' j (by omega)).2)
      rw [hs, Nat.mul_one, Nat.zero_add] at hrun
      refine ⟨_, _, hrun, ⟨by rw [List.length_append, hl, hnl], .inr ⟨g, cap, zs.drop m, rfl, hg, hroom, by rw [List.length_drop]; omega, ?_⟩⟩, Ap.put g n cap _ w _ _, fun g9 hg9 => (show g = g9 by simpa [blkOf] using hg9) ▸ hR.left.apart g n news (.inr (.inl (by omega)))⟩
      rw [List.append_assoc]
      refine (hR.left.apart g n news (.inr (.inl (by omega)))).join ?_
      have e0 : 0 + xs.length = n := by omega
      rw [e0]
      rw [e0] at hRm hRr
      refine (hRm.put news (by rw [hnl, hlm])).join ?_
      rw [hnl]
      rw [hlm] at hRr
      exact hRr.apart g n news (.inr (.inr (by omega)))
    · exact growcase (some ⟨g, 0, none⟩) cap hn (by omega) (run_firstCells_some w.drew 1 n ⟨g, 0, none⟩ n cap xs (by omega) (fun j u hj => by rw [Addr.add_mid]; exact hR.drew.left.cell j u hj)) (fun g9 hg9 => (show g = g9 by simpa [blkOf] using hg9) ▸ hR.left)
end
section
variable {P : Program} {ops : Array Oper} {rest : List Oper} {o : Oper} {a : Act} {w : World} {Q : Exit → Act → World → Prop}
theorem wpList_appendP (hg : o.guard = none) (d x : Operand) (t tx : TypeId) (ho : o.op = .call { callee := .builtin .append, args := #[d, x], argTypes := #[t, tx] }) (e : TypeId) (ht : P.underlying t = some (.slice e)) {z : Value} {bytes : Nat}
    (hinfo : (P.info? e).map (fun i => (i.zero, i.size, i.bytes)) = some (some z, 1, bytes)) (hb : bytes ≤ 16) (hz1 : z.cells.size = 1) {B n m : Nat} {v xv : Value} {xs news : List Value} (hd : a.eval d = v) (hx : a.eval x = xv) (hO : Ow w B v n xs) (hsrc : Src P 1 tx xv m news w)
    (hnm : n + m ≤ 1000000) (hB : B ≤ w.heap.size) (h1 : ∀ u ∈ xs, u.oneCell' = true)
    (h : ∀ v' w', Ow w' B v' (n + m) (xs ++ news) → Ap v v' w w' → wpList P ops Q rest (a.put o.dst v') w') : wpList P ops Q (o :: rest) a w := by
  refine wpList_plain hg fun K hK => ?_
  obtain ⟨v', w', hrun, hOw, hAp, _⟩ := run_appendP (P := P) w t tx o.type e ht hinfo hb hz1 hO hsrc hnm hB h1
  unfold Oper.wp
  simp [execOp, ho, resolve, invoke, builtin, hd, hx, hrun, Result.andThen]
  exact hK _ _ (h v' w' hOw hAp)
end
section
variable {P : Program} {ops : Array Oper} {Q : Exit → Act → World → Prop} {S : World → Prop} {s : Nat}
theorem ord_appendP {i : Nat} {o : Oper} {r : List (Nat × Option Bool)} {bb : Bool} {a : Act} {w : World} (h0 : ops[i]? = some o) (hg : o.guard = none) (d x : Operand) (t tx : TypeId) (ho : o.op = .call { callee := .builtin .append, args := #[d, x], argTypes := #[t, tx] }) (e : TypeId) (ht : P.underlying t = some (.slice e)) {z : Value} {bytes : Nat}
    (hinfo : (P.info? e).map (fun i => (i.zero, i.size, i.bytes)) = some (some z, 1, bytes)) (hb : bytes ≤ 16) (hz1 : z.cells.size = 1) {B n m : Nat} {v xv : Value} {xs news : List Value} (hd : a.eval d = v) (hx : a.eval x = xv) (hO : Ow w B v n xs) (hsrc : Src P 1 tx xv m news w)
    (hnm : n + m ≤ 1000000) (hB : B ≤ w.heap.size) (h1 : ∀ u ∈ xs, u.oneCell' = true)
    (h : ∀ v' w', Ow w' B v' (n + m) (xs ++ news) → Ap v v' w w' → (∀ g, blkOf v = some g → Row w' g 0 xs) → (ahead s i bb = true → S w') ∧ wpOrd P ops Q S s r (ahead s i bb) (a.put o.dst v') w') : wpOrd P ops Q S s ((i, none) :: r) bb a w :=
  ord_go h0 fun K hK => by
    rw [if_pos (by unfold Region.wanted; rw [hg])]
    obtain ⟨v', w', hrun, hOw, hAp, hold⟩ := run_appendP (P := P) w t tx o.type e ht hinfo hb hz1 hO hsrc hnm hB h1
    have hk := h v' w' hOw hAp hold
    unfold Oper.wp
    simp [execOp, ho, resolve, invoke, builtin, hd, hx, hrun, Result.andThen]
    exact hK.out _ _ hk.1 hk.2
end
end Go.Proofs.Ytllhnbnddcghoaa
