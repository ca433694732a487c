/- What a call may leave that turns one block alone. No call is walked here. -/
import Derived.Test.YtllhnbnddcghoaaArr
namespace Go.Proofs.Ytllhnbnddcghoaa
open Go.RowKit Bk
set_option linter.unusedVariables false

/-- Blocks that were there are as they were, but for block b; a block keeps its type. -/
structure Bt (b : Nat) (w w' : World) : Prop where
  os : w'.os = w.os
  tape : w'.tape = w.tape
  output : w'.output = w.output
  size : w.heap.size ≤ w'.heap.size
  block : ∀ k, k < w.heap.size → k ≠ b → w'.heap[k]? = w.heap[k]?
theorem Bt.refl (b : Nat) (w : World) : Bt b w w := ⟨rfl, rfl, rfl, Nat.le_refl _, fun _ _ _ => rfl⟩
theorem Bt.trans {b : Nat} {w w' w'' : World} (h : Bt b w w') (k : Bt b w' w'') : Bt b w w'' :=
  ⟨k.os.trans h.os, k.tape.trans h.tape, k.output.trans h.output, Nat.le_trans h.size k.size, fun i hi hn => (k.block i (Nat.lt_of_lt_of_le hi h.size) hn).trans (h.block i hi hn)⟩
theorem Bt.of_below {b : Nat} {w w' : World} (h : Below w.heap.size w w') : Bt b w w' := ⟨h.os, h.tape, h.output, h.size, fun k hk _ => h.block k hk⟩
theorem Bt.below {b B : Nat} {w w' : World} (h : Bt b w w') (hB : B ≤ b) (hs : B ≤ w.heap.size) : Below B w w' := ⟨h.os, h.tape, h.output, h.size, fun k hk => h.block k (by omega) (by omega)⟩
theorem Bt.drew {b : Nat} {w w' : World} (h : Bt b w w') : Bt b w w'.drew := ⟨h.os, h.tape, h.output, h.size, h.block⟩
theorem Bt.setCell {b : Nat} {w w' : World} (h : Bt b w w') (o : Nat) (v : Value) : Bt b w (w'.setCell ⟨b, o, none⟩ v) :=
  h.trans ⟨rfl, rfl, rfl, by simp [World.setCell], fun k hk hn => Below.heap_setCell _ _ _ _ hn⟩
theorem heap_setCells (b : Nat) : ∀ (vs : List Value) (o : Nat) (w : World) (k : Nat), k ≠ b → (w.setCells b o vs).heap[k]? = w.heap[k]?
  | [], _, _, _, _ => rfl
  | v :: r, o, w, k, hk => by rw [World.setCells, heap_setCells b r _ _ _ hk]; exact Below.heap_setCell _ _ _ _ hk
theorem os_setCells (b : Nat) : ∀ (vs : List Value) (o : Nat) (w : World), (w.setCells b o vs).os = w.os ∧ (w.setCells b o vs).tape = w.tape ∧ (w.setCells b o vs).output = w.output
  | [], _, _ => ⟨rfl, rfl, rfl⟩
  | v :: r, o, w => by rw [World.setCells]; exact os_setCells b r (o + 1) _
theorem Bt.setCells {b : Nat} {w w' : World} (h : Bt b w w') (o : Nat) (vs : List Value) : Bt b w (w'.setCells b o vs) :=
  have k := os_setCells b vs o w'
  h.trans ⟨k.1, k.2.1, k.2.2, by rw [size_setCells]; exact Nat.le_refl _, fun i hi hn => heap_setCells b vs o w' i hn⟩
theorem Bt.alloc {b : Nat} {w w' : World} (h : Bt b w w') (o : Obj) : Bt b w (w'.alloc o) := h.trans (Bt.of_below ((Below.refl _ _).alloc (Nat.le_refl _) o))

theorem Row.bt {w w' : World} {b c o : Nat} {cs : List Value} (h : Row w b o cs) (k : Bt c w w') (hne : b ≠ c) : Row w' b o cs :=
  ⟨Nat.lt_of_lt_of_le h.lt k.size, fun j v hj => (World.cell?_of_block (w := w) (k.block b h.lt hne)).trans (h.cell j v hj), fun j hj => (World.frozen?_of_block (w := w) (k.block b h.lt hne)).trans (h.free j hj)⟩
end Go.Proofs.Ytllhnbnddcghoaa
