/- A hash in memory: what it says that a hash has taken in a row of bytes; what calls leave of it. No call is walked here. -/
import Derived.Test.YtjdgaolailfplaaBState
import Derived.Test.YtjdgaolailfplaaDigest
import Derived.Test.YtjdgaolailfplaaOrdsX
namespace Go.Proofs.Ytjdgaolailfplaa
open Go.RowKit Bk
set_option linter.unusedVariables false

/-- The bytes of which no block was made yet; the numbers so far. -/
def lf (l : List UInt8) : List UInt8 := l.drop (64 * qn l.length)
def hst (h : List Nat) (l : List UInt8) : List Nat := st h l (qn l.length)
theorem lf_length (l : List UInt8) : (lf l).length = l.length - 64 * qn l.length := by simp [lf]
theorem lf_le (l : List UInt8) : (lf l).length ≤ 64 := by rw [lf_length]; have := qn_le l.length; omega

/-- The cells of a hash. -/
def hcs (h : List Nat) (t : Nat) (a : Option Addr) (n : Nat) : List Value := stv h t ++ [.slice a n n]
theorem hcs_length (h : List Nat) (t : Nat) (a : Option Addr) (n : Nat) : (hcs h t a n).length = h.length + 2 := by simp [hcs, stv_length]

/-- Blocks that were there are as they were, but for block b; a block keeps its type. -/
structure Bt (b : Nat) (w w' : World) : Prop where
  os : w'.os = w.os
  tape : w'.tape = w.tape
  output : w'.output = w.output
  size : w.heap.size ≤ w'.heap.size
  block : ∀ k, k < w.heap.size → k ≠ b → w'.heap[k]? = w.heap[k]?
theorem Bt.refl (b : Nat) (w : World) : Bt b w w := ⟨rfl, rfl, rfl, Nat.le_refl _, fun _ _ _ => rfl⟩
theorem Bt.trans {b : Nat} {w w' w'' : World} (h : Bt b w w') (k : Bt b w' w'') : Bt b w w'' :=
  ⟨k.os.trans h.os, k.tape.trans h.tape, k.output.trans h.output, Nat.le_trans h.size k.size, fun i hi hn => (k.block i (Nat.lt_of_lt_of_le hi h.size) hn).trans (h.block i hi hn)⟩
theorem Bt.of_below {b : Nat} {w w' : World} (h : Below w.heap.size w w') : Bt b w w' := ⟨h.os, h.tape, h.output, h.size, fun k hk _ => h.block k hk⟩
theorem Bt.below {b B : Nat} {w w' : World} (h : Bt b w w') (hB : B ≤ b) (hs : B ≤ w.heap.size) : Below B w w' := ⟨h.os, h.tape, h.output, h.size, fun k hk => h.block k (by omega) (by omega)⟩
theorem Bt.drew {b : Nat} {w w' : World} (h : Bt b w w') : Bt b w w'.drew := ⟨h.os, h.tape, h.output, h.size, h.block⟩
theorem Bt.setCell {b : Nat} {w w' : World} (h : Bt b w w') (o : Nat) (v : Value) : Bt b w (w'.setCell ⟨b, o, none⟩ v) :=
  h.trans ⟨rfl, rfl, rfl, by simp [World.setCell], fun k hk hn => Below.heap_setCell _ _ _ _ hn⟩
theorem heap_setCells (b : Nat) : ∀ (vs : List Value) (o : Nat) (w : World) (k : Nat), k ≠ b → (w.setCells b o vs).heap[k]? = w.heap[k]?
  | [], _, _, _, _ => rfl
  | v :: r, o, w, k, hk => by rw [World.setCells, heap_setCells b r _ _ _ hk]; exact Below.heap_setCell _ _ _ _ hk
theorem os_setCells (b : Nat) : ∀ (vs : List Value) (o : Nat) (w : World), (w.setCells b o vs).os = w.os ∧ (w.setCells b o vs).tape = w.tape ∧ (w.setCells b o vs).output = w.output
  | [], _, _ => ⟨rfl, rfl, rfl⟩
  | v :: r, o, w => by rw [World.setCells]; exact os_setCells b r (o + 1) _
theorem Bt.setCells {b : Nat} {w w' : World} (h : Bt b w w') (o : Nat) (vs : List Value) : Bt b w (w'.setCells b o vs) :=
  have k := os_setCells b vs o w'
  h.trans ⟨k.1, k.2.1, k.2.2, by rw [size_setCells]; exact Nat.le_refl _, fun i hi hn => heap_setCells b vs o w' i hn⟩
theorem Bt.alloc {b : Nat} {w w' : World} (h : Bt b w w') (o : Obj) : Bt b w (w'.alloc o) := h.trans (Bt.of_below ((Below.refl _ _).alloc (Nat.le_refl _) o))

/-- Block b is a hash's. -/
def Ty (w : World) (b : Nat) : Prop := ∃ C fr, w.heap[b]? = some (.cells C 61 fr)
theorem Ty.setCell {w : World} {b : Nat} (h : Ty w b) (p o : Nat) (v : Value) : Ty (w.setCell ⟨p, o, none⟩ v) b := by
  obtain ⟨C, fr, hb⟩ := h
  by_cases e : b = p
  · subst e
    rw [setCell_eq_setRow w b o C 61 fr v hb]
    exact ⟨_, fr, setRow_heap w b C _ 61 fr hb⟩
  · exact ⟨C, fr, (Below.heap_setCell _ _ _ _ e).trans hb⟩
theorem Ty.setCells {w : World} {b : Nat} (h : Ty w b) (p : Nat) : ∀ (vs : List Value) (o : Nat), Ty (w.setCells p o vs) b := by
  intro vs
  induction vs generalizing w with
  | nil => intro o; exact h
  | cons v r ih => intro o; rw [World.setCells]; exact ih (h.setCell _ _ _) _
theorem Ty.below {w w' : World} {b B : Nat} (h : Ty w b) (k : Below B w w') (hb : b < B) : Ty w' b := by
  obtain ⟨C, fr, hh⟩ := h
  exact ⟨C, fr, (k.block b hb).trans hh⟩
theorem Ty.bt {w w' : World} {b c : Nat} (h : Ty w b) (k : Bt c w w') (hne : b ≠ c) : Ty w' b := by
  obtain ⟨C, fr, hh⟩ := h
  exact ⟨C, fr, (k.block b ((Array.getElem?_eq_some_iff.1 hh).1) hne).trans hh⟩
/-- A row of bytes is none of a hash's blocks. -/
theorem Sb.bt {w w' : World} {a : Option Addr} {n c b : Nat} {l : List UInt8} (h : Sb w a n c l) (t : Ty w b) (k : Bt b w w') : Sb w' a n c l :=
  h.block fun i C fr hi => by
    have hlt : i < w.heap.size := (Array.getElem?_eq_some_iff.1 hi).1
    have hne : i ≠ b := by
      rintro rfl
      obtain ⟨C', fr', hb⟩ := t
      rw [hi] at hb
      simp at hb
    rw [k.block i hlt hne]; exact hi
theorem Row.bt {w w' : World} {b c o : Nat} {cs : List Value} (h : Row w b o cs) (k : Bt c w w') (hne : b ≠ c) : Row w' b o cs :=
  ⟨Nat.lt_of_lt_of_le h.lt k.size, fun j v hj => (World.cell?_of_block (w := w) (k.block b h.lt hne)).trans (h.cell j v hj), fun j hj => (World.frozen?_of_block (w := w) (k.block b h.lt hne)).trans (h.free j hj)⟩

/-- The hash at block b began by h and has taken in l. -/
structure Hs (w : World) (b : Nat) (h : List Nat) (l : List UInt8) : Prop where
  ty : Ty w b
  ex : ∃ a, Row w b 0 (hcs (hst h l) (64 * qn l.length) a (lf l).length) ∧ Sb w a (lf l).length (lf l).length (lf l)
theorem Hs.below {w w' : World} {b : Nat} {h : List Nat} {l : List UInt8} (H : Hs w b h l) (k : Below w.heap.size w w') : Hs w' b h l := by
  obtain ⟨a, hr, hs⟩ := H.ex
  exact ⟨H.ty.below k hr.lt, a, hr.below k hr.lt, hs.below k⟩
theorem Hs.drew {w : World} {b : Nat} {h : List Nat} {l : List UInt8} (H : Hs w b h l) : Hs w.drew b h l := by
  obtain ⟨a, hr, hs⟩ := H.ex
  exact ⟨H.ty, a, hr.drew, hs.drew⟩
theorem Hs.bt {w w' : World} {b c : Nat} {h : List Nat} {l : List UInt8} (H : Hs w b h l) (t : Ty w c) (k : Bt c w w') (hne : b ≠ c) : Hs w' b h l := by
  obtain ⟨a, hr, hs⟩ := H.ex
  exact ⟨H.ty.bt k hne, a, hr.bt k hne, hs.bt t k⟩
theorem Hs.lt {w : World} {b : Nat} {h : List Nat} {l : List UInt8} (H : Hs w b h l) : b < w.heap.size := by
  obtain ⟨a, hr, hs⟩ := H.ex
  exact hr.lt

end Go.Proofs.Ytjdgaolailfplaa
