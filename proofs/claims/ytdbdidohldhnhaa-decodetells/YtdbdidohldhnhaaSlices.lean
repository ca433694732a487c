/- Lists of numbers of 16 bits in memory: what it says that a slice holds a row of numbers, that the row may be written, that a row is cut short. No call is walked here. -/
import Derived.Test.YtdbdidohldhnhaaNumsP
import Derived.Below
import Derived.Deep.OwnRows
import Derived.Laws.AppendOwn
namespace Go.Proofs.Ytdbdidohldhnhaa
open Go.RowKit Gf

/-- The slice holds f 0 .. f (n - 1), numbers of 16 bits; f is 0 beyond. -/
structure Sl (w : World) (a : Option Addr) (n c : Nat) (f : Nat → Int) : Prop where
  bd : ∀ j, 0 ≤ f j ∧ f j ≤ 65535
  out : ∀ j, n ≤ j → f j = 0
  cap : n ≤ c
  nil : a = none → c = 0
  at' : n = 0 ∨ ∃ b off, a = some ⟨b, off, none⟩ ∧ b < w.heap.size ∧ ∀ j, j < n → w.cell? ⟨b, off + j, none⟩ = some (.int .u16 (f j))

theorem Sl.below {w w' : World} {a : Option Addr} {n c : Nat} {f : Nat → Int} (h : Sl w a n c f) (hB : Below w.heap.size w w') : Sl w' a n c f := by
  refine ⟨h.bd, h.out, h.cap, h.nil, ?_⟩
  rcases h.at' with h0 | ⟨b, off, ha, hb, hc⟩
  · exact .inl h0
  · exact .inr ⟨b, off, ha, Nat.lt_of_lt_of_le hb hB.size, fun j hj => (hB.cell (p := ⟨b, off + j, none⟩) hb).trans (hc j hj)⟩

theorem Sl.cut {w : World} {a : Option Addr} {n c : Nat} {f : Nat → Int} (h : Sl w a n c f) {m : Nat} (hm : m ≤ n) (hz : ∀ j, m ≤ j → f j = 0) : Sl w a m c f := by
  refine ⟨h.bd, hz, Nat.le_trans hm h.cap, h.nil, ?_⟩
  rcases h.at' with h0 | ⟨b, off, ha, hb, hc⟩
  · exact .inl (by omega)
  · exact .inr ⟨b, off, ha, hb, fun j hj => hc j (by omega)⟩

/-- m is the length of f without the noughts at its end. -/
def Shr (f : Nat → Int) (m : Nat) : Prop := (m = 0 ∨ f (m - 1) ≠ 0) ∧ ∀ j, m ≤ j → f j = 0
theorem Shr.uniq {f : Nat → Int} {m n : Nat} (h : Shr f m) (k : Shr f n) : m = n := by
  rcases Nat.lt_trichotomy m n with h1 | h1 | h1
  · rcases k.1 with h0 | h0
    · omega
    · exact (h0 (h.2 _ (by omega))).elim
  · exact h1
  · rcases h.1 with h0 | h0
    · omega
    · exact (h0 (k.2 _ (by omega))).elim

/-- The cells off .. off + n - 1 of block b hold f, and may be written. -/
structure Wr (w : World) (b off n : Nat) (f : Nat → Int) : Prop where
  lt : b < w.heap.size
  cell : ∀ j, j < n → w.cell? ⟨b, off + j, none⟩ = some (.int .u16 (f j))
  free : ∀ j, j < n → w.frozen? ⟨b, off + j, none⟩ = false

theorem Wr.congr {w : World} {b off n : Nat} {f g : Nat → Int} (h : Wr w b off n f) (e : ∀ j, j < n → f j = g j) : Wr w b off n g :=
  ⟨h.lt, fun j hj => by rw [h.cell j hj, e j hj], h.free⟩
theorem Wr.below {w w' : World} {b off n B : Nat} {f : Nat → Int} (h : Wr w b off n f) (hB : Below B w w') (hb : b < B) : Wr w' b off n f :=
  ⟨Nat.lt_of_lt_of_le h.lt hB.size, fun j hj => (hB.cell (p := ⟨b, off + j, none⟩) hb).trans (h.cell j hj), fun j hj => (hB.frozen (p := ⟨b, off + j, none⟩) hb).trans (h.free j hj)⟩
theorem Wr.drew {w : World} {b off n : Nat} {f : Nat → Int} (h : Wr w b off n f) (q : Nat) : Wr (w.drewN q) b off n f := ⟨h.lt, h.cell, h.free⟩
theorem Wr.drew1 {w : World} {b off n : Nat} {f : Nat → Int} (h : Wr w b off n f) : Wr w.drew b off n f := ⟨h.lt, h.cell, h.free⟩
theorem Wr.set {w : World} {b off n : Nat} {f : Nat → Int} (h : Wr w b off n f) (i : Nat) (hi : i < n) (y : Int) :
    Wr (w.setCell ⟨b, off + i, none⟩ (.int .u16 y)) b off n (fun j => if j = i then y else f j) := by
  refine ⟨by simpa [World.setCell] using h.lt, fun j hj => ?_, fun j hj => by rw [World.frozen?_setCell]; exact h.free j hj⟩
  by_cases e : j = i
  · subst e
    rw [World.cell?_setCell_same' _ _ _ (by rw [h.cell j hj]; rfl)]
    simp
  · rw [if_neg e]
    refine Eq.trans ?_ (h.cell j hj)
    apply World.cell?_setCell_other
    intro h'
    injection h' with _ h'
    omega
/-- What may be written may be read. -/
theorem Wr.sl {w : World} {b off n : Nat} {f : Nat → Int} (h : Wr w b off n f) (c : Nat) (hc : n ≤ c) (bd : ∀ j, 0 ≤ f j ∧ f j ≤ 65535) (out : ∀ j, n ≤ j → f j = 0) : Sl w (some ⟨b, off, none⟩) n c f :=
  ⟨bd, out, hc, fun e => (by cases e), .inr ⟨b, off, rfl, h.lt, h.cell⟩⟩


/-- A slice that a call has made: it holds f in memory that was not there in w and may be written; what was there is as it was. -/
structure New (w w' : World) (a : Option Addr) (n c : Nat) (f : Nat → Int) : Prop where
  sl : Sl w' a n c f
  bel : Below w.heap.size w w'
  own : n = 0 ∨ ∃ b off, a = some ⟨b, off, none⟩ ∧ w.heap.size ≤ b ∧ Wr w' b off n f

theorem New.cut {w w' : World} {a : Option Addr} {n c : Nat} {f : Nat → Int} (h : New w w' a n c f) {m : Nat} (hm : m ≤ n) (hz : ∀ j, m ≤ j → f j = 0) : New w w' a m c f := by
  refine ⟨h.sl.cut hm hz, h.bel, ?_⟩
  rcases h.own with h0 | ⟨b, off, ha, hb, hw⟩
  · exact .inl (by omega)
  · exact .inr ⟨b, off, ha, hb, ⟨hw.lt, fun j hj => hw.cell j (by omega), fun j hj => hw.free j (by omega)⟩⟩

theorem New.of_wr {w w' : World} {b off n c : Nat} {f : Nat → Int} (h : Wr w' b off n f) (hb : w.heap.size ≤ b) (bel : Below w.heap.size w w') (hc : n ≤ c) (bd : ∀ j, 0 ≤ f j ∧ f j ≤ 65535) (out : ∀ j, n ≤ j → f j = 0) :
    New w w' (some ⟨b, off, none⟩) n c f := ⟨h.sl c hc bd out, bel, .inr ⟨b, off, rfl, hb, h⟩⟩

theorem Sl.alloc {w : World} {a : Option Addr} {n c : Nat} {f : Nat → Int} (h : Sl w a n c f) (o : Obj) : Sl (w.alloc o) a n c f := h.below ((Below.refl _ w).alloc (Nat.le_refl _) o)
theorem Wr.alloc {w : World} {b off n : Nat} {f : Nat → Int} (h : Wr w b off n f) (o : Obj) : Wr (w.alloc o) b off n f := h.below ((Below.refl _ w).alloc (Nat.le_refl _) o) h.lt
theorem New.alloc {w w' : World} {a : Option Addr} {n c : Nat} {f : Nat → Int} (h : New w w' a n c f) (o : Obj) : New w (w'.alloc o) a n c f := by
  refine ⟨h.sl.alloc o, h.bel.alloc h.bel.size o, ?_⟩
  rcases h.own with h0 | ⟨b, off, ha, hb, hw⟩
  · exact .inl h0
  · exact .inr ⟨b, off, ha, hb, hw.alloc o⟩
theorem New.from {w0 w w' : World} {a : Option Addr} {n c : Nat} {f : Nat → Int} (h : New w w' a n c f) (hB : Below w0.heap.size w0 w) : New w0 w' a n c f := by
  refine ⟨h.sl, hB.trans (h.bel.mono hB.size), ?_⟩
  rcases h.own with h0 | ⟨b, off, ha, hb, hw⟩
  · exact .inl h0
  · exact .inr ⟨b, off, ha, Nat.le_trans hB.size hb, hw⟩
theorem Sl.congr {w : World} {a : Option Addr} {n c : Nat} {f g : Nat → Int} (h : Sl w a n c f) (e : f = g) : Sl w a n c g := e ▸ h
theorem New.congr {w w' : World} {a : Option Addr} {n c : Nat} {f g : Nat → Int} (h : New w w' a n c f) (e : f = g) : New w w' a n c g := e ▸ h
/-- A row that make has laid. -/
theorem Wr.made (w : World) (n : Nat) : Wr (w.alloc (.cells (madeCells #[.int .u16 0] n) 29)) w.heap.size 0 n (fun _ => 0) := by
  have h := World.rowIs_made w (.int .u16 0) n 29
  refine ⟨h.lt, fun j hj => ?_, fun j _ => ?_⟩
  · rw [Nat.zero_add]; exact h.cell hj
  · rw [Nat.zero_add]; exact h.frozen j

/-- Block b alone may have turned; there is no new one. -/
structure Only (b : Nat) (w w' : World) : Prop where
  os : w'.os = w.os
  tape : w'.tape = w.tape
  output : w'.output = w.output
  size : w'.heap.size = w.heap.size
  block : ∀ k, k ≠ b → w'.heap[k]? = w.heap[k]?
theorem Only.refl (b : Nat) (w : World) : Only b w w := ⟨rfl, rfl, rfl, rfl, fun _ _ => rfl⟩
theorem Only.trans {b : Nat} {w w' w'' : World} (h : Only b w w') (k : Only b w' w'') : Only b w w'' :=
  ⟨k.os.trans h.os, k.tape.trans h.tape, k.output.trans h.output, k.size.trans h.size, fun i hi => (k.block i hi).trans (h.block i hi)⟩
theorem Only.drewN {b : Nat} {w w' : World} (h : Only b w w') (q : Nat) : Only b w (w'.drewN q) := ⟨h.os, h.tape, h.output, h.size, h.block⟩
theorem Only.drew {b : Nat} {w w' : World} (h : Only b w w') : Only b w w'.drew := ⟨h.os, h.tape, h.output, h.size, h.block⟩
theorem Only.setCell (b o : Nat) (w : World) (v : Value) : Only b w (w.setCell ⟨b, o, none⟩ v) :=
  ⟨rfl, rfl, rfl, by simp [World.setCell], fun k hk => Below.heap_setCell _ _ _ _ hk⟩
theorem Only.cell {b : Nat} {w w' : World} (h : Only b w w') {p : Addr} (hp : p.block ≠ b) : w'.cell? p = w.cell? p := World.cell?_of_block (w := w) (h.block p.block hp)
theorem Only.frozen {b : Nat} {w w' : World} (h : Only b w w') {p : Addr} (hp : p.block ≠ b) : w'.frozen? p = w.frozen? p := World.frozen?_of_block (w := w) (h.block p.block hp)
theorem Only.below {b B : Nat} {w w' : World} (h : Only b w w') (hB : B ≤ b) : Below B w w' :=
  ⟨h.os, h.tape, h.output, Nat.le_of_eq h.size.symm, fun k hk => h.block k (by omega)⟩
theorem Only.sl {b : Nat} {w w' : World} (h : Only b w w') {a : Option Addr} {n c : Nat} {f : Nat → Int} (hs : Sl w a n c f) (hne : ∀ x, a = some x → x.block ≠ b) : Sl w' a n c f := by
  refine ⟨hs.bd, hs.out, hs.cap, hs.nil, ?_⟩
  rcases hs.at' with h0 | ⟨b', off, ha, hb, hc⟩
  · exact .inl h0
  · exact .inr ⟨b', off, ha, by rw [h.size]; exact hb, fun j hj => (h.cell (p := ⟨b', off + j, none⟩) (show b' ≠ b from hne _ ha)).trans (hc j hj)⟩
theorem Only.wr {b : Nat} {w w' : World} (h : Only b w w') {b' o n : Nat} {f : Nat → Int} (hs : Wr w b' o n f) (hne : b' ≠ b) : Wr w' b' o n f :=
  ⟨by rw [h.size]; exact hs.lt, fun j hj => (h.cell (p := ⟨b', o + j, none⟩) hne).trans (hs.cell j hj), fun j hj => (h.frozen (p := ⟨b', o + j, none⟩) hne).trans (hs.free j hj)⟩

/-- The numbers as values. -/
def vals (f : Nat → Int) (n : Nat) : List Value := (List.range n).map fun j => Value.int .u16 (f j)
theorem vals_length (f : Nat → Int) (n : Nat) : (vals f n).length = n := by simp [vals]
theorem vals_get (f : Nat → Int) (n j : Nat) (hj : j < n) : (vals f n)[j]? = some (.int .u16 (f j)) := by simp [vals, hj]
theorem vals_one {f : Nat → Int} {n : Nat} {u : Value} (h : u ∈ vals f n) : u.oneCell' = true := by
  simp only [vals, List.mem_map] at h
  obtain ⟨j, _, rfl⟩ := h
  rfl

/-- What append makes of its own. -/
theorem new_of_owns {w w' : World} {v : Value} {n : Nat} {f : Nat → Int} (h : w'.ownsRow w.heap.size 29 1 v n (vals f n)) (bel : Below w.heap.size w w') (bd : ∀ j, 0 ≤ f j ∧ f j ≤ 65535) (out : ∀ j, n ≤ j → f j = 0) :
    ∃ a c, v = .slice a n c ∧ New w w' a n c f := by
  rcases h.2 with ⟨rfl, rfl⟩ | ⟨g, cap, cur, rfl, hg, hgb, hnc, _, _, ht⟩
  · exact ⟨none, 0, rfl, ⟨bd, out, Nat.le_refl _, fun _ => rfl, .inl rfl⟩, bel, .inl rfl⟩
  · refine ⟨_, cap, rfl, New.of_wr ⟨(Array.getElem?_eq_some_iff.1 hgb).1, fun j hj => ?_, fun j hj => by simp [World.frozen?, hgb]⟩ hg bel hnc bd out⟩
    have h1 := vals_get f n j hj
    rw [← ht, List.getElem?_take, if_pos (by omega)] at h1
    simp [World.cell?, hgb]
    simpa using h1

end Go.Proofs.Ytdbdidohldhnhaa
