/- Rows of numbers in memory, arrays and structs as values: what it says that cells lie in a block from a place on and may be written; what stores, allocations and calls leave of it. No call is walked here. -/
import Derived.Test.YtllhnbnddcghoaaBLow
import Derived.Below
import Derived.Deep.MidRow
import Derived.Deep.WholeRow
import Derived.StillTailTactics
namespace Go.Proofs.Ytllhnbnddcghoaa
open Go.RowKit Bk
set_option linter.unusedVariables false

/-- Numbers of 32 bits, bytes, as values. -/
def us (l : List Nat) : List Value := l.map fun (x : Nat) => Value.int .u32 (x : Int)
def bs (l : List UInt8) : List Value := l.map fun (x : UInt8) => Value.int .u8 (x.toNat : Int)
theorem us_length (l : List Nat) : (us l).length = l.length := by simp [us]
theorem bs_length (l : List UInt8) : (bs l).length = l.length := by simp [bs]
theorem us_get (l : List Nat) (j : Nat) (h : j < l.length) : (us l)[j]? = some (.int .u32 (at' l j : Nat)) := by simp [us, at', h]
theorem bs_get (l : List UInt8) (j : Nat) (h : j < l.length) : (bs l)[j]? = some (.int .u8 (by' l j : Nat)) := by simp [bs, by', h]
theorem us_one {l : List Nat} {v : Value} (h : v ∈ us l) : v.oneCell' = true := by
  simp only [us, List.mem_map] at h
  obtain ⟨x, _, rfl⟩ := h
  rfl
theorem bs_one {l : List UInt8} {v : Value} (h : v ∈ bs l) : v.oneCell' = true := by
  simp only [bs, List.mem_map] at h
  obtain ⟨x, _, rfl⟩ := h
  rfl
theorem us_set (l : List Nat) (i x : Nat) : us (l.set i x) = (us l).set i (.int .u32 (x : Int)) := by simp [us, List.map_set]
theorem us_app (l k : List Nat) : us (l ++ k) = us l ++ us k := by simp [us]
theorem bs_app (l k : List UInt8) : bs (l ++ k) = bs l ++ bs k := by simp [bs]

/-- The cells cs lie in block b from place o on, and may be written. -/
structure Row (w : World) (b o : Nat) (cs : List Value) : Prop where
  lt : b < w.heap.size
  cell : w.rangeAt b o cs
  free : ∀ j, j < cs.length → w.frozen? ⟨b, o + j, none⟩ = false

theorem Row.at' {w : World} {b o : Nat} {cs : List Value} (h : Row w b o cs) {j : Nat} {v : Value} (hj : cs[j]? = some v) : w.cell? ⟨b, o + j, none⟩ = some v := h.cell j v hj
theorem Row.there {w : World} {b o : Nat} {cs : List Value} (h : Row w b o cs) : w.there b o cs.length := fun j hj => ⟨h.cell.isSome j hj, h.free j hj⟩
theorem Row.below {w w' : World} {b o B : Nat} {cs : List Value} (h : Row w b o cs) (hB : Below B w w') (hb : b < B) : Row w' b o cs :=
  ⟨Nat.lt_of_lt_of_le h.lt hB.size, fun j v hj => (hB.cell (p := ⟨b, o + j, none⟩) hb).trans (h.cell j v hj), fun j hj => (hB.frozen (p := ⟨b, o + j, none⟩) hb).trans (h.free j hj)⟩
theorem Row.drew {w : World} {b o : Nat} {cs : List Value} (h : Row w b o cs) : Row w.drew b o cs := ⟨h.lt, h.cell, h.free⟩
theorem Row.drewN {w : World} {b o : Nat} {cs : List Value} (h : Row w b o cs) (q : Nat) : Row (w.drewN q) b o cs := ⟨h.lt, h.cell, h.free⟩
theorem Row.alloc {w : World} {b o : Nat} {cs : List Value} (h : Row w b o cs) (ob : Obj) : Row (w.alloc ob) b o cs := h.below ((Below.refl _ w).alloc (Nat.le_refl _) ob) h.lt
theorem Row.new (w : World) (c : Array Value) (t : TypeId) : Row (w.alloc (.cells c t)) w.heap.size 0 c.toList := by
  have hb := heap_alloc_last w (.cells c t)
  refine ⟨by simp, fun j v hj => ?_, fun j hj => by unfold World.frozen?; rw [show (w.alloc (.cells c t)).heap[(⟨w.heap.size, 0 + j, none⟩ : Addr).block]? = _ from hb]; simp⟩
  rw [Nat.zero_add, cell_of_row _ _ j c t (0, 0) hb]
  simpa using hj
theorem Row.newL (w : World) (c : List Value) (t : TypeId) : Row (w.alloc (.cells c.toArray t)) w.heap.size 0 c := by simpa using Row.new w c.toArray t
theorem Row.set {w : World} {b o : Nat} {cs : List Value} (h : Row w b o cs) {i : Nat} (hi : i < cs.length) (v : Value) : Row (w.setCell ⟨b, o + i, none⟩ v) b o (cs.set i v) := by
  refine ⟨by simpa [World.setCell] using h.lt, fun j u hj => ?_, fun j hj => by rw [World.frozen?_setCell]; exact h.free j (by simpa using hj)⟩
  by_cases e : j = i
  · subst e
    rw [World.cell?_setCell_same' _ _ _ (h.cell.isSome j hi)]
    rw [List.getElem?_set_self hi] at hj
    exact hj
  · rw [List.getElem?_set_ne (fun k => e k.symm)] at hj
    rw [World.cell?_setCell_other _ _ _ _ (by intro h'; injection h' with _ h'; omega)]
    exact h.cell j u hj
theorem Row.set0 {w : World} {b : Nat} {cs : List Value} (h : Row w b 0 cs) {i : Nat} (hi : i < cs.length) (v : Value) : Row (w.setCell ⟨b, i, none⟩ v) b 0 (cs.set i v) := by
  have := h.set hi v
  rwa [Nat.zero_add] at this
theorem Row.other {w : World} {b o : Nat} {cs : List Value} (h : Row w b o cs) (b' i : Nat) (v : Value) (hne : b ≠ b' ∨ i < o ∨ o + cs.length ≤ i) : Row (w.setCell ⟨b', i, none⟩ v) b o cs := by
  refine ⟨by simpa [World.setCell] using h.lt, fun j u hj => ?_, fun j hj => by rw [World.frozen?_setCell]; exact h.free j hj⟩
  have hl : j < cs.length := (List.getElem?_eq_some_iff.1 hj).1
  rw [World.cell?_setCell_other _ _ _ _ (by intro h'; injection h' with h1 h2; omega)]
  exact h.cell j u hj
theorem size_setCells (b : Nat) : ∀ (vs : List Value) (o : Nat) (w : World), (w.setCells b o vs).heap.size = w.heap.size
  | [], _, _ => rfl
  | v :: r, o, w => by rw [World.setCells, size_setCells b r]; simp [World.setCell]
theorem below_setCells {B b : Nat} (hB : B ≤ b) : ∀ (vs : List Value) (o : Nat) (w : World), Below B w (w.setCells b o vs)
  | [], _, w => Below.refl _ _
  | v :: r, o, w => ((Below.refl _ w).setCell hB v).trans (below_setCells hB r (o + 1) _)
theorem Row.put {w : World} {b o : Nat} {cs : List Value} (h : Row w b o cs) (vs : List Value) (hl : vs.length = cs.length) : Row (w.setCells b o vs) b o vs := by
  have ht := h.there
  rw [← hl] at ht
  exact ⟨by rw [size_setCells]; exact h.lt, World.rangeAt_setCells_same w b o vs ht, fun j hj => by rw [World.frozen?_setCells]; exact h.free j (by omega)⟩
theorem Row.apart {w : World} {b o : Nat} {cs : List Value} (h : Row w b o cs) (b' o' : Nat) (vs : List Value) (hne : b ≠ b' ∨ o + cs.length ≤ o' ∨ o' + vs.length ≤ o) : Row (w.setCells b' o' vs) b o cs :=
  ⟨by rw [size_setCells]; exact h.lt, World.rangeAt_setCells_apart h.cell b' o' vs hne, fun j hj => by rw [World.frozen?_setCells]; exact h.free j hj⟩
theorem Row.left {w : World} {b o : Nat} {cs ds : List Value} (h : Row w b o (cs ++ ds)) : Row w b o cs :=
  ⟨h.lt, fun j v hj => h.cell j v (by rw [List.getElem?_append_left (List.getElem?_eq_some_iff.1 hj).1]; exact hj), fun j hj => h.free j (by rw [List.length_append]; omega)⟩
theorem Row.right {w : World} {b o : Nat} {cs ds : List Value} (h : Row w b o (cs ++ ds)) : Row w b (o + cs.length) ds :=
  ⟨h.lt, fun j v hj => by rw [Nat.add_assoc]; exact h.cell (cs.length + j) v (by rw [List.getElem?_append_right (by omega), Nat.add_sub_cancel_left]; exact hj), fun j hj => by rw [Nat.add_assoc]; exact h.free _ (by rw [List.length_append]; omega)⟩
theorem Row.join {w : World} {b o : Nat} {cs ds : List Value} (h : Row w b o cs) (k : Row w b (o + cs.length) ds) : Row w b o (cs ++ ds) := by
  refine ⟨h.lt, fun j v hj => ?_, fun j hj => ?_⟩
  · by_cases e : j < cs.length
    · rw [List.getElem?_append_left e] at hj; exact h.cell j v hj
    · rw [List.getElem?_append_right (by omega)] at hj
      have := k.cell _ v hj
      rwa [show o + cs.length + (j - cs.length) = o + j from by omega] at this
  · by_cases e : j < cs.length
    · exact h.free j e
    · rw [List.length_append] at hj
      have := k.free (j - cs.length) (by omega)
      rwa [show o + cs.length + (j - cs.length) = o + j from by omega] at this

/-- Numbers, bytes, read out of a row. -/
theorem Row.u {w : World} {b o : Nat} {l : List Nat} (h : Row w b o (us l)) (j : Nat) (hj : j < l.length) : w.cell? ⟨b, o + j, none⟩ = some (.int .u32 (Bk.at' l j : Nat)) := h.cell j _ (us_get l j hj)
theorem Row.u0 {w : World} {b : Nat} {l : List Nat} (h : Row w b 0 (us l)) (j : Nat) (hj : j < l.length) : w.cell? ⟨b, j, none⟩ = some (.int .u32 (Bk.at' l j : Nat)) := by
  have := h.u j hj
  rwa [Nat.zero_add] at this
theorem Row.y {w : World} {b o : Nat} {l : List UInt8} (h : Row w b o (bs l)) (j : Nat) (hj : j < l.length) : w.cell? ⟨b, o + j, none⟩ = some (.int .u8 (by' l j : Nat)) := h.cell j _ (bs_get l j hj)
theorem Row.y0 {w : World} {b : Nat} {l : List UInt8} (h : Row w b 0 (bs l)) (j : Nat) (hj : j < l.length) : w.cell? ⟨b, j, none⟩ = some (.int .u8 (by' l j : Nat)) := by
  have := h.y j hj
  rwa [Nat.zero_add] at this
theorem Row.f0 {w : World} {b : Nat} {cs : List Value} (h : Row w b 0 cs) (j : Nat) (hj : j < cs.length) : w.frozen? ⟨b, j, none⟩ = false := by
  have := h.free j hj
  rwa [Nat.zero_add] at this

/-- Rows of noughts. -/
theorem us_zero (n : Nat) : us (List.replicate n 0) = List.replicate n (.int .u32 0) := by simp [us]
theorem bs_zero (n : Nat) : bs (List.replicate n 0) = List.replicate n (.int .u8 0) := by simp [bs]

/-- Small numbers in bytes, as values. -/
def u8s (l : List Nat) : List Value := l.map fun (x : Nat) => Value.int .u8 (x : Int)
theorem u8s_length (l : List Nat) : (u8s l).length = l.length := by simp [u8s]
theorem u8s_get (l : List Nat) (j : Nat) (h : j < l.length) : (u8s l)[j]? = some (.int .u8 (Bk.at' l j : Nat)) := by simp [u8s, Bk.at', h]
theorem u8s_one {l : List Nat} {v : Value} (h : v ∈ u8s l) : v.oneCell' = true := by
  simp only [u8s, List.mem_map] at h
  obtain ⟨x, _, rfl⟩ := h
  rfl
theorem u8s_extract (l : List Nat) (i n : Nat) : (u8s l).toArray.extract i (i + n) = (u8s ((l.drop i).take n)).toArray := by
  rw [List.extract_toArray, List.extract_eq_take_drop, Nat.add_sub_cancel_left]
  simp [u8s, List.map_drop, List.map_take]
theorem Row.e0 {w : World} {b : Nat} {l : List Nat} (h : Row w b 0 (u8s l)) (j : Nat) (hj : j < l.length) : w.cell? ⟨b, j, none⟩ = some (.int .u8 (Bk.at' l j : Nat)) := by
  have := h.cell j _ (u8s_get l j hj)
  rwa [Nat.zero_add] at this

/-- A part of an array that is a value. -/
theorem run_index_row {P : Program} {t e : TypeId} {n sz : Nat} {d : TypeDesc} (cs : Array Value) (i : Nat) (hu : P.underlying t = some (.array n e)) (hi : i < n) (hs : (P.info? e).map (·.size) = some sz) (he : P.underlying e = some d) (hd : d.isRow = true) (w : World) :
    (Instr.index t (.agg cs) (.int .i64 (i : Int))).run P w = .ok (.agg (cs.extract (i * sz) (i * sz + sz))) w := by
  have h1 : ∀ w, (sizeOf e).run P w = .ok sz w := fun w => by
    cases hq : P.info? e with
    | none => simp [hq] at hs
    | some t => simp [hq] at hs; simp [sizeOf, typeInfo, hq, hs]
  have h2 : ∀ w, (isAgg e).run P w = .ok true w := fun w => by
    unfold isAgg
    rw [Sem.run_bind, run_underlying he w]
    cases d <;> simp_all
  have h3 : 0 ≤ (i : Int) ∧ (i : Int) < (n : Int) := ⟨by omega, by omega⟩
  simp [Instr.index, asIntOf, Sem.run_bind, run_underlying hu, h3, h1, part, h2]
  omega
theorem run_index_cell {P : Program} {t e : TypeId} {n : Nat} {d : TypeDesc} {cs : Array Value} {v : Value} (i : Nat) (hu : P.underlying t = some (.array n e)) (hi : i < n) (hs : (P.info? e).map (·.size) = some 1) (he : P.underlying e = some d) (hd : d.isRow = false) (hc : cs[i]? = some v) (w : World) :
    (Instr.index t (.agg cs) (.int .i64 (i : Int))).run P w = .ok v w := by
  have h1 : ∀ w, (sizeOf e).run P w = .ok 1 w := fun w => by
    cases hq : P.info? e with
    | none => simp [hq] at hs
    | some t => simp [hq] at hs; simp [sizeOf, typeInfo, hq, hs]
  have h2 : ∀ w, (isAgg e).run P w = .ok false w := fun w => by
    unfold isAgg
    rw [Sem.run_bind, run_underlying he w]
    cases d <;> simp_all
  have h3 : 0 ≤ (i : Int) ∧ (i : Int) < (n : Int) := ⟨by omega, by omega⟩
  simp [Instr.index, asIntOf, Sem.run_bind, run_underlying hu, h3, h1, part, h2, hc]
  omega

section
variable {P : Program} {ops : Array Oper} {rest : List Oper} {op : Oper} {a : Act} {w : World} {Q : Exit → Act → World → Prop}
/-- Operations on rows, in a plain row of operations. -/
theorem wpList_buildL (hg : op.guard = none) (t : TypeId) (parts : Array (Nat × Operand)) (ho : op.op = .build t parts) (cells : List Value) (hb : P.built t (parts.map fun (i, x) => (i, a.eval x)).toList = some cells.toArray)
    (h : wpList P ops Q rest (a.put op.dst (.agg cells.toArray)) w) : wpList P ops Q (op :: rest) a w :=
  wpList_build hg t parts ho (by rw [hb]; rfl) (by rw [hb]; exact h)
theorem run_allocL (t : TypeId) (z : Value) (n : Nat) (hz : (P.info? t).map (fun i => (i.zero, i.size)) = some (some z, n)) (w : World) : (Instr.alloc t true (.tuple #[])).run P w = .ok (.pointer (some ⟨w.heap.size, 0, none⟩)) (w.alloc (.cells z.cells t)) := by
  have h1 := (zero_of_info hz).1 w
  simp [Instr.alloc, Sem.run_bind, h1, newVar, newRow]
theorem wpList_allocL (hg : op.guard = none) (t : TypeId) (ho : op.op = .alloc t) (z : List Value) (n : Nat) (hz : (P.info? t).map (fun i => (i.zero, i.size)) = some (some (.agg z.toArray), n))
    (h : wpList P ops Q rest (a.put op.dst (.pointer (some ⟨w.heap.size, 0, none⟩))) (w.alloc (.cells z.toArray t))) : wpList P ops Q (op :: rest) a w :=
  wpList_plain hg fun _ hK => by
    unfold Oper.wp execOp
    simp only [ho, Sem.run_bind, run_allocL t _ n hz w]
    exact hK _ _ h
theorem wpList_loadR (hg : op.guard = none) (ty : TypeId) (x : Operand) (ho : op.op = .load ty x) {b o : Nat} (hx : a.eval x = .pointer (some ⟨b, o, none⟩)) {cs : List Value} (d : TypeDesc) (hr : Row w b o cs)
    (hu : P.underlying ty = some d) (hd : d.isRow = true) (hi : (P.info? ty).map (·.size) = some cs.length) (h : wpList P ops Q rest (a.put op.dst (.agg cs.toArray)) w) : wpList P ops Q (op :: rest) a w :=
  wpList_load_mid hg ty x ho b o hx cs d hr.cell hu hd hi h
theorem wpList_storeR (hg : op.guard = none) (ty : TypeId) (x y : Operand) (ho : op.op = .store ty x y) {b o : Nat} (hx : a.eval x = .pointer (some ⟨b, o, none⟩)) {cs vs : List Value} (hy : a.eval y = .agg vs.toArray) (hr : Row w b o cs)
    (hl : vs.length = cs.length) (hi : (P.info? ty).map (·.size) = some vs.length) (h1 : ∀ v ∈ vs, v.oneCell' = true) (h : wpList P ops Q rest (a.put op.dst undef) (w.setCells b o vs)) : wpList P ops Q (op :: rest) a w :=
  wpList_store_mid hg ty x y ho b o vs.toArray hx hy (by have := hr.there; rw [← hl] at this; simpa using this) (by simpa using hi) (all_oneCell_toArray h1) (by simpa using h)
/-- One number is stored. -/
theorem wpList_store1 (hg : op.guard = none) (ty : TypeId) (x y : Operand) (ho : op.op = .store ty x y) {b i : Nat} {k : IntKind} {n : Int} (hx : a.eval x = .pointer (some ⟨b, i, none⟩)) (hy : a.eval y = .int k n) {u : Value} (hc : w.cell? ⟨b, i, none⟩ = some u) (hf : w.frozen? ⟨b, i, none⟩ = false)
    (hi : (P.info? ty).map (·.size) = some 1) (h : wpList P ops Q rest (a.put op.dst undef) (w.setCell ⟨b, i, none⟩ (.int k n))) : wpList P ops Q (op :: rest) a w :=
  wpList_plain hg fun _ hK => by
    have hs : ∀ w, (sizeOf ty).run P w = .ok 1 w := fun w => by
      cases hq : P.info? ty with
      | none => simp [hq] at hi
      | some t => simp [hq] at hi; simp [sizeOf, typeInfo, hq, hi]
    have hr : (Instr.storeAt ty (.pointer (some ⟨b, i, none⟩)) (.int k n)).run P w = .ok () (w.setCell ⟨b, i, none⟩ (.int k n)) := by
      have h0 : (⟨b, i, none⟩ : Addr).add 0 = ⟨b, i, none⟩ := by unfold Addr.add; simp
      simp [Instr.storeAt, Instr.sureAddr, storeVar, Sem.run_bind, hs, Value.cells, storeCells, run_store P w _ (.int k n) _ rfl, h0, hc, hf]
    unfold Oper.wp execOp
    simp only [ho, hx, hy, Sem.run_bind, hr]
    exact hK _ _ h
end

end Go.Proofs.Ytllhnbnddcghoaa
