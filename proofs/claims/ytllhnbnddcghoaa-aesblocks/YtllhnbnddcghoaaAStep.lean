/- Rows of bytes in memory, changed byte by byte and four by four; a result that lies in memory, whole. No call is walked here. -/
import Derived.Test.YtllhnbnddcghoaaALow
import Derived.Test.YtllhnbnddcghoaaBMade
import Derived.Test.YtllhnbnddcghoaaOrdR
import Derived.Test.YtllhnbnddcghoaaOw
import Derived.Deep.LoopGhost
namespace Go.Proofs.Ytllhnbnddcghoaa
open Go.RowKit Bk
set_option linter.unusedVariables false
set_option linter.unusedSimpArgs false

/-- A result that lies in memory, whole. -/
theorem results_row {P : Program} {fn : Func} {p : Tmp} {ty : TypeId} (h : fn.results = #[.cell p ty]) (tmps : Array Value) (w : World) (b o : Nat) (cs : List Value) (d : TypeDesc) (ha : tmps.getD p undef = .pointer (some ⟨b, o, none⟩))
    (hc : w.rangeAt b o cs) (hu : P.underlying ty = some d) (hd : d.isRow = true) (hi : (P.info? ty).map (·.size) = some cs.length) : (results fn tmps).run P w = .ok (.agg cs.toArray) w := by
  have hl := run_loadVar_mid (P := P) w b o ty cs d hc hu hd hi
  simp only [Array.getD_eq_getD_getElem?] at ha
  simp only [results, h]
  simp [ha, asAddr, hl]
theorem post_row {P : Program} {fn : Func} {R : Ending → World → Prop} {a : Act} {w : World} {p : Tmp} {ty : TypeId} {b o : Nat} {cs : List Value} (d : TypeDesc) (hr : Row w b o cs) (h : fn.results = #[.cell p ty]) (ha : a.tmps.getD p undef = .pointer (some ⟨b, o, none⟩))
    (hu : P.underlying ty = some d) (hd : d.isRow = true) (hi : (P.info? ty).map (·.size) = some cs.length) (hz : a.defers = []) (hR : R (.returned (.agg cs.toArray)) w) : bodyPost P fn R .ret a w :=
  bodyPost_ret (results_row h a.tmps w b o cs d ha hr.cell hu hd hi) hz hR

/-- A byte, as a value. -/
def yv (x : UInt8) : Value := .int .u8 (x.toNat : Int)
theorem bs_gy (l : List UInt8) (j : Nat) (h : j < l.length) : (bs l)[j]? = some (yv (gy l j)) := bs_get l j h
theorem Row.g {w : World} {b o : Nat} {l : List UInt8} (h : Row w b o (bs l)) (j : Nat) (hj : j < l.length) : w.cell? ⟨b, o + j, none⟩ = some (.int .u8 ((gy l j).toNat : Int)) := h.cell j _ (bs_gy l j hj)
theorem Row.g0 {w : World} {b : Nat} {l : List UInt8} (h : Row w b 0 (bs l)) (j : Nat) (hj : j < l.length) : w.cell? ⟨b, j, none⟩ = some (.int .u8 ((gy l j).toNat : Int)) := by
  have := h.g j hj
  rwa [Nat.zero_add] at this
theorem Row.fy {w : World} {b o : Nat} {l : List UInt8} (h : Row w b o (bs l)) (j : Nat) (hj : j < l.length) : w.frozen? ⟨b, o + j, none⟩ = false := h.free j (by rw [bs_length]; exact hj)
theorem Row.fy0 {w : World} {b : Nat} {l : List UInt8} (h : Row w b 0 (bs l)) (j : Nat) (hj : j < l.length) : w.frozen? ⟨b, j, none⟩ = false := h.f0 j (by rw [bs_length]; exact hj)
theorem Row.sety {w : World} {b : Nat} {l : List UInt8} (h : Row w b 0 (bs l)) {i : Nat} (hi : i < l.length) (x : UInt8) : Row (w.setCell ⟨b, i, none⟩ (.int .u8 (x.toNat : Int))) b 0 (bs (l.set i x)) := by
  rw [bs_setU]
  exact h.set0 (by rw [bs_length]; exact hi) _
theorem Row.part {w : World} {b o : Nat} {l : List UInt8} (h : Row w b o (bs l)) (k n : Nat) (hk : k ≤ l.length) : Row w b (o + k) (bs ((l.drop k).take n)) := by
  have e : l = l.take k ++ ((l.drop k).take n ++ (l.drop k).drop n) := by rw [List.take_append_drop, List.take_append_drop]
  rw [e, bs_app, bs_app] at h
  have h1 := h.right
  rw [bs_length, List.length_take, Nat.min_eq_left hk] at h1
  exact h1.left
theorem Row.part0 {w : World} {b : Nat} {l : List UInt8} (h : Row w b 0 (bs l)) (k n : Nat) (hk : k ≤ l.length) : Row w b k (bs ((l.drop k).take n)) := by
  have := h.part k n hk
  rwa [Nat.zero_add] at this
/-- A part is written anew. -/
theorem Row.over {w : World} {b : Nat} {l : List UInt8} (h : Row w b 0 (bs l)) (k : Nat) (v : List UInt8) (hk : k + v.length ≤ l.length) : Row (w.setCells b k (bs v)) b 0 (bs (l.take k ++ (v ++ l.drop (k + v.length)))) := by
  have e : l = l.take k ++ ((l.drop k).take v.length ++ (l.drop k).drop v.length) := by rw [List.take_append_drop, List.take_append_drop]
  have hd : (l.drop k).drop v.length = l.drop (k + v.length) := by rw [List.drop_drop]
  rw [e, bs_app, bs_app, hd] at h
  have h0 := h.left
  have h1 := h.right
  rw [bs_length, List.length_take, Nat.min_eq_left (by omega), Nat.zero_add] at h1
  have h2 := h1.left
  have h3 := h1.right
  have l2 : (bs ((l.drop k).take v.length)).length = v.length := by rw [bs_length, List.length_take, List.length_drop]; omega
  rw [l2] at h3
  rw [bs_app, bs_app]
  refine (h0.apart _ _ _ (.inr (.inl (by rw [bs_length, List.length_take]; omega)))).join ?_
  rw [bs_length, List.length_take, Nat.min_eq_left (by omega), Nat.zero_add]
  refine (h2.put (bs v) (by rw [l2, bs_length])).join ?_
  rw [bs_length]
  exact h3.apart _ _ _ (.inr (.inr (by rw [bs_length]; exact Nat.le_refl _)))
theorem mixd_over {R s : List UInt8} {m : Nat} (hR : R.length = m) (hs : s.length = m) (k n : Nat) (hk : k + n ≤ m) (v : List UInt8) (hv : v = (R.drop k).take n) : (mixd R s k).take k ++ (v ++ (mixd R s k).drop (k + v.length)) = mixd R s (k + n) := by
  subst hv
  have hl : ((R.drop k).take n).length = n := by rw [List.length_take, List.length_drop]; omega
  rw [hl]
  unfold mixd
  have h1 : (R.take k).length = k := by rw [List.length_take]; omega
  rw [List.take_append_of_le_length (by omega), List.take_take, Nat.min_self, List.drop_append, h1, List.drop_drop, show (R.take k).drop (k + n) = [] from List.drop_eq_nil_of_le (by omega), List.nil_append, show k + (k + n - k) = k + n by omega, ← List.append_assoc, List.take_add]
theorem Row.mixd {w : World} {b : Nat} {R s : List UInt8} {k : Nat} (h : Row w b 0 (bs (mixd R s k))) {m : Nat} (hR : R.length = m) (hs : s.length = m) (n : Nat) (hk : k + n ≤ m) (v : List UInt8) (hv : v = (R.drop k).take n) : Row (w.setCells b k (bs v)) b 0 (bs (Bk.mixd R s (k + n))) := by
  have hl : v.length = n := by rw [hv, List.length_take, List.length_drop]; omega
  have h1 := h.over k v (by rw [mixd_length hR hs k (by omega), hl]; exact hk)
  rwa [mixd_over hR hs k n hk v hv] at h1
theorem Row.mixd1 {w : World} {b : Nat} {R s : List UInt8} {k : Nat} (h : Row w b 0 (bs (Bk.mixd R s k))) {m : Nat} (hR : R.length = m) (hs : s.length = m) (hk : k < m) {x : UInt8} (hx : x = gy R k) : Row (w.setCell ⟨b, k, none⟩ (.int .u8 (x.toNat : Int))) b 0 (bs (Bk.mixd R s (k + 1))) := by
  have h1 := h.sety (i := k) (by rw [mixd_length hR hs k (by omega)]; exact hk) x
  subst hx
  rwa [mixd_set hR hs hk] at h1
/-- Noughts, as a row's first. -/
def zr (n : Nat) : List UInt8 := List.replicate n 0
theorem zr_length (n : Nat) : (zr n).length = n := List.length_replicate
theorem x8_int (x y : UInt8) : bits .xor .u8 (x.toNat : Int) (y.toNat : Int) = (((x ^^^ y).toNat : Nat) : Int) := by
  rw [UInt8.toNat_xor]
  exact u8_xor_nat x.toNat y.toNat (UInt8.toNat_lt _) (UInt8.toNat_lt _)
/-- A byte of an array that is a value. -/
theorem idx_arr {P : Program} {t e : TypeId} {n : Nat} (l : List UInt8) (i : Nat) (hu : P.underlying t = some (.array n e)) (hi : i < n) (hl : l.length = n) (hs : (P.info? e).map (·.size) = some 1) (he : P.underlying e = some (.int .u8)) (w : World) :
    (Instr.index t (.agg (bs l).toArray) (.int .i64 (i : Int))).run P w = .ok (.int .u8 ((gy l i).toNat : Int)) w :=
  run_index_cell i hu hi hs he rfl (by simpa [yv] using bs_gy l i (by omega)) w
/-- A word of an array of words that is a value. -/
theorem bs_extract (l : List UInt8) (i n : Nat) : (bs l).toArray.extract i (i + n) = (bs ((l.drop i).take n)).toArray := by
  rw [List.extract_toArray, List.extract_eq_take_drop, Nat.add_sub_cancel_left]
  simp [bs, List.map_drop, List.map_take]
theorem idx_word {P : Program} {t e : TypeId} {n : Nat} {d : TypeDesc} (l : List UInt8) (i : Nat) (hu : P.underlying t = some (.array n e)) (hi : i < n) (hs : (P.info? e).map (·.size) = some 4) (he : P.underlying e = some d) (hd : d.isRow = true) (w : World) :
    (Instr.index t (.agg (bs l).toArray) (.int .i64 (i : Int))).run P w = .ok (.agg (bs (wat l i)).toArray) w := by
  rw [run_index_row (sz := 4) (bs l).toArray i hu hi hs he hd w, bs_extract l (i * 4) 4, Nat.mul_comm i 4]
  rfl
/-- A block that is made, and filled at once. -/
theorem Row.made (w : World) (z vs : List Value) (t : TypeId) (hl : vs.length = z.length) : Row ((w.alloc (.cells z.toArray t)).setCells w.heap.size 0 vs) w.heap.size 0 vs := (Row.newL w z t).put vs hl
theorem Row.keep {w : World} {b o : Nat} {cs : List Value} (h : Row w b o cs) (z : Array Value) (vs : List Value) (t : TypeId) : Row ((w.alloc (.cells z t)).setCells w.heap.size 0 vs) b o cs := (h.alloc _).apart _ _ _ (.inl (Nat.ne_of_lt h.lt))
theorem below_made {B : Nat} {w0 w : World} (h : Below B w0 w) (hB : B ≤ w.heap.size) (z : Array Value) (vs : List Value) (t : TypeId) : Below B w0 ((w.alloc (.cells z t)).setCells w.heap.size 0 vs) := (h.alloc hB _).trans (below_setCells hB _ _ _)
theorem size_made (w : World) (z : Array Value) (vs : List Value) (t : TypeId) : ((w.alloc (.cells z t)).setCells w.heap.size 0 vs).heap.size = w.heap.size + 1 := by rw [size_setCells, World.size_alloc]
theorem below2 (w : World) (a b : Obj) : Below w.heap.size w ((w.alloc a).alloc b) := ((Below.refl _ w).alloc (Nat.le_refl _) _).alloc (by simp) _
theorem below3 (w : World) (a b c : Obj) : Below w.heap.size w (((w.alloc a).alloc b).alloc c) := (below2 w a b).alloc (by simp; omega) _
theorem below4 (w : World) (a b c d : Obj) : Below w.heap.size w ((((w.alloc a).alloc b).alloc c).alloc d) := (below3 w a b c).alloc (by simp; omega) _
theorem row2 (w : World) (a : Obj) (v : List Value) (t : TypeId) : Row ((w.alloc a).alloc (.cells v.toArray t)) (w.heap.size + 1) 0 v := by
  have h := Row.newL (w.alloc a) v t
  rwa [World.size_alloc] at h
theorem row3 (w : World) (a b : Obj) (v : List Value) (t : TypeId) : Row (((w.alloc a).alloc b).alloc (.cells v.toArray t)) (w.heap.size + 1 + 1) 0 v := by
  have h := Row.newL ((w.alloc a).alloc b) v t
  rwa [World.size_alloc, World.size_alloc] at h
theorem row4 (w : World) (a b c : Obj) (v : List Value) (t : TypeId) : Row ((((w.alloc a).alloc b).alloc c).alloc (.cells v.toArray t)) (w.heap.size + 1 + 1 + 1) 0 v := by
  have h := Row.newL (((w.alloc a).alloc b).alloc c) v t
  rwa [World.size_alloc, World.size_alloc, World.size_alloc] at h
theorem wat_eq (l : List UInt8) (k : Nat) : wat l k = (l.drop (k * 4)).take 4 := by rw [Nat.mul_comm]; rfl
theorem wat_comb (x y : List UInt8) (k : Nat) : wat (comb x y) k = comb (wat x k) (wat y k) := by unfold wat; rw [comb_drop, comb_take]
theorem wat_repl (T x : List UInt8) (k : Nat) : wat (repl T x) k = repl T (wat x k) := by unfold wat; rw [repl_drop, repl_take]
theorem wat_mixd {R s : List UInt8} {m k : Nat} (hR : R.length = m) (hs : s.length = m) (h : 4 * k + 4 ≤ m) : wat (mixd R s (4 * k)) k = wat s k := by
  have h1 : (R.take (4 * k)).length = 4 * k := by rw [List.length_take]; omega
  unfold wat mixd
  rw [List.drop_append, h1, show (R.take (4 * k)).drop (4 * k) = [] from List.drop_eq_nil_of_le (by omega), List.nil_append, Nat.sub_self, List.drop_zero]
def Z16 : Array Value := #[.int .u8 0, .int .u8 0, .int .u8 0, .int .u8 0, .int .u8 0, .int .u8 0, .int .u8 0, .int .u8 0, .int .u8 0, .int .u8 0, .int .u8 0, .int .u8 0, .int .u8 0, .int .u8 0, .int .u8 0, .int .u8 0]
end Go.Proofs.Ytllhnbnddcghoaa
