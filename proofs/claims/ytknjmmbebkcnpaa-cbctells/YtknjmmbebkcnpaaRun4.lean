/- Several texts of ours, one behind the other; what each is for stands ahead of it. -/
import Derived.Test.YtknjmmbebkcnpaaRun3
import Derived.Test.YtknjmmbebkcnpaaRun2
import Derived.Deep.LoopGhost

/- Rows of bytes in memory, changed byte by byte and four by four; a result that lies in memory, whole. No call is walked here. -/
namespace Go.Proofs.Ytknjmmbebkcnpaa
open Go.RowKit Bk
set_option linter.unusedVariables false
set_option linter.unusedSimpArgs false

/-- A result that lies in memory, whole. -/
theorem results_row {P : Program} {fn : Func} {p : Tmp} {ty : TypeId} (h : fn.results = #[.cell p ty]) (tmps : Array Value) (w : World) (b o : Nat) (cs : List Value) (d : TypeDesc) (ha : tmps.getD p undef = .pointer (some ⟨b, o, none⟩))
    (hc : w.rangeAt b o cs) (hu : P.underlying ty = some d) (hd : d.isRow = true) (hi : (P.info? ty).map (·.size) = some cs.length) : (results fn tmps).run P w = .ok (.agg cs.toArray) w := by
  have hl := run_loadVar_mid (P := P) w b o ty cs d hc hu hd hi
  simp only [Array.getD_eq_getD_getElem?] at ha
  simp only [results, h]
  simp [ha, asAddr, hl]
theorem post_row {P : Program} {fn : Func} {R : Ending → World → Prop} {a : Act} {w : World} {p : Tmp} {ty : TypeId} {b o : Nat} {cs : List Value} (d : TypeDesc) (hr : Row w b o cs) (h : fn.results = #[.cell p ty]) (ha : a.tmps.getD p undef = .pointer (some ⟨b, o, none⟩))
    (hu : P.underlying ty = some d) (hd : d.isRow = true) (hi : (P.info? ty).map (·.size) = some cs.length) (hz : a.defers = []) (hR : R (.returned (.agg cs.toArray)) w) : bodyPost P fn R .ret a w :=
  bodyPost_ret (results_row h a.tmps w b o cs d ha hr.cell hu hd hi) hz hR

/-- A byte, as a value. -/
def yv (x : UInt8) : Value := .int .u8 (x.toNat : Int)
theorem bs_gy (l : List UInt8) (j : Nat) (h : j < l.length) : (bs l)[j]? = some (yv (gy l j)) := bs_get l j h
theorem Row.g {w : World} {b o : Nat} {l : List UInt8} (h : Row w b o (bs l)) (j : Nat) (hj : j < l.length) : w.cell? ⟨b, o + j, none⟩ = some (.int .u8 ((gy l j).toNat : Int)) := h.cell j _ (bs_gy l j hj)
theorem Row.g0 {w : World} {b : Nat} {l : List UInt8} (h : Row w b 0 (bs l)) (j : Nat) (hj : j < l.length) : w.cell? ⟨b, j, none⟩ = some (.int .u8 ((gy l j).toNat : Int)) := by
  have := h.g j hj
  rwa [Nat.zero_add] at this
theorem Row.fy {w : World} {b o : Nat} {l : List UInt8} (h : Row w b o (bs l)) (j : Nat) (hj : j < l.length) : w.frozen? ⟨b, o + j, none⟩ = false := h.free j (by rw [bs_length]; exact hj)
theorem Row.fy0 {w : World} {b : Nat} {l : List UInt8} (h : Row w b 0 (bs l)) (j : Nat) (hj : j < l.length) : w.frozen? ⟨b, j, none⟩ = false := h.f0 j (by rw [bs_length]; exact hj)
theorem Row.sety {w : World} {b : Nat} {l : List UInt8} (h : Row w b 0 (bs l)) {i : Nat} (hi : i < l.length) (x : UInt8) : Row (w.setCell ⟨b, i, none⟩ (.int .u8 (x.toNat : Int))) b 0 (bs (l.set i x)) := by
  rw [bs_setU]
  exact h.set0 (by rw [bs_length]; exact hi) _
theorem Row.part {w : World} {b o : Nat} {l : List UInt8} (h : Row w b o (bs l)) (k n : Nat) (hk : k ≤ l.length) : Row w b (o + k) (bs ((l.drop k).take n)) := by
  have e : l = l.take k ++ ((l.drop k).take n ++ (l.drop k).drop n) := by rw [List.take_append_drop, List.take_append_drop]
  rw [e, bs_app, bs_app] at h
  have h1 := h.right
  rw [bs_length, List.length_take, Nat.min_eq_left hk] at h1
  exact h1.left
theorem Row.part0 {w : World} {b : Nat} {l : List UInt8} (h : Row w b 0 (bs l)) (k n : Nat) (hk : k ≤ l.length) : Row w b k (bs ((l.drop k).take n)) := by
  have := h.part k n hk
  rwa [Nat.zero_add] at this
/-- A part is written anew. -/
theorem Row.over {w : World} {b : Nat} {l : List UInt8} (h : Row w b 0 (bs l)) (k : Nat) (v : List UInt8) (hk : k + v.length ≤ l.length) : Row (w.setCells b k (bs v)) b 0 (bs (l.take k ++ (v ++ l.drop (k + v.length)))) := by
  have e : l = l.take k ++ ((l.drop k).take v.length ++ (l.drop k).drop v.length) := by rw [List.take_append_drop, List.take_append_drop]
  have hd : (l.drop k).drop v.length = l.drop (k + v.length) := by rw [List.drop_drop]
  rw [e, bs_app, bs_app, hd] at h
  have h0 := h.left
  have h1 := h.right
  rw [bs_length, List.length_take, Nat.min_eq_left (by omega), Nat.zero_add] at h1
  have h2 := h1.left
  have h3 := h1.right
  have l2 : (bs ((l.drop k).take v.length)).length = v.length := by rw [bs_length, List.length_take, List.length_drop]; omega
  rw [l2] at h3
  rw [bs_app, bs_app]
  refine (h0.apart _ _ _ (.inr (.inl (by rw [bs_length, List.length_take]; omega)))).join ?_
  rw [bs_length, List.length_take, Nat.min_eq_left (by omega), Nat.zero_add]
  refine (h2.put (bs v) (by rw [l2, bs_length])).join ?_
  rw [bs_length]
  exact h3.apart _ _ _ (.inr (.inr (by rw [bs_length]; exact Nat.le_refl _)))
theorem mixd_over {R s : List UInt8} {m : Nat} (hR : R.length = m) (hs : s.length = m) (k n : Nat) (hk : k + n ≤ m) (v : List UInt8) (hv : v = (R.drop k).take n) : (mixd R s k).take k ++ (v ++ (mixd R s k).drop (k + v.length)) = mixd R s (k + n) := by
  subst hv
  have hl : ((R.drop k).take n).length = n := by rw [List.length_take, List.length_drop]; omega
  rw [hl]
  unfold mixd
  have h1 : (R.take k).length = k := by rw [List.length_take]; omega
  rw [List.take_append_of_le_length (by omega), List.take_take, Nat.min_self, List.drop_append, h1, List.drop_drop, show (R.take k).drop (k + n) = [] from List.drop_eq_nil_of_le (by omega), List.nil_append, show k + (k + n - k) = k + n by omega, ← List.append_assoc, List.take_add]
theorem Row.mixd {w : World} {b : Nat} {R s : List UInt8} {k : Nat} (h : Row w b 0 (bs (mixd R s k))) {m : Nat} (hR : R.length = m) (hs : s.length = m) (n : Nat) (hk : k + n ≤ m) (v : List UInt8) (hv : v = (R.drop k).take n) : Row (w.setCells b k (bs v)) b 0 (bs (Bk.mixd R s (k + n))) := by
  have hl : v.length = n := by rw [hv, List.length_take, List.length_drop]; omega
  have h1 := h.over k v (by rw [mixd_length hR hs k (by omega), hl]; exact hk)
  rwa [mixd_over hR hs k n hk v hv] at h1
theorem Row.mixd1 {w : World} {b : Nat} {R s : List UInt8} {k : Nat} (h : Row w b 0 (bs (Bk.mixd R s k))) {m : Nat} (hR : R.length = m) (hs : s.length = m) (hk : k < m) {x : UInt8} (hx : x = gy R k) : Row (w.setCell ⟨b, k, none⟩ (.int .u8 (x.toNat : Int))) b 0 (bs (Bk.mixd R s (k + 1))) := by
  have h1 := h.sety (i := k) (by rw [mixd_length hR hs k (by omega)]; exact hk) x
  subst hx
  rwa [mixd_set hR hs hk] at h1
/-- Noughts, as a row's first. -/
def zr (n : Nat) : List UInt8 := List.replicate n 0
theorem zr_length (n : Nat) : (zr n).length = n := List.length_replicate
theorem x8_int (x y : UInt8) : bits .xor .u8 (x.toNat : Int) (y.toNat : Int) = (((x ^^^ y).toNat : Nat) : Int) := by
  rw [UInt8.toNat_xor]
  exact u8_xor_nat x.toNat y.toNat (UInt8.toNat_lt _) (UInt8.toNat_lt _)
/-- A byte of an array that is a value. -/
theorem idx_arr {P : Program} {t e : TypeId} {n : Nat} (l : List UInt8) (i : Nat) (hu : P.underlying t = some (.array n e)) (hi : i < n) (hl : l.length = n) (hs : (P.info? e).map (·.size) = some 1) (he : P.underlying e = some (.int .u8)) (w : World) :
    (Instr.index t (.agg (bs l).toArray) (.int .i64 (i : Int))).run P w = .ok (.int .u8 ((gy l i).toNat : Int)) w :=
  run_index_cell i hu hi hs he rfl (by simpa [yv] using bs_gy l i (by omega)) w
/-- A word of an array of words that is a value. -/
theorem bs_extract (l : List UInt8) (i n : Nat) : (bs l).toArray.extract i (i + n) = (bs ((l.drop i).take n)).toArray := by
  rw [List.extract_toArray, List.extract_eq_take_drop, Nat.add_sub_cancel_left]
  simp [bs, List.map_drop, List.map_take]
theorem idx_word {P : Program} {t e : TypeId} {n : Nat} {d : TypeDesc} (l : List UInt8) (i : Nat) (hu : P.underlying t = some (.array n e)) (hi : i < n) (hs : (P.info? e).map (·.size) = some 4) (he : P.underlying e = some d) (hd : d.isRow = true) (w : World) :
    (Instr.index t (.agg (bs l).toArray) (.int .i64 (i : Int))).run P w = .ok (.agg (bs (wat l i)).toArray) w := by
  rw [run_index_row (sz := 4) (bs l).toArray i hu hi hs he hd w, bs_extract l (i * 4) 4, Nat.mul_comm i 4]
  rfl
/-- A block that is made, and filled at once. -/
theorem Row.made (w : World) (z vs : List Value) (t : TypeId) (hl : vs.length = z.length) : Row ((w.alloc (.cells z.toArray t)).setCells w.heap.size 0 vs) w.heap.size 0 vs := (Row.newL w z t).put vs hl
theorem Row.keep {w : World} {b o : Nat} {cs : List Value} (h : Row w b o cs) (z : Array Value) (vs : List Value) (t : TypeId) : Row ((w.alloc (.cells z t)).setCells w.heap.size 0 vs) b o cs := (h.alloc _).apart _ _ _ (.inl (Nat.ne_of_lt h.lt))
theorem below_made {B : Nat} {w0 w : World} (h : Below B w0 w) (hB : B ≤ w.heap.size) (z : Array Value) (vs : List Value) (t : TypeId) : Below B w0 ((w.alloc (.cells z t)).setCells w.heap.size 0 vs) := (h.alloc hB _).trans (below_setCells hB _ _ _)
theorem size_made (w : World) (z : Array Value) (vs : List Value) (t : TypeId) : ((w.alloc (.cells z t)).setCells w.heap.size 0 vs).heap.size = w.heap.size + 1 := by rw [size_setCells, World.size_alloc]
theorem below2 (w : World) (a b : Obj) : Below w.heap.size w ((w.alloc a).alloc b) := ((Below.refl _ w).alloc (Nat.le_refl _) _).alloc (by simp) _
theorem below3 (w : World) (a b c : Obj) : Below w.heap.size w (((w.alloc a).alloc b).alloc c) := (below2 w a b).alloc (by simp; omega) _
theorem below4 (w : World) (a b c d : Obj) : Below w.heap.size w ((((w.alloc a).alloc b).alloc c).alloc d) := (below3 w a b c).alloc (by simp; omega) _
theorem row2 (w : World) (a : Obj) (v : List Value) (t : TypeId) : Row ((w.alloc a).alloc (.cells v.toArray t)) (w.heap.size + 1) 0 v := by
  have h := Row.newL (w.alloc a) v t
  rwa [World.size_alloc] at h
theorem row3 (w : World) (a b : Obj) (v : List Value) (t : TypeId) : Row (((w.alloc a).alloc b).alloc (.cells v.toArray t)) (w.heap.size + 1 + 1) 0 v := by
  have h := Row.newL ((w.alloc a).alloc b) v t
  rwa [World.size_alloc, World.size_alloc] at h
theorem row4 (w : World) (a b c : Obj) (v : List Value) (t : TypeId) : Row ((((w.alloc a).alloc b).alloc c).alloc (.cells v.toArray t)) (w.heap.size + 1 + 1 + 1) 0 v := by
  have h := Row.newL (((w.alloc a).alloc b).alloc c) v t
  rwa [World.size_alloc, World.size_alloc, World.size_alloc] at h
theorem wat_eq (l : List UInt8) (k : Nat) : wat l k = (l.drop (k * 4)).take 4 := by rw [Nat.mul_comm]; rfl
theorem wat_comb (x y : List UInt8) (k : Nat) : wat (comb x y) k = comb (wat x k) (wat y k) := by unfold wat; rw [comb_drop, comb_take]
theorem wat_repl (T x : List UInt8) (k : Nat) : wat (repl T x) k = repl T (wat x k) := by unfold wat; rw [repl_drop, repl_take]
theorem wat_mixd {R s : List UInt8} {m k : Nat} (hR : R.length = m) (hs : s.length = m) (h : 4 * k + 4 ≤ m) : wat (mixd R s (4 * k)) k = wat s k := by
  have h1 : (R.take (4 * k)).length = 4 * k := by rw [List.length_take]; omega
  unfold wat mixd
  rw [List.drop_append, h1, show (R.take (4 * k)).drop (4 * k) = [] from List.drop_eq_nil_of_le (by omega), List.nil_append, Nat.sub_self, List.drop_zero]
def Z16 : Array Value := #[.int .u8 0, .int .u8 0, .int .u8 0, .int .u8 0, .int .u8 0, .int .u8 0, .int .u8 0, .int .u8 0, .int .u8 0, .int .u8 0, .int .u8 0, .int .u8 0, .int .u8 0, .int .u8 0, .int .u8 0, .int .u8 0]
end Go.Proofs.Ytknjmmbebkcnpaa

/- Words of four bytes replaced, and combined, walked. For any words, and any table that lies in memory: each call returns what ATab says, and leaves what was there. -/
namespace Go.Proofs.Ytknjmmbebkcnpaa
open Go.RowKit Bk
set_option linter.unusedVariables false
set_option linter.unusedSimpArgs false

set_option maxRecDepth 100000 in
set_option maxHeartbeats 2000000 in
theorem wRepl_any (T x : List UInt8) (w : World) (b o : Nat) (hx : x.length = 4) (hT : T.length = 256) (hR : Row w b o (bs T)) :
    Calls Try.prog 55 #[.agg (bs x).toArray, .pointer (some ⟨b, o, none⟩)] w fun e w' => e = .returned (.agg (bs (repl T x)).toArray) ∧ Below w.heap.size w w' := by
  obtain ⟨W0, hW0, r0, r1, b0⟩ : ∃ W0, (w.alloc (.cells (bs x).toArray 59)).alloc (.cells #[.int .u8 0, .int .u8 0, .int .u8 0, .int .u8 0] 59) = W0 ∧ Row W0 w.heap.size 0 (bs (mixd (repl T x) x 0)) ∧ Row W0 (w.heap.size + 1) 0 (bs (zr 4)) ∧ Below w.heap.size w W0 :=
    ⟨_, rfl, by rw [mixd_zero]; exact (Row.newL w (bs x) _).alloc _, row2 w _ (bs (zr 4)) _, below2 w _ _⟩
  have lR : (repl T x).length = 4 := by rw [repl_length, hx]
  have HX := hide (And.intro hx (And.intro hT lR))
  have HR := hide hR
  have H0 := hide r0
  have H1 := hide r1
  have HB := hide b0
  have hr0 : Row W0 w.heap.size 0 (bs x) := by rw [mixd_zero] at r0; exact r0
  have HR0 := hide hr0
  clear hr0 r0 r1 b0 hx hT lR hR
  go_enter Try.func55, Try.ntmps55
  go_wp2_with (refine wpList_loadR (op := ⟨some 7, _, _, _, _, _⟩) rfl 59 (.tmp 2) rfl rfl _ HR0.out Try.underlying59 rfl (by rw [bs_length, HX.out.1]; kernel_rfl) ?_)
  clear HR0 hW0
  go_loopg [5, 6, 8] 4 (fun g _ _ q wr => ∃ k : Nat, k + g = 4 ∧ q = .int .i64 k ∧ Row wr w.heap.size 0 (bs (mixd (repl T x) x k)) ∧ Row wr (w.heap.size + 1) 0 (bs (zr 4)) ∧ Below w.heap.size w wr)
  case atStart => exact ⟨0, rfl, rfl, H0.out, H1.out, HB.out⟩
  case round =>
    clear H0 H1 HB
    obtain ⟨k, hkg, rfl, h0, h1, hB⟩ := hrel
    by_cases hlt : k < 4
    · have hlt' : (k : Int) < 4 := by omega
      obtain ⟨g3, rfl⟩ : ∃ g3, gk = g3 + 1 := ⟨gk - 1, by omega⟩
      have hix : ∀ w, (Instr.index 59 (.agg (bs x).toArray) (.int .i64 (k : Int))).run Try.prog w = .ok (.int .u8 ((gy x k).toNat : Int)) w := idx_arr x k Try.underlying59 hlt HX.out.1 (by kernel_rfl) Try.underlying5
      obtain ⟨n, hn⟩ : ∃ n, (gy x k).toNat = n := ⟨_, rfl⟩
      have ln : n < 256 := hn ▸ UInt8.toNat_lt _
      have ln' : (n : Int) < 256 := by omega
      have hRb := HR.out.below hB HR.out.lt
      have c1 := hRb.g n (by rw [HX.out.2.1]; exact ln)
      have e1 : gy T n = gy (repl T x) k := by rw [gy_repl (by rw [HX.out.1]; exact hlt), hn]
      rw [hn] at hix
      have f1 := h0.fy0 k (by rw [mixd_length HX.out.2.2 HX.out.1 k (by omega)]; exact hlt)
      have c2 := h0.g0 k (by rw [mixd_length HX.out.2.2 HX.out.1 k (by omega)]; exact hlt)
      have h2 := h0.mixd1 HX.out.2.2 HX.out.1 hlt e1
      have H2 := hide (And.intro h2 (And.intro (h1.other _ k (.int .u8 ((gy T n).toNat : Int)) (.inl (show w.heap.size + 1 ≠ w.heap.size by omega))) (hB.setCell (p := ⟨w.heap.size, k, none⟩) (Nat.le_refl _) (.int .u8 ((gy T n).toNat : Int)))))
      clear h0 h1 hB hRb h2 hn e1
      go_wp2_with fail
      go_roundg g3
      case measure => omega
      case rel => exact ⟨k + 1, by omega, by go_num, H2.out.1, H2.out.2.1, H2.out.2.2⟩
    · obtain rfl : k = 4 := by omega
      rw [mixd_all HX.out.2.2 HX.out.1] at h0
      have H0 := hide h0
      have H1 := hide h1
      have HB := hide hB
      clear h0 h1 hB
      go_wp2_with (first | (refine wpList_loadR (op := ⟨some 20, _, _, _, _, _⟩) rfl 59 (.tmp 2) rfl rfl _ H0.out Try.underlying59 rfl (by rw [bs_length, HX.out.2.2]; kernel_rfl) ?_) | (refine wpList_storeR (op := ⟨none, _, _, _, _, _⟩) rfl 59 (.tmp 4) (.tmp 20) rfl rfl (vs := bs (repl T x)) rfl H1.out (by rw [bs_length, bs_length, HX.out.2.2, zr_length]) (by rw [bs_length, HX.out.2.2]; kernel_rfl) (fun v hv => bs_one hv) ?_))
      exact post_row (cs := bs (repl T x)) _ ((H1.out).put (bs (repl T x)) (by rw [bs_length, bs_length, HX.out.2.2, zr_length])) rfl rfl Try.underlying59 rfl (by rw [bs_length, HX.out.2.2]; kernel_rfl) rfl ⟨rfl, HB.out.trans (below_setCells (by omega) _ _ _)⟩

set_option maxRecDepth 100000 in
set_option maxHeartbeats 2000000 in
theorem wComb_any (x y : List UInt8) (w : World) (hx : x.length = 4) (hy : y.length = 4) :
    Calls Try.prog 56 #[.agg (bs x).toArray, .agg (bs y).toArray] w fun e w' => e = .returned (.agg (bs (comb x y)).toArray) ∧ Below w.heap.size w w' := by
  obtain ⟨W0, hW0, r0, r1, r2, b0⟩ : ∃ W0, ((w.alloc (.cells (bs x).toArray 59)).alloc (.cells (bs y).toArray 59)).alloc (.cells #[.int .u8 0, .int .u8 0, .int .u8 0, .int .u8 0] 59) = W0 ∧ Row W0 w.heap.size 0 (bs (mixd (comb x y) x 0)) ∧ Row W0 (w.heap.size + 1) 0 (bs y) ∧ Row W0 (w.heap.size + 1 + 1) 0 (bs (zr 4)) ∧ Below w.heap.size w W0 :=
    ⟨_, rfl, by rw [mixd_zero]; exact ((Row.newL w (bs x) _).alloc _).alloc _, (row2 w _ (bs y) _).alloc _, row3 w _ _ (bs (zr 4)) _, below3 w _ _ _⟩
  have lR : (comb x y).length = 4 := comb_length hx hy
  have HX := hide (And.intro hx (And.intro hy lR))
  have H0 := hide r0
  have H1 := hide r2
  have HB := hide b0
  have HR0 := hide r1
  clear r0 r1 r2 b0 hx hy lR
  go_enter Try.func56, Try.ntmps56
  go_wp2_with (refine wpList_loadR (op := ⟨some 7, _, _, _, _, _⟩) rfl 59 (.tmp 3) rfl rfl _ HR0.out Try.underlying59 rfl (by rw [bs_length, HX.out.2.1]; kernel_rfl) ?_)
  clear HR0 hW0
  go_loopg [5, 6, 8] 4 (fun g _ _ q wr => ∃ k : Nat, k + g = 4 ∧ q = .int .i64 k ∧ Row wr w.heap.size 0 (bs (mixd (comb x y) x k)) ∧ Row wr (w.heap.size + 1 + 1) 0 (bs (zr 4)) ∧ Below w.heap.size w wr)
  case atStart => exact ⟨0, rfl, rfl, H0.out, H1.out, HB.out⟩
  case round =>
    clear H0 H1 HB
    obtain ⟨k, hkg, rfl, h0, h1, hB⟩ := hrel
    by_cases hlt : k < 4
    · have hlt' : (k : Int) < 4 := by omega
      obtain ⟨g3, rfl⟩ : ∃ g3, gk = g3 + 1 := ⟨gk - 1, by omega⟩
      have hix : ∀ w, (Instr.index 59 (.agg (bs y).toArray) (.int .i64 (k : Int))).run Try.prog w = .ok (.int .u8 ((gy y k).toNat : Int)) w := idx_arr y k Try.underlying59 hlt HX.out.2.1 (by kernel_rfl) Try.underlying5
      have e1 : gy x k ^^^ gy y k = gy (comb x y) k := by rw [gy_comb (by rw [HX.out.1]; exact hlt) (by rw [HX.out.2.1]; exact hlt)]
      have f1 := h0.fy0 k (by rw [mixd_length HX.out.2.2 HX.out.1 k (by omega)]; exact hlt)
      have c2 := h0.g0 k (by rw [mixd_length HX.out.2.2 HX.out.1 k (by omega)]; exact hlt)
      rw [gy_mixd HX.out.2.2 HX.out.1 (by omega), if_neg (Nat.lt_irrefl _)] at c2
      have hxo := x8_int (gy x k) (gy y k)
      have h2 := h0.mixd1 HX.out.2.2 HX.out.1 hlt e1
      have H2 := hide (And.intro h2 (And.intro (h1.other _ k (.int .u8 ((gy x k ^^^ gy y k).toNat : Int)) (.inl (show w.heap.size + 1 + 1 ≠ w.heap.size by omega))) (hB.setCell (p := ⟨w.heap.size, k, none⟩) (Nat.le_refl _) (.int .u8 ((gy x k ^^^ gy y k).toNat : Int)))))
      clear h0 h1 hB h2 e1
      obtain ⟨p, hp⟩ : ∃ p, (gy x k).toNat = p := ⟨_, rfl⟩
      obtain ⟨q, hq⟩ : ∃ q, (gy y k).toNat = q := ⟨_, rfl⟩
      obtain ⟨z, hz⟩ : ∃ z, (gy x k ^^^ gy y k).toNat = z := ⟨_, rfl⟩
      rw [hq] at hix
      rw [hp] at c2
      rw [hp, hq, hz] at hxo
      rw [hz] at H2
      clear hp hq hz
      go_wp2_with fail
      go_roundg g3
      case measure => omega
      case rel => exact ⟨k + 1, by omega, by go_num, H2.out.1, H2.out.2.1, H2.out.2.2⟩
    · obtain rfl : k = 4 := by omega
      rw [mixd_all HX.out.2.2 HX.out.1] at h0
      have H0 := hide h0
      have H1 := hide h1
      have HB := hide hB
      clear h0 h1 hB
      go_wp2_with (first | (refine wpList_loadR (op := ⟨some 19, _, _, _, _, _⟩) rfl 59 (.tmp 2) rfl rfl _ H0.out Try.underlying59 rfl (by rw [bs_length, HX.out.2.2]; kernel_rfl) ?_) | (refine wpList_storeR (op := ⟨none, _, _, _, _, _⟩) rfl 59 (.tmp 4) (.tmp 19) rfl rfl (vs := bs (comb x y)) rfl H1.out (by rw [bs_length, bs_length, HX.out.2.2, zr_length]) (by rw [bs_length, HX.out.2.2]; kernel_rfl) (fun v hv => bs_one hv) ?_))
      exact post_row (cs := bs (comb x y)) _ ((H1.out).put (bs (comb x y)) (by rw [bs_length, bs_length, HX.out.2.2, zr_length])) rfl rfl Try.underlying59 rfl (by rw [bs_length, HX.out.2.2]; kernel_rfl) rfl ⟨rfl, HB.out.trans (below_setCells (by omega) _ _ _)⟩
end Go.Proofs.Ytknjmmbebkcnpaa

/- Data framed, blocks in a chain, and undone: on rows of bytes alone. No program is walked here. -/
namespace Go.Proofs.Ytknjmmbebkcnpaa
namespace Bk
set_option linter.unusedVariables false
set_option linter.unusedSimpArgs false

/-- Block k of a row. -/
def blk (s : List UInt8) (k : Nat) : List UInt8 := (s.drop (16 * k)).take 16
theorem blk_length {s : List UInt8} {n k : Nat} (h : s.length = 16 * n) (hk : k < n) : (blk s k).length = 16 := by simp [blk]; omega
/-- What lies ahead of block k. -/
def pv (f : List UInt8) (c : Nat → List UInt8) : Nat → List UInt8
  | 0 => f
  | k + 1 => c k
/-- In a chain: block k, and undone. -/
def cE (E : List UInt8 → List UInt8) (f s : List UInt8) : Nat → List UInt8
  | 0 => E (comb (blk s 0) f)
  | k + 1 => E (comb (blk s (k + 1)) (cE E f s k))
theorem cE_eq (E : List UInt8 → List UInt8) (f s : List UInt8) (k : Nat) : cE E f s k = E (comb (blk s k) (pv f (cE E f s) k)) := by cases k <;> rfl
def cD (D : List UInt8 → List UInt8) (f s : List UInt8) (k : Nat) : List UInt8 := comb (D (blk s k)) (pv f (blk s) k)
/-- The first n blocks, one behind the other. -/
def cat (c : Nat → List UInt8) : Nat → List UInt8
  | 0 => []
  | n + 1 => cat c n ++ c n
theorem cat_length {c : Nat → List UInt8} {n : Nat} (h : ∀ k, k < n → (c k).length = 16) : (cat c n).length = 16 * n := by
  induction n with
  | zero => rfl
  | succ n ih => rw [cat, List.length_append, ih (fun k hk => h k (by omega)), h n (by omega)]; omega
theorem blk_cat {c : Nat → List UInt8} {n : Nat} (h : ∀ k, k < n → (c k).length = 16) {k : Nat} (hk : k < n) : blk (cat c n) k = c k := by
  induction n with
  | zero => omega
  | succ n ih =>
    have hl := cat_length (c := c) (n := n) (fun k hk => h k (by omega))
    unfold blk
    rw [cat]
    by_cases e : k = n
    · subst e
      rw [List.drop_append, List.drop_eq_nil_of_le (by omega), List.nil_append, hl, Nat.sub_self, List.drop_zero, List.take_of_length_le (by rw [h k (by omega)]; omega)]
    · have hkn : k < n := by omega
      rw [List.drop_append_of_le_length (by omega), List.take_append_of_le_length (by rw [List.length_drop]; omega)]
      exact ih (fun k hk => h k (by omega)) hkn
theorem cat_blk (s : List UInt8) (n : Nat) : cat (blk s) n = s.take (16 * n) := by
  induction n with
  | zero => rfl
  | succ n ih =>
    rw [cat, ih, blk, show 16 * (n + 1) = 16 * n + 16 by omega, List.take_add]
theorem cat_ext {c d : Nat → List UInt8} {n : Nat} (h : ∀ k, k < n → c k = d k) : cat c n = cat d n := by
  induction n with
  | zero => rfl
  | succ n ih => rw [cat, cat, ih (fun k hk => h k (by omega)), h n (by omega)]
theorem cat_take {c : Nat → List UInt8} {n m : Nat} (h : ∀ k, k < n → (c k).length = 16) (hm : m ≤ n) : (cat c n).take (16 * m) = cat c m := by
  induction n with
  | zero => obtain rfl : m = 0 := by omega
            rfl
  | succ n ih =>
    by_cases e : m = n + 1
    · subst e
      exact List.take_of_length_le (by rw [cat_length h]; exact Nat.le_refl _)
    · have hl := cat_length (c := c) (n := n) (fun k hk => h k (by omega))
      rw [cat, List.take_append_of_le_length (by omega)]
      exact ih (fun k hk => h k (by omega)) (by omega)
theorem pv_ext {f : List UInt8} {c d : Nat → List UInt8} {k : Nat} (h : ∀ j, j < k → c j = d j) : pv f c k = pv f d k := by
  cases k with
  | zero => rfl
  | succ k => exact h k (by omega)
theorem pv_length {f : List UInt8} {c : Nat → List UInt8} {k : Nat} (hf : f.length = 16) (h : ∀ j, j < k → (c j).length = 16) : (pv f c k).length = 16 := by
  cases k with
  | zero => exact hf
  | succ k => exact h k (by omega)
/-- What a cipher does: blocks to blocks, there and back. -/
structure Cph (E D : List UInt8 → List UInt8) : Prop where
  el : ∀ s, s.length = 16 → (E s).length = 16
  dl : ∀ s, s.length = 16 → (D s).length = 16
  de : ∀ s, s.length = 16 → D (E s) = s
  ed : ∀ s, s.length = 16 → E (D s) = s
section
variable {E D : List UInt8 → List UInt8} {f s : List UInt8} {n : Nat}
theorem cE_length (h : Cph E D) (hf : f.length = 16) (hs : s.length = 16 * n) {k : Nat} (hk : k < n) : (cE E f s k).length = 16 := by
  induction k with
  | zero => exact h.el _ (comb_length (blk_length hs hk) hf)
  | succ k ih => exact h.el _ (comb_length (blk_length hs hk) (ih (by omega)))
theorem cD_length (h : Cph E D) (hf : f.length = 16) (hs : s.length = 16 * n) {k : Nat} (hk : k < n) : (cD D f s k).length = 16 :=
  comb_length (h.dl _ (blk_length hs hk)) (pv_length hf fun j hj => blk_length hs (by omega))
theorem chain_back (h : Cph E D) (hf : f.length = 16) (hs : s.length = 16 * n) : cat (cD D f (cat (cE E f s) n)) n = s := by
  have hl : ∀ k, k < n → (cE E f s k).length = 16 := fun k hk => cE_length h hf hs hk
  rw [cat_ext (d := blk s) fun k hk => ?_, cat_blk, List.take_of_length_le (by omega)]
  have hp : (pv f (cE E f s) k).length = 16 := pv_length hf fun j hj => hl j (by omega)
  unfold cD
  rw [blk_cat hl hk, pv_ext (d := cE E f s) fun j hj => blk_cat hl (by omega), cE_eq, h.de _ (comb_length (blk_length hs hk) hp), comb_comb (by rw [blk_length hs hk, hp])]
theorem chain_there (h : Cph E D) (hf : f.length = 16) (hs : s.length = 16 * n) : cat (cE E f (cat (cD D f s) n)) n = s := by
  have hl : ∀ k, k < n → (cD D f s k).length = 16 := fun k hk => cD_length h hf hs hk
  have key : ∀ k, k < n → cE E f (cat (cD D f s) n) k = blk s k := by
    intro k
    induction k with
    | zero =>
      intro hk
      have hp : (pv f (blk s) 0).length = 16 := hf
      rw [cE_eq, blk_cat hl hk]
      show E (comb (comb (D (blk s 0)) f) f) = _
      rw [comb_comb (by rw [h.dl _ (blk_length hs hk), hf]), h.ed _ (blk_length hs hk)]
    | succ k ih =>
      intro hk
      have := ih (by omega)
      rw [cE_eq, blk_cat hl hk]
      show E (comb (comb (D (blk s (k + 1))) (blk s k)) (cE E f (cat (cD D f s) n) k)) = _
      rw [this, comb_comb (by rw [h.dl _ (blk_length hs hk), blk_length hs (by omega)]), h.ed _ (blk_length hs hk)]
  rw [cat_ext key, cat_blk, List.take_of_length_le (by omega)]
end

/-- A number in eight bytes, the highest first, and back. -/
def n8 (n : Nat) : List UInt8 := (List.range 8).map fun i => UInt8.ofNat (n / 256 ^ (7 - i))
theorem n8_length (n : Nat) : (n8 n).length = 8 := by simp [n8]
theorem gy_n8 (n : Nat) {i : Nat} (h : i < 8) : gy (n8 n) i = UInt8.ofNat (n / 256 ^ (7 - i)) := gy_range h
def v8 (l : List UInt8) : Nat → Nat
  | 0 => 0
  | k + 1 => v8 l k * 256 + (gy l k).toNat
theorem v8_lt (l : List UInt8) (k : Nat) : v8 l k < 256 ^ k := by
  induction k with
  | zero => exact Nat.one_pos
  | succ k ih =>
    have := UInt8.toNat_lt (gy l k)
    rw [v8, Nat.pow_succ]
    omega
theorem v8_mono (l : List UInt8) {k : Nat} : ∀ j, v8 l k ≤ v8 l (k + j)
  | 0 => Nat.le_refl _
  | j + 1 => by
    have := v8_mono l (k := k) j
    show _ ≤ v8 l (k + j) * 256 + _
    omega
theorem v8_n8 {n : Nat} (h : n < 18446744073709551616) : v8 (n8 n) 8 = n := by
  have g : ∀ i, i < 8 → (gy (n8 n) i).toNat = n / 256 ^ (7 - i) % 256 := fun i hi => by rw [gy_n8 n hi, UInt8.toNat_ofNat']
  simp only [v8, g 0 (by decide), g 1 (by decide), g 2 (by decide), g 3 (by decide), g 4 (by decide), g 5 (by decide), g 6 (by decide), g 7 (by decide)]
  simp only [Nat.reduceSub, Nat.reducePow, Nat.div_one, Nat.zero_mul, Nat.zero_add]
  omega
theorem v8_app (l k : List UInt8) (n : Nat) (h : n ≤ l.length) : v8 (l ++ k) n = v8 l n := by
  induction n with
  | zero => rfl
  | succ n ih => rw [v8, v8, ih (by omega), gy_app _ _ _ (by omega)]
/-- How many noughts are lacking. -/
def lk (n : Nat) : Nat := (16 - (8 + n) % 16) % 16
theorem lk_lt (n : Nat) : lk n < 16 := Nat.mod_lt _ (by decide)
theorem lk_16 (n : Nat) : (8 + n + lk n) % 16 = 0 := by unfold lk; omega
/-- Data, framed. -/
def fr (d : List UInt8) : List UInt8 := n8 d.length ++ (d ++ List.replicate (lk d.length) 0)
theorem fr_length (d : List UInt8) : (fr d).length = 8 + d.length + lk d.length := by simp [fr, n8_length]; omega
/-- How many blocks data are framed to. -/
def fb (n : Nat) : Nat := (8 + n + lk n) / 16
theorem fr_blocks (d : List UInt8) : (fr d).length = 16 * fb d.length := by
  have := lk_16 d.length
  rw [fr_length]; unfold fb; omega
theorem fb_pos (n : Nat) : 0 < fb n := by unfold fb lk; omega
theorem fr_val (d : List UInt8) (h : d.length < 18446744073709551616) : v8 (fr d) 8 = d.length := by
  unfold fr
  rw [v8_app _ _ _ (Nat.le_of_eq (n8_length _).symm), v8_n8 h]
theorem fr_data (d : List UInt8) : ((fr d).drop 8).take d.length = d := by
  unfold fr
  rw [List.drop_append, List.drop_eq_nil_of_le (Nat.le_of_eq (n8_length _)), List.nil_append, n8_length, Nat.sub_self, List.drop_zero, List.take_append_of_le_length (Nat.le_refl _), List.take_length]
theorem fr_inj {a b : List UInt8} (ha : a.length < 18446744073709551616) (hb : b.length < 18446744073709551616) (h : fr a = fr b) : a = b := by
  have e : a.length = b.length := by rw [← fr_val a ha, h, fr_val b hb]
  rw [← fr_data a, h, e, fr_data]
/-- A frame's data, if it is what some data are framed to. -/
def pd (F : List UInt8) : Option (List UInt8) := if v8 F 8 ≤ F.length - 8 ∧ fr ((F.drop 8).take (v8 F 8)) = F then some ((F.drop 8).take (v8 F 8)) else none
theorem pd_fr (d : List UInt8) (h : d.length < 18446744073709551616) : pd (fr d) = some d := by
  unfold pd
  rw [fr_val d h, fr_data, if_pos ⟨by rw [fr_length]; omega, rfl⟩]
theorem pd_some {F d : List UInt8} (h : pd F = some d) : fr d = F ∧ d.length ≤ F.length - 8 := by
  unfold pd at h
  split at h
  · rename_i hc
    have e := Option.some.inj h
    exact ⟨by rw [← e]; exact hc.2, by rw [← e, List.length_take]; omega⟩
  · cases h
theorem pd_none_of {F : List UInt8} (h : ∀ d, d.length ≤ F.length - 8 → fr d ≠ F) : pd F = none := by
  cases e : pd F with
  | none => rfl
  | some d =>
    have := pd_some e
    exact (h d this.2 this.1).elim
theorem pd_big {F : List UInt8} (h : F.length - 8 < v8 F 8) : pd F = none := by
  unfold pd
  rw [if_neg (by omega)]

/-- Sealed, and opened. -/
def sl (E : List UInt8 → List UInt8) (f d : List UInt8) : List UInt8 := cat (cE E f (fr d)) (fb d.length)
def un (D : List UInt8 → List UInt8) (f s : List UInt8) : List UInt8 := cat (cD D f s) (s.length / 16)
def op (D : List UInt8 → List UInt8) (f s : List UInt8) : Option (List UInt8) := if s.length = 0 ∨ s.length % 16 ≠ 0 then none else pd (un D f s)
section
variable {E D : List UInt8 → List UInt8} {f : List UInt8}
theorem sl_length (h : Cph E D) (hf : f.length = 16) (d : List UInt8) : (sl E f d).length = (fr d).length := by
  rw [fr_blocks, sl, cat_length fun k hk => cE_length h hf (fr_blocks d) hk]
theorem un_length (h : Cph E D) (hf : f.length = 16) {s : List UInt8} (hs : s.length % 16 = 0) : (un D f s).length = s.length := by
  rw [un, cat_length fun k hk => cD_length h hf (show s.length = 16 * (s.length / 16) by omega) hk]
  omega
theorem un_sl (h : Cph E D) (hf : f.length = 16) (d : List UInt8) : un D f (sl E f d) = fr d := by
  have hn : (sl E f d).length / 16 = fb d.length := by
    rw [sl_length h hf, fr_blocks]; omega
  rw [un, hn]
  exact chain_back h hf (fr_blocks d)
theorem op_sl (h : Cph E D) (hf : f.length = 16) (d : List UInt8) (hd : d.length < 18446744073709551616) : op D f (sl E f d) = some d := by
  have hp := fb_pos d.length
  have hl : (sl E f d).length = 16 * fb d.length := by rw [sl_length h hf, fr_blocks]
  unfold op
  rw [if_neg (by omega), un_sl h hf, pd_fr d hd]
theorem sl_op (h : Cph E D) (hf : f.length = 16) {s d : List UInt8} (ho : op D f s = some d) : sl E f d = s := by
  unfold op at ho
  split at ho
  · cases ho
  · rename_i hc
    have h16 : s.length % 16 = 0 := by omega
    have e := (pd_some ho).1
    have hl : (fr d).length = s.length := by rw [e, un_length h hf h16]
    have hn : fb d.length = s.length / 16 := by
      have := fr_blocks d
      omega
    rw [sl, hn, e, un]
    exact chain_there h hf (by omega)
/-- A sealed text without its last block is no sealed text. -/
theorem op_short (h : Cph E D) (hf : f.length = 16) (d : List UInt8) (hd : d.length < 18446744073709551616) : op D f ((sl E f d).take ((fr d).length - 16)) = none := by
  have hp := fb_pos d.length
  have hb := fr_blocks d
  have hl : ∀ k, k < fb d.length → (cE E f (fr d) k).length = 16 := fun k hk => cE_length h hf hb hk
  obtain ⟨m, hm⟩ : ∃ m, fb d.length = m + 1 := ⟨fb d.length - 1, by omega⟩
  have e0 : (sl E f d).take ((fr d).length - 16) = cat (cE E f (fr d)) m := by
    rw [sl, show (fr d).length - 16 = 16 * m by omega]
    exact cat_take hl (by omega)
  rw [e0]
  unfold op
  split
  · rfl
  have hlm : ∀ k, k < m → (cE E f (fr d) k).length = 16 := fun k hk => hl k (by omega)
  have hL : (cat (cE E f (fr d)) m).length = 16 * m := cat_length hlm
  -- the shorter chain is that of the frame's first m blocks
  have hs2 : ((fr d).take (16 * m)).length = 16 * m := by rw [List.length_take]; omega
  have hblk : ∀ k, k < m → blk ((fr d).take (16 * m)) k = blk (fr d) k := by
    intro k hk
    unfold blk
    rw [List.drop_take, List.take_take, show min 16 (16 * m - 16 * k) = 16 by omega]
  have hce : ∀ k, k < m → cE E f (fr d) k = cE E f ((fr d).take (16 * m)) k := by
    intro k
    induction k with
    | zero => intro hk; rw [cE, cE, hblk 0 hk]
    | succ k ih => intro hk; rw [cE, cE, hblk _ hk, ih (by omega)]
  have hun : un D f (cat (cE E f (fr d)) m) = (fr d).take (16 * m) := by
    rw [un, hL, show 16 * m / 16 = m by omega, cat_ext hce]
    exact chain_back h hf hs2
  rw [hun]
  by_cases h0 : m = 0
  · subst h0
    rename_i hc
    exact (hc (.inl (by rw [hL]))).elim
  refine pd_none_of fun g hg e => ?_
  have hgl : g.length < 18446744073709551616 := by rw [hs2] at hg; have := fr_length d; have := lk_lt d.length; omega
  have hv : v8 ((fr d).take (16 * m)) 8 = d.length := by
    rw [← fr_val d hd]
    conv => rhs; rw [← List.take_append_drop (16 * m) (fr d)]
    rw [v8_app _ _ _ (by omega)]
  rw [← e, fr_val g hgl] at hv
  have h1 := fr_length g
  have h2 := fr_length d
  rw [e, hs2, hv] at h1
  omega
/-- The blocks of a sealed text hang on the frame's blocks so far. -/
theorem cE_same {s t : List UInt8} {k : Nat} (h : ∀ j, j ≤ k → blk s j = blk t j) : cE E f s k = cE E f t k := by
  induction k with
  | zero => rw [cE, cE, h 0 (Nat.le_refl _)]
  | succ k ih => rw [cE, cE, h _ (Nat.le_refl _), ih fun j hj => h j (by omega)]
theorem comb_inj {a b k : List UInt8} (ha : a.length = k.length) (hb : b.length = k.length) (h : comb a k = comb b k) : a = b := by
  rw [← comb_comb ha, h, comb_comb hb]
theorem cE_diff (h : Cph E D) (hf : f.length = 16) {s t : List UInt8} {n m k : Nat} (hs : s.length = 16 * n) (ht : t.length = 16 * m) (hn : k < n) (hm : k < m) (hp : pv f (cE E f s) k = pv f (cE E f t) k) : cE E f s k = cE E f t k ↔ blk s k = blk t k := by
  have lp : (pv f (cE E f t) k).length = 16 := pv_length hf fun j hj => cE_length h hf ht (by omega)
  have ls := blk_length hs hn
  have lt := blk_length ht hm
  rw [cE_eq, cE_eq, hp]
  constructor
  · intro e
    have e2 : comb (blk s k) (pv f (cE E f t) k) = comb (blk t k) (pv f (cE E f t) k) := by
      rw [← h.de _ (comb_length ls lp), e, h.de _ (comb_length lt lp)]
    exact comb_inj (by rw [ls, lp]) (by rw [lt, lp]) e2
  · intro e; rw [e]
end
end Bk
end Go.Proofs.Ytknjmmbebkcnpaa

/- A chain's block: out of a text of 16 bytes or more, into a text, two put together, walked. Each call leaves what was there. -/
namespace Go.Proofs.Ytknjmmbebkcnpaa
open Go.RowKit Bk
set_option linter.unusedVariables false
set_option linter.unusedSimpArgs false

theorem blk0 (s : List UInt8) : blk s 0 = s.take 16 := by simp [blk]

set_option maxRecDepth 100000 in
set_option maxHeartbeats 4000000 in
theorem blockOf_any (x : ByteArray) (w : World) (hs : 16 ≤ x.size) :
    Calls Try.prog 20 #[.string x] w fun e w' => e = .returned (.agg (bs ((sb x).take 16)).toArray) ∧ Below w.heap.size w w' := by
  obtain ⟨R, hR⟩ : ∃ R, (sb x).take 16 = R := ⟨_, rfl⟩
  have lR : R.length = 16 := by rw [← hR, List.length_take, sb_length]; omega
  obtain ⟨W0, hW0, r1, r2, b0⟩ : ∃ W0, (w.alloc (.cells #[.int .u8 0, .int .u8 0, .int .u8 0, .int .u8 0, .int .u8 0, .int .u8 0, .int .u8 0, .int .u8 0, .int .u8 0, .int .u8 0, .int .u8 0, .int .u8 0, .int .u8 0, .int .u8 0, .int .u8 0, .int .u8 0] 37)).alloc (.cells #[.int .u8 0, .int .u8 0, .int .u8 0, .int .u8 0, .int .u8 0, .int .u8 0, .int .u8 0, .int .u8 0, .int .u8 0, .int .u8 0, .int .u8 0, .int .u8 0, .int .u8 0, .int .u8 0, .int .u8 0, .int .u8 0] 37) = W0 ∧ Row W0 w.heap.size 0 (bs (zr 16)) ∧ Row W0 (w.heap.size + 1) 0 (bs (zr 16)) ∧ Below w.heap.size w W0 :=
    ⟨_, rfl, (Row.newL w (bs (zr 16)) _).alloc _, row2 w _ (bs (zr 16)) _, below2 w _ _⟩
  obtain ⟨W1, hW1, s1, s2, b1⟩ : ∃ W1, W0.setCells (w.heap.size + 1) 0 (bs ((sb x).take 16)) = W1 ∧ Row W1 w.heap.size 0 (bs (zr 16)) ∧ Row W1 (w.heap.size + 1) 0 (bs R) ∧ Below w.heap.size w W1 :=
    ⟨_, rfl, r1.apart (w.heap.size + 1) 0 _ (.inl (by omega)), by rw [hR]; exact r2.put (bs R) (by rw [bs_length, bs_length, lR, zr_length]), b0.trans (below_setCells (by omega) _ _ _)⟩
  obtain ⟨W2, hW2, t1, b2⟩ : ∃ W2, W1.setCells w.heap.size 0 (bs R) = W2 ∧ Row W2 w.heap.size 0 (bs R) ∧ Below w.heap.size w W2 :=
    ⟨_, rfl, s1.put (bs R) (by rw [bs_length, bs_length, lR, zr_length]), b1.trans (below_setCells (Nat.le_refl _) _ _ _)⟩
  have hcp : (Builtin.copy_ #[28, 9] 3 #[.slice (some ⟨w.heap.size + 1, 0, none⟩) 16 16, .string x]).run Try.prog W0 = .ok (goInt 16) W1 := by
    rw [← hW1]
    exact run_copyS W0 28 9 3 5 _ _ _ _ 16 x _ Try.underlying28 (by kernel_rfl) (Nat.min_eq_right hs) r2 rfl
  have HS := hide (And.intro s1 s2)
  have HT := hide (And.intro t1 b2)
  have HL := hide lR
  rw [hR]
  clear hR hW1 r1 r2 b0 s1 s2 b1 t1 b2 lR hs
  go_enter Try.func20, Try.ntmps20
  go_wp2_with (first | (refine wpList_loadR (op := ⟨some 7, _, _, _, _, _⟩) rfl 37 (.tmp 3) rfl rfl _ HS.out.2 Try.underlying37 rfl (by rw [bs_length, HL.out]; kernel_rfl) ?_) | (refine wpList_storeR (op := ⟨none, _, _, _, _, _⟩) rfl 37 (.tmp 2) (.tmp 7) rfl rfl (vs := bs R) rfl HS.out.1 (by rw [bs_length, bs_length, HL.out, zr_length]) (by rw [bs_length, HL.out]; kernel_rfl) (fun v hv => bs_one hv) ?_; rw [hW2]))
  exact post_row (cs := bs R) _ HT.out.1 rfl rfl Try.underlying37 rfl (by rw [bs_length, HL.out]; kernel_rfl) rfl ⟨rfl, HT.out.2⟩

set_option maxRecDepth 100000 in
set_option maxHeartbeats 4000000 in
theorem cbText_any (s : List UInt8) (w : World) (hs : s.length = 16) :
    Calls Try.prog 24 #[.agg (bs s).toArray] w fun e w' => e = .returned (.string ⟨s.toArray⟩) ∧ Below w.heap.size w w' := by
  obtain ⟨W0, hW0, r1, b0⟩ : ∃ W0, w.alloc (.cells (bs s).toArray 37) = W0 ∧ Row W0 w.heap.size 0 (bs s) ∧ Below w.heap.size w W0 :=
    ⟨_, rfl, Row.newL w (bs s) _, (Below.refl _ w).alloc (Nat.le_refl _) _⟩
  have hx := run_textR (P := Try.prog) W0 28 9 5 (c := 16) Try.underlying28 Try.underlying5 Try.underlying9 w.heap.size 0 rfl hs r1.cell
  have HB := hide b0
  clear r1 b0 hs
  go_enter Try.func24, Try.ntmps24
  go_wp2_with fail
  go_ret
  exact ⟨rfl, HB.out⟩

set_option maxRecDepth 100000 in
set_option maxHeartbeats 4000000 in
theorem cbComb_any (s t : List UInt8) (w : World) (hs : s.length = 16) (ht : t.length = 16) :
    Calls Try.prog 23 #[.agg (bs s).toArray, .agg (bs t).toArray] w fun e w' => e = .returned (.agg (bs (comb s t)).toArray) ∧ Below w.heap.size w w' := by
  have hmx : Try.prog.follows .mixedOrders = true := by kernel_rfl
  obtain ⟨R, eR⟩ : ∃ R, comb s t = R := ⟨_, rfl⟩
  have lR : R.length = 16 := by rw [← eR]; exact comb_length hs ht
  have hg : ∀ k, k < 16 → gy s k ^^^ gy t k = gy R k := fun k hk => by rw [← eR, gy_comb (by omega) (by omega)]
  obtain ⟨W0, hW0, r0, r1, r2, b0⟩ : ∃ W0, ((w.alloc (.cells (bs s).toArray 37)).alloc (.cells (bs t).toArray 37)).alloc (.cells #[.int .u8 0, .int .u8 0, .int .u8 0, .int .u8 0, .int .u8 0, .int .u8 0, .int .u8 0, .int .u8 0, .int .u8 0, .int .u8 0, .int .u8 0, .int .u8 0, .int .u8 0, .int .u8 0, .int .u8 0, .int .u8 0] 37) = W0 ∧ Row W0 w.heap.size 0 (bs (mixd R s 0)) ∧ Row W0 (w.heap.size + 1) 0 (bs t) ∧ Row W0 (w.heap.size + 1 + 1) 0 (bs (zr 16)) ∧ Below w.heap.size w W0 :=
    ⟨_, rfl, by rw [mixd_zero]; exact ((Row.newL w (bs s) _).alloc _).alloc _, (row2 w _ (bs t) _).alloc _, row3 w _ _ (bs (zr 16)) _, below3 w _ _ _⟩
  have HX := hide (And.intro hs (And.intro ht (And.intro lR hg)))
  have H0 := hide (And.intro r0 (And.intro r1 (And.intro r2 b0)))
  rw [eR]
  clear r0 r1 r2 b0 lR hg eR
  go_enter Try.func23, Try.ntmps23
  go_wp2_with fail
  clear hW0
  go_loopg [5, 6] 16 (fun g _ q wr => ∃ k : Nat, k + g = 16 ∧ q = .int .i64 k ∧ Row wr w.heap.size 0 (bs (mixd R s k)) ∧ Row wr (w.heap.size + 1) 0 (bs t) ∧ Row wr (w.heap.size + 1 + 1) 0 (bs (zr 16)) ∧ Below w.heap.size w wr)
  case atStart => exact ⟨0, rfl, rfl, H0.out⟩
  case round =>
    clear H0
    obtain ⟨wo, hwo⟩ : ∃ z, z = wr := ⟨_, rfl⟩
    subst hwo
    obtain ⟨k, hkg, rfl, h0, h1, h2, hB⟩ := hrel
    by_cases hlt : k < 16
    · have hltI : (k : Int) < 16 := by omega
      obtain ⟨g3, rfl⟩ : ∃ g3, gk = g3 + 1 := ⟨gk - 1, by omega⟩
      have lm : (mixd R s k).length = 16 := mixd_length HX.out.2.2.1 HX.out.1 _ (by omega)
      have c1 := h0.g0 k (by omega)
      rw [gy_mixd HX.out.2.2.1 HX.out.1 (by omega), if_neg (by omega)] at c1
      have f1 := h0.fy0 k (by omega)
      have c2 := h1.g0 k (by rw [HX.out.2.1]; exact hlt)
      have hgk := HX.out.2.2.2 k hlt
      have hx := x8_int (gy s k) (gy t k)
      rw [hgk] at hx
      obtain ⟨z, ez⟩ : ∃ z, gy R k = z := ⟨_, rfl⟩
      have h3 := h0.drew.mixd1 HX.out.2.2.1 HX.out.1 hlt (x := z) ez.symm
      have HN := hide (And.intro h3 (And.intro (h1.drew.other w.heap.size k (.int .u8 (z.toNat : Int)) (.inl (by omega))) (And.intro (h2.drew.other w.heap.size k (.int .u8 (z.toNat : Int)) (.inl (by omega))) ((Below.drew hB).setCell (p := ⟨w.heap.size, k, none⟩) (Nat.le_refl _) (.int .u8 (z.toNat : Int))))))
      rw [ez] at hx
      obtain ⟨a, ea⟩ : ∃ a, gy s k = a := ⟨_, rfl⟩
      obtain ⟨b, eb⟩ : ∃ b, gy t k = b := ⟨_, rfl⟩
      rw [ea] at c1 hx
      rw [eb] at c2 hx
      clear h0 h1 h2 hB h3 lm hgk ez ea eb
      go_wp2_with fail
      go_still_tail 8, hmx
      go_wp2_with fail
      go_roundg g3
      case measure => omega
      case rel => exact ⟨k + 1, by omega, by go_num, HN.out⟩
    · obtain rfl : k = 16 := by omega
      rw [mixd_all HX.out.2.2.1 HX.out.1] at h0
      have H0 := hide (And.intro h0 (And.intro h2 hB))
      have HL := hide HX.out.2.2.1
      clear h0 h1 h2 hB
      obtain ⟨W2, hW2, t1, b2⟩ : ∃ W2, wo.setCells (w.heap.size + 1 + 1) 0 (bs R) = W2 ∧ Row W2 (w.heap.size + 1 + 1) 0 (bs R) ∧ Below w.heap.size w W2 :=
        ⟨_, rfl, H0.out.2.1.put (bs R) (by rw [bs_length, bs_length, HL.out, zr_length]), H0.out.2.2.trans (below_setCells (by omega) _ _ _)⟩
      have HT := hide (And.intro t1 b2)
      clear t1 b2
      go_wp2_with (first | (refine wpList_loadR (op := ⟨some 18, _, _, _, _, _⟩) rfl 37 (.tmp 2) rfl rfl _ H0.out.1 Try.underlying37 rfl (by rw [bs_length, HL.out]; kernel_rfl) ?_) | (refine wpList_storeR (op := ⟨none, _, _, _, _, _⟩) rfl 37 (.tmp 4) (.tmp 18) rfl rfl (vs := bs R) rfl H0.out.2.1 (by rw [bs_length, bs_length, HL.out, zr_length]) (by rw [bs_length, HL.out]; kernel_rfl) (fun v hv => bs_one hv) ?_; rw [hW2]))
      exact post_row (cs := bs R) _ HT.out.1 rfl rfl Try.underlying37 rfl (by rw [bs_length, HL.out]; kernel_rfl) rfl ⟨rfl, HT.out.2⟩
end Go.Proofs.Ytknjmmbebkcnpaa
