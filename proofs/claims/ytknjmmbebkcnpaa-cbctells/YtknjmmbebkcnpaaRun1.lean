/- Several texts of ours, one behind the other; what each is for stands ahead of it. -/
import Derived.Test.YtknjmmbebkcnpaaRows
import Derived.WalkKit
import Derived.WalkSpells
import Derived.WalkLawsBesides
import Derived.Below
import Derived.Deep.MidRow
import Derived.Deep.WholeRow
import Derived.StillTailTactics
import Derived.Deep.AppendSrc
import Derived.Laws.IdiomStrings
import Derived.Laws.CopyOwn

/- BLAKE2s in plain numbers: four numbers mixed, ten rounds over sixteen places, a block taken in, the digest of a row of bytes. No condition: pure arithmetic on Nat and lists. -/
namespace Go.Proofs.Ytknjmmbebkcnpaa.Bk

def rr (p q x : Nat) : Nat := (x * p % 4294967296) ||| (x / q)
def ad (a b : Nat) : Nat := (a + b) % 4294967296

theorem ad_lt (a b : Nat) : ad a b < 4294967296 := Nat.mod_lt _ (by decide)
theorem rr_lt {p q x : Nat} (h : x < 4294967296) : rr p q x < 4294967296 :=
  Nat.or_lt_two_pow (n := 32) (Nat.mod_lt _ (by decide)) (Nat.lt_of_le_of_lt (Nat.div_le_self _ _) h)
theorem xr_lt {a b : Nat} (h : a < 4294967296) (k : b < 4294967296) : a ^^^ b < 4294967296 := Nat.xor_lt_two_pow (n := 32) h k

/-- Four numbers. -/
structure Qd where
  a : Nat
  b : Nat
  c : Nat
  d : Nat

def hf1 (a b c d x : Nat) : Qd :=
  let a1 := ad a (ad b x)
  let d1 := rr 65536 65536 (d ^^^ a1)
  let c1 := ad c d1
  let b1 := rr 1048576 4096 (b ^^^ c1)
  ⟨a1, b1, c1, d1⟩
def hf2 (a b c d x : Nat) : Qd :=
  let a1 := ad a (ad b x)
  let d1 := rr 16777216 256 (d ^^^ a1)
  let c1 := ad c d1
  let b1 := rr 33554432 128 (b ^^^ c1)
  ⟨a1, b1, c1, d1⟩
def mixN (a b c d x y : Nat) : Qd := hf2 (hf1 a b c d x).a (hf1 a b c d x).b (hf1 a b c d x).c (hf1 a b c d x).d y

structure Qd.Lt (q : Qd) : Prop where
  a : q.a < 4294967296
  b : q.b < 4294967296
  c : q.c < 4294967296
  d : q.d < 4294967296
theorem hf1_lt {a b c d x : Nat} (hb : b < 4294967296) (hd : d < 4294967296) : (hf1 a b c d x).Lt :=
  ⟨ad_lt _ _, rr_lt (xr_lt hb (ad_lt _ _)), ad_lt _ _, rr_lt (xr_lt hd (ad_lt _ _))⟩
theorem hf2_lt {a b c d x : Nat} (hb : b < 4294967296) (hd : d < 4294967296) : (hf2 a b c d x).Lt :=
  ⟨ad_lt _ _, rr_lt (xr_lt hb (ad_lt _ _)), ad_lt _ _, rr_lt (xr_lt hd (ad_lt _ _))⟩
theorem mixN_lt {a b c d x y : Nat} (hb : b < 4294967296) (hd : d < 4294967296) : (mixN a b c d x y).Lt :=
  hf2_lt (hf1_lt hb hd).b (hf1_lt hb hd).d

/-- What stands at a place of a row. -/
theorem getD_out {α : Type} (l : List α) (x : α) (j : Nat) (h : l.length ≤ j) : l.getD j x = x := by simp [List.getD_eq_getElem?_getD, List.getElem?_eq_none h]
def at' (l : List Nat) (j : Nat) : Nat := l.getD j 0
def Lt (l : List Nat) : Prop := ∀ j, at' l j < 4294967296
theorem at_set (l : List Nat) (i j x : Nat) (h : i < l.length) : at' (l.set i x) j = if j = i then x else at' l j := by
  unfold at'
  simp only [List.getD_eq_getElem?_getD, List.getElem?_set]
  by_cases e : i = j
  · subst e; simp [h]
  · rw [if_neg e, if_neg (fun k => e k.symm)]
theorem Lt.set {l : List Nat} (h : Lt l) (i x : Nat) (hx : x < 4294967296) : Lt (l.set i x) := by
  intro j
  by_cases hi : i < l.length
  · rw [at_set _ _ _ _ hi]; split
    · exact hx
    · exact h j
  · rw [List.set_eq_of_length_le (by omega)]; exact h j

def mx (v : List Nat) (a b c d x y : Nat) : List Nat :=
  let q := mixN (at' v a) (at' v b) (at' v c) (at' v d) x y
  (((v.set a q.a).set b q.b).set c q.c).set d q.d
theorem mx_lt {v : List Nat} (h : Lt v) (a b c d x y : Nat) : Lt (mx v a b c d x y) :=
  let q := mixN_lt (a := at' v a) (c := at' v c) (x := x) (y := y) (h b) (h d)
  (((h.set a _ q.a).set b _ q.b).set c _ q.c).set d _ q.d
theorem mx_length (v : List Nat) (a b c d x y : Nat) : (mx v a b c d x y).length = v.length := by simp [mx]

def rows : List Nat := [
  0, 1, 2, 3, 4, 5, 6, 7, 8, 9, 10, 11, 12, 13, 14, 15,
  14, 10, 4, 8, 9, 15, 13, 6, 1, 12, 0, 2, 11, 7, 5, 3,
  11, 8, 12, 0, 5, 2, 15, 13, 10, 14, 3, 6, 7, 1, 9, 4,
  7, 9, 3, 1, 13, 12, 11, 14, 2, 6, 5, 10, 4, 0, 15, 8,
  9, 0, 5, 7, 2, 4, 10, 15, 14, 1, 11, 12, 6, 8, 3, 13,
  2, 12, 6, 10, 0, 11, 8, 3, 4, 13, 7, 5, 15, 14, 1, 9,
  12, 5, 1, 15, 14, 13, 4, 10, 0, 7, 6, 3, 9, 2, 8, 11,
  13, 11, 7, 14, 12, 1, 3, 9, 5, 0, 15, 4, 8, 6, 2, 10,
  6, 15, 14, 9, 11, 3, 0, 8, 12, 2, 13, 7, 1, 4, 10, 5,
  10, 2, 8, 4, 7, 6, 1, 5, 15, 11, 9, 14, 3, 12, 13, 0]
def fours : List Nat := [0, 4, 8, 12, 1, 5, 9, 13, 2, 6, 10, 14, 3, 7, 11, 15, 0, 5, 10, 15, 1, 6, 11, 12, 2, 7, 8, 13, 3, 4, 9, 14]

theorem all_of {p : Nat → Bool} (n : Nat) (h : (List.range n).all p = true) (j : Nat) (hj : j < n) : p j = true := by
  rw [List.all_eq_true] at h
  exact h j (List.mem_range.2 hj)
theorem rows_lt {j : Nat} (h : j < 160) : at' rows j < 16 := by
  simpa using all_of (p := fun j => decide (at' rows j < 16)) 160 (by decide +kernel) j h
theorem fours_lt {j : Nat} (h : j < 32) : at' fours j < 16 := by
  simpa using all_of (p := fun j => decide (at' fours j < 16)) 32 (by decide +kernel) j h

/-- One of the eight steps of a round. -/
def stp (m : List Nat) (r : Nat) (v : List Nat) (i : Nat) : List Nat :=
  mx v (at' fours (4 * i)) (at' fours (4 * i + 1)) (at' fours (4 * i + 2)) (at' fours (4 * i + 3)) (at' m (at' rows (16 * r + 2 * i))) (at' m (at' rows (16 * r + (2 * i + 1))))
def rnd (m : List Nat) (r : Nat) (v : List Nat) : Nat → List Nat
  | 0 => v
  | i + 1 => stp m r (rnd m r v i) i
def rds (m v : List Nat) : Nat → List Nat
  | 0 => v
  | r + 1 => rnd m r (rds m v r) 8

theorem stp_lt {m v : List Nat} (h : Lt v) (r i : Nat) : Lt (stp m r v i) := mx_lt h _ _ _ _ _ _
theorem stp_length (m v : List Nat) (r i : Nat) : (stp m r v i).length = v.length := mx_length _ _ _ _ _ _ _
theorem rnd_lt {m v : List Nat} (h : Lt v) (r i : Nat) : Lt (rnd m r v i) := by
  induction i with
  | zero => exact h
  | succ i ih => exact stp_lt ih _ _
theorem rnd_length (m v : List Nat) (r i : Nat) : (rnd m r v i).length = v.length := by
  induction i with
  | zero => rfl
  | succ i ih => rw [← ih]; exact stp_length _ _ _ _
theorem rds_lt {m v : List Nat} (h : Lt v) (r : Nat) : Lt (rds m v r) := by
  induction r with
  | zero => exact h
  | succ i ih => exact rnd_lt ih _ _
theorem rds_length (m v : List Nat) (r : Nat) : (rds m v r).length = v.length := by
  induction r with
  | zero => rfl
  | succ i ih => rw [← ih]; exact rnd_length _ _ _ _

def iv : List Nat := [1779033703, 3144134277, 1013904242, 2773480762, 1359893119, 2600822924, 528734635, 1541459225]

/-- A row of n places, told place by place. -/
def tab (n : Nat) (f : Nat → Nat) : List Nat := (List.range n).map f
theorem tab_length (n : Nat) (f : Nat → Nat) : (tab n f).length = n := by simp [tab]
theorem tab_at (n : Nat) (f : Nat → Nat) (j : Nat) (h : j < n) : at' (tab n f) j = f j := by simp [tab, at', h]
theorem tab_out (n : Nat) (f : Nat → Nat) (j : Nat) (h : n ≤ j) : at' (tab n f) j = 0 := by
  unfold at'; rw [getD_out _ _ _ (by rw [tab_length]; exact h)]
theorem tab_lt {n : Nat} {f : Nat → Nat} (h : ∀ j, j < n → f j < 4294967296) : Lt (tab n f) := by
  intro j
  by_cases hj : j < n
  · rw [tab_at _ _ _ hj]; exact h j hj
  · rw [tab_out _ _ _ (by omega)]; decide
theorem tab_ext {n : Nat} {f g : Nat → Nat} (h : ∀ j, j < n → f j = g j) : tab n f = tab n g := by
  unfold tab
  apply List.map_congr_left
  intro j hj
  exact h j (List.mem_range.1 hj)
theorem at_ext {l k : List Nat} (hl : l.length = k.length) (h : ∀ j, j < l.length → at' l j = at' k j) : l = k := by
  apply List.ext_getElem hl
  intro i h1 h2
  have := h i h1
  simpa [at', h1, h2] using this
theorem at_tab (l : List Nat) : tab l.length (at' l) = l := by
  apply at_ext (tab_length _ _)
  intro j hj
  rw [tab_length] at hj
  exact tab_at _ _ _ hj
theorem at_out {l : List Nat} {j : Nat} (h : l.length ≤ j) : at' l j = 0 := by
  unfold at'; rw [getD_out _ _ _ h]

/-- The sixteen numbers ahead of the rounds: h, the first numbers, how many bytes are gone through, whether it is the last block. -/
def ini (h : List Nat) (t : Nat) (last : Bool) : List Nat :=
  tab 16 fun j => if j < 8 then at' h j else if j = 12 then at' iv 4 ^^^ (t % 4294967296) else if j = 13 then at' iv 5 ^^^ (t / 4294967296 % 4294967296) else if j = 14 then (if last then 4294967295 - at' iv 6 else at' iv 6) else at' iv (j - 8)
theorem iv_lt : Lt iv := by
  intro j
  by_cases h : j < 8
  · simpa using all_of (p := fun j => decide (at' iv j < 4294967296)) 8 (by decide +kernel) j h
  · rw [at_out (by simpa [iv] using h)]; decide
theorem ini_lt {h : List Nat} (hh : Lt h) (t : Nat) (last : Bool) : Lt (ini h t last) := by
  apply tab_lt
  intro j _
  split
  · exact hh j
  · split
    · exact xr_lt (iv_lt _) (Nat.mod_lt _ (by decide))
    · split
      · exact xr_lt (iv_lt _) (Nat.mod_lt _ (by decide))
      · split
        · split
          · exact Nat.lt_of_le_of_lt (Nat.sub_le _ _) (by decide)
          · exact iv_lt _
        · exact iv_lt _
theorem ini_length (h : List Nat) (t : Nat) (last : Bool) : (ini h t last).length = 16 := tab_length _ _

/-- A block taken in. -/
def cmp (h : List Nat) (t : Nat) (m : List Nat) (last : Bool) : List Nat :=
  tab 8 fun j => at' h j ^^^ (at' (rds m (ini h t last) 10) j ^^^ at' (rds m (ini h t last) 10) (j + 8))
theorem cmp_length (h : List Nat) (t : Nat) (m : List Nat) (last : Bool) : (cmp h t m last).length = 8 := tab_length _ _
theorem cmp_lt {h : List Nat} (hh : Lt h) (t : Nat) (m : List Nat) (last : Bool) : Lt (cmp h t m last) :=
  tab_lt fun j _ => xr_lt (hh j) (xr_lt (rds_lt (ini_lt hh _ _) _ _) (rds_lt (ini_lt hh _ _) _ _))

/-- A byte of a row of bytes, 0 beyond its end; a number of four of them. -/
def by' (l : List UInt8) (j : Nat) : Nat := (l.getD j 0).toNat
theorem by_lt (l : List UInt8) (j : Nat) : by' l j < 256 := UInt8.toNat_lt _
def num (l : List UInt8) (i : Nat) : Nat := by' l (4 * i) + 256 * by' l (4 * i + 1) + 65536 * by' l (4 * i + 2) + 16777216 * by' l (4 * i + 3)
theorem num_lt (l : List UInt8) (i : Nat) : num l i < 4294967296 := by
  have h0 := by_lt l (4 * i)
  have h1 := by_lt l (4 * i + 1)
  have h2 := by_lt l (4 * i + 2)
  have h3 := by_lt l (4 * i + 3)
  unfold num; omega
def nums (l : List UInt8) : List Nat := tab 16 (num l)
theorem nums_lt (l : List UInt8) : Lt (nums l) := tab_lt fun j _ => num_lt l j
theorem nums_length (l : List UInt8) : (nums l).length = 16 := tab_length _ _
theorem by_drop (l : List UInt8) (k j : Nat) : by' (l.drop k) j = by' l (k + j) := by
  simp [by', List.getD_eq_getElem?_getD, List.getElem?_drop]
theorem by_app (l x : List UInt8) (j : Nat) (h : j < l.length) : by' (l ++ x) j = by' l j := by
  simp [by', List.getD_eq_getElem?_getD, List.getElem?_append_left h]
theorem by_app2 (l x : List UInt8) (j : Nat) (h : l.length ≤ j) : by' (l ++ x) j = by' x (j - l.length) := by
  simp [by', List.getD_eq_getElem?_getD, List.getElem?_append_right h]
theorem by_out (l : List UInt8) (j : Nat) (h : l.length ≤ j) : by' l j = 0 := by
  unfold by'; rw [getD_out _ _ _ h]; rfl
theorem nums_ext {l k : List UInt8} (h : ∀ j, j < 64 → by' l j = by' k j) : nums l = nums k := by
  apply tab_ext
  intro j hj
  unfold num
  rw [h _ (by omega), h _ (by omega), h _ (by omega), h _ (by omega)]

/-- The numbers behind the first q blocks of l, none of which is the last. -/
def st (h0 : List Nat) (l : List UInt8) : Nat → List Nat
  | 0 => h0
  | q + 1 => cmp (st h0 l q) (64 * (q + 1)) (nums (l.drop (64 * q))) false
theorem st_length {h0 : List Nat} (hh : h0.length = 8) (l : List UInt8) (q : Nat) : (st h0 l q).length = 8 := by
  cases q with
  | zero => exact hh
  | succ q => exact cmp_length _ _ _ _
theorem st_lt {h0 : List Nat} (hh : Lt h0) (l : List UInt8) (q : Nat) : Lt (st h0 l q) := by
  induction q with
  | zero => exact hh
  | succ q ih => exact cmp_lt ih _ _ _
theorem st_app (h0 : List Nat) (l x : List UInt8) (q : Nat) (h : 64 * q ≤ l.length) : st h0 (l ++ x) q = st h0 l q := by
  induction q with
  | zero => rfl
  | succ q ih =>
    show cmp _ _ _ _ = cmp _ _ _ _
    rw [ih (by omega), nums_ext (l := (l ++ x).drop (64 * q)) (k := l.drop (64 * q))]
    intro j hj
    rw [by_drop, by_drop, by_app _ _ _ (by omega)]

/-- How many blocks of n bytes are not the last. -/
def qn (n : Nat) : Nat := (n - 1) / 64
theorem qn_of {n q : Nat} (h1 : n ≤ 64 * q + 64) (h2 : q = 0 ∨ 64 * q < n) : q = qn n := by unfold qn; omega
theorem qn_le (n : Nat) : 64 * qn n ≤ n ∧ n ≤ 64 * qn n + 64 := by unfold qn; omega

/-- The numbers behind all of l; the digest. -/
def fin (h0 : List Nat) (l : List UInt8) : List Nat := cmp (st h0 l (qn l.length)) l.length (nums (l.drop (64 * qn l.length))) true
def dig (h : List Nat) : Nat → List UInt8
  | 0 => []
  | i + 1 => dig h i ++ [UInt8.ofNat (at' h i % 256), UInt8.ofNat (at' h i / 256 % 256), UInt8.ofNat (at' h i / 65536 % 256), UInt8.ofNat (at' h i / 16777216 % 256)]
theorem dig_length (h : List Nat) (i : Nat) : (dig h i).length = 4 * i := by
  induction i with
  | zero => rfl
  | succ i ih => show (dig h i ++ _).length = _; rw [List.length_append, ih]; simp; omega
def h0 (k : Nat) : List Nat := iv.set 0 (1779033703 ^^^ (16842784 ^^^ (k * 256)))
theorem h0_length (k : Nat) : (h0 k).length = 8 := by simp [h0, iv]
theorem h0_lt (k : Nat) (hk : k ≤ 32) : Lt (h0 k) := iv_lt.set _ _ (xr_lt (by decide) (xr_lt (by decide) (by omega)))
def sum (k : Nat) (l : List UInt8) : List UInt8 := dig (fin (h0 k) l) 8
theorem sum_length (k : Nat) (l : List UInt8) : (sum k l).length = 32 := dig_length _ _

end Go.Proofs.Ytknjmmbebkcnpaa.Bk

/- The turns of bits and the mixing of four numbers, walked. For numbers of 32 bits: each call returns what the plain numbers of BMath say, and leaves the world as it is. -/
namespace Go.Proofs.Ytknjmmbebkcnpaa
open Go.RowKit Bk

theorem hide {p : Prop} (h : p) : Hid p := h
theorem ret_u32 {a b : Int} (h : a = b) : Ending.returned (.int .u32 a) = .returned (.int .u32 b) := by rw [h]
theorem or_rr (p q x : Nat) (hx : x < 4294967296) : bits .or .u32 ((x : Int) * (p : Int) % 4294967296) ((x : Int) / (q : Int)) = ((rr p q x : Nat) : Int) := by
  have e1 : (x : Int) * (p : Int) % 4294967296 = ((x * p % 4294967296 : Nat) : Int) := by rw [Int.natCast_emod, Int.natCast_mul]; rfl
  have e2 : (x : Int) / (q : Int) = ((x / q : Nat) : Int) := (Int.natCast_ediv x q).symm
  rw [e1, e2, u32_or_nat _ _ (Nat.mod_lt _ (by decide)) (Nat.lt_of_le_of_lt (Nat.div_le_self _ _) hx)]
  rfl
theorem w16 : bits BinOp.and IntKind.u64 (IntKind.u64.wrap (-16)) 31 = 16 := by decide
theorem w12 : bits BinOp.and IntKind.u64 (IntKind.u64.wrap (-12)) 31 = 20 := by decide
theorem w8 : bits BinOp.and IntKind.u64 (IntKind.u64.wrap (-8)) 31 = 24 := by decide
theorem w7 : bits BinOp.and IntKind.u64 (IntKind.u64.wrap (-7)) 31 = 25 := by decide

theorem ad_int (p q : Nat) : ((p : Int) + (q : Int)) % 4294967296 = ((ad p q : Nat) : Int) := by
  unfold ad; rw [Int.natCast_emod, Int.natCast_add]; rfl
theorem xr_int {p q : Nat} (hp : p < 4294967296) (hq : q < 4294967296) : bits .xor .u32 (p : Int) (q : Int) = ((p ^^^ q : Nat) : Int) := u32_xor_nat p q hp hq

end Go.Proofs.Ytknjmmbebkcnpaa

/- Rows of numbers in memory, arrays and structs as values: what it says that cells lie in a block from a place on and may be written; what stores, allocations and calls leave of it. No call is walked here. -/
namespace Go.Proofs.Ytknjmmbebkcnpaa
open Go.RowKit Bk
set_option linter.unusedVariables false

/-- Numbers of 32 bits, bytes, as values. -/
def us (l : List Nat) : List Value := l.map fun (x : Nat) => Value.int .u32 (x : Int)
def bs (l : List UInt8) : List Value := l.map fun (x : UInt8) => Value.int .u8 (x.toNat : Int)
theorem us_length (l : List Nat) : (us l).length = l.length := by simp [us]
theorem bs_length (l : List UInt8) : (bs l).length = l.length := by simp [bs]
theorem us_get (l : List Nat) (j : Nat) (h : j < l.length) : (us l)[j]? = some (.int .u32 (at' l j : Nat)) := by simp [us, at', h]
theorem bs_get (l : List UInt8) (j : Nat) (h : j < l.length) : (bs l)[j]? = some (.int .u8 (by' l j : Nat)) := by simp [bs, by', h]
theorem us_one {l : List Nat} {v : Value} (h : v ∈ us l) : v.oneCell' = true := by
  simp only [us, List.mem_map] at h
  obtain ⟨x, _, rfl⟩ := h
  rfl
theorem bs_one {l : List UInt8} {v : Value} (h : v ∈ bs l) : v.oneCell' = true := by
  simp only [bs, List.mem_map] at h
  obtain ⟨x, _, rfl⟩ := h
  rfl
theorem us_set (l : List Nat) (i x : Nat) : us (l.set i x) = (us l).set i (.int .u32 (x : Int)) := by simp [us, List.map_set]
theorem us_app (l k : List Nat) : us (l ++ k) = us l ++ us k := by simp [us]
theorem bs_app (l k : List UInt8) : bs (l ++ k) = bs l ++ bs k := by simp [bs]

/-- The cells cs lie in block b from place o on, and may be written. -/
structure Row (w : World) (b o : Nat) (cs : List Value) : Prop where
  lt : b < w.heap.size
  cell : w.rangeAt b o cs
  free : ∀ j, j < cs.length → w.frozen? ⟨b, o + j, none⟩ = false

theorem Row.at' {w : World} {b o : Nat} {cs : List Value} (h : Row w b o cs) {j : Nat} {v : Value} (hj : cs[j]? = some v) : w.cell? ⟨b, o + j, none⟩ = some v := h.cell j v hj
theorem Row.there {w : World} {b o : Nat} {cs : List Value} (h : Row w b o cs) : w.there b o cs.length := fun j hj => ⟨h.cell.isSome j hj, h.free j hj⟩
theorem Row.below {w w' : World} {b o B : Nat} {cs : List Value} (h : Row w b o cs) (hB : Below B w w') (hb : b < B) : Row w' b o cs :=
  ⟨Nat.lt_of_lt_of_le h.lt hB.size, fun j v hj => (hB.cell (p := ⟨b, o + j, none⟩) hb).trans (h.cell j v hj), fun j hj => (hB.frozen (p := ⟨b, o + j, none⟩) hb).trans (h.free j hj)⟩
theorem Row.drew {w : World} {b o : Nat} {cs : List Value} (h : Row w b o cs) : Row w.drew b o cs := ⟨h.lt, h.cell, h.free⟩
theorem Row.drewN {w : World} {b o : Nat} {cs : List Value} (h : Row w b o cs) (q : Nat) : Row (w.drewN q) b o cs := ⟨h.lt, h.cell, h.free⟩
theorem Row.alloc {w : World} {b o : Nat} {cs : List Value} (h : Row w b o cs) (ob : Obj) : Row (w.alloc ob) b o cs := h.below ((Below.refl _ w).alloc (Nat.le_refl _) ob) h.lt
theorem Row.new (w : World) (c : Array Value) (t : TypeId) : Row (w.alloc (.cells c t)) w.heap.size 0 c.toList := by
  have hb := heap_alloc_last w (.cells c t)
  refine ⟨by simp, fun j v hj => ?_, fun j hj => by unfold World.frozen?; rw [show (w.alloc (.cells c t)).heap[(⟨w.heap.size, 0 + j, none⟩ : Addr).block]? = _ from hb]; simp⟩
  rw [Nat.zero_add, cell_of_row _ _ j c t (0, 0) hb]
  simpa using hj
theorem Row.newL (w : World) (c : List Value) (t : TypeId) : Row (w.alloc (.cells c.toArray t)) w.heap.size 0 c := by simpa using Row.new w c.toArray t
theorem Row.set {w : World} {b o : Nat} {cs : List Value} (h : Row w b o cs) {i : Nat} (hi : i < cs.length) (v : Value) : Row (w.setCell ⟨b, o + i, none⟩ v) b o (cs.set i v) := by
  refine ⟨by simpa [World.setCell] using h.lt, fun j u hj => ?_, fun j hj => by rw [World.frozen?_setCell]; exact h.free j (by simpa using hj)⟩
  by_cases e : j = i
  · subst e
    rw [World.cell?_setCell_same' _ _ _ (h.cell.isSome j hi)]
    rw [List.getElem?_set_self hi] at hj
    exact hj
  · rw [List.getElem?_set_ne (fun k => e k.symm)] at hj
    rw [World.cell?_setCell_other _ _ _ _ (by intro h'; injection h' with _ h'; omega)]
    exact h.cell j u hj
theorem Row.set0 {w : World} {b : Nat} {cs : List Value} (h : Row w b 0 cs) {i : Nat} (hi : i < cs.length) (v : Value) : Row (w.setCell ⟨b, i, none⟩ v) b 0 (cs.set i v) := by
  have := h.set hi v
  rwa [Nat.zero_add] at this
theorem Row.other {w : World} {b o : Nat} {cs : List Value} (h : Row w b o cs) (b' i : Nat) (v : Value) (hne : b ≠ b' ∨ i < o ∨ o + cs.length ≤ i) : Row (w.setCell ⟨b', i, none⟩ v) b o cs := by
  refine ⟨by simpa [World.setCell] using h.lt, fun j u hj => ?_, fun j hj => by rw [World.frozen?_setCell]; exact h.free j hj⟩
  have hl : j < cs.length := (List.getElem?_eq_some_iff.1 hj).1
  rw [World.cell?_setCell_other _ _ _ _ (by intro h'; injection h' with h1 h2; omega)]
  exact h.cell j u hj
theorem size_setCells (b : Nat) : ∀ (vs : List Value) (o : Nat) (w : World), (w.setCells b o vs).heap.size = w.heap.size
  | [], _, _ => rfl
  | v :: r, o, w => by rw [World.setCells, size_setCells b r]; simp [World.setCell]
theorem below_setCells {B b : Nat} (hB : B ≤ b) : ∀ (vs : List Value) (o : Nat) (w : World), Below B w (w.setCells b o vs)
  | [], _, w => Below.refl _ _
  | v :: r, o, w => ((Below.refl _ w).setCell hB v).trans (below_setCells hB r (o + 1) _)
theorem Row.put {w : World} {b o : Nat} {cs : List Value} (h : Row w b o cs) (vs : List Value) (hl : vs.length = cs.length) : Row (w.setCells b o vs) b o vs := by
  have ht := h.there
  rw [← hl] at ht
  exact ⟨by rw [size_setCells]; exact h.lt, World.rangeAt_setCells_same w b o vs ht, fun j hj => by rw [World.frozen?_setCells]; exact h.free j (by omega)⟩
theorem Row.apart {w : World} {b o : Nat} {cs : List Value} (h : Row w b o cs) (b' o' : Nat) (vs : List Value) (hne : b ≠ b' ∨ o + cs.length ≤ o' ∨ o' + vs.length ≤ o) : Row (w.setCells b' o' vs) b o cs :=
  ⟨by rw [size_setCells]; exact h.lt, World.rangeAt_setCells_apart h.cell b' o' vs hne, fun j hj => by rw [World.frozen?_setCells]; exact h.free j hj⟩
theorem Row.left {w : World} {b o : Nat} {cs ds : List Value} (h : Row w b o (cs ++ ds)) : Row w b o cs :=
  ⟨h.lt, fun j v hj => h.cell j v (by rw [List.getElem?_append_left (List.getElem?_eq_some_iff.1 hj).1]; exact hj), fun j hj => h.free j (by rw [List.length_append]; omega)⟩
theorem Row.right {w : World} {b o : Nat} {cs ds : List Value} (h : Row w b o (cs ++ ds)) : Row w b (o + cs.length) ds :=
  ⟨h.lt, fun j v hj => by rw [Nat.add_assoc]; exact h.cell (cs.length + j) v (by rw [List.getElem?_append_right (by omega), Nat.add_sub_cancel_left]; exact hj), fun j hj => by rw [Nat.add_assoc]; exact h.free _ (by rw [List.length_append]; omega)⟩
theorem Row.join {w : World} {b o : Nat} {cs ds : List Value} (h : Row w b o cs) (k : Row w b (o + cs.length) ds) : Row w b o (cs ++ ds) := by
  refine ⟨h.lt, fun j v hj => ?_, fun j hj => ?_⟩
  · by_cases e : j < cs.length
    · rw [List.getElem?_append_left e] at hj; exact h.cell j v hj
    · rw [List.getElem?_append_right (by omega)] at hj
      have := k.cell _ v hj
      rwa [show o + cs.length + (j - cs.length) = o + j from by omega] at this
  · by_cases e : j < cs.length
    · exact h.free j e
    · rw [List.length_append] at hj
      have := k.free (j - cs.length) (by omega)
      rwa [show o + cs.length + (j - cs.length) = o + j from by omega] at this

/-- Numbers, bytes, read out of a row. -/
theorem Row.u {w : World} {b o : Nat} {l : List Nat} (h : Row w b o (us l)) (j : Nat) (hj : j < l.length) : w.cell? ⟨b, o + j, none⟩ = some (.int .u32 (Bk.at' l j : Nat)) := h.cell j _ (us_get l j hj)
theorem Row.u0 {w : World} {b : Nat} {l : List Nat} (h : Row w b 0 (us l)) (j : Nat) (hj : j < l.length) : w.cell? ⟨b, j, none⟩ = some (.int .u32 (Bk.at' l j : Nat)) := by
  have := h.u j hj
  rwa [Nat.zero_add] at this
theorem Row.y {w : World} {b o : Nat} {l : List UInt8} (h : Row w b o (bs l)) (j : Nat) (hj : j < l.length) : w.cell? ⟨b, o + j, none⟩ = some (.int .u8 (by' l j : Nat)) := h.cell j _ (bs_get l j hj)
theorem Row.y0 {w : World} {b : Nat} {l : List UInt8} (h : Row w b 0 (bs l)) (j : Nat) (hj : j < l.length) : w.cell? ⟨b, j, none⟩ = some (.int .u8 (by' l j : Nat)) := by
  have := h.y j hj
  rwa [Nat.zero_add] at this
theorem Row.f0 {w : World} {b : Nat} {cs : List Value} (h : Row w b 0 cs) (j : Nat) (hj : j < cs.length) : w.frozen? ⟨b, j, none⟩ = false := by
  have := h.free j hj
  rwa [Nat.zero_add] at this

/-- Rows of noughts. -/
theorem us_zero (n : Nat) : us (List.replicate n 0) = List.replicate n (.int .u32 0) := by simp [us]
theorem bs_zero (n : Nat) : bs (List.replicate n 0) = List.replicate n (.int .u8 0) := by simp [bs]

/-- Small numbers in bytes, as values. -/
def u8s (l : List Nat) : List Value := l.map fun (x : Nat) => Value.int .u8 (x : Int)
theorem u8s_length (l : List Nat) : (u8s l).length = l.length := by simp [u8s]
theorem u8s_get (l : List Nat) (j : Nat) (h : j < l.length) : (u8s l)[j]? = some (.int .u8 (Bk.at' l j : Nat)) := by simp [u8s, Bk.at', h]
theorem u8s_one {l : List Nat} {v : Value} (h : v ∈ u8s l) : v.oneCell' = true := by
  simp only [u8s, List.mem_map] at h
  obtain ⟨x, _, rfl⟩ := h
  rfl
theorem u8s_extract (l : List Nat) (i n : Nat) : (u8s l).toArray.extract i (i + n) = (u8s ((l.drop i).take n)).toArray := by
  rw [List.extract_toArray, List.extract_eq_take_drop, Nat.add_sub_cancel_left]
  simp [u8s, List.map_drop, List.map_take]
theorem Row.e0 {w : World} {b : Nat} {l : List Nat} (h : Row w b 0 (u8s l)) (j : Nat) (hj : j < l.length) : w.cell? ⟨b, j, none⟩ = some (.int .u8 (Bk.at' l j : Nat)) := by
  have := h.cell j _ (u8s_get l j hj)
  rwa [Nat.zero_add] at this

/-- A part of an array that is a value. -/
theorem run_index_row {P : Program} {t e : TypeId} {n sz : Nat} {d : TypeDesc} (cs : Array Value) (i : Nat) (hu : P.underlying t = some (.array n e)) (hi : i < n) (hs : (P.info? e).map (·.size) = some sz) (he : P.underlying e = some d) (hd : d.isRow = true) (w : World) :
    (Instr.index t (.agg cs) (.int .i64 (i : Int))).run P w = .ok (.agg (cs.extract (i * sz) (i * sz + sz))) w := by
  have h1 : ∀ w, (sizeOf e).run P w = .ok sz w := fun w => by
    cases hq : P.info? e with
    | none => simp [hq] at hs
    | some t => simp [hq] at hs; simp [sizeOf, typeInfo, hq, hs]
  have h2 : ∀ w, (isAgg e).run P w = .ok true w := fun w => by
    unfold isAgg
    rw [Sem.run_bind, run_underlying he w]
    cases d <;> simp_all
  have h3 : 0 ≤ (i : Int) ∧ (i : Int) < (n : Int) := ⟨by omega, by omega⟩
  simp [Instr.index, asIntOf, Sem.run_bind, run_underlying hu, h3, h1, part, h2]
  omega
theorem run_index_cell {P : Program} {t e : TypeId} {n : Nat} {d : TypeDesc} {cs : Array Value} {v : Value} (i : Nat) (hu : P.underlying t = some (.array n e)) (hi : i < n) (hs : (P.info? e).map (·.size) = some 1) (he : P.underlying e = some d) (hd : d.isRow = false) (hc : cs[i]? = some v) (w : World) :
    (Instr.index t (.agg cs) (.int .i64 (i : Int))).run P w = .ok v w := by
  have h1 : ∀ w, (sizeOf e).run P w = .ok 1 w := fun w => by
    cases hq : P.info? e with
    | none => simp [hq] at hs
    | some t => simp [hq] at hs; simp [sizeOf, typeInfo, hq, hs]
  have h2 : ∀ w, (isAgg e).run P w = .ok false w := fun w => by
    unfold isAgg
    rw [Sem.run_bind, run_underlying he w]
    cases d <;> simp_all
  have h3 : 0 ≤ (i : Int) ∧ (i : Int) < (n : Int) := ⟨by omega, by omega⟩
  simp [Instr.index, asIntOf, Sem.run_bind, run_underlying hu, h3, h1, part, h2, hc]
  omega

section
variable {P : Program} {ops : Array Oper} {rest : List Oper} {op : Oper} {a : Act} {w : World} {Q : Exit → Act → World → Prop}
/-- Operations on rows, in a plain row of operations. -/
theorem wpList_buildL (hg : op.guard = none) (t : TypeId) (parts : Array (Nat × Operand)) (ho : op.op = .build t parts) (cells : List Value) (hb : P.built t (parts.map fun (i, x) => (i, a.eval x)).toList = some cells.toArray)
    (h : wpList P ops Q rest (a.put op.dst (.agg cells.toArray)) w) : wpList P ops Q (op :: rest) a w :=
  wpList_build hg t parts ho (by rw [hb]; rfl) (by rw [hb]; exact h)
theorem run_allocL (t : TypeId) (z : Value) (n : Nat) (hz : (P.info? t).map (fun i => (i.zero, i.size)) = some (some z, n)) (w : World) : (Instr.alloc t true (.tuple #[])).run P w = .ok (.pointer (some ⟨w.heap.size, 0, none⟩)) (w.alloc (.cells z.cells t)) := by
  have h1 := (zero_of_info hz).1 w
  simp [Instr.alloc, Sem.run_bind, h1, newVar, newRow]
theorem wpList_allocL (hg : op.guard = none) (t : TypeId) (ho : op.op = .alloc t) (z : List Value) (n : Nat) (hz : (P.info? t).map (fun i => (i.zero, i.size)) = some (some (.agg z.toArray), n))
    (h : wpList P ops Q rest (a.put op.dst (.pointer (some ⟨w.heap.size, 0, none⟩))) (w.alloc (.cells z.toArray t))) : wpList P ops Q (op :: rest) a w :=
  wpList_plain hg fun _ hK => by
    unfold Oper.wp execOp
    simp only [ho, Sem.run_bind, run_allocL t _ n hz w]
    exact hK _ _ h
theorem wpList_loadR (hg : op.guard = none) (ty : TypeId) (x : Operand) (ho : op.op = .load ty x) {b o : Nat} (hx : a.eval x = .pointer (some ⟨b, o, none⟩)) {cs : List Value} (d : TypeDesc) (hr : Row w b o cs)
    (hu : P.underlying ty = some d) (hd : d.isRow = true) (hi : (P.info? ty).map (·.size) = some cs.length) (h : wpList P ops Q rest (a.put op.dst (.agg cs.toArray)) w) : wpList P ops Q (op :: rest) a w :=
  wpList_load_mid hg ty x ho b o hx cs d hr.cell hu hd hi h
theorem wpList_storeR (hg : op.guard = none) (ty : TypeId) (x y : Operand) (ho : op.op = .store ty x y) {b o : Nat} (hx : a.eval x = .pointer (some ⟨b, o, none⟩)) {cs vs : List Value} (hy : a.eval y = .agg vs.toArray) (hr : Row w b o cs)
    (hl : vs.length = cs.length) (hi : (P.info? ty).map (·.size) = some vs.length) (h1 : ∀ v ∈ vs, v.oneCell' = true) (h : wpList P ops Q rest (a.put op.dst undef) (w.setCells b o vs)) : wpList P ops Q (op :: rest) a w :=
  wpList_store_mid hg ty x y ho b o vs.toArray hx hy (by have := hr.there; rw [← hl] at this; simpa using this) (by simpa using hi) (all_oneCell_toArray h1) (by simpa using h)
/-- One number is stored. -/
theorem wpList_store1 (hg : op.guard = none) (ty : TypeId) (x y : Operand) (ho : op.op = .store ty x y) {b i : Nat} {k : IntKind} {n : Int} (hx : a.eval x = .pointer (some ⟨b, i, none⟩)) (hy : a.eval y = .int k n) {u : Value} (hc : w.cell? ⟨b, i, none⟩ = some u) (hf : w.frozen? ⟨b, i, none⟩ = false)
    (hi : (P.info? ty).map (·.size) = some 1) (h : wpList P ops Q rest (a.put op.dst undef) (w.setCell ⟨b, i, none⟩ (.int k n))) : wpList P ops Q (op :: rest) a w :=
  wpList_plain hg fun _ hK => by
    have hs : ∀ w, (sizeOf ty).run P w = .ok 1 w := fun w => by
      cases hq : P.info? ty with
      | none => simp [hq] at hi
      | some t => simp [hq] at hi; simp [sizeOf, typeInfo, hq, hi]
    have hr : (Instr.storeAt ty (.pointer (some ⟨b, i, none⟩)) (.int k n)).run P w = .ok () (w.setCell ⟨b, i, none⟩ (.int k n)) := by
      have h0 : (⟨b, i, none⟩ : Addr).add 0 = ⟨b, i, none⟩ := by unfold Addr.add; simp
      simp [Instr.storeAt, Instr.sureAddr, storeVar, Sem.run_bind, hs, Value.cells, storeCells, run_store P w _ (.int k n) _ rfl, h0, hc, hf]
    unfold Oper.wp execOp
    simp only [ho, hx, hy, Sem.run_bind, hr]
    exact hK _ _ h
end

end Go.Proofs.Ytknjmmbebkcnpaa

/- Bytes in memory: slices of bytes, copy, append and string(..) of them, as one operation each. No call is walked here. -/
namespace Go.Proofs.Ytknjmmbebkcnpaa
open Go.RowKit Bk
set_option linter.unusedVariables false

/-- The bytes of a string. -/
def sb (s : ByteArray) : List UInt8 := s.data.toList
theorem sb_length (s : ByteArray) : (sb s).length = s.size := by unfold sb; rw [Array.length_toList]; rfl
theorem sb_mk (l : List UInt8) : sb ⟨l.toArray⟩ = l := rfl
theorem mk_sb (s : ByteArray) : (⟨(sb s).toArray⟩ : ByteArray) = s := by cases s; simp [sb]
theorem sb_cells (s : ByteArray) : byteCells s = bs (sb s) := rfl

/-- A slice that holds bytes, in a row of bytes. -/
structure Sb (w : World) (a : Option Addr) (n c : Nat) (l : List UInt8) : Prop where
  len : l.length = n
  cap : n ≤ c
  at' : n = 0 ∨ ∃ b o C fr, a = some ⟨b, o, none⟩ ∧ w.heap[b]? = some (.cells C 5 fr) ∧ w.rangeAt b o (bs l)
theorem Sb.nil (w : World) : Sb w none 0 0 [] := ⟨rfl, Nat.le_refl _, .inl rfl⟩
theorem Sb.block {w w' : World} {a : Option Addr} {n c : Nat} {l : List UInt8} (h : Sb w a n c l) (k : ∀ (b : Nat) C fr, w.heap[b]? = some (Obj.cells C 5 fr) → w'.heap[b]? = some (Obj.cells C 5 fr)) : Sb w' a n c l := by
  refine ⟨h.len, h.cap, ?_⟩
  rcases h.at' with h0 | ⟨b, o, C, fr, ha, hb, hr⟩
  · exact .inl h0
  · refine .inr ⟨b, o, C, fr, ha, k b C fr hb, fun j v hj => ?_⟩
    have h1 := hr j v hj
    rw [cell_of_row _ _ _ _ _ _ hb] at h1
    rw [cell_of_row _ _ _ _ _ _ (k b C fr hb)]
    exact h1
theorem Sb.below {w w' : World} {a : Option Addr} {n c : Nat} {l : List UInt8} (h : Sb w a n c l) (k : Below w.heap.size w w') : Sb w' a n c l :=
  h.block fun b C fr hb => by
    have : b < w.heap.size := (Array.getElem?_eq_some_iff.1 hb).1
    rw [k.block b this]; exact hb
theorem Sb.drew {w : World} {a : Option Addr} {n c : Nat} {l : List UInt8} (h : Sb w a n c l) : Sb w.drew a n c l := ⟨h.len, h.cap, h.at'⟩

section
variable {P : Program} {ops : Array Oper} {rest : List Oper} {op : Oper} {a : Act} {w : World} {Q : Exit → Act → World → Prop}

/-- copy into a row, of what the source yields. -/
theorem run_copyR (w : World) (dT sT ty elem : TypeId) (b o dLen dCap n : Nat) (x : Value) (cs news : List Value) (hu : P.underlying dT = some (.slice elem)) (hs : (P.info? elem).map (·.size) = some 1) (hlen : ∀ w', (Builtin.lenOf x).run P w' = .ok n w') (hn : n ≤ dLen)
    (hc : (Builtin.firstCells 1 n x).run P w = .ok news.toArray w) (hr : Row w b o cs) (hl : news.length = cs.length) (h1 : ∀ v ∈ news, v.oneCell' = true) :
    (Builtin.copy_ #[dT, sT] ty #[.slice (some ⟨b, o, none⟩) dLen dCap, x]).run P w = .ok (goInt n) (w.setCells b o news) := by
  have ht := hr.there
  rw [← hl] at ht
  have hst := run_storeCells_cells (P := P) b o news 0 w (fun j hj => by simpa using (ht j hj).1) (fun j hj => by simpa using (ht j hj).2) h1
  simp only [Nat.add_zero] at hst
  cases hq : P.info? elem with
  | none => simp [hq] at hs
  | some i =>
    have hi : i.size = 1 := by simpa [hq] using hs
    have hm : Nat.min n dLen = n := Nat.min_eq_left hn
    simp [Builtin.copy_, run_underlying hu, hlen, sizeOf, typeInfo, hq, hi, hm, hc, hst]
theorem wpList_copyR (hg : op.guard = none) (d x : Operand) (dT sT : TypeId) (ho : op.op = .call { callee := .builtin .copy, args := #[d, x], argTypes := #[dT, sT] }) (elem : TypeId) (hu : P.underlying dT = some (.slice elem)) (hs : (P.info? elem).map (·.size) = some 1)
    {b o dLen dCap n : Nat} {xv : Value} {cs news : List Value} (hd : a.eval d = .slice (some ⟨b, o, none⟩) dLen dCap) (hx : a.eval x = xv) (hsrc : Src P 1 sT xv n news w) (hn : n ≤ dLen) (hr : Row w b o cs) (hl : news.length = cs.length)
    (h : wpList P ops Q rest (a.put op.dst (goInt n)) (w.setCells b o news)) : wpList P ops Q (op :: rest) a w := by
  refine wpList_plain hg fun K hK => ?_
  have hrun := run_copyR (P := P) w dT sT op.type elem b o dLen dCap n xv cs news hu hs hsrc.len hn hsrc.cells hr hl hsrc.one
  unfold Oper.wp
  simp [execOp, ho, resolve, invoke, builtin, hd, hx, hrun, Result.andThen]
  exact hK _ _ h
theorem Sb.src {w : World} {x : Option Addr} {n c : Nat} {l : List UInt8} {tx e' : TypeId} (h : Sb w x n c l) (hk : P.underlying tx = some (.slice e')) : Src P 1 tx (.slice x n c) n (bs l) w := by
  rcases h.at' with h0 | ⟨b, o, C, fr, rfl, hb, hr⟩
  · have hl := h.len
    subst h0
    obtain rfl : l = [] := List.length_eq_zero_iff.1 hl
    have hz : ∀ w' : World, (Builtin.firstCells 1 0 (.slice x 0 c)).run P w' = .ok #[] w' := fun w' => by
      cases x with
      | none => simp [Builtin.firstCells]
      | some a => simpa [Builtin.firstCells] using run_loadCells_list (P := P) w' a [] (by simp)
    exact ⟨.inl ⟨e', hk⟩, fun _ => rfl, hz w, hz w.drew, by simp [bs], fun u hu => by simp [bs] at hu⟩
  · exact Src.ofSlice w hk ⟨b, o, none⟩ n c (bs l) (by rw [bs_length, h.len, Nat.mul_one]) (fun j u hj => by rw [Addr.add_mid]; exact hr j u hj) (fun u hu => bs_one hu)
theorem str_src {w : World} {tx : TypeId} (hk : P.underlying tx = some .string) (s : ByteArray) : Src P 1 tx (.string s) s.size (bs (sb s)) w := Src.ofString w hk s

/-- append where there is room. -/
theorem wpList_appendR (hg : op.guard = none) (d x : Operand) (t tx : TypeId) (ho : op.op = .call { callee := .builtin .append, args := #[d, x], argTypes := #[t, tx] }) (e : TypeId) (ht : P.underlying t = some (.slice e)) (hs : (P.info? e).map (·.size) = some 1)
    {b off len cap n : Nat} {xv : Value} {cs news : List Value} (hd : a.eval d = .slice (some ⟨b, off, none⟩) len cap) (hx : a.eval x = xv) (hsrc : Src P 1 tx xv n news w) (hroom : len + n ≤ cap) (hr : Row w b (off + len) cs) (hl : news.length = cs.length)
    (h : wpList P ops Q rest (a.put op.dst (.slice (some ⟨b, off, none⟩) (len + n) cap)) (w.setCells b (off + len) news)) : wpList P ops Q (op :: rest) a w := by
  refine wpList_plain hg fun K hK => ?_
  cases hq : P.info? e with
  | none => simp [hq] at hs
  | some i =>
    have hi : i.size = 1 := by simpa [hq] using hs
    have ht' := hr.there
    rw [← hl] at ht'
    have hrun := run_append_room_src (P := P) w t tx op.type e i ht hq b off len cap xv n news (by rw [hi]; exact hsrc) hroom (fun j hj => by rw [hi, Nat.mul_one]; exact (ht' j hj).1) (fun j hj => by rw [hi, Nat.mul_one]; exact (ht' j hj).2)
    rw [hi, Nat.mul_one] at hrun
    unfold Oper.wp
    simp [execOp, ho, resolve, invoke, builtin, hd, hx, hrun, Result.andThen]
    exact hK _ _ h
/-- string(..) of bytes. -/
theorem run_textR (w : World) (src dst e : TypeId) {x : Option Addr} {n c : Nat} {l : List UInt8} (hs : P.underlying src = some (.slice e)) (he : P.underlying e = some (.int .u8)) (hd : P.underlying dst = some .string) (b o : Nat) (hx : x = some ⟨b, o, none⟩) (hl : l.length = n) (hr : w.rangeAt b o (bs l)) :
    (convert src dst (.slice x n c)).run P w = .ok (.string ⟨l.toArray⟩) w := by
  subst hx hl
  refine run_convert_bytes_back w src dst e ⟨b, o, none⟩ c l hs he hd (fun j hj => ?_)
  rw [Addr.add_mid]
  have := hr j _ (bs_get l j hj)
  rw [this]
  simp [by', hj]
end
theorem sb_extract (s : ByteArray) (i j : Nat) : sb (s.extract i j) = ((sb s).drop i).take (j - i) := by
  have h := ByteArray.extract_mk (sb s) i j
  rw [mk_sb] at h
  rw [h, sb_mk]
theorem size_extract (s : ByteArray) (i j : Nat) (h : j ≤ s.size) : (s.extract i j).size = j - i := by
  rw [← sb_length, sb_extract, List.length_take, List.length_drop, sb_length]; omega
theorem sb_empty : sb ⟨#[]⟩ = [] := rfl
theorem sb_inj {s t : ByteArray} (h : sb s = sb t) : s = t := by rw [← mk_sb s, ← mk_sb t, h]
theorem firstCells_str {P : Program} (s : ByteArray) (k : Nat) (w : World) : (Builtin.firstCells 1 k (.string s)).run P w = .ok (bs ((sb s).take k)).toArray w := by
  have e : sb (s.extract 0 k) = (sb s).take k := by rw [sb_extract]; simp
  have e2 : ((s.extract 0 k).data.map fun b => Value.int .u8 b.toNat) = (bs ((sb s).take k)).toArray := by
    apply Array.ext'
    rw [← e]
    simp [bs, sb]
  have e3 : Builtin.firstCells 1 k (.string s) = pure ((s.extract 0 k).data.map fun b => Value.int .u8 b.toNat) := rfl
  rw [e3, e2]
  rfl
section
variable {P : Program} {ops : Array Oper} {rest : List Oper} {op : Oper} {a : Act} {w : World} {Q : Exit → Act → World → Prop}
/-- copy of a string's first bytes into a row, as many as there is room for. -/
theorem run_copyS (w : World) (dT sT ty elem : TypeId) (b o dLen dCap k : Nat) (s : ByteArray) (cs : List Value) (hu : P.underlying dT = some (.slice elem)) (hs : (P.info? elem).map (·.size) = some 1) (hk : Nat.min s.size dLen = k)
    (hr : Row w b o cs) (hl : cs.length = k) : (Builtin.copy_ #[dT, sT] ty #[.slice (some ⟨b, o, none⟩) dLen dCap, .string s]).run P w = .ok (goInt k) (w.setCells b o (bs ((sb s).take k))) := by
  have hlen : (bs ((sb s).take k)).length = cs.length := by rw [bs_length, List.length_take, sb_length, hl, ← hk]; exact Nat.min_eq_left (Nat.min_le_left _ _)
  have ht := hr.there
  rw [← hlen] at ht
  have hst := run_storeCells_cells (P := P) b o (bs ((sb s).take k)) 0 w (fun j hj => by simpa using (ht j hj).1) (fun j hj => by simpa using (ht j hj).2) (fun v hv => bs_one hv)
  simp only [Nat.add_zero] at hst
  have hlo : ∀ w', (Builtin.lenOf (.string s)).run P w' = .ok s.size w' := fun _ => rfl
  have hc := firstCells_str (P := P) s k w
  cases hq : P.info? elem with
  | none => simp [hq] at hs
  | some i =>
    have hi : i.size = 1 := by simpa [hq] using hs
    simp [Builtin.copy_, run_underlying hu, hlo, sizeOf, typeInfo, hq, hi, hk, hc, hst]
theorem wpList_copyS (hg : op.guard = none) (d x : Operand) (dT sT : TypeId) (ho : op.op = .call { callee := .builtin .copy, args := #[d, x], argTypes := #[dT, sT] }) (elem : TypeId) (hu : P.underlying dT = some (.slice elem)) (hs : (P.info? elem).map (·.size) = some 1)
    {b o dLen dCap k : Nat} {s : ByteArray} {cs : List Value} (hd : a.eval d = .slice (some ⟨b, o, none⟩) dLen dCap) (hx : a.eval x = .string s) (hk : Nat.min s.size dLen = k) (hr : Row w b o cs) (hl : cs.length = k)
    (h : wpList P ops Q rest (a.put op.dst (goInt k)) (w.setCells b o (bs ((sb s).take k)))) : wpList P ops Q (op :: rest) a w := by
  refine wpList_plain hg fun K hK => ?_
  have hrun := run_copyS (P := P) w dT sT op.type elem b o dLen dCap k s cs hu hs hk hr hl
  unfold Oper.wp
  simp [execOp, ho, resolve, invoke, builtin, hd, hx, hrun, Result.andThen]
  exact hK _ _ h
end
end Go.Proofs.Ytknjmmbebkcnpaa
