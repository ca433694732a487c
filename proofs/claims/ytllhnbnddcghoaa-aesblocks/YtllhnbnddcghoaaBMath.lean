/- BLAKE2s in plain numbers: four numbers mixed, ten rounds over sixteen places, a block taken in, the digest of a row of bytes. No condition: pure arithmetic on Nat and lists. -/
namespace Go.Proofs.Ytllhnbnddcghoaa.Bk

def rr (p q x : Nat) : Nat := (x * p % 4294967296) ||| (x / q)
def ad (a b : Nat) : Nat := (a + b) % 4294967296

theorem ad_lt (a b : Nat) : ad a b < 4294967296 := Nat.mod_lt _ (by decide)
theorem rr_lt {p q x : Nat} (h : x < 4294967296) : rr p q x < 4294967296 :=
  Nat.or_lt_two_pow (n := 32) (Nat.mod_lt _ (by decide)) (Nat.lt_of_le_of_lt (Nat.div_le_self _ _) h)
theorem xr_lt {a b : Nat} (h : a < 4294967296) (k : b < 4294967296) : a ^^^ b < 4294967296 := Nat.xor_lt_two_pow (n := 32) h k

/-- Four numbers. -/
structure Qd where
  a : Nat
  b : Nat
  c : Nat
  d : Nat

def hf1 (a b c d x : Nat) : Qd :=
  let a1 := ad a (ad b x)
  let d1 := rr 65536 65536 (d ^^^ a1)
  let c1 := ad c d1
  let b1 := rr 1048576 4096 (b ^^^ c1)
  ⟨a1, b1, c1, d1⟩
def hf2 (a b c d x : Nat) : Qd :=
  let a1 := ad a (ad b x)
  let d1 := rr 16777216 256 (d ^^^ a1)
  let c1 := ad c d1
  let b1 := rr 33554432 128 (b ^^^ c1)
  ⟨a1, b1, c1, d1⟩
def mixN (a b c d x y : Nat) : Qd := hf2 (hf1 a b c d x).a (hf1 a b c d x).b (hf1 a b c d x).c (hf1 a b c d x).d y

structure Qd.Lt (q : Qd) : Prop where
  a : q.a < 4294967296
  b : q.b < 4294967296
  c : q.c < 4294967296
  d : q.d < 4294967296
theorem hf1_lt {a b c d x : Nat} (hb : b < 4294967296) (hd : d < 4294967296) : (hf1 a b c d x).Lt :=
  ⟨ad_lt _ _, rr_lt (xr_lt hb (ad_lt _ _)), ad_lt _ _, rr_lt (xr_lt hd (ad_lt _ _))⟩
theorem hf2_lt {a b c d x : Nat} (hb : b < 4294967296) (hd : d < 4294967296) : (hf2 a b c d x).Lt :=
  ⟨ad_lt _ _, rr_lt (xr_lt hb (ad_lt _ _)), ad_lt _ _, rr_lt (xr_lt hd (ad_lt _ _))⟩
theorem mixN_lt {a b c d x y : Nat} (hb : b < 4294967296) (hd : d < 4294967296) : (mixN a b c d x y).Lt :=
  hf2_lt (hf1_lt hb hd).b (hf1_lt hb hd).d

/-- What stands at a place of a row. -/
theorem getD_out {α : Type} (l : List α) (x : α) (j : Nat) (h : l.length ≤ j) : l.getD j x = x := by simp [List.getD_eq_getElem?_getD, List.getElem?_eq_none h]
def at' (l : List Nat) (j : Nat) : Nat := l.getD j 0
def Lt (l : List Nat) : Prop := ∀ j, at' l j < 4294967296
theorem at_set (l : List Nat) (i j x : Nat) (h : i < l.length) : at' (l.set i x) j = if j = i then x else at' l j := by
  unfold at'
  simp only [List.getD_eq_getElem?_getD, List.getElem?_set]
  by_cases e : i = j
  · subst e; simp [h]
  · rw [if_neg e, if_neg (fun k => e k.symm)]
theorem Lt.set {l : List Nat} (h : Lt l) (i x : Nat) (hx : x < 4294967296) : Lt (l.set i x) := by
  intro j
  by_cases hi : i < l.length
  · rw [at_set _ _ _ _ hi]; split
    · exact hx
    · exact h j
  · rw [List.set_eq_of_length_le (by omega)]; exact h j

def mx (v : List Nat) (a b c d x y : Nat) : List Nat :=
  let q := mixN (at' v a) (at' v b) (at' v c) (at' v d) x y
  (((v.set a q.a).set b q.b).set c q.c).set d q.d
theorem mx_lt {v : List Nat} (h : Lt v) (a b c d x y : Nat) : Lt (mx v a b c d x y) :=
  let q := mixN_lt (a := at' v a) (c := at' v c) (x := x) (y := y) (h b) (h d)
  (((h.set a _ q.a).set b _ q.b).set c _ q.c).set d _ q.d
theorem mx_length (v : List Nat) (a b c d x y : Nat) : (mx v a b c d x y).length = v.length := by simp [mx]

def rows : List Nat := [
  0, 1, 2, 3, 4, 5, 6, 7, 8, 9, 10, 11, 12, 13, 14, 15,
  14, 10, 4, 8, 9, 15, 13, 6, 1, 12, 0, 2, 11, 7, 5, 3,
  11, 8, 12, 0, 5, 2, 15, 13, 10, 14, 3, 6, 7, 1, 9, 4,
  7, 9, 3, 1, 13, 12, 11, 14, 2, 6, 5, 10, 4, 0, 15, 8,
  9, 0, 5, 7, 2, 4, 10, 15, 14, 1, 11, 12, 6, 8, 3, 13,
  2, 12, 6, 10, 0, 11, 8, 3, 4, 13, 7, 5, 15, 14, 1, 9,
  12, 5, 1, 15, 14, 13, 4, 10, 0, 7, 6, 3, 9, 2, 8, 11,
  13, 11, 7, 14, 12, 1, 3, 9, 5, 0, 15, 4, 8, 6, 2, 10,
  6, 15, 14, 9, 11, 3, 0, 8, 12, 2, 13, 7, 1, 4, 10, 5,
  10, 2, 8, 4, 7, 6, 1, 5, 15, 11, 9, 14, 3, 12, 13, 0]
def fours : List Nat := [0, 4, 8, 12, 1, 5, 9, 13, 2, 6, 10, 14, 3, 7, 11, 15, 0, 5, 10, 15, 1, 6, 11, 12, 2, 7, 8, 13, 3, 4, 9, 14]

theorem all_of {p : Nat → Bool} (n : Nat) (h : (List.range n).all p = true) (j : Nat) (hj : j < n) : p j = true := by
  rw [List.all_eq_true] at h
  exact h j (List.mem_range.2 hj)
theorem rows_lt {j : Nat} (h : j < 160) : at' rows j < 16 := by
  simpa using all_of (p := fun j => decide (at' rows j < 16)) 160 (by decide +kernel) j h
theorem fours_lt {j : Nat} (h : j < 32) : at' fours j < 16 := by
  simpa using all_of (p := fun j => decide (at' fours j < 16)) 32 (by decide +kernel) j h

/-- One of the eight steps of a round. -/
def stp (m : List Nat) (r : Nat) (v : List Nat) (i : Nat) : List Nat :=
  mx v (at' fours (4 * i)) (at' fours (4 * i + 1)) (at' fours (4 * i + 2)) (at' fours (4 * i + 3)) (at' m (at' rows (16 * r + 2 * i))) (at' m (at' rows (16 * r + (2 * i + 1))))
def rnd (m : List Nat) (r : Nat) (v : List Nat) : Nat → List Nat
  | 0 => v
  | i + 1 => stp m r (rnd m r v i) i
def rds (m v : List Nat) : Nat → List Nat
  | 0 => v
  | r + 1 => rnd m r (rds m v r) 8

theorem stp_lt {m v : List Nat} (h : Lt v) (r i : Nat) : Lt (stp m r v i) := mx_lt h _ _ _ _ _ _
theorem stp_length (m v : List Nat) (r i : Nat) : (stp m r v i).length = v.length := mx_length _ _ _ _ _ _ _
theorem rnd_lt {m v : List Nat} (h : Lt v) (r i : Nat) : Lt (rnd m r v i) := by
  induction i with
  | zero => exact h
  | succ i ih => exact stp_lt ih _ _
theorem rnd_length (m v : List Nat) (r i : Nat) : (rnd m r v i).length = v.length := by
  induction i with
  | zero => rfl
  | succ i ih => rw [← ih]; exact stp_length _ _ _ _
theorem rds_lt {m v : List Nat} (h : Lt v) (r : Nat) : Lt (rds m v r) := by
  induction r with
  | zero => exact h
  | succ i ih => exact rnd_lt ih _ _
theorem rds_length (m v : List Nat) (r : Nat) : (rds m v r).length = v.length := by
  induction r with
  | zero => rfl
  | succ i ih => rw [← ih]; exact rnd_length _ _ _ _

def iv : List Nat := [1779033703, 3144134277, 1013904242, 2773480762, 1359893119, 2600822924, 528734635, 1541459225]

/-- A row of n places, told place by place. -/
def tab (n : Nat) (f : Nat → Nat) : List Nat := (List.range n).map f
theorem tab_length (n : Nat) (f : Nat → Nat) : (tab n f).length = n := by simp [tab]
theorem tab_at (n : Nat) (f : Nat → Nat) (j : Nat) (h : j < n) : at' (tab n f) j = f j := by simp [tab, at', h]
theorem tab_out (n : Nat) (f : Nat → Nat) (j : Nat) (h : n ≤ j) : at' (tab n f) j = 0 := by
  unfold at'; rw [getD_out _ _ _ (by rw [tab_length]; exact h)]
theorem tab_lt {n : Nat} {f : Nat → Nat} (h : ∀ j, j < n → f j < 4294967296) : Lt (tab n f) := by
  intro j
  by_cases hj : j < n
  · rw [tab_at _ _ _ hj]; exact h j hj
  · rw [tab_out _ _ _ (by omega)]; decide
theorem tab_ext {n : Nat} {f g : Nat → Nat} (h : ∀ j, j < n → f j = g j) : tab n f = tab n g := by
  unfold tab
  apply List.map_congr_left
  intro j hj
  exact h j (List.mem_range.1 hj)
theorem at_ext {l k : List Nat} (hl : l.length = k.length) (h : ∀ j, j < l.length → at' l j = at' k j) : l = k := by
  apply List.ext_getElem hl
  intro i h1 h2
  have := h i h1
  simpa [at', h1, h2] using this
theorem at_tab (l : List Nat) : tab l.length (at' l) = l := by
  apply at_ext (tab_length _ _)
  intro j hj
  rw [tab_length] at hj
  exact tab_at _ _ _ hj
theorem at_out {l : List Nat} {j : Nat} (h : l.length ≤ j) : at' l j = 0 := by
  unfold at'; rw [getD_out _ _ _ h]

/-- The sixteen numbers ahead of the rounds: h, the first numbers, how many bytes are gone through, whether it is the last block. -/
def ini (h : List Nat) (t : Nat) (last : Bool) : List Nat :=
  tab 16 fun j => if j < 8 then at' h j else if j = 12 then at' iv 4 ^^^ (t % 4294967296) else if j = 13 then at' iv 5 ^^^ (t / 4294967296 % 4294967296) else if j = 14 then (if last then 4294967295 - at' iv 6 else at' iv 6) else at' iv (j - 8)
theorem iv_lt : Lt iv := by
  intro j
  by_cases h : j < 8
  · simpa using all_of (p := fun j => decide (at' iv j < 4294967296)) 8 (by decide +kernel) j h
  · rw [at_out (by simpa [iv] using h)]; decide
theorem ini_lt {h : List Nat} (hh : Lt h) (t : Nat) (last : Bool) : Lt (ini h t last) := by
  apply tab_lt
  intro j _
  split
  · exact hh j
  · split
    · exact xr_lt (iv_lt _) (Nat.mod_lt _ (by decide))
    · split
      · exact xr_lt (iv_lt _) (Nat.mod_lt _ (by decide))
      · split
        · split
          · exact Nat.lt_of_le_of_lt (Nat.sub_le _ _) (by decide)
          · exact iv_lt _
        · exact iv_lt _
theorem ini_length (h : List Nat) (t : Nat) (last : Bool) : (ini h t last).length = 16 := tab_length _ _

/-- A block taken in. -/
def cmp (h : List Nat) (t : Nat) (m : List Nat) (last : Bool) : List Nat :=
  tab 8 fun j => at' h j ^^^ (at' (rds m (ini h t last) 10) j ^^^ at' (rds m (ini h t last) 10) (j + 8))
theorem cmp_length (h : List Nat) (t : Nat) (m : List Nat) (last : Bool) : (cmp h t m last).length = 8 := tab_length _ _
theorem cmp_lt {h : List Nat} (hh : Lt h) (t : Nat) (m : List Nat) (last : Bool) : Lt (cmp h t m last) :=
  tab_lt fun j _ => xr_lt (hh j) (xr_lt (rds_lt (ini_lt hh _ _) _ _) (rds_lt (ini_lt hh _ _) _ _))

/-- A byte of a row of bytes, 0 beyond its end; a number of four of them. -/
def by' (l : List UInt8) (j : Nat) : Nat := (l.getD j 0).toNat
theorem by_lt (l : List UInt8) (j : Nat) : by' l j < 256 := UInt8.toNat_lt _
def num (l : List UInt8) (i : Nat) : Nat := by' l (4 * i) + 256 * by' l (4 * i + 1) + 65536 * by' l (4 * i + 2) + 16777216 * by' l (4 * i + 3)
theorem num_lt (l : List UInt8) (i : Nat) : num l i < 4294967296 := by
  have h0 := by_lt l (4 * i)
  have h1 := by_lt l (4 * i + 1)
  have h2 := by_lt l (4 * i + 2)
  have h3 := by_lt l (4 * i + 3)
  unfold num; omega
def nums (l : List UInt8) : List Nat := tab 16 (num l)
theorem nums_lt (l : List UInt8) : Lt (nums l) := tab_lt fun j _ => num_lt l j
theorem nums_length (l : List UInt8) : (nums l).length = 16 := tab_length _ _
theorem by_drop (l : List UInt8) (k j : Nat) : by' (l.drop k) j = by' l (k + j) := by
  simp [by', List.getD_eq_getElem?_getD, List.getElem?_drop]
theorem by_app (l x : List UInt8) (j : Nat) (h : j < l.length) : by' (l ++ x) j = by' l j := by
  simp [by', List.getD_eq_getElem?_getD, List.getElem?_append_left h]
theorem by_app2 (l x : List UInt8) (j : Nat) (h : l.length ≤ j) : by' (l ++ x) j = by' x (j - l.length) := by
  simp [by', List.getD_eq_getElem?_getD, List.getElem?_append_right h]
theorem by_out (l : List UInt8) (j : Nat) (h : l.length ≤ j) : by' l j = 0 := by
  unfold by'; rw [getD_out _ _ _ h]; rfl
theorem nums_ext {l k : List UInt8} (h : ∀ j, j < 64 → by' l j = by' k j) : nums l = nums k := by
  apply tab_ext
  intro j hj
  unfold num
  rw [h _ (by omega), h _ (by omega), h _ (by omega), h _ (by omega)]

/-- The numbers behind the first q blocks of l, none of which is the last. -/
def st (h0 : List Nat) (l : List UInt8) : Nat → List Nat
  | 0 => h0
  | q + 1 => cmp (st h0 l q) (64 * (q + 1)) (nums (l.drop (64 * q))) false
theorem st_length {h0 : List Nat} (hh : h0.length = 8) (l : List UInt8) (q : Nat) : (st h0 l q).length = 8 := by
  cases q with
  | zero => exact hh
  | succ q => exact cmp_length _ _ _ _
theorem st_lt {h0 : List Nat} (hh : Lt h0) (l : List UInt8) (q : Nat) : Lt (st h0 l q) := by
  induction q with
  | zero => exact hh
  | succ q ih => exact cmp_lt ih _ _ _
theorem st_app (h0 : List Nat) (l x : List UInt8) (q : Nat) (h : 64 * q ≤ l.length) : st h0 (l ++ x) q = st h0 l q := by
  induction q with
  | zero => rfl
  | succ q ih =>
    show cmp _ _ _ _ = cmp _ _ _ _
    rw [ih (by omega), nums_ext (l := (l ++ x).drop (64 * q)) (k := l.drop (64 * q))]
    intro j hj
    rw [by_drop, by_drop, by_app _ _ _ (by omega)]

/-- How many blocks of n bytes are not the last. -/
def qn (n : Nat) : Nat := (n - 1) / 64
theorem qn_of {n q : Nat} (h1 : n ≤ 64 * q + 64) (h2 : q = 0 ∨ 64 * q < n) : q = qn n := by unfold qn; omega
theorem qn_le (n : Nat) : 64 * qn n ≤ n ∧ n ≤ 64 * qn n + 64 := by unfold qn; omega

/-- The numbers behind all of l; the digest. -/
def fin (h0 : List Nat) (l : List UInt8) : List Nat := cmp (st h0 l (qn l.length)) l.length (nums (l.drop (64 * qn l.length))) true
def dig (h : List Nat) : Nat → List UInt8
  | 0 => []
  | i + 1 => dig h i ++ [UInt8.ofNat (at' h i % 256), UInt8.ofNat (at' h i / 256 % 256), UInt8.ofNat (at' h i / 65536 % 256), UInt8.ofNat (at' h i / 16777216 % 256)]
theorem dig_length (h : List Nat) (i : Nat) : (dig h i).length = 4 * i := by
  induction i with
  | zero => rfl
  | succ i ih => show (dig h i ++ _).length = _; rw [List.length_append, ih]; simp; omega
def h0 (k : Nat) : List Nat := iv.set 0 (1779033703 ^^^ (16842784 ^^^ (k * 256)))
theorem h0_length (k : Nat) : (h0 k).length = 8 := by simp [h0, iv]
theorem h0_lt (k : Nat) (hk : k ≤ 32) : Lt (h0 k) := iv_lt.set _ _ (xr_lt (by decide) (xr_lt (by decide) (by omega)))
def sum (k : Nat) (l : List UInt8) : List UInt8 := dig (fin (h0 k) l) 8
theorem sum_length (k : Nat) (l : List UInt8) : (sum k l).length = 32 := dig_length _ _

end Go.Proofs.Ytllhnbnddcghoaa.Bk
