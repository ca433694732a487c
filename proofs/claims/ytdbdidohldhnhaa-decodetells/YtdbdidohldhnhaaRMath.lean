/- Words with checks in plain numbers: a word's value, right words, that two right words differ in more places than there are checks, what a step of a division leaves. Pure arithmetic; the conditions are the numbers' bounds. -/
import Derived.Test.YtdbdidohldhnhaaPAlg
namespace Go.Proofs.Ytdbdidohldhnhaa
open Go.RowKit Gf
set_option linter.unusedVariables false

/-- The value at x of a word of n symbols, from the first one on. -/
def vh (x : Int) : Nat → (Nat → Int) → Int
  | 0, _ => 0
  | n + 1, f => xI (gI (vh x n f) x) (f n)
/-- A power. -/
def pk (b : Int) : Nat → Int
  | 0 => 1
  | k + 1 => gI (pk b k) b
/-- A power of the field's x. -/
def al (j : Nat) : Int := pk 2 j
/-- The word is right with r checks. -/
def Rt (n : Nat) (f : Nat → Int) (r : Nat) : Prop := ∀ j, j < r → vh (al j) n f = 0
/-- One row behind another. -/
def cat (n : Nat) (f g : Nat → Int) : Nat → Int := fun k => if k < n then f k else g (k - n)
/-- A sum of n numbers. -/
def sm : Nat → (Nat → Int) → Int
  | 0, _ => 0
  | n + 1, g => xI (sm n g) (g n)
/-- How many of the first n are not 0. -/
def cnt : Nat → (Nat → Int) → Nat
  | 0, _ => 0
  | n + 1, d => cnt n d + (if d n = 0 then 0 else 1)

theorem o16 : (0 : Int) ≤ 1 ∧ (1 : Int) ≤ 65535 := by decide
theorem pk16 {b : Int} (hb : 0 ≤ b ∧ b ≤ 65535) (k : Nat) : 0 ≤ pk b k ∧ pk b k ≤ 65535 := by
  induction k with
  | zero => exact o16
  | succ k ih => exact g16 ih
theorem pk_pI {b : Int} (hb : 0 ≤ b ∧ b ≤ 65535) (k : Nat) : pk b k = pI b (k : Int) := by
  have e : ∀ k : Nat, pI b (k : Int) = ((pw b.toNat k : Nat) : Int) := fun k => rfl
  rw [e]
  induction k with
  | zero => rfl
  | succ k ih =>
    show gI (pk b k) b = _
    rw [ih]
    unfold gI
    rw [show ((pw b.toNat k : Nat) : Int).toNat = pw b.toNat k from by omega]
    rfl
theorem al16 (j : Nat) : 0 ≤ al j ∧ al j ≤ 65535 := pk16 (by decide) j
theorem al_pI (j : Nat) : al j = pI 2 (j : Int) := pk_pI (by decide) j
theorem al_nat (j : Nat) : al j = ((pw 2 j : Nat) : Int) := al_pI j
theorem al_ne (j : Nat) : al j ≠ 0 := by
  rw [al_nat]
  have := pw2_ne j
  omega
theorem al_inj {i j : Nat} (hi : i < 65535) (hj : j < 65535) (h : al i = al j) : i = j := by
  rw [al_nat, al_nat] at h
  exact pw2_inj hi hj (by omega)
theorem al_pk (j m : Nat) : pk (al j) m = al (j * m) := by
  rw [pk_pI (al16 j), al_nat, al_nat, pw_mul (by decide)]
  rfl
theorem al_swap (j m : Nat) : pk (al j) m = pk (al m) j := by rw [al_pk, al_pk, Nat.mul_comm]
theorem al_zero : al 0 = 1 := rfl
theorem al_one : al 1 = 2 := by decide +kernel
theorem al_succ (j : Nat) : al (j + 1) = gI (al j) 2 := rfl
theorem al_mod (j : Nat) (h : j < 65535) : pI 2 ((j : Int) % 65535) = al j := by rw [al_pI, show (j : Int) % 65535 = (j : Int) from by omega]

theorem vh16 {x : Int} {f : Nat → Int} (hf : P16 f) (n : Nat) : 0 ≤ vh x n f ∧ vh x n f ≤ 65535 := by
  induction n with
  | zero => exact z16
  | succ n ih => exact x16 (g16 ih) (hf n)
theorem vh_congr (x : Int) {n : Nat} {f g : Nat → Int} (h : ∀ j, j < n → f j = g j) : vh x n f = vh x n g := by
  induction n with
  | zero => rfl
  | succ n ih =>
    show xI (gI (vh x n f) x) (f n) = xI (gI (vh x n g) x) (g n)
    rw [ih (fun j hj => h j (by omega)), h n (by omega)]
theorem vh_add {x : Int} (hx : 0 ≤ x ∧ x ≤ 65535) (n : Nat) {f g : Nat → Int} (hf : P16 f) (hg : P16 g) : vh x n (addp f g) = xI (vh x n f) (vh x n g) := by
  induction n with
  | zero => show (0 : Int) = xI 0 0; rw [f7]
  | succ n ih =>
    show xI (gI (vh x n (addp f g)) x) (xI (f n) (g n)) = xI (xI (gI (vh x n f) x) (f n)) (xI (gI (vh x n g) x) (g n))
    rw [ih, g5 (vh16 hf n) (vh16 hg n) hx, x4]
theorem vh_sc {x c : Int} (hx : 0 ≤ x ∧ x ≤ 65535) (hc : 0 ≤ c ∧ c ≤ 65535) (n : Nat) {f : Nat → Int} (hf : P16 f) : vh x n (sc c f) = gI (vh x n f) c := by
  induction n with
  | zero => show (0 : Int) = gI 0 c; rw [f12]
  | succ n ih =>
    show xI (gI (vh x n (sc c f)) x) (gI (f n) c) = gI (xI (gI (vh x n f) x) (f n)) c
    rw [ih, g5 (g16 (vh16 hf n)) (hf n) hc, g4 (vh16 hf n) hc, g2 hc hx, g4 (vh16 hf n) hx]
theorem vh_nul (x : Int) {n : Nat} {f : Nat → Int} (h : ∀ j, j < n → f j = 0) : vh x n f = 0 := by
  induction n with
  | zero => rfl
  | succ n ih =>
    show xI (gI (vh x n f) x) (f n) = 0
    rw [ih (fun j hj => h j (by omega)), h n (by omega), f12, f7]
/-- Noughts ahead do not matter. -/
theorem vh_ahead (x : Int) (t n : Nat) {f : Nat → Int} (h : ∀ j, j < t → f j = 0) : vh x (t + n) f = vh x n (fun i => f (t + i)) := by
  induction n with
  | zero => exact vh_nul x h
  | succ n ih =>
    show xI (gI (vh x (t + n) f) x) (f (t + n)) = xI (gI (vh x n (fun i => f (t + i))) x) (f (t + n))
    rw [ih]
/-- What is 0 ahead of noughts is 0. -/
theorem vh_behind (x : Int) (k t : Nat) {f : Nat → Int} (h : ∀ j, k ≤ j → j < k + t → f j = 0) (h0 : vh x k f = 0) : vh x (k + t) f = 0 := by
  induction t with
  | zero => exact h0
  | succ t ih =>
    show xI (gI (vh x (k + t) f) x) (f (k + t)) = 0
    rw [ih (fun j h1 h2 => h j h1 (by omega)), h (k + t) (by omega) (by omega), f12, f7]
/-- A row between noughts. -/
theorem vh_block (x : Int) {t k N : Nat} {f : Nat → Int} (hN : t + k ≤ N) (ha : ∀ j, j < t → f j = 0) (hb : ∀ j, t + k ≤ j → j < N → f j = 0) (h0 : vh x k (fun i => f (t + i)) = 0) : vh x N f = 0 := by
  obtain ⟨s, rfl⟩ : ∃ s, N = t + (k + s) := ⟨N - t - k, by omega⟩
  rw [vh_ahead x t (k + s) ha]
  exact vh_behind x k s (fun j h1 h2 => hb (t + j) (by omega) (by omega)) h0
theorem vh_tl (x : Int) (n : Nat) {f : Nat → Int} (h : f 0 = 0) : vh x (n + 1) f = vh x n (tl f) := by
  rw [Nat.add_comm, vh_ahead x 1 n (fun j hj => by rw [show j = 0 from by omega]; exact h)]
  exact vh_congr x (fun j _ => by show f (1 + j) = f (j + 1); rw [Nat.add_comm])
/-- A polynomial's value, its highest coefficient first. -/
theorem vh_atp (x : Int) (n : Nat) (p : Nat → Int) : vh x n (fun i => p (n - 1 - i)) = atp x n p := by
  induction n generalizing p with
  | zero => rfl
  | succ n ih =>
    show xI (gI (vh x n (fun i => p (n + 1 - 1 - i))) x) (p (n + 1 - 1 - n)) = xI (gI (atp x n (fun j => p (j + 1))) x) (p 0)
    rw [← ih (fun j => p (j + 1)), show n + 1 - 1 - n = 0 from by omega]
    congr 2
    exact vh_congr x (fun j hj => by show p (n + 1 - 1 - j) = p (n - 1 - j + 1); congr 1; omega)

theorem sm16 {g : Nat → Int} {n : Nat} (hg : ∀ j, j < n → 0 ≤ g j ∧ g j ≤ 65535) : 0 ≤ sm n g ∧ sm n g ≤ 65535 := by
  induction n with
  | zero => exact z16
  | succ n ih => exact x16 (ih fun j hj => hg j (by omega)) (hg n (by omega))
theorem sm_congr {n : Nat} {g h : Nat → Int} (e : ∀ j, j < n → g j = h j) : sm n g = sm n h := by
  induction n with
  | zero => rfl
  | succ n ih =>
    show xI (sm n g) (g n) = xI (sm n h) (h n)
    rw [ih (fun j hj => e j (by omega)), e n (by omega)]
theorem sm_add (n : Nat) (g h : Nat → Int) : sm n (fun i => xI (g i) (h i)) = xI (sm n g) (sm n h) := by
  induction n with
  | zero => show (0 : Int) = xI 0 0; rw [f7]
  | succ n ih =>
    show xI (sm n fun i => xI (g i) (h i)) (xI (g n) (h n)) = xI (xI (sm n g) (g n)) (xI (sm n h) (h n))
    rw [ih, x4]
theorem sm_mul (c : Int) (n : Nat) (g : Nat → Int) : sm n (fun i => gI c (g i)) = gI c (sm n g) := by
  induction n with
  | zero => show (0 : Int) = gI c 0; rw [f9]
  | succ n ih =>
    show xI (sm n fun i => gI c (g i)) (gI c (g n)) = gI c (xI (sm n g) (g n))
    rw [ih, f5]
theorem sm_one {n q : Nat} {g : Nat → Int} (hq : q < n) (hg : 0 ≤ g q ∧ g q ≤ 65535) (h : ∀ i, i < n → i ≠ q → g i = 0) : sm n g = g q := by
  induction n with
  | zero => omega
  | succ n ih =>
    show xI (sm n g) (g n) = g q
    by_cases e : q = n
    · subst e
      have h0 : ∀ m, m ≤ q → sm m g = 0 := by
        intro m
        induction m with
        | zero => intro _; rfl
        | succ m ihm =>
          intro hm
          show xI (sm m g) (g m) = 0
          rw [ihm (by omega), h m (by omega) (by omega), f7]
      rw [h0 q (Nat.le_refl _), x0 hg]
    · rw [ih (by omega) (fun i hi hne => h i (by omega) hne), h n (by omega) (fun h => e h.symm), f6 _ hg.1]
/-- A word's value is the sum of its symbols' products with powers. -/
theorem vh_sm {x : Int} (hx : 0 ≤ x ∧ x ≤ 65535) {f : Nat → Int} (hf : P16 f) (n : Nat) : vh x n f = sm n (fun i => gI (f i) (pk x (n - 1 - i))) := by
  induction n with
  | zero => rfl
  | succ n ih =>
    show xI (gI (vh x n f) x) (f n) = xI (sm n (fun i => gI (f i) (pk x (n + 1 - 1 - i)))) (gI (f n) (pk x (n + 1 - 1 - n)))
    rw [ih, show n + 1 - 1 - n = 0 from by omega]
    show _ = xI _ (gI (f n) 1)
    rw [f8 _ (hf n).1, g2 (sm16 fun j _ => g16 (hf j)) hx, ← sm_mul]
    congr 1
    refine sm_congr fun i hi => ?_
    show gI x (gI (f i) (pk x (n - 1 - i))) = gI (f i) (pk x (n + 1 - 1 - i))
    rw [g2 hx (g16 (hf i)), g4 (hf i) (pk16 hx _), show n + 1 - 1 - i = (n - 1 - i) + 1 from by omega]
    rfl
theorem vh_al {f : Nat → Int} (hf : P16 f) (n j : Nat) : vh (al j) n f = sm n (fun i => gI (f i) (pk (al (n - 1 - i)) j)) := by
  rw [vh_sm (al16 j) hf]
  exact sm_congr fun i _ => by rw [al_swap]
/-- One symbol alone. -/
theorem vh_single {d : Int} (hd : 0 ≤ d ∧ d ≤ 65535) {n k : Nat} (hk : k < n) (j : Nat) : vh (al j) n (fun i => if i = k then d else 0) = gI d (al (j * (n - 1 - k))) := by
  have h16 : P16 (fun i => if i = k then d else 0) := fun i => by
    show 0 ≤ (if i = k then d else 0) ∧ (if i = k then d else 0) ≤ 65535
    split
    · exact hd
    · exact z16
  rw [vh_sm (al16 j) h16, sm_one (q := k) hk (g16 (h16 k)) (fun i _ hne => by rw [if_neg hne, f12]), if_pos rfl, al_pk]

theorem cnt_zero {n : Nat} {d : Nat → Int} (h : cnt n d = 0) : ∀ i, i < n → d i = 0 := by
  induction n with
  | zero => intro i hi; omega
  | succ n ih =>
    intro i hi
    have h' : cnt n d + (if d n = 0 then 0 else 1) = 0 := h
    by_cases e : d n = 0
    · by_cases e2 : i = n
      · rw [e2]; exact e
      · exact ih (by omega) i (by omega)
    · rw [if_neg e] at h'; omega
theorem cnt_le {n : Nat} {d d' : Nat → Int} (h : ∀ i, i < n → d i = 0 → d' i = 0) : cnt n d' ≤ cnt n d := by
  induction n with
  | zero => exact Nat.le_refl _
  | succ n ih =>
    have h1 := ih fun i hi => h i (by omega)
    show cnt n d' + (if d' n = 0 then 0 else 1) ≤ cnt n d + (if d n = 0 then 0 else 1)
    by_cases e : d n = 0
    · rw [if_pos e, if_pos (h n (by omega) e)]; omega
    · rw [if_neg e]; split <;> omega
theorem cnt_lt {n q : Nat} {d d' : Nat → Int} (h : ∀ i, i < n → d i = 0 → d' i = 0) (hq : q < n) (h1 : d q ≠ 0) (h2 : d' q = 0) : cnt n d' < cnt n d := by
  induction n with
  | zero => omega
  | succ n ih =>
    show cnt n d' + (if d' n = 0 then 0 else 1) < cnt n d + (if d n = 0 then 0 else 1)
    by_cases e : q = n
    · subst e
      have := cnt_le (n := q) fun i hi => h i (by omega)
      rw [if_pos h2, if_neg h1]; omega
    · have h3 := ih (fun i hi => h i (by omega)) (by omega)
      by_cases e2 : d n = 0
      · rw [if_pos e2, if_pos (h n (by omega) e2)]; omega
      · rw [if_neg e2]; split <;> omega
theorem cnt_top (n : Nat) (d : Nat → Int) : cnt n d ≤ n := by
  induction n with
  | zero => exact Nat.le_refl _
  | succ n ih =>
    show cnt n d + (if d n = 0 then 0 else 1) ≤ n + 1
    split <;> omega
/-- Few terms with unlike powers whose first sums are 0 are all 0. -/
theorem sparse {n : Nat} {b : Nat → Int} (hb : P16 b) (hinj : ∀ i j, i < n → j < n → b i = b j → i = j) : ∀ (r : Nat) (d : Nat → Int), P16 d → cnt n d ≤ r → (∀ k, k < r → sm n (fun i => gI (d i) (pk (b i) k)) = 0) → ∀ i, i < n → d i = 0 := by
  intro r
  induction r with
  | zero => intro d _ hc _; exact cnt_zero (by omega)
  | succ r ih =>
    intro d hd hc hs i hi
    by_cases hq : d i = 0
    · exact hq
    exfalso
    have h16 : P16 (fun j => gI (d j) (xI (b j) (b i))) := fun j => g16 (hd j)
    have hz := ih (fun j => gI (d j) (xI (b j) (b i))) h16 (by
      have := cnt_lt (n := n) (q := i) (d := d) (d' := fun j => gI (d j) (xI (b j) (b i))) (fun j _ e => by show gI (d j) _ = 0; rw [e, f12]) hi hq (by show gI (d i) (xI (b i) (b i)) = 0; rw [f7, f9])
      omega) (fun k hk => by
      have e : sm n (fun j => gI (gI (d j) (xI (b j) (b i))) (pk (b j) k)) = sm n (fun j => xI (gI (d j) (pk (b j) (k + 1))) (gI (b i) (gI (d j) (pk (b j) k)))) := sm_congr fun j _ => by
        show gI (gI (d j) (xI (b j) (b i))) (pk (b j) k) = xI (gI (d j) (gI (pk (b j) k) (b j))) (gI (b i) (gI (d j) (pk (b j) k)))
        have hp := pk16 (hb j) k
        rw [g4 (hd j) (x16 (hb j) (hb i)), g5 (hb j) (hb i) hp, f5, g2 (hb j) hp, g2 (hb i) hp, g2 (hb i) (g16 (hd j)), g4 (hd j) hp]
      rw [e, sm_add n (fun j => gI (d j) (pk (b j) (k + 1))) (fun j => gI (b i) (gI (d j) (pk (b j) k))), sm_mul (b i) n (fun j => gI (d j) (pk (b j) k)), hs (k + 1) (by omega), hs k (by omega), f9, f7])
    have h0 := hs 0 (by omega)
    rw [sm_one (q := i) hi (g16 (hd i)) (fun j hj hne => by
      have h1 : gI (d j) (xI (b j) (b i)) = 0 := hz j hj
      by_cases h2 : d j = 0
      · rw [h2, f12]
      · exact (f11 _ _ (hd j) (x16 (hb j) (hb i)) h2 (fun h3 => hne (hinj j i hj hi (x_eq (hb j) (hb i) h3))) h1).elim)] at h0
    have h1 : gI (d i) 1 = 0 := h0
    rw [f8 _ (hd i).1] at h1
    exact hq h1
/-- A right word with no more symbols than checks is 0. -/
theorem apart {n r : Nat} {d : Nat → Int} (hn : n ≤ 65535) (hd : P16 d) (hr : Rt n d r) (hc : cnt n d ≤ r) : ∀ i, i < n → d i = 0 :=
  sparse (b := fun i => al (n - 1 - i)) (fun i => al16 _) (fun i j hi hj h => by
    have := al_inj (i := n - 1 - i) (j := n - 1 - j) (by omega) (by omega) h
    omega) r d hd hc (fun k hk => by
    have := hr k hk
    rw [vh_al hd] at this
    exact this)

theorem cat16 {n : Nat} {f g : Nat → Int} (hf : P16 f) (hg : P16 g) : P16 (cat n f g) := fun j => by
  unfold cat
  split
  · exact hf j
  · exact hg _
theorem Rt.add {n r : Nat} {f g : Nat → Int} (hf : P16 f) (hg : P16 g) (h : Rt n f r) (k : Rt n g r) : Rt n (addp f g) r := fun j hj => by
  rw [vh_add (al16 j) n hf hg, h j hj, k j hj, f7]
theorem Rt.sc {n r : Nat} {f : Nat → Int} {c : Int} (hf : P16 f) (hc : 0 ≤ c ∧ c ≤ 65535) (h : Rt n f r) : Rt n (sc c f) r := fun j hj => by
  rw [vh_sc (al16 j) hc n hf, h j hj, f12]
theorem Rt.congr {n r : Nat} {f g : Nat → Int} (h : Rt n f r) (e : ∀ j, j < n → f j = g j) : Rt n g r := fun j hj => by
  rw [← vh_congr (al j) e]; exact h j hj
theorem Rt.fewer {n r s : Nat} {f : Nat → Int} (h : Rt n f r) (hs : s ≤ r) : Rt n f s := fun j hj => h j (by omega)

/-- c are the r checks of the n data f. -/
structure Chk (n : Nat) (f : Nat → Int) (r : Nat) (c : Nat → Int) : Prop where
  bd : P16 c
  out : ∀ j, r ≤ j → c j = 0
  rt : Rt (n + r) (cat n f c) r
theorem cnt_ahead {t n : Nat} {d : Nat → Int} (h : ∀ j, j < t → d j = 0) : cnt (t + n) d ≤ n := by
  induction n with
  | zero =>
    have h0 : ∀ m, m ≤ t → cnt m d = 0 := by
      intro m
      induction m with
      | zero => intro _; rfl
      | succ m ihm =>
        intro hm
        show cnt m d + (if d m = 0 then 0 else 1) = 0
        rw [ihm (by omega), if_pos (h m (by omega))]
    rw [Nat.add_zero, h0 t (Nat.le_refl _)]
    exact Nat.le_refl _
  | succ n ih =>
    show cnt (t + n) d + (if d (t + n) = 0 then 0 else 1) ≤ n + 1
    split <;> omega
/-- There is just one row of checks. -/
theorem Chk.uniq {n r : Nat} {f c c' : Nat → Int} (hn : n + r ≤ 65535) (hf : P16 f) (h : Chk n f r c) (k : Chk n f r c') : c = c' := by
  have hz := apart (n := n + r) (r := r) (d := addp (cat n f c) (cat n f c')) hn (addp16 (cat16 hf h.bd) (cat16 hf k.bd)) (h.rt.add (cat16 hf h.bd) (cat16 hf k.bd) k.rt) (cnt_ahead fun j hj => by
    show xI (if j < n then f j else _) (if j < n then f j else _) = 0
    rw [if_pos hj, if_pos hj, f7])
  funext j
  by_cases hj : j < r
  · have h1 : xI (if n + j < n then f (n + j) else c (n + j - n)) (if n + j < n then f (n + j) else c' (n + j - n)) = 0 := hz (n + j) (by omega)
    rw [if_neg (by omega), if_neg (by omega), show n + j - n = j from by omega] at h1
    exact x_eq (h.bd j) (k.bd j) h1
  · rw [h.out j (by omega), k.out j (by omega)]

end Go.Proofs.Ytdbdidohldhnhaa
