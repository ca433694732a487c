/- Words made right, in plain numbers: the word that is near enough is the only one; the sums' polynomial, multiplied by the product of all places' roots, is short; what two polynomials that go down beside one another come to. Pure arithmetic; the conditions are the numbers' bounds. -/
import Derived.Test.YtdbdidohldhnhaaRoots
namespace Go.Proofs.Ytdbdidohldhnhaa
open Go.RowKit Gf
set_option linter.unusedVariables false

/-- Is the place among the first m that are gone? -/
def gon (gl : Nat → Int) (m : Nat) (i : Nat) : Bool := (List.range m).any fun k => gl k == (i : Int)
theorem gon_iff {gl : Nat → Int} {m i : Nat} : gon gl m i = true ↔ ∃ k, k < m ∧ gl k = (i : Int) := by
  unfold gon
  rw [List.any_eq_true]
  constructor
  · rintro ⟨k, hk, h⟩
    exact ⟨k, List.mem_range.1 hk, by simpa using h⟩
  · rintro ⟨k, hk, h⟩
    exact ⟨k, List.mem_range.2 hk, by simpa using h⟩
theorem gon_succ (gl : Nat → Int) (m i : Nat) : gon gl (m + 1) i = (gon gl m i || gl m == (i : Int)) := by
  unfold gon
  rw [List.range_succ, List.any_append]
  simp
theorem gon_zero (gl : Nat → Int) (i : Nat) : gon gl 0 i = false := rfl
/-- The places that are gone may be: each one of the word's, none twice. -/
def Gn (gl : Nat → Int) (m n : Nat) : Prop := (∀ k, k < m → 0 ≤ gl k ∧ gl k < (n : Int)) ∧ ∀ i j, i < m → j < m → gl i = gl j → i = j
/-- What is wrong, beside what is gone. -/
def off (gl : Nat → Int) (m : Nat) (f c : Nat → Int) : Nat → Int := fun i => if gon gl m i = true then 0 else xI (f i) (c i)
/-- A right word that is near enough. -/
structure Near (n : Nat) (f : Nat → Int) (r m : Nat) (gl : Nat → Int) (c : Nat → Int) : Prop where
  bd : P16 c
  out : ∀ j, n ≤ j → c j = 0
  rt : Rt n c r
  few : 2 * cnt n (off gl m f c) + m ≤ r

/-- How many places are told. -/
def cb : Nat → (Nat → Bool) → Nat
  | 0, _ => 0
  | n + 1, p => cb n p + (if p n = true then 1 else 0)
theorem cb_or (n : Nat) (p q : Nat → Bool) : cb n (fun i => p i || q i) ≤ cb n p + cb n q := by
  induction n with
  | zero => exact Nat.le_refl _
  | succ n ih =>
    show cb n _ + (if (p n || q n) = true then 1 else 0) ≤ cb n p + (if p n = true then 1 else 0) + (cb n q + (if q n = true then 1 else 0))
    cases hp : p n <;> cases hq : q n <;> simp <;> omega
theorem cb_one (n : Nat) (x : Int) : cb n (fun i => x == (i : Int)) ≤ 1 ∧ (x < 0 ∨ (n : Int) ≤ x → cb n (fun i => x == (i : Int)) = 0) := by
  induction n with
  | zero => exact ⟨Nat.zero_le _, fun _ => rfl⟩
  | succ n ih =>
    have e : cb (n + 1) (fun i => x == (i : Int)) = cb n (fun i => x == (i : Int)) + (if (x == (n : Int)) = true then 1 else 0) := rfl
    rw [e]
    by_cases h : x = (n : Int)
    · rw [ih.2 (.inr (by omega)), if_pos (by simp [h])]
      exact ⟨Nat.le_refl _, fun h2 => by omega⟩
    · rw [if_neg (by simp [h])]
      exact ⟨ih.1, fun h2 => ih.2 (by omega)⟩
theorem cb_gon (gl : Nat → Int) (m n : Nat) : cb n (gon gl m) ≤ m := by
  induction m with
  | zero =>
    have : ∀ n, cb n (gon gl 0) = 0 := by
      intro n
      induction n with
      | zero => rfl
      | succ n ih => show cb n _ + (if gon gl 0 n = true then 1 else 0) = 0; rw [ih, gon_zero]; rfl
    rw [this]
    exact Nat.le_refl _
  | succ m ih =>
    have e : gon gl (m + 1) = fun i => gon gl m i || gl m == (i : Int) := funext fun i => gon_succ gl m i
    rw [e]
    have h1 := cb_or n (gon gl m) (fun i => gl m == (i : Int))
    have h2 := (cb_one n (gl m)).1
    omega
theorem cnt_three {n : Nat} {d a b : Nat → Int} {p : Nat → Bool} (h : ∀ i, i < n → p i = false → a i = 0 → b i = 0 → d i = 0) : cnt n d ≤ cnt n a + cnt n b + cb n p := by
  induction n with
  | zero => exact Nat.le_refl _
  | succ n ih =>
    have h1 := ih fun i hi => h i (by omega)
    have h2 := h n (by omega)
    show cnt n d + (if d n = 0 then 0 else 1) ≤ cnt n a + (if a n = 0 then 0 else 1) + (cnt n b + (if b n = 0 then 0 else 1)) + (cb n p + (if p n = true then 1 else 0))
    by_cases hd : d n = 0
    · rw [if_pos hd]; omega
    · rw [if_neg hd]
      by_cases ha : a n = 0
      · by_cases hb : b n = 0
        · cases hp : p n with
          | false => exact (hd (h2 hp ha hb)).elim
          | true => rw [if_pos rfl]; omega
        · rw [if_neg hb]; omega
      · rw [if_neg ha]; omega
theorem off16 {gl : Nat → Int} {m : Nat} {f c : Nat → Int} (hf : P16 f) (hc : P16 c) : P16 (off gl m f c) := fun i => by
  unfold off
  split
  · exact z16
  · exact x16 (hf i) (hc i)
/-- There is one at most. -/
theorem Near.uniq {n r m : Nat} {f gl c c' : Nat → Int} (hn : n ≤ 65535) (hf : P16 f) (h : Near n f r m gl c) (k : Near n f r m gl c') : c = c' := by
  have hc := cnt_three (n := n) (d := addp c c') (a := off gl m f c) (b := off gl m f c') (p := gon gl m) (fun i hi hp ha hb => by
    unfold off at ha hb
    rw [hp, if_neg (by decide)] at ha hb
    have e1 := x_eq (hf i) (h.bd i) ha
    have e2 := x_eq (hf i) (k.bd i) hb
    show xI (c i) (c' i) = 0
    rw [← e1, ← e2, f7])
  have hg := cb_gon gl m n
  have hz := apart (n := n) (r := r) (d := addp c c') hn (addp16 h.bd k.bd) (h.rt.add h.bd k.bd k.rt) (by
    have := h.few
    have := k.few
    omega)
  funext j
  by_cases hj : j < n
  · exact x_eq (h.bd j) (k.bd j) (hz j hj)
  · rw [h.out j (by omega), k.out j (by omega)]
/-- What stands at the places that are gone does not matter. -/
theorem Near.gone {n r m : Nat} {f f' gl c : Nat → Int} (h : Near n f r m gl c) (e : ∀ i, i < n → gon gl m i = false → f i = f' i) : Near n f' r m gl c := by
  refine ⟨h.bd, h.out, h.rt, Nat.le_trans (Nat.add_le_add_right (Nat.mul_le_mul_left 2 (cnt_le fun i hi h0 => ?_)) m) h.few⟩
  unfold off at h0 ⊢
  cases hg : gon gl m i with
  | true => rw [if_pos rfl]
  | false =>
    rw [hg, if_neg (by decide)] at h0
    rw [if_neg (by decide), ← e i hi hg]
    exact h0
/-- A word and a right word, put together. -/
theorem Near.sum {n r m : Nat} {f gl c d : Nat → Int} (hd : P16 d) (ho : ∀ j, n ≤ j → d j = 0) (hR : Rt n d r) (h : Near n f r m gl c) : Near n (addp f d) r m gl (addp c d) := by
  refine ⟨addp16 h.bd hd, fun j hj => by show xI (c j) (d j) = 0; rw [h.out j hj, ho j hj, f7], h.rt.add h.bd hd hR, Nat.le_trans (Nat.add_le_add_right (Nat.mul_le_mul_left 2 (cnt_le fun i hi h0 => ?_)) m) h.few⟩
  unfold off at h0 ⊢
  split
  · rfl
  · rename_i hg
    rw [if_neg hg] at h0
    show xI (xI (f i) (d i)) (xI (c i) (d i)) = 0
    rw [x4, h0, f7, f7]

/- Power series: products of low coefficients. -/
theorem mulp_low {q f g : Nat → Int} (hq : P16 q) (hf : P16 f) (hg : P16 g) {r : Nat} (h : ∀ k, k < r → f k = g k) : ∀ k, k < r → mulp q f k = mulp q g k := by
  intro k
  induction k generalizing q with
  | zero => intro hk; rw [mul_at0 hq hf, mul_at0 hq hg, h 0 hk]
  | succ k ih => intro hk; rw [mul_at1 hq hf, mul_at1 hq hg, h (k + 1) hk, ih (tl16 hq) (by omega)]
theorem mulp_one {f : Nat → Int} (hf : P16 f) : mulp f (cst 1) = f := by
  rw [mulp_cst hf o16]
  exact funext fun k => f8 _ (hf k).1
theorem one_mulp {f : Nat → Int} (hf : P16 f) : mulp (cst 1) f = f := by
  rw [mulp_comm (cst16 o16) hf, mulp_one hf]
theorem nul_r {f : Nat → Int} : mulp f nul = nul := mulp_zero_r f (fun _ _ => rfl)

/-- The product of z + x for each x of a list. -/
def Qr : List Int → Nat → Int
  | [] => cst 1
  | x :: xs => addp (sh (Qr xs)) (sc x (Qr xs))
theorem Qr16 (xs : List Int) : P16 (Qr xs) := by
  induction xs with
  | nil => exact cst16 o16
  | cons x xs ih => exact addp16 (sh16 ih) (sc16 ih x)
theorem Qr_out (xs : List Int) : ∀ k, xs.length + 1 ≤ k → Qr xs k = 0 := by
  induction xs with
  | nil => intro k hk; show (if k = 0 then (1 : Int) else 0) = 0; rw [if_neg (by simp at hk; omega)]
  | cons x xs ih =>
    intro k hk
    simp at hk
    show xI (if k = 0 then 0 else Qr xs (k - 1)) (gI (Qr xs k) x) = 0
    rw [if_neg (by omega), ih (k - 1) (by omega), ih k (by omega), f12, f7]
theorem ofp_Qr (r : Nat → Int) (t : Nat) : ofp r t = Qr ((down t).map r) := by
  induction t with
  | zero => rfl
  | succ t ih =>
    show ofp r (t + 1) = addp (sh (Qr ((down t).map r))) (sc (r t) (Qr ((down t).map r)))
    rw [← ih]
    rfl
theorem Qr_app (xs ys : List Int) (hx : ∀ x ∈ xs, 0 ≤ x ∧ x ≤ 65535) : Qr (xs ++ ys) = mulp (Qr xs) (Qr ys) := by
  induction xs with
  | nil => exact (one_mulp (Qr16 ys)).symm
  | cons x xs ih =>
    have hx0 := hx x (by simp)
    show addp (sh (Qr (xs ++ ys))) (sc x (Qr (xs ++ ys))) = mulp (addp (sh (Qr xs)) (sc x (Qr xs))) (Qr ys)
    rw [ih (fun y hy => hx y (by simp [hy])), mulp_addl (sh16 (Qr16 xs)) (sc16 (Qr16 xs) x) (Qr16 ys), mulp_shl (Qr16 xs) (Qr16 ys), mulp_scl (Qr16 xs) (Qr16 ys) hx0]

/-- Terms y / (z + x) as power series: of each pair x, y (x times X is 1). -/
def geo (X : Int) : Nat → Int := fun k => pk X k
theorem geo16 {X : Int} (hX : 0 ≤ X ∧ X ≤ 65535) : P16 (geo X) := fun k => pk16 hX k
theorem geo_lin {x X : Int} (hx : 0 ≤ x ∧ x ≤ 65535) (hX : 0 ≤ X ∧ X ≤ 65535) (h : gI x X = 1) : addp (sh (geo X)) (sc x (geo X)) = cst x := funext fun k => by
  show xI (if k = 0 then 0 else pk X (k - 1)) (gI (pk X k) x) = if k = 0 then x else 0
  cases k with
  | zero =>
    rw [if_pos rfl, if_pos rfl]
    show xI 0 (gI 1 x) = x
    rw [g2 o16 hx, f8 _ hx.1, x0 hx]
  | succ k =>
    rw [if_neg (by omega), if_neg (by omega), show k + 1 - 1 = k from by omega]
    show xI (pk X k) (gI (gI (pk X k) X) x) = 0
    rw [g4 (pk16 hX k) hX, g2 hX hx, h, f8 _ (pk16 hX k).1, f7]

/-- A place's three numbers: the root, the number by whose powers its symbol comes into the sums, what is wrong there. -/
structure Pl where
  x : Int
  X : Int
  y : Int
def Pl.ok (p : Pl) : Prop := (0 ≤ p.x ∧ p.x ≤ 65535) ∧ (0 ≤ p.X ∧ p.X ≤ 65535) ∧ (0 ≤ p.y ∧ p.y ≤ 65535) ∧ gI p.x p.X = 1
/-- The sums of such places. -/
def Sr : List Pl → Nat → Int
  | [] => nul
  | p :: ps => addp (sc p.y (geo p.X)) (Sr ps)
/-- What the sums come to, multiplied by all roots. -/
def Om : List Pl → Nat → Int
  | [] => nul
  | p :: ps => addp (addp (sh (Om ps)) (sc p.x (Om ps))) (sc (gI p.y p.x) (Qr (ps.map Pl.x)))
theorem Sr16 (ps : List Pl) (h : ∀ p ∈ ps, p.ok) : P16 (Sr ps) := by
  induction ps with
  | nil => exact nul16
  | cons p ps ih => exact addp16 (sc16 (geo16 (h p (by simp)).2.1) _) (ih fun q hq => h q (by simp [hq]))
theorem Om16 (ps : List Pl) (h : ∀ p ∈ ps, p.ok) : P16 (Om ps) := by
  induction ps with
  | nil => exact nul16
  | cons p ps ih =>
    have hi := ih fun q hq => h q (by simp [hq])
    exact addp16 (addp16 (sh16 hi) (sc16 hi _)) (sc16 (Qr16 _) _)
theorem Om_out (ps : List Pl) : ∀ k, ps.length ≤ k → Om ps k = 0 := by
  induction ps with
  | nil => intro k _; rfl
  | cons p ps ih =>
    intro k hk
    simp at hk
    show xI (xI (if k = 0 then 0 else Om ps (k - 1)) (gI (Om ps k) p.x)) (gI (Qr (ps.map Pl.x) k) (gI p.y p.x)) = 0
    rw [if_neg (by omega), ih (k - 1) (by omega), ih k (by omega), Qr_out _ k (by simp; omega), f12, f12, f7, f7]
theorem mulp_lin_l {f g : Nat → Int} {x : Int} (hf : P16 f) (hg : P16 g) (hx : 0 ≤ x ∧ x ≤ 65535) : addp (sh (mulp f g)) (sc x (mulp f g)) = mulp (addp (sh f) (sc x f)) g := by
  rw [mulp_addl (sh16 hf) (sc16 hf x) hg, mulp_shl hf hg, mulp_scl hf hg hx]
theorem mulp_lin_r {f g : Nat → Int} {x : Int} (hf : P16 f) (hg : P16 g) (hx : 0 ≤ x ∧ x ≤ 65535) : mulp f (addp (sh g) (sc x g)) = addp (sh (mulp f g)) (sc x (mulp f g)) := by
  rw [mulp_addr hf (sh16 hg) (sc16 hg x), mulp_shr' hf hg, mulp_scr hf hg hx]
/-- The key: exactly so. -/
theorem key (ps : List Pl) (h : ∀ p ∈ ps, p.ok) : mulp (Sr ps) (Qr (ps.map Pl.x)) = Om ps := by
  induction ps with
  | nil => exact mulp_nul (Qr16 _)
  | cons p ps ih =>
    have hp := h p (by simp)
    have hi := ih fun q hq => h q (by simp [hq])
    have hS := Sr16 ps fun q hq => h q (by simp [hq])
    have hQ := Qr16 (ps.map Pl.x)
    have hG := geo16 hp.2.1
    have hyx : 0 ≤ gI p.y p.x ∧ gI p.y p.x ≤ 65535 := g16 hp.2.2.1
    show mulp (addp (sc p.y (geo p.X)) (Sr ps)) (addp (sh (Qr (ps.map Pl.x))) (sc p.x (Qr (ps.map Pl.x)))) = addp (addp (sh (Om ps)) (sc p.x (Om ps))) (sc (gI p.y p.x) (Qr (ps.map Pl.x)))
    rw [mulp_addl (sc16 hG _) hS (addp16 (sh16 hQ) (sc16 hQ _)), mulp_lin_r hS hQ hp.1, hi, mulp_lin_r (sc16 hG _) hQ hp.1, mulp_lin_l (sc16 hG _) hQ hp.1]
    have e : addp (sh (sc p.y (geo p.X))) (sc p.x (sc p.y (geo p.X))) = cst (gI p.y p.x) := by
      have e1 : sh (sc p.y (geo p.X)) = sc p.y (sh (geo p.X)) := funext fun k => by
        show (if k = 0 then 0 else gI (geo p.X (k - 1)) p.y) = gI (if k = 0 then 0 else geo p.X (k - 1)) p.y
        split
        · rw [f12]
        · rfl
      have e2 : sc p.x (sc p.y (geo p.X)) = sc p.y (sc p.x (geo p.X)) := funext fun k => by
        show gI (gI (geo p.X k) p.y) p.x = gI (gI (geo p.X k) p.x) p.y
        rw [g4 (hG k) hp.2.2.1, g4 (hG k) hp.1, g2 hp.2.2.1 hp.1]
      have e3 : addp (sc p.y (sh (geo p.X))) (sc p.y (sc p.x (geo p.X))) = sc p.y (addp (sh (geo p.X)) (sc p.x (geo p.X))) := funext fun k => by
        show xI (gI (sh (geo p.X) k) p.y) (gI (sc p.x (geo p.X) k) p.y) = gI (xI (sh (geo p.X) k) (sc p.x (geo p.X) k)) p.y
        rw [g5 (sh16 hG k) (sc16 hG _ k) hp.2.2.1]
      rw [e1, e2, e3, geo_lin hp.1 hp.2.1 hp.2.2.2]
      funext k
      show gI (if k = 0 then p.x else 0) p.y = if k = 0 then gI p.y p.x else 0
      by_cases hk : k = 0
      · rw [if_pos hk, if_pos hk, g2 hp.1 hp.2.2.1]
      · rw [if_neg hk, if_neg hk, f12]
    rw [e, mulp_comm (cst16 hyx) hQ, mulp_cst hQ hyx]
    exact addp_comm _ _

/- Values. -/
def ev (x : Int) (f : Nat → Int) : Int := atp x 1000 f
theorem ev16 (x : Int) {f : Nat → Int} (hf : P16 f) : 0 ≤ ev x f ∧ ev x f ≤ 65535 := atp16 x 1000 f hf
theorem ev_at (x : Int) {n : Nat} {f : Nat → Int} (hn : n ≤ 1000) (h : ∀ j, n ≤ j → f j = 0) : atp x n f = ev x f := atp_same x h (fun j hj => h j (by omega))
theorem ev_add {x : Int} (hx : 0 ≤ x ∧ x ≤ 65535) {f g : Nat → Int} (hf : P16 f) (hg : P16 g) : ev x (addp f g) = xI (ev x f) (ev x g) := atp_add x hx _ hf hg
theorem ev_sc {x c : Int} (hx : 0 ≤ x ∧ x ≤ 65535) (hc : 0 ≤ c ∧ c ≤ 65535) {f : Nat → Int} (hf : P16 f) : ev x (sc c f) = gI (ev x f) c := atp_sc x c hx hc _ hf
theorem ev_mul {x : Int} (hx : 0 ≤ x ∧ x ≤ 65535) {n m : Nat} {f g : Nat → Int} (hf : P16 f) (hg : P16 g) (hfo : ∀ j, n ≤ j → f j = 0) (hgo : ∀ j, m ≤ j → g j = 0) (hN : n + m ≤ 1000) : ev x (mulp f g) = gI (ev x f) (ev x g) := by
  rw [← ev_at x (n := n) (by omega) hfo, ← ev_at x (n := m) (by omega) hgo]
  exact atp_mul x hx hf hg hfo hgo hN
theorem ev_sh {x : Int} {n : Nat} {f : Nat → Int} (hf : P16 f) (hn : n ≤ 999) (h : ∀ j, n ≤ j → f j = 0) : ev x (sh f) = gI (ev x f) x := by
  show atp x (999 + 1) (sh f) = _
  rw [atp_sh x 999 hf, atp_same x (n := 999) (m := 1000) (fun j hj => h j (by omega)) (fun j hj => h j (by omega))]
  rfl
theorem ev_lin {x y : Int} (hx : 0 ≤ x ∧ x ≤ 65535) (hy : 0 ≤ y ∧ y ≤ 65535) {n : Nat} {f : Nat → Int} (hf : P16 f) (hn : n ≤ 999) (h : ∀ j, n ≤ j → f j = 0) : ev x (addp (sh f) (sc y f)) = gI (ev x f) (xI x y) := by
  rw [ev_add hx (sh16 hf) (sc16 hf y), ev_sh hf hn h, ev_sc hx hy hf, f5]
theorem ev_cst (x : Int) {c : Int} (hc : 0 ≤ c ∧ c ≤ 65535) : ev x (cst c) = c := by
  rw [← ev_at x (n := 1) (by decide) (fun j hj => by show (if j = 0 then c else 0) = 0; rw [if_neg (by omega)])]
  show xI (gI 0 x) c = c
  rw [f12, x0 hc]
theorem ev_nul (x : Int) : ev x nul = 0 := atp_nul x _ (fun _ => rfl)
theorem Qr_ev (xs : List Int) (hxs : ∀ y ∈ xs, 0 ≤ y ∧ y ≤ 65535) (hl : xs.length ≤ 900) {x : Int} (hx : 0 ≤ x ∧ x ≤ 65535) : ev x (Qr xs) = 0 ↔ x ∈ xs := by
  induction xs with
  | nil =>
    show ev x (cst 1) = 0 ↔ _
    rw [ev_cst x o16]
    simp
  | cons y ys ih =>
    simp at hl
    have hy := hxs y (by simp)
    show ev x (addp (sh (Qr ys)) (sc y (Qr ys))) = 0 ↔ _
    rw [ev_lin hx hy (Qr16 ys) (n := ys.length + 1) (by omega) (Qr_out ys)]
    have hi := ih (fun z hz => hxs z (by simp [hz])) (by omega)
    constructor
    · intro h
      by_cases h1 : ev x (Qr ys) = 0
      · simp [hi.1 h1]
      · by_cases h2 : xI x y = 0
        · rw [x_eq hx hy h2]; simp
        · exact (f11 _ _ (ev16 x (Qr16 ys)) (x16 hx hy) h1 h2 h).elim
    · intro h
      rcases List.mem_cons.1 h with rfl | h
      · rw [f7, f9]
      · rw [hi.2 h, f12]
theorem slp_lin {f : Nat → Int} (hf : P16 f) (y : Int) : slp (addp (sh f) (sc y f)) = addp f (addp (sh (slp f)) (sc y (slp f))) := by
  rw [slp_add, slp_sh hf, slp_sc, addp_assoc]
theorem slp_out {f : Nat → Int} {n : Nat} (h : ∀ j, n ≤ j → f j = 0) : ∀ j, n ≤ j → slp f j = 0 := fun j hj => by
  unfold slp
  rw [h (j + 1) (by omega)]
  simp
/-- At a root: the slope is not 0, and what the sums come to is it, times what is wrong there, times the root. -/
theorem root_at (ps : List Pl) (h : ∀ p ∈ ps, p.ok) (hl : ps.length ≤ 800) (hnd : (ps.map Pl.x).Nodup) : ∀ p ∈ ps, ev p.x (slp (Qr (ps.map Pl.x))) ≠ 0 ∧ ev p.x (Om ps) = gI (gI p.y p.x) (ev p.x (slp (Qr (ps.map Pl.x)))) := by
  induction ps with
  | nil => intro p hp; cases hp
  | cons q ps ih =>
    intro p hp
    simp at hl
    have hq := h q (by simp)
    have hok : ∀ p ∈ ps, p.ok := fun p hp => h p (by simp [hp])
    have hxs : ∀ y ∈ ps.map Pl.x, 0 ≤ y ∧ y ≤ 65535 := by
      intro y hy
      obtain ⟨s, hs, rfl⟩ := List.mem_map.1 hy
      exact (hok s hs).1
    have hQ := Qr16 (ps.map Pl.x)
    have hQo := Qr_out (ps.map Pl.x)
    rw [List.length_map] at hQo
    have hO := Om16 ps hok
    have hp' := h p hp
    have hnd' := List.nodup_cons.1 hnd
    have eS : ev p.x (slp (Qr ((q :: ps).map Pl.x))) = xI (ev p.x (Qr (ps.map Pl.x))) (gI (ev p.x (slp (Qr (ps.map Pl.x)))) (xI p.x q.x)) := by
      show ev p.x (slp (addp (sh (Qr (ps.map Pl.x))) (sc q.x (Qr (ps.map Pl.x))))) = _
      rw [slp_lin hQ, ev_add hp'.1 hQ (addp16 (sh16 (slp16 hQ)) (sc16 (slp16 hQ) _)), ev_lin hp'.1 hq.1 (slp16 hQ) (n := ps.length + 1) (by omega) (slp_out hQo)]
    have eO : ev p.x (Om (q :: ps)) = xI (gI (ev p.x (Om ps)) (xI p.x q.x)) (gI (ev p.x (Qr (ps.map Pl.x))) (gI q.y q.x)) := by
      show ev p.x (addp (addp (sh (Om ps)) (sc q.x (Om ps))) (sc (gI q.y q.x) (Qr (ps.map Pl.x)))) = _
      rw [ev_add hp'.1 (addp16 (sh16 hO) (sc16 hO _)) (sc16 hQ _), ev_lin hp'.1 hq.1 hO (n := ps.length) (by omega) (Om_out ps), ev_sc hp'.1 (g16 hq.2.2.1) hQ]
    rcases List.mem_cons.1 hp with rfl | hp1
    · have hne : ev p.x (Qr (ps.map Pl.x)) ≠ 0 := fun e => hnd'.1 ((Qr_ev _ hxs (by simp; omega) hp'.1).1 e)
      have hQv := ev16 p.x hQ
      rw [eS, eO, f7, f9, f9, f6 _ hQv.1, x0 (g16 hQv)]
      exact ⟨hne, g2 hQv (g16 hp'.2.2.1)⟩
    · have hz : ev p.x (Qr (ps.map Pl.x)) = 0 := (Qr_ev _ hxs (by simp; omega) hp'.1).2 (List.mem_map.2 ⟨p, hp1, rfl⟩)
      obtain ⟨h1, h2⟩ := ih hok (by omega) hnd'.2 p hp1
      have hne : xI p.x q.x ≠ 0 := fun e => hnd'.1 (by
        have := x_eq hp'.1 hq.1 e
        rw [← this]
        exact List.mem_map.2 ⟨p, hp1, rfl⟩)
      have hSv := ev16 p.x (slp16 hQ)
      rw [eS, eO, hz, f12, x0 (g16 hSv), f6 _ (g16 (ev16 p.x hO)).1, h2]
      exact ⟨f11 _ _ hSv (x16 hp'.1 hq.1) h1 hne, g4 (g16 hp'.2.2.1) hSv⟩

end Go.Proofs.Ytdbdidohldhnhaa
