/- Polynomials over the field make a ring; values, slopes, division. Pure arithmetic over functions from places to numbers of 16 bits. -/
import Derived.Test.YtdbdidohldhnhaaPMath
namespace Go.Proofs.Ytdbdidohldhnhaa
open Go.RowKit Gf
set_option linter.unusedVariables false

def sc (c : Int) (f : Nat → Int) : Nat → Int := fun k => gI (f k) c
def sh (f : Nat → Int) : Nat → Int := fun k => if k = 0 then 0 else f (k - 1)
def tl (f : Nat → Int) : Nat → Int := fun k => f (k + 1)
def cst (c : Int) : Nat → Int := fun k => if k = 0 then c else 0
def nul : Nat → Int := fun _ => 0

theorem g2 {a b : Int} (ha : 0 ≤ a ∧ a ≤ 65535) (hb : 0 ≤ b ∧ b ≤ 65535) : gI a b = gI b a := f2 a b ha.2 hb.2
theorem g4 {a b c : Int} (ha : 0 ≤ a ∧ a ≤ 65535) (hb : 0 ≤ b ∧ b ≤ 65535) : gI (gI a b) c = gI a (gI b c) := f4 a b c ha.2 hb.2
theorem g5 {a b c : Int} (ha : 0 ≤ a ∧ a ≤ 65535) (hb : 0 ≤ b ∧ b ≤ 65535) (hc : 0 ≤ c ∧ c ≤ 65535) : gI (xI a b) c = xI (gI a c) (gI b c) := by
  rw [g2 (x16 ha hb) hc, f5, g2 hc ha, g2 hc hb]
theorem x4 (a b c d : Int) : xI (xI a b) (xI c d) = xI (xI a c) (xI b d) := by
  rw [f3, f3, ← f3 b c d, f1 b c, f3 c b d]
theorem x0 {a : Int} (ha : 0 ≤ a ∧ a ≤ 65535) : xI 0 a = a := by rw [f1, f6 _ ha.1]
theorem xx {a b : Int} (hb : 0 ≤ b ∧ b ≤ 65535) : xI a (xI a b) = b := by rw [← f3, f7, x0 hb]
theorem x_eq {a b : Int} (ha : 0 ≤ a ∧ a ≤ 65535) (hb : 0 ≤ b ∧ b ≤ 65535) (h : xI a b = 0) : a = b := by
  have := xx (a := a) hb
  rw [h, f6 _ ha.1] at this
  exact this

theorem sc16 {f : Nat → Int} (hf : P16 f) (c : Int) : P16 (sc c f) := fun j => g16 (hf j)
theorem sh16 {f : Nat → Int} (hf : P16 f) : P16 (sh f) := fun j => by
  unfold sh
  split
  · exact z16
  · exact hf _
theorem tl16 {f : Nat → Int} (hf : P16 f) : P16 (tl f) := fun j => hf _
theorem cst16 {c : Int} (hc : 0 ≤ c ∧ c ≤ 65535) : P16 (cst c) := fun j => by
  unfold cst
  split
  · exact hc
  · exact z16
theorem nul16 : P16 nul := fun _ => z16

theorem addp_assoc (f g h : Nat → Int) : addp (addp f g) h = addp f (addp g h) := funext fun k => f3 _ _ _
theorem addp_swap (f g h k : Nat → Int) : addp (addp f g) (addp h k) = addp (addp f h) (addp g k) := funext fun _ => x4 _ _ _ _
theorem addp_nul {f : Nat → Int} (hf : P16 f) : addp f nul = f := funext fun k => f6 _ (hf k).1
theorem nul_addp {f : Nat → Int} (hf : P16 f) : addp nul f = f := funext fun k => x0 (hf k)
theorem addp_self (f : Nat → Int) : addp f f = nul := funext fun _ => f7 _

/-- The product, from the lowest coefficient on. -/
theorem pm_cons {f g : Nat → Int} (hf : P16 f) (hg : P16 g) (n : Nat) : pm (n + 1) f g = addp (sc (f 0) g) (sh (pm n (tl f) g)) := by
  induction n with
  | zero =>
    funext k
    show (if k < 0 then (0 : Int) else xI 0 (gI (g (k - 0)) (f 0))) = xI (gI (g k) (f 0)) (if k = 0 then 0 else 0)
    rw [if_neg (by omega), x0 (g16 (hg _)), Nat.sub_zero]
    simp
    rw [f6 _ (g16 (hg k)).1]
  | succ n ih =>
    funext k
    show (if k < n + 1 then pm (n + 1) f g k else xI (pm (n + 1) f g k) (gI (g (k - (n + 1))) (f (n + 1)))) = xI (gI (g k) (f 0)) (if k = 0 then 0 else (if k - 1 < n then pm n (tl f) g (k - 1) else xI (pm n (tl f) g (k - 1)) (gI (g (k - 1 - n)) (f (n + 1)))))
    rw [ih]
    show (if k < n + 1 then xI (gI (g k) (f 0)) (if k = 0 then 0 else pm n (tl f) g (k - 1)) else xI (xI (gI (g k) (f 0)) (if k = 0 then 0 else pm n (tl f) g (k - 1))) (gI (g (k - (n + 1))) (f (n + 1)))) = _
    by_cases h0 : k = 0
    · subst h0; simp
    · rw [if_neg h0, if_neg h0]
      by_cases h1 : k < n + 1
      · rw [if_pos h1, if_pos (by omega)]
      · rw [if_neg h1, if_neg (by omega), f3, show k - (n + 1) = k - 1 - n from by omega]
theorem mulp_cons {f g : Nat → Int} (hf : P16 f) (hg : P16 g) : mulp f g = addp (sc (f 0) g) (sh (mulp (tl f) g)) := by
  funext k
  show pm (k + 1) f g k = _
  rw [pm_cons hf hg k]
  show xI (gI (g k) (f 0)) (if k = 0 then 0 else pm k (tl f) g (k - 1)) = xI (gI (g k) (f 0)) (if k = 0 then 0 else pm (k - 1 + 1) (tl f) g (k - 1))
  by_cases h0 : k = 0
  · rw [if_pos h0, if_pos h0]
  · rw [if_neg h0, if_neg h0, show k - 1 + 1 = k from by omega]
theorem mul_at0 {f g : Nat → Int} (hf : P16 f) (hg : P16 g) : mulp f g 0 = gI (g 0) (f 0) := by
  rw [mulp_cons hf hg]
  show xI (gI (g 0) (f 0)) (if 0 = 0 then 0 else _) = _
  rw [if_pos rfl, f6 _ (g16 (hg 0)).1]
theorem mul_at1 {f g : Nat → Int} (hf : P16 f) (hg : P16 g) (k : Nat) : mulp f g (k + 1) = xI (gI (g (k + 1)) (f 0)) (mulp (tl f) g k) := by
  rw [mulp_cons hf hg]
  show xI (gI (g (k + 1)) (f 0)) (if k + 1 = 0 then 0 else mulp (tl f) g (k + 1 - 1)) = _
  rw [if_neg (by omega), show k + 1 - 1 = k from by omega]

theorem mulp_addl {f f' g : Nat → Int} (hf : P16 f) (hf' : P16 f') (hg : P16 g) : mulp (addp f f') g = addp (mulp f g) (mulp f' g) := by
  funext k
  show _ = xI (mulp f g k) (mulp f' g k)
  induction k generalizing f f' with
  | zero => rw [mul_at0 (addp16 hf hf') hg, mul_at0 hf hg, mul_at0 hf' hg]; exact f5 _ _ _
  | succ k ih =>
    rw [mul_at1 (addp16 hf hf') hg, mul_at1 hf hg, mul_at1 hf' hg, show tl (addp f f') = addp (tl f) (tl f') from rfl, ih (tl16 hf) (tl16 hf')]
    show xI (gI (g (k + 1)) (xI (f 0) (f' 0))) _ = _
    rw [f5, x4]
theorem mulp_addr {f g g' : Nat → Int} (hf : P16 f) (hg : P16 g) (hg' : P16 g') : mulp f (addp g g') = addp (mulp f g) (mulp f g') := by
  funext k
  show _ = xI (mulp f g k) (mulp f g' k)
  induction k generalizing f with
  | zero => rw [mul_at0 hf (addp16 hg hg'), mul_at0 hf hg, mul_at0 hf hg']; exact g5 (hg 0) (hg' 0) (hf 0)
  | succ k ih =>
    rw [mul_at1 hf (addp16 hg hg'), mul_at1 hf hg, mul_at1 hf hg', ih (tl16 hf)]
    show xI (gI (xI (g (k + 1)) (g' (k + 1))) (f 0)) _ = _
    rw [g5 (hg _) (hg' _) (hf 0), x4]
theorem mulp_scl {f g : Nat → Int} {c : Int} (hf : P16 f) (hg : P16 g) (hc : 0 ≤ c ∧ c ≤ 65535) : mulp (sc c f) g = sc c (mulp f g) := by
  funext k
  show _ = gI (mulp f g k) c
  induction k generalizing f with
  | zero => rw [mul_at0 (sc16 hf c) hg, mul_at0 hf hg]; exact (g4 (hg 0) (hf 0)).symm
  | succ k ih =>
    rw [mul_at1 (sc16 hf c) hg, mul_at1 hf hg, show tl (sc c f) = sc c (tl f) from rfl, ih (tl16 hf), g5 (g16 (hg _)) (mulp16 hg k) hc]
    show xI (gI (g (k + 1)) (gI (f 0) c)) _ = _
    rw [g4 (hg _) (hf 0)]
theorem mulp_scr {f g : Nat → Int} {c : Int} (hf : P16 f) (hg : P16 g) (hc : 0 ≤ c ∧ c ≤ 65535) : mulp f (sc c g) = sc c (mulp f g) := by
  funext k
  show _ = gI (mulp f g k) c
  induction k generalizing f with
  | zero => rw [mul_at0 hf (sc16 hg c), mul_at0 hf hg]; show gI (gI (g 0) c) (f 0) = _; rw [g4 (hg 0) hc, g2 hc (hf 0), g4 (hg 0) (hf 0)]
  | succ k ih =>
    rw [mul_at1 hf (sc16 hg c), mul_at1 hf hg, ih (tl16 hf), g5 (g16 (hg _)) (mulp16 hg k) hc]
    show xI (gI (gI (g (k + 1)) c) (f 0)) _ = _
    rw [g4 (hg _) hc, g2 hc (hf 0), g4 (hg _) (hf 0)]
theorem mulp_shl {f g : Nat → Int} (hf : P16 f) (hg : P16 g) : mulp (sh f) g = sh (mulp f g) := by
  rw [mulp_cons (sh16 hf) hg, show tl (sh f) = f from funext fun k => by show (if k + 1 = 0 then 0 else f (k + 1 - 1)) = f k; rw [if_neg (by omega), show k + 1 - 1 = k from by omega]]
  funext k
  show xI (gI (g k) (if 0 = 0 then 0 else f (0 - 1))) _ = _
  rw [if_pos rfl, f9, x0 (sh16 (mulp16 hg) k)]
theorem mulp_shr' {f g : Nat → Int} (hf : P16 f) (hg : P16 g) : mulp f (sh g) = sh (mulp f g) := by
  funext k
  induction k generalizing f with
  | zero => rw [mul_at0 hf (sh16 hg)]; show gI (if 0 = 0 then 0 else g (0 - 1)) (f 0) = (if 0 = 0 then 0 else _); rw [if_pos rfl, if_pos rfl, f12]
  | succ k ih =>
    rw [mul_at1 hf (sh16 hg), ih (tl16 hf)]
    show xI (gI (if k + 1 = 0 then 0 else g (k + 1 - 1)) (f 0)) (sh (mulp (tl f) g) k) = (if k + 1 = 0 then 0 else mulp f g (k + 1 - 1))
    rw [if_neg (by omega), if_neg (by omega), show k + 1 - 1 = k from by omega, mulp_cons hf hg]
    rfl
theorem mulp_cst {f : Nat → Int} {c : Int} (hf : P16 f) (hc : 0 ≤ c ∧ c ≤ 65535) : mulp f (cst c) = sc c f := by
  funext k
  show _ = gI (f k) c
  induction k generalizing f with
  | zero => rw [mul_at0 hf (cst16 hc)]; exact g2 hc (hf 0)
  | succ k ih =>
    rw [mul_at1 hf (cst16 hc), ih (tl16 hf)]
    show xI (gI (if k + 1 = 0 then c else 0) (f 0)) (gI (f (k + 1)) c) = _
    rw [if_neg (by omega), f12, x0 (g16 (hf _))]
theorem split_low {g : Nat → Int} (hg : P16 g) : addp (cst (g 0)) (sh (tl g)) = g := funext fun k => by
  show xI (if k = 0 then g 0 else 0) (if k = 0 then 0 else g (k - 1 + 1)) = g k
  by_cases h : k = 0
  · subst h; rw [if_pos rfl, if_pos rfl, f6 _ (hg 0).1]
  · rw [if_neg h, if_neg h, x0 (hg _), show k - 1 + 1 = k from by omega]
theorem mulp_snoc {f g : Nat → Int} (hf : P16 f) (hg : P16 g) : mulp f g = addp (sc (g 0) f) (sh (mulp f (tl g))) := by
  have h := mulp_addr hf (cst16 (hg 0)) (sh16 (tl16 hg))
  rw [split_low hg, mulp_cst hf (hg 0), mulp_shr' hf (tl16 hg)] at h
  exact h
theorem mulp_comm {f g : Nat → Int} (hf : P16 f) (hg : P16 g) : mulp f g = mulp g f := by
  funext k
  induction k generalizing f with
  | zero => rw [mul_at0 hf hg, mul_at0 hg hf]; exact g2 (hg 0) (hf 0)
  | succ k ih =>
    rw [mul_at1 hf hg, mulp_snoc hg hf, ih (tl16 hf)]
    show _ = xI (gI (g (k + 1)) (f 0)) (if k + 1 = 0 then 0 else mulp g (tl f) (k + 1 - 1))
    rw [if_neg (by omega), show k + 1 - 1 = k from by omega]
theorem mulp_assoc {f g h : Nat → Int} (hf : P16 f) (hg : P16 g) (hh : P16 h) : mulp (mulp f g) h = mulp f (mulp g h) := by
  funext k
  induction k generalizing f with
  | zero => rw [mul_at0 (mulp16 hg) hh, mul_at0 hf hg, mul_at0 hf (mulp16 hh), mul_at0 hg hh, g4 (hh 0) (hg 0)]
  | succ k ih =>
    rw [mul_at1 hf (mulp16 hh), ← ih (tl16 hf), mulp_cons hf hg, mulp_addl (sc16 hg _) (sh16 (mulp16 hg)) hh, mulp_scl hg hh (hf 0), mulp_shl (mulp16 hg) hh]
    show xI (gI (mulp g h (k + 1)) (f 0)) (if k + 1 = 0 then 0 else mulp (mulp (tl f) g) h (k + 1 - 1)) = _
    rw [if_neg (by omega), show k + 1 - 1 = k from by omega]

/-- Values. -/
theorem atp_add (x : Int) (hx : 0 ≤ x ∧ x ≤ 65535) (n : Nat) {f g : Nat → Int} (hf : P16 f) (hg : P16 g) : atp x n (addp f g) = xI (atp x n f) (atp x n g) := by
  induction n generalizing f g with
  | zero => show (0 : Int) = xI 0 0; rw [f7]
  | succ n ih =>
    show xI (gI (atp x n (addp (tl f) (tl g))) x) (xI (f 0) (g 0)) = xI (xI (gI (atp x n (tl f)) x) (f 0)) (xI (gI (atp x n (tl g)) x) (g 0))
    rw [ih (tl16 hf) (tl16 hg), g5 (atp16 x n _ (tl16 hf)) (atp16 x n _ (tl16 hg)) hx, x4]
theorem atp_sc (x c : Int) (hx : 0 ≤ x ∧ x ≤ 65535) (hc : 0 ≤ c ∧ c ≤ 65535) (n : Nat) {f : Nat → Int} (hf : P16 f) : atp x n (sc c f) = gI (atp x n f) c := by
  induction n generalizing f with
  | zero => show (0 : Int) = gI 0 c; rw [f12]
  | succ n ih =>
    show xI (gI (atp x n (sc c (tl f))) x) (gI (f 0) c) = gI (xI (gI (atp x n (tl f)) x) (f 0)) c
    rw [ih (tl16 hf), g5 (g16 (atp16 x n _ (tl16 hf))) (hf 0) hc, g4 (atp16 x n _ (tl16 hf)) hc, g2 hc hx, g4 (atp16 x n _ (tl16 hf)) hx]
theorem atp_sh (x : Int) (n : Nat) {f : Nat → Int} (hf : P16 f) : atp x (n + 1) (sh f) = gI (atp x n f) x := by
  show xI (gI (atp x n (fun j => sh f (j + 1))) x) (sh f 0) = _
  rw [show (fun j => sh f (j + 1)) = f from funext fun k => by show (if k + 1 = 0 then 0 else f (k + 1 - 1)) = f k; rw [if_neg (by omega), show k + 1 - 1 = k from by omega]]
  show xI _ (if 0 = 0 then 0 else _) = _
  rw [if_pos rfl, f6 _ (g16 (atp16 x n f hf)).1]
theorem atp_nul (x : Int) (n : Nat) {f : Nat → Int} (hf : ∀ j, f j = 0) : atp x n f = 0 := by
  induction n generalizing f with
  | zero => rfl
  | succ n ih =>
    show xI (gI (atp x n (tl f)) x) (f 0) = 0
    rw [ih (f := tl f) (fun j => hf _), hf 0, f12, f7]
theorem atp_more (x : Int) {n : Nat} {f : Nat → Int} (hf : ∀ j, n ≤ j → f j = 0) (k : Nat) : atp x (n + k) f = atp x n f := by
  induction n generalizing f with
  | zero => rw [Nat.zero_add, atp_nul x k (fun j => hf j (Nat.zero_le _))]; rfl
  | succ n ih =>
    rw [show n + 1 + k = n + k + 1 from by omega]
    show xI (gI (atp x (n + k) (tl f)) x) (f 0) = xI (gI (atp x n (tl f)) x) (f 0)
    rw [ih (f := tl f) (fun j hj => hf _ (by omega))]
theorem atp_same (x : Int) {n m : Nat} {f : Nat → Int} (hn : ∀ j, n ≤ j → f j = 0) (hm : ∀ j, m ≤ j → f j = 0) : atp x n f = atp x m f := by
  rw [← atp_more x hn m, ← atp_more x hm n, Nat.add_comm]
theorem atp_mul (x : Int) (hx : 0 ≤ x ∧ x ≤ 65535) {n m N : Nat} {f g : Nat → Int} (hf : P16 f) (hg : P16 g) (hfo : ∀ j, n ≤ j → f j = 0) (hgo : ∀ j, m ≤ j → g j = 0) (hN : n + m ≤ N) :
    atp x N (mulp f g) = gI (atp x n f) (atp x m g) := by
  induction n generalizing f N with
  | zero =>
    have e : mulp f g = fun _ => 0 := (pm_mulp hg hfo).symm
    rw [e, atp_nul x N (fun _ => rfl)]
    show (0 : Int) = gI 0 _
    rw [f12]
  | succ n ih =>
    obtain ⟨N, rfl⟩ : ∃ N', N = N' + 1 := ⟨N - 1, by omega⟩
    have hG := atp16 x m g hg
    have hA := atp16 x n (tl f) (tl16 hf)
    rw [mulp_cons hf hg, atp_add x hx _ (sc16 hg _) (sh16 (mulp16 hg)), atp_sc x _ hx (hf 0) _ hg, atp_sh x N (mulp16 hg), ih (tl16 hf) (fun j hj => hfo _ (by omega)) (by omega)]
    rw [show atp x (N + 1) g = atp x m g from atp_same x (fun j hj => hgo j (by omega)) hgo]
    show _ = gI (xI (gI (atp x n (tl f)) x) (f 0)) (atp x m g)
    rw [g5 (g16 hA) (hf 0) hG, g4 hA hx, g2 hx hG, ← g4 hA hG, g2 hG (hf 0), f1]

/-- Slopes. -/
theorem slp_add (f g : Nat → Int) : slp (addp f g) = addp (slp f) (slp g) := funext fun k => by
  show (if k % 2 = 0 then xI (f (k + 1)) (g (k + 1)) else 0) = xI (if k % 2 = 0 then f (k + 1) else 0) (if k % 2 = 0 then g (k + 1) else 0)
  split
  · rfl
  · rw [f7]
theorem slp_sc (c : Int) (f : Nat → Int) : slp (sc c f) = sc c (slp f) := funext fun k => by
  show (if k % 2 = 0 then gI (f (k + 1)) c else 0) = gI (if k % 2 = 0 then f (k + 1) else 0) c
  split
  · rfl
  · rw [f12]
theorem slp_sh {h : Nat → Int} (hh : P16 h) : slp (sh h) = addp h (sh (slp h)) := funext fun k => by
  show (if k % 2 = 0 then (if k + 1 = 0 then 0 else h (k + 1 - 1)) else 0) = xI (h k) (if k = 0 then 0 else (if (k - 1) % 2 = 0 then h (k - 1 + 1) else 0))
  rw [show (if k + 1 = 0 then (0 : Int) else h (k + 1 - 1)) = h k from if_neg (by omega)]
  by_cases h0 : k % 2 = 0
  · rw [if_pos h0]
    by_cases h1 : k = 0
    · rw [if_pos h1, f6 _ (hh k).1]
    · rw [if_neg h1, if_neg (by omega), f6 _ (hh k).1]
  · rw [if_neg h0, if_neg (by omega), if_pos (by omega), show k - 1 + 1 = k from by omega, f7]
theorem slp_low {f : Nat → Int} (hf : P16 f) : slp f = addp (tl f) (sh (slp (tl f))) := by
  have h : slp f = slp (addp (cst (f 0)) (sh (tl f))) := by rw [split_low hf]
  rw [h, slp_add, slp_sh (tl16 hf), show slp (cst (f 0)) = nul from funext fun k => by show (if k % 2 = 0 then (if k + 1 = 0 then f 0 else 0) else 0) = 0; rw [show (if k + 1 = 0 then f 0 else (0 : Int)) = 0 from if_neg (by omega)]; simp, nul_addp (addp16 (tl16 hf) (sh16 (slp16 (tl16 hf))))]
theorem slp_mul {f g : Nat → Int} (hf : P16 f) (hg : P16 g) : slp (mulp f g) = addp (mulp f (slp g)) (mulp g (slp f)) := by
  funext k
  induction k generalizing f with
  | zero =>
    show (if 0 % 2 = 0 then mulp f g (0 + 1) else 0) = xI (mulp f (slp g) 0) (mulp g (slp f) 0)
    rw [if_pos rfl, mul_at1 hf hg, mul_at0 (tl16 hf) hg, mul_at0 hf (slp16 hg), mul_at0 hg (slp16 hf)]
    show xI (gI (g (0 + 1)) (f 0)) (gI (g 0) (f (0 + 1))) = xI (gI (if 0 % 2 = 0 then g (0 + 1) else 0) (f 0)) (gI (if 0 % 2 = 0 then f (0 + 1) else 0) (g 0))
    rw [if_pos rfl, if_pos rfl, g2 (hg 0) (hf _)]
  | succ k ih =>
    have e1 : slp (mulp f g) (k + 1) = xI (gI (slp g (k + 1)) (f 0)) (xI (mulp (tl f) g (k + 1)) (slp (mulp (tl f) g) k)) := by
      rw [mulp_cons hf hg, slp_add, slp_sc, slp_sh (mulp16 hg)]
      show xI (gI (slp g (k + 1)) (f 0)) (xI (mulp (tl f) g (k + 1)) (if k + 1 = 0 then 0 else slp (mulp (tl f) g) (k + 1 - 1))) = _
      rw [if_neg (by omega), show k + 1 - 1 = k from by omega]
    have e2 : mulp f (slp g) (k + 1) = xI (gI (slp g (k + 1)) (f 0)) (mulp (tl f) (slp g) k) := mul_at1 hf (slp16 hg) k
    have e3 : mulp g (slp f) (k + 1) = xI (mulp (tl f) g (k + 1)) (mulp g (slp (tl f)) k) := by
      rw [slp_low hf, mulp_addr hg (tl16 hf) (sh16 (slp16 (tl16 hf))), mulp_shr' hg (slp16 (tl16 hf)), mulp_comm hg (tl16 hf)]
      show xI (mulp (tl f) g (k + 1)) (if k + 1 = 0 then 0 else mulp g (slp (tl f)) (k + 1 - 1)) = _
      rw [if_neg (by omega), show k + 1 - 1 = k from by omega]
    rw [e1, ih (tl16 hf)]
    show _ = xI (mulp f (slp g) (k + 1)) (mulp g (slp f) (k + 1))
    rw [e2, e3, x4]
    show xI _ (xI _ (xI (mulp (tl f) (slp g) k) (mulp g (slp (tl f)) k))) = _
    rw [← f3, x4]

end Go.Proofs.Ytdbdidohldhnhaa
