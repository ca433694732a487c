/- Several texts of ours, one behind the other; what each is for stands ahead of it. -/
import Derived.StillTailTactics
import Derived.OrdersIn
import Derived.OwnWalkIn
import Derived.RangeFuncCalls
import Derived.RangeFuncNested
import Derived.RangeFuncBound
import Derived.RangeFuncLeaves
import Derived.Shelf.Abstract
import Derived.Shelf.RegionOpen
import Derived.WalkKit
import Derived.TacticsInMore
import Derived.LoopNIn
import Derived.LoopIn
import Derived.Test.YtknjmmbebkcnpaaRun2
import Derived.Test.YtknjmmbebkcnpaaRun1
import Derived.Deep.LoopGhost
import Derived.Deep.OwnRows
import Derived.BigQuiet

/- A statement in the body of a loop over an iterator that leaves its order open, reads first and ends in one chain of steps: one walk, in the order of the text, serves every order. No call of the program is walked here. -/
namespace Go.Proofs.Ytknjmmbebkcnpaa
open Go.RowKit

section
variable {P : Program} {l n : Nat}

theorem rows_round {row : String} {args : Array Value} {w : World} {R : Value → World → Prop} (h : Rows P row args w R) : RowsIn (Fence.wide.inRound l) n P row args w R :=
  fun c cs _ => let ⟨v, w', r, s⟩ := h c cs; ⟨v, w', r, stepsIn_wide.2 s⟩

theorem upon_round {o : Oper} {a : Act} {next : Act → World → Prop} {Q : Exit → Act → World → Prop} {r : Result Next} (h : o.upon P a next Q r) : o.uponIn (Fence.wide.inRound l) n P a next Q r := by
  cases r with
  | ok x w' =>
    cases x with
    | enter f args => exact ⟨fun e => (by cases e), CallsIn.inRound l (callsIn_wide.2 h)⟩
    | row row args => exact ⟨fun e => (by cases e), rows_round h⟩
    | round l f tmps assign body => exact h.elim
    | _ => exact h
  | halt x w' => cases x <;> exact h

theorem wp_round {o : Oper} {a : Act} {w : World} {K : Act → World → Prop} {Q : Exit → Act → World → Prop} (hd : ∀ c, o.op ≠ .defer c) (h : o.wp P a w K Q) : o.wpIn (Fence.wide.inRound l) n P a w K Q :=
  ⟨fun _ _ => trivial, by rw [Oper.semAt_plain _ _ _ hd]; exact upon_round h⟩

def noDefer (ops : Array Oper) : Bool := ops.toList.all fun o => match o.op with | .defer _ => false | _ => true
theorem noDefer_at {ops : Array Oper} (h : noDefer ops = true) {i : Nat} {o : Oper} (ho : ops[i]? = some o) : ∀ c, o.op ≠ .defer c := by
  intro c e
  unfold noDefer at h
  rw [List.all_eq_true] at h
  have := h o (by rw [← Array.getElem?_toList] at ho; exact List.mem_of_getElem? ho)
  rw [e] at this
  cases this

theorem wpOp_round {ops : Array Oper} {Q : Exit → Act → World → Prop} (hnd : noDefer ops = true) (hQ : ¬ LetsOut Q) {i : Nat} {K : Act → World → Prop} {a : Act} {w : World} (h : wpOp P ops Q i K a w) :
    wpOpIn (Fence.wide.inRound l) n P ops Q i K a w := by
  unfold wpOp at h
  unfold wpOpIn
  split
  · rename_i ho
    rw [ho] at h
    exact h
  · rename_i o ho
    rw [ho] at h
    simp only at h
    split
    · rename_i hw
      rw [if_pos hw] at h
      rcases h with h | h
      · exact wp_round (noDefer_at hnd ho) h
      · exact (hQ h.2).elim
    · rename_i hw
      rw [if_neg hw] at h
      exact ⟨fun _ _ => trivial, h⟩

theorem wpAny_round {ops : Array Oper} {Q : Exit → Act → World → Prop} {md : Region.Mode} (hnd : noDefer ops = true) (hQ : ¬ LetsOut Q) : ∀ (fuel : Nat) (listed : Array Bool) (a : Act) (w : World),
    wpAny P md ops Q fuel listed a w → wpAnyIn (Fence.wide.inRound l) n P md ops Q fuel listed a w := by
  intro fuel
  induction fuel with
  | zero => intro listed a w h; exact h
  | succ fuel ih =>
    intro listed a w h
    exact ⟨h.1, fun i hi => wpOpIn_mono (fun a w => ih _ a w) (wpOp_round hnd hQ (h.2 i hi))⟩

/-- A head that only reads, and a tail that is forced: in a round. -/
theorem region_tail_round {id : Nat} {Q : Exit → Act → World → Prop} {a : Act} {w : World} {ls : List Oper} (t : Nat) (hm : P.follows .mixedOrders = true) (hB : Region.lexTailB .any ls.toArray t = true) (hnd : noDefer ls.toArray = true)
    (h : wpStill P ls.toArray { w with drawn := w.drawn + 1 } (fun a' => wpList P ls.toArray (fun e a w => e = .normal ∧ Q .normal a w) (ls.drop t) a' { w with drawn := w.drawn + 1 }) (ls.take t) a) : (Code.region id ls.toArray true).wpIn (Fence.wide.inRound l) n P Q a w := by
  refine wpIn_mono (Q := fun e a w => e = .normal ∧ Q .normal a w) ?_ (fun e a w h => by obtain ⟨rfl, h⟩ := h; exact h)
  simp only [Region.lexTailB, Bool.and_eq_true, decide_eq_true_eq] at hB
  obtain ⟨⟨⟨⟨hsel, hn⟩, hs⟩, hc⟩, hlex⟩ := hB
  have hn' : t < ls.length := by simpa using hn
  have htl : (ls.take t).length = t := by simp; omega
  have hdl : (ls.drop t).length = ls.toArray.size - t := by simp
  have inv0 : HeadInv .any ls.toArray t (Array.replicate ls.toArray.size false) :=
    ⟨by simp, fun j oj _ hl => (by rw [getD_replicate_false] at hl; cases hl), fun t _ ht => getD_in (by simpa using ht) (getD_replicate_false _ _)⟩
  have H := wpAnyL_lex (md := .any) (g := ls.toArray.size - t) hsel hs hc hn (ls.take t) 0 _ a (fun j hj => by
    have hj' : j < t := by rw [htl] at hj; exact hj
    simp [hj']) (by simpa using htl) inv0 (by rw [htl]; exact hlex) h
  have hQ : ¬ LetsOut (fun e a w => e = .normal ∧ Q .normal a w) := by
    rintro ⟨a, w, h, _⟩
    cases h
  refine wpIn_region_any hm (wpAny_round hnd hQ _ _ _ _ ?_)
  have := wpAny_of_head (Q' := fun e a w => e = .normal ∧ Q .normal a w) (g := ls.toArray.size - t) (fun listed a' hL => by
    have := wpAny_of_seq (md := .any) (Q' := fun e a w => e = .normal ∧ Q .normal a w) (ls.drop t) t listed a' { w with drawn := w.drawn + 1 } (fun j => by simp [List.getElem?_drop]) (by rw [hdl]; exact hL.1) hL.2
    rwa [hdl] at this) _ _ _ H
  rw [htl, show t + (ls.toArray.size - t) = ls.toArray.size by omega] at this
  exact this

end
end Go.Proofs.Ytknjmmbebkcnpaa

/- AES-256 in plain bytes: products in the small field, stand-ins, blocks of 16 bytes as rows, rounds and what undoes them, a key's words. No condition but lengths: pure arithmetic on bytes and lists. -/
namespace Go.Proofs.Ytknjmmbebkcnpaa.Bk
set_option linter.unusedVariables false
set_option linter.unusedSimpArgs false

/-- A byte of a row. -/
def gy (l : List UInt8) (j : Nat) : UInt8 := l.getD j 0
theorem gy_nat (l : List UInt8) (j : Nat) : (gy l j).toNat = by' l j := rfl
theorem u8_eq {a b : UInt8} (h : a.toNat = b.toNat) : a = b := UInt8.toNat_inj.1 h
theorem u8_of (x : UInt8) : UInt8.ofNat x.toNat = x := UInt8.ofNat_toNat

/-- Twice, and a product, in the small field. -/
def dbl (a : Nat) : Nat := (a * 2 % 256) ^^^ (a / 128 * 27)
theorem x8_lt {a b : Nat} (h : a < 256) (k : b < 256) : a ^^^ b < 256 := Nat.xor_lt_two_pow (n := 8) h k
theorem dbl_lt {a : Nat} (h : a < 256) : dbl a < 256 := x8_lt (Nat.mod_lt _ (by decide)) (by omega)
def prN : Nat → Nat → Nat → Nat → Nat
  | 0, s, _, _ => s
  | k + 1, s, a, b => prN k (s ^^^ a * (b % 2)) (dbl a) (b / 2)
theorem prN_none : ∀ (k s a : Nat), prN k s a 0 = s
  | 0, _, _ => rfl
  | k + 1, s, a => by
    show prN k (s ^^^ a * (0 % 2)) (dbl a) (0 / 2) = s
    rw [Nat.zero_mod, Nat.mul_zero, Nat.xor_zero, Nat.zero_div]
    exact prN_none k s _
theorem mul_bit_lt {a : Nat} (h : a < 256) (b : Nat) : a * (b % 2) < 256 := by
  rcases Nat.mod_two_eq_zero_or_one b with e | e <;> rw [e] <;> omega
theorem prN_lt : ∀ (k s a b : Nat), s < 256 → a < 256 → prN k s a b < 256
  | 0, _, _, _, h, _ => h
  | k + 1, _, _, b, h, h2 => prN_lt k _ _ _ (x8_lt h (mul_bit_lt h2 b)) (dbl_lt h2)
def pr (a b : Nat) : Nat := prN 8 0 a b
theorem pr_lt {a : Nat} (h : a < 256) (b : Nat) : pr a b < 256 := prN_lt 8 0 a b (by decide) h
def mu (a b : UInt8) : UInt8 := UInt8.ofNat (pr a.toNat b.toNat)
theorem mu_nat (a b : UInt8) : (mu a b).toNat = pr a.toNat b.toNat := UInt8.toNat_ofNat_of_lt' (pr_lt (UInt8.toNat_lt a) _)

theorem xor4 (a b c d : Nat) : (a ^^^ b) ^^^ (c ^^^ d) = (a ^^^ c) ^^^ (b ^^^ d) := by
  rw [Nat.xor_assoc, Nat.xor_assoc, ← Nat.xor_assoc b c d, Nat.xor_comm b c, Nat.xor_assoc c b d]
theorem dbl_xor (a b : Nat) (ha : a < 256) (hb : b < 256) : dbl (a ^^^ b) = dbl a ^^^ dbl b := by
  unfold dbl
  rw [xor4]
  congr 1
  · rw [show a * 2 = a <<< 1 by rw [Nat.shiftLeft_eq], show b * 2 = b <<< 1 by rw [Nat.shiftLeft_eq], show (a ^^^ b) * 2 = (a ^^^ b) <<< 1 by rw [Nat.shiftLeft_eq], Nat.shiftLeft_xor_distrib]
    exact Nat.xor_mod_two_pow (n := 8)
  · have h7 : (a ^^^ b) / 128 = a / 128 ^^^ b / 128 := by
      rw [show (a ^^^ b) / 128 = (a ^^^ b) >>> 7 by rw [Nat.shiftRight_eq_div_pow], Nat.shiftRight_xor_distrib, Nat.shiftRight_eq_div_pow, Nat.shiftRight_eq_div_pow]
    rw [h7]
    have e1 : a / 128 = 0 ∨ a / 128 = 1 := by omega
    have e2 : b / 128 = 0 ∨ b / 128 = 1 := by omega
    rcases e1 with e1 | e1 <;> rcases e2 with e2 | e2 <;> rw [e1, e2] <;> decide
theorem mul_bit_xor (a a' b : Nat) : (a ^^^ a') * (b % 2) = a * (b % 2) ^^^ a' * (b % 2) := by
  rcases Nat.mod_two_eq_zero_or_one b with e | e <;> rw [e] <;> simp
theorem prN_xor : ∀ (k s s' a a' b : Nat), a < 256 → a' < 256 → prN k (s ^^^ s') (a ^^^ a') b = prN k s a b ^^^ prN k s' a' b
  | 0, _, _, _, _, _, _, _ => rfl
  | k + 1, s, s', a, a', b, h, h' => by
    show prN k ((s ^^^ s') ^^^ (a ^^^ a') * (b % 2)) (dbl (a ^^^ a')) (b / 2) = prN k (s ^^^ a * (b % 2)) (dbl a) (b / 2) ^^^ prN k (s' ^^^ a' * (b % 2)) (dbl a') (b / 2)
    rw [mul_bit_xor, xor4, dbl_xor a a' h h']
    exact prN_xor k _ _ _ _ _ (dbl_lt h) (dbl_lt h')
theorem mu_xor (a b f : UInt8) : mu (a ^^^ b) f = mu a f ^^^ mu b f := by
  apply u8_eq
  rw [UInt8.toNat_xor, mu_nat, mu_nat, mu_nat, UInt8.toNat_xor]
  exact prN_xor 8 0 0 _ _ _ (UInt8.toNat_lt a) (UInt8.toNat_lt b)

/-- What is closed over all bytes. -/
theorem all256 {p : Nat → Bool} (h : (List.range 256).all p = true) {x : Nat} (hx : x < 256) : p x = true := by
  rw [List.all_eq_true] at h
  exact h x (List.mem_range.2 hx)

/-- Four products put together: of a column x0 .. x3 by factors f0 .. f3. -/
def dot (x0 x1 x2 x3 f0 f1 f2 f3 : UInt8) : UInt8 := (((0 ^^^ mu x0 f0) ^^^ mu x1 f1) ^^^ mu x2 f2) ^^^ mu x3 f3
def back4 (e0 e1 e2 e3 d0 d1 d2 d3 x : Nat) : Nat := ((pr (pr x e0) d0 ^^^ pr (pr x e1) d1) ^^^ pr (pr x e2) d2) ^^^ pr (pr x e3) d3
theorem b_ed0 (x : Nat) (h : x < 256) : back4 2 1 1 3 14 11 13 9 x = x := of_decide_eq_true (all256 (p := fun x => decide (back4 2 1 1 3 14 11 13 9 x = x)) (by decide +kernel) h)
theorem b_ed1 (x : Nat) (h : x < 256) : back4 3 2 1 1 14 11 13 9 x = 0 := of_decide_eq_true (all256 (p := fun x => decide (back4 3 2 1 1 14 11 13 9 x = 0)) (by decide +kernel) h)
theorem b_ed2 (x : Nat) (h : x < 256) : back4 1 3 2 1 14 11 13 9 x = 0 := of_decide_eq_true (all256 (p := fun x => decide (back4 1 3 2 1 14 11 13 9 x = 0)) (by decide +kernel) h)
theorem b_ed3 (x : Nat) (h : x < 256) : back4 1 1 3 2 14 11 13 9 x = 0 := of_decide_eq_true (all256 (p := fun x => decide (back4 1 1 3 2 14 11 13 9 x = 0)) (by decide +kernel) h)
theorem b_de0 (x : Nat) (h : x < 256) : back4 14 9 13 11 2 3 1 1 x = x := of_decide_eq_true (all256 (p := fun x => decide (back4 14 9 13 11 2 3 1 1 x = x)) (by decide +kernel) h)
theorem b_de1 (x : Nat) (h : x < 256) : back4 11 14 9 13 2 3 1 1 x = 0 := of_decide_eq_true (all256 (p := fun x => decide (back4 11 14 9 13 2 3 1 1 x = 0)) (by decide +kernel) h)
theorem b_de2 (x : Nat) (h : x < 256) : back4 13 11 14 9 2 3 1 1 x = 0 := of_decide_eq_true (all256 (p := fun x => decide (back4 13 11 14 9 2 3 1 1 x = 0)) (by decide +kernel) h)
theorem b_de3 (x : Nat) (h : x < 256) : back4 9 13 11 14 2 3 1 1 x = 0 := of_decide_eq_true (all256 (p := fun x => decide (back4 9 13 11 14 2 3 1 1 x = 0)) (by decide +kernel) h)
end Go.Proofs.Ytknjmmbebkcnpaa.Bk

/- AES-256: blocks as rows of 16 bytes: replaced, taken to the left, mixed, combined; what undoes each. No condition but lengths: pure arithmetic on bytes and lists. -/
namespace Go.Proofs.Ytknjmmbebkcnpaa.Bk
set_option linter.unusedVariables false
set_option linter.unusedSimpArgs false

theorem gy_ext {a b : List UInt8} {n : Nat} (ha : a.length = n) (hb : b.length = n) (h : ∀ j, j < n → gy a j = gy b j) : a = b := by
  apply List.ext_getElem (by omega)
  intro i h1 h2
  have := h i (by omega)
  simpa [gy, h1, h2] using this
theorem gy_get {l : List UInt8} {j : Nat} (h : j < l.length) : l[j]? = some (gy l j) := by simp [gy, h]
theorem gy_map {f : UInt8 → UInt8} {l : List UInt8} {j : Nat} (h : j < l.length) : gy (l.map f) j = f (gy l j) := by simp [gy, h]
theorem gy_range {f : Nat → UInt8} {n j : Nat} (h : j < n) : gy ((List.range n).map f) j = f j := by simp [gy, h]
theorem gy_drop (l : List UInt8) (k j : Nat) : gy (l.drop k) j = gy l (k + j) := by simp [gy, List.getD_eq_getElem?_getD, List.getElem?_drop]
theorem gy_take (l : List UInt8) (k j : Nat) (h : j < k) : gy (l.take k) j = gy l j := by simp [gy, List.getD_eq_getElem?_getD, h]
theorem gy_app (a b : List UInt8) (j : Nat) (h : j < a.length) : gy (a ++ b) j = gy a j := by simp [gy, List.getD_eq_getElem?_getD, List.getElem?_append_left h]
theorem gy_app2 (a b : List UInt8) (j : Nat) (h : a.length ≤ j) : gy (a ++ b) j = gy b (j - a.length) := by simp [gy, List.getD_eq_getElem?_getD, List.getElem?_append_right h]
theorem gy_set (l : List UInt8) (i j : Nat) (x : UInt8) (h : i < l.length) : gy (l.set i x) j = if j = i then x else gy l j := by
  unfold gy
  simp only [List.getD_eq_getElem?_getD, List.getElem?_set]
  by_cases e : i = j
  · subst e; simp [h]
  · rw [if_neg e, if_neg (fun k => e k.symm)]
theorem gy_zero (n j : Nat) : gy (List.replicate n 0) j = 0 := by
  simp only [gy, List.getD_eq_getElem?_getD, List.getElem?_replicate]
  split <;> rfl

/-- Some of a row's first bytes are others already. -/
def mixd (R s : List UInt8) (n : Nat) : List UInt8 := R.take n ++ s.drop n
theorem mixd_length {R s : List UInt8} {m : Nat} (hR : R.length = m) (hs : s.length = m) (n : Nat) (h : n ≤ m) : (mixd R s n).length = m := by simp [mixd]; omega
theorem mixd_zero (R s : List UInt8) : mixd R s 0 = s := by simp [mixd]
theorem mixd_all {R s : List UInt8} {m : Nat} (hR : R.length = m) (hs : s.length = m) : mixd R s m = R := by simp [mixd, ← hR]; omega
theorem gy_mixd {R s : List UInt8} {m n : Nat} (hR : R.length = m) (hs : s.length = m) (h : n ≤ m) (j : Nat) : gy (mixd R s n) j = if j < n then gy R j else gy s j := by
  unfold mixd
  by_cases e : j < n
  · rw [if_pos e, gy_app _ _ _ (by simp; omega), gy_take _ _ _ e]
  · rw [if_neg e, gy_app2 _ _ _ (by simp; omega), gy_drop]
    congr 1
    simp; omega
theorem mixd_set {R s : List UInt8} {m n : Nat} (hR : R.length = m) (hs : s.length = m) (h : n < m) : (mixd R s n).set n (gy R n) = mixd R s (n + 1) := by
  refine gy_ext (n := m) (by rw [List.length_set, mixd_length hR hs _ (by omega)]) (mixd_length hR hs _ (by omega)) fun j _ => ?_
  rw [gy_set _ _ _ _ (by rw [mixd_length hR hs _ (by omega)]; exact h), gy_mixd hR hs (by omega), gy_mixd hR hs (by omega)]
  by_cases e : j = n
  · subst e; simp
  · rw [if_neg e]
    by_cases e2 : j < n
    · rw [if_pos e2, if_pos (by omega)]
    · rw [if_neg e2, if_neg (by omega)]

/-- Replaced; combined; rows taken to the left; columns put together. -/
def repl (T s : List UInt8) : List UInt8 := s.map fun x => gy T x.toNat
def comb (s k : List UInt8) : List UInt8 := List.zipWith (fun a b => a ^^^ b) s k
def shf (t : Nat) (s : List UInt8) : List UInt8 := (List.range 16).map fun j => gy s (4 * ((j / 4 + t * (j % 4)) % 4) + j % 4)
def mixP (f s : List UInt8) (i r : Nat) : Nat → UInt8
  | 0 => 0
  | n + 1 => mixP f s i r n ^^^ mu (gy s (4 * i + n)) (gy f ((n + 4 - r) % 4))
def mixS (f s : List UInt8) : List UInt8 := (List.range 16).map fun j => mixP f s (j / 4) (j % 4) 4
theorem repl_length (T s : List UInt8) : (repl T s).length = s.length := by simp [repl]
theorem comb_length {s k : List UInt8} {n : Nat} (h : s.length = n) (h2 : k.length = n) : (comb s k).length = n := by simp [comb, h, h2]
theorem shf_length (t : Nat) (s : List UInt8) : (shf t s).length = 16 := by simp [shf]
theorem mixS_length (f s : List UInt8) : (mixS f s).length = 16 := by simp [mixS]
theorem gy_repl {T s : List UInt8} {j : Nat} (h : j < s.length) : gy (repl T s) j = gy T (gy s j).toNat := gy_map h
theorem gy_comb {s k : List UInt8} {j : Nat} (h : j < s.length) (h2 : j < k.length) : gy (comb s k) j = gy s j ^^^ gy k j := by simp [gy, comb, h, h2, List.getElem?_zipWith]
theorem gy_shf (t : Nat) (s : List UInt8) {j : Nat} (h : j < 16) : gy (shf t s) j = gy s (4 * ((j / 4 + t * (j % 4)) % 4) + j % 4) := gy_range h
theorem gy_mixS (f s : List UInt8) {j : Nat} (h : j < 16) : gy (mixS f s) j = mixP f s (j / 4) (j % 4) 4 := gy_range h
theorem comb_drop (s k : List UInt8) (n : Nat) : (comb s k).drop n = comb (s.drop n) (k.drop n) := List.drop_zipWith
theorem comb_take (s k : List UInt8) (n : Nat) : (comb s k).take n = comb (s.take n) (k.take n) := List.take_zipWith
theorem repl_drop (T s : List UInt8) (n : Nat) : (repl T s).drop n = repl T (s.drop n) := by simp [repl, List.map_drop]
theorem repl_take (T s : List UInt8) (n : Nat) : (repl T s).take n = repl T (s.take n) := by simp [repl, List.map_take]

/-- What undoes what. -/
theorem comb_comb {s k : List UInt8} (h : s.length = k.length) : comb (comb s k) k = s := by
  refine gy_ext (n := s.length) (comb_length (comb_length rfl h.symm) h.symm) rfl fun j hj => ?_
  have hl : (comb s k).length = s.length := comb_length rfl h.symm
  rw [gy_comb (by omega) (by omega), gy_comb hj (by omega), UInt8.xor_assoc, UInt8.xor_self, UInt8.xor_zero]
theorem repl_repl {T U s : List UInt8} (h : ∀ x : UInt8, gy U (gy T x.toNat).toNat = x) : repl U (repl T s) = s := by
  unfold repl
  rw [List.map_map]
  refine (List.map_congr_left fun x _ => ?_).trans (List.map_id s)
  exact h x
theorem shf_shf {s : List UInt8} (t u : Nat) (h : s.length = 16) (hi : ∀ j, j < 16 → (4 * ((j / 4 + u * (j % 4)) % 4) + j % 4) < 16 ∧ 4 * (((4 * ((j / 4 + u * (j % 4)) % 4) + j % 4) / 4 + t * ((4 * ((j / 4 + u * (j % 4)) % 4) + j % 4) % 4)) % 4) + (4 * ((j / 4 + u * (j % 4)) % 4) + j % 4) % 4 = j) : shf u (shf t s) = s := by
  refine gy_ext (n := 16) (shf_length _ _) h fun j hj => ?_
  rw [gy_shf _ _ hj, gy_shf _ _ (hi j hj).1, (hi j hj).2]
theorem shf13 {s : List UInt8} (h : s.length = 16) : shf 3 (shf 1 s) = s := shf_shf 1 3 h (by decide)
theorem shf31 {s : List UInt8} (h : s.length = 16) : shf 1 (shf 3 s) = s := shf_shf 3 1 h (by decide)

theorem mu_zero (f : UInt8) : mu 0 f = 0 := by
  have h := mu_xor 0 0 f
  rw [UInt8.xor_self] at h
  rw [h, UInt8.xor_self]
def fE : List UInt8 := [2, 3, 1, 1]
def fD : List UInt8 := [14, 11, 13, 9]
/-- What a byte at j of a column comes to at q, mixed and mixed back. -/
def bck (f d : List UInt8) (x : UInt8) (j q : Nat) : UInt8 :=
  ((mu (mu x (gy f ((j + 4 - 0) % 4))) (gy d ((0 + 4 - q) % 4)) ^^^ mu (mu x (gy f ((j + 4 - 1) % 4))) (gy d ((1 + 4 - q) % 4))) ^^^ mu (mu x (gy f ((j + 4 - 2) % 4))) (gy d ((2 + 4 - q) % 4))) ^^^ mu (mu x (gy f ((j + 4 - 3) % 4))) (gy d ((3 + 4 - q) % 4))
def okB (f d : List UInt8) : Bool := (List.range 256).all fun x => (List.range 4).all fun j => (List.range 4).all fun q => bck f d (UInt8.ofNat x) j q == if j = q then UInt8.ofNat x else 0
theorem okED : okB fE fD = true := by decide +kernel
theorem okDE : okB fD fE = true := by decide +kernel
theorem bck_is {f d : List UInt8} (h : okB f d = true) (x : UInt8) {j q : Nat} (hj : j < 4) (hq : q < 4) : bck f d x j q = if j = q then x else 0 := by
  unfold okB at h
  rw [List.all_eq_true] at h
  have h1 := h x.toNat (List.mem_range.2 (UInt8.toNat_lt x))
  rw [List.all_eq_true] at h1
  have h2 := h1 j (List.mem_range.2 hj)
  rw [List.all_eq_true] at h2
  have h3 := h2 q (List.mem_range.2 hq)
  rw [u8_of] at h3
  exact eq_of_beq h3
theorem mix_bck (f d s : List UInt8) (i q : Nat) : ((((0 ^^^ mu (mixP f s i 0 4) (gy d ((0 + 4 - q) % 4))) ^^^ mu (mixP f s i 1 4) (gy d ((1 + 4 - q) % 4))) ^^^ mu (mixP f s i 2 4) (gy d ((2 + 4 - q) % 4))) ^^^ mu (mixP f s i 3 4) (gy d ((3 + 4 - q) % 4))) =
    ((bck f d (gy s (4 * i + 0)) 0 q ^^^ bck f d (gy s (4 * i + 1)) 1 q) ^^^ bck f d (gy s (4 * i + 2)) 2 q) ^^^ bck f d (gy s (4 * i + 3)) 3 q := by
  simp only [mixP, mu_xor, UInt8.zero_xor, bck]
  ac_rfl
theorem mix_mix {f d s : List UInt8} (h : okB f d = true) (hs : s.length = 16) : mixS d (mixS f s) = s := by
  refine gy_ext (n := 16) (mixS_length _ _) hs fun j hj => ?_
  have e : ∀ r, r < 4 → gy (mixS f s) (4 * (j / 4) + r) = mixP f s (j / 4) r 4 := fun r hr => by
    rw [gy_mixS _ _ (by omega), show (4 * (j / 4) + r) / 4 = j / 4 by omega, show (4 * (j / 4) + r) % 4 = r by omega]
  have hq : j % 4 < 4 := by omega
  have hj4 : 4 * (j / 4) + j % 4 = j := by omega
  rw [gy_mixS _ _ hj]
  have hm : mixP d (mixS f s) (j / 4) (j % 4) 4 = ((((0 ^^^ mu (gy (mixS f s) (4 * (j / 4) + 0)) (gy d ((0 + 4 - j % 4) % 4))) ^^^ mu (gy (mixS f s) (4 * (j / 4) + 1)) (gy d ((1 + 4 - j % 4) % 4))) ^^^ mu (gy (mixS f s) (4 * (j / 4) + 2)) (gy d ((2 + 4 - j % 4) % 4))) ^^^ mu (gy (mixS f s) (4 * (j / 4) + 3)) (gy d ((3 + 4 - j % 4) % 4))) := rfl
  rw [hm, e 0 (by omega), e 1 (by omega), e 2 (by omega), e 3 (by omega), mix_bck, bck_is h _ (by omega) hq, bck_is h _ (by omega) hq, bck_is h _ (by omega) hq, bck_is h _ (by omega) hq]
  have hc : j % 4 = 0 ∨ j % 4 = 1 ∨ j % 4 = 2 ∨ j % 4 = 3 := by omega
  rcases hc with c | c | c | c <;> rw [c] at hj4 ⊢ <;> simp [hj4]
end Go.Proofs.Ytknjmmbebkcnpaa.Bk

/- AES-256: all bytes' inverses and stand-ins, as the program reckons them, and the other way about: closed tables; a cipher's rounds, there and back. No condition but lengths: pure arithmetic on bytes and lists. -/
namespace Go.Proofs.Ytknjmmbebkcnpaa.Bk
set_option linter.unusedVariables false
set_option linter.unusedSimpArgs false

/-- A byte turned by n. -/
def rot (n : Nat) (a : UInt8) : UInt8 := UInt8.ofNat ((a.toNat * 2 ^ n % 256) ||| (a.toNat / 2 ^ (8 - n)))
def sbf (i : UInt8) : UInt8 := ((((i ^^^ rot 1 i) ^^^ rot 2 i) ^^^ rot 3 i) ^^^ rot 4 i) ^^^ 99
/-- The table behind k powers of 3, the next power, and its inverse. -/
def ivs : Nat → List UInt8 × UInt8 × UInt8
  | 0 => (List.replicate 256 0, 1, 1)
  | k + 1 => ((ivs k).1.set (ivs k).2.1.toNat (ivs k).2.2, mu (ivs k).2.1 3, mu (ivs k).2.2 246)
theorem ivs_length : ∀ k, (ivs k).1.length = 256
  | 0 => List.length_replicate
  | k + 1 => by
    show ((ivs k).1.set _ _).length = 256
    rw [List.length_set]; exact ivs_length k
def IV : List UInt8 := (ivs 255).1
def SB : List UInt8 := IV.map sbf
theorem SB_length : SB.length = 256 := by unfold SB IV; rw [List.length_map]; exact ivs_length 255
def obs : Nat → List UInt8
  | 0 => List.replicate 256 0
  | k + 1 => (obs k).set (gy SB k).toNat (UInt8.ofNat k)
theorem obs_length : ∀ k, (obs k).length = 256
  | 0 => List.length_replicate
  | k + 1 => by
    show ((obs k).set _ _).length = 256
    rw [List.length_set]; exact obs_length k
def OB : List UInt8 := obs 256
theorem OB_length : OB.length = 256 := obs_length 256
def SBn : List Nat := [99, 124, 119, 123, 242, 107, 111, 197, 48, 1, 103, 43, 254, 215, 171, 118, 202, 130, 201, 125, 250, 89, 71, 240, 173, 212, 162, 175, 156, 164, 114, 192, 183, 253, 147, 38, 54, 63, 247, 204, 52, 165, 229, 241, 113, 216, 49, 21, 4, 199, 35, 195, 24, 150, 5, 154, 7, 18, 128, 226, 235, 39, 178, 117, 9, 131, 44, 26, 27, 110, 90, 160, 82, 59, 214, 179, 41, 227, 47, 132, 83, 209, 0, 237, 32, 252, 177, 91, 106, 203, 190, 57, 74, 76, 88, 207, 208, 239, 170, 251, 67, 77, 51, 133, 69, 249, 2, 127, 80, 60, 159, 168, 81, 163, 64, 143, 146, 157, 56, 245, 188, 182, 218, 33, 16, 255, 243, 210, 205, 12, 19, 236, 95, 151, 68, 23, 196, 167, 126, 61, 100, 93, 25, 115, 96, 129, 79, 220, 34, 42, 144, 136, 70, 238, 184, 20, 222, 94, 11, 219, 224, 50, 58, 10, 73, 6, 36, 92, 194, 211, 172, 98, 145, 149, 228, 121, 231, 200, 55, 109, 141, 213, 78, 169, 108, 86, 244, 234, 101, 122, 174, 8, 186, 120, 37, 46, 28, 166, 180, 198, 232, 221, 116, 31, 75, 189, 139, 138, 112, 62, 181, 102, 72, 3, 246, 14, 97, 53, 87, 185, 134, 193, 29, 158, 225, 248, 152, 17, 105, 217, 142, 148, 155, 30, 135, 233, 206, 85, 40, 223, 140, 161, 137, 13, 191, 230, 66, 104, 65, 153, 45, 15, 176, 84, 187, 22]
theorem SB_lit : SB = SBn.map UInt8.ofNat := by decide +kernel
theorem tabs_ok : ((List.range 256).all fun x => gy OB (gy SB x).toNat == UInt8.ofNat x && gy SB (gy OB x).toNat == UInt8.ofNat x) = true := by decide +kernel
theorem tab_there (x : UInt8) : gy OB (gy SB x.toNat).toNat = x := by
  have h := tabs_ok
  rw [List.all_eq_true] at h
  have h1 := h x.toNat (List.mem_range.2 (UInt8.toNat_lt x))
  rw [Bool.and_eq_true, u8_of] at h1
  exact eq_of_beq h1.1
theorem tab_back (x : UInt8) : gy SB (gy OB x.toNat).toNat = x := by
  have h := tabs_ok
  rw [List.all_eq_true] at h
  have h1 := h x.toNat (List.mem_range.2 (UInt8.toNat_lt x))
  rw [Bool.and_eq_true, u8_of] at h1
  exact eq_of_beq h1.2

/-- A key's words: k of them. -/
def ahd (T : List UInt8) (k : Nat) (x : List UInt8) : List UInt8 :=
  if k % 8 = 0 then (repl T [gy x 1, gy x 2, gy x 3, gy x 0]).set 0 (gy (repl T [gy x 1, gy x 2, gy x 3, gy x 0]) 0 ^^^ UInt8.ofNat (2 ^ (k / 8 - 1)))
  else if k % 8 = 4 then repl T x else x
def wat (l : List UInt8) (k : Nat) : List UInt8 := (l.drop (4 * k)).take 4
def nxt (T key l : List UInt8) (k : Nat) : List UInt8 := if k < 8 then wat key k else comb (wat l (k - 8)) (ahd T k (wat l (k - 1)))
def spr (T key : List UInt8) : Nat → List UInt8
  | 0 => []
  | k + 1 => spr T key k ++ nxt T key (spr T key k) k
theorem wat_length {l : List UInt8} {k : Nat} (h : 4 * k + 4 ≤ l.length) : (wat l k).length = 4 := by simp [wat]; omega
theorem ahd_length (T x : List UInt8) (k : Nat) (h : x.length = 4) : (ahd T k x).length = 4 := by
  unfold ahd
  split
  · simp [repl]
  · split
    · rw [repl_length]; exact h
    · exact h
theorem spr_length (T key : List UInt8) (hk : key.length = 32) : ∀ k, (spr T key k).length = 4 * k
  | 0 => rfl
  | k + 1 => by
    have ih := spr_length T key hk k
    show (spr T key k ++ nxt T key (spr T key k) k).length = 4 * (k + 1)
    rw [List.length_append, ih]
    unfold nxt
    split
    · rw [wat_length (by omega)]; omega
    · rw [comb_length (n := 4) (wat_length (by omega)) (ahd_length _ _ _ (wat_length (by omega)))]; omega
theorem nxt_length (T key : List UInt8) (hk : key.length = 32) (k : Nat) : (nxt T key (spr T key k) k).length = 4 := by
  have h := spr_length T key hk (k + 1)
  have h2 := spr_length T key hk k
  have h3 : (spr T key (k + 1)).length = (spr T key k).length + (nxt T key (spr T key k) k).length := List.length_append
  omega

/-- A round's key; a round, there and back; all of them. -/
def kR (W : List UInt8) (n : Nat) : List UInt8 := (W.drop (16 * n)).take 16
theorem kR_length {W : List UInt8} {n : Nat} (h : 16 * n + 16 ≤ W.length) : (kR W n).length = 16 := by simp [kR]; omega
def eR (W : List UInt8) (n : Nat) (s : List UInt8) : List UInt8 :=
  comb (if n < 14 then mixS fE (shf 1 (repl SB s)) else shf 1 (repl SB s)) (kR W n)
def dR (W : List UInt8) (n : Nat) (s : List UInt8) : List UInt8 :=
  repl OB (shf 3 (if 15 - n < 14 then mixS fD (comb s (kR W (15 - n))) else comb s (kR W (15 - n))))
def eN (W s : List UInt8) : Nat → List UInt8
  | 0 => s
  | n + 1 => eR W (n + 1) (eN W s n)
def dN (W s : List UInt8) : Nat → List UInt8
  | 0 => s
  | n + 1 => dR W (n + 1) (dN W s n)
def enc (W s : List UInt8) : List UInt8 := eN W (comb s (kR W 0)) 14
def dec (W s : List UInt8) : List UInt8 := comb (dN W s 14) (kR W 0)
theorem eR_length {W : List UInt8} {n : Nat} (s : List UInt8) (hW : W.length = 240) (hn : n ≤ 14) : (eR W n s).length = 16 := by
  refine comb_length ?_ (kR_length (by omega))
  split
  · exact mixS_length _ _
  · exact shf_length _ _
theorem dR_length (W : List UInt8) (n : Nat) (s : List UInt8) : (dR W n s).length = 16 := by
  unfold dR
  rw [repl_length]; exact shf_length _ _
theorem eN_length {W s : List UInt8} (hW : W.length = 240) (h : s.length = 16) : ∀ n, n ≤ 14 → (eN W s n).length = 16
  | 0, _ => h
  | n + 1, hn => eR_length _ hW hn
theorem dN_length {W s : List UInt8} (h : s.length = 16) : ∀ n, (dN W s n).length = 16
  | 0 => h
  | n + 1 => dR_length _ _ _
theorem enc_length {W s : List UInt8} (hW : W.length = 240) (h : s.length = 16) : (enc W s).length = 16 := eN_length hW (comb_length h (kR_length (by omega))) 14 (by decide)
theorem dec_length {W s : List UInt8} (hW : W.length = 240) (h : s.length = 16) : (dec W s).length = 16 := comb_length (dN_length h 14) (kR_length (by omega))
theorem dR_eR {W s : List UInt8} {n : Nat} (hW : W.length = 240) (hs : s.length = 16) (h1 : 1 ≤ n) (h2 : n ≤ 14) : dR W (15 - n) (eR W n s) = s := by
  have e : 15 - (15 - n) = n := by omega
  unfold dR
  rw [e]
  unfold eR
  have hk : (kR W n).length = 16 := kR_length (by omega)
  by_cases c : n < 14
  · rw [if_pos c, if_pos c, comb_comb (by rw [mixS_length, hk]), mix_mix okED (shf_length _ _), shf13 (by rw [repl_length]; exact hs), repl_repl tab_there]
  · rw [if_neg c, if_neg c, comb_comb (by rw [shf_length, hk]), shf13 (by rw [repl_length]; exact hs), repl_repl tab_there]
theorem eR_dR {W s : List UInt8} {n : Nat} (hW : W.length = 240) (hs : s.length = 16) (h1 : 1 ≤ n) (h2 : n ≤ 14) : eR W (15 - n) (dR W n s) = s := by
  unfold eR dR
  have hk : (kR W (15 - n)).length = 16 := kR_length (by omega)
  have hc : (comb s (kR W (15 - n))).length = 16 := comb_length hs hk
  rw [repl_repl tab_back]
  by_cases c : 15 - n < 14
  · rw [if_pos c, if_pos c, shf31 (mixS_length _ _), mix_mix okDE hc, comb_comb (by rw [hs, hk])]
  · rw [if_neg c, if_neg c, shf31 hc, comb_comb (by rw [hs, hk])]
theorem dN_eN {W s : List UInt8} (hW : W.length = 240) (h : s.length = 16) : ∀ k, k ≤ 14 → dN W (eN W s 14) k = eN W s (14 - k)
  | 0, _ => rfl
  | k + 1, hk => by
    show dR W (k + 1) (dN W (eN W s 14) k) = _
    rw [dN_eN hW h k (by omega)]
    have e : 14 - k = (14 - (k + 1)) + 1 := by omega
    rw [e]
    show dR W (k + 1) (eR W (14 - (k + 1) + 1) (eN W s (14 - (k + 1)))) = _
    have := dR_eR (W := W) (s := eN W s (14 - (k + 1))) (n := 14 - (k + 1) + 1) hW (eN_length hW h _ (by omega)) (by omega) (by omega)
    rwa [show 15 - (14 - (k + 1) + 1) = k + 1 by omega] at this
theorem eN_dN {W s : List UInt8} (hW : W.length = 240) (h : s.length = 16) : ∀ k, k ≤ 14 → eN W (dN W s 14) k = dN W s (14 - k)
  | 0, _ => rfl
  | k + 1, hk => by
    show eR W (k + 1) (eN W (dN W s 14) k) = _
    rw [eN_dN hW h k (by omega)]
    have e : 14 - k = (14 - (k + 1)) + 1 := by omega
    rw [e]
    show eR W (k + 1) (dR W (14 - (k + 1) + 1) (dN W s (14 - (k + 1)))) = _
    have := eR_dR (W := W) (s := dN W s (14 - (k + 1))) (n := 14 - (k + 1) + 1) hW (dN_length h _) (by omega) (by omega)
    rwa [show 15 - (14 - (k + 1) + 1) = k + 1 by omega] at this
theorem dec_enc {W s : List UInt8} (hW : W.length = 240) (h : s.length = 16) : dec W (enc W s) = s := by
  have hk : (kR W 0).length = 16 := kR_length (by omega)
  unfold dec enc
  rw [dN_eN hW (comb_length h hk) 14 (by decide)]
  exact comb_comb (by rw [h, hk])
theorem enc_dec {W s : List UInt8} (hW : W.length = 240) (h : s.length = 16) : enc W (dec W s) = s := by
  have hk : (kR W 0).length = 16 := kR_length (by omega)
  unfold dec enc
  rw [comb_comb (by rw [dN_length h, hk]), eN_dN hW h 14 (by decide)]
  rfl
end Go.Proofs.Ytknjmmbebkcnpaa.Bk

/- Twice, products, bytes turned, walked. For any bytes: each call returns what ATab says, and leaves the world as it is. -/
namespace Go.Proofs.Ytknjmmbebkcnpaa
open Go.RowKit Bk
set_option linter.unusedVariables false
set_option linter.unusedSimpArgs false

theorem ret_u8 {a b : Int} (h : a = b) : Ending.returned (.int .u8 a) = .returned (.int .u8 b) := by rw [h]
theorem dbl_int (a : Nat) (ha : a < 256) : bits .xor .u8 ((a : Int) * 2 % 256) ((a : Int) / 128 * 27) = ((dbl a : Nat) : Int) := by
  have e1 : (a : Int) * 2 % 256 = ((a * 2 % 256 : Nat) : Int) := by omega
  have e2 : (a : Int) / 128 * 27 = ((a / 128 * 27 : Nat) : Int) := by omega
  rw [e1, e2]
  exact u8_xor_nat _ _ (Nat.mod_lt _ (by decide)) (by omega)
theorem doubled_any (a : Nat) (w : World) (ha : a < 256) :
    Calls Try.prog 64 #[.int .u8 a] w fun e w' => e = .returned (.int .u8 (dbl a : Nat)) ∧ w' = w := by
  go_enter Try.func64, Try.ntmps64
  go_wp2
  go_ret
  exact ⟨ret_u8 (dbl_int a ha), rfl⟩
theorem rot_int (n p q a : Nat) (hp : p = 2 ^ n) (hq : q = 2 ^ (8 - n)) (ha : a < 256) : bits .or .u8 ((a : Int) * (p : Int) % 256) ((a : Int) / (q : Int)) = (((rot n (UInt8.ofNat a)).toNat : Nat) : Int) := by
  subst hp hq
  have e1 : (a : Int) * ((2 ^ n : Nat) : Int) % 256 = ((a * 2 ^ n % 256 : Nat) : Int) := by rw [Int.natCast_emod, Int.natCast_mul]; rfl
  have e2 : (a : Int) / ((2 ^ (8 - n) : Nat) : Int) = ((a / 2 ^ (8 - n) : Nat) : Int) := (Int.natCast_ediv _ _).symm
  have h1 : a * 2 ^ n % 256 < 256 := Nat.mod_lt _ (by decide)
  have h2 : a / 2 ^ (8 - n) < 256 := Nat.lt_of_le_of_lt (Nat.div_le_self _ _) ha
  rw [e1, e2, u8_or_nat _ _ h1 h2]
  unfold rot
  rw [UInt8.toNat_ofNat_of_lt' ha, UInt8.toNat_ofNat_of_lt' (Nat.or_lt_two_pow (n := 8) h1 h2)]
theorem rotl8_1 (a : Nat) (w : World) (ha : a < 256) :
    Calls Try.prog 54 #[.int .u8 a, .int .i64 1] w fun e w' => e = .returned (.int .u8 ((rot 1 (UInt8.ofNat a)).toNat : Nat)) ∧ w' = w := by
  have h : bits BinOp.and IntKind.u64 1 7 = 1 := by decide
  go_enter Try.func54, Try.ntmps54
  go_wp2
  go_ret
  exact ⟨ret_u8 (rot_int 1 2 128 a rfl rfl ha), rfl⟩
theorem rotl8_2 (a : Nat) (w : World) (ha : a < 256) :
    Calls Try.prog 54 #[.int .u8 a, .int .i64 2] w fun e w' => e = .returned (.int .u8 ((rot 2 (UInt8.ofNat a)).toNat : Nat)) ∧ w' = w := by
  have h : bits BinOp.and IntKind.u64 2 7 = 2 := by decide
  go_enter Try.func54, Try.ntmps54
  go_wp2
  go_ret
  exact ⟨ret_u8 (rot_int 2 4 64 a rfl rfl ha), rfl⟩
theorem rotl8_3 (a : Nat) (w : World) (ha : a < 256) :
    Calls Try.prog 54 #[.int .u8 a, .int .i64 3] w fun e w' => e = .returned (.int .u8 ((rot 3 (UInt8.ofNat a)).toNat : Nat)) ∧ w' = w := by
  have h : bits BinOp.and IntKind.u64 3 7 = 3 := by decide
  go_enter Try.func54, Try.ntmps54
  go_wp2
  go_ret
  exact ⟨ret_u8 (rot_int 3 8 32 a rfl rfl ha), rfl⟩
theorem rotl8_4 (a : Nat) (w : World) (ha : a < 256) :
    Calls Try.prog 54 #[.int .u8 a, .int .i64 4] w fun e w' => e = .returned (.int .u8 ((rot 4 (UInt8.ofNat a)).toNat : Nat)) ∧ w' = w := by
  have h : bits BinOp.and IntKind.u64 4 7 = 4 := by decide
  go_enter Try.func54, Try.ntmps54
  go_wp2
  go_ret
  exact ⟨ret_u8 (rot_int 4 16 16 a rfl rfl ha), rfl⟩

theorem and_one (b : Nat) (h : b < 256) : bits .and .u8 (b : Int) 1 = ((b % 2 : Nat) : Int) := by
  have := u8_and_nat b 1 h (by decide)
  rw [show ((1 : Nat) : Int) = 1 from rfl] at this
  rw [this, Nat.and_one_is_mod]
theorem pr_step {a b s k x : Nat} (h : prN (k + 1) s a b = x) : prN k (s ^^^ a * (b % 2)) (dbl a) (b / 2) = x := h
set_option maxRecDepth 100000 in
set_option maxHeartbeats 1000000 in
theorem aproduct_any (a b : Nat) (w : World) (ha : a < 256) (hb : b < 256) :
    Calls Try.prog 57 #[.int .u8 a, .int .u8 b] w fun e w' => e = .returned (.int .u8 (pr a b : Nat)) ∧ w' = w := by
  obtain ⟨R, hR⟩ : ∃ R, pr a b = R := ⟨_, rfl⟩
  rw [hR]
  have HA := hide (And.intro ha hb)
  have HR := hide hR
  clear ha hb hR
  go_enter Try.func57, Try.ntmps57
  go_wp2_with fail
  go_loopg [0, 1, 5] 9 (fun g x y z wr => ∃ k a' b' s' : Nat, k + 1 = g ∧ x = .int .u8 a' ∧ y = .int .u8 b' ∧ z = .int .u8 s' ∧ a' < 256 ∧ s' < 256 ∧ b' < 2 ^ k ∧ k ≤ 8 ∧ prN k s' a' b' = R ∧ wr = w)
  case atStart => exact ⟨8, a, b, 0, rfl, rfl, rfl, rfl, HA.out.1, by decide, HA.out.2, Nat.le_refl _, HR.out, rfl⟩
  case round =>
    clear HA HR
    obtain ⟨k, a', b', s', hkg, rfl, rfl, rfl, la, ls, lb, lk, hp, rfl⟩ := hrel
    by_cases hlt : 0 < b'
    · have hlt' : (0 : Int) < (b' : Int) := by omega
      obtain ⟨k2, rfl⟩ : ∃ k2, k = k2 + 1 := ⟨k - 1, by
        rcases Nat.eq_zero_or_pos k with e | e
        · subst e; simp at lb; omega
        · omega⟩
      obtain ⟨g3, rfl⟩ : ∃ g3, gk = g3 + 1 := ⟨gk - 1, by omega⟩
      have lb8 : b' < 256 := Nat.lt_of_lt_of_le lb (Nat.pow_le_pow_right (n := 2) (i := k2 + 1) (j := 8) (by decide) lk)
      have h1 := and_one b' lb8
      have lm : a' * (b' % 2) < 256 := mul_bit_lt la b'
      obtain ⟨c, hc⟩ : ∃ c, b' % 2 = c := ⟨_, rfl⟩
      have hp' := pr_step hp
      have hlb : b' / 2 < 2 ^ k2 := by rw [Nat.pow_succ] at lb; omega
      rw [hc] at h1 lm hp'
      obtain ⟨m, hm⟩ : ∃ m, a' * c = m := ⟨_, rfl⟩
      have h2 : (a' : Int) * (c : Int) = (m : Int) := by rw [← hm, Int.natCast_mul]
      rw [hm] at lm hp'
      have h3 := u8_xor_nat s' m ls lm
      have h4 := IntWalk.u8_in (m : Int) (by omega)
      have HP := hide (And.intro hp' hlb)
      have HL := hide (And.intro (x8_lt ls lm) (dbl_lt la))
      clear hp hp' hlb hm hc lb
      go_wp2_with fail
      refine (doubled_any _ _ la).mono ?_
      rintro e w' ⟨rfl, hw⟩
      obtain rfl := hw.symm
      go_wp2_with fail
      go_roundg g3
      case measure => omega
      case rel => exact ⟨k2, dbl a', b' / 2, s' ^^^ m, by omega, rfl, rfl, rfl, HL.out.2, HL.out.1, HP.out.2, by omega, HP.out.1, rfl⟩
    · obtain rfl : b' = 0 := by omega
      rw [prN_none] at hp
      have hp2 := hide hp
      clear hp
      go_wp2_with fail
      go_ret
      exact ⟨by rw [hp2.out]; rfl, rfl⟩
end Go.Proofs.Ytknjmmbebkcnpaa

/- Rows of bytes that are made; the digits of bytes. No call is walked here. -/
namespace Go.Proofs.Ytknjmmbebkcnpaa
open Go.RowKit Bk
set_option linter.unusedVariables false
set_option linter.unusedSimpArgs false

theorem made_bytes (n : Nat) : (madeCells #[.int .u8 0] n).toList = bs (List.replicate n 0) := by
  apply List.ext_getElem
  · simp [madeCells, bs]
  · intro i h1 h2
    simp [madeCells, bs, Nat.mod_one]
theorem row_made (w : World) (n : Nat) : Row (w.alloc (.cells (madeCells #[.int .u8 0] n) 5)) w.heap.size 0 (bs (List.replicate n 0)) := by
  have k := Row.new w (madeCells #[.int .u8 0] n) 5
  rwa [made_bytes] at k
theorem info8' : (Try.prog.info? 5).map (fun i => (i.zero, i.size, i.bytes)) = some (some (.int .u8 0), 1, 1) := by kernel_rfl
theorem mk_bytes (n : Nat) (hn : n ≤ 1000000) (w : World) : (Instr.makeSlice 28 (.int .i64 (n : Int)) (.int .i64 (n : Int))).run Try.prog w = .ok (.slice (some ⟨w.heap.size, 0, none⟩) n n) (w.alloc (.cells (madeCells #[.int .u8 0] n) 5)) :=
  run_make_row' 28 5 (.int .u8 0) 1 Try.underlying28 info8' rfl .i64 .i64 n (by omega) (by omega) w
theorem bs_setU (l : List UInt8) (i : Nat) (x : UInt8) : bs (l.set i x) = (bs l).set i (.int .u8 (x.toNat : Int)) := by simp [bs, List.map_set]
theorem rep_set (c : UInt8) (k n : Nat) (h : k < n) : (List.replicate k c ++ List.replicate (n - k) 0).set k c = List.replicate (k + 1) c ++ List.replicate (n - (k + 1)) 0 := by
  rw [List.set_append_right _ _ (by simp), List.length_replicate, Nat.sub_self, show n - k = (n - (k + 1)) + 1 by omega, List.replicate_succ, List.set_cons_zero, List.replicate_succ']
  simp

/-- A digit of sixteen; two of them a byte. -/
def hd (x : Nat) : List UInt8 := ([48, 49, 50, 51, 52, 53, 54, 55, 56, 57, 97, 98, 99, 100, 101, 102].drop x).take 1
def hxs (l : List UInt8) : List UInt8 := l.flatMap fun c => hd (c.toNat / 16) ++ hd (c.toNat % 16)
theorem hxs_take (l : List UInt8) (k : Nat) (hk : k < l.length) : hxs (l.take (k + 1)) = hxs (l.take k) ++ (hd (by' l k / 16) ++ hd (by' l k % 16)) := by
  unfold hxs
  rw [List.take_add_one, List.flatMap_append]
  simp [by', hk]
theorem idx_str (s : ByteArray) (k : Nat) (hk : k < s.size) (w : World) : (Instr.index 9 (.string s) (.int .i64 (k : Int))).run Try.prog w = .ok (.int .u8 ((by' (sb s) k : Nat) : Int)) w := by
  have h1 : (0 : Int) ≤ (k : Int) := Int.natCast_nonneg k
  have h2 : (k : Int) < (s.size : Int) := Int.ofNat_lt.2 hk
  rw [run_index_string _ _ _ _ _ Try.underlying9, dif_pos (And.intro h1 h2)]
  congr 2
  simp only [Int.toNat_natCast, by', sb, List.getD_eq_getElem?_getD, Array.getElem?_toList]
  rw [Array.getElem?_eq_getElem (show k < s.data.size from hk)]
  rfl

theorem ext_digit (x : Nat) (hx : x < 16) : (ByteArray.mk #[48, 49, 50, 51, 52, 53, 54, 55, 56, 57, 97, 98, 99, 100, 101, 102]).extract x (x + 1) = ⟨(hd x).toArray⟩ := by
  have h := ByteArray.extract_mk [48, 49, 50, 51, 52, 53, 54, 55, 56, 57, 97, 98, 99, 100, 101, 102] x (x + 1)
  rw [Nat.add_sub_cancel_left] at h
  exact h
theorem mk_append (a b : List UInt8) : ByteArray.mk a.toArray ++ ByteArray.mk b.toArray = ByteArray.mk (a ++ b).toArray := by
  apply ByteArray.ext
  simp

end Go.Proofs.Ytknjmmbebkcnpaa
