/- Lists written out, and what the calls of rs say of them; data and their checks as one word. -/
import Derived.Test.YtdbdidohldhnhaaChks
import Derived.OwnWalk
import Derived.Maps.AppendAt
namespace Go.Proofs.Ytdbdidohldhnhaa
open Go.RowKit Gf
set_option linter.unusedVariables false

/-- A list written out. -/
def lf (xs : List Int) : Nat → Int := fun k => xs[k]?.getD 0
theorem lf_out (xs : List Int) (j : Nat) (h : xs.length ≤ j) : lf xs j = 0 := by simp [lf, List.getElem?_eq_none h]
theorem lf16 {xs : List Int} (h : ∀ x ∈ xs, 0 ≤ x ∧ x ≤ 65535) : P16 (lf xs) := fun j => by
  by_cases hj : j < xs.length
  · simp only [lf, List.getElem?_eq_getElem hj, Option.getD_some]
    exact h _ (List.getElem_mem hj)
  · rw [lf_out xs j (by omega)]; exact z16
theorem sl_lit (w : World) (xs : List Int) (h : ∀ x ∈ xs, 0 ≤ x ∧ x ≤ 65535) : Sl (w.alloc (.cells (xs.map (Value.int .u16)).toArray 29)) (some ⟨w.heap.size, 0, none⟩) xs.length xs.length (lf xs) := by
  refine ⟨lf16 h, lf_out xs, Nat.le_refl _, fun e => (by cases e), .inr ⟨_, _, rfl, by simp, fun j hj => ?_⟩⟩
  have hr := World.rowIs_alloc w (xs.map (Value.int .u16)).toArray 29 (fun j => .int .u16 (lf xs j)) (fun i hi => by
    have hi' : i < xs.length := by simpa using hi
    simp [lf, hi'])
  rw [Nat.zero_add]
  exact hr.cell (by simpa using hj)
theorem bel_lit (w : World) (o : Obj) : Below w.heap.size w (w.alloc o) := (Below.refl _ _).alloc (Nat.le_refl _) _
theorem sl_nil (w : World) : Sl w none 0 0 nul := ⟨nul16, fun _ _ => rfl, Nat.le_refl _, fun _ => rfl, .inl rfl⟩

theorem right_yes {w : World} {a : Option Addr} {n c : Nat} {f : Nat → Int} (h : Sl w a n c f) (r : Nat) (hr : r ≤ n) (hn : n ≤ 255) (hR : Rt n f r) :
    Calls Try.prog 17 #[.slice a n c, .int .i64 (r : Int)] w fun e w' => e = .returned (.bool true) ∧ Below w.heap.size w w' := by
  refine (right_any h r hr hn).mono ?_
  rintro e w' ⟨b, rfl, hb, hB⟩
  rw [hb.2 hR]
  exact ⟨rfl, hB⟩
theorem right_no {w : World} {a : Option Addr} {n c : Nat} {f : Nat → Int} (h : Sl w a n c f) (r : Nat) (hr : r ≤ n) (hn : n ≤ 255) (hR : ¬ Rt n f r) :
    Calls Try.prog 17 #[.slice a n c, .int .i64 (r : Int)] w fun e w' => e = .returned (.bool false) ∧ Below w.heap.size w w' := by
  refine (right_any h r hr hn).mono ?_
  rintro e w' ⟨b, rfl, hb, hB⟩
  cases b with
  | true => exact (hR (hb.1 rfl)).elim
  | false => exact ⟨rfl, hB⟩

theorem check_badB (a : Option Addr) (n c : Nat) (r : Int) (w : World) (hn : n ≤ maxLen) (hr : r < 0 ∨ 255 - (n : Int) < r) :
    Calls Try.prog 15 #[.slice a n c, .int .i64 r] w fun e w' => e = .returned (.tuple #[.slice none 0 0, .int .i64 1]) ∧ Below w.heap.size w w' := by
  refine (check_bad a n c r w hn hr).mono ?_
  rintro e w' ⟨rfl, rfl⟩
  exact ⟨rfl, Below.refl _ _⟩
theorem right_badB (a : Option Addr) (n c : Nat) (r : Int) (w : World) (hn : n ≤ maxLen) (hr : 255 < n ∨ r < 0 ∨ (n : Int) < r) :
    Calls Try.prog 17 #[.slice a n c, .int .i64 r] w fun e w' => e = .returned (.bool false) ∧ Below w.heap.size w w' := by
  refine (right_bad a n c r w hn hr).mono ?_
  rintro e w' ⟨rfl, rfl⟩
  exact ⟨rfl, Below.refl _ _⟩
theorem sums_badB (a : Option Addr) (n c : Nat) (r : Int) (w : World) (hn : n ≤ maxLen) (hr : 255 < n ∨ r < 0 ∨ 255 < r) :
    Calls Try.prog 20 #[.slice a n c, .int .i64 r] w fun e w' => e = .returned (.tuple #[.slice none 0 0, .int .i64 1]) ∧ Below w.heap.size w w' := by
  refine (sums_bad a n c r w hn hr).mono ?_
  rintro e w' ⟨rfl, rfl⟩
  exact ⟨rfl, Below.refl _ _⟩

theorem vh_one {f : Nat → Int} (hf : P16 f) (n : Nat) : vh (al 0) n f = sm n f := by
  induction n with
  | zero => rfl
  | succ n ih =>
    show xI (gI (vh (al 0) n f) (al 0)) (f n) = xI (sm n f) (f n)
    rw [ih, al_zero, f8 _ (sm16 fun j _ => hf j).1]
/-- One check is the sum. -/
theorem Chk.one {n : Nat} {f c : Nat → Int} (hf : P16 f) (hfo : ∀ j, n ≤ j → f j = 0) (h : Chk n f 1 c) : c 0 = sm n f := by
  have h1 := h.val hf hfo 0 (by decide)
  rw [vh_one hf, vh_one h.bd] at h1
  have h2 : xI (sm n f) (f n) = xI 0 (c 0) := h1
  rw [hfo n (Nat.le_refl _), f6 _ (sm16 fun j _ => hf j).1, x0 (h.bd 0)] at h2
  exact h2.symm
theorem rt_nul {n r : Nat} {f : Nat → Int} (h : ∀ j, j < n → f j = 0) : Rt n f r := fun j _ => vh_nul _ h
theorem chk_nul (n r : Nat) : Chk n nul r nul := ⟨nul16, fun _ _ => rfl, rt_nul fun j _ => by show (if j < n then nul j else nul (j - n)) = 0; split <;> rfl⟩

end Go.Proofs.Ytdbdidohldhnhaa
