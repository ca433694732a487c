/- Lists written out, and what the calls of rs say of them; data and their checks as one word. -/
import Derived.Test.YtfinicoipoleaaaChks
import Derived.OwnWalk
import Derived.Maps.AppendAt
namespace Go.Proofs.Ytfinicoipoleaaa
open Go.RowKit Gf
set_option linter.unusedVariables false

/-- A list written out. -/
def lf (xs : List Int) : Nat → Int := fun k => xs[k]?.getD 0
theorem lf_out (xs : List Int) (j : Nat) (h : xs.length ≤ j) : lf xs j = 0 := by simp [lf, List.getElem?_eq_none h]
theorem lf16 {xs : List Int} (h : ∀ x ∈ xs, 0 ≤ x ∧ x ≤ 65535) : P16 (lf xs) := fun j => by
  by_cases hj : j < xs.length
  · simp only [lf, List.getElem?_eq_getElem hj, Option.getD_some]
    exact h _ (List.getElem_mem hj)
  · rw [lf_out xs j (by omega)]; exact z16
theorem sl_lit (w : World) (xs : List Int) (h : ∀ x ∈ xs, 0 ≤ x ∧ x ≤ 65535) : Sl (w.alloc (.cells (xs.map (Value.int .u16)).toArray 27)) (some ⟨w.heap.size, 0, none⟩) xs.length xs.length (lf xs) := by
  refine ⟨lf16 h, lf_out xs, Nat.le_refl _, fun e => (by cases e), .inr ⟨_, _, rfl, by simp, fun j hj => ?_⟩⟩
  have hr := World.rowIs_alloc w (xs.map (Value.int .u16)).toArray 27 (fun j => .int .u16 (lf xs j)) (fun i hi => by
    have hi' : i < xs.length := by simpa using hi
    simp [lf, hi'])
  rw [Nat.zero_add]
  exact hr.cell (by simpa using hj)
theorem bel_lit (w : World) (o : Obj) : Below w.heap.size w (w.alloc o) := (Below.refl _ _).alloc (Nat.le_refl _) _
theorem sl_nil (w : World) : Sl w none 0 0 nul := ⟨nul16, fun _ _ => rfl, Nat.le_refl _, fun _ => rfl, .inl rfl⟩

theorem right_yes {w : World} {a : Option Addr} {n c : Nat} {f : Nat → Int} (h : Sl w a n c f) (r : Nat) (hr : r ≤ n) (hn : n ≤ 255) (hR : Rt n f r) :
    Calls Try.prog 12 #[.slice a n c, .int .i64 (r : Int)] w fun e w' => e = .returned (.bool true) ∧ Below w.heap.size w w' := by
  refine (right_any h r hr hn).mono ?_
  rintro e w' ⟨b, rfl, hb, hB⟩
  rw [hb.2 hR]
  exact ⟨rfl, hB⟩
theorem right_no {w : World} {a : Option Addr} {n c : Nat} {f : Nat → Int} (h : Sl w a n c f) (r : Nat) (hr : r ≤ n) (hn : n ≤ 255) (hR : ¬ Rt n f r) :
    Calls Try.prog 12 #[.slice a n c, .int .i64 (r : Int)] w fun e w' => e = .returned (.bool false) ∧ Below w.heap.size w w' := by
  refine (right_any h r hr hn).mono ?_
  rintro e w' ⟨b, rfl, hb, hB⟩
  cases b with
  | true => exact (hR (hb.1 rfl)).elim
  | false => exact ⟨rfl, hB⟩

theorem check_badB (a : Option Addr) (n c : Nat) (r : Int) (w : World) (hn : n ≤ maxLen) (hr : r < 0 ∨ 255 - (n : Int) < r) :
    Calls Try.prog 10 #[.slice a n c, .int .i64 r] w fun e w' => e = .returned (.tuple #[.slice none 0 0, .int .i64 1]) ∧ Below w.heap.size w w' := by
  refine (check_bad a n c r w hn hr).mono ?_
  rintro e w' ⟨rfl, rfl⟩
  exact ⟨rfl, Below.refl _ _⟩
theorem right_badB (a : Option Addr) (n c : Nat) (r : Int) (w : World) (hn : n ≤ maxLen) (hr : 255 < n ∨ r < 0 ∨ (n : Int) < r) :
    Calls Try.prog 12 #[.slice a n c, .int .i64 r] w fun e w' => e = .returned (.bool false) ∧ Below w.heap.size w w' := by
  refine (right_bad a n c r w hn hr).mono ?_
  rintro e w' ⟨rfl, rfl⟩
  exact ⟨rfl, Below.refl _ _⟩
theorem sums_badB (a : Option Addr) (n c : Nat) (r : Int) (w : World) (hn : n ≤ maxLen) (hr : 255 < n ∨ r < 0 ∨ 255 < r) :
    Calls Try.prog 11 #[.slice a n c, .int .i64 r] w fun e w' => e = .returned (.tuple #[.slice none 0 0, .int .i64 1]) ∧ Below w.heap.size w w' := by
  refine (sums_bad a n c r w hn hr).mono ?_
  rintro e w' ⟨rfl, rfl⟩
  exact ⟨rfl, Below.refl _ _⟩

theorem vh_one {f : Nat → Int} (hf : P16 f) (n : Nat) : vh (al 0) n f = sm n f := by
  induction n with
  | zero => rfl
  | succ n ih =>
    show xI (gI (vh (al 0) n f) (al 0)) (f n) = xI (sm n f) (f n)
    rw [ih, al_zero, f8 _ (sm16 fun j _ => hf j).1]
/-- One check is the sum. -/
theorem Chk.one {n : Nat} {f c : Nat → Int} (hf : P16 f) (hfo : ∀ j, n ≤ j → f j = 0) (h : Chk n f 1 c) : c 0 = sm n f := by
  have h1 := h.val hf hfo 0 (by decide)
  rw [vh_one hf, vh_one h.bd] at h1
  have h2 : xI (sm n f) (f n) = xI 0 (c 0) := h1
  rw [hfo n (Nat.le_refl _), f6 _ (sm16 fun j _ => hf j).1, x0 (h.bd 0)] at h2
  exact h2.symm
theorem rt_nul {n r : Nat} {f : Nat → Int} (h : ∀ j, j < n → f j = 0) : Rt n f r := fun j _ => vh_nul _ h
theorem chk_nul (n r : Nat) : Chk n nul r nul := ⟨nul16, fun _ _ => rfl, rt_nul fun j _ => by show (if j < n then nul j else nul (j - n)) = 0; split <;> rfl⟩

/- the examples -/
set_option maxRecDepth 100000 in
set_option maxHeartbeats 4000000 in
theorem works_any (w : World) : Calls Try.prog 9 #[] w fun e w' => e = .returned (.bool true) ∧ Below w.heap.size w w' := by
  have hT := Below.refl w.heap.size w
  have ex1 : sm 1 (lf [7]) = 7 := by decide +kernel
  have ex2 : ¬ Rt 1 (lf [1]) 1 := fun h => absurd (h 0 (by decide)) (by decide +kernel)
  have ex3 : Rt 2 (lf [1, 1]) 1 := fun j hj => by rw [show j = 0 from by omega]; decide +kernel
  have HX := hide (And.intro ex2 ex3)
  clear ex2 ex3
  have l1 : Sl (w.alloc (.cells #[.int .u16 7] 27)) (some ⟨w.heap.size, 0, none⟩) 1 1 (lf [7]) := by have := sl_lit w [7] (by decide); (try simp only [World.size_alloc] at this); exact this
  have bl1 := bel_lit w (.cells #[.int .u16 7] 27)
  replace hT := hT.trans (bl1.mono hT.size)
  clear bl1
  go_enter Try.func9, Try.ntmps9
  go_wp2_with fail
  refine (check_any l1 1 (by decide)).mono ?_
  rintro e w2 ⟨a2, c2, g2, rfl, h2, q2⟩
  replace l1 := l1.below h2.bel
  replace hT := hT.trans (h2.bel.mono hT.size)
  replace h2 := h2.sl
  clear l1
  have e7 : g2 0 = 7 := (q2.one (n := 1) (lf16 (xs := [7]) (by decide)) (lf_out [7])).trans ex1
  clear q2
  go_wp2_with fail
  refine (check_any (sl_nil w2) 2 (by decide)).mono ?_
  rintro e w3 ⟨a3, c3, g3, rfl, h3, q3⟩
  replace h2 := h2.below h3.bel
  replace hT := hT.trans (h3.bel.mono hT.size)
  replace h3 := h3.sl
  obtain rfl := q3.uniq (by decide) nul16 (chk_nul 0 2)
  clear q3
  have l4 : Sl (w3.alloc (.cells #[.int .u16 1] 27)) (some ⟨w3.heap.size, 0, none⟩) 1 1 (lf [1]) := by have := sl_lit w3 [1] (by decide); (try simp only [World.size_alloc] at this); exact this
  have bl4 := bel_lit w3 (.cells #[.int .u16 1] 27)
  replace h2 := h2.below bl4
  replace h3 := h3.below bl4
  replace hT := hT.trans (bl4.mono hT.size)
  clear bl4
  go_wp2_with fail
  refine (check_badB _ 1 1 255 _ (by decide) (.inr (by decide))).mono ?_
  rintro e w5 ⟨rfl, b5⟩
  replace h2 := h2.below b5
  replace h3 := h3.below b5
  replace l4 := l4.below b5
  replace hT := hT.trans (b5.mono hT.size)
  clear b5
  clear l4
  have eb := beq_yes e7
  obtain ⟨b0, o0, rfl, hb0, hc0⟩ := h2.at'.resolve_left (by decide)
  have hx := hc0 0 (by decide)
  rw [Nat.add_zero, e7] at hx
  clear h2
  clear hc0 hb0
  have l6 : Sl (w5.alloc (.cells #[.int .u16 0, .int .u16 0] 27)) (some ⟨w5.heap.size, 0, none⟩) 2 2 (lf [0, 0]) := by have := sl_lit w5 [0, 0] (by decide); (try simp only [World.size_alloc] at this); exact this
  have bl6 := bel_lit w5 (.cells #[.int .u16 0, .int .u16 0] 27)
  replace h3 := h3.below bl6
  replace hT := hT.trans (bl6.mono hT.size)
  clear bl6
  go_wp2_with fail
  refine (same_any h3 l6 (by decide) rfl (funext fun j => by cases j with | zero => rfl | succ j => cases j with | zero => rfl | succ j => exact (lf_out [0, 0] _ (by simp)).symm)).mono ?_
  rintro e w7 ⟨rfl, b7⟩
  replace h3 := h3.below b7
  replace l6 := l6.below b7
  replace hT := hT.trans (b7.mono hT.size)
  clear b7
  clear h3 l6
  have l8 : Sl (w7.alloc (.cells #[.int .u16 0, .int .u16 0, .int .u16 0] 27)) (some ⟨w7.heap.size, 0, none⟩) 3 3 (lf [0, 0, 0]) := by have := sl_lit w7 [0, 0, 0] (by decide); (try simp only [World.size_alloc] at this); exact this
  have bl8 := bel_lit w7 (.cells #[.int .u16 0, .int .u16 0, .int .u16 0] 27)
  replace hT := hT.trans (bl8.mono hT.size)
  clear bl8
  go_wp2_with fail
  refine (right_yes l8 2 (by decide) (by decide) (rt_nul (by decide))).mono ?_
  rintro e w9 ⟨rfl, b9⟩
  replace l8 := l8.below b9
  replace hT := hT.trans (b9.mono hT.size)
  clear b9
  clear l8
  have l10 : Sl (w9.alloc (.cells #[.int .u16 1] 27)) (some ⟨w9.heap.size, 0, none⟩) 1 1 (lf [1]) := by have := sl_lit w9 [1] (by decide); (try simp only [World.size_alloc] at this); exact this
  have bl10 := bel_lit w9 (.cells #[.int .u16 1] 27)
  replace hT := hT.trans (bl10.mono hT.size)
  clear bl10
  go_wp2_with fail
  refine (right_no l10 1 (by decide) (by decide) HX.out.1).mono ?_
  rintro e w11 ⟨rfl, b11⟩
  replace l10 := l10.below b11
  replace hT := hT.trans (b11.mono hT.size)
  clear b11
  clear l10
  have l12 : Sl (w11.alloc (.cells #[.int .u16 1, .int .u16 1] 27)) (some ⟨w11.heap.size, 0, none⟩) 2 2 (lf [1, 1]) := by have := sl_lit w11 [1, 1] (by decide); (try simp only [World.size_alloc] at this); exact this
  have bl12 := bel_lit w11 (.cells #[.int .u16 1, .int .u16 1] 27)
  replace hT := hT.trans (bl12.mono hT.size)
  clear bl12
  go_wp2_with fail
  refine (right_yes l12 1 (by decide) (by decide) HX.out.2).mono ?_
  rintro e w13 ⟨rfl, b13⟩
  replace l12 := l12.below b13
  replace hT := hT.trans (b13.mono hT.size)
  clear b13
  clear l12
  go_wp2_with fail
  go_ret
  exact ⟨rfl, hT⟩

end Go.Proofs.Ytfinicoipoleaaa
