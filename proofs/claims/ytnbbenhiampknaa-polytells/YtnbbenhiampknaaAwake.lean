/- The examples, as the statements' own helper awake asks them: it returns true, and nothing that was there is changed. No condition. -/
import Derived.Test.YtnbbenhiampknaaDivM
namespace Go.Proofs.Ytnbbenhiampknaa
open Go.RowKit Gf
set_option linter.unusedVariables false

/-- A list written out. -/
def lf (xs : List Int) : Nat → Int := fun k => xs[k]?.getD 0
theorem lf_out (xs : List Int) (j : Nat) (h : xs.length ≤ j) : lf xs j = 0 := by simp [lf, List.getElem?_eq_none h]
theorem lf_eq {f : Nat → Int} {xs : List Int} (hout : ∀ j, xs.length ≤ j → f j = 0) (h : ∀ j, j < xs.length → f j = lf xs j) : f = lf xs := funext fun j => by
  by_cases hj : j < xs.length
  · exact h j hj
  · rw [hout j (by omega), lf_out xs j (by omega)]
theorem lf16 {xs : List Int} (h : ∀ x ∈ xs, 0 ≤ x ∧ x ≤ 65535) : P16 (lf xs) := fun j => by
  by_cases hj : j < xs.length
  · simp only [lf, List.getElem?_eq_getElem hj, Option.getD_some]
    exact h _ (List.getElem_mem hj)
  · rw [lf_out xs j (by omega)]; exact z16
theorem sl_lit (w : World) (xs : List Int) (h : ∀ x ∈ xs, 0 ≤ x ∧ x ≤ 65535) : Sl (w.alloc (.cells (xs.map (Value.int .u16)).toArray 23)) (some ⟨w.heap.size, 0, none⟩) xs.length xs.length (lf xs) := by
  refine ⟨lf16 h, lf_out xs, Nat.le_refl _, fun e => (by cases e), .inr ⟨_, _, rfl, by simp, fun j hj => ?_⟩⟩
  have hr := World.rowIs_alloc w (xs.map (Value.int .u16)).toArray 23 (fun j => .int .u16 (lf xs j)) (fun i hi => by
    have hi' : i < xs.length := by simpa using hi
    simp [lf, hi'])
  rw [Nat.zero_add]
  exact hr.cell (by simpa using hj)
theorem bel_lit (w : World) (o : Obj) : Below w.heap.size w (w.alloc o) := (Below.refl _ _).alloc (Nat.le_refl _) _

theorem same_sh {w : World} {a a' : Option Addr} {n c n' c' : Nat} {f g : Nat → Int} (h : Sl w a n c f) (h' : Sl w a' n' c' g) (hs : Shr f n) (hs' : Shr g n') (hn : n ≤ 4000) (e : f = g) :
    Calls Try.prog 25 #[.slice a n c, .slice a' n' c'] w fun e w' => e = .returned (.bool true) ∧ Below w.heap.size w w' := same_any h h' hn (hs.uniq (e ▸ hs')) e

theorem ex_mul : mulp (lf [1, 1]) (lf [1, 1]) = lf [1, 0, 1] := by
  rw [← pm_mulp (n := 2) (lf16 (by decide)) (lf_out [1, 1])]
  exact lf_eq (fun j hj => pm_out (m := 2) (lf_out [1, 1]) 2 j (by simp at hj; omega) (by decide)) (by decide +kernel)
theorem shr_lit (xs : List Int) (h : xs ≠ [] → lf xs (xs.length - 1) ≠ 0) : Shr (lf xs) xs.length := by
  refine ⟨?_, lf_out xs⟩
  cases xs with
  | nil => exact .inl rfl
  | cons x xs => exact .inr (h (by simp))
theorem ex_of : ofp (lf [2, 3]) 2 = lf [6, 1, 1] := lf_eq (fun j hj => ofp_out _ 2 j hj) (by decide +kernel)
theorem ex_slope : slp (lf [5, 6, 7, 8]) = lf [6, 0, 8] := lf_eq (fun j hj => by unfold slp; rw [lf_out _ (j + 1) (by simp at hj ⊢; omega)]; simp) (by decide +kernel)
theorem ex_at : atp 2 3 (lf [3, 0, 1]) = 7 := by decide +kernel

set_option maxRecDepth 100000 in
set_option maxHeartbeats 2000000 in
theorem awake_any (w : World) : Calls Try.prog 9 #[] w fun e w' => e = .returned (.bool true) ∧ Below w.heap.size w w' := by
  have s1 : Sl (w.alloc (.cells #[.int .u16 1, .int .u16 0, .int .u16 1] 23)) (some ⟨w.heap.size, 0, none⟩) 3 3 (lf [1, 0, 1]) := sl_lit w [1, 0, 1] (by decide)
  have s2 := sl_lit (w.alloc (.cells #[.int .u16 1, .int .u16 0, .int .u16 1] 23)) [1, 1] (by decide)
  rw [World.size_alloc] at s2
  have s2 : Sl ((w.alloc (.cells #[.int .u16 1, .int .u16 0, .int .u16 1] 23)).alloc (.cells #[.int .u16 1, .int .u16 1] 23)) (some ⟨w.heap.size + 1, 0, none⟩) 2 2 (lf [1, 1]) := s2
  have s1' := s1.alloc (.cells #[.int .u16 1, .int .u16 1] 23)
  have hT := (bel_lit w (.cells #[.int .u16 1, .int .u16 0, .int .u16 1] 23)).trans ((bel_lit _ (.cells #[.int .u16 1, .int .u16 1] 23)).mono (by simp))
  have HS := hide (And.intro s1' (And.intro s2 hT))
  clear s1 s2 s1' hT
  go_enter Try.func9, Try.ntmps9
  go_wp2_with fail
  obtain ⟨s1', s2, hT⟩ := HS.out
  have hsh : Shr (lf [1, 1]) (1 + 1) := shr_lit [1, 1] (by decide)
  refine (div_any (m := 1) s1' s2 (by decide) (by decide) hsh).mono ?_
  rintro e w1 ⟨aq, nq, cq, ar, nr, cr, q, r, rfl, hq, hr, hsq, hsr, hnr, hnq, hnr', heq, hro, _⟩
  have hu := div_uniq (N := nq + 2) (lf16 (xs := [1, 1]) (by decide)) (shr_lit [1, 1] (by decide)) hq.sl.bd hr.sl.bd (lf16 (xs := [1, 1]) (by decide)) nul16 (fun j hj => hsq.2 j (by omega)) (fun j hj => lf_out [1, 1] j (by simp; omega)) hro (fun _ _ => rfl) (heq.trans (by rw [ex_mul, addp_nul (lf16 (by decide))]))
  obtain ⟨rfl, rfl⟩ := hu
  obtain rfl := hsq.uniq (shr_lit [1, 1] (by decide))
  obtain rfl := hsr.uniq (n := 0) ⟨.inl rfl, fun _ _ => rfl⟩
  replace hT := hT.trans (hq.bel.mono hT.size)
  have hQ := hq.sl
  clear s2 s1' hq hr hsq hsr hnr hnq hnr' heq hro hsh HS
  have l2 : Sl (w1.alloc (.cells #[.int .u16 1, .int .u16 1] 23)) (some ⟨w1.heap.size, 0, none⟩) 2 2 (lf [1, 1]) := by have := sl_lit w1 [1, 1] (by decide); (try simp only [World.size_alloc] at this); exact this
  have bl2 := bel_lit w1 (.cells #[.int .u16 1, .int .u16 1] 23)
  replace hQ := hQ.below bl2
  replace hT := hT.trans (bl2.mono hT.size)
  clear bl2
  have l3 : Sl ((w1.alloc (.cells #[.int .u16 1, .int .u16 1] 23)).alloc (.cells #[.int .u16 1, .int .u16 1] 23)) (some ⟨w1.heap.size + 1, 0, none⟩) 2 2 (lf [1, 1]) := by have := sl_lit (w1.alloc (.cells #[.int .u16 1, .int .u16 1] 23)) [1, 1] (by decide); (try simp only [World.size_alloc] at this); exact this
  have bl3 := bel_lit (w1.alloc (.cells #[.int .u16 1, .int .u16 1] 23)) (.cells #[.int .u16 1, .int .u16 1] 23)
  replace hQ := hQ.below bl3
  replace l2 := l2.below bl3
  replace hT := hT.trans (bl3.mono hT.size)
  clear bl3
  go_wp2_with fail
  refine (pmul_any l2 l3 (by decide) (by decide)).mono ?_
  rintro e w4 ⟨a4, n4, c4, rfl, m4, s4, h4⟩
  replace hQ := hQ.below h4.bel
  replace l2 := l2.below h4.bel
  replace l3 := l3.below h4.bel
  replace hT := hT.trans (h4.bel.mono hT.size)
  replace h4 := h4.sl
  clear l2 l3
  have l5 : Sl (w4.alloc (.cells #[.int .u16 1, .int .u16 0, .int .u16 1] 23)) (some ⟨w4.heap.size, 0, none⟩) 3 3 (lf [1, 0, 1]) := by have := sl_lit w4 [1, 0, 1] (by decide); (try simp only [World.size_alloc] at this); exact this
  have bl5 := bel_lit w4 (.cells #[.int .u16 1, .int .u16 0, .int .u16 1] 23)
  replace hQ := hQ.below bl5
  replace h4 := h4.below bl5
  replace hT := hT.trans (bl5.mono hT.size)
  clear bl5
  go_wp2_with fail
  refine (same_sh h4 l5 s4 (shr_lit [1, 0, 1] (by decide)) (by omega) ex_mul).mono ?_
  rintro e w6 ⟨rfl, b6⟩
  replace hQ := hQ.below b6
  replace h4 := h4.below b6
  replace l5 := l5.below b6
  replace hT := hT.trans (b6.mono hT.size)
  clear b6
  clear l5 h4
  have l7 : Sl (w6.alloc (.cells #[.int .u16 1, .int .u16 1] 23)) (some ⟨w6.heap.size, 0, none⟩) 2 2 (lf [1, 1]) := by have := sl_lit w6 [1, 1] (by decide); (try simp only [World.size_alloc] at this); exact this
  have bl7 := bel_lit w6 (.cells #[.int .u16 1, .int .u16 1] 23)
  replace hQ := hQ.below bl7
  replace hT := hT.trans (bl7.mono hT.size)
  clear bl7
  go_wp2_with fail
  refine (same_any hQ l7 (by decide) rfl rfl).mono ?_
  rintro e w8 ⟨rfl, b8⟩
  replace hQ := hQ.below b8
  replace l7 := l7.below b8
  replace hT := hT.trans (b8.mono hT.size)
  clear b8
  clear l7 hQ
  have l9 : Sl (w8.alloc (.cells #[.int .u16 3, .int .u16 0, .int .u16 1] 23)) (some ⟨w8.heap.size, 0, none⟩) 3 3 (lf [3, 0, 1]) := by have := sl_lit w8 [3, 0, 1] (by decide); (try simp only [World.size_alloc] at this); exact this
  have bl9 := bel_lit w8 (.cells #[.int .u16 3, .int .u16 0, .int .u16 1] 23)
  replace hT := hT.trans (bl9.mono hT.size)
  clear bl9
  go_wp2_with fail
  refine (at_any l9 (by decide) (by decide)).mono ?_
  rintro e w10 ⟨rfl, b10⟩
  replace l9 := l9.below b10
  replace hT := hT.trans (b10.mono hT.size)
  clear b10
  clear l9
  rw [ex_at]
  have l11 : Sl (w10.alloc (.cells #[.int .u16 5, .int .u16 6, .int .u16 7, .int .u16 8] 23)) (some ⟨w10.heap.size, 0, none⟩) 4 4 (lf [5, 6, 7, 8]) := by have := sl_lit w10 [5, 6, 7, 8] (by decide); (try simp only [World.size_alloc] at this); exact this
  have bl11 := bel_lit w10 (.cells #[.int .u16 5, .int .u16 6, .int .u16 7, .int .u16 8] 23)
  replace hT := hT.trans (bl11.mono hT.size)
  clear bl11
  go_wp2_with fail
  refine (slope_any l11 (by decide)).mono ?_
  rintro e w12 ⟨a12, n12, c12, rfl, m12, s12, h12⟩
  replace l11 := l11.below h12.bel
  replace hT := hT.trans (h12.bel.mono hT.size)
  replace h12 := h12.sl
  clear l11
  have l13 : Sl (w12.alloc (.cells #[.int .u16 6, .int .u16 0, .int .u16 8] 23)) (some ⟨w12.heap.size, 0, none⟩) 3 3 (lf [6, 0, 8]) := by have := sl_lit w12 [6, 0, 8] (by decide); (try simp only [World.size_alloc] at this); exact this
  have bl13 := bel_lit w12 (.cells #[.int .u16 6, .int .u16 0, .int .u16 8] 23)
  replace h12 := h12.below bl13
  replace hT := hT.trans (bl13.mono hT.size)
  clear bl13
  go_wp2_with fail
  refine (same_sh h12 l13 s12 (shr_lit [6, 0, 8] (by decide)) (by omega) ex_slope).mono ?_
  rintro e w14 ⟨rfl, b14⟩
  replace h12 := h12.below b14
  replace l13 := l13.below b14
  replace hT := hT.trans (b14.mono hT.size)
  clear b14
  clear l13 h12
  have l15 : Sl (w14.alloc (.cells #[.int .u16 2, .int .u16 3] 23)) (some ⟨w14.heap.size, 0, none⟩) 2 2 (lf [2, 3]) := by have := sl_lit w14 [2, 3] (by decide); (try simp only [World.size_alloc] at this); exact this
  have bl15 := bel_lit w14 (.cells #[.int .u16 2, .int .u16 3] 23)
  replace hT := hT.trans (bl15.mono hT.size)
  clear bl15
  go_wp2_with fail
  refine (of_any l15 (by decide)).mono ?_
  rintro e w16 ⟨a16, c16, rfl, h16⟩
  replace l15 := l15.below h16.bel
  replace hT := hT.trans (h16.bel.mono hT.size)
  replace h16 := h16.sl
  clear l15
  have l17 : Sl (w16.alloc (.cells #[.int .u16 6, .int .u16 1, .int .u16 1] 23)) (some ⟨w16.heap.size, 0, none⟩) 3 3 (lf [6, 1, 1]) := by have := sl_lit w16 [6, 1, 1] (by decide); (try simp only [World.size_alloc] at this); exact this
  have bl17 := bel_lit w16 (.cells #[.int .u16 6, .int .u16 1, .int .u16 1] 23)
  replace h16 := h16.below bl17
  replace hT := hT.trans (bl17.mono hT.size)
  clear bl17
  go_wp2_with fail
  refine (same_any h16 l17 (by decide) rfl ex_of).mono ?_
  rintro e w18 ⟨rfl, b18⟩
  replace h16 := h16.below b18
  replace l17 := l17.below b18
  replace hT := hT.trans (b18.mono hT.size)
  clear b18
  clear l17 h16
  go_wp2_with fail
  go_ret
  exact ⟨rfl, hT⟩

end Go.Proofs.Ytnbbenhiampknaa
