/- The examples, as the statements' own helper awake asks them: it returns true, and nothing that was there is changed. No condition. -/
import Derived.Test.YtdbdidohldhnhaaDWord
namespace Go.Proofs.Ytdbdidohldhnhaa
open Go.RowKit Gf
set_option linter.unusedVariables false

theorem cnt_single {n q : Nat} {d : Nat → Int} (h : ∀ i, i < n → i ≠ q → d i = 0) : cnt n d ≤ 1 := by
  have := cnt_three (n := n) (d := d) (a := fun _ => 0) (b := fun _ => 0) (p := fun i => (q : Int) == (i : Int)) (fun i hi hp _ _ => h i hi (fun e => by subst e; simp at hp))
  have h0 : ∀ k, cnt k (fun _ => (0 : Int)) = 0 := by
    intro k
    induction k with
    | zero => rfl
    | succ k ih => show cnt k _ + (if (0 : Int) = 0 then 0 else 1) = 0; rw [ih, if_pos rfl]
  rw [h0] at this
  have := (cb_one n (q : Int)).1
  omega
theorem cnt_none {n : Nat} {d : Nat → Int} (h : ∀ i, i < n → d i = 0) : cnt n d = 0 := by
  have := cnt_le (n := n) (d := fun _ => 0) (d' := d) (fun i hi _ => h i hi)
  have h0 : ∀ k, cnt k (fun _ => (0 : Int)) = 0 := by
    intro k
    induction k with
    | zero => rfl
    | succ k ih => show cnt k _ + (if (0 : Int) = 0 then 0 else 1) = 0; rw [ih, if_pos rfl]
  rw [h0] at this
  omega
theorem il_nil (w : World) : Il w none 0 0 nul := ⟨fun j => by unfold I64 nul; decide, fun _ _ => rfl, Nat.le_refl _, fun _ => rfl, .inl rfl⟩
theorem gn_nil (gl : Nat → Int) (n : Nat) : Gn gl 0 n := ⟨fun k hk => by omega, fun i j hi => by omega⟩
/-- A list of ints written out. -/
theorem il_lit (w : World) (xs : List Int) (h : ∀ x ∈ xs, I64 x) : Il (w.alloc (.cells (xs.map (Value.int .i64)).toArray 3)) (some ⟨w.heap.size, 0, none⟩) xs.length xs.length (lf xs) := by
  refine ⟨fun j => ?_, lf_out xs, Nat.le_refl _, fun e => (by cases e), .inr ⟨_, _, rfl, by simp, fun j hj => ?_⟩⟩
  · by_cases hj : j < xs.length
    · simp only [lf, List.getElem?_eq_getElem hj, Option.getD_some]
      exact h _ (List.getElem_mem hj)
    · rw [lf_out xs j (by omega)]; unfold I64; decide
  · have hr := World.rowIs_alloc w (xs.map (Value.int .i64)).toArray 3 (fun j => .int .i64 (lf xs j)) (fun i hi => by
      have hi' : i < xs.length := by simpa using hi
      simp [lf, hi'])
    rw [Nat.zero_add]
    exact hr.cell (by simpa using hj)
theorem Wr.put16 {w : World} {b off n : Nat} {f : Nat → Int} (h : Wr w b off n f) (i : Nat) (hi : i < n) (y : Int) (c : Nat) (hc : n ≤ c) (hy : 0 ≤ y ∧ y ≤ 65535) (bd : P16 f) (out : ∀ j, n ≤ j → f j = 0) :
    Sl (w.setCell ⟨b, off + i, none⟩ (.int .u16 y)) (some ⟨b, off, none⟩) n c (fun j => if j = i then y else f j) :=
  (h.set i hi y).sl c hc (fun j => by
    show 0 ≤ (if j = i then y else f j) ∧ (if j = i then y else f j) ≤ 65535
    split
    · exact hy
    · exact bd j) (fun j hj => by rw [if_neg (by omega)]; exact out j hj)

set_option maxRecDepth 100000 in
set_option maxHeartbeats 4000000 in
theorem dawake_any (w : World) : Calls Try.prog 9 #[] w fun e w' => e = .returned (.bool true) ∧ Below w.heap.size w w' := by
  have l1 : Sl (w.alloc (.cells #[.int .u16 1, .int .u16 2, .int .u16 3] 29)) (some ⟨w.heap.size, 0, none⟩) 3 3 (lf [1, 2, 3]) := sl_lit w [1, 2, 3] (by decide)
  have b1 := bel_lit w (.cells #[.int .u16 1, .int .u16 2, .int .u16 3] 29)
  have d16 : P16 (lf [1, 2, 3]) := lf16 (by decide)
  have HD := hide d16
  clear d16
  go_enter Try.func9, Try.ntmps9
  go_wp2_with fail
  refine (check_any l1 2 (by decide)).mono ?_
  rintro e w2 ⟨a2, c2, ck, rfl, h2, hk⟩
  have HK := hide hk
  have HB2 := hide (b1.trans (h2.bel.mono b1.size))
  have HO2 := hide (owns_nil w2 nul)
  have HBL2 := hide (bel_lit w2 (.cells #[] 29))
  have HL2 := hide ((l1.below h2.bel).alloc (.cells #[] 29))
  have HC2 := hide h2.sl
  clear l1 b1 h2 hk
  go_wp2_with (first
    | (refine append_sl rfl (.tmp 23) (.tmp 24) rfl w2.heap.size _ 0 nul rfl HO2.out _ 3 3 (lf [1, 2, 3]) rfl HL2.out (by decide) (by simp) w2 HBL2.out ?_
       intro v3 w3 hown3 hb3
       rw [Nat.zero_add, cat_nil] at hown3
       have HO3 := hide hown3
       have HB3 := hide hb3
       clear hown3 hb3)
    | (refine append_sl rfl (.tmp 25) (.tmp 26) rfl w2.heap.size _ 3 (lf [1, 2, 3]) rfl HO3.out _ 2 c2 ck rfl (HC2.out.below HB3.out) (by decide) HB3.out.size w2 HB3.out ?_
       intro v4 w4 hown4 hb4
       obtain ⟨a4, c4, hv4, h4⟩ := new_of_owns hown4 hb4 (cat16 HD.out HK.out.bd) (cat_out HK.out.out)
       subst hv4
       obtain ⟨W, hW⟩ : ∃ W, cat 3 (lf [1, 2, 3]) ck = W := ⟨_, rfl⟩
       have hR : Rt 5 W 2 := by rw [← hW]; exact HK.out.rt
       rw [hW] at h4
       have HR := hide hR
       have HN4 := hide h4
       have HB4 := hide (HB2.out.trans (h4.bel.mono HB2.out.size))
       have HO5 := hide (owns_nil w4 nul)
       have HBL5 := hide (bel_lit w4 (.cells #[] 29))
       have HL5 := hide (h4.sl.alloc (.cells #[] 29))
       clear hown4 hb4 h4 hW hR)
    | (refine append_sl rfl (.tmp 28) (.tmp 29) rfl w4.heap.size _ 0 nul rfl HO5.out _ 5 c4 W rfl HL5.out (by decide) (by simp) w4 HBL5.out ?_
       intro v5 w5 hown5 hb5
       rw [Nat.zero_add, cat_nil] at hown5
       obtain ⟨a5, c5, hv5, h5⟩ := new_of_owns hown5 hb5 HN4.out.sl.bd HN4.out.sl.out
       subst hv5
       obtain ⟨b5, o5, ha5, hb5', hw5⟩ := h5.own.resolve_left (by decide)
       subst ha5
       have hc5 := h5.sl.cap
       have k5 := hw5.cell 1 (by decide)
       have z5 := hw5.free 1 (by decide)
       have HW5 := hide hw5
       have HN5 := hide h5
       clear hown5 hb5 h5 hw5))
  have hS5 := HW5.out.put16 1 (by decide) 999 c5 hc5 (by decide) HN4.out.sl.bd HN4.out.sl.out
  have hB5 := HN5.out.bel.trans ((Only.setCell b5 (o5 + 1) w5 (.int .u16 999)).below hb5')
  obtain ⟨w6, hw6⟩ : ∃ w6, w5.setCell ⟨b5, o5 + 1, none⟩ (.int .u16 999) = w6 := ⟨_, rfl⟩
  rw [hw6] at hS5 hB5 ⊢
  have n1 : Near 5 (fun j => if j = 1 then 999 else W j) 2 0 nul W := ⟨HN4.out.sl.bd, HN4.out.sl.out, HR.out, by
    have := cnt_single (n := 5) (q := 1) (d := off nul 0 (fun j => if j = 1 then 999 else W j) W) (fun i hi hne => by
      unfold off
      rw [gon_zero, if_neg (by decide)]
      show xI (if i = 1 then 999 else W i) (W i) = 0
      rw [if_neg hne, f7])
    omega⟩
  refine (dword_ok (r := 2) hS5 (il_nil w6) (by decide) (by decide) (by decide) (by decide) (gn_nil _ _) n1).mono ?_
  rintro e w7 ⟨a7, c7, rfl, h7⟩
  have hB7 := hB5.trans (h7.bel.mono hB5.size)
  have HB7 := hide hB7
  have H7 := hide h7.sl
  have hsl7 := HN4.out.sl.below hB7
  have HW7 := hide hsl7
  have HO8 := hide (owns_nil w7 nul)
  have HBL8 := hide (bel_lit w7 (.cells #[] 29))
  have HL8 := hide (hsl7.alloc (.cells #[] 29))
  clear hS5 hB5 hw6 n1 h7 hB7 hsl7 k5 z5
  go_wp2_with (
    refine append_sl rfl (.tmp 38) (.tmp 39) rfl w7.heap.size _ 0 nul rfl HO8.out _ 5 c4 W rfl HL8.out (by decide) (by simp) w7 HBL8.out ?_
    intro v8 w8 hown8 hb8
    rw [Nat.zero_add, cat_nil] at hown8
    obtain ⟨a8, c8, hv8, h8⟩ := new_of_owns hown8 hb8 HN4.out.sl.bd HN4.out.sl.out
    subst hv8
    obtain ⟨b8, o8, ha8, hb8', hw8⟩ := h8.own.resolve_left (by decide)
    subst ha8
    have hc8 := h8.sl.cap
    have k8 : w8.cell? ⟨b8, o8, none⟩ = some (.int .u16 (W 0)) := hw8.cell 0 (by decide)
    have z8 : w8.frozen? ⟨b8, o8, none⟩ = false := hw8.free 0 (by decide)
    have m8 := hw8.cell 4 (by decide)
    have y8 := hw8.free 4 (by decide)
    have HW8 := hide hw8
    have HN8 := hide h8
    clear hown8 hb8 h8 hw8)
  have hW9 : Wr (w8.setCell ⟨b8, o8, none⟩ (.int .u16 5)) b8 o8 5 (fun j => if j = 0 then 5 else W j) := HW8.out.set 0 (by decide) 5
  have f9 : P16 (fun j => if j = 0 then 5 else W j) := fun j => by
    show 0 ≤ (if j = 0 then 5 else W j) ∧ (if j = 0 then 5 else W j) ≤ 65535
    split
    · decide
    · exact HN4.out.sl.bd j
  have hS9 := hW9.put16 4 (by decide) 6 c8 hc8 (by decide) f9 (fun j hj => by rw [if_neg (by omega)]; exact HN4.out.sl.out j hj)
  have hB9 := HN8.out.bel.trans (((Only.setCell b8 o8 w8 (.int .u16 5)).trans (Only.setCell b8 (o8 + 4) _ (.int .u16 6))).below hb8')
  have hsz9 : ((w8.setCell ⟨b8, o8, none⟩ (.int .u16 5)).setCell ⟨b8, o8 + 4, none⟩ (.int .u16 6)).heap.size = w8.heap.size := ((Only.setCell b8 o8 w8 (.int .u16 5)).trans (Only.setCell b8 (o8 + 4) _ (.int .u16 6))).size
  obtain ⟨w9, hw9⟩ : ∃ w9, (w8.setCell ⟨b8, o8, none⟩ (.int .u16 5)).setCell ⟨b8, o8 + 4, none⟩ (.int .u16 6) = w9 := ⟨_, rfl⟩
  rw [hw9] at hS9 hB9 hsz9 ⊢
  rw [← hsz9]
  have hI9 : Il (w9.alloc (.cells #[.int .i64 4, .int .i64 0] 3)) (some ⟨w9.heap.size, 0, none⟩) 2 2 (lf [4, 0]) := il_lit w9 [4, 0] (by
    intro x hx
    unfold I64
    rcases List.mem_cons.1 hx with rfl | hx
    · decide
    · have : x = 0 := by simpa using hx
      subst this
      decide)
  have g2 : Gn (lf [4, 0]) 2 5 := ⟨fun k hk => by
    rcases (show k = 0 ∨ k = 1 by omega) with rfl | rfl
    · decide
    · decide, fun i j hi hj e => by
    rcases (show i = 0 ∨ i = 1 by omega) with rfl | rfl <;> rcases (show j = 0 ∨ j = 1 by omega) with rfl | rfl
    · rfl
    · exact absurd e (by decide)
    · exact absurd e (by decide)
    · rfl⟩
  have n2 : Near 5 (fun j => if j = 4 then 6 else if j = 0 then 5 else W j) 2 2 (lf [4, 0]) W := ⟨HN4.out.sl.bd, HN4.out.sl.out, HR.out, by
    have := cnt_none (n := 5) (d := off (lf [4, 0]) 2 (fun j => if j = 4 then 6 else if j = 0 then 5 else W j) W) (fun i hi => by
      unfold off
      by_cases h4 : i = 4
      · subst h4; rfl
      · by_cases h0 : i = 0
        · subst h0; rfl
        · split
          · rfl
          · show xI (if i = 4 then 6 else if i = 0 then 5 else W i) (W i) = 0
            rw [if_neg h4, if_neg h0, f7])
    omega⟩
  have b10 := bel_lit w9 (.cells #[.int .i64 4, .int .i64 0] 3)
  refine (dword_ok (r := 2) (hS9.below b10) hI9 (by decide) (by decide) (by decide) (by decide) g2 n2).mono ?_
  rintro e w11 ⟨a11, c11, rfl, h11⟩
  have hB11 := (hB9.trans (b10.mono hB9.size)).trans (h11.bel.mono (Nat.le_trans hB9.size b10.size))
  have HX := hide (And.intro (H7.out.below hB11) (And.intro (HW7.out.below hB11) h11.sl))
  have HT := hide ((HB4.out.trans (HB7.out.mono HB4.out.size)).trans (hB11.mono (Nat.le_trans HB4.out.size HB7.out.size)))
  clear hS9 hB9 hsz9 hI9 g2 n2 b10 h11 hB11 hw9 f9 hW9 k8 z8 m8 y8
  go_wp2_with fail
  refine (same_any HX.out.1 HX.out.2.1 (by decide) rfl rfl).mono ?_
  rintro e w12 ⟨rfl, hB12⟩
  have HX2 := hide (And.intro (HX.out.2.1.below hB12) (HX.out.2.2.below hB12))
  have HT2 := hide (HT.out.trans (hB12.mono HT.out.size))
  clear hB12 HX
  go_wp2_with fail
  refine (same_any HX2.out.2 HX2.out.1 (by decide) rfl rfl).mono ?_
  rintro e w13 ⟨rfl, hB13⟩
  have HT3 := hide (HT2.out.trans (hB13.mono HT2.out.size))
  clear hB13
  go_wp2_with fail
  go_ret
  exact ⟨rfl, HT3.out⟩

end Go.Proofs.Ytdbdidohldhnhaa
