/- What is left of data by a divisor, as rs reckons it: the row is cut from the front, symbol by symbol. For at most 4000 numbers of 16 bits. -/
import Derived.Test.YtdbdidohldhnhaaVals
import Derived.Laws.CopyOwn
import Derived.StillTailTactics
namespace Go.Proofs.Ytdbdidohldhnhaa
open Go.RowKit Gf
set_option linter.unusedVariables false

/-- What is left of f by the divisor 1, g 0, g 1, .. when k symbols are gone. -/
def lk (f g : Nat → Int) : Nat → Nat → Int
  | 0 => f
  | k + 1 => fun i => xI (lk f g k (i + 1)) (gI (lk f g k 0) (g i))
theorem lk16 {f g : Nat → Int} (hf : P16 f) (k : Nat) : P16 (lk f g k) := by
  induction k with
  | zero => exact hf
  | succ k ih => exact fun i => x16 (ih _) (g16 (ih 0))
theorem lk_out {f g : Nat → Int} {n r : Nat} (hf : ∀ j, n ≤ j → f j = 0) (hg : ∀ j, r ≤ j → g j = 0) (k : Nat) : ∀ j, n + r ≤ j + k → lk f g k j = 0 ∨ j < r := by
  induction k with
  | zero => intro j hj; exact .inl (hf j (by omega))
  | succ k ih =>
    intro j hj
    by_cases h : j < r
    · exact .inr h
    · left
      show xI (lk f g k (j + 1)) (gI (lk f g k 0) (g j)) = 0
      rw [(ih (j + 1) (by omega)).resolve_right (by omega), hg j (by omega), f9, f7]
/-- In the midst of a round: m places are done. -/
def lm (f g : Nat → Int) (k m : Nat) : Nat → Int := fun i => if i < m then lk f g (k + 1) i else lk f g k (i + 1)

theorem Wr.tl {w : World} {b off n : Nat} {f : Nat → Int} (h : Wr w b off (n + 1) f) : Wr w b (off + 1) n (fun i => f (i + 1)) :=
  ⟨h.lt, fun j hj => by have := h.cell (j + 1) (by omega); rw [← Nat.add_assoc, Nat.add_right_comm] at this; exact this, fun j hj => by have := h.free (j + 1) (by omega); rw [← Nat.add_assoc, Nat.add_right_comm] at this; exact this⟩

theorem wr_of_cells {w : World} {b n : Nat} {L : List Value} {f : Nat → Int} (h : w.heap[b]? = some (.cells L.toArray 29 (0, 0))) (hL : ∀ j, j < n → L[j]? = some (.int .u16 (f j))) : Wr w b 0 n f := by
  refine ⟨(Array.getElem?_eq_some_iff.1 h).1, fun j hj => ?_, fun j hj => by simp [World.frozen?, h]⟩
  have h1 := hL j hj
  simp [World.cell?, h]
  simpa using h1
theorem splice_get (f : Nat → Int) (n r j : Nat) (hj : j < n + r) (hf : ∀ j, n ≤ j → f j = 0) : (splice (madeCells #[Value.int .u16 0] (n + r)).toList 0 (vals f n))[j]? = some (.int .u16 (f j)) := by
  unfold splice
  rw [List.take_zero, List.nil_append, vals_length, Nat.zero_add]
  by_cases h : j < n
  · rw [List.getElem?_append_left (by rw [vals_length]; exact h), vals_get f n j h]
  · rw [List.getElem?_append_right (by rw [vals_length]; omega), vals_length, List.getElem?_drop, show n + (j - n) = j from by omega, hf j (by omega)]
    simp [madeCells, hj, Nat.mod_one]

set_option maxRecDepth 100000 in
set_option maxHeartbeats 4000000 in
theorem rest_any {w : World} {a : Option Addr} {n c b' o' r c' : Nat} {f g : Nat → Int} (h : Sl w a n c f) (hb' : b' < w.heap.size) (hg : ∀ j, j < r → w.cell? ⟨b', o' + j, none⟩ = some (.int .u16 (g j))) (g16' : P16 g) (gout : ∀ j, r ≤ j → g j = 0) (hn : n + r ≤ 4000) (hc' : r ≤ c') :
    Calls Try.prog 31 #[.slice a n c, .slice (some ⟨b', o', none⟩) r c'] w fun e w' => ∃ a' c'', e = .returned (.slice a' r c'') ∧ New w w' a' r c'' (lk f g n) := by
  have hmk := mk_int (n + r) ((n : Int) + r) (by omega) (by omega)
  have hbl0 : Below w.heap.size w ((w.alloc (.cells #[] 73)).alloc (.cells (madeCells #[.int .u16 0] (n + r)) 29)) := ((Below.refl _ _).alloc (Nat.le_refl _) _).alloc (by simp) _
  have hg0 : ((w.alloc (.cells #[] 73)).alloc (.cells (madeCells #[.int .u16 0] (n + r)) 29)).heap[w.heap.size + 1]? = some (.cells (madeCells #[.int .u16 0] (n + r)).toList.toArray 29 (0, 0)) := by
    have := Go.Deep.blk_alloc_new (w.alloc (.cells #[] 73)) (.cells (madeCells #[.int .u16 0] (n + r)) 29)
    rw [World.size_alloc] at this
    exact this
  have hsrc : 0 < (vals f n).length → ∃ ad, a = some ad ∧ ∀ j v, (vals f n)[j]? = some v → ((w.alloc (.cells #[] 73)).alloc (.cells (madeCells #[.int .u16 0] (n + r)) 29)).cell? (ad.add j) = some v := by
    intro h0
    rw [vals_length] at h0
    have hA := (h.alloc (.cells #[] 73)).alloc (.cells (madeCells #[.int .u16 0] (n + r)) 29)
    obtain ⟨b, o, rfl, hb, hc⟩ := hA.at'.resolve_left (by omega)
    refine ⟨_, rfl, fun j v hv => ?_⟩
    have hj : j < n := by
      have := (List.getElem?_eq_some_iff.1 hv).1
      rwa [vals_length] at this
    rw [vals_get f n j hj] at hv
    cases hv
    rw [add_at]
    exact hc j hj
  have HB0 := hide hbl0
  have HG0 := hide hg0
  have HSRC := hide hsrc
  have HF := hide (And.intro h.bd h.out)
  have HG := hide hg
  have HGB := hide (And.intro g16' gout)
  have hlen := vals_length f n
  clear hbl0 hg0 hsrc h hg g16' gout
  go_enter Try.func31, Try.ntmps31
  go_wp2_with fail
  refine (new_any _).mono ?_
  rintro e w2 ⟨rfl, rfl⟩
  go_wp2_with (refine wpList_copy_splice rfl (.tmp 17) (.tmp 18) 22 22 rfl 29 Try.underlying22 (by kernel_rfl) (some ⟨w.heap.size + 1, 0, none⟩) a (n + r) (n + r) n c (by rfl) (by rfl) (w.heap.size + 1) 0 (madeCells #[.int .u16 0] (n + r)).toList 29 HG0.out (vals f n) (by rw [hlen]; exact (Nat.min_eq_left (Nat.le_add_right n r)).symm) (fun h0 => ⟨rfl, HSRC.out h0⟩) (by rw [hlen, Array.length_toList, size_madeCells]; simp) (fun u hu => vals_one hu) w.heap.size w HB0.out (by omega) ?_; intro w3 hg3 hb3)
  have hw3 : Wr w3 (w.heap.size + 1) 0 (n + r) f := wr_of_cells hg3.out (fun j hj => splice_get f n r j hj HF.out.2)
  have HW3 := hide hw3
  have HB3 := hide hb3
  clear hg3 hb3 hw3 HSRC HG0 HB0 hlen
  go_loopw [6, 7, 8, 9, 22] (fun l _ _ _ t wr => ∃ (k : Nat) (ad : Addr), t = .int .i64 k ∧ k ≤ n ∧ l = .slice (some ad) (n + r - k) (n + r - k) ∧ (n + r - k = 0 ∨ ad = ⟨w.heap.size + 1, k, none⟩) ∧ Wr wr (w.heap.size + 1) k (n + r - k) (lk f g k) ∧ Below w.heap.size w wr) (fun _ _ _ _ t _ => n - (intOf t).toNat)
  case atStart => exact ⟨0, _, rfl, Nat.zero_le _, rfl, .inr rfl, HW3.out, HB3.out⟩
  case round =>
    obtain ⟨k, ad, rfl, hk, rfl, had, hwr, hbl⟩ := hrel
    obtain ⟨wo, hwo⟩ : ∃ v, v = wr := ⟨_, rfl⟩
    subst hwo
    by_cases hlt : k < n
    · obtain rfl := had.resolve_left (by omega)
      obtain ⟨N, hN⟩ : ∃ N, n + r - k = N + 1 := ⟨n + r - k - 1, by omega⟩
      have hN' : n + r - (k + 1) = N := by omega
      rw [hN] at hwr ⊢
      have hx : wo.cell? ⟨w.heap.size + 1, k, none⟩ = some (.int .u16 (lk f g k 0)) := by have := hwr.cell 0 (by omega); rwa [Nat.add_zero] at this
      have l16 := lk16 (f := f) (g := g) HF.out.1 k
      have l160 := l16 0
      have HW := hide hwr.tl
      have HB := hide hbl
      have HL := hide l16
      clear hwr hbl had l16
      by_cases hN0 : N = 0
      · subst hN0
        obtain rfl : r = 0 := by omega
        go_wp2_with fail
        refine wp_loop_rounds 1 ?_
        rw [rounds_succ]
        go_wp2
        go_roundw
        case rel => exact ⟨k + 1, _, by go_num, by omega, by rw [hN'], .inl hN', ⟨HW.out.lt, fun j hj => by omega, fun j hj => by omega⟩, HB.out⟩
        case measure => simp [intOf]; omega
      · have hNp : 0 < N := by omega
        go_wp2_with fail
        go_loopw [8, 9, 35] (fun _ _ t wr => ∃ m : Nat, t = .int .i64 m ∧ m ≤ r ∧ Wr wr (w.heap.size + 1) (k + 1) N (lm f g k m) ∧ Below w.heap.size w wr) (fun _ _ t _ => r - (intOf t).toNat)
        case atStart => exact ⟨0, rfl, Nat.zero_le _, HW.out.congr (fun j hj => by unfold lm; rw [if_neg (by omega)]), HB.out⟩
        case round =>
          obtain ⟨m, rfl, hm, hwr, hbl⟩ := hrel
          by_cases hlt2 : m < r
          · have hxg : wr.cell? ⟨b', o' + m, none⟩ = some (.int .u16 (g m)) := (hbl.cell (p := ⟨b', o' + m, none⟩) hb').trans (HG.out m hlt2)
            have hmN : m < N := by omega
            have hy : wr.cell? ⟨w.heap.size + 1, k + 1 + m, none⟩ = some (.int .u16 (lk f g k (m + 1))) := by
              have := hwr.cell m hmN
              unfold lm at this
              rw [if_neg (by omega)] at this
              exact this
            have hfz : wr.frozen? ⟨w.heap.size + 1, k + 1 + m, none⟩ = false := hwr.free m hmN
            have bF := HL.out (m + 1)
            have bG := HGB.out.1 m
            have bP := g16 (b := g m) l160
            have HW2 := hide hwr
            have HB2 := hide hbl
            clear hwr hbl
            go_wp2_with fail
            refine wp_region_still_tail 13 (by kernel_rfl) (by kernel_rfl) ?_
            simp only [List.take_succ_cons, List.take_zero, List.drop_succ_cons, List.drop_zero]
            repeat still_step
            still_call (mul_any _ _ _ _ (by omega) (by omega))
            repeat still_step
            still_call (add_any _ _ _ _ (by omega) (by omega))
            repeat still_step
            refine wpStill_nil ?_
            all_goals (
              go_wp2
              go_roundw
              case rel =>
                refine ⟨m + 1, by go_num, by omega, ?_, (HB2.out.trans ((Only.setCell (w.heap.size + 1) (k + 1 + m) _ _).drew.below (by omega)))⟩
                refine Wr.drew1 (Wr.congr (HW2.out.set m hmN (xI (lk f g k (m + 1)) (gI (lk f g k 0) (g m)))) (fun j hj => ?_))
                unfold lm
                by_cases e : j = m
                · rw [if_pos e, if_pos (by omega), e]
                  rfl
                · rw [if_neg e]
                  by_cases h2 : j < m
                  · rw [if_pos h2, if_pos (by omega)]
                  · rw [if_neg h2, if_neg (by omega)]
              case measure => simp [intOf]; omega)
          · obtain rfl : m = r := by omega
            have HW2 := hide hwr
            have HB2 := hide hbl
            clear hwr hbl
            go_wp2
            go_roundw
            case rel =>
              refine ⟨k + 1, _, by go_num, by omega, by rw [hN'], .inr rfl, ?_, HB2.out⟩
              rw [hN']
              refine HW2.out.congr (fun j hj => ?_)
              unfold lm
              by_cases h2 : j < m
              · rw [if_pos h2]
              · rw [if_neg h2]
                show _ = xI (lk f g k (j + 1)) (gI (lk f g k 0) (g j))
                rw [HGB.out.2 j (by omega), f9, f6 _ (HL.out _).1]
            case measure => simp [intOf]; omega
    · obtain rfl : k = n := by omega
      have hkr : k + r - k = r := by omega
      rw [hkr] at hwr had ⊢
      have HW := hide hwr
      have HB := hide hbl
      clear hwr hbl
      go_wp2
      go_ret
      have h16 := lk16 (f := f) (g := g) HF.out.1 k
      have hout : ∀ j, r ≤ j → lk f g k j = 0 := fun j hj => (lk_out HF.out.2 HGB.out.2 k j (by omega)).resolve_right (by omega)
      refine ⟨_, _, rfl, ?_⟩
      rcases had with h0 | rfl
      · exact ⟨⟨h16, hout, Nat.le_refl _, fun e => (by cases e), .inl h0⟩, HB.out, .inl h0⟩
      · exact New.of_wr HW.out (by omega) HB.out (Nat.le_refl _) h16 hout

end Go.Proofs.Ytdbdidohldhnhaa
