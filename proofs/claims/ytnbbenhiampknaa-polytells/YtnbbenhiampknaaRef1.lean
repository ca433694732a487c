/- The document's own answers, as the statements reckon them: shortened, the value, the slope. For slices of at most 1000 numbers of 16 bits. -/
import Derived.Test.YtnbbenhiampknaaArgs
import Derived.Test.YtnbbenhiampknaaRefsP
import Derived.OwnWalk
import Derived.Maps.AppendAt
import Derived.StillTailTactics
namespace Go.Proofs.Ytnbbenhiampknaa
open Go.RowKit Gf
set_option linter.unusedVariables false

set_option maxRecDepth 100000 in
set_option maxHeartbeats 2000000 in
theorem rshort_some (b off n c : Nat) (f : Nat → Int) (w : World) (hcap : n ≤ c) (hn : n ≤ 4000) (bd : P16 f) (hout : ∀ j, n ≤ j → f j = 0) (hb : b < w.heap.size)
    (hc : ∀ j, j < n → w.cell? ⟨b, off + j, none⟩ = some (.int .u16 (f j))) :
    Calls Try.prog 14 #[.slice (some ⟨b, off, none⟩) n c] w fun e w' => ∃ a' m c', e = .returned (.slice a' m c') ∧ m ≤ n ∧ Shr f m ∧ New w w' a' m c' f := by
  obtain ⟨i0, hi, hz0, hz1, hz2⟩ := info_parts info16
  have HB := hide bd
  clear bd
  go_enter Try.func14, Try.ntmps14
  go_wp2
  go_loop [3] (fun i => ∃ k : Nat, i = .int .i64 k ∧ k ≤ n ∧ ∀ j, k ≤ j → f j = 0) (fun i => (intOf i).toNat)
  case atStart => exact ⟨n, rfl, Nat.le_refl _, hout⟩
  case round =>
    obtain ⟨k, rfl, hk, hz⟩ := hrel
    have HZ := hide hz
    clear hz
    have fin : (k = 0 ∨ f (k - 1) ≠ 0) → ∀ j u, (vals f k)[j]? = some u → (w.alloc (.cells #[] 23)).cell? ((⟨b, off, none⟩ : Addr).add j) = some u := by
      intro _ j u hu
      have hj : j < k := by
        have := (List.getElem?_eq_some_iff.1 hu).1
        rwa [vals_length] at this
      rw [vals_get f k j hj] at hu
      cases hu
      rw [add_at, ← hc j (by omega)]
      exact World.cell?_of_block (w := w) (Go.Deep.blk_alloc_lt _ _ _ hb)
    have HF := hide fin
    clear fin
    by_cases h0 : k ≠ 0 ∧ f (k - 1) = 0
    · obtain ⟨k, rfl⟩ : ∃ k', k = k' + 1 := ⟨k - 1, by omega⟩
      have hck := hc k (by omega)
      have h1 : f k = 0 := h0.2
      rw [h1] at hck
      clear h0
      go_wp2
      go_round
      case rel => exact ⟨k, by go_num, by omega, fun j hj => by
        by_cases e : j = k
        · rw [e]; exact h1
        · exact HZ.out j (by omega)⟩
      case measure => simp [intOf]
    · have hs : Shr f k := ⟨by
        by_cases e : k = 0
        · exact .inl e
        · exact .inr (fun h => h0 ⟨e, h⟩), HZ.out⟩
      have HS := hide hs
      cases k with
      | zero =>
        clear h0 hs
        go_wp2_with (at_builtin; refine wpList_append_own _ rfl _ _ 22 rfl w.heap.size 23 i0 (.int .u16 0) 1 2 Try.underlying22 hi hz0 hz1 hz2 rfl (by decide) _ 0 [] rfl ⟨rfl, .inr ⟨w.heap.size, 0, #[], rfl, Nat.le_refl _, Go.Deep.blk_alloc_new w _, Nat.le_refl _, by decide, rfl, rfl⟩⟩ ⟨b, off, none⟩ 0 c (vals f 0) rfl (by simp [vals_length]) (HF.out HS.out.1) (fun u hu => vals_one hu) (by decide) (by decide) (by simp) ?_; intro v' w1 hown hgrow _)
        rw [Nat.zero_add, List.nil_append] at hown
        obtain ⟨a', c', rfl, hnew⟩ := new_of_owns hown (((Below.refl _ w).alloc (Nat.le_refl _) _).grown hgrow (by simp) (fun k e => by cases e; exact Nat.le_refl _)) HB.out HS.out.2
        go_wp2
        go_ret
        exact ⟨a', _, c', rfl, Nat.zero_le _, HS.out, hnew⟩
      | succ k =>
        have hck := hc k (by omega)
        have h1 : (f k == 0) = false := beq_no (fun h => h0 ⟨by omega, h⟩)
        clear h0 hs
        go_wp2_with (at_builtin; refine wpList_append_own _ rfl _ _ 22 rfl w.heap.size 23 i0 (.int .u16 0) 1 2 Try.underlying22 hi hz0 hz1 hz2 rfl (by decide) _ 0 [] rfl ⟨rfl, .inr ⟨w.heap.size, 0, #[], rfl, Nat.le_refl _, Go.Deep.blk_alloc_new w _, Nat.le_refl _, by decide, rfl, rfl⟩⟩ ⟨b, off, none⟩ (k + 1) c (vals f (k + 1)) rfl (by simp [vals_length]) (HF.out HS.out.1) (fun u hu => vals_one hu) (by unfold maxLen; omega) (by omega) (by simp) ?_; intro v' w1 hown hgrow _)
        rw [Nat.zero_add, List.nil_append] at hown
        obtain ⟨a', c', rfl, hnew⟩ := new_of_owns hown (((Below.refl _ w).alloc (Nat.le_refl _) _).grown hgrow (by simp) (fun k e => by cases e; exact Nat.le_refl _)) HB.out HS.out.2
        go_wp2
        go_ret
        exact ⟨a', _, c', rfl, hk, HS.out, hnew⟩

set_option maxRecDepth 100000 in
theorem rshort_none (a : Option Addr) (c : Nat) (f : Nat → Int) (w : World) (hz : a = none → c = 0) (bd : P16 f) (hout : ∀ j, 0 ≤ j → f j = 0) :
    Calls Try.prog 14 #[.slice a 0 c] w fun e w' => ∃ a' c', e = .returned (.slice a' 0 c') ∧ New w w' a' 0 c' f := by
  obtain ⟨i0, hi, hz0, hz1, hz2⟩ := info_parts info16
  have HB := hide bd
  have HO := hide hout
  clear bd hout
  have fin : ∀ w' : World, Below w.heap.size w w' → New w w' (some ⟨w.heap.size, 0, none⟩) 0 0 f := fun w' hB => ⟨⟨HB.out, HO.out, Nat.le_refl _, fun e => (by cases e), .inl rfl⟩, hB, .inl rfl⟩
  have HF := hide fin
  clear fin
  cases a with
  | none =>
    obtain rfl := hz rfl
    go_enter Try.func14, Try.ntmps14
    go_wp2
    refine wp_loop_rounds 1 ?_
    rw [rounds_succ]
    go_wp2_with (at_builtin; refine wpList_append_fits_any _ rfl _ _ 22 rfl w.heap.size 23 i0 1 Try.underlying22 hi hz1 w.heap.size 0 0 [] rfl ⟨rfl, .inr ⟨w.heap.size, 0, #[], rfl, Nat.le_refl _, Go.Deep.blk_alloc_new w _, Nat.le_refl _, by decide, rfl, rfl⟩⟩ none 0 0 [] rfl rfl (fun _ => ⟨rfl, rfl⟩) (fun _ e => (by cases e)) (fun u hu => by simp at hu) (by omega) ?_; intro w2 hown hgrow)
    go_ret
    exact ⟨_, _, rfl, HF.out _ (((Below.refl _ w).alloc (Nat.le_refl _) _).grown hgrow (by simp) (fun k e => by cases e; exact Nat.le_refl _))⟩
  | some x =>
    go_enter Try.func14, Try.ntmps14
    go_wp2
    refine wp_loop_rounds 1 ?_
    rw [rounds_succ]
    go_wp2_with (at_builtin; refine wpList_append_fits_any _ rfl _ _ 22 rfl w.heap.size 23 i0 1 Try.underlying22 hi hz1 w.heap.size 0 0 [] rfl ⟨rfl, .inr ⟨w.heap.size, 0, #[], rfl, Nat.le_refl _, Go.Deep.blk_alloc_new w _, Nat.le_refl _, by decide, rfl, rfl⟩⟩ (some x) 0 c [] rfl rfl (fun e => (by cases e)) (fun _ _ j u hu => by simp at hu) (fun u hu => by simp at hu) (by omega) ?_; intro w2 hown hgrow)
    go_ret
    exact ⟨_, _, rfl, HF.out _ (((Below.refl _ w).alloc (Nat.le_refl _) _).grown hgrow (by simp) (fun k e => by cases e; exact Nat.le_refl _))⟩

theorem rshort_any {w : World} {a : Option Addr} {n c : Nat} {f : Nat → Int} (h : Sl w a n c f) (hn : n ≤ 4000) :
    Calls Try.prog 14 #[.slice a n c] w fun e w' => ∃ a' m c', e = .returned (.slice a' m c') ∧ m ≤ n ∧ Shr f m ∧ New w w' a' m c' f := by
  rcases h.at' with rfl | ⟨b, off, rfl, hb, hc⟩
  · refine (rshort_none a c f w h.nil h.bd h.out).mono ?_
    rintro e w' ⟨a', c', rfl, hnew⟩
    exact ⟨a', 0, c', rfl, Nat.le_refl _, ⟨.inl rfl, h.out⟩, hnew⟩
  · exact rshort_some b off n c f w h.cap hn h.bd h.out hb hc

end Go.Proofs.Ytnbbenhiampknaa
