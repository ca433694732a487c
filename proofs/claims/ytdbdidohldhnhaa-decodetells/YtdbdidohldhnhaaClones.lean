/- slices.Clone at slices of numbers of 16 bits, at most 4000 of them: the same numbers in new memory that may be written; of nil: nil. Nothing that was there is changed. -/
import Derived.Test.YtdbdidohldhnhaaCuts
import Derived.OwnWalk
import Derived.Maps.AppendAt
namespace Go.Proofs.Ytdbdidohldhnhaa
open Go.RowKit Gf

theorem add_at (b off j : Nat) : (⟨b, off, none⟩ : Addr).add j = ⟨b, off + j, none⟩ := by
  unfold Addr.add
  split <;> simp_all

theorem info16 : (Try.prog.info? 29).map (fun i => (i.zero, i.size, i.bytes)) = some (some (.int .u16 0), 1, 2) := by kernel_rfl

set_option maxRecDepth 100000 in
set_option maxHeartbeats 1000000 in
theorem clone_some (ad : Addr) (n c : Nat) (f : Nat → Int) (w : World) (hn : n ≤ 4000) (bd : ∀ j, 0 ≤ f j ∧ f j ≤ 65535) (out : ∀ j, n ≤ j → f j = 0)
    (hlt : n = 0 ∨ ad.block < w.heap.size) (hc : ∀ j, j < n → w.cell? (ad.add j) = some (.int .u16 (f j))) :
    Calls Try.prog 22 #[.slice (some ad) n c] w fun e w' => ∃ a c', e = .returned (.slice a n c') ∧ New w w' a n c' f := by
  obtain ⟨i0, hi, hz0, hz1, hz2⟩ := info_parts info16
  have BD := hide bd
  have OUT := hide out
  have hnews : ∀ j u, (vals f n)[j]? = some u → (w.alloc (.cells #[] 29)).cell? (ad.add j) = some u := by
    intro j u hu
    have hj : j < n := by
      have := (List.getElem?_eq_some_iff.1 hu).1
      rwa [vals_length] at this
    rw [vals_get f n j hj] at hu
    cases hu
    rw [← hc j hj]
    refine World.cell?_of_block (w := w) (Go.Deep.blk_alloc_lt _ _ _ ?_)
    have : (ad.add j).block = ad.block := by unfold Addr.add; split <;> rfl
    omega
  have HN := hide hnews
  clear bd out hc hnews
  have hnil := fun w a n c => Lib.run_eql_slice_nil (P := Try.prog) w 22 29 a n c 0 0 Try.underlying22
  go_enter Try.func22, Try.ntmps22
  go_wp2_with (at_builtin; refine wpList_append_own _ rfl _ _ 22 rfl w.heap.size 29 i0 (.int .u16 0) 1 2 Try.underlying22 hi hz0 hz1 hz2 rfl (by decide) _ 0 [] rfl ⟨rfl, .inr ⟨w.heap.size, 0, #[], rfl, Nat.le_refl _, Go.Deep.blk_alloc_new w _, Nat.le_refl _, by decide, rfl, rfl⟩⟩ ad n c (vals f n) rfl (by simp [vals_length]) HN.out (fun u hu => vals_one hu) (by unfold maxLen; omega) (by omega) (by simp) ?_; intro v' w1 hown hgrow _)
  rw [Nat.zero_add, List.nil_append] at hown
  obtain ⟨a, c', rfl, hnew⟩ := new_of_owns hown (((Below.refl _ w).alloc (Nat.le_refl _) _).grown hgrow (by simp) (fun k e => by cases e; exact Nat.le_refl _)) BD.out OUT.out
  go_wp2
  go_ret
  exact ⟨a, c', rfl, hnew⟩

theorem clone_none (w : World) : Calls Try.prog 22 #[.slice none 0 0] w fun e w' => e = .returned (.slice none 0 0) ∧ w' = w := by
  have hnil := fun w a n c => Lib.run_eql_slice_nil (P := Try.prog) w 22 29 a n c 0 0 Try.underlying22
  go_enter Try.func22, Try.ntmps22
  go_wp2
  go_ret
  exact ⟨rfl, rfl⟩

theorem clone_any {w : World} {a : Option Addr} {n c : Nat} {f : Nat → Int} (h : Sl w a n c f) (hn : n ≤ 4000) :
    Calls Try.prog 22 #[.slice a n c] w fun e w' => ∃ a' c', e = .returned (.slice a' n c') ∧ New w w' a' n c' f := by
  cases a with
  | none =>
    have hc0 := h.nil rfl
    have := h.cap
    obtain rfl : n = 0 := by omega
    subst hc0
    refine (clone_none w).mono ?_
    rintro e w' ⟨rfl, rfl⟩
    exact ⟨none, 0, rfl, h, Below.refl _ _, .inl rfl⟩
  | some ad =>
    refine clone_some ad n c f w hn h.bd h.out ?_ ?_
    · rcases h.at' with h0 | ⟨b, off, e, hb, _⟩
      · exact .inl h0
      · cases e; exact .inr hb
    · intro j hj
      rcases h.at' with h0 | ⟨b, off, e, hb, hc⟩
      · omega
      · cases e; rw [add_at]; exact hc j hj

/-- Short: a clone of what is cut. -/
theorem short_any {w : World} {a : Option Addr} {n c : Nat} {f : Nat → Int} (h : Sl w a n c f) (hn : n ≤ 4000) :
    Calls Try.prog 21 #[.slice a n c] w fun e w' => ∃ a' m c', e = .returned (.slice a' m c') ∧ m ≤ n ∧ Shr f m ∧ New w w' a' m c' f := by
  go_enter Try.func21, Try.ntmps21
  go_wp2_with fail
  refine (cut_any h hn).mono ?_
  rintro e w' ⟨m, rfl, hm, hs, rfl⟩
  go_wp2_with fail
  refine (clone_any (h.cut hm hs.2) (by omega)).mono ?_
  rintro e w' ⟨a', c', rfl, hnew⟩
  go_wp2_with fail
  go_ret
  exact ⟨a', m, c', rfl, hm, hs, hnew⟩

end Go.Proofs.Ytdbdidohldhnhaa
