/- The polynomials' inner calls that make no number: cut, and the comparison Same. For slices of at most 4000 numbers of 16 bits: cut returns the same slice without the noughts at its end, Same whether the two hold the same; the world stays as it is, but for orders drawn. -/
import Derived.Test.YtfinicoipoleaaaSlices
import Derived.WalkKit
import Derived.WalkSpells
import Derived.WalkLawsBesides
import Derived.Deep.QuietTactic
import Derived.BigQuiet
namespace Go.Proofs.Ytfinicoipoleaaa
open Go.RowKit Gf

theorem shr_ex (f : Nat → Int) (n : Nat) (h : ∀ j, n ≤ j → f j = 0) : ∃ m, m ≤ n ∧ Shr f m := by
  induction n with
  | zero => exact ⟨0, Nat.le_refl _, .inl rfl, h⟩
  | succ n ih =>
    by_cases h0 : f n = 0
    · obtain ⟨m, h1, h2⟩ := ih (fun j hj => by
        by_cases e : j = n
        · rw [e]; exact h0
        · exact h j (by omega))
      exact ⟨m, by omega, h2⟩
    · exact ⟨n + 1, Nat.le_refl _, .inr h0, h⟩

set_option maxRecDepth 100000 in
set_option maxHeartbeats 1000000 in
theorem same_some (b off b' off' n c c' : Nat) (f : Nat → Int) (w : World) (hn : n ≤ 4000) (hb : b < w.heap.size) (hb' : b' < w.heap.size)
    (hc : ∀ j, j < n → w.cell? ⟨b, off + j, none⟩ = some (.int .u16 (f j))) (hc' : ∀ j, j < n → w.cell? ⟨b', off' + j, none⟩ = some (.int .u16 (f j))) :
    Calls Try.prog 15 #[.slice (some ⟨b, off, none⟩) n c, .slice (some ⟨b', off', none⟩) n c'] w fun e w' => e = .returned (.bool true) ∧ Below w.heap.size w w' := by
  go_enter Try.func15, Try.ntmps15
  go_wp2
  go_loopw [5] (fun i wr => ∃ k : Nat, i = .int .i64 k ∧ k ≤ n ∧ Below w.heap.size w wr) (fun i _ => n - (intOf i).toNat)
  case atStart => exact ⟨0, rfl, Nat.zero_le _, Below.refl _ _⟩
  case round =>
    obtain ⟨k, rfl, hk, hbl⟩ := hrel
    by_cases hlt : k < n
    · have hx : wr.cell? ⟨b, off + k, none⟩ = some (.int .u16 (f k)) := (hbl.cell (p := ⟨b, off + k, none⟩) hb).trans (hc k hlt)
      have hy : wr.cell? ⟨b', off' + k, none⟩ = some (.int .u16 (f k)) := (hbl.cell (p := ⟨b', off' + k, none⟩) hb').trans (hc' k hlt)
      go_wp2_with fail
      go_quiet (fail)
      go_wp2
      go_roundw
      case rel => exact ⟨k + 1, by go_num, by omega, below_drewN hbl nq⟩
      case measure => simp [intOf]; omega
    · obtain rfl : k = n := by omega
      go_wp2
      go_ret
      exact ⟨rfl, hbl⟩

theorem same_none (a a' : Option Addr) (c c' : Nat) (w : World) :
    Calls Try.prog 15 #[.slice a 0 c, .slice a' 0 c'] w fun e w' => e = .returned (.bool true) ∧ Below w.heap.size w w' := by
  go_enter Try.func15, Try.ntmps15
  go_wp2
  refine wp_loop_rounds 1 ?_
  rw [rounds_succ]
  go_wp2
  go_ret
  exact ⟨rfl, Below.refl _ _⟩

theorem same_any {w : World} {a a' : Option Addr} {n c n' c' : Nat} {f g : Nat → Int} (h : Sl w a n c f) (h' : Sl w a' n' c' g) (hn : n ≤ 4000) (e : n = n') (efg : f = g) :
    Calls Try.prog 15 #[.slice a n c, .slice a' n' c'] w fun e w' => e = .returned (.bool true) ∧ Below w.heap.size w w' := by
  subst e efg
  rcases h.at' with rfl | ⟨b, off, rfl, hb, hc⟩
  · exact same_none a a' c c' w
  · rcases h'.at' with rfl | ⟨b', off', rfl, hb', hc'⟩
    · exact same_none _ a' c c' w
    · exact same_some b off b' off' n c c' f w hn hb hb' hc hc'

end Go.Proofs.Ytfinicoipoleaaa
