/- The polynomials' inner calls that make no number: cut, and the comparison Same. For slices of at most 4000 numbers of 16 bits: cut returns the same slice without the noughts at its end, Same whether the two hold the same; the world stays as it is, but for orders drawn. -/
import Derived.Test.YtdbdidohldhnhaaSlices
import Derived.WalkKit
import Derived.WalkSpells
import Derived.WalkLawsBesides
import Derived.Deep.QuietTactic
import Derived.BigQuiet
namespace Go.Proofs.Ytdbdidohldhnhaa
open Go.RowKit Gf

set_option maxRecDepth 100000 in
set_option maxHeartbeats 1000000 in
theorem cut_some (b off n c : Nat) (f : Nat → Int) (w : World) (hcap : n ≤ c) (hn : n ≤ 4000) (hout : ∀ j, n ≤ j → f j = 0)
    (hc : ∀ j, j < n → w.cell? ⟨b, off + j, none⟩ = some (.int .u16 (f j))) :
    Calls Try.prog 34 #[.slice (some ⟨b, off, none⟩) n c] w fun e w' => ∃ m, e = .returned (.slice (some ⟨b, off, none⟩) m c) ∧ m ≤ n ∧ Shr f m ∧ w' = w := by
  go_enter Try.func34, Try.ntmps34
  go_wp2
  go_loop [3] (fun i => ∃ k : Nat, i = .int .i64 k ∧ k ≤ n ∧ ∀ j, k ≤ j → f j = 0) (fun i => (intOf i).toNat)
  case atStart => exact ⟨n, rfl, Nat.le_refl _, hout⟩
  case round =>
    obtain ⟨k, rfl, hk, hz⟩ := hrel
    cases k with
    | zero =>
      go_wp2
      go_ret
      exact ⟨0, rfl, Nat.zero_le _, ⟨.inl rfl, hz⟩, rfl⟩
    | succ k =>
      have hck := hc k (by omega)
      have HZ := hide hz
      clear hz
      by_cases h0 : f k = 0
      · rw [h0] at hck
        go_wp2
        go_round
        case rel => exact ⟨k, by go_num, by omega, fun j hj => by
          by_cases e : j = k
          · rw [e]; exact h0
          · exact HZ.out j (by omega)⟩
        case measure => simp [intOf]
      · have h1 : (f k == 0) = false := beq_no h0
        clear h0
        go_wp2
        go_ret
        exact ⟨k + 1, rfl, hk, ⟨.inr (by simpa using h1), HZ.out⟩, rfl⟩

theorem cut_none (a : Option Addr) (c : Nat) (w : World) (hz : a = none → c = 0) :
    Calls Try.prog 34 #[.slice a 0 c] w fun e w' => e = .returned (.slice a 0 c) ∧ w' = w := by
  cases a with
  | none =>
    obtain rfl := hz rfl
    go_enter Try.func34, Try.ntmps34
    go_wp2
    refine wp_loop_rounds 1 ?_
    rw [rounds_succ]
    go_wp2
    go_ret
    exact ⟨rfl, rfl⟩
  | some x =>
    go_enter Try.func34, Try.ntmps34
    go_wp2
    refine wp_loop_rounds 1 ?_
    rw [rounds_succ]
    go_wp2
    go_ret
    exact ⟨rfl, rfl⟩

theorem cut_any {w : World} {a : Option Addr} {n c : Nat} {f : Nat → Int} (h : Sl w a n c f) (hn : n ≤ 4000) :
    Calls Try.prog 34 #[.slice a n c] w fun e w' => ∃ m, e = .returned (.slice a m c) ∧ m ≤ n ∧ Shr f m ∧ w' = w := by
  rcases h.at' with rfl | ⟨b, off, rfl, hb, hc⟩
  · refine (cut_none a c w h.nil).mono ?_
    rintro e w' ⟨rfl, rfl⟩
    exact ⟨0, rfl, Nat.le_refl _, ⟨.inl rfl, h.out⟩, rfl⟩
  · exact cut_some b off n c f w h.cap hn h.out hc


theorem shr_ex (f : Nat → Int) (n : Nat) (h : ∀ j, n ≤ j → f j = 0) : ∃ m, m ≤ n ∧ Shr f m := by
  induction n with
  | zero => exact ⟨0, Nat.le_refl _, .inl rfl, h⟩
  | succ n ih =>
    by_cases h0 : f n = 0
    · obtain ⟨m, h1, h2⟩ := ih (fun j hj => by
        by_cases e : j = n
        · rw [e]; exact h0
        · exact h j (by omega))
      exact ⟨m, by omega, h2⟩
    · exact ⟨n + 1, Nat.le_refl _, .inr h0, h⟩

theorem cut_at {w : World} {a : Option Addr} {n c m : Nat} {f : Nat → Int} (h : Sl w a n c f) (hn : n ≤ 4000) (hs : Shr f m) :
    Calls Try.prog 34 #[.slice a n c] w fun e w' => e = .returned (.slice a m c) ∧ w' = w := by
  refine (cut_any h hn).mono ?_
  rintro e w' ⟨m', rfl, _, hs', rfl⟩
  rw [hs.uniq hs']
  exact ⟨rfl, rfl⟩

set_option maxRecDepth 100000 in
set_option maxHeartbeats 1000000 in
theorem same_some (b off b' off' n c c' : Nat) (f : Nat → Int) (w : World) (hn : n ≤ 4000) (hb : b < w.heap.size) (hb' : b' < w.heap.size)
    (hc : ∀ j, j < n → w.cell? ⟨b, off + j, none⟩ = some (.int .u16 (f j))) (hc' : ∀ j, j < n → w.cell? ⟨b', off' + j, none⟩ = some (.int .u16 (f j))) :
    Calls Try.prog 12 #[.slice (some ⟨b, off, none⟩) n c, .slice (some ⟨b', off', none⟩) n c'] w fun e w' => e = .returned (.bool true) ∧ Below w.heap.size w w' := by
  go_enter Try.func12, Try.ntmps12
  go_wp2
  go_loopw [5] (fun i wr => ∃ k : Nat, i = .int .i64 k ∧ k ≤ n ∧ Below w.heap.size w wr) (fun i _ => n - (intOf i).toNat)
  case atStart => exact ⟨0, rfl, Nat.zero_le _, Below.refl _ _⟩
  case round =>
    obtain ⟨k, rfl, hk, hbl⟩ := hrel
    by_cases hlt : k < n
    · have hx : wr.cell? ⟨b, off + k, none⟩ = some (.int .u16 (f k)) := (hbl.cell (p := ⟨b, off + k, none⟩) hb).trans (hc k hlt)
      have hy : wr.cell? ⟨b', off' + k, none⟩ = some (.int .u16 (f k)) := (hbl.cell (p := ⟨b', off' + k, none⟩) hb').trans (hc' k hlt)
      go_wp2_with fail
      go_quiet (fail)
      go_wp2
      go_roundw
      case rel => exact ⟨k + 1, by go_num, by omega, below_drewN hbl nq⟩
      case measure => simp [intOf]; omega
    · obtain rfl : k = n := by omega
      go_wp2
      go_ret
      exact ⟨rfl, hbl⟩

theorem same_none (a a' : Option Addr) (c c' : Nat) (w : World) :
    Calls Try.prog 12 #[.slice a 0 c, .slice a' 0 c'] w fun e w' => e = .returned (.bool true) ∧ Below w.heap.size w w' := by
  go_enter Try.func12, Try.ntmps12
  go_wp2
  refine wp_loop_rounds 1 ?_
  rw [rounds_succ]
  go_wp2
  go_ret
  exact ⟨rfl, Below.refl _ _⟩

theorem same_any {w : World} {a a' : Option Addr} {n c n' c' : Nat} {f g : Nat → Int} (h : Sl w a n c f) (h' : Sl w a' n' c' g) (hn : n ≤ 4000) (e : n = n') (efg : f = g) :
    Calls Try.prog 12 #[.slice a n c, .slice a' n' c'] w fun e w' => e = .returned (.bool true) ∧ Below w.heap.size w w' := by
  subst e efg
  rcases h.at' with rfl | ⟨b, off, rfl, hb, hc⟩
  · exact same_none a a' c c' w
  · rcases h'.at' with rfl | ⟨b', off', rfl, hb', hc'⟩
    · exact same_none _ a' c c' w
    · exact same_some b off b' off' n c c' f w hn hb hb' hc hc'

end Go.Proofs.Ytdbdidohldhnhaa
