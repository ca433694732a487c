/- The document's own answers for rs: errors of its Sums; whether a word is right. -/
import Derived.Test.YtdbdidohldhnhaaRfVals
namespace Go.Proofs.Ytdbdidohldhnhaa
open Go.RowKit Gf
set_option linter.unusedVariables false

set_option maxRecDepth 100000 in
set_option maxHeartbeats 1000000 in
theorem rfsums_bad (a : Option Addr) (n c : Nat) (r : Int) (w : World) (hn : n ≤ maxLen) (hr : 255 < n ∨ r < 0 ∨ 255 < r) :
    Calls Try.prog 50 #[.slice a n c, .int .i64 r] w fun e w' => e = .returned (.tuple #[.slice none 0 0, .int .i64 1]) ∧ Below w.heap.size w w' := by
  unfold maxLen at hn
  by_cases q0 : (255 : Int) < (n : Int)
  · go_enter Try.func50, Try.ntmps50
    go_wp2
    go_ret2
    exact ⟨rfl, Below.refl _ _⟩
  · by_cases q1 : r < 0
    · go_enter Try.func50, Try.ntmps50
      go_wp2
      go_ret2
      exact ⟨rfl, Below.refl _ _⟩
    · have q2 : (255 : Int) < r := by omega
      go_enter Try.func50, Try.ntmps50
      go_wp2
      go_ret2
      exact ⟨rfl, Below.refl _ _⟩

set_option maxRecDepth 100000 in
set_option maxHeartbeats 1000000 in
theorem rfright_any {w : World} {a : Option Addr} {n c : Nat} {f : Nat → Int} (h : Sl w a n c f) (r : Nat) (hr : r ≤ n) (hn : n ≤ 255) :
    Calls Try.prog 30 #[.slice a n c, .int .i64 (r : Int)] w fun e w' => ∃ b, e = .returned (.bool b) ∧ (b = true ↔ Rt n f r) ∧ Below w.heap.size w w' := by
  have q2 : ¬ (n : Int) < (r : Int) := by omega
  have HS := hide h
  clear h
  go_enter Try.func30, Try.ntmps30
  go_wp2_with fail
  refine (rfsums_any HS.out r (by omega) hn).mono ?_
  rintro e w1 ⟨a1, c1, rfl, hN⟩
  have HN := hide hN
  clear hN
  go_wp2_with fail
  go_loop [7] (fun t => ∃ k : Nat, t = .int .i64 k ∧ k ≤ r ∧ Rt n f k) (fun t => r - (intOf t).toNat)
  case atStart => exact ⟨0, rfl, Nat.zero_le _, fun j hj => by omega⟩
  case round =>
    obtain ⟨k, rfl, hk, hrt⟩ := hrel
    have HR := hide hrt
    clear hrt
    by_cases hlt : k < r
    · obtain ⟨b, o, rfl, hb, hc⟩ := HN.out.sl.at'.resolve_left (by omega)
      have hcx := hc k hlt
      have hv : vs n f r k = vh (al k) n f := by unfold vs; rw [if_pos hlt]
      rw [hv] at hcx
      clear hc hv
      obtain ⟨y, hy⟩ : ∃ y, y = vh (al k) n f := ⟨_, rfl⟩
      rw [← hy] at hcx
      have HV := hide hy
      clear hy
      by_cases h0 : y = 0
      · subst h0
        go_wp2
        go_round
        case rel => exact ⟨k + 1, by go_num, by omega, fun j hj => by
          by_cases e : j = k
          · rw [e]; exact HV.out.symm
          · exact HR.out j (by omega)⟩
        case measure => simp [intOf]; omega
      · have h0' : (y != 0) = true := bne_yes h0
        go_wp2
        go_ret
        exact .inl ⟨rfl, fun hR => h0 (HV.out.trans (hR k hlt)), HN.out.bel⟩
    · obtain rfl : k = r := by omega
      go_wp2
      go_ret
      exact .inr ⟨rfl, HR.out, HN.out.bel⟩

theorem rfright_yes {w : World} {a : Option Addr} {n c : Nat} {f : Nat → Int} (h : Sl w a n c f) (r : Nat) (hr : r ≤ n) (hn : n ≤ 255) (hR : Rt n f r) :
    Calls Try.prog 30 #[.slice a n c, .int .i64 (r : Int)] w fun e w' => e = .returned (.bool true) ∧ Below w.heap.size w w' := by
  refine (rfright_any h r hr hn).mono ?_
  rintro e w' ⟨b, rfl, hb, hB⟩
  rw [hb.2 hR]
  exact ⟨rfl, hB⟩
theorem rfright_no {w : World} {a : Option Addr} {n c : Nat} {f : Nat → Int} (h : Sl w a n c f) (r : Nat) (hr : r ≤ n) (hn : n ≤ 255) (hR : ¬ Rt n f r) :
    Calls Try.prog 30 #[.slice a n c, .int .i64 (r : Int)] w fun e w' => e = .returned (.bool false) ∧ Below w.heap.size w w' := by
  refine (rfright_any h r hr hn).mono ?_
  rintro e w' ⟨b, rfl, hb, hB⟩
  cases b with
  | true => exact (hR (hb.1 rfl)).elim
  | false => exact ⟨rfl, hB⟩

set_option maxRecDepth 100000 in
set_option maxHeartbeats 1000000 in
theorem rfright_bad {w : World} {a : Option Addr} {n c : Nat} {f : Nat → Int} (h : Sl w a n c f) (hn : n ≤ maxLen) (r : Int) (hr : 255 < n ∨ r < 0 ∨ (n : Int) < r) :
    Calls Try.prog 30 #[.slice a n c, .int .i64 r] w fun e w' => e = .returned (.bool false) ∧ Below w.heap.size w w' := by
  have hn' := hn
  unfold maxLen at hn'
  by_cases q0 : 255 < n ∨ r < 0 ∨ 255 < r
  · go_enter Try.func30, Try.ntmps30
    go_wp2_with fail
    refine (rfsums_bad a n c r _ hn q0).mono ?_
    rintro e w1 ⟨rfl, hB⟩
    go_wp2
    go_ret
    exact ⟨rfl, hB⟩
  · obtain ⟨R, rfl⟩ := Int.eq_ofNat_of_zero_le (show 0 ≤ r by omega)
    have q2 : (n : Int) < (R : Int) := by omega
    go_enter Try.func30, Try.ntmps30
    go_wp2_with fail
    refine (rfsums_any h R (by omega) (by omega)).mono ?_
    rintro e w1 ⟨a1, c1, rfl, hN⟩
    have hB := hN.bel
    clear hN
    go_wp2
    go_ret
    exact ⟨rfl, hB⟩

end Go.Proofs.Ytdbdidohldhnhaa
