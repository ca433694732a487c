/- The calls of rs and the document's own answers, side by side: for whatever data and number of checks they tell the same. -/
import Derived.Test.YtfinicoipoleaaaRfChecks
import Derived.Test.YtfinicoipoleaaaRfRights
namespace Go.Proofs.Ytfinicoipoleaaa
open Go.RowKit Gf
set_option linter.unusedVariables false

set_option maxRecDepth 100000 in
set_option maxHeartbeats 1000000 in
theorem rfcheck_bad (a : Option Addr) (n c : Nat) (r : Int) (w : World) (hn : n ≤ 1000) (hr : r < 0 ∨ 255 - (n : Int) < r) :
    Calls Try.prog 13 #[.slice a n c, .int .i64 r] w fun e w' => e = .returned (.tuple #[.slice none 0 0, .int .i64 1]) ∧ w' = w := by
  skip
  by_cases q1 : r < 0
  · go_enter Try.func13, Try.ntmps13
    go_wp2
    go_ret2
    exact ⟨rfl, rfl⟩
  · by_cases q2 : (1000 : Int) < r
    · have q3 : (255 : Int) < (n : Int) + 1000 := by omega
      go_enter Try.func13, Try.ntmps13
      go_wp2
      go_ret2
      exact ⟨rfl, rfl⟩
    · have q3 : (255 : Int) < (n : Int) + r := by omega
      go_enter Try.func13, Try.ntmps13
      go_wp2
      go_ret2
      exact ⟨rfl, rfl⟩

theorem new_none (w : World) : New w w none 0 0 nul := ⟨sl_nil w, Below.refl _ _, .inl rfl⟩

theorem check_both {n : Nat} {f : Nat → Int} (r : Int) (hf : P16 f) (hfo : ∀ j, n ≤ j → f j = 0) (hn : n ≤ 1000) : ∃ (nk : Nat) (ck : Nat → Int) (ec : Int), nk ≤ 255 ∧
    (∀ (w : World) (a : Option Addr) (c : Nat), Sl w a n c f → Calls Try.prog 10 #[.slice a n c, .int .i64 r] w fun e w' => ∃ a' c', e = .returned (.tuple #[.slice a' nk c', .int .i64 ec]) ∧ New w w' a' nk c' ck) ∧
    (∀ (w : World) (a : Option Addr) (c : Nat), Sl w a n c f → Calls Try.prog 13 #[.slice a n c, .int .i64 r] w fun e w' => ∃ a' c', e = .returned (.tuple #[.slice a' nk c', .int .i64 ec]) ∧ New w w' a' nk c' ck) := by
  by_cases hr : r < 0 ∨ 255 - (n : Int) < r
  · refine ⟨0, nul, 1, by decide, fun w a c h => ?_, fun w a c h => ?_⟩
    · refine (check_bad a n c r w (by unfold maxLen; omega) hr).mono ?_
      rintro e w' ⟨rfl, rfl⟩
      exact ⟨none, 0, rfl, new_none _⟩
    · refine (rfcheck_bad a n c r w hn hr).mono ?_
      rintro e w' ⟨rfl, rfl⟩
      exact ⟨none, 0, rfl, new_none _⟩
  · obtain ⟨R, rfl⟩ := Int.eq_ofNat_of_zero_le (show 0 ≤ r by omega)
    have hu := fun ck (h : Chk n f R ck) => h.uniq (by omega) hf (chk_lk hf hfo)
    refine ⟨R, lk f (dv R) n, 0, by omega, fun w a c h => ?_, fun w a c h => ?_⟩
    · refine (check_any h R (by omega)).mono ?_
      rintro e w' ⟨a', c', ck, rfl, hN, hk⟩
      obtain rfl := hu ck hk
      exact ⟨a', c', rfl, hN⟩
    · refine (rfcheck_any h R (by omega)).mono ?_
      rintro e w' ⟨a', c', ck, rfl, hN, hk⟩
      obtain rfl := hu ck hk
      exact ⟨a', c', rfl, hN⟩
theorem sums_both {n : Nat} {f : Nat → Int} (r : Int) (hn : n ≤ 1000) : ∃ (nk : Nat) (ck : Nat → Int) (ec : Int), nk ≤ 255 ∧
    (∀ (w : World) (a : Option Addr) (c : Nat), Sl w a n c f → Calls Try.prog 11 #[.slice a n c, .int .i64 r] w fun e w' => ∃ a' c', e = .returned (.tuple #[.slice a' nk c', .int .i64 ec]) ∧ New w w' a' nk c' ck) ∧
    (∀ (w : World) (a : Option Addr) (c : Nat), Sl w a n c f → Calls Try.prog 14 #[.slice a n c, .int .i64 r] w fun e w' => ∃ a' c', e = .returned (.tuple #[.slice a' nk c', .int .i64 ec]) ∧ New w w' a' nk c' ck) := by
  have hm : n ≤ maxLen := by unfold maxLen; omega
  by_cases hr : 255 < n ∨ r < 0 ∨ 255 < r
  · refine ⟨0, nul, 1, by decide, fun w a c h => ?_, fun w a c h => ?_⟩
    · refine (sums_bad a n c r w hm hr).mono ?_
      rintro e w' ⟨rfl, rfl⟩
      exact ⟨none, 0, rfl, new_none _⟩
    · refine (rfsums_bad a n c r w hm hr).mono ?_
      rintro e w' ⟨rfl, hB⟩
      exact ⟨none, 0, rfl, sl_nil _, hB, .inl rfl⟩
  · obtain ⟨R, rfl⟩ := Int.eq_ofNat_of_zero_le (show 0 ≤ r by omega)
    refine ⟨R, vs n f R, 0, by omega, fun w a c h => ?_, fun w a c h => ?_⟩
    · refine (sums_any h R (by omega) (by omega)).mono ?_
      rintro e w' ⟨ad, rfl, hN⟩
      exact ⟨_, _, rfl, hN⟩
    · refine (rfsums_any h R (by omega) (by omega)).mono ?_
      rintro e w' ⟨a', c', rfl, hN⟩
      exact ⟨a', c', rfl, hN⟩
theorem right_both {n : Nat} {f : Nat → Int} (r : Int) (hn : n ≤ 1000) : ∃ b : Bool,
    (∀ (w : World) (a : Option Addr) (c : Nat), Sl w a n c f → Calls Try.prog 12 #[.slice a n c, .int .i64 r] w fun e w' => e = .returned (.bool b) ∧ Below w.heap.size w w') ∧
    (∀ (w : World) (a : Option Addr) (c : Nat), Sl w a n c f → Calls Try.prog 16 #[.slice a n c, .int .i64 r] w fun e w' => e = .returned (.bool b) ∧ Below w.heap.size w w') := by
  have hm : n ≤ maxLen := by unfold maxLen; omega
  by_cases hr : 255 < n ∨ r < 0 ∨ (n : Int) < r
  · exact ⟨false, fun w a c h => right_badB a n c r w hm hr, fun w a c h => rfright_bad h hm r hr⟩
  · obtain ⟨R, rfl⟩ := Int.eq_ofNat_of_zero_le (show 0 ≤ r by omega)
    by_cases hR : Rt n f R
    · exact ⟨true, fun w a c h => right_yes h R (by omega) (by omega) hR, fun w a c h => rfright_yes h R (by omega) (by omega) hR⟩
    · exact ⟨false, fun w a c h => right_no h R (by omega) (by omega) hR, fun w a c h => rfright_no h R (by omega) (by omega) hR⟩

/-- Cells of a call's own, in blocks from lo to hi. -/
def Mine (lo hi : Nat) (w : World) (a : Option Addr) (n : Nat) : Prop := n = 0 ∨ ∃ b o F, a = some ⟨b, o, none⟩ ∧ lo ≤ b ∧ b < hi ∧ Wr w b o n F
theorem New.mine {w w' : World} {a : Option Addr} {n c : Nat} {f : Nat → Int} (h : New w w' a n c f) : Mine w.heap.size w'.heap.size w' a n := by
  rcases h.own with h0 | ⟨b, o, ha, hb, hw⟩
  · exact .inl h0
  · exact .inr ⟨b, o, f, ha, hb, hw.lt, hw⟩
theorem Mine.below {lo hi : Nat} {w w' : World} {a : Option Addr} {n : Nat} (h : Mine lo hi w a n) (hB : Below hi w w') : Mine lo hi w' a n := by
  rcases h with h0 | ⟨b, o, F, ha, hb, hb', hw⟩
  · exact .inl h0
  · exact .inr ⟨b, o, F, ha, hb, hb', hw.below hB hb'⟩
theorem Mine.only {lo hi b' : Nat} {w w' : World} {a : Option Addr} {n : Nat} (h : Mine lo hi w a n) (hO : Only b' w w') (hb' : b' < lo ∨ hi ≤ b') : Mine lo hi w' a n := by
  rcases h with h0 | ⟨b, o, F, ha, hb, hbh, hw⟩
  · exact .inl h0
  · exact .inr ⟨b, o, F, ha, hb, hbh, hO.wr hw (by omega)⟩

end Go.Proofs.Ytfinicoipoleaaa
