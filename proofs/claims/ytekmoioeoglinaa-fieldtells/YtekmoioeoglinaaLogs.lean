/- The field's logs: smallPowers fills a new map, Log looks numbers up in it. For a field that is not nil and each number 2^n, n below 65535: Log returns n and true; of 0: 0 and false. Nothing old is changed. -/
import Derived.Test.YtekmoioeoglinaaMeth
import Derived.Maps.OwnSet
namespace Go.Proofs.Ytekmoioeoglinaa
open Go.RowKit Go.Maps Gf

/-- What the map of the small steps holds behind k rounds. -/
def Sm : Nat → DataW Unit
  | 0 => .map []
  | k + 1 => (Sm k).put (.int .u16 (pw 2 k : Nat)) (.lit (.int .i64 (k : Nat)))

theorem sm_isMap (k : Nat) : IsMap (Sm k) := by
  induction k with
  | zero => exact isMap_empty
  | succ k ih => exact ih.put _ _

theorem key_ne {a b : Nat} (h : a ≠ b) : (Lit.int .u16 (a : Int)) ≠ Lit.int .u16 (b : Int) := by
  intro e
  injection e with _ e
  exact h (by omega)

theorem sm_no (k a : Nat) (h : ∀ j, j < k → pw 2 j ≠ a) : Maps.has (Sm k) (.int .u16 (a : Nat)) = false := by
  induction k with
  | zero => rfl
  | succ k ih =>
    show Maps.has ((Sm k).put _ _) _ = false
    rw [has_put_other (key_ne (fun e => h k (by omega) e.symm))]
    exact ih fun j hj => h j (by omega)

theorem sm_yes (k j : Nat) (hk : k ≤ 65535) (hj : j < k) : Maps.has (Sm k) (.int .u16 (pw 2 j : Nat)) = true ∧ ∀ z, (Sm k).atKey (.int .u16 (pw 2 j : Nat)) z = .lit (.int .i64 (j : Nat)) := by
  induction k with
  | zero => omega
  | succ k ih =>
    by_cases he : j = k
    · subst he
      exact ⟨has_put_same (sm_isMap _) (by exact trivial) _, fun z => atKey_put_same (sm_isMap _) (by exact trivial) _ z⟩
    · have hne : pw 2 j ≠ pw 2 k := fun e => he (pw2_inj (by omega) (by omega) e)
      obtain ⟨h1, h2⟩ := ih (by omega) (by omega)
      refine ⟨?_, fun z => ?_⟩
      · show Maps.has ((Sm k).put _ _) _ = true
        rw [has_put_other (key_ne hne)]
        exact h1
      · show ((Sm k).put _ _).atKey _ _ = _
        rw [atKey_put_other (key_ne hne)]
        exact h2 z

theorem lawK : Keyed Try.prog 25 := int_keyed Try.underlying25
theorem zeroE (w : World) : (zeroValue 3).run Try.prog w = .ok (.int .i64 0) w := by kernel_rfl
theorem run_make257 (w : World) : (Instr.makeMap 41 (some (.int .i64 257))).run Try.prog w = .ok (.map (some w.heap.size)) (w.alloc (.map #[] 0)) := rfl

set_option maxRecDepth 100000 in
set_option maxHeartbeats 400000 in
theorem small_any (w : World) :
    Calls Try.prog 20 #[] w fun e w' => e = .returned (.map (some w.heap.size)) ∧ w'.ownsMap Try.prog 25 (plainElem (H := Unit) Try.prog 3) w.heap.size 257 (Sm 257) ∧ Below w.heap.size w w' := by
  have hmm := run_make257
  go_enter Try.func20, Try.ntmps20
  go_wp2
  go_loopw [2, 5] (fun t i wr => ∃ k : Nat, k ≤ 257 ∧ t = .int .u16 (pw 2 k : Nat) ∧ i = .int .i64 k ∧ wr.ownsMap Try.prog 25 (plainElem (H := Unit) Try.prog 3) w.heap.size k (Sm k) ∧ Below w.heap.size w wr)
    (fun _ i _ => 257 - (intOf i).toNat)
  case atStart => exact ⟨0, Nat.zero_le _, rfl, rfl, World.ownsMap_made _ _ _ _, (Below.refl _ _).alloc (Nat.le_refl _) _⟩
  case round =>
    obtain ⟨k, hk, rfl, rfl, hown, hnx⟩ := hrel
    have hp := pw_lt (a := 2) k (by decide)
    have hkey : keyOf Try.prog 25 (.int .u16 (pw 2 k : Nat)) = some (.int .u16 (pw 2 k : Nat)) := keyOf_int_mk Try.underlying25 (WalkArith.wf_u16 (by omega))
    by_cases hlt : k < 257
    · go_wp2_with (first
        | (at_mapUpdate; refine wpList_mapUpdate_own _ rfl _ _ _ 41 rfl 25 3 lawK Try.underlying41 _ w.heap.size k _ rfl hown (by unfold maxLen; omega) _ _ _ rfl rfl hkey _ [] (plainElem_int Try.underlying3 (WalkArith.wf_i64 (by omega))) ?_; intro w1 hown1 hgrow1)
        | (go_at_call 22; refine (times_any _ _ _ (by omega) (by decide)).mono ?_; rintro e w' ⟨rfl, rfl⟩))
      go_roundw
      case rel => exact ⟨k + 1, by omega, rfl, by go_num, hown1, hnx.grown hgrow1 hnx.size (fun j hj => by cases hj; exact Nat.le_refl _)⟩
      case measure => simp [intOf]; omega
    · have : k = 257 := by omega
      subst this
      go_wp2
      go_ret
      exact ⟨rfl, hown, hnx⟩

set_option maxHeartbeats 400000 in
theorem log_zero (f : Addr) (w : World) :
    Calls Try.prog 10 #[.pointer (some f), .int .u16 0] w fun e w' => e = .returned (.tuple #[.int .i64 0, .bool false]) ∧ w' = w := by
  go_enter Try.func10, Try.ntmps10
  go_wp2
  go_ret2
  exact ⟨rfl, rfl⟩

theorem back_step (m : Nat) (h : 257 ≤ m) : gm (pw 2 m) (pw 2 65278) = pw 2 (m - 257) := by
  rw [← pw_add (by decide), show m + 65278 = (m - 257) + 65535 from by omega, pw_add (by decide), ord_one, gm_one]

theorem lit_i64 {a b : Int} (h : (DataW.lit (.int .i64 a) : DataW Unit) = .lit (.int .i64 b)) : b = a := by
  injection h with h
  injection h with _ h
  exact h.symm

theorem ret_pair {a b : Int} (h : a = b) : Ending.returned (.tuple #[.int .i64 a, .bool true]) = .returned (.tuple #[.int .i64 b, .bool true]) := by rw [h]

set_option maxRecDepth 100000 in
set_option maxHeartbeats 1000000 in
theorem log_any (f : Addr) (x : Int) (n : Nat) (w : World) (hn : n < 65535) (hx : Hid (((pw 2 n : Nat) : Int) = x)) (h0 : (x == 0) = false) :
    Calls Try.prog 10 #[.pointer (some f), .int .u16 x] w fun e w' => e = .returned (.tuple #[.int .i64 n, .bool true]) ∧ Below w.heap.size w w' := by
  go_enter Try.func10, Try.ntmps10
  go_wp2_with fail
  refine (small_any _).mono ?_
  rintro e w1 ⟨rfl, hown, hbl⟩
  go_wp2_with fail
  refine (power_any _ _ _ (by decide) (by decide)).mono ?_
  rintro e w' ⟨rfl, rfl⟩
  have hb1 : 0 ≤ pI 2 65278 ∧ pI 2 65278 < 65536 := pI_bd 2 65278 (by decide)
  have HB0 : Hid (pI 2 65278 = ((pw 2 65278 : Nat) : Int)) := pI_nat 2 65278
  revert hb1 HB0
  generalize pI 2 65278 = bk
  intro hb1 HB0
  go_wp2_with fail
  go_loop [1, 8, 9, 10, 19] (fun t _ _ _ i => ∃ k m : Nat, n = m + 257 * k ∧ t = .int .u16 (pw 2 m : Nat) ∧ i = .int .i64 k) (fun _ _ _ _ i => 255 - (intOf i).toNat)
  case atStart => exact ⟨0, n, by omega, by rw [hx.out], rfl⟩
  case round =>
    obtain ⟨k, m, hkm, rfl, rfl⟩ := hrel
    have hp := pw_lt (a := 2) m (by decide)
    have hk : k < 255 := by omega
    have HK : Hid (n = m + 257 * k) := hkm
    clear hkm
    have hkey : keyOf Try.prog 25 (.int .u16 (pw 2 m : Nat)) = some (.int .u16 (pw 2 m : Nat)) := keyOf_int_mk Try.underlying25 (WalkArith.wf_u16 (by omega))
    by_cases hlt : m < 257
    · obtain ⟨hy1, hy2⟩ := sm_yes 257 m (by decide) hlt
      have HY := hide hy2
      clear hy2
      go_wp2_with (first
        | (at_lookup; refine wpList_lookup_own_ok_int _ rfl _ _ 41 rfl 25 3 .i64 lawK Try.underlying41 Try.underlying3 (zeroE _) w.heap.size 257 _ rfl hown _ _ rfl hkey ?_; intro c hat hwc; rw [HY.out] at hat; obtain rfl := lit_i64 hat; clear hat hwc))
      go_ret2
      exact ⟨ret_pair (by have := HK.out; omega), hbl⟩
    · have hy1 := sm_no 257 (pw 2 m) (fun j hj e => hlt (by have := pw2_inj (i := j) (j := m) (by omega) (by have := HK.out; omega) e; omega))
      go_wp2_with (first
        | (at_lookup; refine wpList_lookup_own_ok_int _ rfl _ _ 41 rfl 25 3 .i64 lawK Try.underlying41 Try.underlying3 (zeroE _) w.heap.size 257 _ rfl hown _ _ rfl hkey ?_; intro c hat hwc; clear hat hwc)
        | (go_at_call 22; refine (times_any _ _ _ (by omega) hb1).mono ?_; rintro e w' ⟨rfl, rfl⟩))
      go_round
      case rel => exact ⟨k + 1, m - 257, by have := HK.out; omega, by rw [HB0.out, gI_nat, back_step m (by omega)], by go_num⟩
      case measure => simp [intOf]; omega

end Go.Proofs.Ytekmoioeoglinaa
