/- The polynomials' two walks over coefficients, each and eachTimes, with the field's sum and product handed on: the row is written in place, coefficient by coefficient, and nothing else is changed. For at most 4000 numbers of 16 bits. -/
import Derived.Test.YtdbdidohldhnhaaClones
import Derived.StillTailTactics
namespace Go.Proofs.Ytdbdidohldhnhaa
open Go.RowKit Gf

/-- The field's sum, handed on. -/
def fAdd (x : Addr) : Value := .func (.func 47) #[.pointer (some x)] #[]
/-- The field's product, handed on. -/
def fMul (x : Addr) : Value := .func (.func 46) #[.pointer (some x)] #[]

set_option maxRecDepth 100000 in
set_option maxHeartbeats 1000000 in
theorem each_some (b o N L C bp op m cp : Nat) (x : Addr) (F P : Nat → Int) (w : World) (hN : N ≤ 4000) (hmN : m ≤ N) (hL : m ≤ L) (hne : bp ≠ b) (hF : ∀ j, 0 ≤ F j ∧ F j ≤ 65535) (hP : ∀ j, 0 ≤ P j ∧ P j ≤ 65535)
    (hw : Wr w b o N F) (hc : ∀ j, j < m → w.cell? ⟨bp, op + j, none⟩ = some (.int .u16 (P j))) :
    Calls Try.prog 61 #[.slice (some ⟨b, o, none⟩) L C, .slice (some ⟨bp, op, none⟩) m cp, .func (.func 47) #[.pointer (some x)] #[]] w fun e w' =>
      (∃ v, e = .returned v) ∧ Wr w' b o N (fun k => if k < m then xI (F k) (P k) else F k) ∧ Only b w w' := by
  go_enter Try.func61, Try.ntmps61
  go_wp2
  go_loopw [6, 7, 10] (fun _ _ i wr => ∃ k : Nat, i = .int .i64 k ∧ k ≤ m ∧ Wr wr b o N (fun j => if j < k then xI (F j) (P j) else F j) ∧ Only b w wr) (fun _ _ i _ => m - (intOf i).toNat)
  case atStart => exact ⟨0, rfl, Nat.zero_le _, hw.congr (fun j hj => by simp), Only.refl _ _⟩
  case round =>
    obtain ⟨k, rfl, hk, hwr, hon⟩ := hrel
    by_cases hlt : k < m
    · have hx : wr.cell? ⟨bp, op + k, none⟩ = some (.int .u16 (P k)) := (hon.cell (p := ⟨bp, op + k, none⟩) hne).trans (hc k hlt)
      have hy : wr.cell? ⟨b, o + k, none⟩ = some (.int .u16 (F k)) := by rw [hwr.cell k (by omega)]; simp
      have hfz : wr.frozen? ⟨b, o + k, none⟩ = false := hwr.free k (by omega)
      have bF := hF k
      have bP := hP k
      have HW := hide hwr
      have HO := hide hon
      clear hwr hon
      go_wp2_with (go_at_call 47; refine (add_any _ _ _ _ (by omega) (by omega)).mono ?_; rintro e w' ⟨rfl, rfl⟩)
      go_roundw
      case rel =>
        refine ⟨k + 1, by go_num, by omega, (HW.out.set k (by omega) (xI (F k) (P k))).congr (fun j hj => ?_), HO.out.trans (Only.setCell _ _ _ _)⟩
        by_cases e : j = k
        · subst e; simp
        · by_cases h2 : j < k
          · simp [e, h2, show j < k + 1 from by omega]
          · simp [e, h2, show ¬ j < k + 1 from by omega]
      case measure => simp [intOf]; omega
    · obtain rfl : k = m := by omega
      go_wp2
      go_end0
      exact ⟨⟨_, rfl⟩, hwr, hon⟩

set_option maxRecDepth 100000 in
set_option maxHeartbeats 2000000 in
theorem eachTimes_some (b o i N L C bp op m cp : Nat) (x : Addr) (c : Int) (F P : Nat → Int) (w : World) (hN : N ≤ 4000) (hmN : i + m ≤ N) (hL : m ≤ L) (hne : bp ≠ b ∨ o + i ≤ op) (hF : ∀ j, 0 ≤ F j ∧ F j ≤ 65535) (hP : ∀ j, 0 ≤ P j ∧ P j ≤ 65535)
    (hc0 : 0 ≤ c ∧ c ≤ 65535) (hcn : (c == 0) = false)
    (hw : Wr w b o N F) (hc : ∀ j, j < m → w.cell? ⟨bp, op + j, none⟩ = some (.int .u16 (P j))) :
    Calls Try.prog 53 #[.slice (some ⟨b, o + i, none⟩) L C, .slice (some ⟨bp, op, none⟩) m cp, .int .u16 c, .func (.func 47) #[.pointer (some x)] #[], .func (.func 46) #[.pointer (some x)] #[]] w fun e w' =>
      (∃ v, e = .returned v) ∧ Wr w' b o N (fun k => if i ≤ k ∧ k < i + m then xI (F k) (gI (P (k - i)) c) else F k) ∧ Only b w w' := by
  go_enter Try.func53, Try.ntmps53
  go_wp2
  go_loopw [10, 11, 16] (fun _ _ t wr => ∃ k : Nat, t = .int .i64 k ∧ k ≤ m ∧ Wr wr b o N (fun j => if i ≤ j ∧ j < i + k then xI (F j) (gI (P (j - i)) c) else F j) ∧ Only b w wr ∧ ∀ j, k ≤ j → j < m → wr.cell? ⟨bp, op + j, none⟩ = some (.int .u16 (P j))) (fun _ _ t _ => m - (intOf t).toNat)
  case atStart => exact ⟨0, rfl, Nat.zero_le _, hw.congr (fun j hj => by rw [if_neg (by omega)]), Only.refl _ _, fun j _ hj => hc j hj⟩
  case round =>
    obtain ⟨k, rfl, hk, hwr, hon, hcs⟩ := hrel
    by_cases hlt : k < m
    · have hx : wr.cell? ⟨bp, op + k, none⟩ = some (.int .u16 (P k)) := hcs k (Nat.le_refl _) hlt
      have hy : wr.cell? ⟨b, o + i + k, none⟩ = some (.int .u16 (F (i + k))) := by
        have := hwr.cell (i + k) (by omega)
        rw [if_neg (by omega), ← Nat.add_assoc] at this
        exact this
      have hfz : wr.frozen? ⟨b, o + i + k, none⟩ = false := by
        have := hwr.free (i + k) (by omega)
        rw [← Nat.add_assoc] at this
        exact this
      have bF := hF (i + k)
      have bP := hP k
      have bG := gI_bd (P k) c (by omega)
      have hkL : k < L := by omega
      have HW := hide hwr
      have HO := hide hon
      have HC := hide hcs
      clear hwr hon hcs
      go_wp2_with fail
      refine wp_region_still_tail 13 (by kernel_rfl) (by kernel_rfl) ?_
      simp only [List.take_succ_cons, List.take_zero, List.drop_succ_cons, List.drop_zero]
      repeat still_step
      still_call (mul_any _ _ _ _ (by omega) (by omega))
      repeat still_step
      still_call (add_any _ _ _ _ (by omega) (by omega))
      repeat still_step
      refine wpStill_nil ?_
      all_goals (
        go_wp2
        go_roundw
        case rel =>
          refine ⟨k + 1, by go_num, by omega, ?_, (HO.out.trans (Only.setCell b (o + i + k) _ _)).drew, ?_⟩
          · have h9 := HW.out.set (i + k) (by omega) (xI (F (i + k)) (gI (P k) c))
            rw [← Nat.add_assoc] at h9
            refine Wr.drew1 (Wr.congr h9 (fun j hj => ?_))
            by_cases e : j = i + k
            · subst e; rw [if_pos rfl, if_pos (by omega), show i + k - i = k from by omega]
            · by_cases h2 : i ≤ j ∧ j < i + k
              · rw [if_neg e, if_pos h2, if_pos (by omega)]
              · rw [if_neg e, if_neg h2, if_neg (by omega)]
          · intro j h1 h2
            refine Eq.trans ?_ (HC.out j (by omega) h2)
            show (World.setCell _ _ _).cell? _ = _
            refine (World.cell?_setCell_other _ _ _ _ ?_)
            intro h'
            injection h' with h3 h4
            omega
        case measure => simp [intOf]; omega)
    · obtain rfl : k = m := by omega
      go_wp2
      go_end0
      exact ⟨⟨_, rfl⟩, hwr, hon⟩

theorem each_none (a a' : Option Addr) (L C cp : Nat) (v : Value) (w : World) :
    Calls Try.prog 61 #[.slice a L C, .slice a' 0 cp, v] w fun e w' => (∃ v, e = .returned v) ∧ w' = w := by
  go_enter Try.func61, Try.ntmps61
  go_wp2
  refine wp_loop_rounds 1 ?_
  rw [rounds_succ]
  go_wp2
  go_end0
  exact ⟨⟨_, rfl⟩, rfl⟩

end Go.Proofs.Ytdbdidohldhnhaa
