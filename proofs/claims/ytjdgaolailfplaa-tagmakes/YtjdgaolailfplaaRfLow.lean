/- The document's turn and place, walked. For numbers of 32 bits and the document's four turns; for digits. -/
import Derived.Test.YtjdgaolailfplaaBArgs
import Derived.StillTailTactics
namespace Go.Proofs.Ytjdgaolailfplaa
open Go.RowKit Bk
set_option linter.unusedVariables false
set_option linter.unusedSimpArgs false

theorem or_rr2 (p q x : Nat) (hx : x < 4294967296) : bits .or .u32 ((x : Int) / (q : Int)) ((x : Int) * (p : Int) % 4294967296) = ((rr p q x : Nat) : Int) := by
  have e1 : (x : Int) / (q : Int) = ((x / q : Nat) : Int) := by simp
  have e2 : (x : Int) * (p : Int) % 4294967296 = ((x * p % 4294967296 : Nat) : Int) := by simp
  rw [e1, e2, u32_or_nat _ _ (Nat.lt_of_le_of_lt (Nat.div_le_self _ _) hx) (Nat.mod_lt _ (by decide))]
  unfold rr
  rw [Nat.or_comm]
set_option maxRecDepth 100000 in
set_option maxHeartbeats 4000000 in
theorem rfturn16 (x : Nat) (w : World) (hx : x < 4294967296) : Calls Try.prog 38 #[.int .u32 (x : Int), .int .u32 16] w fun e w' => e = .returned (.int .u32 ((rr 65536 65536 x : Nat) : Int)) ∧ w' = w := by
  have h := or_rr2 65536 65536 x hx
  go_enter Try.func38, Try.ntmps38
  go_wp2
  go_ret
  exact ⟨ret_u32 h, rfl⟩
set_option maxRecDepth 100000 in
set_option maxHeartbeats 4000000 in
theorem rfturn12 (x : Nat) (w : World) (hx : x < 4294967296) : Calls Try.prog 38 #[.int .u32 (x : Int), .int .u32 12] w fun e w' => e = .returned (.int .u32 ((rr 1048576 4096 x : Nat) : Int)) ∧ w' = w := by
  have h := or_rr2 1048576 4096 x hx
  go_enter Try.func38, Try.ntmps38
  go_wp2
  go_ret
  exact ⟨ret_u32 h, rfl⟩
set_option maxRecDepth 100000 in
set_option maxHeartbeats 4000000 in
theorem rfturn8 (x : Nat) (w : World) (hx : x < 4294967296) : Calls Try.prog 38 #[.int .u32 (x : Int), .int .u32 8] w fun e w' => e = .returned (.int .u32 ((rr 16777216 256 x : Nat) : Int)) ∧ w' = w := by
  have h := or_rr2 16777216 256 x hx
  go_enter Try.func38, Try.ntmps38
  go_wp2
  go_ret
  exact ⟨ret_u32 h, rfl⟩
set_option maxRecDepth 100000 in
set_option maxHeartbeats 4000000 in
theorem rfturn7 (x : Nat) (w : World) (hx : x < 4294967296) : Calls Try.prog 38 #[.int .u32 (x : Int), .int .u32 7] w fun e w' => e = .returned (.int .u32 ((rr 33554432 128 x : Nat) : Int)) ∧ w' = w := by
  have h := or_rr2 33554432 128 x hx
  go_enter Try.func38, Try.ntmps38
  go_wp2
  go_ret
  exact ⟨ret_u32 h, rfl⟩

/-- A digit's letter. -/
def dch (x : Nat) : Nat := if x < 10 then 48 + x else 87 + x
set_option maxRecDepth 100000 in
set_option maxHeartbeats 4000000 in
theorem place_any (x : Nat) (w : World) (hx : x < 16) : Calls Try.prog 33 #[.int .u8 ((dch x : Nat) : Int)] w fun e w' => e = .returned (.int .i64 x) ∧ w' = w := by
  by_cases h : x < 10
  · have e : dch x = 48 + x := by unfold dch; rw [if_pos h]
    rw [e]
    have h1 : ¬ ((97 : Int) ≤ ((48 + x : Nat) : Int)) := by omega
    have h2 : IntKind.u8.wrap (((48 + x : Nat) : Int) - 48) = (x : Int) := by rw [IntWalk.u8_in _ (by omega)]; omega
    obtain ⟨c, ec⟩ : ∃ c : Nat, 48 + x = c := ⟨_, rfl⟩
    rw [ec] at h1 h2 ⊢
    go_enter Try.func33, Try.ntmps33
    go_wp2
    go_ret
    exact ⟨rfl, rfl⟩
  · have e : dch x = 87 + x := by unfold dch; rw [if_neg h]
    rw [e]
    have h1 : (97 : Int) ≤ ((87 + x : Nat) : Int) := by omega
    have h2 : IntKind.u8.wrap (((87 + x : Nat) : Int) - 97) = (x : Int) - 10 := by rw [IntWalk.u8_in _ (by omega)]; omega
    have h3 : (x : Int) - 10 + 10 = (x : Int) := by omega
    obtain ⟨c, ec⟩ : ∃ c : Nat, 87 + x = c := ⟨_, rfl⟩
    rw [ec] at h1 h2 ⊢
    have hx1 : (10 : Int) ≤ (x : Int) := by omega
    have hx2 : (x : Int) < 16 := by omega
    go_enter Try.func33, Try.ntmps33
    go_wp2
    go_ret
    exact ⟨rfl, rfl⟩

/-- The row of places r, as its text. -/
def prow (r : Nat) : List UInt8 := (List.range 16).map fun j => UInt8.ofNat (dch (at' rows (16 * r + j)))
theorem prow_at (r j : Nat) (hj : j < 16) : by' (prow r) j = dch (at' rows (16 * r + j)) := by
  have hlt : dch (at' rows (16 * r + j)) < 256 := by
    unfold dch
    have : at' rows (16 * r + j) < 16 := by
      by_cases h : 16 * r + j < 160
      · exact rows_lt h
      · have hr : rows.length = 160 := by kernel_rfl
        rw [at_out (by omega)]; decide
    split <;> omega
  unfold by' prow
  simp [List.getD_eq_getElem?_getD, hj]
  omega
end Go.Proofs.Ytjdgaolailfplaa
