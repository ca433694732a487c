/- The bits of roots, found by a closure that compares; walked. For primes below 2 to the power of 32: each call returns what the plain numbers say, and leaves what was there. -/
import Derived.Test.YtdcmjmmfclhfbaaRLay
import Derived.Test.YtdcmjmmfclhfbaaSLow
import Derived.Test.YtdcmjmmfclhfbaaArr
import Derived.Deep.LoopGhost
import Derived.Laws.Bits64b
namespace Go.Proofs.Ytdcmjmmfclhfbaa
open Go.RowKit Bk
set_option linter.unusedVariables false

namespace Bk
/-- Is n over 2 to the power of 32 below the square root, the cube root, of p? -/
def sqb (p n : Nat) : Bool := decide (n * n / 18446744073709551616 < p)
def cbb (p n : Nat) : Bool := decide ((n * n / 18446744073709551616 * n + n * n % 18446744073709551616 * n / 18446744073709551616) / 4294967296 < p)
/-- The bits below bit k, found one by one. -/
def rbit (b : Nat → Bool) : Nat → Nat → Nat
  | 0, r => r
  | k + 1, r => rbit b k (if b (r ||| 2 ^ k) then r ||| 2 ^ k else r)
def rbits (b : Nat → Bool) : Nat := rbit b 35 0 % 4294967296
end Bk
/-- The bit that is looked at. -/
def bitOf : Nat → Nat
  | 0 => 0
  | k + 1 => 2 ^ k
theorem bitOf_half (k : Nat) : bitOf (k + 1) / 2 = bitOf k := by
  cases k with
  | zero => rfl
  | succ k => show 2 ^ (k + 1) / 2 = 2 ^ k; rw [Nat.pow_succ]; omega
theorem or64_nat (a b : Nat) (ha : a < 18446744073709551616) (hb : b < 18446744073709551616) : bits .or .u64 (a : Int) (b : Int) = ((a ||| b : Nat) : Int) := bits_or_u64_nat a b ha hb
theorem ret_b {a b : Bool} (h : a = b) : Ending.returned (.bool a) = .returned (.bool b) := by rw [h]

set_option maxRecDepth 100000 in
set_option maxHeartbeats 4000000 in
theorem sqBelow_any (n p : Nat) (pp : Nat) (w : World) (hn : n < 34359738368) (hp : p < 4294967296) (hc : w.cell? ⟨pp, 0, none⟩ = some (.int .u64 (p : Int))) :
    Calls Try.prog 43 #[.int .u64 n, .pointer (some ⟨pp, 0, none⟩)] w fun e w' => e = .returned (.bool (sqb p n)) ∧ w' = w := by
  have cM := mul64_any n n (by omega) (by omega) w
  obtain ⟨H, eH⟩ : ∃ z, n * n / 18446744073709551616 = z := ⟨_, rfl⟩
  obtain ⟨L, eL⟩ : ∃ z, n * n % 18446744073709551616 = z := ⟨_, rfl⟩
  rw [eH, eL] at cM
  have hb : sqb p n = decide (H < p) := by unfold sqb; rw [eH]
  have HB := hide hb.symm
  clear eH eL hb
  go_enter Try.func43, Try.ntmps43
  go_wp2_with fail
  refine cM.mono ?_
  rintro e w' ⟨rfl, hw⟩
  obtain rfl := hw.symm
  clear cM
  go_wp2_with fail
  go_ret
  exact ⟨ret_b HB.out, rfl⟩

set_option maxRecDepth 100000 in
set_option maxHeartbeats 4000000 in
theorem cbBelow_any (n p : Nat) (pp : Nat) (w : World) (hn : n < 34359738368) (hp : p < 4294967296) (hc : w.cell? ⟨pp, 0, none⟩ = some (.int .u64 (p : Int))) :
    Calls Try.prog 45 #[.int .u64 n, .pointer (some ⟨pp, 0, none⟩)] w fun e w' => e = .returned (.bool (cbb p n)) ∧ w' = w := by
  have cM := mul64_any n n (by omega) (by omega) w
  have lH : n * n / 18446744073709551616 < 64 := by
    have : n * n < 34359738368 * 34359738368 := Nat.mul_lt_mul'' hn hn
    omega
  have lL : n * n % 18446744073709551616 < 18446744073709551616 := Nat.mod_lt _ (by decide)
  obtain ⟨H, eH⟩ : ∃ z, n * n / 18446744073709551616 = z := ⟨_, rfl⟩
  obtain ⟨L, eL⟩ : ∃ z, n * n % 18446744073709551616 = z := ⟨_, rfl⟩
  have hb : cbb p n = decide ((H * n + L * n / 18446744073709551616) / 4294967296 < p) := by unfold cbb; rw [eH, eL]
  rw [eH, eL] at cM
  rw [eH] at lH
  rw [eL] at lL
  have cN := mul64_any L n lL (by omega) w
  have lC : L * n / 18446744073709551616 ≤ n := by
    have h1 : L * n ≤ 18446744073709551616 * n := Nat.mul_le_mul_right _ (by omega)
    exact Nat.div_le_of_le_mul h1
  obtain ⟨C, eC⟩ : ∃ z, L * n / 18446744073709551616 = z := ⟨_, rfl⟩
  obtain ⟨D, eD⟩ : ∃ z, L * n % 18446744073709551616 = z := ⟨_, rfl⟩
  rw [eC, eD] at cN
  rw [eC] at lC hb
  have lHn : H * n ≤ 64 * n := Nat.mul_le_mul_right _ (by omega)
  obtain ⟨M, eM⟩ : ∃ z, H * n = z := ⟨_, rfl⟩
  have eMI : (H : Int) * (n : Int) = (M : Int) := by rw [← eM, Int.natCast_mul]
  rw [eM] at lHn hb
  have r1 : IntKind.u64.wrap ((H : Int) * (n : Int)) = (M : Int) := by rw [eMI, IntWalk.u64_in _ (by omega)]
  have r1' : (H : Int) * (n : Int) % 18446744073709551616 = (M : Int) := by rw [eMI]; omega
  obtain ⟨S, eS⟩ : ∃ z, M + C = z := ⟨_, rfl⟩
  have r2 : IntKind.u64.wrap ((M : Int) + (C : Int)) = (S : Int) := by rw [IntWalk.u64_in _ (by omega)]; omega
  have r2' : ((M : Int) + (C : Int)) % 18446744073709551616 = (S : Int) := by omega
  rw [eS] at hb
  obtain ⟨Z, eZ⟩ : ∃ z, S / 4294967296 = z := ⟨_, rfl⟩
  have r3 : (S : Int) / 4294967296 = (Z : Int) := by omega
  rw [eZ] at hb
  have HB := hide hb.symm
  clear eH eL hb eC eD eM eMI eS eZ lH lL lC lHn
  go_enter Try.func45, Try.ntmps45
  go_wp2_with fail
  refine cM.mono ?_
  rintro e w' ⟨rfl, hw⟩
  obtain rfl := hw.symm
  clear cM
  go_wp2_with fail
  refine cN.mono ?_
  rintro e w' ⟨rfl, hw⟩
  obtain rfl := hw.symm
  clear cN
  go_wp2_with fail
  go_ret
  exact ⟨ret_b HB.out, rfl⟩


set_option maxRecDepth 100000 in
set_option maxHeartbeats 4000000 in
theorem rootBits_sqb (p : Nat) (pp : Nat) (w : World) (hp : p < 4294967296) (hc : w.cell? ⟨pp, 0, none⟩ = some (.int .u64 (p : Int))) :
    Calls Try.prog 42 #[.func (.func 43) #[] #[.pointer (some ⟨pp, 0, none⟩)]] w fun e w' => e = .returned (.int .u32 (rbits (sqb p) : Nat)) ∧ w' = w := by
  have HC := hide hc
  have hX : rbits (sqb p) = rbit (sqb p) 35 0 % 4294967296 := rfl
  have HX := hide hX
  clear hc hX
  go_enter Try.func42, Try.ntmps42
  go_wp2_with fail
  go_loopg [3, 4] 35 (fun g r t wr => ∃ k rt : Nat, k = g ∧ k ≤ 35 ∧ r = .int .u64 rt ∧ t = .int .u64 (bitOf k) ∧ rt < 34359738368 ∧ rbit (sqb p) k rt = rbit (sqb p) 35 0 ∧ w = wr)
  case atStart => exact ⟨35, 0, rfl, Nat.le_refl _, rfl, rfl, by decide, rfl, rfl⟩
  case round =>
    obtain ⟨k, rt, rfl, hk, rfl, rfl, hr, hE, hwr⟩ := hrel
    subst hwr
    cases k with
    | zero =>
      have e0 : bitOf 0 = 0 := rfl
      rw [e0]
      have hE2 : rt = rbit (sqb p) 35 0 := hE
      have w1 : IntKind.u32.wrap (rt : Int) = ((rbits (sqb p) : Nat) : Int) := by rw [HX.out, ← hE2, IntKind.wrap_u32]; omega
      have w2 : (rt : Int) % 4294967296 = ((rbits (sqb p) : Nat) : Int) := by rw [HX.out, ← hE2]; omega
      obtain ⟨Z, eZ⟩ : ∃ z, rbits (sqb p) = z := ⟨_, rfl⟩
      rw [eZ] at w1 w2
      have HZ := hide eZ
      clear hE hE2 HX eZ
      go_wp2_with fail
      go_ret
      exact ⟨by rw [HZ.out]; rfl, rfl⟩
    | succ k =>
      have eb : bitOf (k + 1) = 2 ^ k := rfl
      have hpk : 2 ^ k < 34359738368 := Nat.lt_of_le_of_lt (Nat.pow_le_pow_right (show 2 > 0 by decide) (show k ≤ 34 by omega)) (by decide)
      have h1 : 0 < 2 ^ k := Nat.two_pow_pos k
      have hh := bitOf_half k
      rw [eb] at hh
      have hE2 : rbit (sqb p) k (if sqb p (rt ||| 2 ^ k) then rt ||| 2 ^ k else rt) = rbit (sqb p) 35 0 := hE
      rw [eb]
      obtain ⟨B, eB⟩ : ∃ z, 2 ^ k = z := ⟨_, rfl⟩
      rw [eB] at hpk h1 hh hE2 ⊢
      have lO : rt ||| B < 34359738368 := Nat.or_lt_two_pow (n := 35) hr hpk
      have rO := or64_nat rt B (by omega) (by omega)
      obtain ⟨O, eO⟩ : ∃ z, rt ||| B = z := ⟨_, rfl⟩
      rw [eO] at lO rO hE2
      have hB0 : (B : Int) > 0 := by omega
      have hB0' : (0 : Int) < (B : Int) := by omega
      obtain ⟨B2, eB2⟩ : ∃ z, bitOf k = z := ⟨_, rfl⟩
      rw [eB2] at hh
      have rB : (B : Int) / 2 = (B2 : Int) := by omega
      have HK := hide eB2
      have HH := hide hE2
      have HR := hide hr
      have HO := hide lO
      have HP := hide hk
      have hcl := sqBelow_any O p pp w lO hp HC.out
      clear hE eb eB eO eB2 hE2 hr lO hpk h1 hh hk
      cases hb : sqb p O with
      | false =>
        rw [hb] at hcl
        go_wp2_with fail
        refine hcl.mono ?_
        rintro e w' ⟨rfl, hw⟩
        obtain rfl := hw.symm
        clear hcl
        go_wp2_with fail
        go_roundg k
        case measure => omega
        case rel =>
          have h9 := HH.out
          rw [hb, if_neg (by decide)] at h9
          exact ⟨k, rt, rfl, by have := HP.out; omega, rfl, by rw [HK.out], HR.out, h9, rfl⟩
      | true =>
        rw [hb] at hcl
        go_wp2_with fail
        refine hcl.mono ?_
        rintro e w' ⟨rfl, hw⟩
        obtain rfl := hw.symm
        clear hcl
        go_wp2_with fail
        go_roundg k
        case measure => omega
        case rel =>
          have h9 := HH.out
          rw [hb, if_pos rfl] at h9
          exact ⟨k, O, rfl, by have := HP.out; omega, rfl, by rw [HK.out], HO.out, h9, rfl⟩


set_option maxRecDepth 100000 in
set_option maxHeartbeats 4000000 in
theorem rootBits_cbb (p : Nat) (pp : Nat) (w : World) (hp : p < 4294967296) (hc : w.cell? ⟨pp, 0, none⟩ = some (.int .u64 (p : Int))) :
    Calls Try.prog 42 #[.func (.func 45) #[] #[.pointer (some ⟨pp, 0, none⟩)]] w fun e w' => e = .returned (.int .u32 (rbits (cbb p) : Nat)) ∧ w' = w := by
  have HC := hide hc
  have hX : rbits (cbb p) = rbit (cbb p) 35 0 % 4294967296 := rfl
  have HX := hide hX
  clear hc hX
  go_enter Try.func42, Try.ntmps42
  go_wp2_with fail
  go_loopg [3, 4] 35 (fun g r t wr => ∃ k rt : Nat, k = g ∧ k ≤ 35 ∧ r = .int .u64 rt ∧ t = .int .u64 (bitOf k) ∧ rt < 34359738368 ∧ rbit (cbb p) k rt = rbit (cbb p) 35 0 ∧ w = wr)
  case atStart => exact ⟨35, 0, rfl, Nat.le_refl _, rfl, rfl, by decide, rfl, rfl⟩
  case round =>
    obtain ⟨k, rt, rfl, hk, rfl, rfl, hr, hE, hwr⟩ := hrel
    subst hwr
    cases k with
    | zero =>
      have e0 : bitOf 0 = 0 := rfl
      rw [e0]
      have hE2 : rt = rbit (cbb p) 35 0 := hE
      have w1 : IntKind.u32.wrap (rt : Int) = ((rbits (cbb p) : Nat) : Int) := by rw [HX.out, ← hE2, IntKind.wrap_u32]; omega
      have w2 : (rt : Int) % 4294967296 = ((rbits (cbb p) : Nat) : Int) := by rw [HX.out, ← hE2]; omega
      obtain ⟨Z, eZ⟩ : ∃ z, rbits (cbb p) = z := ⟨_, rfl⟩
      rw [eZ] at w1 w2
      have HZ := hide eZ
      clear hE hE2 HX eZ
      go_wp2_with fail
      go_ret
      exact ⟨by rw [HZ.out]; rfl, rfl⟩
    | succ k =>
      have eb : bitOf (k + 1) = 2 ^ k := rfl
      have hpk : 2 ^ k < 34359738368 := Nat.lt_of_le_of_lt (Nat.pow_le_pow_right (show 2 > 0 by decide) (show k ≤ 34 by omega)) (by decide)
      have h1 : 0 < 2 ^ k := Nat.two_pow_pos k
      have hh := bitOf_half k
      rw [eb] at hh
      have hE2 : rbit (cbb p) k (if cbb p (rt ||| 2 ^ k) then rt ||| 2 ^ k else rt) = rbit (cbb p) 35 0 := hE
      rw [eb]
      obtain ⟨B, eB⟩ : ∃ z, 2 ^ k = z := ⟨_, rfl⟩
      rw [eB] at hpk h1 hh hE2 ⊢
      have lO : rt ||| B < 34359738368 := Nat.or_lt_two_pow (n := 35) hr hpk
      have rO := or64_nat rt B (by omega) (by omega)
      obtain ⟨O, eO⟩ : ∃ z, rt ||| B = z := ⟨_, rfl⟩
      rw [eO] at lO rO hE2
      have hB0 : (B : Int) > 0 := by omega
      have hB0' : (0 : Int) < (B : Int) := by omega
      obtain ⟨B2, eB2⟩ : ∃ z, bitOf k = z := ⟨_, rfl⟩
      rw [eB2] at hh
      have rB : (B : Int) / 2 = (B2 : Int) := by omega
      have HK := hide eB2
      have HH := hide hE2
      have HR := hide hr
      have HO := hide lO
      have HP := hide hk
      have hcl := cbBelow_any O p pp w lO hp HC.out
      clear hE eb eB eO eB2 hE2 hr lO hpk h1 hh hk
      cases hb : cbb p O with
      | false =>
        rw [hb] at hcl
        go_wp2_with fail
        refine hcl.mono ?_
        rintro e w' ⟨rfl, hw⟩
        obtain rfl := hw.symm
        clear hcl
        go_wp2_with fail
        go_roundg k
        case measure => omega
        case rel =>
          have h9 := HH.out
          rw [hb, if_neg (by decide)] at h9
          exact ⟨k, rt, rfl, by have := HP.out; omega, rfl, by rw [HK.out], HR.out, h9, rfl⟩
      | true =>
        rw [hb] at hcl
        go_wp2_with fail
        refine hcl.mono ?_
        rintro e w' ⟨rfl, hw⟩
        obtain rfl := hw.symm
        clear hcl
        go_wp2_with fail
        go_roundg k
        case measure => omega
        case rel =>
          have h9 := HH.out
          rw [hb, if_pos rfl] at h9
          exact ⟨k, O, rfl, by have := HP.out; omega, rfl, by rw [HK.out], HO.out, h9, rfl⟩


set_option maxRecDepth 100000 in
theorem sqRoot_any (p : Nat) (w : World) (hp : p < 4294967296) : Calls Try.prog 30 #[.int .u64 p] w fun e w' => e = .returned (.int .u32 (rbits (sqb p) : Nat)) ∧ Below w.heap.size w w' := by
  have hR := Row.newL w [.int .u64 (p : Int)] 55
  have hc : (w.alloc (.cells #[.int .u64 (p : Int)] 55)).cell? ⟨w.heap.size, 0, none⟩ = some (.int .u64 (p : Int)) := hR.cell 0 _ rfl
  have hB : Below w.heap.size w (w.alloc (.cells #[.int .u64 (p : Int)] 55)) := (Below.refl _ w).alloc (Nat.le_refl _) _
  obtain ⟨W, hW, hc, hB⟩ : ∃ W, w.alloc (.cells #[.int .u64 (p : Int)] 55) = W ∧ W.cell? ⟨w.heap.size, 0, none⟩ = some (.int .u64 (p : Int)) ∧ Hid (Below w.heap.size w W) := ⟨_, rfl, hc, hB⟩
  clear hR
  go_enter Try.func30, Try.ntmps30
  go_wp2_with fail
  refine (rootBits_sqb p _ _ hp hc).mono ?_
  rintro e w' ⟨rfl, hw⟩
  obtain rfl := hw.symm
  go_wp2_with fail
  go_ret
  exact ⟨rfl, hB.out⟩


set_option maxRecDepth 100000 in
theorem cbRoot_any (p : Nat) (w : World) (hp : p < 4294967296) : Calls Try.prog 31 #[.int .u64 p] w fun e w' => e = .returned (.int .u32 (rbits (cbb p) : Nat)) ∧ Below w.heap.size w w' := by
  have hR := Row.newL w [.int .u64 (p : Int)] 55
  have hc : (w.alloc (.cells #[.int .u64 (p : Int)] 55)).cell? ⟨w.heap.size, 0, none⟩ = some (.int .u64 (p : Int)) := hR.cell 0 _ rfl
  have hB : Below w.heap.size w (w.alloc (.cells #[.int .u64 (p : Int)] 55)) := (Below.refl _ w).alloc (Nat.le_refl _) _
  obtain ⟨W, hW, hc, hB⟩ : ∃ W, w.alloc (.cells #[.int .u64 (p : Int)] 55) = W ∧ W.cell? ⟨w.heap.size, 0, none⟩ = some (.int .u64 (p : Int)) ∧ Hid (Below w.heap.size w W) := ⟨_, rfl, hc, hB⟩
  clear hR
  go_enter Try.func31, Try.ntmps31
  go_wp2_with fail
  refine (rootBits_cbb p _ _ hp hc).mono ?_
  rintro e w' ⟨rfl, hw⟩
  obtain rfl := hw.symm
  go_wp2_with fail
  go_ret
  exact ⟨rfl, hB.out⟩

end Go.Proofs.Ytdcmjmmfclhfbaa
