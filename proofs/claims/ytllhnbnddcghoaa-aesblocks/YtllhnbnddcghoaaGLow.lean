/- The document's products, walked. For any two bytes: the call returns what ATab says, and leaves the world as it is. -/
import Derived.Test.YtllhnbnddcghoaaGMath
import Derived.Test.YtllhnbnddcghoaaAStep
namespace Go.Proofs.Ytllhnbnddcghoaa
open Go.RowKit Bk
set_option linter.unusedVariables false
set_option linter.unusedSimpArgs false

set_option maxRecDepth 100000 in
set_option maxHeartbeats 2000000 in
theorem gmul_any (a b : Nat) (w : World) (ha : a < 256) (hb : b < 256) :
    Calls Try.prog 30 #[.int .u8 a, .int .u8 b] w fun e w' => e = .returned (.int .u8 (pr a b : Nat)) ∧ w' = w := by
  rw [← gmul_pr ha hb]
  obtain ⟨R, hR⟩ : ∃ R, gmul a b = R := ⟨_, rfl⟩
  rw [hR]
  have HR := hide hR
  have HL := hide (fun i => gp1_lt b ha i)
  have HA := hide (And.intro ha hb)
  clear hR
  go_enter Try.func30, Try.ntmps30
  go_wp2_with fail
  go_loopg [5, 6] 8 (fun g p q wr => ∃ k : Nat, k + g = 8 ∧ q = .int .u32 k ∧ p = .int .u32 (gp1 a b k : Nat) ∧ wr = w)
  case atStart => exact ⟨0, rfl, rfl, rfl, rfl⟩
  case round =>
    obtain ⟨k, hkg, rfl, rfl, rfl⟩ := hrel
    by_cases hlt : k < 8
    · have hlt' : (k : Int) < 8 := by omega
      obtain ⟨g3, rfl⟩ : ∃ g3, gk = g3 + 1 := ⟨gk - 1, by omega⟩
      have p2 : (2 : Int) ^ k = ((2 ^ k : Nat) : Int) := (Int.natCast_pow 2 k).symm
      have la : a * 2 ^ k < 65536 := by
        have h1 : 2 ^ k ≤ 2 ^ 7 := Nat.pow_le_pow_right (by decide) (by omega)
        have h2 := Nat.mul_le_mul (show a ≤ 255 by have := HA.out.1; omega) h1
        have : 2 ^ 7 = 128 := rfl
        omega
      have hd : ((b : Int) / 2 ^ k).tmod 2 = ((b / 2 ^ k % 2 : Nat) : Int) := by
        rw [p2, ← Int.natCast_ediv, Int.tmod_eq_emod_of_nonneg (Int.natCast_nonneg _)]
        rfl
      have hm : (a : Int) * 2 ^ k % 4294967296 = ((a * 2 ^ k : Nat) : Int) := by
        rw [p2, ← Int.natCast_mul]
        omega
      have hv := u32_xor_nat (gp1 a b k) (a * 2 ^ k) (by have := HL.out k (by omega); omega) (by omega)
      have hst : gp1 a b (k + 1) = if b / 2 ^ k % 2 = 1 then gp1 a b k ^^^ a * 2 ^ k else gp1 a b k := rfl
      obtain ⟨G, eG⟩ : ∃ z, gp1 a b k = z := ⟨_, rfl⟩
      obtain ⟨M, eM⟩ : ∃ z, a * 2 ^ k = z := ⟨_, rfl⟩
      rw [eG, eM] at hst hv
      rw [eM] at hm
      rw [eG]
      clear p2 la eG eM
      rcases Nat.mod_two_eq_zero_or_one (b / 2 ^ k) with e | e
      · rw [e, if_neg (by decide)] at hst
        rw [e] at hd
        have HS := hide hst
        clear hst hv hm e
        go_wp2_with fail
        go_roundg g3
        case measure => omega
        case rel => exact ⟨k + 1, by omega, by go_num, by rw [HS.out], rfl⟩
      · rw [e, if_pos rfl] at hst
        rw [e] at hd
        have HS := hide hst
        clear hst e
        go_wp2_with fail
        go_roundg g3
        case measure => omega
        case rel => exact ⟨k + 1, by omega, by go_num, by rw [HS.out], rfl⟩
    · obtain rfl : k = 8 := by omega
      obtain ⟨P, eP⟩ : ∃ z, gp1 a b 8 = z := ⟨_, rfl⟩
      have lP : P < 65536 := eP ▸ HL.out 8 (Nat.le_refl _)
      have HP := hide (show gp2 8 P % 256 = R by rw [← eP]; exact HR.out)
      have HlP := hide lP
      rw [eP]
      clear eP lP
      go_wp2_with fail
      go_loopg [5, 7] 8 (fun g p q wx => ∃ p' : Nat, q = .int .u32 ((g : Int) + 7) ∧ p = .int .u32 p' ∧ p' < 65536 ∧ g ≤ 8 ∧ gp2 g p' % 256 = R ∧ wx = wr)
      case atStart => exact ⟨P, rfl, rfl, HlP.out, Nat.le_refl _, HP.out, rfl⟩
      case round =>
        clear HP HlP
        obtain ⟨p, rfl, rfl, lp, lg, hg, rfl⟩ := hrel
        by_cases hz : 0 < gk
        · obtain ⟨m, rfl⟩ : ∃ m, gk = m + 1 := ⟨gk - 1, by omega⟩
          obtain ⟨i, ei⟩ : ∃ i, 8 + m = i := ⟨_, rfl⟩
          have e8 : ((m + 1 : Nat) : Int) + 7 = (i : Int) := by omega
          rw [e8]
          have c8 : (8 : Int) ≤ (i : Int) := by omega
          have s8 : (i : Int) - 8 = (m : Int) := by omega
          have s7 : (i : Int) - 1 = (m : Int) + 7 := by omega
          have mn1 : min i 32 = i := by omega
          have mn2 : min m 32 = m := by omega
          have w7 := IntWalk.u32_in ((m : Int) + 7) (by omega)
          have w8 := IntWalk.u32_in (m : Int) (by omega)
          have p2 : (2 : Int) ^ (8 + m) = ((2 ^ (8 + m) : Nat) : Int) := (Int.natCast_pow 2 _).symm
          have p3 : (2 : Int) ^ m = ((2 ^ m : Nat) : Int) := (Int.natCast_pow 2 _).symm
          have la : 283 * 2 ^ m < 65536 := by
            have h1 : 2 ^ m ≤ 2 ^ 7 := Nat.pow_le_pow_right (by decide) (by omega)
            have : 2 ^ 7 = 128 := rfl
            omega
          have hd : ((p : Int) / 2 ^ (8 + m)).tmod 2 = ((p / 2 ^ (8 + m) % 2 : Nat) : Int) := by
            rw [p2, ← Int.natCast_ediv, Int.tmod_eq_emod_of_nonneg (Int.natCast_nonneg _)]
            rfl
          have hm : 283 * (2 : Int) ^ m % 4294967296 = ((283 * 2 ^ m : Nat) : Int) := by
            rw [p3]
            omega
          have hv := u32_xor_nat p (283 * 2 ^ m) (by omega) (by omega)
          have hst := gp2_step (k := m) (p := p) (x := gp2 (m + 1) p) rfl
          have lx : p ^^^ 283 * 2 ^ m < 65536 := Nat.xor_lt_two_pow (n := 16) lp la
          have HG := hide hg
          have HH := hide lg
          obtain ⟨M, eM⟩ : ∃ z, 283 * 2 ^ m = z := ⟨_, rfl⟩
          rw [eM] at hst hv hm lx
          rw [ei] at hd hst
          clear p2 p3 la eM e8 hg lg ei
          rcases Nat.mod_two_eq_zero_or_one (p / 2 ^ i) with e | e
          · rw [e, if_neg (by decide)] at hst
            rw [e] at hd
            have HS := hide (And.intro hst lp)
            clear hst hv hm e lx lp
            go_wp2_with fail
            go_roundg m
            case measure => omega
            case rel => exact ⟨p, by go_num, rfl, HS.out.2, by have := HH.out; omega, by rw [HS.out.1]; exact HG.out, rfl⟩
          · rw [e, if_pos rfl] at hst
            rw [e] at hd
            have HS := hide (And.intro hst lx)
            clear hst e lx lp
            go_wp2_with fail
            go_roundg m
            case measure => omega
            case rel => exact ⟨p ^^^ M, by go_num, rfl, HS.out.2, by have := HH.out; omega, by rw [HS.out.1]; exact HG.out, rfl⟩
        · obtain rfl : gk = 0 := by omega
          have hp : p % 256 = R := hg
          have hpI : (p : Int) % 256 = (R : Int) := by omega
          have hw : IntKind.u8.wrap (p : Int) = (R : Int) := by rw [IntKind.wrap_u8]; exact hpI
          clear hg hp
          go_wp2_with fail
          go_ret
          exact ⟨rfl, rfl⟩
end Go.Proofs.Ytllhnbnddcghoaa
