/- Twice, products, bytes turned, walked. For any bytes: each call returns what ATab says, and leaves the world as it is. -/
import Derived.Test.YtllhnbnddcghoaaATab
import Derived.Test.YtllhnbnddcghoaaBOps
import Derived.Deep.LoopGhost
namespace Go.Proofs.Ytllhnbnddcghoaa
open Go.RowKit Bk
set_option linter.unusedVariables false
set_option linter.unusedSimpArgs false

theorem ret_u8 {a b : Int} (h : a = b) : Ending.returned (.int .u8 a) = .returned (.int .u8 b) := by rw [h]
theorem dbl_int (a : Nat) (ha : a < 256) : bits .xor .u8 ((a : Int) * 2 % 256) ((a : Int) / 128 * 27) = ((dbl a : Nat) : Int) := by
  have e1 : (a : Int) * 2 % 256 = ((a * 2 % 256 : Nat) : Int) := by omega
  have e2 : (a : Int) / 128 * 27 = ((a / 128 * 27 : Nat) : Int) := by omega
  rw [e1, e2]
  exact u8_xor_nat _ _ (Nat.mod_lt _ (by decide)) (by omega)
theorem doubled_any (a : Nat) (w : World) (ha : a < 256) :
    Calls Try.prog 37 #[.int .u8 a] w fun e w' => e = .returned (.int .u8 (dbl a : Nat)) ∧ w' = w := by
  go_enter Try.func37, Try.ntmps37
  go_wp2
  go_ret
  exact ⟨ret_u8 (dbl_int a ha), rfl⟩
theorem rot_int (n p q a : Nat) (hp : p = 2 ^ n) (hq : q = 2 ^ (8 - n)) (ha : a < 256) : bits .or .u8 ((a : Int) * (p : Int) % 256) ((a : Int) / (q : Int)) = (((rot n (UInt8.ofNat a)).toNat : Nat) : Int) := by
  subst hp hq
  have e1 : (a : Int) * ((2 ^ n : Nat) : Int) % 256 = ((a * 2 ^ n % 256 : Nat) : Int) := by rw [Int.natCast_emod, Int.natCast_mul]; rfl
  have e2 : (a : Int) / ((2 ^ (8 - n) : Nat) : Int) = ((a / 2 ^ (8 - n) : Nat) : Int) := (Int.natCast_ediv _ _).symm
  have h1 : a * 2 ^ n % 256 < 256 := Nat.mod_lt _ (by decide)
  have h2 : a / 2 ^ (8 - n) < 256 := Nat.lt_of_le_of_lt (Nat.div_le_self _ _) ha
  rw [e1, e2, u8_or_nat _ _ h1 h2]
  unfold rot
  rw [UInt8.toNat_ofNat_of_lt' ha, UInt8.toNat_ofNat_of_lt' (Nat.or_lt_two_pow (n := 8) h1 h2)]
theorem rotl8_1 (a : Nat) (w : World) (ha : a < 256) :
    Calls Try.prog 35 #[.int .u8 a, .int .i64 1] w fun e w' => e = .returned (.int .u8 ((rot 1 (UInt8.ofNat a)).toNat : Nat)) ∧ w' = w := by
  have h : bits BinOp.and IntKind.u64 1 7 = 1 := by decide
  go_enter Try.func35, Try.ntmps35
  go_wp2
  go_ret
  exact ⟨ret_u8 (rot_int 1 2 128 a rfl rfl ha), rfl⟩
theorem rotl8_2 (a : Nat) (w : World) (ha : a < 256) :
    Calls Try.prog 35 #[.int .u8 a, .int .i64 2] w fun e w' => e = .returned (.int .u8 ((rot 2 (UInt8.ofNat a)).toNat : Nat)) ∧ w' = w := by
  have h : bits BinOp.and IntKind.u64 2 7 = 2 := by decide
  go_enter Try.func35, Try.ntmps35
  go_wp2
  go_ret
  exact ⟨ret_u8 (rot_int 2 4 64 a rfl rfl ha), rfl⟩
theorem rotl8_3 (a : Nat) (w : World) (ha : a < 256) :
    Calls Try.prog 35 #[.int .u8 a, .int .i64 3] w fun e w' => e = .returned (.int .u8 ((rot 3 (UInt8.ofNat a)).toNat : Nat)) ∧ w' = w := by
  have h : bits BinOp.and IntKind.u64 3 7 = 3 := by decide
  go_enter Try.func35, Try.ntmps35
  go_wp2
  go_ret
  exact ⟨ret_u8 (rot_int 3 8 32 a rfl rfl ha), rfl⟩
theorem rotl8_4 (a : Nat) (w : World) (ha : a < 256) :
    Calls Try.prog 35 #[.int .u8 a, .int .i64 4] w fun e w' => e = .returned (.int .u8 ((rot 4 (UInt8.ofNat a)).toNat : Nat)) ∧ w' = w := by
  have h : bits BinOp.and IntKind.u64 4 7 = 4 := by decide
  go_enter Try.func35, Try.ntmps35
  go_wp2
  go_ret
  exact ⟨ret_u8 (rot_int 4 16 16 a rfl rfl ha), rfl⟩

theorem and_one (b : Nat) (h : b < 256) : bits .and .u8 (b : Int) 1 = ((b % 2 : Nat) : Int) := by
  have := u8_and_nat b 1 h (by decide)
  rw [show ((1 : Nat) : Int) = 1 from rfl] at this
  rw [this, Nat.and_one_is_mod]
theorem pr_step {a b s k x : Nat} (h : prN (k + 1) s a b = x) : prN k (s ^^^ a * (b % 2)) (dbl a) (b / 2) = x := h
set_option maxRecDepth 100000 in
set_option maxHeartbeats 1000000 in
theorem aproduct_any (a b : Nat) (w : World) (ha : a < 256) (hb : b < 256) :
    Calls Try.prog 33 #[.int .u8 a, .int .u8 b] w fun e w' => e = .returned (.int .u8 (pr a b : Nat)) ∧ w' = w := by
  obtain ⟨R, hR⟩ : ∃ R, pr a b = R := ⟨_, rfl⟩
  rw [hR]
  have HA := hide (And.intro ha hb)
  have HR := hide hR
  clear ha hb hR
  go_enter Try.func33, Try.ntmps33
  go_wp2_with fail
  go_loopg [0, 1, 5] 9 (fun g x y z wr => ∃ k a' b' s' : Nat, k + 1 = g ∧ x = .int .u8 a' ∧ y = .int .u8 b' ∧ z = .int .u8 s' ∧ a' < 256 ∧ s' < 256 ∧ b' < 2 ^ k ∧ k ≤ 8 ∧ prN k s' a' b' = R ∧ wr = w)
  case atStart => exact ⟨8, a, b, 0, rfl, rfl, rfl, rfl, HA.out.1, by decide, HA.out.2, Nat.le_refl _, HR.out, rfl⟩
  case round =>
    clear HA HR
    obtain ⟨k, a', b', s', hkg, rfl, rfl, rfl, la, ls, lb, lk, hp, rfl⟩ := hrel
    by_cases hlt : 0 < b'
    · have hlt' : (0 : Int) < (b' : Int) := by omega
      obtain ⟨k2, rfl⟩ : ∃ k2, k = k2 + 1 := ⟨k - 1, by
        rcases Nat.eq_zero_or_pos k with e | e
        · subst e; simp at lb; omega
        · omega⟩
      obtain ⟨g3, rfl⟩ : ∃ g3, gk = g3 + 1 := ⟨gk - 1, by omega⟩
      have lb8 : b' < 256 := Nat.lt_of_lt_of_le lb (Nat.pow_le_pow_right (n := 2) (i := k2 + 1) (j := 8) (by decide) lk)
      have h1 := and_one b' lb8
      have lm : a' * (b' % 2) < 256 := mul_bit_lt la b'
      obtain ⟨c, hc⟩ : ∃ c, b' % 2 = c := ⟨_, rfl⟩
      have hp' := pr_step hp
      have hlb : b' / 2 < 2 ^ k2 := by rw [Nat.pow_succ] at lb; omega
      rw [hc] at h1 lm hp'
      obtain ⟨m, hm⟩ : ∃ m, a' * c = m := ⟨_, rfl⟩
      have h2 : (a' : Int) * (c : Int) = (m : Int) := by rw [← hm, Int.natCast_mul]
      rw [hm] at lm hp'
      have h3 := u8_xor_nat s' m ls lm
      have h4 := IntWalk.u8_in (m : Int) (by omega)
      have HP := hide (And.intro hp' hlb)
      have HL := hide (And.intro (x8_lt ls lm) (dbl_lt la))
      clear hp hp' hlb hm hc lb
      go_wp2_with fail
      refine (doubled_any _ _ la).mono ?_
      rintro e w' ⟨rfl, hw⟩
      obtain rfl := hw.symm
      go_wp2_with fail
      go_roundg g3
      case measure => omega
      case rel => exact ⟨k2, dbl a', b' / 2, s' ^^^ m, by omega, rfl, rfl, rfl, HL.out.2, HL.out.1, HP.out.2, by omega, HP.out.1, rfl⟩
    · obtain rfl : b' = 0 := by omega
      rw [prN_none] at hp
      have hp2 := hide hp
      clear hp
      go_wp2_with fail
      go_ret
      exact ⟨by rw [hp2.out]; rfl, rfl⟩
end Go.Proofs.Ytllhnbnddcghoaa
