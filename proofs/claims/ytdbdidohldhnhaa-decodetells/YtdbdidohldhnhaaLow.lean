/- The field's inner calls: product, reduce, times, power. For numbers of 16 bits: each call returns what the plain numbers of Math say, and leaves the world as it is. -/
import Derived.Test.YtdbdidohldhnhaaRows
import Derived.Test.YtdbdidohldhnhaaMath
import Derived.WalkKit
import Derived.WalkSpells
import Derived.WalkLawsBesides
namespace Go.Proofs.Ytdbdidohldhnhaa
open Go.RowKit Gf

theorem hide {p : Prop} (h : p) : Hid p := h

theorem pr_sum (s h b : Nat) (hs : s < 4294967296) (hh : h < 4294967296) (hb : b < 65536) :
    bits BinOp.xor IntKind.u32 (s : Int) ((h : Int) * (bits BinOp.and IntKind.u16 (b : Int) 1 % 4294967296) % 4294967296) = ((s ^^^ (if b % 2 = 1 then h else 0) : Nat) : Int) := by
  have e1 : bits BinOp.and IntKind.u16 (b : Int) 1 = ((b % 2 : Nat) : Int) := by
    have := u16_and_nat b 1 hb (by decide)
    rw [nat_mask1] at this
    exact this
  rw [e1]
  rcases Nat.mod_two_eq_zero_or_one b with h2 | h2
  · rw [h2, if_neg (by decide)]
    have e2 : (h : Int) * (((0 : Nat) : Int) % 4294967296) % 4294967296 = ((0 : Nat) : Int) := by omega
    rw [e2]
    exact u32_xor_nat s 0 hs (by decide)
  · rw [h2, if_pos rfl]
    have e2 : (h : Int) * (((1 : Nat) : Int) % 4294967296) % 4294967296 = (h : Int) := by omega
    rw [e2]
    exact u32_xor_nat s h hs hh

theorem pr_shift (h : Nat) (hh : h < 2147483648) : (h : Int) * 2 % 4294967296 = ((dbl h : Nat) : Int) := by
  unfold dbl
  omega

theorem ret_u32 {a b : Nat} (h : a = b) : Ending.returned (.int .u32 (a : Int)) = .returned (.int .u32 (b : Int)) := by rw [h]

set_option maxHeartbeats 400000 in
theorem product_any (a b : Nat) (w : World) (ha : a < 65536) (hb : b < 65536) :
    Calls Try.prog 64 #[.int .u16 a, .int .u16 b] w fun e w' => e = .returned (.int .u32 (cl a b : Nat)) ∧ w' = w := by
  go_enter Try.func64, Try.ntmps64
  go_wp2
  go_loop [1, 5, 6] (fun t s h => ∃ m b1 s1 h1 : Nat, m ≤ 16 ∧ b1 < 2 ^ m ∧ t = .int .u16 b1 ∧ s = .int .u32 s1 ∧ h = .int .u32 h1 ∧ s1 < 4294967296 ∧ h1 < 2 ^ (32 - m) ∧ Hid (s1 ^^^ gen dbl m h1 b1 = cl a b)) (fun t _ _ => (intOf t).toNat)
  case atStart => exact ⟨16, b, 0, a, by decide, hb, rfl, rfl, by go_num, by decide, ha, hide (by rw [Nat.zero_xor]; rfl)⟩
  case round =>
    obtain ⟨m, b1, s1, h1, hm, hb1, rfl, rfl, rfl, hs, hh, hz⟩ := hrel
    cases m with
    | zero =>
      have h0 : b1 = 0 := by simpa using hb1
      subst h0
      go_wp2
      go_ret
      exact ⟨ret_u32 (by have := hz.out; rw [gen_zero, Nat.xor_zero] at this; exact this), rfl⟩
    | succ m =>
      by_cases hlt : b1 = 0
      · subst hlt
        go_wp2
        go_ret
        exact ⟨ret_u32 (by have := hz.out; rw [gen_zero, Nat.xor_zero] at this; exact this), rfl⟩
      · have hp : 2 ^ (m + 1) ≤ 2 ^ 16 := Nat.pow_le_pow_right (by decide) hm
        have hp2 : 2 ^ (32 - (m + 1)) ≤ 2 ^ 31 := Nat.pow_le_pow_right (by decide) (by omega)
        have hp3 : 2 ^ (32 - m) = 2 * 2 ^ (32 - (m + 1)) := by
          rw [show 32 - m = (32 - (m + 1)) + 1 from by omega, Nat.pow_succ, Nat.mul_comm]
        have hp4 : 2 ^ (m + 1) = 2 * 2 ^ m := by rw [Nat.pow_succ, Nat.mul_comm]
        have A1 : Hid (b1 < 65536) := hide (by omega)
        have A2 : Hid (h1 < 2147483648) := hide (by omega)
        have A3 : Hid (dbl h1 < 2 ^ (32 - m)) := hide (by unfold dbl; omega)
        have A4 : Hid (b1 / 2 < 2 ^ m) := hide (by omega)
        have A5 : Hid ((s1 ^^^ (if b1 % 2 = 1 then h1 else 0)) ^^^ gen dbl m (dbl h1) (b1 / 2) = cl a b) := hide (by rw [← hz.out, Nat.xor_assoc]; rfl)
        clear hp hp2 hp3 hp4 hb1 hh hz
        go_wp2
        go_round
        case rel =>
          have a1 := A1.out
          have a2 := A2.out
          have hx : s1 ^^^ (if b1 % 2 = 1 then h1 else 0) < 4294967296 := xor_lt (k := 32) hs (by split <;> omega)
          exact ⟨m, b1 / 2, s1 ^^^ (if b1 % 2 = 1 then h1 else 0), dbl h1, by omega, A4.out, by go_num, by rw [pr_sum s1 h1 b1 hs (by omega) a1], by rw [pr_shift h1 a2], hx, A3.out, A5⟩
        case measure => simp [intOf]; omega

theorem rd_step (v : Nat) (hv : v < 4294967296) :
    bits BinOp.xor IntKind.u32 (bits BinOp.xor IntKind.u32 (bits BinOp.xor IntKind.u32 (bits BinOp.xor IntKind.u32 (bits BinOp.and IntKind.u32 (v : Int) 65535) ((v : Int) / 65536 * 4096)) ((v : Int) / 65536 * 8)) ((v : Int) / 65536 * 2)) ((v : Int) / 65536) = ((Gf.step v : Nat) : Int) := by
  have e1 : bits BinOp.and IntKind.u32 (v : Int) 65535 = ((v % 65536 : Nat) : Int) := by
    have := u32_and_nat v 65535 hv (by decide)
    rw [nat_mask16] at this
    exact this
  have e2 : (v : Int) / 65536 * 4096 = ((v / 65536 * 4096 : Nat) : Int) := by omega
  have e3 : (v : Int) / 65536 * 8 = ((v / 65536 * 8 : Nat) : Int) := by omega
  have e4 : (v : Int) / 65536 * 2 = ((v / 65536 * 2 : Nat) : Int) := by omega
  have e5 : (v : Int) / 65536 = ((v / 65536 : Nat) : Int) := by omega
  have b1 : v % 65536 < 4294967296 := by omega
  have b2 : v / 65536 * 4096 < 4294967296 := by omega
  have b3 : v / 65536 * 8 < 4294967296 := by omega
  have b4 : v / 65536 * 2 < 4294967296 := by omega
  have b5 : v / 65536 < 4294967296 := by omega
  rw [e1, e2, e3, e4, e5, u32_xor_nat _ _ b1 b2, u32_xor_nat _ _ (xor_lt (k := 32) b1 b2) b3, u32_xor_nat _ _ (xor_lt (k := 32) (xor_lt (k := 32) b1 b2) b3) b4, u32_xor_nat _ _ (xor_lt (k := 32) (xor_lt (k := 32) (xor_lt (k := 32) b1 b2) b3) b4) b5]
  rfl

theorem ret_u16 {a b : Int} (h : a = b) : Ending.returned (.int .u16 a) = .returned (.int .u16 b) := by rw [h]

set_option maxHeartbeats 400000 in
theorem reduce_any (v : Nat) (w : World) (hv : v < 4294967296) :
    Calls Try.prog 63 #[.int .u32 v] w fun e w' => e = .returned (.int .u16 (red v : Nat)) ∧ w' = w := by
  go_enter Try.func63, Try.ntmps63
  go_wp2
  go_loop [0, 3] (fun t _ => ∃ v1 : Nat, v1 < 4294967296 ∧ t = .int .u32 v1 ∧ Hid (red v1 = red v)) (fun t _ => (intOf t).toNat)
  case atStart => exact ⟨v, hv, rfl, rfl⟩
  case round =>
    obtain ⟨v1, hv1, rfl, hz⟩ := hrel
    by_cases hlt : 65535 < v1
    · go_wp2
      go_round
      case rel => exact ⟨Gf.step v1, step_lt32 hv1, by rw [rd_step v1 hv1], by rw [red_step hv1]; exact hz.out⟩
      case measure =>
        have := step_lt (w := v1) (by omega)
        rw [rd_step v1 hv1]
        simp [intOf]; omega
    · go_wp2
      go_ret
      exact ⟨ret_u16 (by have := hz.out; rw [red_small (by omega)] at this; omega), rfl⟩

/-- A product, and a power, of Go's numbers. -/
def gI (x y : Int) : Int := (gm x.toNat y.toNat : Nat)
def pI (x n : Int) : Int := (pw x.toNat n.toNat : Nat)
theorem gI_bd (x y : Int) (h1 : x < 65536) : 0 ≤ gI x y ∧ gI x y < 65536 := by
  unfold gI
  have := gm_lt (a := x.toNat) (b := y.toNat) (by omega)
  omega
theorem pI_bd (x n : Int) (h1 : x < 65536) : 0 ≤ pI x n ∧ pI x n < 65536 := by
  unfold pI
  have := pw_lt (a := x.toNat) n.toNat (by omega)
  omega

set_option maxHeartbeats 400000 in
theorem times_nat (a b : Nat) (w : World) (ha : a < 65536) (hb : b < 65536) :
    Calls Try.prog 58 #[.int .u16 a, .int .u16 b] w fun e w' => e = .returned (.int .u16 (gI a b)) ∧ w' = w := by
  go_enter Try.func58, Try.ntmps58
  go_wp2_with (first | (go_at_call 64; refine (product_any _ _ _ ha hb).mono ?_; rintro e w' ⟨rfl, rfl⟩) | (go_at_call 63; refine (reduce_any _ _ (cl_lt ha)).mono ?_; rintro e w' ⟨rfl, rfl⟩))
  go_ret
  exact ⟨ret_u16 (by unfold gI; rw [red_cl ha hb]; rfl), rfl⟩

theorem times_any (x y : Int) (w : World) (hx : 0 ≤ x ∧ x < 65536) (hy : 0 ≤ y ∧ y < 65536) :
    Calls Try.prog 58 #[.int .u16 x, .int .u16 y] w fun e w' => e = .returned (.int .u16 (gI x y)) ∧ w' = w := by
  obtain ⟨a, rfl⟩ := Int.eq_ofNat_of_zero_le hx.1
  obtain ⟨b, rfl⟩ := Int.eq_ofNat_of_zero_le hy.1
  exact times_nat a b w (by omega) (by omega)

theorem gI_nat (a b : Nat) : gI a b = ((gm a b : Nat) : Int) := rfl
theorem pI_nat (a n : Nat) : pI a n = ((pw a n : Nat) : Int) := rfl

theorem i64_and1 (n : Nat) (hn : n < 65536) : bits BinOp.and IntKind.i64 (n : Int) 1 = ((n % 2 : Nat) : Int) := by
  show IntKind.i64.wrap ((BitVec.ofInt 64 (n : Int) &&& BitVec.ofInt 64 1).toNat : Int) = _
  rw [BitVec.toNat_and, ofInt_u64 n (by omega), show (BitVec.ofInt 64 1).toNat = 1 from rfl, nat_mask1]
  simp [IntKind.wrap, IntKind.bits, IntKind.signed]
  omega

theorem bit_yes (n : Nat) (hn : n < 65536) (h : n % 2 = 1) : (bits BinOp.and IntKind.i64 (n : Int) 1 == 1) = true := by
  rw [i64_and1 n hn, h]; rfl
theorem bit_no (n : Nat) (hn : n < 65536) (h : ¬ n % 2 = 1) : (bits BinOp.and IntKind.i64 (n : Int) 1 == 1) = false := by
  rw [i64_and1 n hn, show n % 2 = 0 from by omega]; rfl

theorem pw_half {a n : Nat} (h : a < 65536) (hn : ¬ n % 2 = 1) : pw (gm a a) (n / 2) = pw a n := by
  have h2 : pw a (2 * (n / 2)) = pw (gm a a) (n / 2) := by
    rw [pw_mul h]
    show pw (gm (gm 1 a) a) _ = _
    rw [one_gm h]
  rw [← h2, show 2 * (n / 2) = n from by omega]
theorem pw_odd {a n : Nat} (h : a < 65536) (hn : n % 2 = 1) : gm a (pw (gm a a) (n / 2)) = pw a n := by
  have h2 : pw a (2 * (n / 2)) = pw (gm a a) (n / 2) := by
    rw [pw_mul h]
    show pw (gm (gm 1 a) a) _ = _
    rw [one_gm h]
  rw [← h2, gm_comm h (pw_lt _ h)]
  show pw a (2 * (n / 2) + 1) = _
  rw [show 2 * (n / 2) + 1 = n from by omega]

set_option maxHeartbeats 400000 in
theorem power_nat (a n : Nat) (w : World) (ha : a < 65536) (hn : n < 65536) :
    Calls Try.prog 57 #[.int .u16 a, .int .i64 n] w fun e w' => e = .returned (.int .u16 (pI a n)) ∧ w' = w := by
  go_enter Try.func57, Try.ntmps57
  go_wp2
  go_loop [0, 1, 5] (fun t s h => ∃ a1 n1 p1 : Nat, a1 < 65536 ∧ n1 < 65536 ∧ p1 < 65536 ∧ t = .int .u16 a1 ∧ s = .int .i64 n1 ∧ h = .int .u16 p1 ∧ Hid (gm p1 (pw a1 n1) = pw a n)) (fun _ s _ => (intOf s).toNat)
  case atStart => exact ⟨a, n, 1, ha, hn, by decide, rfl, rfl, rfl, one_gm (pw_lt n ha)⟩
  case round =>
    obtain ⟨a1, n1, p1, ha1, hn1, hp1, rfl, rfl, rfl, hz⟩ := hrel
    by_cases hlt : 0 < n1
    · by_cases hodd : n1 % 2 = 1
      · have hbit := bit_yes n1 hn1 hodd
        have HO : Hid (n1 % 2 = 1) := hodd
        clear hodd
        go_wp2_with fail
        refine (times_any _ _ _ (by omega) (by omega)).mono ?_
        rintro e w' ⟨rfl, rfl⟩
        go_wp2_with fail
        refine (times_any _ _ _ (by omega) (by omega)).mono ?_
        rintro e w' ⟨rfl, rfl⟩
        go_wp2
        go_round
        case rel => exact ⟨gm a1 a1, n1 / 2, gm p1 a1, gm_lt ha1, by omega, gm_lt hp1, rfl, by go_num, rfl, by rw [gm_assoc hp1 ha1, pw_odd ha1 HO.out]; exact hz.out⟩
        case measure => simp [intOf]; omega
      · have hbit := bit_no n1 hn1 hodd
        have HO : Hid (¬ n1 % 2 = 1) := hodd
        clear hodd
        go_wp2_with fail
        refine (times_any _ _ _ (by omega) (by omega)).mono ?_
        rintro e w' ⟨rfl, rfl⟩
        go_wp2
        go_round
        case rel => exact ⟨gm a1 a1, n1 / 2, p1, gm_lt ha1, by omega, hp1, rfl, by go_num, rfl, by rw [pw_half ha1 HO.out]; exact hz.out⟩
        case measure => simp [intOf]; omega
    · have h0 : n1 = 0 := by omega
      subst h0
      go_wp2
      go_ret
      exact ⟨ret_u16 (by have := hz.out; rw [show pw a1 0 = 1 from rfl, gm_one] at this; rw [this]; rfl), rfl⟩

theorem power_any (x n : Int) (w : World) (hx : 0 ≤ x ∧ x < 65536) (hn : 0 ≤ n ∧ n < 65536) :
    Calls Try.prog 57 #[.int .u16 x, .int .i64 n] w fun e w' => e = .returned (.int .u16 (pI x n)) ∧ w' = w := by
  obtain ⟨a, rfl⟩ := Int.eq_ofNat_of_zero_le hx.1
  obtain ⟨m, rfl⟩ := Int.eq_ofNat_of_zero_le hn.1
  exact power_nat a m w (by omega) (by omega)

end Go.Proofs.Ytdbdidohldhnhaa
