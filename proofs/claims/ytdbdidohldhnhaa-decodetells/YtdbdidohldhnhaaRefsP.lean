/- The document's own answers: its product, power and inverse, for numbers of 16 bits. Each call leaves the world as it is. -/
import Derived.Test.YtdbdidohldhnhaaNumsP
namespace Go.Proofs.Ytdbdidohldhnhaa
open Go.RowKit Gf

theorem pw_succ (a n : Nat) : pw a (n + 1) = gm (pw a n) a := rfl
theorem q1 (b k : Nat) : ((b : Int) / 2 ^ k).tmod 2 = ((b / 2 ^ k % 2 : Nat) : Int) := by
  have e : ((b : Int) / 2 ^ k) = ((b / 2 ^ k : Nat) : Int) := by push_cast; rfl
  rw [e]
  exact (Int.ofNat_tmod _ _).symm
theorem q1_yes (b k : Nat) (h : b / 2 ^ k % 2 = 1) : (((b : Int) / 2 ^ k).tmod 2 == 1) = true := by rw [q1, h]; rfl
theorem q1_no (b k : Nat) (h : ¬ b / 2 ^ k % 2 = 1) : (((b : Int) / 2 ^ k).tmod 2 == 1) = false := by rw [q1, show b / 2 ^ k % 2 = 0 from by omega]; rfl
theorem q2 (a k : Nat) (h : a * 2 ^ k < 4294967296) : (a : Int) * 2 ^ k % 4294967296 = ((a * 2 ^ k : Nat) : Int) := by
  have e : (a : Int) * 2 ^ k = ((a * 2 ^ k : Nat) : Int) := by push_cast; rfl
  rw [e]
  omega
theorem shl_lt (a k : Nat) (ha : a < 65536) (hk : k ≤ 16) : a * 2 ^ k < 4294967296 := by
  have h1 : 2 ^ k ≤ 2 ^ 16 := Nat.pow_le_pow_right (by decide) hk
  have h2 : a * 2 ^ k ≤ a * 2 ^ 16 := Nat.mul_le_mul_left a h1
  omega
theorem gen_step (a b k : Nat) (hk : k < 16) : gen dbl (16 - k) (a * 2 ^ k) (b / 2 ^ k) = (if b / 2 ^ k % 2 = 1 then a * 2 ^ k else 0) ^^^ gen dbl (16 - (k + 1)) (a * 2 ^ (k + 1)) (b / 2 ^ (k + 1)) := by
  rw [show 16 - k = (16 - (k + 1)) + 1 from by omega]
  have e1 : dbl (a * 2 ^ k) = a * 2 ^ (k + 1) := by unfold dbl; rw [Nat.pow_succ, Nat.mul_comm 2, Nat.mul_assoc]
  have e2 : b / 2 ^ k / 2 = b / 2 ^ (k + 1) := by rw [Nat.div_div_eq_div_mul, Nat.pow_succ]
  simp only [gen, e1, e2]

theorem poly_red : ∀ m, m < 16 → red (69643 * 2 ^ m) = 0 := by decide +kernel
theorem poly_lt (m : Nat) : 69643 * 2 ^ m < 2 ^ (m + 17) := by
  rw [Nat.pow_add]
  have : 0 < 2 ^ m := Nat.two_pow_pos m
  omega
theorem poly_bit (m : Nat) : (69643 * 2 ^ m).testBit (m + 16) = true := by
  have e : 69643 * 2 ^ m / 2 ^ m = 69643 := Nat.mul_div_cancel _ (Nat.two_pow_pos m)
  have h := Nat.testBit_div_two_pow (n := m) (69643 * 2 ^ m) 16
  rw [e] at h
  rw [Nat.add_comm, ← h]
  rfl
theorem bit_of (p j : Nat) (h : p / 2 ^ j % 2 = 1) : p.testBit j = true := by
  rw [Nat.testBit_eq_decide_div_mod_eq]
  simp [h]
theorem bit_of_no (p j : Nat) (h : ¬ p / 2 ^ j % 2 = 1) : p.testBit j = false := by
  rw [Nat.testBit_eq_decide_div_mod_eq]
  simp only [h, decide_false]
theorem down_yes (p m : Nat) (hp : p < 2 ^ (m + 17)) (h : p / 2 ^ (m + 16) % 2 = 1) : p ^^^ 69643 * 2 ^ m < 2 ^ (m + 16) := by
  apply Nat.lt_pow_two_of_testBit
  intro i hi
  rw [Nat.testBit_xor]
  by_cases he : i = m + 16
  · rw [he, poly_bit m, bit_of p (m + 16) h]
    rfl
  · have h2 : 2 ^ (m + 17) ≤ 2 ^ i := Nat.pow_le_pow_right (by decide) (by omega)
    rw [Nat.testBit_lt_two_pow (Nat.lt_of_lt_of_le hp h2), Nat.testBit_lt_two_pow (Nat.lt_of_lt_of_le (poly_lt m) h2)]
    rfl
theorem down_no (p m : Nat) (hp : p < 2 ^ (m + 17)) (h : ¬ p / 2 ^ (m + 16) % 2 = 1) : p < 2 ^ (m + 16) := by
  apply Nat.lt_pow_two_of_testBit
  intro i hi
  by_cases he : i = m + 16
  · rw [he, bit_of_no p (m + 16) h]
  · have h2 : 2 ^ (m + 17) ≤ 2 ^ i := Nat.pow_le_pow_right (by decide) (by omega)
    rw [Nat.testBit_lt_two_pow (Nat.lt_of_lt_of_le hp h2)]

set_option maxHeartbeats 1000000 in
theorem refMul_nat (a b : Nat) (w : World) (ha : a < 65536) (hb : b < 65536) :
    Calls Try.prog 27 #[.int .u16 a, .int .u16 b] w fun e w' => e = .returned (.int .u16 (gI a b)) ∧ w' = w := by
  go_enter Try.func27, Try.ntmps27
  go_wp2
  go_loop [5, 6] (fun s i => ∃ k s1 : Nat, k ≤ 16 ∧ i = .int .u32 k ∧ s = .int .u32 s1 ∧ s1 < 4294967296 ∧ Hid (s1 ^^^ gen dbl (16 - k) (a * 2 ^ k) (b / 2 ^ k) = cl a b)) (fun _ i => 16 - (intOf i).toNat)
  case atStart => exact ⟨0, 0, by decide, rfl, rfl, by decide, hide (by rw [Nat.zero_xor, Nat.pow_zero, Nat.mul_one, Nat.div_one]; rfl)⟩
  case round =>
    obtain ⟨k, s1, hk, rfl, rfl, hs, hz⟩ := hrel
    by_cases hlt : k < 16
    · have hst := gen_step a b k hlt
      have hsh := shl_lt a k ha (by omega)
      by_cases hbit : b / 2 ^ k % 2 = 1
      · have HB := q1_yes b k hbit
        have HX : Hid (bits BinOp.xor IntKind.u32 (s1 : Int) ((a : Int) * 2 ^ k % 4294967296) = ((s1 ^^^ a * 2 ^ k : Nat) : Int)) := hide (by rw [q2 a k hsh]; exact u32_xor_nat _ _ hs hsh)
        have HZ : Hid ((s1 ^^^ a * 2 ^ k) ^^^ gen dbl (16 - (k + 1)) (a * 2 ^ (k + 1)) (b / 2 ^ (k + 1)) = cl a b) := hide (by rw [← hz.out, hst, if_pos hbit, Nat.xor_assoc])
        have HL : Hid (s1 ^^^ a * 2 ^ k < 4294967296) := hide (xor_lt (k := 32) hs hsh)
        clear hst hbit hz hsh
        go_wp2
        go_round
        case rel => exact ⟨k + 1, s1 ^^^ a * 2 ^ k, by omega, by go_num, by rw [HX.out], HL.out, HZ⟩
        case measure => simp [intOf]; omega
      · have HB := q1_no b k hbit
        have HZ : Hid (s1 ^^^ gen dbl (16 - (k + 1)) (a * 2 ^ (k + 1)) (b / 2 ^ (k + 1)) = cl a b) := hide (by rw [← hz.out, hst, if_neg hbit, Nat.zero_xor])
        clear hst hbit hz hsh
        go_wp2
        go_round
        case rel => exact ⟨k + 1, s1, by omega, by go_num, rfl, hs, HZ⟩
        case measure => simp [intOf]; omega
    · have HP : Hid (s1 = cl a b) := hide (by have := hz.out; rw [show 16 - k = 0 from by omega, show gen dbl 0 (a * 2 ^ k) (b / 2 ^ k) = 0 from rfl, Nat.xor_zero] at this; exact this)
      clear hz
      go_wp2
      go_loop [5, 7] (fun s i => ∃ j s2 : Nat, 15 ≤ j ∧ j ≤ 31 ∧ i = .int .u32 (j : Int) ∧ s = .int .u32 s2 ∧ s2 < 4294967296 ∧ Hid (s2 < 2 ^ (j + 1)) ∧ Hid (red s2 = red (cl a b))) (fun _ i => (intOf i).toNat)
      case atStart => exact ⟨31, s1, by decide, by decide, rfl, rfl, hs, hs, hide (by rw [HP.out])⟩
      case round =>
        obtain ⟨j, s2, hj1, hj2, rfl, rfl, hs2, HL, hz⟩ := hrel
        by_cases hlt2 : 16 ≤ j
        · obtain ⟨m, hm⟩ : ∃ m, j - 16 = m := ⟨_, rfl⟩
          have hm16 : m < 16 := by omega
          have hjm : j = m + 16 := by omega
          by_cases hbit : s2 / 2 ^ j % 2 = 1
          · have HB := q1_yes s2 j hbit
            have hx : 69643 * 2 ^ m < 4294967296 := by
              have h1 := poly_lt m
              have h2 : 2 ^ (m + 17) ≤ 2 ^ 32 := Nat.pow_le_pow_right (by decide) (by omega)
              omega
            have HX : Hid (bits BinOp.xor IntKind.u32 (s2 : Int) (69643 * 2 ^ (j - 16) % 4294967296) = ((s2 ^^^ 69643 * 2 ^ m : Nat) : Int)) := hide (by
              rw [hm]
              have h := q2 69643 m hx
              rw [show ((69643 : Nat) : Int) = 69643 from rfl] at h
              rw [h]
              exact u32_xor_nat _ _ hs2 hx)
            have HN : Hid (s2 ^^^ 69643 * 2 ^ m < 2 ^ (j - 1 + 1)) := hide (by
              rw [show j - 1 + 1 = m + 16 from by omega]
              have h := HL.out
              rw [hjm] at h hbit
              exact down_yes s2 m h hbit)
            have HR : Hid (red (s2 ^^^ 69643 * 2 ^ m) = red (cl a b)) := hide (by rw [lin_red, poly_red m hm16, Nat.xor_zero]; exact hz.out)
            have HM : Hid (s2 ^^^ 69643 * 2 ^ m < 4294967296) := hide (xor_lt (k := 32) hs2 hx)
            clear hm hm16 hjm hbit HL hz hx
            go_wp2
            go_round
            case rel => exact ⟨j - 1, s2 ^^^ 69643 * 2 ^ m, by omega, by omega, by go_num, by rw [HX.out], HM.out, HN, HR⟩
            case measure => simp [intOf]; omega
          · have HB := q1_no s2 j hbit
            have HN : Hid (s2 < 2 ^ (j - 1 + 1)) := hide (by
              rw [show j - 1 + 1 = m + 16 from by omega]
              have h := HL.out
              rw [hjm] at h hbit
              exact down_no s2 m h hbit)
            clear hm hm16 hjm hbit HL
            go_wp2
            go_round
            case rel => exact ⟨j - 1, s2, by omega, by omega, by go_num, rfl, hs2, HN, hz⟩
            case measure => simp [intOf]; omega
        · have hl : s2 < 65536 := by
            have h := HL.out
            rw [show j = 15 from by omega] at h
            exact h
          have HQ : Hid ((s2 : Int) = gI a b) := hide (by
            have h := hz.out
            rw [red_small hl, red_cl ha hb] at h
            rw [gI_nat, h])
          clear HL hz
          go_wp2
          go_ret
          exact ⟨ret_u16 HQ.out, rfl⟩

theorem refMul_any (x y : Int) (w : World) (hx : 0 ≤ x ∧ x < 65536) (hy : 0 ≤ y ∧ y < 65536) :
    Calls Try.prog 27 #[.int .u16 x, .int .u16 y] w fun e w' => e = .returned (.int .u16 (gI x y)) ∧ w' = w := by
  obtain ⟨a, rfl⟩ := Int.eq_ofNat_of_zero_le hx.1
  obtain ⟨b, rfl⟩ := Int.eq_ofNat_of_zero_le hy.1
  exact refMul_nat a b w (by omega) (by omega)

theorem pw_halves (a n : Nat) (ha : a < 65536) : gm (pw a (n / 2)) (pw a (n / 2)) = pw a (n / 2 + n / 2) := (pw_add ha _ _).symm

set_option maxHeartbeats 400000 in
theorem refpower_nat (a : Nat) (ha : a < 65536) (n : Nat) : ∀ (w : World), n < 65536 →
    Calls Try.prog 59 #[.int .u16 a, .int .i64 n] w fun e w' => e = .returned (.int .u16 (pI a n)) ∧ w' = w := by
  induction n using Nat.strongRecOn with
  | ind n ih =>
    intro w hn
    by_cases h0 : n = 0
    · subst h0
      go_enter Try.func59, Try.ntmps59
      go_wp2
      go_ret
      exact ⟨rfl, rfl⟩
    · have h1 : ((n : Int) == 0) = false := by simp; omega
      have IH := hide (ih (n / 2) (by omega))
      clear ih
      have b1 := pI_bd a ((n / 2 : Nat) : Int) (by omega)
      go_enter Try.func59, Try.ntmps59
      go_wp2_with fail
      rw [show ((n : Int) / 2) = ((n / 2 : Nat) : Int) from by omega]
      refine (IH.out _ (by omega)).mono ?_
      rintro e w' ⟨rfl, rfl⟩
      go_wp2_with fail
      refine (refMul_any _ _ _ b1 b1).mono ?_
      rintro e w' ⟨rfl, rfl⟩
      by_cases hodd : n % 2 = 1
      · have h2 : ((n : Int) % 2 == 1) = true := by rw [show (n : Int) % 2 = 1 from by omega]; rfl
        have b2 := gI_bd (pI a ((n / 2 : Nat) : Int)) (pI a ((n / 2 : Nat) : Int)) (by omega)
        go_wp2_with fail
        refine (refMul_any _ _ _ b2 (by omega)).mono ?_
        rintro e w' ⟨rfl, rfl⟩
        go_wp2
        go_ret
        exact ⟨ret_u16 (by
          rw [show ((n : Int) / 2) = ((n / 2 : Nat) : Int) from by omega, pI_nat, gI_nat, gI_nat, pI_nat, pw_halves a n ha, ← pw_succ, show n / 2 + n / 2 + 1 = n from by omega]), rfl⟩
      · have h2 : ((n : Int) % 2 == 1) = false := by rw [show (n : Int) % 2 = 0 from by omega]; rfl
        go_wp2
        go_ret
        exact ⟨ret_u16 (by
          rw [show ((n : Int) / 2) = ((n / 2 : Nat) : Int) from by omega, pI_nat, gI_nat, pI_nat, pw_halves a n ha, show n / 2 + n / 2 = n from by omega]), rfl⟩

theorem refpower_any (x n : Int) (w : World) (hx : 0 ≤ x ∧ x < 65536) (hn : 0 ≤ n ∧ n < 65536) :
    Calls Try.prog 59 #[.int .u16 x, .int .i64 n] w fun e w' => e = .returned (.int .u16 (pI x n)) ∧ w' = w := by
  obtain ⟨a, rfl⟩ := Int.eq_ofNat_of_zero_le hx.1
  obtain ⟨m, rfl⟩ := Int.eq_ofNat_of_zero_le hn.1
  exact refpower_nat a (by omega) m w (by omega)

set_option maxHeartbeats 400000 in
theorem refInv_any (x : Int) (w : World) (hx : 0 ≤ x ∧ x < 65536) (h0 : (x == 0) = false) :
    Calls Try.prog 49 #[.int .u16 x] w fun e w' => e = .returned (.tuple #[.int .u16 (pI x 65534), .bool true]) ∧ w' = w := by
  go_enter Try.func49, Try.ntmps49
  go_wp2_with (go_at_call 59; refine (refpower_any _ _ _ hx (by decide)).mono ?_; rintro e w' ⟨rfl, rfl⟩)
  go_ret2
  exact ⟨rfl, rfl⟩

set_option maxHeartbeats 400000 in
theorem refInv_zero (w : World) :
    Calls Try.prog 49 #[.int .u16 0] w fun e w' => e = .returned (.tuple #[.int .u16 0, .bool false]) ∧ w' = w := by
  go_enter Try.func49, Try.ntmps49
  go_wp2
  go_ret2
  exact ⟨rfl, rfl⟩

end Go.Proofs.Ytdbdidohldhnhaa
