/- A block's rows taken to the left, walked. For any block, and a number of times of at most 3: the call returns what ATab says, and leaves what was there. -/
import Derived.Test.YtllhnbnddcghoaaAWord
namespace Go.Proofs.Ytllhnbnddcghoaa
open Go.RowKit Bk
set_option linter.unusedVariables false
set_option linter.unusedSimpArgs false

theorem shf_at (t : Nat) (s : List UInt8) (i r : Nat) (hi : i < 4) (hr : r < 4) : gy s ((i + t * r) % 4 * 4 + r) = gy (shf t s) (i * 4 + r) := by
  rw [gy_shf _ _ (by omega), show (i * 4 + r) / 4 = i by omega, show (i * 4 + r) % 4 = r by omega, Nat.mul_comm 4]

set_option maxRecDepth 100000 in
set_option maxHeartbeats 4000000 in
theorem sqShift_any (t : Nat) (s : List UInt8) (w : World) (hs : s.length = 16) (ht : t ≤ 3) :
    Calls Try.prog 22 #[.agg (bs s).toArray, .int .i64 (t : Int)] w fun e w' => e = .returned (.agg (bs (shf t s)).toArray) ∧ Below w.heap.size w w' := by
  have hmx : Try.prog.follows .mixedOrders = true := by kernel_rfl
  obtain ⟨W0, hW0, r0, r1, r2, b0⟩ : ∃ W0, ((w.alloc (.cells (bs s).toArray 40)).alloc (.cells #[.int .u8 0, .int .u8 0, .int .u8 0, .int .u8 0, .int .u8 0, .int .u8 0, .int .u8 0, .int .u8 0, .int .u8 0, .int .u8 0, .int .u8 0, .int .u8 0, .int .u8 0, .int .u8 0, .int .u8 0, .int .u8 0] 40)).alloc (.cells #[.int .u8 0, .int .u8 0, .int .u8 0, .int .u8 0, .int .u8 0, .int .u8 0, .int .u8 0, .int .u8 0, .int .u8 0, .int .u8 0, .int .u8 0, .int .u8 0, .int .u8 0, .int .u8 0, .int .u8 0, .int .u8 0] 40) = W0 ∧ Row W0 w.heap.size 0 (bs s) ∧ Row W0 (w.heap.size + 1) 0 (bs (zr 16)) ∧ Row W0 (w.heap.size + 1 + 1) 0 (bs (mixd (shf t s) (zr 16) (0 * 4))) ∧ Below w.heap.size w W0 :=
    ⟨_, rfl, ((Row.newL w (bs s) _).alloc _).alloc _, (row2 w _ (bs (zr 16)) _).alloc _, by rw [Nat.zero_mul, mixd_zero]; exact row3 w _ _ (bs (zr 16)) _, below3 w _ _ _⟩
  have lR : (shf t s).length = 16 := shf_length _ _
  have HX := hide (And.intro hs (And.intro ht lR))
  have H0 := hide (And.intro r0 (And.intro r1 (And.intro r2 b0)))
  clear r0 r1 r2 b0 hs ht lR
  go_enter Try.func22, Try.ntmps22
  go_wp2_with fail
  clear hW0
  go_loopg [6, 7, 8, 11] 4 (fun g _ _ q _ wr => ∃ k : Nat, k + g = 4 ∧ q = .int .i64 k ∧ Row wr w.heap.size 0 (bs s) ∧ Row wr (w.heap.size + 1) 0 (bs (zr 16)) ∧ Row wr (w.heap.size + 1 + 1) 0 (bs (mixd (shf t s) (zr 16) (k * 4))) ∧ Below w.heap.size w wr)
  case atStart => exact ⟨0, rfl, rfl, H0.out⟩
  case round =>
    clear H0
    obtain ⟨wo, hwo⟩ : ∃ z, z = wr := ⟨_, rfl⟩
    subst hwo
    obtain ⟨k, hkg, rfl, hA⟩ := hrel
    by_cases hlt : k < 4
    · have hlt' : (k : Int) < 4 := by omega
      obtain ⟨g3, rfl⟩ : ∃ g3, gk = g3 + 1 := ⟨gk - 1, by omega⟩
      have HA := hide hA
      clear hA
      go_wp2_with fail
      go_loopg [7, 11] 4 (fun g _ q wr => ∃ r : Nat, r + g = 4 ∧ q = .int .i64 r ∧ Row wr w.heap.size 0 (bs s) ∧ Row wr (w.heap.size + 1) 0 (bs (zr 16)) ∧ Row wr (w.heap.size + 1 + 1) 0 (bs (mixd (shf t s) (zr 16) (k * 4 + r))) ∧ Below w.heap.size w wr)
      case atStart => exact ⟨0, rfl, rfl, HA.out⟩
      case round =>
        clear HA
        obtain ⟨wx, hwx⟩ : ∃ z, z = wr := ⟨_, rfl⟩
        subst hwx
        obtain ⟨r, hrg, rfl, hA⟩ := hrel
        by_cases hr : r < 4
        · have hr' : (r : Int) < 4 := by omega
          obtain ⟨g4, rfl⟩ : ∃ g4, gk = g4 + 1 := ⟨gk - 1, by omega⟩
          obtain ⟨h0, h1, h2, hB⟩ := hA
          have hj : k * 4 + r < 16 := by omega
          obtain ⟨m, hm⟩ : ∃ m, t * r = m := ⟨_, rfl⟩
          have lm : m ≤ 9 := by
            rw [← hm]
            exact Nat.mul_le_mul (show t ≤ 3 from HX.out.2.1) (show r ≤ 3 by omega)
          obtain ⟨p, hp⟩ : ∃ p, (k + m) % 4 = p := ⟨_, rfl⟩
          have lp : p < 4 := by omega
          have v1 : IntKind.i64.wrap ((t : Int) * (r : Int)) = (m : Int) := by rw [← Int.natCast_mul, hm]; exact IntWalk.i64_in _ (by omega)
          have v2 := IntWalk.i64_in ((k : Int) + (m : Int)) (by omega)
          have v3 : ((k : Int) + (m : Int)).tmod 4 = (p : Int) := by
            rw [Int.tmod_eq_emod_of_nonneg (by omega)]
            omega
          have v4 := IntWalk.i64_in (p : Int) (by omega)
          have lp' : (p : Int) < 4 := by omega
          have e1 : gy s (p * 4 + r) = gy (shf t s) (k * 4 + r) := by rw [← hp, ← hm]; exact shf_at t s k r hlt hr
          have c1 := h0.drew.g0 (p * 4 + r) (by rw [HX.out.1]; omega)
          rw [e1] at c1
          have lm2 : (mixd (shf t s) (zr 16) (k * 4 + r)).length = 16 := mixd_length HX.out.2.2 (zr_length 16) _ (by omega)
          have f2 := h2.drew.fy0 (k * 4 + r) (by rw [lm2]; exact hj)
          have c2 := h2.drew.g0 (k * 4 + r) (by rw [lm2]; exact hj)
          have h3 := h2.drew.mixd1 HX.out.2.2 (zr_length 16) hj (x := gy (shf t s) (k * 4 + r)) rfl
          have H3 := hide (And.intro (h0.drew.other (w.heap.size + 1 + 1) (k * 4 + r) (.int .u8 ((gy (shf t s) (k * 4 + r)).toNat : Int)) (.inl (by omega))) (And.intro (h1.drew.other (w.heap.size + 1 + 1) (k * 4 + r) (.int .u8 ((gy (shf t s) (k * 4 + r)).toNat : Int)) (.inl (by omega))) (And.intro h3 ((Below.drew hB).setCell (p := ⟨w.heap.size + 1 + 1, k * 4 + r, none⟩) (by show w.heap.size ≤ w.heap.size + 1 + 1; omega) (.int .u8 ((gy (shf t s) (k * 4 + r)).toNat : Int))))))
          clear h0 h1 h2 h3 hB e1 hm hp
          go_wp2_with fail
          go_still_tail 14, hmx
          go_wp2_with fail
          go_roundg g4
          case measure => omega
          case rel => exact ⟨r + 1, by omega, by go_num, by rw [show k * 4 + (r + 1) = k * 4 + r + 1 by omega]; exact H3.out⟩
        · obtain rfl : r = 4 := by omega
          have HA := hide hA
          clear hA
          go_wp2_with fail
          go_roundg g3
          case measure => omega
          case rel => exact ⟨k + 1, by omega, by go_num, by rw [show (k + 1) * 4 = k * 4 + 4 by omega]; exact HA.out⟩
    · obtain rfl : k = 4 := by omega
      obtain ⟨h0, h1, h2, hB⟩ := hA
      rw [show 4 * 4 = 16 from rfl, mixd_all HX.out.2.2 (zr_length 16)] at h2
      have H0 := hide h2
      have H1 := hide h1
      have HB := hide hB
      clear h0 h1 h2 hB
      go_wp2_with (first | (refine wpList_loadR (op := ⟨some 30, _, _, _, _, _⟩) rfl 40 (.tmp 5) rfl rfl _ H0.out Try.underlying40 rfl (by rw [bs_length, HX.out.2.2]; kernel_rfl) ?_) | (refine wpList_storeR (op := ⟨none, _, _, _, _, _⟩) rfl 40 (.tmp 4) (.tmp 30) rfl rfl (vs := bs (shf t s)) rfl H1.out (by rw [bs_length, bs_length, HX.out.2.2, zr_length]) (by rw [bs_length, HX.out.2.2]; kernel_rfl) (fun v hv => bs_one hv) ?_))
      exact post_row (cs := bs (shf t s)) _ ((H1.out).put (bs (shf t s)) (by rw [bs_length, bs_length, HX.out.2.2, zr_length])) rfl rfl Try.underlying40 rfl (by rw [bs_length, HX.out.2.2]; kernel_rfl) rfl ⟨rfl, HB.out.trans (below_setCells (by omega) _ _ _)⟩
end Go.Proofs.Ytllhnbnddcghoaa
