/- A block of its bytes, walked. For any text of 16 bytes: the call returns them, and leaves what was there. -/
import Derived.Test.YtllhnbnddcghoaaAWord
namespace Go.Proofs.Ytllhnbnddcghoaa
open Go.RowKit Bk
set_option linter.unusedVariables false
set_option linter.unusedSimpArgs false

set_option maxRecDepth 100000 in
set_option maxHeartbeats 4000000 in
theorem squareOf_any (x : ByteArray) (w : World) (hs : x.size = 16) :
    Calls Try.prog 16 #[.string x] w fun e w' => e = .returned (.agg (bs (sb x)).toArray) ∧ Below w.heap.size w w' := by
  have hmx : Try.prog.follows .mixedOrders = true := by kernel_rfl
  obtain ⟨R, hR⟩ : ∃ R, sb x = R := ⟨_, rfl⟩
  have lR : R.length = 16 := by rw [← hR, sb_length, hs]
  obtain ⟨W0, hW0, r1, r2, b0⟩ : ∃ W0, (w.alloc (.cells #[.int .u8 0, .int .u8 0, .int .u8 0, .int .u8 0, .int .u8 0, .int .u8 0, .int .u8 0, .int .u8 0, .int .u8 0, .int .u8 0, .int .u8 0, .int .u8 0, .int .u8 0, .int .u8 0, .int .u8 0, .int .u8 0] 40)).alloc (.cells #[.int .u8 0, .int .u8 0, .int .u8 0, .int .u8 0, .int .u8 0, .int .u8 0, .int .u8 0, .int .u8 0, .int .u8 0, .int .u8 0, .int .u8 0, .int .u8 0, .int .u8 0, .int .u8 0, .int .u8 0, .int .u8 0] 40) = W0 ∧ Row W0 w.heap.size 0 (bs (zr 16)) ∧ Row W0 (w.heap.size + 1) 0 (bs (mixd R (zr 16) (0 * 4))) ∧ Below w.heap.size w W0 :=
    ⟨_, rfl, (Row.newL w (bs (zr 16)) _).alloc _, by rw [Nat.zero_mul, mixd_zero]; exact row2 w _ (bs (zr 16)) _, below2 w _ _⟩
  have HX := hide (And.intro hs (And.intro hR lR))
  have H0 := hide (And.intro r1 (And.intro r2 b0))
  rw [hR]
  clear r1 r2 b0 lR hR
  go_enter Try.func16, Try.ntmps16
  go_wp2_with fail
  clear hW0
  go_loopg [4, 5] 4 (fun g _ q wr => ∃ k : Nat, k + g = 4 ∧ q = .int .i64 k ∧ Row wr w.heap.size 0 (bs (zr 16)) ∧ Row wr (w.heap.size + 1) 0 (bs (mixd R (zr 16) (k * 4))) ∧ Below w.heap.size w wr)
  case atStart => exact ⟨0, rfl, rfl, H0.out⟩
  case round =>
    clear H0
    obtain ⟨wo, hwo⟩ : ∃ z, z = wr := ⟨_, rfl⟩
    subst hwo
    obtain ⟨k, hkg, rfl, h1, h2, hB⟩ := hrel
    by_cases hlt : k < 4
    · have hlt' : (k : Int) < 4 := by omega
      obtain ⟨g3, rfl⟩ : ∃ g3, gk = g3 + 1 := ⟨gk - 1, by omega⟩
      have hk4 : k * 4 + 4 ≤ 16 := by omega
      have v1 := IntWalk.i64_in ((k : Int) * 4) (by omega)
      have v2 : (0 : Int) ≤ (k : Int) * 4 := by omega
      have v3 : (k : Int) * 4 ≤ (x.size : Int) := by rw [hs]; omega
      have v4 : ((k : Int) * 4).toNat = k * 4 := by omega
      obtain ⟨y, hy⟩ : ∃ y, x.extract (k * 4) x.size = y := ⟨_, rfl⟩
      have zy : y.size = 16 - k * 4 := by rw [← hy, ByteArray.size_extract, hs]; omega
      have sy : (sb y).take 4 = (R.drop (k * 4)).take 4 := by
        rw [← hy, sb_extract, HX.out.2.1, List.take_take, hs, Nat.min_eq_left (by omega)]
      have lm : (mixd R (zr 16) (k * 4)).length = 16 := mixd_length HX.out.2.2 (zr_length 16) _ (by omega)
      have hD := h2.drew
      have hp := hD.part0 (k * 4) 4 (by omega)
      have h3 := hD.mixd HX.out.2.2 (zr_length 16) 4 hk4 ((sb y).take 4) sy
      have HP := hide (And.intro hp (show (bs (((mixd R (zr 16) (k * 4)).drop (k * 4)).take 4)).length = 4 by rw [bs_length, ← wat_eq]; exact wat_length (by omega)))
      have HY := hide (show Nat.min y.size 4 = 4 by rw [zy]; exact Nat.min_eq_right (by omega))
      have H3 := hide (And.intro (h1.drew.apart (w.heap.size + 1) (k * 4) (bs ((sb y).take 4)) (.inl (by omega))) (And.intro h3 ((Below.drew hB).trans (below_setCells (B := w.heap.size) (b := w.heap.size + 1) (by omega) (bs ((sb y).take 4)) (k * 4) _))))
      have hmin : min x.size x.size = x.size := Nat.min_self _
      have hsl : ∀ w, (Instr.slice 9 (.string x) (some (.int .i64 ((k : Int) * 4))) none none).run Try.prog w = .ok (.string y) w := fun w => by
        rw [run_slice_string_from_if (h := Try.underlying9), if_pos (And.intro v2 v3), v4, hy]
      clear h1 h2 hB hD hp h3 lm sy zy hy v3 v4
      go_wp2_with fail
      go_still_tail 7, hmx
      go_wp2_with (refine wpList_copyS (op := ⟨some 15, _, _, _, _, _⟩) rfl (.tmp 10) (.tmp 14) 55 9 rfl 5 Try.underlying55 (by kernel_rfl) rfl rfl HY.out HP.out.1 HP.out.2 ?_)
      go_roundg g3
      case measure => omega
      case rel => exact ⟨k + 1, by omega, by go_num, by rw [show (k + 1) * 4 = k * 4 + 4 by omega]; exact H3.out⟩
    · obtain rfl : k = 4 := by omega
      rw [show 4 * 4 = 16 from rfl, mixd_all HX.out.2.2 (zr_length 16)] at h2
      have H0 := hide h2
      have H1 := hide h1
      have HB := hide hB
      clear h1 h2 hB
      go_wp2_with (first | (refine wpList_loadR (op := ⟨some 17, _, _, _, _, _⟩) rfl 40 (.tmp 3) rfl rfl _ H0.out Try.underlying40 rfl (by rw [bs_length, HX.out.2.2]; kernel_rfl) ?_) | (refine wpList_storeR (op := ⟨none, _, _, _, _, _⟩) rfl 40 (.tmp 2) (.tmp 17) rfl rfl (vs := bs R) rfl H1.out (by rw [bs_length, bs_length, HX.out.2.2, zr_length]) (by rw [bs_length, HX.out.2.2]; kernel_rfl) (fun v hv => bs_one hv) ?_))
      exact post_row (cs := bs R) _ ((H1.out).put (bs R) (by rw [bs_length, bs_length, HX.out.2.2, zr_length])) rfl rfl Try.underlying40 rfl (by rw [bs_length, HX.out.2.2]; kernel_rfl) rfl ⟨rfl, HB.out.trans (below_setCells (by omega) _ _ _)⟩
end Go.Proofs.Ytllhnbnddcghoaa
