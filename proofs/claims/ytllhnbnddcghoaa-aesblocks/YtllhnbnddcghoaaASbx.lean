/- All bytes' stand-ins, walked: the call returns what ATab says, and leaves what was there. No condition. -/
import Derived.Test.YtllhnbnddcghoaaAInv
namespace Go.Proofs.Ytllhnbnddcghoaa
open Go.RowKit Bk
set_option linter.unusedVariables false
set_option linter.unusedSimpArgs false

theorem rotl8u_1 (x : UInt8) (w : World) : Calls Try.prog 35 #[.int .u8 (x.toNat : Int), .int .i64 1] w fun e w' => e = .returned (.int .u8 ((rot 1 x).toNat : Int)) ∧ w' = w := by
  have h := rotl8_1 x.toNat w (UInt8.toNat_lt x)
  rwa [u8_of] at h
theorem rotl8u_2 (x : UInt8) (w : World) : Calls Try.prog 35 #[.int .u8 (x.toNat : Int), .int .i64 2] w fun e w' => e = .returned (.int .u8 ((rot 2 x).toNat : Int)) ∧ w' = w := by
  have h := rotl8_2 x.toNat w (UInt8.toNat_lt x)
  rwa [u8_of] at h
theorem rotl8u_3 (x : UInt8) (w : World) : Calls Try.prog 35 #[.int .u8 (x.toNat : Int), .int .i64 3] w fun e w' => e = .returned (.int .u8 ((rot 3 x).toNat : Int)) ∧ w' = w := by
  have h := rotl8_3 x.toNat w (UInt8.toNat_lt x)
  rwa [u8_of] at h
theorem rotl8u_4 (x : UInt8) (w : World) : Calls Try.prog 35 #[.int .u8 (x.toNat : Int), .int .i64 4] w fun e w' => e = .returned (.int .u8 ((rot 4 x).toNat : Int)) ∧ w' = w := by
  have h := rotl8_4 x.toNat w (UInt8.toNat_lt x)
  rwa [u8_of] at h
set_option maxRecDepth 100000 in
set_option maxHeartbeats 8000000 in
theorem standIns_any (w : World) :
    Calls Try.prog 26 #[] w fun e w' => e = .returned (.agg (bs SB).toArray) ∧ Below w.heap.size w w' := by
  have HI := hide (show IV.length = 256 from ivs_length 255)
  have HX := hide SB_length
  have HS := hide (show SB = IV.map sbf from rfl)
  have HZ := hide (show Row (w.alloc (.cells (bs (zr 256)).toArray 48)) w.heap.size 0 (bs (zr 256)) ∧ Below w.heap.size w (w.alloc (.cells (bs (zr 256)).toArray 48)) from ⟨Row.newL w _ _, (Below.refl _ w).alloc (Nat.le_refl _) _⟩)
  go_enter Try.func26, Try.ntmps26
  go_wp2_with (refine wpList_allocL (op := ⟨some 0, _, _, _, _, _⟩) rfl 48 rfl (bs (zr 256)) 256 (by kernel_rfl) ?_)
  refine (inverses_any _).mono ?_
  rintro e w1 ⟨rfl, hB1⟩
  have H0 := hide (show Row w1 w.heap.size 0 (bs (zr 256)) ∧ Below w.heap.size w w1 from ⟨HZ.out.1.below hB1 HZ.out.1.lt, HZ.out.2.trans (hB1.mono HZ.out.2.size)⟩)
  have HN := hide (Row.newL w1 (bs (zr 256)) 48)
  obtain ⟨W2, hW2, k0, k1, k2, k3⟩ : ∃ W2, (w1.alloc (.cells (bs (zr 256)).toArray 48)).setCells w1.heap.size 0 (bs IV) = W2 ∧ Row W2 w.heap.size 0 (bs (zr 256)) ∧ Row W2 w1.heap.size 0 (bs IV) ∧ Below w.heap.size w W2 ∧ w.heap.size < w1.heap.size :=
    ⟨_, rfl, H0.out.1.keep _ _ _, Row.made w1 (bs (zr 256)) _ _ (by rw [bs_length, bs_length, HI.out, zr_length]), below_made H0.out.2 H0.out.2.size _ _ _, H0.out.1.lt⟩
  have HR0 := hide k1
  have H0 := hide (show Row W2 w.heap.size 0 (bs (zr 256)) ∧ Row W2 w1.heap.size 0 (bs (mixd SB IV 0)) ∧ Below w.heap.size w W2 from ⟨k0, by rw [mixd_zero]; exact k1, k2⟩)
  have HLo := hide k3
  clear HZ hB1 k0 k1 k2 k3
  go_wp2_with (first | (refine wpList_allocL (op := ⟨some 1, _, _, _, _, _⟩) rfl 48 rfl (bs (zr 256)) 256 (by kernel_rfl) ?_) | (refine wpList_storeR (op := ⟨none, _, _, _, _, _⟩) rfl 48 (.tmp 1) (.tmp 4) rfl rfl (vs := bs IV) rfl HN.out (by rw [bs_length, bs_length, HI.out, zr_length]) (by rw [bs_length, HI.out]; kernel_rfl) (fun v hv => bs_one hv) ?_; rw [hW2]) | (refine wpList_loadR (op := ⟨some 5, _, _, _, _, _⟩) rfl 48 (.tmp 1) rfl rfl _ HR0.out Try.underlying48 rfl (by rw [bs_length, HI.out]; kernel_rfl) ?_))
  clear HN hW2 HR0
  go_loopg [2, 3, 6] 256 (fun g _ _ q wr => ∃ k : Nat, k + g = 256 ∧ q = .int .i64 k ∧ Row wr w.heap.size 0 (bs (zr 256)) ∧ Row wr w1.heap.size 0 (bs (mixd SB IV k)) ∧ Below w.heap.size w wr)
  case atStart => exact ⟨0, rfl, rfl, H0.out⟩
  case round =>
    clear H0
    obtain ⟨k, hkg, rfl, h1, h2, hB⟩ := hrel
    by_cases hlt : k < 256
    · have hlt' : (k : Int) < 256 := by omega
      obtain ⟨g3, rfl⟩ : ∃ g3, gk = g3 + 1 := ⟨gk - 1, by omega⟩
      have hix : ∀ w, (Instr.index 48 (.agg (bs IV).toArray) (.int .i64 (k : Int))).run Try.prog w = .ok (.int .u8 ((gy IV k).toNat : Int)) w := idx_arr IV k Try.underlying48 hlt HI.out (by kernel_rfl) Try.underlying5
      have e1 : sbf (gy IV k) = gy SB k := by rw [HS.out, gy_map (by rw [HI.out]; exact hlt)]
      obtain ⟨x, ex⟩ : ∃ x, gy IV k = x := ⟨_, rfl⟩
      rw [ex] at hix e1
      have e2 : ((((x ^^^ rot 1 x) ^^^ rot 2 x) ^^^ rot 3 x) ^^^ rot 4 x) ^^^ 99 = gy SB k := e1
      have lm : (mixd SB IV k).length = 256 := mixd_length HX.out HI.out k (by omega)
      have c1 := h2.g0 k (by rw [lm]; exact hlt)
      have f1 := h2.fy0 k (by rw [lm]; exact hlt)
      have h3 := h2.mixd1 HX.out HI.out hlt e2
      have H3 := hide (And.intro (h1.other w1.heap.size k (.int .u8 ((((((x ^^^ rot 1 x) ^^^ rot 2 x) ^^^ rot 3 x) ^^^ rot 4 x) ^^^ 99).toNat : Int)) (.inl (Nat.ne_of_lt HLo.out))) (And.intro h3 (hB.setCell (p := ⟨w1.heap.size, k, none⟩) (Nat.le_of_lt HLo.out) (.int .u8 ((((((x ^^^ rot 1 x) ^^^ rot 2 x) ^^^ rot 3 x) ^^^ rot 4 x) ^^^ 99).toNat : Int)))))
      have q5 := x8_int ((((x ^^^ rot 1 x) ^^^ rot 2 x) ^^^ rot 3 x) ^^^ rot 4 x) 99
      rw [show ((99 : UInt8).toNat : Int) = 99 from rfl] at q5
      have HQ := hide q5
      clear h1 h2 h3 hB lm ex e1 e2 q5
      have q1 := x8_int x (rot 1 x)
      have q2 := x8_int (x ^^^ rot 1 x) (rot 2 x)
      have q3 := x8_int ((x ^^^ rot 1 x) ^^^ rot 2 x) (rot 3 x)
      have q4 := x8_int (((x ^^^ rot 1 x) ^^^ rot 2 x) ^^^ rot 3 x) (rot 4 x)
      obtain ⟨y1, f01⟩ : ∃ y, x ^^^ rot 1 x = y := ⟨_, rfl⟩
      rw [f01] at q1 q2 q3 q4 HQ H3
      obtain ⟨y2, f02⟩ : ∃ y, y1 ^^^ rot 2 x = y := ⟨_, rfl⟩
      rw [f02] at q2 q3 q4 HQ H3
      obtain ⟨y3, f03⟩ : ∃ y, y2 ^^^ rot 3 x = y := ⟨_, rfl⟩
      rw [f03] at q3 q4 HQ H3
      obtain ⟨y4, f04⟩ : ∃ y, y3 ^^^ rot 4 x = y := ⟨_, rfl⟩
      rw [f04] at q4 HQ H3
      have q5 := HQ.out
      obtain ⟨y5, f05⟩ : ∃ y, y4 ^^^ 99 = y := ⟨_, rfl⟩
      rw [f05] at q5 H3
      clear HQ f01 f02 f03 f04 f05
      go_wp2_with fail
      refine (rotl8u_1 x _).mono ?_
      rintro e w2 ⟨rfl, hw⟩
      obtain rfl := hw.symm
      go_wp2_with fail
      refine (rotl8u_2 x _).mono ?_
      rintro e w3 ⟨rfl, hw⟩
      obtain rfl := hw.symm
      go_wp2_with fail
      refine (rotl8u_3 x _).mono ?_
      rintro e w4 ⟨rfl, hw⟩
      obtain rfl := hw.symm
      go_wp2_with fail
      refine (rotl8u_4 x _).mono ?_
      rintro e w5 ⟨rfl, hw⟩
      obtain rfl := hw.symm
      go_wp2_with fail
      go_roundg g3
      case measure => omega
      case rel => exact ⟨k + 1, by omega, by go_num, H3.out⟩
    · obtain rfl : k = 256 := by omega
      rw [mixd_all HX.out HI.out] at h2
      have H0 := hide h2
      have H1 := hide h1
      have HB := hide hB
      clear h1 h2 hB
      go_wp2_with (first | (refine wpList_loadR (op := ⟨some 27, _, _, _, _, _⟩) rfl 48 (.tmp 1) rfl rfl _ H0.out Try.underlying48 rfl (by rw [bs_length, HX.out]; kernel_rfl) ?_) | (refine wpList_storeR (op := ⟨none, _, _, _, _, _⟩) rfl 48 (.tmp 0) (.tmp 27) rfl rfl (vs := bs SB) rfl H1.out (by rw [bs_length, bs_length, HX.out, zr_length]) (by rw [bs_length, HX.out]; kernel_rfl) (fun v hv => bs_one hv) ?_))
      exact post_row (cs := bs SB) _ ((H1.out).put (bs SB) (by rw [bs_length, bs_length, HX.out, zr_length])) rfl rfl Try.underlying48 rfl (by rw [bs_length, HX.out]; kernel_rfl) rfl ⟨rfl, HB.out.trans (below_setCells (by omega) _ _ _)⟩
end Go.Proofs.Ytllhnbnddcghoaa
