/- Words of four bytes replaced, and combined, walked. For any words, and any table that lies in memory: each call returns what ATab says, and leaves what was there. -/
import Derived.Test.YtllhnbnddcghoaaAStep
namespace Go.Proofs.Ytllhnbnddcghoaa
open Go.RowKit Bk
set_option linter.unusedVariables false
set_option linter.unusedSimpArgs false

set_option maxRecDepth 100000 in
set_option maxHeartbeats 2000000 in
theorem wRepl_any (T x : List UInt8) (w : World) (b o : Nat) (hx : x.length = 4) (hT : T.length = 256) (hR : Row w b o (bs T)) :
    Calls Try.prog 32 #[.agg (bs x).toArray, .pointer (some ⟨b, o, none⟩)] w fun e w' => e = .returned (.agg (bs (repl T x)).toArray) ∧ Below w.heap.size w w' := by
  obtain ⟨W0, hW0, r0, r1, b0⟩ : ∃ W0, (w.alloc (.cells (bs x).toArray 38)).alloc (.cells #[.int .u8 0, .int .u8 0, .int .u8 0, .int .u8 0] 38) = W0 ∧ Row W0 w.heap.size 0 (bs (mixd (repl T x) x 0)) ∧ Row W0 (w.heap.size + 1) 0 (bs (zr 4)) ∧ Below w.heap.size w W0 :=
    ⟨_, rfl, by rw [mixd_zero]; exact (Row.newL w (bs x) _).alloc _, row2 w _ (bs (zr 4)) _, below2 w _ _⟩
  have lR : (repl T x).length = 4 := by rw [repl_length, hx]
  have HX := hide (And.intro hx (And.intro hT lR))
  have HR := hide hR
  have H0 := hide r0
  have H1 := hide r1
  have HB := hide b0
  have hr0 : Row W0 w.heap.size 0 (bs x) := by rw [mixd_zero] at r0; exact r0
  have HR0 := hide hr0
  clear hr0 r0 r1 b0 hx hT lR hR
  go_enter Try.func32, Try.ntmps32
  go_wp2_with (refine wpList_loadR (op := ⟨some 7, _, _, _, _, _⟩) rfl 38 (.tmp 2) rfl rfl _ HR0.out Try.underlying38 rfl (by rw [bs_length, HX.out.1]; kernel_rfl) ?_)
  clear HR0 hW0
  go_loopg [5, 6, 8] 4 (fun g _ _ q wr => ∃ k : Nat, k + g = 4 ∧ q = .int .i64 k ∧ Row wr w.heap.size 0 (bs (mixd (repl T x) x k)) ∧ Row wr (w.heap.size + 1) 0 (bs (zr 4)) ∧ Below w.heap.size w wr)
  case atStart => exact ⟨0, rfl, rfl, H0.out, H1.out, HB.out⟩
  case round =>
    clear H0 H1 HB
    obtain ⟨k, hkg, rfl, h0, h1, hB⟩ := hrel
    by_cases hlt : k < 4
    · have hlt' : (k : Int) < 4 := by omega
      obtain ⟨g3, rfl⟩ : ∃ g3, gk = g3 + 1 := ⟨gk - 1, by omega⟩
      have hix : ∀ w, (Instr.index 38 (.agg (bs x).toArray) (.int .i64 (k : Int))).run Try.prog w = .ok (.int .u8 ((gy x k).toNat : Int)) w := idx_arr x k Try.underlying38 hlt HX.out.1 (by kernel_rfl) Try.underlying5
      obtain ⟨n, hn⟩ : ∃ n, (gy x k).toNat = n := ⟨_, rfl⟩
      have ln : n < 256 := hn ▸ UInt8.toNat_lt _
      have ln' : (n : Int) < 256 := by omega
      have hRb := HR.out.below hB HR.out.lt
      have c1 := hRb.g n (by rw [HX.out.2.1]; exact ln)
      have e1 : gy T n = gy (repl T x) k := by rw [gy_repl (by rw [HX.out.1]; exact hlt), hn]
      rw [hn] at hix
      have f1 := h0.fy0 k (by rw [mixd_length HX.out.2.2 HX.out.1 k (by omega)]; exact hlt)
      have c2 := h0.g0 k (by rw [mixd_length HX.out.2.2 HX.out.1 k (by omega)]; exact hlt)
      have h2 := h0.mixd1 HX.out.2.2 HX.out.1 hlt e1
      have H2 := hide (And.intro h2 (And.intro (h1.other _ k (.int .u8 ((gy T n).toNat : Int)) (.inl (show w.heap.size + 1 ≠ w.heap.size by omega))) (hB.setCell (p := ⟨w.heap.size, k, none⟩) (Nat.le_refl _) (.int .u8 ((gy T n).toNat : Int)))))
      clear h0 h1 hB hRb h2 hn e1
      go_wp2_with fail
      go_roundg g3
      case measure => omega
      case rel => exact ⟨k + 1, by omega, by go_num, H2.out.1, H2.out.2.1, H2.out.2.2⟩
    · obtain rfl : k = 4 := by omega
      rw [mixd_all HX.out.2.2 HX.out.1] at h0
      have H0 := hide h0
      have H1 := hide h1
      have HB := hide hB
      clear h0 h1 hB
      go_wp2_with (first | (refine wpList_loadR (op := ⟨some 20, _, _, _, _, _⟩) rfl 38 (.tmp 2) rfl rfl _ H0.out Try.underlying38 rfl (by rw [bs_length, HX.out.2.2]; kernel_rfl) ?_) | (refine wpList_storeR (op := ⟨none, _, _, _, _, _⟩) rfl 38 (.tmp 4) (.tmp 20) rfl rfl (vs := bs (repl T x)) rfl H1.out (by rw [bs_length, bs_length, HX.out.2.2, zr_length]) (by rw [bs_length, HX.out.2.2]; kernel_rfl) (fun v hv => bs_one hv) ?_))
      exact post_row (cs := bs (repl T x)) _ ((H1.out).put (bs (repl T x)) (by rw [bs_length, bs_length, HX.out.2.2, zr_length])) rfl rfl Try.underlying38 rfl (by rw [bs_length, HX.out.2.2]; kernel_rfl) rfl ⟨rfl, HB.out.trans (below_setCells (by omega) _ _ _)⟩

set_option maxRecDepth 100000 in
set_option maxHeartbeats 2000000 in
theorem wComb_any (x y : List UInt8) (w : World) (hx : x.length = 4) (hy : y.length = 4) :
    Calls Try.prog 31 #[.agg (bs x).toArray, .agg (bs y).toArray] w fun e w' => e = .returned (.agg (bs (comb x y)).toArray) ∧ Below w.heap.size w w' := by
  obtain ⟨W0, hW0, r0, r1, r2, b0⟩ : ∃ W0, ((w.alloc (.cells (bs x).toArray 38)).alloc (.cells (bs y).toArray 38)).alloc (.cells #[.int .u8 0, .int .u8 0, .int .u8 0, .int .u8 0] 38) = W0 ∧ Row W0 w.heap.size 0 (bs (mixd (comb x y) x 0)) ∧ Row W0 (w.heap.size + 1) 0 (bs y) ∧ Row W0 (w.heap.size + 1 + 1) 0 (bs (zr 4)) ∧ Below w.heap.size w W0 :=
    ⟨_, rfl, by rw [mixd_zero]; exact ((Row.newL w (bs x) _).alloc _).alloc _, (row2 w _ (bs y) _).alloc _, row3 w _ _ (bs (zr 4)) _, below3 w _ _ _⟩
  have lR : (comb x y).length = 4 := comb_length hx hy
  have HX := hide (And.intro hx (And.intro hy lR))
  have H0 := hide r0
  have H1 := hide r2
  have HB := hide b0
  have HR0 := hide r1
  clear r0 r1 r2 b0 hx hy lR
  go_enter Try.func31, Try.ntmps31
  go_wp2_with (refine wpList_loadR (op := ⟨some 7, _, _, _, _, _⟩) rfl 38 (.tmp 3) rfl rfl _ HR0.out Try.underlying38 rfl (by rw [bs_length, HX.out.2.1]; kernel_rfl) ?_)
  clear HR0 hW0
  go_loopg [5, 6, 8] 4 (fun g _ _ q wr => ∃ k : Nat, k + g = 4 ∧ q = .int .i64 k ∧ Row wr w.heap.size 0 (bs (mixd (comb x y) x k)) ∧ Row wr (w.heap.size + 1 + 1) 0 (bs (zr 4)) ∧ Below w.heap.size w wr)
  case atStart => exact ⟨0, rfl, rfl, H0.out, H1.out, HB.out⟩
  case round =>
    clear H0 H1 HB
    obtain ⟨k, hkg, rfl, h0, h1, hB⟩ := hrel
    by_cases hlt : k < 4
    · have hlt' : (k : Int) < 4 := by omega
      obtain ⟨g3, rfl⟩ : ∃ g3, gk = g3 + 1 := ⟨gk - 1, by omega⟩
      have hix : ∀ w, (Instr.index 38 (.agg (bs y).toArray) (.int .i64 (k : Int))).run Try.prog w = .ok (.int .u8 ((gy y k).toNat : Int)) w := idx_arr y k Try.underlying38 hlt HX.out.2.1 (by kernel_rfl) Try.underlying5
      have e1 : gy x k ^^^ gy y k = gy (comb x y) k := by rw [gy_comb (by rw [HX.out.1]; exact hlt) (by rw [HX.out.2.1]; exact hlt)]
      have f1 := h0.fy0 k (by rw [mixd_length HX.out.2.2 HX.out.1 k (by omega)]; exact hlt)
      have c2 := h0.g0 k (by rw [mixd_length HX.out.2.2 HX.out.1 k (by omega)]; exact hlt)
      rw [gy_mixd HX.out.2.2 HX.out.1 (by omega), if_neg (Nat.lt_irrefl _)] at c2
      have hxo := x8_int (gy x k) (gy y k)
      have h2 := h0.mixd1 HX.out.2.2 HX.out.1 hlt e1
      have H2 := hide (And.intro h2 (And.intro (h1.other _ k (.int .u8 ((gy x k ^^^ gy y k).toNat : Int)) (.inl (show w.heap.size + 1 + 1 ≠ w.heap.size by omega))) (hB.setCell (p := ⟨w.heap.size, k, none⟩) (Nat.le_refl _) (.int .u8 ((gy x k ^^^ gy y k).toNat : Int)))))
      clear h0 h1 hB h2 e1
      obtain ⟨p, hp⟩ : ∃ p, (gy x k).toNat = p := ⟨_, rfl⟩
      obtain ⟨q, hq⟩ : ∃ q, (gy y k).toNat = q := ⟨_, rfl⟩
      obtain ⟨z, hz⟩ : ∃ z, (gy x k ^^^ gy y k).toNat = z := ⟨_, rfl⟩
      rw [hq] at hix
      rw [hp] at c2
      rw [hp, hq, hz] at hxo
      rw [hz] at H2
      clear hp hq hz
      go_wp2_with fail
      go_roundg g3
      case measure => omega
      case rel => exact ⟨k + 1, by omega, by go_num, H2.out.1, H2.out.2.1, H2.out.2.2⟩
    · obtain rfl : k = 4 := by omega
      rw [mixd_all HX.out.2.2 HX.out.1] at h0
      have H0 := hide h0
      have H1 := hide h1
      have HB := hide hB
      clear h0 h1 hB
      go_wp2_with (first | (refine wpList_loadR (op := ⟨some 19, _, _, _, _, _⟩) rfl 38 (.tmp 2) rfl rfl _ H0.out Try.underlying38 rfl (by rw [bs_length, HX.out.2.2]; kernel_rfl) ?_) | (refine wpList_storeR (op := ⟨none, _, _, _, _, _⟩) rfl 38 (.tmp 4) (.tmp 19) rfl rfl (vs := bs (comb x y)) rfl H1.out (by rw [bs_length, bs_length, HX.out.2.2, zr_length]) (by rw [bs_length, HX.out.2.2]; kernel_rfl) (fun v hv => bs_one hv) ?_))
      exact post_row (cs := bs (comb x y)) _ ((H1.out).put (bs (comb x y)) (by rw [bs_length, bs_length, HX.out.2.2, zr_length])) rfl rfl Try.underlying38 rfl (by rw [bs_length, HX.out.2.2]; kernel_rfl) rfl ⟨rfl, HB.out.trans (below_setCells (by omega) _ _ _)⟩
end Go.Proofs.Ytllhnbnddcghoaa
