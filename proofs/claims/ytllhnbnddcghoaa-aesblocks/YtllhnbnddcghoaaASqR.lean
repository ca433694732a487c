/- A block's bytes replaced, walked. For any block, and any table that lies in memory: the call returns what ATab says, and leaves what was there. -/
import Derived.Test.YtllhnbnddcghoaaAWord
namespace Go.Proofs.Ytllhnbnddcghoaa
open Go.RowKit Bk
set_option linter.unusedVariables false
set_option linter.unusedSimpArgs false

set_option maxRecDepth 100000 in
set_option maxHeartbeats 2000000 in
theorem sqRepl_any (T s : List UInt8) (w : World) (b o : Nat) (hs : s.length = 16) (hT : T.length = 256) (hR : Row w b o (bs T)) :
    Calls Try.prog 21 #[.agg (bs s).toArray, .pointer (some ⟨b, o, none⟩)] w fun e w' => e = .returned (.agg (bs (repl T s)).toArray) ∧ Below w.heap.size w w' := by
  obtain ⟨W0, hW0, r0, r1, b0⟩ : ∃ W0, (w.alloc (.cells (bs s).toArray 40)).alloc (.cells #[.int .u8 0, .int .u8 0, .int .u8 0, .int .u8 0, .int .u8 0, .int .u8 0, .int .u8 0, .int .u8 0, .int .u8 0, .int .u8 0, .int .u8 0, .int .u8 0, .int .u8 0, .int .u8 0, .int .u8 0, .int .u8 0] 40) = W0 ∧ Row W0 w.heap.size 0 (bs (mixd (repl T s) s 0)) ∧ Row W0 (w.heap.size + 1) 0 (bs (zr 16)) ∧ Below w.heap.size w W0 :=
    ⟨_, rfl, by rw [mixd_zero]; exact (Row.newL w (bs s) _).alloc _, row2 w _ (bs (zr 16)) _, below2 w _ _⟩
  have lR : (repl T s).length = 16 := by rw [repl_length, hs]
  have HX := hide (And.intro hs (And.intro hT lR))
  have HR := hide hR
  have H0 := hide r0
  have H1 := hide r1
  have HB := hide b0
  have hr0 : Row W0 w.heap.size 0 (bs s) := by rw [mixd_zero] at r0; exact r0
  have HR0 := hide hr0
  clear hr0 r0 r1 b0 hs hT lR hR
  go_enter Try.func21, Try.ntmps21
  go_wp2_with (refine wpList_loadR (op := ⟨some 7, _, _, _, _, _⟩) rfl 40 (.tmp 2) rfl rfl _ HR0.out Try.underlying40 rfl (by rw [bs_length, HX.out.1]; kernel_rfl) ?_)
  clear HR0 hW0
  go_loopg [5, 6, 8] 4 (fun g _ _ q wr => ∃ k : Nat, k + g = 4 ∧ q = .int .i64 k ∧ Row wr w.heap.size 0 (bs (mixd (repl T s) s (k * 4))) ∧ Row wr (w.heap.size + 1) 0 (bs (zr 16)) ∧ Below w.heap.size w wr)
  case atStart => exact ⟨0, rfl, rfl, H0.out, H1.out, HB.out⟩
  case round =>
    clear H0 H1 HB
    obtain ⟨wo, hwo⟩ : ∃ z, z = wr := ⟨_, rfl⟩
    subst hwo
    obtain ⟨k, hkg, rfl, h0, h1, hB⟩ := hrel
    by_cases hlt : k < 4
    · have hlt' : (k : Int) < 4 := by omega
      obtain ⟨g3, rfl⟩ : ∃ g3, gk = g3 + 1 := ⟨gk - 1, by omega⟩
      have hix : ∀ w, (Instr.index 40 (.agg (bs s).toArray) (.int .i64 (k : Int))).run Try.prog w = .ok (.agg (bs (wat s k)).toArray) w := idx_word s k Try.underlying40 hlt (by kernel_rfl) Try.underlying38 rfl
      obtain ⟨x, hx⟩ : ∃ x, wat s k = x := ⟨_, rfl⟩
      have lx : x.length = 4 := by rw [← hx]; exact wat_length (by rw [HX.out.1]; omega)
      rw [hx] at hix
      obtain ⟨W1, hW1, h1a, h1b, h1c, h1d, h1e⟩ : ∃ W1, (wo.alloc (.cells #[.int .u8 0, .int .u8 0, .int .u8 0, .int .u8 0] 38)).setCells wo.heap.size 0 (bs x) = W1 ∧ Row W1 w.heap.size 0 (bs (mixd (repl T s) s (k * 4))) ∧ Row W1 (w.heap.size + 1) 0 (bs (zr 16)) ∧ Row W1 wo.heap.size 0 (bs x) ∧ Below w.heap.size w W1 ∧ w.heap.size + 1 < wo.heap.size :=
        ⟨_, rfl, h0.keep _ _ _, h1.keep _ _ _, Row.made wo (bs (zr 4)) _ _ (by rw [bs_length, bs_length, lx]; rfl), below_made hB (Nat.le_of_lt h0.lt) _ _ _, h1.lt⟩
      have HZ := hide (Row.newL wo (bs (zr 4)) 38)
      have H1a := hide h1a
      have H1b := hide h1b
      have H1c := hide h1c
      have H1d := hide h1d
      have HTr := hide (HR.out.below h1d HR.out.lt)
      have HLX := hide lx
      have HWX := hide hx
      clear h0 h1 hB h1a h1b h1c h1d lx hx
      go_wp2_with (first | (refine wpList_storeR (op := ⟨none, _, _, _, _, _⟩) rfl 38 (.tmp 6) (.tmp 11) rfl rfl (vs := bs x) rfl HZ.out (by rw [bs_length, bs_length, HLX.out, zr_length]) (by rw [bs_length, HLX.out]; kernel_rfl) (fun v hv => bs_one hv) ?_; rw [hW1]) | (refine wpList_loadR (op := ⟨some 13, _, _, _, _, _⟩) rfl 38 (.tmp 6) rfl rfl _ H1c.out Try.underlying38 rfl (by rw [bs_length, HLX.out]; kernel_rfl) ?_))
      refine (wRepl_any T x _ b o HLX.out HX.out.2.1 HTr.out).mono ?_
      rintro e w2 ⟨rfl, hB2⟩
      have h0 := H1a.out.below hB2 H1a.out.lt
      have h1 := H1b.out.below hB2 H1b.out.lt
      have hB := H1d.out.trans (hB2.mono H1d.out.size)
      have hk4 : k * 4 + 4 ≤ 16 := by omega
      have lm : (mixd (repl T s) s (k * 4)).length = 16 := mixd_length HX.out.2.2 HX.out.1 _ (by omega)
      have hp := h0.part0 (k * 4) 4 (by omega)
      have hv : repl T x = ((repl T s).drop (k * 4)).take 4 := by rw [← HWX.out]; rw [← wat_repl]; exact wat_eq _ _
      have lv : (repl T x).length = 4 := by rw [repl_length, HLX.out]
      have h3 := h0.mixd HX.out.2.2 HX.out.1 4 hk4 (repl T x) hv
      have HP := hide (And.intro hp (show ((( mixd (repl T s) s (k * 4)).drop (k * 4)).take 4).length = 4 from by rw [← wat_eq]; exact wat_length (by omega)))
      have HLV := hide lv
      have H3 := hide (And.intro h3 (And.intro (h1.apart w.heap.size (k * 4) (bs (repl T x)) (.inl (by omega))) (hB.trans (below_setCells (b := w.heap.size) (Nat.le_refl _) (bs (repl T x)) (k * 4) w2))))
      clear h0 h1 hB hp h3 hv lv lm hix H1a H1b H1c H1d HTr HZ hW1 HWX hB2
      go_wp2_with (refine wpList_storeR (op := ⟨none, _, _, _, _, _⟩) rfl 38 (.tmp 16) (.tmp 15) rfl rfl (vs := bs (repl T x)) rfl HP.out.1 (by rw [bs_length, bs_length, HLV.out, HP.out.2]) (by rw [bs_length, HLV.out]; kernel_rfl) (fun v hv => bs_one hv) ?_)
      go_roundg g3
      case measure => omega
      case rel => exact ⟨k + 1, by omega, by go_num, by rw [show (k + 1) * 4 = k * 4 + 4 by omega]; exact H3.out.1, H3.out.2.1, H3.out.2.2⟩
    · obtain rfl : k = 4 := by omega
      rw [show 4 * 4 = 16 from rfl, mixd_all HX.out.2.2 HX.out.1] at h0
      have H0 := hide h0
      have H1 := hide h1
      have HB := hide hB
      clear h0 h1 hB
      go_wp2_with (first | (refine wpList_loadR (op := ⟨some 18, _, _, _, _, _⟩) rfl 40 (.tmp 2) rfl rfl _ H0.out Try.underlying40 rfl (by rw [bs_length, HX.out.2.2]; kernel_rfl) ?_) | (refine wpList_storeR (op := ⟨none, _, _, _, _, _⟩) rfl 40 (.tmp 4) (.tmp 18) rfl rfl (vs := bs (repl T s)) rfl H1.out (by rw [bs_length, bs_length, HX.out.2.2, zr_length]) (by rw [bs_length, HX.out.2.2]; kernel_rfl) (fun v hv => bs_one hv) ?_))
      exact post_row (cs := bs (repl T s)) _ ((H1.out).put (bs (repl T s)) (by rw [bs_length, bs_length, HX.out.2.2, zr_length])) rfl rfl Try.underlying40 rfl (by rw [bs_length, HX.out.2.2]; kernel_rfl) rfl ⟨rfl, HB.out.trans (below_setCells (by omega) _ _ _)⟩
end Go.Proofs.Ytllhnbnddcghoaa
