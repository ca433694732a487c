/- A block's bytes as a text, walked. For any block: the call returns them, and leaves what was there. -/
import Derived.Test.YtllhnbnddcghoaaAWord
namespace Go.Proofs.Ytllhnbnddcghoaa
open Go.RowKit Bk
set_option linter.unusedVariables false
set_option linter.unusedSimpArgs false

set_option maxRecDepth 100000 in
set_option maxHeartbeats 4000000 in
theorem sqText_any (s : List UInt8) (w : World) (hs : s.length = 16) :
    Calls Try.prog 24 #[.agg (bs s).toArray] w fun e w' => e = .returned (.string ⟨s.toArray⟩) ∧ Below w.heap.size w w' := by
  have hmk : ∀ w : World, (Instr.makeSlice 55 (.int .i64 0) (.int .i64 16)).run Try.prog w = .ok (.slice (some ⟨w.heap.size, 0, none⟩) 0 16) (w.alloc (.cells (bs (zr 16)).toArray 5)) := fun w => by kernel_rfl
  obtain ⟨W0, hW0, r1, r2, b0⟩ : ∃ W0, (w.alloc (.cells (bs s).toArray 40)).alloc (.cells (bs (zr 16)).toArray 5) = W0 ∧ Row W0 w.heap.size 0 (bs s) ∧ Row W0 (w.heap.size + 1) 0 (bs (mixd s (zr 16) (0 * 4))) ∧ Below w.heap.size w W0 :=
    ⟨_, rfl, (Row.newL w (bs s) _).alloc _, by rw [Nat.zero_mul, mixd_zero]; exact row2 w _ (bs (zr 16)) _, below2 w _ _⟩
  have HX := hide hs
  have H0 := hide (And.intro r2 b0)
  have HR0 := hide r1
  clear r1 r2 b0 hs
  go_enter Try.func24, Try.ntmps24
  go_wp2_with (refine wpList_loadR (op := ⟨some 7, _, _, _, _, _⟩) rfl 40 (.tmp 1) rfl rfl _ HR0.out Try.underlying40 rfl (by rw [bs_length, HX.out]; kernel_rfl) ?_)
  clear hW0 HR0 hmk
  go_loopg [3, 5, 8] 4 (fun g v _ q wr => ∃ k : Nat, k + g = 4 ∧ q = .int .i64 k ∧ v = .slice (some ⟨w.heap.size + 1, 0, none⟩) (k * 4) 16 ∧ Row wr (w.heap.size + 1) 0 (bs (mixd s (zr 16) (k * 4))) ∧ Below w.heap.size w wr)
  case atStart => exact ⟨0, rfl, rfl, rfl, H0.out⟩
  case round =>
    clear H0
    obtain ⟨wo, hwo⟩ : ∃ z, z = wr := ⟨_, rfl⟩
    subst hwo
    obtain ⟨k, hkg, rfl, rfl, h2, hB⟩ := hrel
    by_cases hlt : k < 4
    · have hlt' : (k : Int) < 4 := by omega
      obtain ⟨g3, rfl⟩ : ∃ g3, gk = g3 + 1 := ⟨gk - 1, by omega⟩
      have hk4 : k * 4 + 4 ≤ 16 := by omega
      have hix : ∀ w, (Instr.index 40 (.agg (bs s).toArray) (.int .i64 (k : Int))).run Try.prog w = .ok (.agg (bs (wat s k)).toArray) w := idx_word s k Try.underlying40 hlt (by kernel_rfl) Try.underlying38 rfl
      obtain ⟨x, hx⟩ : ∃ x, wat s k = x := ⟨_, rfl⟩
      have lx : x.length = 4 := by rw [← hx]; exact wat_length (by rw [HX.out]; omega)
      rw [hx] at hix
      obtain ⟨W1, hW1, h1a, h1c, h1d, h1e⟩ : ∃ W1, (wo.alloc (.cells #[.int .u8 0, .int .u8 0, .int .u8 0, .int .u8 0] 38)).setCells wo.heap.size 0 (bs x) = W1 ∧ Row W1 (w.heap.size + 1) 0 (bs (mixd s (zr 16) (k * 4))) ∧ Row W1 wo.heap.size 0 (bs x) ∧ Below w.heap.size w W1 ∧ w.heap.size + 1 < wo.heap.size :=
        ⟨_, rfl, h2.keep _ _ _, Row.made wo (bs (zr 4)) _ _ (by rw [bs_length, bs_length, lx]; rfl), below_made hB hB.size _ _ _, h2.lt⟩
      have HZ := hide (Row.newL wo (bs (zr 4)) 38)
      have lm : (mixd s (zr 16) (k * 4)).length = 16 := mixd_length HX.out (zr_length 16) _ (by omega)
      have hp := h1a.part0 (k * 4) 4 (by omega)
      have h3 := h1a.mixd HX.out (zr_length 16) 4 hk4 x (by rw [← hx]; exact wat_eq _ _)
      have hsrc : Src Try.prog 1 55 (.slice (some ⟨wo.heap.size, 0, none⟩) 4 4) 4 (bs x) W1 := h1c.src (by rw [bs_length, lx]) Try.underlying55 (fun u hu => bs_one hu)
      have HP := hide (show Row W1 (w.heap.size + 1) (0 + k * 4) (bs (((mixd s (zr 16) (k * 4)).drop (k * 4)).take 4)) ∧ (bs x).length = (bs (((mixd s (zr 16) (k * 4)).drop (k * 4)).take 4)).length ∧ k * 4 + 4 ≤ 16 from ⟨by rw [Nat.zero_add]; exact hp, by rw [bs_length, bs_length, lx, ← wat_eq]; exact (wat_length (by omega)).symm, hk4⟩)
      have HS := hide hsrc
      have H3 := hide (show Row (W1.setCells (w.heap.size + 1) (k * 4) (bs x)) (w.heap.size + 1) 0 (bs (mixd s (zr 16) (k * 4 + 4))) ∧ Below w.heap.size w (W1.setCells (w.heap.size + 1) (k * 4) (bs x)) from ⟨h3, h1d.trans (below_setCells (by omega) _ _ _)⟩)
      have HL := hide lx
      clear h2 hB h1a h1c h1d h1e hp h3 lm hx lx hsrc
      go_wp2_with (first | (refine wpList_storeR (op := ⟨none, _, _, _, _, _⟩) rfl 38 (.tmp 5) (.tmp 10) rfl rfl (vs := bs x) rfl HZ.out (by rw [bs_length, bs_length, HL.out, zr_length]) (by rw [bs_length, HL.out]; kernel_rfl) (fun v hv => bs_one hv) ?_; rw [hW1]) | (refine wpList_appendR (op := ⟨some 13, _, _, _, _, _⟩) rfl (.tmp 11) (.tmp 12) 55 55 rfl 5 Try.underlying55 (by kernel_rfl) rfl rfl HS.out HP.out.2.2 HP.out.1 HP.out.2.1 ?_))
      go_roundg g3
      case measure => omega
      case rel => exact ⟨k + 1, by omega, by go_num, by rw [show (k + 1) * 4 = k * 4 + 4 by omega], by rw [show (k + 1) * 4 = k * 4 + 4 by omega]; exact H3.out.1, H3.out.2⟩
    · obtain rfl : k = 4 := by omega
      rw [show 4 * 4 = 16 from rfl, mixd_all HX.out (zr_length 16)] at h2
      have hx := run_textR (P := Try.prog) wo 55 9 5 (c := 16) Try.underlying55 Try.underlying5 Try.underlying9 (w.heap.size + 1) 0 rfl HX.out h2.cell
      have HB := hide hB
      clear h2 hB
      go_wp2_with fail
      go_ret
      exact ⟨rfl, HB.out⟩
end Go.Proofs.Ytllhnbnddcghoaa
