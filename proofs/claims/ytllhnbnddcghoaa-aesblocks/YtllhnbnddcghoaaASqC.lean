/- A block combined with a key, walked. For any two blocks: the call returns what ATab says, and leaves what was there. -/
import Derived.Test.YtllhnbnddcghoaaAWord
namespace Go.Proofs.Ytllhnbnddcghoaa
open Go.RowKit Bk
set_option linter.unusedVariables false
set_option linter.unusedSimpArgs false

set_option maxRecDepth 100000 in
set_option maxHeartbeats 4000000 in
theorem sqComb_any (s t : List UInt8) (w : World) (hs : s.length = 16) (ht : t.length = 16) :
    Calls Try.prog 17 #[.agg (bs s).toArray, .agg (bs t).toArray] w fun e w' => e = .returned (.agg (bs (comb s t)).toArray) ∧ Below w.heap.size w w' := by
  obtain ⟨W0, hW0, r0, r1, r2, b0⟩ : ∃ W0, ((w.alloc (.cells (bs s).toArray 40)).alloc (.cells (bs t).toArray 40)).alloc (.cells #[.int .u8 0, .int .u8 0, .int .u8 0, .int .u8 0, .int .u8 0, .int .u8 0, .int .u8 0, .int .u8 0, .int .u8 0, .int .u8 0, .int .u8 0, .int .u8 0, .int .u8 0, .int .u8 0, .int .u8 0, .int .u8 0] 40) = W0 ∧ Row W0 w.heap.size 0 (bs (mixd (comb s t) s 0)) ∧ Row W0 (w.heap.size + 1) 0 (bs t) ∧ Row W0 (w.heap.size + 1 + 1) 0 (bs (zr 16)) ∧ Below w.heap.size w W0 :=
    ⟨_, rfl, by rw [mixd_zero]; exact ((Row.newL w (bs s) _).alloc _).alloc _, (row2 w _ (bs t) _).alloc _, row3 w _ _ (bs (zr 16)) _, below3 w _ _ _⟩
  have lR : (comb s t).length = 16 := comb_length hs ht
  have HX := hide (And.intro hs (And.intro ht lR))
  have H0 := hide r0
  have H1 := hide r2
  have HB := hide b0
  have HR0 := hide r1
  clear r0 r1 r2 b0 hs ht lR
  go_enter Try.func17, Try.ntmps17
  go_wp2_with (refine wpList_loadR (op := ⟨some 7, _, _, _, _, _⟩) rfl 40 (.tmp 3) rfl rfl _ HR0.out Try.underlying40 rfl (by rw [bs_length, HX.out.2.1]; kernel_rfl) ?_)
  clear HR0 hW0
  go_loopg [5, 6, 8] 4 (fun g _ _ q wr => ∃ k : Nat, k + g = 4 ∧ q = .int .i64 k ∧ Row wr w.heap.size 0 (bs (mixd (comb s t) s (k * 4))) ∧ Row wr (w.heap.size + 1 + 1) 0 (bs (zr 16)) ∧ Below w.heap.size w wr)
  case atStart => exact ⟨0, rfl, rfl, H0.out, H1.out, HB.out⟩
  case round =>
    clear H0 H1 HB
    obtain ⟨wo, hwo⟩ : ∃ z, z = wr := ⟨_, rfl⟩
    subst hwo
    obtain ⟨k, hkg, rfl, h0, h1, hB⟩ := hrel
    by_cases hlt : k < 4
    · have hlt' : (k : Int) < 4 := by omega
      obtain ⟨g3, rfl⟩ : ∃ g3, gk = g3 + 1 := ⟨gk - 1, by omega⟩
      have hix : ∀ w, (Instr.index 40 (.agg (bs t).toArray) (.int .i64 (k : Int))).run Try.prog w = .ok (.agg (bs (wat t k)).toArray) w := idx_word t k Try.underlying40 hlt (by kernel_rfl) Try.underlying38 rfl
      have hk4 : k * 4 + 4 ≤ 16 := by omega
      have lm : (mixd (comb s t) s (k * 4)).length = 16 := mixd_length HX.out.2.2 HX.out.1 _ (by omega)
      obtain ⟨y, hy⟩ : ∃ y, wat t k = y := ⟨_, rfl⟩
      have ly : y.length = 4 := by rw [← hy]; exact wat_length (by rw [HX.out.2.1]; omega)
      obtain ⟨x, hx⟩ : ∃ x, wat s k = x := ⟨_, rfl⟩
      have lx : x.length = 4 := by rw [← hx]; exact wat_length (by rw [HX.out.1]; omega)
      have hxm : ((mixd (comb s t) s (k * 4)).drop (k * 4)).take 4 = x := by
        rw [← wat_eq, Nat.mul_comm k 4, wat_mixd HX.out.2.2 HX.out.1 (by omega), hx]
      have hv : comb x y = ((comb s t).drop (k * 4)).take 4 := by rw [← hx, ← hy, ← wat_comb]; exact wat_eq _ _
      rw [hy] at hix
      obtain ⟨W1, hW1, h1a, h1b, h1c, h1d, h1e, h1f⟩ : ∃ W1, (wo.alloc (.cells #[.int .u8 0, .int .u8 0, .int .u8 0, .int .u8 0] 38)).setCells wo.heap.size 0 (bs y) = W1 ∧ Row W1 w.heap.size 0 (bs (mixd (comb s t) s (k * 4))) ∧ Row W1 (w.heap.size + 1 + 1) 0 (bs (zr 16)) ∧ Row W1 wo.heap.size 0 (bs y) ∧ Row W1 w.heap.size (k * 4) (bs x) ∧ Below w.heap.size w W1 ∧ w.heap.size + 1 + 1 < wo.heap.size := by
        have hh := h0.keep #[.int .u8 0, .int .u8 0, .int .u8 0, .int .u8 0] (bs y) 38
        have hp := hh.part0 (k * 4) 4 (by omega)
        rw [hxm] at hp
        exact ⟨_, rfl, hh, h1.keep _ _ _, Row.made wo (bs (zr 4)) _ _ (by rw [bs_length, bs_length, ly]; rfl), hp, below_made hB (Nat.le_of_lt h0.lt) _ _ _, h1.lt⟩
      have HZ := hide (Row.newL wo (bs (zr 4)) 38)
      have H1 := hide (And.intro h1a.drew (And.intro h1b.drew (And.intro h1c.drew (And.intro h1d.drew (Below.drew h1e)))))
      have HL := hide (And.intro lx (And.intro ly lm))
      have HV := hide hv
      clear h0 h1 hB h1a h1b h1c h1d h1e lx ly hx hy hxm hv lm
      go_wp2_with (refine wpList_storeR (op := ⟨none, _, _, _, _, _⟩) rfl 38 (.tmp 6) (.tmp 11) rfl rfl (vs := bs y) rfl HZ.out (by rw [bs_length, bs_length, HL.out.2.1, zr_length]) (by rw [bs_length, HL.out.2.1]; kernel_rfl) (fun v hv => bs_one hv) ?_; rw [hW1])
      refine wp_region_ord (fun w9 => Row w9 w.heap.size (k * 4) (bs x) ∧ Row w9 wo.heap.size 0 (bs y)) 5 [(0, some true), (1, some true), (2, some true), (3, some false), (4, some false), (5, none), (6, some true), (7, none)] (by kernel_rfl) (by kernel_rfl) (fun _ _ _ _ h => h) ⟨H1.out.2.2.2.1, H1.out.2.2.1⟩ ?_
      refine ord_pureE (o := ⟨some 12, _, _, _, _, _⟩) rfl (by kernel_rfl) ⟨_, fun w9 => by (go_simp; try rfl), ?_⟩
      simp only [Act.put, List.setIfInBounds_toArray, List.set_cons_zero, List.set_cons_succ]
      refine ord_pureE (o := ⟨some 13, _, _, _, _, _⟩) rfl (by kernel_rfl) ⟨_, fun w9 => by (go_simp; try rfl), ?_⟩
      simp only [Act.put, List.setIfInBounds_toArray, List.set_cons_zero, List.set_cons_succ]
      refine ord_pureE (o := ⟨some 14, _, _, _, _, _⟩) rfl (by kernel_rfl) ⟨_, fun w9 => by (go_simp; try rfl), ?_⟩
      simp only [Act.put, List.setIfInBounds_toArray, List.set_cons_zero, List.set_cons_succ]
      refine ord_load (o := ⟨some 15, _, _, _, _, _⟩) 38 (.tmp 14) rfl rfl (by kernel_rfl) rfl _ (fun w9 h9 => h9.1.cell) Try.underlying38 rfl (by rw [bs_length, HL.out.1]; kernel_rfl) ?_
      simp only [Act.put, List.setIfInBounds_toArray, List.set_cons_zero, List.set_cons_succ]
      refine ord_load (o := ⟨some 16, _, _, _, _, _⟩) 38 (.tmp 6) rfl rfl (by kernel_rfl) rfl _ (fun w9 h9 => h9.2.cell) Try.underlying38 rfl (by rw [bs_length, HL.out.2.1]; kernel_rfl) ?_
      simp only [Act.put, List.setIfInBounds_toArray, List.set_cons_zero, List.set_cons_succ]
      refine ord_go rfl (fun K9 hK => ?_)
      go_simp
      go_wp2_with fail
      refine (wComb_any x y _ HL.out.1 HL.out.2.1).mono ?_
      rintro e w2 ⟨rfl, hB2⟩
      obtain ⟨a1, a2, a3, a4, a5⟩ := H1.out
      have h0 := a1.below hB2 a1.lt
      have h1 := a2.below hB2 a2.lt
      have h4 := a4.below hB2 a4.lt
      have hB := a5.trans (hB2.mono a5.size)
      have lv : (comb x y).length = 4 := comb_length HL.out.1 HL.out.2.1
      have h3 := h0.mixd HX.out.2.2 HX.out.1 4 hk4 (comb x y) HV.out
      have HP := hide (And.intro h4 lv)
      have H3 := hide (And.intro h3 (And.intro (h1.apart w.heap.size (k * 4) (bs (comb x y)) (.inl (by omega))) (hB.trans (below_setCells (b := w.heap.size) (Nat.le_refl _) (bs (comb x y)) (k * 4) w2))))
      clear h0 h1 h4 hB h3 lv a1 a2 a3 a4 a5 hB2
      dsimp only
      refine hK.out _ _ (fun h => by cases h) ?_
      clear hK K9
      refine ord_pureE (o := ⟨some 18, _, _, _, _, _⟩) rfl (by kernel_rfl) ⟨_, fun w9 => by (go_simp; try rfl), ?_⟩
      simp only [Act.put, List.setIfInBounds_toArray, List.set_cons_zero, List.set_cons_succ]
      refine ord_storeR (o := ⟨none, _, _, _, _, _⟩) rfl rfl rfl 38 (.tmp 18) (.tmp 17) rfl rfl (vs := bs (comb x y)) rfl HP.out.1 (by rw [bs_length, bs_length, HP.out.2, HL.out.1]) (by rw [bs_length, HP.out.2]; kernel_rfl) (fun v hv => bs_one hv) (fun h => by cases h) ?_
      refine ord_end ?_
      clear hix hW1 HZ H1 HV HP HL
      go_wp2_with fail
      go_roundg g3
      case measure => omega
      case rel => exact ⟨k + 1, by omega, by go_num, by rw [show (k + 1) * 4 = k * 4 + 4 by omega]; exact H3.out.1, H3.out.2.1, H3.out.2.2⟩
    · obtain rfl : k = 4 := by omega
      rw [show 4 * 4 = 16 from rfl, mixd_all HX.out.2.2 HX.out.1] at h0
      have H0 := hide h0
      have H1 := hide h1
      have HB := hide hB
      clear h0 h1 hB
      go_wp2_with (first | (refine wpList_loadR (op := ⟨some 20, _, _, _, _, _⟩) rfl 40 (.tmp 2) rfl rfl _ H0.out Try.underlying40 rfl (by rw [bs_length, HX.out.2.2]; kernel_rfl) ?_) | (refine wpList_storeR (op := ⟨none, _, _, _, _, _⟩) rfl 40 (.tmp 4) (.tmp 20) rfl rfl (vs := bs (comb s t)) rfl H1.out (by rw [bs_length, bs_length, HX.out.2.2, zr_length]) (by rw [bs_length, HX.out.2.2]; kernel_rfl) (fun v hv => bs_one hv) ?_))
      exact post_row (cs := bs (comb s t)) _ ((H1.out).put (bs (comb s t)) (by rw [bs_length, bs_length, HX.out.2.2, zr_length])) rfl rfl Try.underlying40 rfl (by rw [bs_length, HX.out.2.2]; kernel_rfl) rfl ⟨rfl, HB.out.trans (below_setCells (by omega) _ _ _)⟩
end Go.Proofs.Ytllhnbnddcghoaa
