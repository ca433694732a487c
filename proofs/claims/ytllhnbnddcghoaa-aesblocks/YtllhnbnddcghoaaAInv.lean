/- All bytes' inverses, walked: the call returns what ATab says, and leaves what was there. No condition. -/
import Derived.Test.YtllhnbnddcghoaaASqM
namespace Go.Proofs.Ytllhnbnddcghoaa
open Go.RowKit Bk
set_option linter.unusedVariables false
set_option linter.unusedSimpArgs false

set_option maxRecDepth 100000 in
set_option maxHeartbeats 8000000 in
theorem inverses_any (w : World) :
    Calls Try.prog 34 #[] w fun e w' => e = .returned (.agg (bs IV).toArray) ∧ Below w.heap.size w w' := by
  have HX := hide (show IV.length = 256 from ivs_length 255)
  have H0 := hide (show Row ((w.alloc (.cells (bs (zr 256)).toArray 48)).alloc (.cells (bs (zr 256)).toArray 48)) w.heap.size 0 (bs (zr 256)) ∧ Row ((w.alloc (.cells (bs (zr 256)).toArray 48)).alloc (.cells (bs (zr 256)).toArray 48)) (w.heap.size + 1) 0 (bs (ivs 0).1) ∧ Below w.heap.size w ((w.alloc (.cells (bs (zr 256)).toArray 48)).alloc (.cells (bs (zr 256)).toArray 48)) from
    ⟨(Row.newL w (bs (zr 256)) _).alloc _, row2 w _ (bs (zr 256)) _, below2 w _ _⟩)
  go_enter Try.func34, Try.ntmps34
  go_wp2_with (first | (refine wpList_allocL (op := ⟨some 0, _, _, _, _, _⟩) rfl 48 rfl (bs (zr 256)) 256 (by kernel_rfl) ?_) | (refine wpList_allocL (op := ⟨some 1, _, _, _, _, _⟩) rfl 48 rfl (bs (zr 256)) 256 (by kernel_rfl) ?_))

  go_loopg [2, 3, 4] 255 (fun g x y q wr => ∃ k : Nat, k + g = 255 ∧ q = .int .i64 k ∧ x = .int .u8 ((ivs k).2.1.toNat : Int) ∧ y = .int .u8 ((ivs k).2.2.toNat : Int) ∧ Row wr w.heap.size 0 (bs (zr 256)) ∧ Row wr (w.heap.size + 1) 0 (bs (ivs k).1) ∧ Below w.heap.size w wr)
  case atStart => exact ⟨0, rfl, rfl, rfl, rfl, H0.out⟩
  case round =>
    clear H0
    obtain ⟨k, hkg, rfl, rfl, rfl, h1, h2, hB⟩ := hrel
    by_cases hlt : k < 255
    · have hlt' : (k : Int) < 255 := by omega
      obtain ⟨g3, rfl⟩ : ∃ g3, gk = g3 + 1 := ⟨gk - 1, by omega⟩
      have hst : ivs (k + 1) = ((ivs k).1.set (ivs k).2.1.toNat (ivs k).2.2, mu (ivs k).2.1 3, mu (ivs k).2.2 246) := rfl
      obtain ⟨T, eT⟩ : ∃ T, (ivs k).1 = T := ⟨_, rfl⟩
      obtain ⟨p, ep⟩ : ∃ p, (ivs k).2.1 = p := ⟨_, rfl⟩
      obtain ⟨i, ei⟩ : ∃ i, (ivs k).2.2 = i := ⟨_, rfl⟩
      have lT : T.length = 256 := eT ▸ ivs_length k
      rw [eT, ep, ei] at hst
      rw [eT] at h2
      have HS := hide hst
      obtain ⟨n, en⟩ : ∃ n, p.toNat = n := ⟨_, rfl⟩
      have ln : n < 256 := en ▸ UInt8.toNat_lt p
      have ln' : (n : Int) < 256 := by omega
      have c1 := h2.g0 n (by rw [lT]; exact ln)
      have f1 := h2.fy0 n (by rw [lT]; exact ln)
      have h3 := h2.sety (i := n) (by rw [lT]; exact ln) i
      have H3 := hide (And.intro (h1.other (w.heap.size + 1) n (.int .u8 (i.toNat : Int)) (.inl (by omega))) (And.intro h3 (hB.setCell (p := ⟨w.heap.size + 1, n, none⟩) (by show w.heap.size ≤ w.heap.size + 1; omega) (.int .u8 (i.toNat : Int)))))
      have HP := hide en
      rw [ep, ei, en]
      clear h1 h2 h3 hB hst eT lT ep ei en
      go_wp2_with fail
      rw [← HP.out]
      refine (product_u8 p 3 _).mono ?_
      rintro e w2 ⟨rfl, hw⟩
      obtain rfl := hw.symm
      go_wp2_with fail
      refine (product_u8 i 246 _).mono ?_
      rintro e w3 ⟨rfl, hw⟩
      obtain rfl := hw.symm
      go_wp2_with fail
      go_roundg g3
      case measure => omega
      case rel => exact ⟨k + 1, by omega, by go_num, by rw [HS.out], by rw [HS.out], by rw [HP.out]; exact H3.out.1, by rw [HS.out, HP.out]; exact H3.out.2.1, by rw [HP.out]; exact H3.out.2.2⟩
    · obtain rfl : k = 255 := by omega
      have H0 := hide (show Row wr (w.heap.size + 1) 0 (bs IV) from h2)
      have H1 := hide h1
      have HB := hide hB
      clear h1 h2 hB
      go_wp2_with (first | (refine wpList_loadR (op := ⟨some 14, _, _, _, _, _⟩) rfl 48 (.tmp 1) rfl rfl _ H0.out Try.underlying48 rfl (by rw [bs_length, HX.out]; kernel_rfl) ?_) | (refine wpList_storeR (op := ⟨none, _, _, _, _, _⟩) rfl 48 (.tmp 0) (.tmp 14) rfl rfl (vs := bs IV) rfl H1.out (by rw [bs_length, bs_length, HX.out, zr_length]) (by rw [bs_length, HX.out]; kernel_rfl) (fun v hv => bs_one hv) ?_))
      exact post_row (cs := bs IV) _ ((H1.out).put (bs IV) (by rw [bs_length, bs_length, HX.out, zr_length])) rfl rfl Try.underlying48 rfl (by rw [bs_length, HX.out]; kernel_rfl) rfl ⟨rfl, HB.out.trans (below_setCells (by omega) _ _ _)⟩
end Go.Proofs.Ytllhnbnddcghoaa
