/- Through all rounds, walked. For any cipher that lies in memory, and any block: the call returns what ATab says, and leaves what was there. -/
import Derived.Test.YtllhnbnddcghoaaADecR
namespace Go.Proofs.Ytllhnbnddcghoaa
open Go.RowKit Bk
set_option linter.unusedVariables false
set_option linter.unusedSimpArgs false

set_option maxRecDepth 100000 in
set_option maxHeartbeats 8000000 in
theorem through_dN (W s : List UInt8) (w : World) (bp b : Nat) (hs : s.length = 16) (hC : Cw w bp b W) :
    Calls Try.prog 19 #[.agg (bs s).toArray, .func (.func 25) #[] #[.pointer (some ⟨bp, 0, none⟩)]] w fun e w' => e = .returned (.agg (bs (dN W s 14)).toArray) ∧ Below w.heap.size w w' := by
  have HX := hide hs
  have HC := hide hC
  have HM0 := hide (Rn.start w s)
  clear hs hC
  go_enter Try.func19, Try.ntmps19
  go_wp2_with fail
  go_loopg [5] 15 (fun g q wr => ∃ k : Nat, k + 1 + g = 16 ∧ q = .int .i64 ((k + 1 : Nat) : Int) ∧ k ≤ 14 ∧ Rn w wr (dN W s k))
  case atStart => exact ⟨0, rfl, rfl, by decide, HM0.out⟩
  case round =>
    clear HM0
    obtain ⟨wo, hwo⟩ : ∃ z, z = wr := ⟨_, rfl⟩
    subst hwo
    obtain ⟨k, hkg, rfl, hk14, hM⟩ := hrel
    by_cases hlt : k < 14
    · have hlt' : ((k + 1 : Nat) : Int) ≤ 14 := by omega
      obtain ⟨g3, rfl⟩ : ∃ g3, gk = g3 + 1 := ⟨gk - 1, by omega⟩
      obtain ⟨j, hj⟩ : ∃ j, k + 1 = j := ⟨_, rfl⟩
      obtain ⟨X, eX⟩ : ∃ x, dN W s k = x := ⟨_, rfl⟩
      have lX : X.length = 16 := eX ▸ dN_length HX.out k
      obtain ⟨Y, eY⟩ : ∃ x, dN W s (k + 1) = x := ⟨_, rfl⟩
      have lY : Y.length = 16 := eY ▸ dN_length HX.out (k + 1)
      have hst : dR W j X = Y := by rw [← eY, ← eX, ← hj]; rfl
      rw [hj] at hlt' eY ⊢
      rw [eX] at hM
      have HM := hide hM
      have HL := hide (And.intro lX lY)
      have HS := hide (And.intro hst (And.intro eY (show 1 ≤ j ∧ j ≤ 14 by omega)))
      have HJ := hide hj
      clear hM lX lY hst eX eY hj
      go_wp2_with (refine wpList_loadR (op := ⟨some 12, _, _, _, _, _⟩) rfl 40 (.tmp 2) rfl rfl _ HM.out.s Try.underlying40 rfl (by rw [bs_length, HL.out.1]; kernel_rfl) ?_)
      refine (decRound_any W X j _ bp b HS.out.2.2.1 HS.out.2.2.2 HL.out.1 (HC.out.below HM.out.be)).mono ?_
      rintro e w2 ⟨rfl, hB⟩
      rw [HS.out.1]
      have HM2 := hide (HM.out.below hB)
      clear hB HM
      go_wp2_with (refine wpList_storeR (op := ⟨none, _, _, _, _, _⟩) rfl 40 (.tmp 2) (.tmp 13) rfl rfl (vs := bs Y) rfl HM2.out.s (by rw [bs_length, bs_length, HL.out.2, HL.out.1]) (by rw [bs_length, HL.out.2]; kernel_rfl) (fun v hv => bs_one hv) ?_)
      have HM3 := hide (HM2.out.put Y HL.out.1 HL.out.2)
      obtain ⟨W5, hW5⟩ : ∃ x, w2.setCells w.heap.size 0 (bs Y) = x := ⟨_, rfl⟩
      rw [hW5] at HM3 ⊢
      clear hW5 HM2
      go_wp2_with fail
      go_roundg g3
      case measure => omega
      case rel => exact ⟨j, by have := HJ.out; omega, by go_num, HS.out.2.2.2, by rw [HS.out.2.1]; exact HM3.out⟩
    · obtain rfl : k = 14 := by omega
      have H0 := hide hM
      have HX2 := hide (show (dN W s 14).length = 16 from dN_length HX.out 14)
      clear hM
      go_wp2_with (first | (refine wpList_loadR (op := ⟨some 14, _, _, _, _, _⟩) rfl 40 (.tmp 2) rfl rfl _ H0.out.s Try.underlying40 rfl (by rw [bs_length, HX2.out]; kernel_rfl) ?_) | (refine wpList_storeR (op := ⟨none, _, _, _, _, _⟩) rfl 40 (.tmp 4) (.tmp 14) rfl rfl (vs := bs (dN W s 14)) rfl H0.out.z (by rw [bs_length, bs_length, HX2.out, zr_length]) (by rw [bs_length, HX2.out]; kernel_rfl) (fun v hv => bs_one hv) ?_))
      exact post_row (cs := bs (dN W s 14)) _ ((H0.out.z).put (bs (dN W s 14)) (by rw [bs_length, bs_length, HX2.out, zr_length])) rfl rfl Try.underlying40 rfl (by rw [bs_length, HX2.out]; kernel_rfl) rfl ⟨rfl, H0.out.be.trans (below_setCells (by omega) _ _ _)⟩
end Go.Proofs.Ytllhnbnddcghoaa
