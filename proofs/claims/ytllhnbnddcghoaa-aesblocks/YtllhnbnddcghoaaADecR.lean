/- A round, back, walked. For any cipher that lies in memory, any block, any round: the call returns what ATab says, and leaves what was there. -/
import Derived.Test.YtllhnbnddcghoaaARnd
namespace Go.Proofs.Ytllhnbnddcghoaa
open Go.RowKit Bk
set_option linter.unusedVariables false
set_option linter.unusedSimpArgs false

set_option maxRecDepth 100000 in
set_option maxHeartbeats 8000000 in
theorem decRound_any (W s : List UInt8) (n : Nat) (w : World) (bp b : Nat) (h1 : 1 ≤ n) (hn : n ≤ 14) (hs : s.length = 16) (hC : Cw w bp b W) :
    Calls Try.prog 25 #[.int .i64 (n : Int), .agg (bs s).toArray, .pointer (some ⟨bp, 0, none⟩)] w fun e w' => e = .returned (.agg (bs (dR W n s)).toArray) ∧ Below w.heap.size w w' := by
  obtain ⟨u, eu⟩ : ∃ x, 15 - n = x := ⟨_, rfl⟩
  have lu : u ≤ 14 := by omega
  have eI : (15 : Int) - (n : Int) = (u : Int) := by omega
  obtain ⟨K, eK⟩ : ∃ x, kR W u = x := ⟨_, rfl⟩
  have lK : K.length = 16 := eK ▸ kR_length (by have := hC.len; omega)
  obtain ⟨X1, eX1⟩ : ∃ x, comb s K = x := ⟨_, rfl⟩
  have l1 : X1.length = 16 := eX1 ▸ comb_length hs lK
  obtain ⟨X2, eX2⟩ : ∃ x, (if u < 14 then mixS fD X1 else X1) = x := ⟨_, rfl⟩
  have l2 : X2.length = 16 := by
    rw [← eX2]
    split
    · exact mixS_length _ _
    · exact l1
  obtain ⟨X3, eX3⟩ : ∃ x, shf 3 X2 = x := ⟨_, rfl⟩
  have l3 : X3.length = 16 := eX3 ▸ shf_length _ _
  obtain ⟨R, eR'⟩ : ∃ x, repl OB X3 = x := ⟨_, rfl⟩
  have lR : R.length = 16 := by rw [← eR', repl_length]; exact l3
  have hres : dR W n s = R := by unfold dR; rw [eu, eK, eX1, eX2, eX3, eR']
  rw [hres]
  have HL := hide (And.intro hs (And.intro l1 (And.intro l2 (And.intro l3 (And.intro lK lR)))))
  have HE := hide (And.intro eX1 (And.intro eX2 (And.intro eX3 (And.intro eK eR'))))
  have HN := hide (And.intro h1 lu)
  have HC := hide hC
  have HM0 := hide (Rn.start w s)
  have v1 := IntWalk.i64_in (u : Int) (by omega)
  clear l1 l2 l3 lK lR hs eX1 eX2 eX3 eK eR' hres hC h1 hn eu lu
  go_enter Try.func25, Try.ntmps25
  go_wp2_with fail
  have HM1 := hide HM0.out.drew
  have HC1 := hide (HC.out.below HM1.out.be)
  clear HM0 eI v1
  refine wp_region_ord (fun w9 => Row w9 w.heap.size 0 (bs s) ∧ w9.cell? ⟨bp, 0, none⟩ = some (.pointer (some ⟨b, 0, none⟩))) 5 [(0, some false), (1, some false), (2, some true), (3, none), (4, none), (5, none)] (by kernel_rfl) (by kernel_rfl) (fun _ _ _ _ h => h) ⟨HM1.out.s, HC1.out.ptr⟩ ?_
  refine ord_load (o := ⟨some 9, _, _, _, _, _⟩) 40 (.tmp 4) rfl rfl (by kernel_rfl) rfl _ (fun w9 h9 => h9.1.cell) Try.underlying40 rfl (by rw [bs_length, HL.out.1]; kernel_rfl) ?_
  simp only [Act.put, List.setIfInBounds_toArray, List.set_cons_zero, List.set_cons_succ]
  refine ord_heldE (o := ⟨some 10, _, _, _, _, _⟩) rfl (by kernel_rfl) ⟨_, fun w9 h9 => by (obtain ⟨q1, q2⟩ := h9; go_simp; try rfl), ?_⟩
  simp only [Act.put, List.setIfInBounds_toArray, List.set_cons_zero, List.set_cons_succ]
  refine ord_pureE (o := ⟨some 11, _, _, _, _, _⟩) rfl (by kernel_rfl) ⟨_, fun w9 => by (go_simp; try rfl), ?_⟩
  simp only [Act.put, List.setIfInBounds_toArray, List.set_cons_zero, List.set_cons_succ]
  refine ord_go rfl (fun K9 hK => ?_)
  go_simp
  go_wp2_with fail
  refine (aKey_any W u _ b HC.out.len HN.out.2 HC1.out.row).mono ?_
  rintro e w2 ⟨rfl, hB⟩
  have HM2 := hide (HM1.out.below hB)
  have HC2 := hide (HC.out.below HM2.out.be)
  clear hB
  dsimp only
  rw [HE.out.2.2.2.1]
  refine hK.out _ _ (fun _ => ⟨HM2.out.s, HC2.out.ptr⟩) ?_
  clear hK K9
  refine ord_go rfl (fun K9 hK => ?_)
  go_simp
  go_wp2_with fail
  refine (sqComb_any s K _ HL.out.1 HL.out.2.2.2.2.1).mono ?_
  rintro e w3 ⟨rfl, hB⟩
  have HM3 := hide (HM2.out.below hB)
  have HC3 := hide (HC.out.below HM3.out.be)
  clear hB
  dsimp only
  rw [HE.out.1]
  refine hK.out _ _ (fun _ => ⟨HM3.out.s, HC3.out.ptr⟩) ?_
  clear hK K9
  refine ord_storeR (o := ⟨none, _, _, _, _, _⟩) rfl rfl rfl 40 (.tmp 4) (.tmp 13) rfl rfl (vs := bs X1) rfl HM3.out.s (by rw [bs_length, bs_length, HL.out.2.1, HL.out.1]) (by rw [bs_length, HL.out.2.1]; kernel_rfl) (fun v hv => bs_one hv) (fun h => by cases h) ?_
  refine ord_end ?_
  have HM4 := hide (HM3.out.put X1 HL.out.1 HL.out.2.1)
  clear HM1 HM2 HM3 HC1 HC2 HC3
  obtain ⟨W4, hW4⟩ : ∃ x, w3.setCells w.heap.size 0 (bs X1) = x := ⟨_, rfl⟩
  rw [hW4] at HM4 ⊢
  clear hW4
  by_cases c : u < 14
  · have c' : (u : Int) < 14 := by omega
    have e2 : mixS fD X1 = X2 := by have := HE.out.2.1; rwa [if_pos c] at this
    have H3 := hide e2
    clear e2
    go_wp2_with (first | (refine wpList_loadR (op := ⟨some 16, _, _, _, _, _⟩) rfl 40 (.tmp 4) rfl rfl _ HM4.out.s Try.underlying40 rfl (by rw [bs_length, HL.out.2.1]; kernel_rfl) ?_) | (refine wpList_buildL (op := ⟨some 17, _, _, _, _, _⟩) rfl 38 _ rfl (bs fD) (by kernel_rfl) ?_))
    refine (sqMix_any X1 fD _ HL.out.2.1 rfl).mono ?_
    rintro e w4 ⟨rfl, hB⟩
    rw [H3.out]
    have HM9 := hide (HM4.out.below hB)
    clear hB HM4
    go_wp2_with (refine wpList_storeR (op := ⟨none, _, _, _, _, _⟩) rfl 40 (.tmp 4) (.tmp 18) rfl rfl (vs := bs X2) rfl HM9.out.s (by rw [bs_length, bs_length, HL.out.2.2.1, HL.out.2.1]) (by rw [bs_length, HL.out.2.2.1]; kernel_rfl) (fun v hv => bs_one hv) ?_)
    have HM5 := hide (HM9.out.put X2 HL.out.2.1 HL.out.2.2.1)
    obtain ⟨W5, hW5⟩ : ∃ x, w4.setCells w.heap.size 0 (bs X2) = x := ⟨_, rfl⟩
    rw [hW5] at HM5 ⊢
    clear hW5 HM9 c'
    have HM6 := hide HM5.out.drew
    have HC6 := hide (HC.out.below HM6.out.be)
    clear HM5
    refine wp_region_ord (fun w9 => Row w9 w.heap.size 0 (bs X2) ∧ w9.cell? ⟨bp, 0, none⟩ = some (.pointer (some ⟨b, 0, none⟩))) 6 [(0, some false), (2, some false), (3, some true), (4, some true), (1, none), (5, none), (6, none)] (by kernel_rfl) (by kernel_rfl) (fun _ _ _ _ h => h) ⟨HM6.out.s, HC6.out.ptr⟩ ?_
    refine ord_load (o := ⟨some 19, _, _, _, _, _⟩) 40 (.tmp 4) rfl rfl (by kernel_rfl) rfl _ (fun w9 h9 => h9.1.cell) Try.underlying40 rfl (by rw [bs_length, HL.out.2.2.1]; kernel_rfl) ?_
    simp only [Act.put, List.setIfInBounds_toArray, List.set_cons_zero, List.set_cons_succ]
    refine ord_heldE (o := ⟨some 21, _, _, _, _, _⟩) rfl (by kernel_rfl) ⟨_, fun w9 h9 => by (obtain ⟨q1, q2⟩ := h9; go_simp; try rfl), ?_⟩
    simp only [Act.put, List.setIfInBounds_toArray, List.set_cons_zero, List.set_cons_succ]
    refine ord_pureE (o := ⟨some 22, _, _, _, _, _⟩) rfl (by kernel_rfl) ⟨_, fun w9 => by (go_simp; try rfl), ?_⟩
    simp only [Act.put, List.setIfInBounds_toArray, List.set_cons_zero, List.set_cons_succ]
    refine ord_pureE (o := ⟨some 23, _, _, _, _, _⟩) rfl (by kernel_rfl) ⟨_, fun w9 => by (go_simp; try rfl), ?_⟩
    simp only [Act.put, List.setIfInBounds_toArray, List.set_cons_zero, List.set_cons_succ]
    refine ord_go rfl (fun K9 hK => ?_)
    go_simp
    go_wp2_with fail
    refine (sqShift_3 X2 _ HL.out.2.2.1).mono ?_
    rintro e w7 ⟨rfl, hB⟩
    have HM7 := hide (HM6.out.below hB)
    have HC7 := hide (HC.out.below HM7.out.be)
    clear hB
    dsimp only
    rw [HE.out.2.2.1]
    refine hK.out _ _ (fun _ => ⟨HM7.out.s, HC7.out.ptr⟩) ?_
    clear hK K9
    refine ord_go rfl (fun K9 hK => ?_)
    go_simp
    go_wp2_with fail
    refine (sqRepl_any OB X3 _ b 256 HL.out.2.2.2.1 OB_length (ciB_ob HC7.out.row)).mono ?_
    rintro e w8 ⟨rfl, hB⟩
    have HM8 := hide (HM7.out.below hB)
    have HC8 := hide (HC.out.below HM8.out.be)
    clear hB
    dsimp only
    rw [HE.out.2.2.2.2]
    refine hK.out _ _ (fun _ => ⟨HM8.out.s, HC8.out.ptr⟩) ?_
    clear hK K9
    refine ord_storeR (o := ⟨none, _, _, _, _, _⟩) rfl rfl rfl 40 (.tmp 5) (.tmp 24) rfl rfl (vs := bs R) rfl HM8.out.z (by rw [bs_length, bs_length, HL.out.2.2.2.2.2, zr_length]) (by rw [bs_length, HL.out.2.2.2.2.2]; kernel_rfl) (fun v hv => bs_one hv) (fun h => by cases h) ?_
    refine ord_end ?_
    clear HM6 HM7 HC6 HC7 HC8
    go_wp2_with fail
    exact post_row (cs := bs R) _ (HM8.out.z.put (bs R) (by rw [bs_length, bs_length, HL.out.2.2.2.2.2, zr_length])) rfl rfl Try.underlying40 rfl (by rw [bs_length, HL.out.2.2.2.2.2]; kernel_rfl) rfl ⟨rfl, HM8.out.be.trans (below_setCells (by omega) _ _ _)⟩
  · have c' : ¬ ((u : Int) < 14) := by omega
    have e2 : X1 = X2 := by have := HE.out.2.1; rwa [if_neg c] at this
    rw [e2] at HM4
    have HM5 := hide HM4.out
    clear HM4 e2
    go_wp2_with fail
    clear c'
    have HM6 := hide HM5.out.drew
    have HC6 := hide (HC.out.below HM6.out.be)
    clear HM5
    refine wp_region_ord (fun w9 => Row w9 w.heap.size 0 (bs X2) ∧ w9.cell? ⟨bp, 0, none⟩ = some (.pointer (some ⟨b, 0, none⟩))) 6 [(0, some false), (2, some false), (3, some true), (4, some true), (1, none), (5, none), (6, none)] (by kernel_rfl) (by kernel_rfl) (fun _ _ _ _ h => h) ⟨HM6.out.s, HC6.out.ptr⟩ ?_
    refine ord_load (o := ⟨some 19, _, _, _, _, _⟩) 40 (.tmp 4) rfl rfl (by kernel_rfl) rfl _ (fun w9 h9 => h9.1.cell) Try.underlying40 rfl (by rw [bs_length, HL.out.2.2.1]; kernel_rfl) ?_
    simp only [Act.put, List.setIfInBounds_toArray, List.set_cons_zero, List.set_cons_succ]
    refine ord_heldE (o := ⟨some 21, _, _, _, _, _⟩) rfl (by kernel_rfl) ⟨_, fun w9 h9 => by (obtain ⟨q1, q2⟩ := h9; go_simp; try rfl), ?_⟩
    simp only [Act.put, List.setIfInBounds_toArray, List.set_cons_zero, List.set_cons_succ]
    refine ord_pureE (o := ⟨some 22, _, _, _, _, _⟩) rfl (by kernel_rfl) ⟨_, fun w9 => by (go_simp; try rfl), ?_⟩
    simp only [Act.put, List.setIfInBounds_toArray, List.set_cons_zero, List.set_cons_succ]
    refine ord_pureE (o := ⟨some 23, _, _, _, _, _⟩) rfl (by kernel_rfl) ⟨_, fun w9 => by (go_simp; try rfl), ?_⟩
    simp only [Act.put, List.setIfInBounds_toArray, List.set_cons_zero, List.set_cons_succ]
    refine ord_go rfl (fun K9 hK => ?_)
    go_simp
    go_wp2_with fail
    refine (sqShift_3 X2 _ HL.out.2.2.1).mono ?_
    rintro e w7 ⟨rfl, hB⟩
    have HM7 := hide (HM6.out.below hB)
    have HC7 := hide (HC.out.below HM7.out.be)
    clear hB
    dsimp only
    rw [HE.out.2.2.1]
    refine hK.out _ _ (fun _ => ⟨HM7.out.s, HC7.out.ptr⟩) ?_
    clear hK K9
    refine ord_go rfl (fun K9 hK => ?_)
    go_simp
    go_wp2_with fail
    refine (sqRepl_any OB X3 _ b 256 HL.out.2.2.2.1 OB_length (ciB_ob HC7.out.row)).mono ?_
    rintro e w8 ⟨rfl, hB⟩
    have HM8 := hide (HM7.out.below hB)
    have HC8 := hide (HC.out.below HM8.out.be)
    clear hB
    dsimp only
    rw [HE.out.2.2.2.2]
    refine hK.out _ _ (fun _ => ⟨HM8.out.s, HC8.out.ptr⟩) ?_
    clear hK K9
    refine ord_storeR (o := ⟨none, _, _, _, _, _⟩) rfl rfl rfl 40 (.tmp 5) (.tmp 24) rfl rfl (vs := bs R) rfl HM8.out.z (by rw [bs_length, bs_length, HL.out.2.2.2.2.2, zr_length]) (by rw [bs_length, HL.out.2.2.2.2.2]; kernel_rfl) (fun v hv => bs_one hv) (fun h => by cases h) ?_
    refine ord_end ?_
    clear HM6 HM7 HC6 HC7 HC8
    go_wp2_with fail
    exact post_row (cs := bs R) _ (HM8.out.z.put (bs R) (by rw [bs_length, bs_length, HL.out.2.2.2.2.2, zr_length])) rfl rfl Try.underlying40 rfl (by rw [bs_length, HL.out.2.2.2.2.2]; kernel_rfl) rfl ⟨rfl, HM8.out.be.trans (below_setCells (by omega) _ _ _)⟩
end Go.Proofs.Ytllhnbnddcghoaa
