/- A block enciphered, walked. For any cipher that lies in memory, any text: of 16 bytes the call returns what ATab says, of another length, or of no cipher, nothing and an error; what was there is left. -/
import Derived.Test.YtllhnbnddcghoaaATak
import Derived.Test.YtllhnbnddcghoaaAThrE
import Derived.Test.YtllhnbnddcghoaaASqO
import Derived.Test.YtllhnbnddcghoaaASqT
import Derived.Test.YtllhnbnddcghoaaOrdB
namespace Go.Proofs.Ytllhnbnddcghoaa
open Go.RowKit Bk
set_option linter.unusedVariables false
set_option linter.unusedSimpArgs false

set_option maxRecDepth 100000 in
set_option maxHeartbeats 8000000 in
theorem aEnc_nil (x : ByteArray) (w : World) : Calls Try.prog 8 #[.pointer none, .string x] w fun e w' => e = .returned (.tuple #[.string ⟨#[]⟩, .int .i64 2]) ∧ Below w.heap.size w w' := by
  go_enter Try.func8, Try.ntmps8
  go_wp2_with fail
  refine (takes_nil x _).mono ?_
  rintro e w1 ⟨rfl, hw⟩
  obtain rfl := hw.symm
  go_wp2_with fail
  exact bodyPost_ret (v := .tuple #[.string ⟨#[]⟩, .int .i64 2]) (by simp [results, Try.results8, go_sem]) rfl ⟨rfl, (Below.refl _ w).alloc (Nat.le_refl _) _⟩

set_option maxRecDepth 100000 in
set_option maxHeartbeats 8000000 in
theorem aEnc_bad (x : ByteArray) (b : Nat) (w : World) (hx : x.size ≠ 16) : Calls Try.prog 8 #[.pointer (some ⟨b, 0, none⟩), .string x] w fun e w' => e = .returned (.tuple #[.string ⟨#[]⟩, .int .i64 1]) ∧ Below w.heap.size w w' := by
  go_enter Try.func8, Try.ntmps8
  go_wp2_with fail
  refine (takes_bad _ x _ hx).mono ?_
  rintro e w1 ⟨rfl, hw⟩
  obtain rfl := hw.symm
  go_wp2_with fail
  exact bodyPost_ret (v := .tuple #[.string ⟨#[]⟩, .int .i64 1]) (by simp [results, Try.results8, go_sem]) rfl ⟨rfl, (Below.refl _ w).alloc (Nat.le_refl _) _⟩

set_option maxRecDepth 100000 in
set_option maxHeartbeats 8000000 in
theorem aEnc_any (x : ByteArray) (W : List UInt8) (w : World) (b : Nat) (hx : x.size = 16) (hW : W.length = 240) (hR : Row w b 0 (bs (ciB W))) :
    Calls Try.prog 8 #[.pointer (some ⟨b, 0, none⟩), .string x] w fun e w' => e = .returned (.tuple #[.string ⟨(enc W (sb x)).toArray⟩, .int .i64 0]) ∧ Below w.heap.size w w' := by
  obtain ⟨s, es⟩ : ∃ s, sb x = s := ⟨_, rfl⟩
  have ls : s.length = 16 := by rw [← es, sb_length, hx]
  obtain ⟨K, eK⟩ : ∃ k, kR W 0 = k := ⟨_, rfl⟩
  have lK : K.length = 16 := eK ▸ kR_length (by omega)
  obtain ⟨X, eX⟩ : ∃ k, comb s K = k := ⟨_, rfl⟩
  have lX : X.length = 16 := eX ▸ comb_length ls lK
  obtain ⟨Y, eY⟩ : ∃ k, eN W X 14 = k := ⟨_, rfl⟩
  have lY : Y.length = 16 := eY ▸ eN_length hW lX 14 (by decide)
  have hres : enc W (sb x) = Y := by unfold enc; rw [es, eK, eX, eY]
  rw [hres]
  have HE := hide (And.intro es (And.intro eK (And.intro eX eY)))
  have HL := hide (And.intro ls (And.intro lK (And.intro lX lY)))
  clear es eK eX eY ls lK lX lY hres
  obtain ⟨W1, hW1, hC, hB1⟩ : ∃ W1, w.alloc (.cells #[.pointer (some ⟨b, 0, none⟩)] 22) = W1 ∧ Cw W1 w.heap.size b W ∧ Below w.heap.size w W1 :=
    ⟨_, rfl, ⟨(Row.new w #[.pointer (some ⟨b, 0, none⟩)] 22).at' (j := 0) rfl, by simp, hR.alloc _, hW⟩, (Below.refl _ w).alloc (Nat.le_refl _) _⟩
  have HC := hide hC
  have HB1 := hide hB1
  have hp := hC.ptr
  clear hC hB1 hR hW
  go_enter Try.func8, Try.ntmps8
  go_wp2_with fail
  refine (takes_ok _ x _ hx).mono ?_
  rintro e w1 ⟨rfl, hw⟩
  obtain rfl := hw.symm
  go_wp2_with fail
  clear hW1 hp
  have hmx : Try.prog.follows .mixedOrders = true := by kernel_rfl
  have HBk0 := hide (show Below W1.heap.size W1 W1.drew from (Below.refl _ W1).drew)
  refine wp_only (R := fun a' w' => ∃ c, a' = { tmps := #[.pointer (some ⟨b, 0, none⟩), .string x, .pointer (some ⟨w.heap.size, 0, none⟩), undef, .string ⟨#[]⟩, .int .i64 0, .int .i64 0, .pointer (some ⟨c, 0, none⟩), .pointer (some ⟨b, 0, none⟩), .string x, .int .i64 0, .int .i64 0, .bool false, undef, .string x, .agg (bs s).toArray, .pointer (some ⟨b, 0, none⟩), .agg (bs K).toArray, .agg (bs X).toArray, undef, undef, undef, undef, undef], defers := [] } ∧ Row w' c 0 (bs X) ∧ Below W1.heap.size W1 w' ∧ W1.heap.size ≤ c) ?r ?k
  case r =>
    refine wp_region_U (fun w9 => w9.cell? ⟨w.heap.size, 0, none⟩ = some (.pointer (some ⟨b, 0, none⟩))) 3 hmx ?_
    refine U_p (k := 0) (o := ⟨some 14, _, _, _, _, _⟩) rfl (by kernel_rfl) (by kernel_rfl) (fun _ => (HC.out.below HBk0.out).ptr) ⟨_, fun w9 => by (go_simp; try rfl), ?_⟩
    simp only [Act.put, List.setIfInBounds_toArray, List.set_cons_zero, List.set_cons_succ]
    refine U_h (k := 2) (o := ⟨some 16, _, _, _, _, _⟩) rfl (by kernel_rfl) (by kernel_rfl) ((HC.out.below HBk0.out).ptr) ⟨_, fun w9 h9 => by (obtain q1 := h9; go_simp; try rfl), ?_⟩
    simp only [Act.put, List.setIfInBounds_toArray, List.set_cons_zero, List.set_cons_succ]
    refine U_two (i := 1) (j := 5) (by kernel_rfl) ?_ ?_
    ·
      refine U_go rfl (fun K9 hK => ?_)
      go_simp
      go_wp2_with fail
      refine (squareOf_any x _ hx).mono ?_
      rintro e wk1 ⟨rfl, hB⟩
      rw [HE.out.1]
      have HBk1 := hide (HBk0.out.trans (hB.mono HBk0.out.size))
      clear hB
      dsimp only
      refine hK.out _ _ (fun _ => (HC.out.below HBk1.out).ptr) ?_
      clear hK K9
      refine U_two (i := 3) (j := 5) (by kernel_rfl) ?_ ?_
      ·
        refine U_go rfl (fun K9 hK => ?_)
        go_simp
        go_wp2_with fail
        refine (aKey_any W 0 _ b HC.out.len (by decide) (HC.out.below HBk1.out).row).mono ?_
        rintro e wk2 ⟨rfl, hB⟩
        rw [HE.out.2.1]
        have HBk2 := hide (HBk1.out.trans (hB.mono HBk1.out.size))
        clear hB
        dsimp only
        refine hK.out _ _ (fun _ => (HC.out.below HBk2.out).ptr) ?_
        clear hK K9
        refine U_two (i := 4) (j := 5) (by kernel_rfl) ?_ ?_
        ·
          refine U_go rfl (fun K9 hK => ?_)
          go_simp
          go_wp2_with fail
          refine (sqComb_any s K _ HL.out.1 HL.out.2.1).mono ?_
          rintro e wk3 ⟨rfl, hB⟩
          rw [HE.out.2.2.1]
          have HBk3 := hide (HBk2.out.trans (hB.mono HBk2.out.size))
          clear hB
          dsimp only
          refine hK.out _ _ (fun _ => (HC.out.below HBk3.out).ptr) ?_
          clear hK K9
          refine U_one (i := 5) (by kernel_rfl) ?_
          refine U_go rfl (fun K9 hK => ?_)
          go_simp
          have HBk4 := hide (HBk3.out.alloc HBk3.out.size (.cells #[.int .u8 0, .int .u8 0, .int .u8 0, .int .u8 0, .int .u8 0, .int .u8 0, .int .u8 0, .int .u8 0, .int .u8 0, .int .u8 0, .int .u8 0, .int .u8 0, .int .u8 0, .int .u8 0, .int .u8 0, .int .u8 0] 40))
          have HAk4 := hide (And.intro (Row.newL wk3 (bs (zr 16)) 40) HBk3.out.size)
          refine hK.out _ _ (fun _ => (HC.out.below HBk4.out).ptr) ?_
          clear hK K9
          refine U_one (i := 6) (by kernel_rfl) ?_
          refine U_storeR rfl rfl rfl 40 (.tmp 7) (.tmp 18) rfl rfl (vs := bs X) rfl HAk4.out.1 (by rw [bs_length, bs_length, HL.out.2.2.1, zr_length]) (by rw [bs_length, HL.out.2.2.1]; kernel_rfl) (fun v hv => bs_one hv) (fun h => by cases h) ?_
          refine U_end (by kernel_rfl) ?_
          exact ⟨wk3.heap.size, rfl, HAk4.out.1.put (bs X) (by rw [bs_length, bs_length, HL.out.2.2.1, zr_length]), HBk4.out.trans (below_setCells HAk4.out.2 _ _ _), HAk4.out.2⟩
        ·
          refine U_go rfl (fun K9 hK => ?_)
          go_simp
          have HBk5 := hide (HBk2.out.alloc HBk2.out.size (.cells #[.int .u8 0, .int .u8 0, .int .u8 0, .int .u8 0, .int .u8 0, .int .u8 0, .int .u8 0, .int .u8 0, .int .u8 0, .int .u8 0, .int .u8 0, .int .u8 0, .int .u8 0, .int .u8 0, .int .u8 0, .int .u8 0] 40))
          have HAk5 := hide (And.intro (Row.newL wk2 (bs (zr 16)) 40) HBk2.out.size)
          refine hK.out _ _ (fun _ => (HC.out.below HBk5.out).ptr) ?_
          clear hK K9
          refine U_one (i := 4) (by kernel_rfl) ?_
          refine U_go rfl (fun K9 hK => ?_)
          go_simp
          go_wp2_with fail
          refine (sqComb_any s K _ HL.out.1 HL.out.2.1).mono ?_
          rintro e wk6 ⟨rfl, hB⟩
          rw [HE.out.2.2.1]
          have HBk6 := hide (HBk5.out.trans (hB.mono HBk5.out.size))
          have HAk6 := hide (And.intro (HAk5.out.1.below hB HAk5.out.1.lt) HAk5.out.2)
          clear hB
          dsimp only
          refine hK.out _ _ (fun _ => (HC.out.below HBk6.out).ptr) ?_
          clear hK K9
          refine U_one (i := 6) (by kernel_rfl) ?_
          refine U_storeR rfl rfl rfl 40 (.tmp 7) (.tmp 18) rfl rfl (vs := bs X) rfl HAk6.out.1 (by rw [bs_length, bs_length, HL.out.2.2.1, zr_length]) (by rw [bs_length, HL.out.2.2.1]; kernel_rfl) (fun v hv => bs_one hv) (fun h => by cases h) ?_
          refine U_end (by kernel_rfl) ?_
          exact ⟨wk2.heap.size, rfl, HAk6.out.1.put (bs X) (by rw [bs_length, bs_length, HL.out.2.2.1, zr_length]), HBk6.out.trans (below_setCells HAk6.out.2 _ _ _), HAk6.out.2⟩
      ·
        refine U_go rfl (fun K9 hK => ?_)
        go_simp
        have HBk7 := hide (HBk1.out.alloc HBk1.out.size (.cells #[.int .u8 0, .int .u8 0, .int .u8 0, .int .u8 0, .int .u8 0, .int .u8 0, .int .u8 0, .int .u8 0, .int .u8 0, .int .u8 0, .int .u8 0, .int .u8 0, .int .u8 0, .int .u8 0, .int .u8 0, .int .u8 0] 40))
        have HAk7 := hide (And.intro (Row.newL wk1 (bs (zr 16)) 40) HBk1.out.size)
        refine hK.out _ _ (fun _ => (HC.out.below HBk7.out).ptr) ?_
        clear hK K9
        refine U_one (i := 3) (by kernel_rfl) ?_
        refine U_go rfl (fun K9 hK => ?_)
        go_simp
        go_wp2_with fail
        refine (aKey_any W 0 _ b HC.out.len (by decide) (HC.out.below HBk7.out).row).mono ?_
        rintro e wk8 ⟨rfl, hB⟩
        rw [HE.out.2.1]
        have HBk8 := hide (HBk7.out.trans (hB.mono HBk7.out.size))
        have HAk8 := hide (And.intro (HAk7.out.1.below hB HAk7.out.1.lt) HAk7.out.2)
        clear hB
        dsimp only
        refine hK.out _ _ (fun _ => (HC.out.below HBk8.out).ptr) ?_
        clear hK K9
        refine U_one (i := 4) (by kernel_rfl) ?_
        refine U_go rfl (fun K9 hK => ?_)
        go_simp
        go_wp2_with fail
        refine (sqComb_any s K _ HL.out.1 HL.out.2.1).mono ?_
        rintro e wk9 ⟨rfl, hB⟩
        rw [HE.out.2.2.1]
        have HBk9 := hide (HBk8.out.trans (hB.mono HBk8.out.size))
        have HAk9 := hide (And.intro (HAk8.out.1.below hB HAk8.out.1.lt) HAk8.out.2)
        clear hB
        dsimp only
        refine hK.out _ _ (fun _ => (HC.out.below HBk9.out).ptr) ?_
        clear hK K9
        refine U_one (i := 6) (by kernel_rfl) ?_
        refine U_storeR rfl rfl rfl 40 (.tmp 7) (.tmp 18) rfl rfl (vs := bs X) rfl HAk9.out.1 (by rw [bs_length, bs_length, HL.out.2.2.1, zr_length]) (by rw [bs_length, HL.out.2.2.1]; kernel_rfl) (fun v hv => bs_one hv) (fun h => by cases h) ?_
        refine U_end (by kernel_rfl) ?_
        exact ⟨wk1.heap.size, rfl, HAk9.out.1.put (bs X) (by rw [bs_length, bs_length, HL.out.2.2.1, zr_length]), HBk9.out.trans (below_setCells HAk9.out.2 _ _ _), HAk9.out.2⟩
    ·
      refine U_go rfl (fun K9 hK => ?_)
      go_simp
      have HBk10 := hide (HBk0.out.alloc HBk0.out.size (.cells #[.int .u8 0, .int .u8 0, .int .u8 0, .int .u8 0, .int .u8 0, .int .u8 0, .int .u8 0, .int .u8 0, .int .u8 0, .int .u8 0, .int .u8 0, .int .u8 0, .int .u8 0, .int .u8 0, .int .u8 0, .int .u8 0] 40))
      have HAk10 := hide (And.intro (Row.newL W1.drew (bs (zr 16)) 40) HBk0.out.size)
      refine hK.out _ _ (fun _ => (HC.out.below HBk10.out).ptr) ?_
      clear hK K9
      refine U_one (i := 1) (by kernel_rfl) ?_
      refine U_go rfl (fun K9 hK => ?_)
      go_simp
      go_wp2_with fail
      refine (squareOf_any x _ hx).mono ?_
      rintro e wk11 ⟨rfl, hB⟩
      rw [HE.out.1]
      have HBk11 := hide (HBk10.out.trans (hB.mono HBk10.out.size))
      have HAk11 := hide (And.intro (HAk10.out.1.below hB HAk10.out.1.lt) HAk10.out.2)
      clear hB
      dsimp only
      refine hK.out _ _ (fun _ => (HC.out.below HBk11.out).ptr) ?_
      clear hK K9
      refine U_one (i := 3) (by kernel_rfl) ?_
      refine U_go rfl (fun K9 hK => ?_)
      go_simp
      go_wp2_with fail
      refine (aKey_any W 0 _ b HC.out.len (by decide) (HC.out.below HBk11.out).row).mono ?_
      rintro e wk12 ⟨rfl, hB⟩
      rw [HE.out.2.1]
      have HBk12 := hide (HBk11.out.trans (hB.mono HBk11.out.size))
      have HAk12 := hide (And.intro (HAk11.out.1.below hB HAk11.out.1.lt) HAk11.out.2)
      clear hB
      dsimp only
      refine hK.out _ _ (fun _ => (HC.out.below HBk12.out).ptr) ?_
      clear hK K9
      refine U_one (i := 4) (by kernel_rfl) ?_
      refine U_go rfl (fun K9 hK => ?_)
      go_simp
      go_wp2_with fail
      refine (sqComb_any s K _ HL.out.1 HL.out.2.1).mono ?_
      rintro e wk13 ⟨rfl, hB⟩
      rw [HE.out.2.2.1]
      have HBk13 := hide (HBk12.out.trans (hB.mono HBk12.out.size))
      have HAk13 := hide (And.intro (HAk12.out.1.below hB HAk12.out.1.lt) HAk12.out.2)
      clear hB
      dsimp only
      refine hK.out _ _ (fun _ => (HC.out.below HBk13.out).ptr) ?_
      clear hK K9
      refine U_one (i := 6) (by kernel_rfl) ?_
      refine U_storeR rfl rfl rfl 40 (.tmp 7) (.tmp 18) rfl rfl (vs := bs X) rfl HAk13.out.1 (by rw [bs_length, bs_length, HL.out.2.2.1, zr_length]) (by rw [bs_length, HL.out.2.2.1]; kernel_rfl) (fun v hv => bs_one hv) (fun h => by cases h) ?_
      refine U_end (by kernel_rfl) ?_
      exact ⟨W1.drew.heap.size, rfl, HAk13.out.1.put (bs X) (by rw [bs_length, bs_length, HL.out.2.2.1, zr_length]), HBk13.out.trans (below_setCells HAk13.out.2 _ _ _), HAk13.out.2⟩
  rintro a2 w2 ⟨c, rfl, hA, hB, hG⟩
  have HG := hide hG
  clear hG
  clear HBk0 hmx
  have HA := hide hA
  have HB := hide hB
  have HS := hide hB.size
  clear hA hB
  go_wp2_with (refine wpList_loadR (op := ⟨some 19, _, _, _, _, _⟩) rfl 40 (.tmp 7) rfl rfl _ HA.out Try.underlying40 rfl (by rw [bs_length, HL.out.2.2.1]; kernel_rfl) ?_)
  refine (through_eN W X _ w.heap.size b HL.out.2.2.1 (HC.out.below HB.out)).mono ?_
  rintro e w3 ⟨rfl, hB3⟩
  rw [HE.out.2.2.2]
  have HA3 := hide (HA.out.below hB3 HA.out.lt)
  have HB3 := hide (HB.out.trans (hB3.mono HB.out.size))
  clear hB3
  have HA4 := hide (HA3.out.put (bs Y) (by rw [bs_length, bs_length, HL.out.2.2.2, HL.out.2.2.1]))
  have HB4 := hide (HB3.out.trans (below_setCells (b := c) (by have := (show W1.heap.size ≤ c from HG.out); exact this) (bs Y) 0 w3))
  go_wp2_with (first | (refine wpList_storeR (op := ⟨none, _, _, _, _, _⟩) rfl 40 (.tmp 7) (.tmp 21) rfl rfl (vs := bs Y) rfl HA3.out (by rw [bs_length, bs_length, HL.out.2.2.2, HL.out.2.2.1]) (by rw [bs_length, HL.out.2.2.2]; kernel_rfl) (fun v hv => bs_one hv) ?_) | (refine wpList_loadR (op := ⟨some 22, _, _, _, _, _⟩) rfl 40 (.tmp 7) rfl rfl _ HA4.out Try.underlying40 rfl (by rw [bs_length, HL.out.2.2.2]; kernel_rfl) ?_))
  refine (sqText_any Y _ HL.out.2.2.2).mono ?_
  rintro e w4 ⟨rfl, hB4⟩
  have HB5 := hide (HB1.out.trans ((HB4.out.trans (hB4.mono HB4.out.size)).mono HB1.out.size))
  clear hB4
  go_wp2_with fail
  exact bodyPost_ret (v := .tuple #[.string ⟨Y.toArray⟩, .int .i64 0]) (by simp [results, Try.results8, go_sem]) rfl ⟨rfl, HB5.out⟩
end Go.Proofs.Ytllhnbnddcghoaa
