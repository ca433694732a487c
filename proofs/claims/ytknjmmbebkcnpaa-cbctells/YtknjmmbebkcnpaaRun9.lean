/- Several texts of ours, one behind the other; what each is for stands ahead of it. -/
import Derived.Test.YtknjmmbebkcnpaaRun8
import Derived.Test.YtknjmmbebkcnpaaRun2
import Derived.Test.YtknjmmbebkcnpaaRun5

/- A block enciphered, walked. For any cipher that lies in memory, any text: of 16 bytes the call returns what ATab says, of another length, or of no cipher, nothing and an error; what was there is left. -/
namespace Go.Proofs.Ytknjmmbebkcnpaa
open Go.RowKit Bk
set_option linter.unusedVariables false
set_option linter.unusedSimpArgs false

set_option maxRecDepth 100000 in
set_option maxHeartbeats 8000000 in
theorem aEnc_nil (x : ByteArray) (w : World) : Calls Try.prog 18 #[.pointer none, .string x] w fun e w' => e = .returned (.tuple #[.string ⟨#[]⟩, .int .i64 2]) ∧ Below w.heap.size w w' := by
  go_enter Try.func18, Try.ntmps18
  go_wp2_with fail
  refine (takes_nil x _).mono ?_
  rintro e w1 ⟨rfl, hw⟩
  obtain rfl := hw.symm
  go_wp2_with fail
  exact bodyPost_ret (v := .tuple #[.string ⟨#[]⟩, .int .i64 2]) (by simp [results, Try.results18, go_sem]) rfl ⟨rfl, (Below.refl _ w).alloc (Nat.le_refl _) _⟩

set_option maxRecDepth 100000 in
set_option maxHeartbeats 8000000 in
theorem aEnc_bad (x : ByteArray) (b : Nat) (w : World) (hx : x.size ≠ 16) : Calls Try.prog 18 #[.pointer (some ⟨b, 0, none⟩), .string x] w fun e w' => e = .returned (.tuple #[.string ⟨#[]⟩, .int .i64 1]) ∧ Below w.heap.size w w' := by
  go_enter Try.func18, Try.ntmps18
  go_wp2_with fail
  refine (takes_bad _ x _ hx).mono ?_
  rintro e w1 ⟨rfl, hw⟩
  obtain rfl := hw.symm
  go_wp2_with fail
  exact bodyPost_ret (v := .tuple #[.string ⟨#[]⟩, .int .i64 1]) (by simp [results, Try.results18, go_sem]) rfl ⟨rfl, (Below.refl _ w).alloc (Nat.le_refl _) _⟩

set_option maxRecDepth 100000 in
set_option maxHeartbeats 8000000 in
theorem aEnc_any (x : ByteArray) (W : List UInt8) (w : World) (b : Nat) (hx : x.size = 16) (hW : W.length = 240) (hR : Row w b 0 (bs (ciB W))) :
    Calls Try.prog 18 #[.pointer (some ⟨b, 0, none⟩), .string x] w fun e w' => e = .returned (.tuple #[.string ⟨(enc W (sb x)).toArray⟩, .int .i64 0]) ∧ Below w.heap.size w w' := by
  obtain ⟨s, es⟩ : ∃ s, sb x = s := ⟨_, rfl⟩
  have ls : s.length = 16 := by rw [← es, sb_length, hx]
  obtain ⟨K, eK⟩ : ∃ k, kR W 0 = k := ⟨_, rfl⟩
  have lK : K.length = 16 := eK ▸ kR_length (by omega)
  obtain ⟨X, eX⟩ : ∃ k, comb s K = k := ⟨_, rfl⟩
  have lX : X.length = 16 := eX ▸ comb_length ls lK
  obtain ⟨Y, eY⟩ : ∃ k, eN W X 14 = k := ⟨_, rfl⟩
  have lY : Y.length = 16 := eY ▸ eN_length hW lX 14 (by decide)
  have hres : enc W (sb x) = Y := by unfold enc; rw [es, eK, eX, eY]
  rw [hres]
  have HE := hide (And.intro es (And.intro eK (And.intro eX eY)))
  have HL := hide (And.intro ls (And.intro lK (And.intro lX lY)))
  clear es eK eX eY ls lK lX lY hres
  obtain ⟨W1, hW1, hC, hB1⟩ : ∃ W1, w.alloc (.cells #[.pointer (some ⟨b, 0, none⟩)] 29) = W1 ∧ Cw W1 w.heap.size b W ∧ Below w.heap.size w W1 :=
    ⟨_, rfl, ⟨(Row.new w #[.pointer (some ⟨b, 0, none⟩)] 29).at' (j := 0) rfl, by simp, hR.alloc _, hW⟩, (Below.refl _ w).alloc (Nat.le_refl _) _⟩
  have HC := hide hC
  have HB1 := hide hB1
  have hp := hC.ptr
  clear hC hB1 hR hW
  go_enter Try.func18, Try.ntmps18
  go_wp2_with fail
  refine (takes_ok _ x _ hx).mono ?_
  rintro e w1 ⟨rfl, hw⟩
  obtain rfl := hw.symm
  go_wp2_with fail
  clear hW1 hp
  have hmx : Try.prog.follows .mixedOrders = true := by kernel_rfl
  have HBk0 := hide (show Below W1.heap.size W1 W1.drew from (Below.refl _ W1).drew)
  refine wp_only (R := fun a' w' => ∃ c, a' = { tmps := #[.pointer (some ⟨b, 0, none⟩), .string x, .pointer (some ⟨w.heap.size, 0, none⟩), undef, .string ⟨#[]⟩, .int .i64 0, .int .i64 0, .pointer (some ⟨c, 0, none⟩), .pointer (some ⟨b, 0, none⟩), .string x, .int .i64 0, .int .i64 0, .bool false, undef, .string x, .agg (bs s).toArray, .pointer (some ⟨b, 0, none⟩), .agg (bs K).toArray, .agg (bs X).toArray, undef, undef, undef, undef, undef], defers := [] } ∧ Row w' c 0 (bs X) ∧ Below W1.heap.size W1 w' ∧ W1.heap.size ≤ c) ?r ?k
  case r =>
    refine wp_region_U (fun w9 => w9.cell? ⟨w.heap.size, 0, none⟩ = some (.pointer (some ⟨b, 0, none⟩))) 3 hmx ?_
    refine U_p (k := 0) (o := ⟨some 14, _, _, _, _, _⟩) rfl (by kernel_rfl) (by kernel_rfl) (fun _ => (HC.out.below HBk0.out).ptr) ⟨_, fun w9 => by (go_simp; try rfl), ?_⟩
    simp only [Act.put, List.setIfInBounds_toArray, List.set_cons_zero, List.set_cons_succ]
    refine U_h (k := 2) (o := ⟨some 16, _, _, _, _, _⟩) rfl (by kernel_rfl) (by kernel_rfl) ((HC.out.below HBk0.out).ptr) ⟨_, fun w9 h9 => by (obtain q1 := h9; go_simp; try rfl), ?_⟩
    simp only [Act.put, List.setIfInBounds_toArray, List.set_cons_zero, List.set_cons_succ]
    refine U_two (i := 1) (j := 5) (by kernel_rfl) ?_ ?_
    ·
      refine U_go rfl (fun K9 hK => ?_)
      go_simp
      go_wp2_with fail
      refine (squareOf_any x _ hx).mono ?_
      rintro e wk1 ⟨rfl, hB⟩
      rw [HE.out.1]
      have HBk1 := hide (HBk0.out.trans (hB.mono HBk0.out.size))
      clear hB
      dsimp only
      refine hK.out _ _ (fun _ => (HC.out.below HBk1.out).ptr) ?_
      clear hK K9
      refine U_two (i := 3) (j := 5) (by kernel_rfl) ?_ ?_
      ·
        refine U_go rfl (fun K9 hK => ?_)
        go_simp
        go_wp2_with fail
        refine (aKey_any W 0 _ b HC.out.len (by decide) (HC.out.below HBk1.out).row).mono ?_
        rintro e wk2 ⟨rfl, hB⟩
        rw [HE.out.2.1]
        have HBk2 := hide (HBk1.out.trans (hB.mono HBk1.out.size))
        clear hB
        dsimp only
        refine hK.out _ _ (fun _ => (HC.out.below HBk2.out).ptr) ?_
        clear hK K9
        refine U_two (i := 4) (j := 5) (by kernel_rfl) ?_ ?_
        ·
          refine U_go rfl (fun K9 hK => ?_)
          go_simp
          go_wp2_with fail
          refine (sqComb_any s K _ HL.out.1 HL.out.2.1).mono ?_
          rintro e wk3 ⟨rfl, hB⟩
          rw [HE.out.2.2.1]
          have HBk3 := hide (HBk2.out.trans (hB.mono HBk2.out.size))
          clear hB
          dsimp only
          refine hK.out _ _ (fun _ => (HC.out.below HBk3.out).ptr) ?_
          clear hK K9
          refine U_one (i := 5) (by kernel_rfl) ?_
          refine U_go rfl (fun K9 hK => ?_)
          go_simp
          have HBk4 := hide (HBk3.out.alloc HBk3.out.size (.cells #[.int .u8 0, .int .u8 0, .int .u8 0, .int .u8 0, .int .u8 0, .int .u8 0, .int .u8 0, .int .u8 0, .int .u8 0, .int .u8 0, .int .u8 0, .int .u8 0, .int .u8 0, .int .u8 0, .int .u8 0, .int .u8 0] 67))
          have HAk4 := hide (And.intro (Row.newL wk3 (bs (zr 16)) 67) HBk3.out.size)
          refine hK.out _ _ (fun _ => (HC.out.below HBk4.out).ptr) ?_
          clear hK K9
          refine U_one (i := 6) (by kernel_rfl) ?_
          refine U_storeR rfl rfl rfl 67 (.tmp 7) (.tmp 18) rfl rfl (vs := bs X) rfl HAk4.out.1 (by rw [bs_length, bs_length, HL.out.2.2.1, zr_length]) (by rw [bs_length, HL.out.2.2.1]; kernel_rfl) (fun v hv => bs_one hv) (fun h => by cases h) ?_
          refine U_end (by kernel_rfl) ?_
          exact ⟨wk3.heap.size, rfl, HAk4.out.1.put (bs X) (by rw [bs_length, bs_length, HL.out.2.2.1, zr_length]), HBk4.out.trans (below_setCells HAk4.out.2 _ _ _), HAk4.out.2⟩
        ·
          refine U_go rfl (fun K9 hK => ?_)
          go_simp
          have HBk5 := hide (HBk2.out.alloc HBk2.out.size (.cells #[.int .u8 0, .int .u8 0, .int .u8 0, .int .u8 0, .int .u8 0, .int .u8 0, .int .u8 0, .int .u8 0, .int .u8 0, .int .u8 0, .int .u8 0, .int .u8 0, .int .u8 0, .int .u8 0, .int .u8 0, .int .u8 0] 67))
          have HAk5 := hide (And.intro (Row.newL wk2 (bs (zr 16)) 67) HBk2.out.size)
          refine hK.out _ _ (fun _ => (HC.out.below HBk5.out).ptr) ?_
          clear hK K9
          refine U_one (i := 4) (by kernel_rfl) ?_
          refine U_go rfl (fun K9 hK => ?_)
          go_simp
          go_wp2_with fail
          refine (sqComb_any s K _ HL.out.1 HL.out.2.1).mono ?_
          rintro e wk6 ⟨rfl, hB⟩
          rw [HE.out.2.2.1]
          have HBk6 := hide (HBk5.out.trans (hB.mono HBk5.out.size))
          have HAk6 := hide (And.intro (HAk5.out.1.below hB HAk5.out.1.lt) HAk5.out.2)
          clear hB
          dsimp only
          refine hK.out _ _ (fun _ => (HC.out.below HBk6.out).ptr) ?_
          clear hK K9
          refine U_one (i := 6) (by kernel_rfl) ?_
          refine U_storeR rfl rfl rfl 67 (.tmp 7) (.tmp 18) rfl rfl (vs := bs X) rfl HAk6.out.1 (by rw [bs_length, bs_length, HL.out.2.2.1, zr_length]) (by rw [bs_length, HL.out.2.2.1]; kernel_rfl) (fun v hv => bs_one hv) (fun h => by cases h) ?_
          refine U_end (by kernel_rfl) ?_
          exact ⟨wk2.heap.size, rfl, HAk6.out.1.put (bs X) (by rw [bs_length, bs_length, HL.out.2.2.1, zr_length]), HBk6.out.trans (below_setCells HAk6.out.2 _ _ _), HAk6.out.2⟩
      ·
        refine U_go rfl (fun K9 hK => ?_)
        go_simp
        have HBk7 := hide (HBk1.out.alloc HBk1.out.size (.cells #[.int .u8 0, .int .u8 0, .int .u8 0, .int .u8 0, .int .u8 0, .int .u8 0, .int .u8 0, .int .u8 0, .int .u8 0, .int .u8 0, .int .u8 0, .int .u8 0, .int .u8 0, .int .u8 0, .int .u8 0, .int .u8 0] 67))
        have HAk7 := hide (And.intro (Row.newL wk1 (bs (zr 16)) 67) HBk1.out.size)
        refine hK.out _ _ (fun _ => (HC.out.below HBk7.out).ptr) ?_
        clear hK K9
        refine U_one (i := 3) (by kernel_rfl) ?_
        refine U_go rfl (fun K9 hK => ?_)
        go_simp
        go_wp2_with fail
        refine (aKey_any W 0 _ b HC.out.len (by decide) (HC.out.below HBk7.out).row).mono ?_
        rintro e wk8 ⟨rfl, hB⟩
        rw [HE.out.2.1]
        have HBk8 := hide (HBk7.out.trans (hB.mono HBk7.out.size))
        have HAk8 := hide (And.intro (HAk7.out.1.below hB HAk7.out.1.lt) HAk7.out.2)
        clear hB
        dsimp only
        refine hK.out _ _ (fun _ => (HC.out.below HBk8.out).ptr) ?_
        clear hK K9
        refine U_one (i := 4) (by kernel_rfl) ?_
        refine U_go rfl (fun K9 hK => ?_)
        go_simp
        go_wp2_with fail
        refine (sqComb_any s K _ HL.out.1 HL.out.2.1).mono ?_
        rintro e wk9 ⟨rfl, hB⟩
        rw [HE.out.2.2.1]
        have HBk9 := hide (HBk8.out.trans (hB.mono HBk8.out.size))
        have HAk9 := hide (And.intro (HAk8.out.1.below hB HAk8.out.1.lt) HAk8.out.2)
        clear hB
        dsimp only
        refine hK.out _ _ (fun _ => (HC.out.below HBk9.out).ptr) ?_
        clear hK K9
        refine U_one (i := 6) (by kernel_rfl) ?_
        refine U_storeR rfl rfl rfl 67 (.tmp 7) (.tmp 18) rfl rfl (vs := bs X) rfl HAk9.out.1 (by rw [bs_length, bs_length, HL.out.2.2.1, zr_length]) (by rw [bs_length, HL.out.2.2.1]; kernel_rfl) (fun v hv => bs_one hv) (fun h => by cases h) ?_
        refine U_end (by kernel_rfl) ?_
        exact ⟨wk1.heap.size, rfl, HAk9.out.1.put (bs X) (by rw [bs_length, bs_length, HL.out.2.2.1, zr_length]), HBk9.out.trans (below_setCells HAk9.out.2 _ _ _), HAk9.out.2⟩
    ·
      refine U_go rfl (fun K9 hK => ?_)
      go_simp
      have HBk10 := hide (HBk0.out.alloc HBk0.out.size (.cells #[.int .u8 0, .int .u8 0, .int .u8 0, .int .u8 0, .int .u8 0, .int .u8 0, .int .u8 0, .int .u8 0, .int .u8 0, .int .u8 0, .int .u8 0, .int .u8 0, .int .u8 0, .int .u8 0, .int .u8 0, .int .u8 0] 67))
      have HAk10 := hide (And.intro (Row.newL W1.drew (bs (zr 16)) 67) HBk0.out.size)
      refine hK.out _ _ (fun _ => (HC.out.below HBk10.out).ptr) ?_
      clear hK K9
      refine U_one (i := 1) (by kernel_rfl) ?_
      refine U_go rfl (fun K9 hK => ?_)
      go_simp
      go_wp2_with fail
      refine (squareOf_any x _ hx).mono ?_
      rintro e wk11 ⟨rfl, hB⟩
      rw [HE.out.1]
      have HBk11 := hide (HBk10.out.trans (hB.mono HBk10.out.size))
      have HAk11 := hide (And.intro (HAk10.out.1.below hB HAk10.out.1.lt) HAk10.out.2)
      clear hB
      dsimp only
      refine hK.out _ _ (fun _ => (HC.out.below HBk11.out).ptr) ?_
      clear hK K9
      refine U_one (i := 3) (by kernel_rfl) ?_
      refine U_go rfl (fun K9 hK => ?_)
      go_simp
      go_wp2_with fail
      refine (aKey_any W 0 _ b HC.out.len (by decide) (HC.out.below HBk11.out).row).mono ?_
      rintro e wk12 ⟨rfl, hB⟩
      rw [HE.out.2.1]
      have HBk12 := hide (HBk11.out.trans (hB.mono HBk11.out.size))
      have HAk12 := hide (And.intro (HAk11.out.1.below hB HAk11.out.1.lt) HAk11.out.2)
      clear hB
      dsimp only
      refine hK.out _ _ (fun _ => (HC.out.below HBk12.out).ptr) ?_
      clear hK K9
      refine U_one (i := 4) (by kernel_rfl) ?_
      refine U_go rfl (fun K9 hK => ?_)
      go_simp
      go_wp2_with fail
      refine (sqComb_any s K _ HL.out.1 HL.out.2.1).mono ?_
      rintro e wk13 ⟨rfl, hB⟩
      rw [HE.out.2.2.1]
      have HBk13 := hide (HBk12.out.trans (hB.mono HBk12.out.size))
      have HAk13 := hide (And.intro (HAk12.out.1.below hB HAk12.out.1.lt) HAk12.out.2)
      clear hB
      dsimp only
      refine hK.out _ _ (fun _ => (HC.out.below HBk13.out).ptr) ?_
      clear hK K9
      refine U_one (i := 6) (by kernel_rfl) ?_
      refine U_storeR rfl rfl rfl 67 (.tmp 7) (.tmp 18) rfl rfl (vs := bs X) rfl HAk13.out.1 (by rw [bs_length, bs_length, HL.out.2.2.1, zr_length]) (by rw [bs_length, HL.out.2.2.1]; kernel_rfl) (fun v hv => bs_one hv) (fun h => by cases h) ?_
      refine U_end (by kernel_rfl) ?_
      exact ⟨W1.drew.heap.size, rfl, HAk13.out.1.put (bs X) (by rw [bs_length, bs_length, HL.out.2.2.1, zr_length]), HBk13.out.trans (below_setCells HAk13.out.2 _ _ _), HAk13.out.2⟩
  rintro a2 w2 ⟨c, rfl, hA, hB, hG⟩
  have HG := hide hG
  clear hG
  clear HBk0 hmx
  have HA := hide hA
  have HB := hide hB
  have HS := hide hB.size
  clear hA hB
  go_wp2_with (refine wpList_loadR (op := ⟨some 19, _, _, _, _, _⟩) rfl 67 (.tmp 7) rfl rfl _ HA.out Try.underlying67 rfl (by rw [bs_length, HL.out.2.2.1]; kernel_rfl) ?_)
  refine (through_eN W X _ w.heap.size b HL.out.2.2.1 (HC.out.below HB.out)).mono ?_
  rintro e w3 ⟨rfl, hB3⟩
  rw [HE.out.2.2.2]
  have HA3 := hide (HA.out.below hB3 HA.out.lt)
  have HB3 := hide (HB.out.trans (hB3.mono HB.out.size))
  clear hB3
  have HA4 := hide (HA3.out.put (bs Y) (by rw [bs_length, bs_length, HL.out.2.2.2, HL.out.2.2.1]))
  have HB4 := hide (HB3.out.trans (below_setCells (b := c) (by have := (show W1.heap.size ≤ c from HG.out); exact this) (bs Y) 0 w3))
  go_wp2_with (first | (refine wpList_storeR (op := ⟨none, _, _, _, _, _⟩) rfl 67 (.tmp 7) (.tmp 21) rfl rfl (vs := bs Y) rfl HA3.out (by rw [bs_length, bs_length, HL.out.2.2.2, HL.out.2.2.1]) (by rw [bs_length, HL.out.2.2.2]; kernel_rfl) (fun v hv => bs_one hv) ?_) | (refine wpList_loadR (op := ⟨some 22, _, _, _, _, _⟩) rfl 67 (.tmp 7) rfl rfl _ HA4.out Try.underlying67 rfl (by rw [bs_length, HL.out.2.2.2]; kernel_rfl) ?_))
  refine (sqText_any Y _ HL.out.2.2.2).mono ?_
  rintro e w4 ⟨rfl, hB4⟩
  have HB5 := hide (HB1.out.trans ((HB4.out.trans (hB4.mono HB4.out.size)).mono HB1.out.size))
  clear hB4
  go_wp2_with fail
  exact bodyPost_ret (v := .tuple #[.string ⟨Y.toArray⟩, .int .i64 0]) (by simp [results, Try.results18, go_sem]) rfl ⟨rfl, HB5.out⟩
end Go.Proofs.Ytknjmmbebkcnpaa

/- A round, back, walked. For any cipher that lies in memory, any block, any round: the call returns what ATab says, and leaves what was there. -/
namespace Go.Proofs.Ytknjmmbebkcnpaa
open Go.RowKit Bk
set_option linter.unusedVariables false
set_option linter.unusedSimpArgs false

set_option maxRecDepth 100000 in
set_option maxHeartbeats 8000000 in
theorem decRound_any (W s : List UInt8) (n : Nat) (w : World) (bp b : Nat) (h1 : 1 ≤ n) (hn : n ≤ 14) (hs : s.length = 16) (hC : Cw w bp b W) :
    Calls Try.prog 40 #[.int .i64 (n : Int), .agg (bs s).toArray, .pointer (some ⟨bp, 0, none⟩)] w fun e w' => e = .returned (.agg (bs (dR W n s)).toArray) ∧ Below w.heap.size w w' := by
  obtain ⟨u, eu⟩ : ∃ x, 15 - n = x := ⟨_, rfl⟩
  have lu : u ≤ 14 := by omega
  have eI : (15 : Int) - (n : Int) = (u : Int) := by omega
  obtain ⟨K, eK⟩ : ∃ x, kR W u = x := ⟨_, rfl⟩
  have lK : K.length = 16 := eK ▸ kR_length (by have := hC.len; omega)
  obtain ⟨X1, eX1⟩ : ∃ x, comb s K = x := ⟨_, rfl⟩
  have l1 : X1.length = 16 := eX1 ▸ comb_length hs lK
  obtain ⟨X2, eX2⟩ : ∃ x, (if u < 14 then mixS fD X1 else X1) = x := ⟨_, rfl⟩
  have l2 : X2.length = 16 := by
    rw [← eX2]
    split
    · exact mixS_length _ _
    · exact l1
  obtain ⟨X3, eX3⟩ : ∃ x, shf 3 X2 = x := ⟨_, rfl⟩
  have l3 : X3.length = 16 := eX3 ▸ shf_length _ _
  obtain ⟨R, eR'⟩ : ∃ x, repl OB X3 = x := ⟨_, rfl⟩
  have lR : R.length = 16 := by rw [← eR', repl_length]; exact l3
  have hres : dR W n s = R := by unfold dR; rw [eu, eK, eX1, eX2, eX3, eR']
  rw [hres]
  have HL := hide (And.intro hs (And.intro l1 (And.intro l2 (And.intro l3 (And.intro lK lR)))))
  have HE := hide (And.intro eX1 (And.intro eX2 (And.intro eX3 (And.intro eK eR'))))
  have HN := hide (And.intro h1 lu)
  have HC := hide hC
  have HM0 := hide (Rn.start w s)
  have v1 := IntWalk.i64_in (u : Int) (by omega)
  clear l1 l2 l3 lK lR hs eX1 eX2 eX3 eK eR' hres hC h1 hn eu lu
  go_enter Try.func40, Try.ntmps40
  go_wp2_with fail
  have HM1 := hide HM0.out.drew
  have HC1 := hide (HC.out.below HM1.out.be)
  clear HM0 eI v1
  refine wp_region_ord (fun w9 => Row w9 w.heap.size 0 (bs s) ∧ w9.cell? ⟨bp, 0, none⟩ = some (.pointer (some ⟨b, 0, none⟩))) 5 [(0, some false), (1, some false), (2, some true), (3, none), (4, none), (5, none)] (by kernel_rfl) (by kernel_rfl) (fun _ _ _ _ h => h) ⟨HM1.out.s, HC1.out.ptr⟩ ?_
  refine ord_load (o := ⟨some 9, _, _, _, _, _⟩) 67 (.tmp 4) rfl rfl (by kernel_rfl) rfl _ (fun w9 h9 => h9.1.cell) Try.underlying67 rfl (by rw [bs_length, HL.out.1]; kernel_rfl) ?_
  simp only [Act.put, List.setIfInBounds_toArray, List.set_cons_zero, List.set_cons_succ]
  refine ord_heldE (o := ⟨some 10, _, _, _, _, _⟩) rfl (by kernel_rfl) ⟨_, fun w9 h9 => by (obtain ⟨q1, q2⟩ := h9; go_simp; try rfl), ?_⟩
  simp only [Act.put, List.setIfInBounds_toArray, List.set_cons_zero, List.set_cons_succ]
  refine ord_pureE (o := ⟨some 11, _, _, _, _, _⟩) rfl (by kernel_rfl) ⟨_, fun w9 => by (go_simp; try rfl), ?_⟩
  simp only [Act.put, List.setIfInBounds_toArray, List.set_cons_zero, List.set_cons_succ]
  refine ord_go rfl (fun K9 hK => ?_)
  go_simp
  go_wp2_with fail
  refine (aKey_any W u _ b HC.out.len HN.out.2 HC1.out.row).mono ?_
  rintro e w2 ⟨rfl, hB⟩
  have HM2 := hide (HM1.out.below hB)
  have HC2 := hide (HC.out.below HM2.out.be)
  clear hB
  dsimp only
  rw [HE.out.2.2.2.1]
  refine hK.out _ _ (fun _ => ⟨HM2.out.s, HC2.out.ptr⟩) ?_
  clear hK K9
  refine ord_go rfl (fun K9 hK => ?_)
  go_simp
  go_wp2_with fail
  refine (sqComb_any s K _ HL.out.1 HL.out.2.2.2.2.1).mono ?_
  rintro e w3 ⟨rfl, hB⟩
  have HM3 := hide (HM2.out.below hB)
  have HC3 := hide (HC.out.below HM3.out.be)
  clear hB
  dsimp only
  rw [HE.out.1]
  refine hK.out _ _ (fun _ => ⟨HM3.out.s, HC3.out.ptr⟩) ?_
  clear hK K9
  refine ord_storeR (o := ⟨none, _, _, _, _, _⟩) rfl rfl rfl 67 (.tmp 4) (.tmp 13) rfl rfl (vs := bs X1) rfl HM3.out.s (by rw [bs_length, bs_length, HL.out.2.1, HL.out.1]) (by rw [bs_length, HL.out.2.1]; kernel_rfl) (fun v hv => bs_one hv) (fun h => by cases h) ?_
  refine ord_end ?_
  have HM4 := hide (HM3.out.put X1 HL.out.1 HL.out.2.1)
  clear HM1 HM2 HM3 HC1 HC2 HC3
  obtain ⟨W4, hW4⟩ : ∃ x, w3.setCells w.heap.size 0 (bs X1) = x := ⟨_, rfl⟩
  rw [hW4] at HM4 ⊢
  clear hW4
  by_cases c : u < 14
  · have c' : (u : Int) < 14 := by omega
    have e2 : mixS fD X1 = X2 := by have := HE.out.2.1; rwa [if_pos c] at this
    have H3 := hide e2
    clear e2
    go_wp2_with (first | (refine wpList_loadR (op := ⟨some 16, _, _, _, _, _⟩) rfl 67 (.tmp 4) rfl rfl _ HM4.out.s Try.underlying67 rfl (by rw [bs_length, HL.out.2.1]; kernel_rfl) ?_) | (refine wpList_buildL (op := ⟨some 17, _, _, _, _, _⟩) rfl 59 _ rfl (bs fD) (by kernel_rfl) ?_))
    refine (sqMix_any X1 fD _ HL.out.2.1 rfl).mono ?_
    rintro e w4 ⟨rfl, hB⟩
    rw [H3.out]
    have HM9 := hide (HM4.out.below hB)
    clear hB HM4
    go_wp2_with (refine wpList_storeR (op := ⟨none, _, _, _, _, _⟩) rfl 67 (.tmp 4) (.tmp 18) rfl rfl (vs := bs X2) rfl HM9.out.s (by rw [bs_length, bs_length, HL.out.2.2.1, HL.out.2.1]) (by rw [bs_length, HL.out.2.2.1]; kernel_rfl) (fun v hv => bs_one hv) ?_)
    have HM5 := hide (HM9.out.put X2 HL.out.2.1 HL.out.2.2.1)
    obtain ⟨W5, hW5⟩ : ∃ x, w4.setCells w.heap.size 0 (bs X2) = x := ⟨_, rfl⟩
    rw [hW5] at HM5 ⊢
    clear hW5 HM9 c'
    have HM6 := hide HM5.out.drew
    have HC6 := hide (HC.out.below HM6.out.be)
    clear HM5
    refine wp_region_ord (fun w9 => Row w9 w.heap.size 0 (bs X2) ∧ w9.cell? ⟨bp, 0, none⟩ = some (.pointer (some ⟨b, 0, none⟩))) 6 [(0, some false), (2, some false), (3, some true), (4, some true), (1, none), (5, none), (6, none)] (by kernel_rfl) (by kernel_rfl) (fun _ _ _ _ h => h) ⟨HM6.out.s, HC6.out.ptr⟩ ?_
    refine ord_load (o := ⟨some 19, _, _, _, _, _⟩) 67 (.tmp 4) rfl rfl (by kernel_rfl) rfl _ (fun w9 h9 => h9.1.cell) Try.underlying67 rfl (by rw [bs_length, HL.out.2.2.1]; kernel_rfl) ?_
    simp only [Act.put, List.setIfInBounds_toArray, List.set_cons_zero, List.set_cons_succ]
    refine ord_heldE (o := ⟨some 21, _, _, _, _, _⟩) rfl (by kernel_rfl) ⟨_, fun w9 h9 => by (obtain ⟨q1, q2⟩ := h9; go_simp; try rfl), ?_⟩
    simp only [Act.put, List.setIfInBounds_toArray, List.set_cons_zero, List.set_cons_succ]
    refine ord_pureE (o := ⟨some 22, _, _, _, _, _⟩) rfl (by kernel_rfl) ⟨_, fun w9 => by (go_simp; try rfl), ?_⟩
    simp only [Act.put, List.setIfInBounds_toArray, List.set_cons_zero, List.set_cons_succ]
    refine ord_pureE (o := ⟨some 23, _, _, _, _, _⟩) rfl (by kernel_rfl) ⟨_, fun w9 => by (go_simp; try rfl), ?_⟩
    simp only [Act.put, List.setIfInBounds_toArray, List.set_cons_zero, List.set_cons_succ]
    refine ord_go rfl (fun K9 hK => ?_)
    go_simp
    go_wp2_with fail
    refine (sqShift_3 X2 _ HL.out.2.2.1).mono ?_
    rintro e w7 ⟨rfl, hB⟩
    have HM7 := hide (HM6.out.below hB)
    have HC7 := hide (HC.out.below HM7.out.be)
    clear hB
    dsimp only
    rw [HE.out.2.2.1]
    refine hK.out _ _ (fun _ => ⟨HM7.out.s, HC7.out.ptr⟩) ?_
    clear hK K9
    refine ord_go rfl (fun K9 hK => ?_)
    go_simp
    go_wp2_with fail
    refine (sqRepl_any OB X3 _ b 256 HL.out.2.2.2.1 OB_length (ciB_ob HC7.out.row)).mono ?_
    rintro e w8 ⟨rfl, hB⟩
    have HM8 := hide (HM7.out.below hB)
    have HC8 := hide (HC.out.below HM8.out.be)
    clear hB
    dsimp only
    rw [HE.out.2.2.2.2]
    refine hK.out _ _ (fun _ => ⟨HM8.out.s, HC8.out.ptr⟩) ?_
    clear hK K9
    refine ord_storeR (o := ⟨none, _, _, _, _, _⟩) rfl rfl rfl 67 (.tmp 5) (.tmp 24) rfl rfl (vs := bs R) rfl HM8.out.z (by rw [bs_length, bs_length, HL.out.2.2.2.2.2, zr_length]) (by rw [bs_length, HL.out.2.2.2.2.2]; kernel_rfl) (fun v hv => bs_one hv) (fun h => by cases h) ?_
    refine ord_end ?_
    clear HM6 HM7 HC6 HC7 HC8
    go_wp2_with fail
    exact post_row (cs := bs R) _ (HM8.out.z.put (bs R) (by rw [bs_length, bs_length, HL.out.2.2.2.2.2, zr_length])) rfl rfl Try.underlying67 rfl (by rw [bs_length, HL.out.2.2.2.2.2]; kernel_rfl) rfl ⟨rfl, HM8.out.be.trans (below_setCells (by omega) _ _ _)⟩
  · have c' : ¬ ((u : Int) < 14) := by omega
    have e2 : X1 = X2 := by have := HE.out.2.1; rwa [if_neg c] at this
    rw [e2] at HM4
    have HM5 := hide HM4.out
    clear HM4 e2
    go_wp2_with fail
    clear c'
    have HM6 := hide HM5.out.drew
    have HC6 := hide (HC.out.below HM6.out.be)
    clear HM5
    refine wp_region_ord (fun w9 => Row w9 w.heap.size 0 (bs X2) ∧ w9.cell? ⟨bp, 0, none⟩ = some (.pointer (some ⟨b, 0, none⟩))) 6 [(0, some false), (2, some false), (3, some true), (4, some true), (1, none), (5, none), (6, none)] (by kernel_rfl) (by kernel_rfl) (fun _ _ _ _ h => h) ⟨HM6.out.s, HC6.out.ptr⟩ ?_
    refine ord_load (o := ⟨some 19, _, _, _, _, _⟩) 67 (.tmp 4) rfl rfl (by kernel_rfl) rfl _ (fun w9 h9 => h9.1.cell) Try.underlying67 rfl (by rw [bs_length, HL.out.2.2.1]; kernel_rfl) ?_
    simp only [Act.put, List.setIfInBounds_toArray, List.set_cons_zero, List.set_cons_succ]
    refine ord_heldE (o := ⟨some 21, _, _, _, _, _⟩) rfl (by kernel_rfl) ⟨_, fun w9 h9 => by (obtain ⟨q1, q2⟩ := h9; go_simp; try rfl), ?_⟩
    simp only [Act.put, List.setIfInBounds_toArray, List.set_cons_zero, List.set_cons_succ]
    refine ord_pureE (o := ⟨some 22, _, _, _, _, _⟩) rfl (by kernel_rfl) ⟨_, fun w9 => by (go_simp; try rfl), ?_⟩
    simp only [Act.put, List.setIfInBounds_toArray, List.set_cons_zero, List.set_cons_succ]
    refine ord_pureE (o := ⟨some 23, _, _, _, _, _⟩) rfl (by kernel_rfl) ⟨_, fun w9 => by (go_simp; try rfl), ?_⟩
    simp only [Act.put, List.setIfInBounds_toArray, List.set_cons_zero, List.set_cons_succ]
    refine ord_go rfl (fun K9 hK => ?_)
    go_simp
    go_wp2_with fail
    refine (sqShift_3 X2 _ HL.out.2.2.1).mono ?_
    rintro e w7 ⟨rfl, hB⟩
    have HM7 := hide (HM6.out.below hB)
    have HC7 := hide (HC.out.below HM7.out.be)
    clear hB
    dsimp only
    rw [HE.out.2.2.1]
    refine hK.out _ _ (fun _ => ⟨HM7.out.s, HC7.out.ptr⟩) ?_
    clear hK K9
    refine ord_go rfl (fun K9 hK => ?_)
    go_simp
    go_wp2_with fail
    refine (sqRepl_any OB X3 _ b 256 HL.out.2.2.2.1 OB_length (ciB_ob HC7.out.row)).mono ?_
    rintro e w8 ⟨rfl, hB⟩
    have HM8 := hide (HM7.out.below hB)
    have HC8 := hide (HC.out.below HM8.out.be)
    clear hB
    dsimp only
    rw [HE.out.2.2.2.2]
    refine hK.out _ _ (fun _ => ⟨HM8.out.s, HC8.out.ptr⟩) ?_
    clear hK K9
    refine ord_storeR (o := ⟨none, _, _, _, _, _⟩) rfl rfl rfl 67 (.tmp 5) (.tmp 24) rfl rfl (vs := bs R) rfl HM8.out.z (by rw [bs_length, bs_length, HL.out.2.2.2.2.2, zr_length]) (by rw [bs_length, HL.out.2.2.2.2.2]; kernel_rfl) (fun v hv => bs_one hv) (fun h => by cases h) ?_
    refine ord_end ?_
    clear HM6 HM7 HC6 HC7 HC8
    go_wp2_with fail
    exact post_row (cs := bs R) _ (HM8.out.z.put (bs R) (by rw [bs_length, bs_length, HL.out.2.2.2.2.2, zr_length])) rfl rfl Try.underlying67 rfl (by rw [bs_length, HL.out.2.2.2.2.2]; kernel_rfl) rfl ⟨rfl, HM8.out.be.trans (below_setCells (by omega) _ _ _)⟩
end Go.Proofs.Ytknjmmbebkcnpaa

/- Through all rounds, walked. For any cipher that lies in memory, and any block: the call returns what ATab says, and leaves what was there. -/
namespace Go.Proofs.Ytknjmmbebkcnpaa
open Go.RowKit Bk
set_option linter.unusedVariables false
set_option linter.unusedSimpArgs false

set_option maxRecDepth 100000 in
set_option maxHeartbeats 8000000 in
theorem through_dN (W s : List UInt8) (w : World) (bp b : Nat) (hs : s.length = 16) (hC : Cw w bp b W) :
    Calls Try.prog 38 #[.agg (bs s).toArray, .func (.func 40) #[] #[.pointer (some ⟨bp, 0, none⟩)]] w fun e w' => e = .returned (.agg (bs (dN W s 14)).toArray) ∧ Below w.heap.size w w' := by
  have HX := hide hs
  have HC := hide hC
  have HM0 := hide (Rn.start w s)
  clear hs hC
  go_enter Try.func38, Try.ntmps38
  go_wp2_with fail
  go_loopg [5] 15 (fun g q wr => ∃ k : Nat, k + 1 + g = 16 ∧ q = .int .i64 ((k + 1 : Nat) : Int) ∧ k ≤ 14 ∧ Rn w wr (dN W s k))
  case atStart => exact ⟨0, rfl, rfl, by decide, HM0.out⟩
  case round =>
    clear HM0
    obtain ⟨wo, hwo⟩ : ∃ z, z = wr := ⟨_, rfl⟩
    subst hwo
    obtain ⟨k, hkg, rfl, hk14, hM⟩ := hrel
    by_cases hlt : k < 14
    · have hlt' : ((k + 1 : Nat) : Int) ≤ 14 := by omega
      obtain ⟨g3, rfl⟩ : ∃ g3, gk = g3 + 1 := ⟨gk - 1, by omega⟩
      obtain ⟨j, hj⟩ : ∃ j, k + 1 = j := ⟨_, rfl⟩
      obtain ⟨X, eX⟩ : ∃ x, dN W s k = x := ⟨_, rfl⟩
      have lX : X.length = 16 := eX ▸ dN_length HX.out k
      obtain ⟨Y, eY⟩ : ∃ x, dN W s (k + 1) = x := ⟨_, rfl⟩
      have lY : Y.length = 16 := eY ▸ dN_length HX.out (k + 1)
      have hst : dR W j X = Y := by rw [← eY, ← eX, ← hj]; rfl
      rw [hj] at hlt' eY ⊢
      rw [eX] at hM
      have HM := hide hM
      have HL := hide (And.intro lX lY)
      have HS := hide (And.intro hst (And.intro eY (show 1 ≤ j ∧ j ≤ 14 by omega)))
      have HJ := hide hj
      clear hM lX lY hst eX eY hj
      go_wp2_with (refine wpList_loadR (op := ⟨some 12, _, _, _, _, _⟩) rfl 67 (.tmp 2) rfl rfl _ HM.out.s Try.underlying67 rfl (by rw [bs_length, HL.out.1]; kernel_rfl) ?_)
      refine (decRound_any W X j _ bp b HS.out.2.2.1 HS.out.2.2.2 HL.out.1 (HC.out.below HM.out.be)).mono ?_
      rintro e w2 ⟨rfl, hB⟩
      rw [HS.out.1]
      have HM2 := hide (HM.out.below hB)
      clear hB HM
      go_wp2_with (refine wpList_storeR (op := ⟨none, _, _, _, _, _⟩) rfl 67 (.tmp 2) (.tmp 13) rfl rfl (vs := bs Y) rfl HM2.out.s (by rw [bs_length, bs_length, HL.out.2, HL.out.1]) (by rw [bs_length, HL.out.2]; kernel_rfl) (fun v hv => bs_one hv) ?_)
      have HM3 := hide (HM2.out.put Y HL.out.1 HL.out.2)
      obtain ⟨W5, hW5⟩ : ∃ x, w2.setCells w.heap.size 0 (bs Y) = x := ⟨_, rfl⟩
      rw [hW5] at HM3 ⊢
      clear hW5 HM2
      go_wp2_with fail
      go_roundg g3
      case measure => omega
      case rel => exact ⟨j, by have := HJ.out; omega, by go_num, HS.out.2.2.2, by rw [HS.out.2.1]; exact HM3.out⟩
    · obtain rfl : k = 14 := by omega
      have H0 := hide hM
      have HX2 := hide (show (dN W s 14).length = 16 from dN_length HX.out 14)
      clear hM
      go_wp2_with (first | (refine wpList_loadR (op := ⟨some 14, _, _, _, _, _⟩) rfl 67 (.tmp 2) rfl rfl _ H0.out.s Try.underlying67 rfl (by rw [bs_length, HX2.out]; kernel_rfl) ?_) | (refine wpList_storeR (op := ⟨none, _, _, _, _, _⟩) rfl 67 (.tmp 4) (.tmp 14) rfl rfl (vs := bs (dN W s 14)) rfl H0.out.z (by rw [bs_length, bs_length, HX2.out, zr_length]) (by rw [bs_length, HX2.out]; kernel_rfl) (fun v hv => bs_one hv) ?_))
      exact post_row (cs := bs (dN W s 14)) _ ((H0.out.z).put (bs (dN W s 14)) (by rw [bs_length, bs_length, HX2.out, zr_length])) rfl rfl Try.underlying67 rfl (by rw [bs_length, HX2.out]; kernel_rfl) rfl ⟨rfl, H0.out.be.trans (below_setCells (by omega) _ _ _)⟩
end Go.Proofs.Ytknjmmbebkcnpaa

/- A block deciphered, walked. For any cipher that lies in memory, any text: of 16 bytes the call returns what ATab says, of another length, or of no cipher, nothing and an error; what was there is left. -/
namespace Go.Proofs.Ytknjmmbebkcnpaa
open Go.RowKit Bk
set_option linter.unusedVariables false
set_option linter.unusedSimpArgs false

set_option maxRecDepth 100000 in
set_option maxHeartbeats 8000000 in
theorem aDec_nil (x : ByteArray) (w : World) : Calls Try.prog 17 #[.pointer none, .string x] w fun e w' => e = .returned (.tuple #[.string ⟨#[]⟩, .int .i64 2]) ∧ Below w.heap.size w w' := by
  go_enter Try.func17, Try.ntmps17
  go_wp2_with fail
  refine (takes_nil x _).mono ?_
  rintro e w1 ⟨rfl, hw⟩
  obtain rfl := hw.symm
  go_wp2_with fail
  exact bodyPost_ret (v := .tuple #[.string ⟨#[]⟩, .int .i64 2]) (by simp [results, Try.results17, go_sem]) rfl ⟨rfl, (Below.refl _ w).alloc (Nat.le_refl _) _⟩

set_option maxRecDepth 100000 in
set_option maxHeartbeats 8000000 in
theorem aDec_bad (x : ByteArray) (b : Nat) (w : World) (hx : x.size ≠ 16) : Calls Try.prog 17 #[.pointer (some ⟨b, 0, none⟩), .string x] w fun e w' => e = .returned (.tuple #[.string ⟨#[]⟩, .int .i64 1]) ∧ Below w.heap.size w w' := by
  go_enter Try.func17, Try.ntmps17
  go_wp2_with fail
  refine (takes_bad _ x _ hx).mono ?_
  rintro e w1 ⟨rfl, hw⟩
  obtain rfl := hw.symm
  go_wp2_with fail
  exact bodyPost_ret (v := .tuple #[.string ⟨#[]⟩, .int .i64 1]) (by simp [results, Try.results17, go_sem]) rfl ⟨rfl, (Below.refl _ w).alloc (Nat.le_refl _) _⟩

set_option maxRecDepth 100000 in
set_option maxHeartbeats 8000000 in
theorem aDec_any (x : ByteArray) (W : List UInt8) (w : World) (b : Nat) (hx : x.size = 16) (hW : W.length = 240) (hR : Row w b 0 (bs (ciB W))) :
    Calls Try.prog 17 #[.pointer (some ⟨b, 0, none⟩), .string x] w fun e w' => e = .returned (.tuple #[.string ⟨(dec W (sb x)).toArray⟩, .int .i64 0]) ∧ Below w.heap.size w w' := by
  obtain ⟨s, es⟩ : ∃ s, sb x = s := ⟨_, rfl⟩
  have ls : s.length = 16 := by rw [← es, sb_length, hx]
  obtain ⟨K, eK⟩ : ∃ k, kR W 0 = k := ⟨_, rfl⟩
  have lK : K.length = 16 := eK ▸ kR_length (by omega)
  obtain ⟨X, eX⟩ : ∃ k, dN W s 14 = k := ⟨_, rfl⟩
  have lX : X.length = 16 := eX ▸ dN_length ls 14
  obtain ⟨Y, eY⟩ : ∃ k, comb X K = k := ⟨_, rfl⟩
  have lY : Y.length = 16 := eY ▸ comb_length lX lK
  have hres : dec W (sb x) = Y := by unfold dec; rw [es, eK, eX, eY]
  rw [hres]
  have HE := hide (And.intro es (And.intro eK (And.intro eX eY)))
  have HL := hide (And.intro ls (And.intro lK (And.intro lX lY)))
  clear es eK eX eY ls lK lX lY hres
  obtain ⟨W1, hW1, hC, hB1⟩ : ∃ W1, w.alloc (.cells #[.pointer (some ⟨b, 0, none⟩)] 29) = W1 ∧ Cw W1 w.heap.size b W ∧ Below w.heap.size w W1 :=
    ⟨_, rfl, ⟨(Row.new w #[.pointer (some ⟨b, 0, none⟩)] 29).at' (j := 0) rfl, by simp, hR.alloc _, hW⟩, (Below.refl _ w).alloc (Nat.le_refl _) _⟩
  have HC := hide hC
  have HB1 := hide hB1
  have hp := hC.ptr
  clear hC hB1 hR hW
  go_enter Try.func17, Try.ntmps17
  go_wp2_with fail
  refine (takes_ok _ x _ hx).mono ?_
  rintro e w1 ⟨rfl, hw⟩
  obtain rfl := hw.symm
  go_wp2_with fail
  clear hW1 hp
  refine (squareOf_any x _ hx).mono ?_
  rintro e w2 ⟨rfl, hB⟩
  rw [HE.out.1]
  have HB2 := hide hB
  clear hB
  go_wp2_with fail
  refine (through_dN W s _ w.heap.size b HL.out.1 (HC.out.below HB2.out)).mono ?_
  rintro e w3 ⟨rfl, hB⟩
  rw [HE.out.2.2.1]
  have HB3 := hide (HB2.out.trans (hB.mono HB2.out.size))
  have HZ := hide (Row.newL w3 (bs (zr 16)) 67)
  obtain ⟨W4, hW4, m1, m2⟩ : ∃ V, (w3.alloc (.cells #[.int .u8 0, .int .u8 0, .int .u8 0, .int .u8 0, .int .u8 0, .int .u8 0, .int .u8 0, .int .u8 0, .int .u8 0, .int .u8 0, .int .u8 0, .int .u8 0, .int .u8 0, .int .u8 0, .int .u8 0, .int .u8 0] 67)).setCells w3.heap.size 0 (bs X) = V ∧ Row V w3.heap.size 0 (bs X) ∧ Below W1.heap.size W1 V :=
    ⟨_, rfl, Row.made w3 (bs (zr 16)) _ _ (by rw [bs_length, bs_length, HL.out.2.2.1, zr_length]), below_made HB3.out HB3.out.size _ _ _⟩
  have HM := hide (And.intro m1.drew m2.drew)
  clear hB m1 m2 HB2
  go_wp2_with (refine wpList_storeR (op := ⟨none, _, _, _, _, _⟩) rfl 67 (.tmp 7) (.tmp 17) rfl rfl (vs := bs X) rfl HZ.out (by rw [bs_length, bs_length, HL.out.2.2.1, zr_length]) (by rw [bs_length, HL.out.2.2.1]; kernel_rfl) (fun v hv => bs_one hv) ?_; rw [hW4])
  clear hW4 HZ
  refine wp_region_ord (fun w9 => Row w9 w3.heap.size 0 (bs X) ∧ w9.cell? ⟨w.heap.size, 0, none⟩ = some (.pointer (some ⟨b, 0, none⟩))) 5 [(0, some false), (1, some false), (2, none), (3, none), (4, none), (5, none), (6, none)] (by kernel_rfl) (by kernel_rfl) (fun _ _ _ _ h => h) ⟨HM.out.1, (HC.out.below HM.out.2).ptr⟩ ?_
  refine ord_load (o := ⟨some 18, _, _, _, _, _⟩) 67 (.tmp 7) rfl rfl (by kernel_rfl) rfl _ (fun w9 h9 => h9.1.cell) Try.underlying67 rfl (by rw [bs_length, HL.out.2.2.1]; kernel_rfl) ?_
  simp only [Act.put, List.setIfInBounds_toArray, List.set_cons_zero, List.set_cons_succ]
  refine ord_heldE (o := ⟨some 19, _, _, _, _, _⟩) rfl (by kernel_rfl) ⟨_, fun w9 h9 => by (obtain ⟨q1, q2⟩ := h9; go_simp; try rfl), ?_⟩
  simp only [Act.put, List.setIfInBounds_toArray, List.set_cons_zero, List.set_cons_succ]
  refine ord_go rfl (fun K9 hK => ?_)
  go_simp
  go_wp2_with fail
  refine (aKey_any W 0 _ b HC.out.len (by decide) (HC.out.below HM.out.2).row).mono ?_
  rintro e w5 ⟨rfl, hB⟩
  rw [HE.out.2.1]
  have HM5 := hide (show Row w5 w3.heap.size 0 (bs X) ∧ Below W1.heap.size W1 w5 from ⟨HM.out.1.below hB HM.out.1.lt, HM.out.2.trans (hB.mono HM.out.2.size)⟩)
  clear hB
  dsimp only
  refine hK.out _ _ (fun _ => ⟨HM5.out.1, (HC.out.below HM5.out.2).ptr⟩) ?_
  clear hK K9
  refine ord_go rfl (fun K9 hK => ?_)
  go_simp
  go_wp2_with fail
  refine (sqComb_any X K _ HL.out.2.2.1 HL.out.2.1).mono ?_
  rintro e w6 ⟨rfl, hB⟩
  rw [HE.out.2.2.2]
  have HM6 := hide (show Row w6 w3.heap.size 0 (bs X) ∧ Below W1.heap.size W1 w6 from ⟨HM5.out.1.below hB HM5.out.1.lt, HM5.out.2.trans (hB.mono HM5.out.2.size)⟩)
  clear hB
  dsimp only
  refine hK.out _ _ (fun _ => ⟨HM6.out.1, (HC.out.below HM6.out.2).ptr⟩) ?_
  clear hK K9
  refine ord_go rfl (fun K9 hK => ?_)
  go_simp
  go_wp2_with fail
  refine (sqText_any Y _ HL.out.2.2.2).mono ?_
  rintro e w7 ⟨rfl, hB⟩
  skip
  have HM7 := hide (show Row w7 w3.heap.size 0 (bs X) ∧ Below W1.heap.size W1 w7 from ⟨HM6.out.1.below hB HM6.out.1.lt, HM6.out.2.trans (hB.mono HM6.out.2.size)⟩)
  clear hB
  dsimp only
  refine hK.out _ _ (fun _ => ⟨HM7.out.1, (HC.out.below HM7.out.2).ptr⟩) ?_
  clear hK K9
  refine ord_go rfl (fun K9 hK => ?_)
  go_simp
  skip
  refine hK.out _ _ (fun h => by cases h) ?_
  clear hK K9
  refine ord_go rfl (fun K9 hK => ?_)
  go_simp
  skip
  refine hK.out _ _ (fun h => by cases h) ?_
  clear hK K9
  refine ord_end ?_
  have HB5 := hide (HB1.out.trans (HM7.out.2.mono HB1.out.size))
  go_wp2_with fail
  exact bodyPost_ret (v := .tuple #[.string ⟨Y.toArray⟩, .int .i64 0]) (by simp [results, Try.results17, go_sem]) rfl ⟨rfl, HB5.out⟩
end Go.Proofs.Ytknjmmbebkcnpaa

/- What each statement on ciphers asks first: the examples, walked. -/
namespace Go.Proofs.Ytknjmmbebkcnpaa
open Go.RowKit Bk
set_option linter.unusedVariables false
set_option linter.unusedSimpArgs false

/-- A row of bytes as a text. -/
def rwt (n : Nat) (c : UInt8) : ByteArray := ⟨(rwl n c).toArray⟩
theorem rwt_size (n : Nat) (c : UInt8) : (rwt n c).size = n := by rw [← sb_length]; exact rwl_length n c
theorem rwt_sb (n : Nat) (c : UInt8) : sb (rwt n c) = rwl n c := rfl
/-- A cipher of key K's words in block b, in a world behind w. -/
def kw (K : ByteArray) : List UInt8 := spr SB (sb K) 60
theorem kw_length {K : ByteArray} (h : K.size = 32) : (kw K).length = 240 := spr_length SB (sb K) (by rw [sb_length, h]) 60
structure Ck (w w' : World) (b : Nat) (K : ByteArray) : Prop where
  row : Row w' b 0 (bs (ciB (kw K)))
  be : Below w.heap.size w w'
theorem Ck.below {w w' w2 : World} {b : Nat} {K : ByteArray} (h : Ck w w' b K) (k : Below w'.heap.size w' w2) : Ck w w2 b K := ⟨h.row.below k h.row.lt, h.be.trans (k.mono h.be.size)⟩
/-- Enciphered, deciphered: as texts. -/
def et (K x : ByteArray) : ByteArray := ⟨(enc (kw K) (sb x)).toArray⟩
def dt (K x : ByteArray) : ByteArray := ⟨(dec (kw K) (sb x)).toArray⟩
theorem et_sb (K x : ByteArray) : sb (et K x) = enc (kw K) (sb x) := by unfold et; exact sb_mk _
theorem dt_sb (K x : ByteArray) : sb (dt K x) = dec (kw K) (sb x) := by unfold dt; exact sb_mk _
theorem et_size {K x : ByteArray} (h : K.size = 32) (hx : x.size = 16) : (et K x).size = 16 := by rw [← sb_length, et_sb]; exact enc_length (kw_length h) (by rw [sb_length, hx])
theorem dt_size {K x : ByteArray} (h : K.size = 32) (hx : x.size = 16) : (dt K x).size = 16 := by rw [← sb_length, dt_sb]; exact dec_length (kw_length h) (by rw [sb_length, hx])
theorem dt_et {K x : ByteArray} (h : K.size = 32) (hx : x.size = 16) : dt K (et K x) = x := sb_inj (by rw [dt_sb, et_sb]; exact dec_enc (kw_length h) (by rw [sb_length, hx]))
theorem et_dt {K x : ByteArray} (h : K.size = 32) (hx : x.size = 16) : et K (dt K x) = x := sb_inj (by rw [et_sb, dt_sb]; exact enc_dec (kw_length h) (by rw [sb_length, hx]))
theorem et_inj {K x y : ByteArray} (h : K.size = 32) (hx : x.size = 16) (hy : y.size = 16) : et K x = et K y ↔ x = y := ⟨fun e => by rw [← dt_et h hx, e, dt_et h hy], fun e => by rw [e]⟩
theorem dt_inj {K x y : ByteArray} (h : K.size = 32) (hx : x.size = 16) (hy : y.size = 16) : dt K x = dt K y ↔ x = y := ⟨fun e => by rw [← et_dt h hx, e, et_dt h hy], fun e => by rw [e]⟩
/-- The calls, as the statements meet them. -/
theorem new_c (K : ByteArray) (w : World) (hk : K.size = 32) : Calls Try.prog 16 #[.string K] w fun e w' => ∃ b, e = .returned (.tuple #[.pointer (some ⟨b, 0, none⟩), .int .i64 0]) ∧ Row w' b 0 (bs (ciB (kw K))) ∧ w.heap.size ≤ b ∧ Below w.heap.size w w' := by
  refine (aNew_any K w hk).mono ?_
  rintro e w' ⟨b, rfl, h1, h2, h3⟩
  exact ⟨b, rfl, h2, h1, h3⟩
theorem enc_c (K x : ByteArray) (w : World) (b : Nat) (hk : K.size = 32) (hx : x.size = 16) (hR : Row w b 0 (bs (ciB (kw K)))) : Calls Try.prog 18 #[.pointer (some ⟨b, 0, none⟩), .string x] w fun e w' => e = .returned (.tuple #[.string (et K x), .int .i64 0]) ∧ Below w.heap.size w w' := aEnc_any x (kw K) w b hx (kw_length hk) hR
theorem dec_c (K x : ByteArray) (w : World) (b : Nat) (hk : K.size = 32) (hx : x.size = 16) (hR : Row w b 0 (bs (ciB (kw K)))) : Calls Try.prog 17 #[.pointer (some ⟨b, 0, none⟩), .string x] w fun e w' => e = .returned (.tuple #[.string (dt K x), .int .i64 0]) ∧ Below w.heap.size w w' := aDec_any x (kw K) w b hx (kw_length hk) hR
end Go.Proofs.Ytknjmmbebkcnpaa
