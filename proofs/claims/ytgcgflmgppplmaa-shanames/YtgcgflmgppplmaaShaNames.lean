/- The closed statement ShaNames returns true. No condition. -/
import Derived.Test.YtgcgflmgppplmaaSArgs
namespace Go.Proofs.Ytgcgflmgppplmaa
open Go.ChangeShapes Go.WideShapes Go.ChangeAt Go.RowKit Bk
open Go.ChangeMaps (open_string shut_string)
set_option linter.unusedVariables false
set_option linter.unusedSimpArgs false

theorem rep_snoc (n : Nat) (c : UInt8) : List.replicate n c ++ [c] = List.replicate (n + 1) c := (List.replicate_succ' ..).symm
theorem shm_none_noughts : shm (ByteArray.mk (List.replicate 64 (0 : UInt8)).toArray) ⟨#[97]⟩ = shm ⟨#[]⟩ ⟨#[97]⟩ := by
  unfold shm shmac
  have e : ∀ c, scmb (skey (sb (ByteArray.mk (List.replicate 64 (0 : UInt8)).toArray))) c = scmb (skey (sb ⟨#[]⟩)) c := fun c => by
    have l : (sb (ByteArray.mk (List.replicate 64 (0 : UInt8)).toArray)).length = 64 := by rw [sb_mk, List.length_replicate]
    unfold skey
    rw [if_neg (by rw [l]; decide), if_neg (by decide)]
    unfold scmb
    rw [l, sb_mk]
    rfl
  rw [e, e]
theorem shm_long' (key s : ByteArray) (h : 64 < key.size) : shm (sdg (sb key)) s = shm key s := by
  unfold shm shmac
  have e : skey (sb (sdg (sb key))) = skey (sb key) := by
    unfold skey
    rw [sb_sdg, if_neg (by rw [ssum_length]; decide), if_pos (by rw [sb_length]; exact h)]
  rw [e]

set_option maxRecDepth 100000 in
set_option maxHeartbeats 16000000 in
theorem shaNames_any (w : World) : Calls Try.prog 3 #[] w fun e w' => e = .returned (.bool true) ∧ Below w.heap.size w w' := by
  obtain ⟨E0, c0⟩ : ∃ S, sdg [] = S := ⟨_, rfl⟩
  obtain ⟨A1, c1⟩ : ∃ S, ByteArray.mk (List.replicate 1000 (97 : UInt8)).toArray = S := ⟨_, rfl⟩
  obtain ⟨A2, c2⟩ : ∃ S, sdg (sb A1) = S := ⟨_, rfl⟩
  have b1 := fun w => ex4_begins A2 w (by rw [← c2, ← c1]; rfl)
  have z1 : A1.size = 1000 := by rw [← c1, ← sb_length, sb_mk, List.length_replicate]
  have i0 : sdg (sb ⟨#[]⟩) = E0 := c0
  have C0 := hide c0
  have I0 := hide i0
  have C1 := hide c1
  have C2 := hide c2
  have D1 := hide b1
  have Z1 := hide z1
  clear c0 c1 c2 b1 z1 i0
  go_enter Try.func3, Try.ntmps3
  have HB0 := hide (Below.refl w.heap.size w)
  go_wp2_with fail
  refine (works_any _).mono ?_
  rintro e w1 ⟨rfl, hw1⟩
  have HBw1 := hide (HB0.out.trans (hw1.mono HB0.out.size))
  clear hw1 HB0
  go_wp2_with fail
  refine (sadd_nil _ _).mono ?_
  rintro e w2 ⟨rfl, hqw2⟩
  obtain rfl := hqw2.symm
  go_wp2_with fail
  refine (scopy_nil _).mono ?_
  rintro e w3 ⟨rfl, hqw3⟩
  obtain rfl := hqw3.symm
  go_wp2_with fail
  refine (shsum_nil _).mono ?_
  rintro e u1 ⟨rfl, hu1⟩
  rw [C0.out]
  have HBu1 := hide (HBw1.out.trans (hu1.mono HBw1.out.size))
  clear hu1 HBw1
  go_wp2_with fail
  refine (ssum_any ⟨#[]⟩ _ (by decide)).mono ?_
  rintro e u2 ⟨rfl, hu2⟩
  rw [I0.out]
  have HBu2 := hide (HBu1.out.trans (hu2.mono HBu1.out.size))
  clear hu2 HBu1
  go_wp2_with fail
  refine (many_any 1000 97 _ (by decide)).mono ?_
  rintro e u3 ⟨rfl, hu3⟩
  rw [C1.out]
  have HBu3 := hide (HBu2.out.trans (hu3.mono HBu2.out.size))
  clear hu3 HBu2
  go_wp2_with fail
  refine (ssum_any A1 _ (by rw [Z1.out]; decide)).mono ?_
  rintro e u4 ⟨rfl, hu4⟩
  rw [C2.out]
  have HBu4 := hide (HBu3.out.trans (hu4.mono HBu3.out.size))
  clear hu4 HBu3
  go_wp2_with fail
  refine (D1.out _).mono ?_
  rintro e u5 ⟨rfl, hu5⟩
  have HBu5 := hide (HBu4.out.trans (hu5.mono HBu4.out.size))
  clear hu5 HBu4
  go_wp2_with fail
  go_loopg [2, 3, 4] 20 (fun g q _ _ wr => ∃ n : Nat, n + g = 70 ∧ 50 ≤ n ∧ q = .int .i64 n ∧ Below w.heap.size w wr)
  case atStart => exact ⟨50, rfl, Nat.le_refl _, rfl, HBu5.out⟩
  case round =>
    clear HBu5
    obtain ⟨n, hng, hn50, rfl, hB⟩ := hrel
    have HB0 := hide hB
    clear hB
    by_cases hlt : n < 70
    · have hlt' : (n : Int) < 70 := by omega
      obtain ⟨g3, rfl⟩ : ∃ g3, gk = g3 + 1 := ⟨gk - 1, by omega⟩
      go_wp2_with fail
      refine (snew_any _).mono ?_
      rintro e v1 ⟨bh, rfl, hbv1, hHv1, hv1⟩
      have Lh := hide (Nat.le_trans HB0.out.size hbv1)
      have Kv1 := hide hHv1
      clear hbv1 hHv1
      have HBv1 := hide (HB0.out.trans (hv1.mono HB0.out.size))
      clear hv1 HB0
      go_wp2_with fail
      go_loopg [4] n (fun g q wr => ∃ k : Nat, k + g = n ∧ q = .int .i64 k ∧ Ss wr bh (List.replicate k 113) ∧ Below w.heap.size w wr)
      case atStart => exact ⟨0, by omega, rfl, Kv1.out, HBv1.out⟩
      case round =>
        clear Kv1 HBv1
        obtain ⟨k, hkg, rfl, hH, hB⟩ := hrel
        have Hh0 := hide hH
        have HB0 := hide hB
        clear hH hB
        by_cases hk : k < n
        · have hk' : (k : Int) < (n : Int) := by omega
          obtain ⟨g4, rfl⟩ : ∃ g4, gk = g4 + 1 := ⟨gk - 1, by omega⟩
          go_wp2_with fail
          refine (sadd_any ⟨#[113]⟩ Hh0.out (by rw [List.length_replicate]; show k + 1 < _; omega)).mono ?_
          rintro e x1 ⟨rfl, hHx1, hx1⟩
          rw [show sb ⟨#[113]⟩ = [113] from rfl, rep_snoc] at hHx1
          have Hhx1 := hide hHx1
          have HBx1 := hide (HB0.out.trans (hx1.below Lh.out HB0.out.size))
          clear hHx1 hx1 Hh0 HB0
          go_wp2_with fail
          go_roundg g4
          case measure => omega
          case rel => exact ⟨k + 1, by omega, by go_num, Hhx1.out, HBx1.out⟩
        · obtain rfl : k = n := by omega
          obtain ⟨D, eD⟩ : ∃ D, sdg (List.replicate k 113) = D := ⟨_, rfl⟩
          obtain ⟨M, eM⟩ : ∃ M, ByteArray.mk (List.replicate k (113 : UInt8)).toArray = M := ⟨_, rfl⟩
          have zM : M.size = k := by rw [← eM, ← sb_length, sb_mk, List.length_replicate]
          have hM : sdg (sb M) = D := by rw [← eM, sb_mk, eD]
          have HD := hide eD
          have HM := hide hM
          have HE := hide eM
          have ZM := hide zM
          clear eD hM eM zM
          go_wp2_with fail
          refine (shsum_any Hh0.out (by rw [List.length_replicate]; omega)).mono ?_
          rintro e y1 ⟨rfl, hy1⟩
          rw [HD.out]
          have Hhy1 := hide (Hh0.out.below hy1)
          have HBy1 := hide (HB0.out.trans (hy1.mono HB0.out.size))
          clear hy1 Hh0 HB0
          go_wp2_with fail
          refine (many_any k 113 _ (by omega)).mono ?_
          rintro e y2 ⟨rfl, hy2⟩
          rw [HE.out]
          have Hhy2 := hide (Hhy1.out.below hy2)
          have HBy2 := hide (HBy1.out.trans (hy2.mono HBy1.out.size))
          clear hy2 Hhy1 HBy1
          go_wp2_with fail
          refine (ssum_any M _ (by rw [ZM.out]; omega)).mono ?_
          rintro e y3 ⟨rfl, hy3⟩
          rw [HM.out]
          have Hhy3 := hide (Hhy2.out.below hy3)
          have HBy3 := hide (HBy2.out.trans (hy3.mono HBy2.out.size))
          clear hy3 Hhy2 HBy2
          go_wp2_with fail
          refine (shsum_any Hhy3.out (by rw [List.length_replicate]; omega)).mono ?_
          rintro e y4 ⟨rfl, hy4⟩
          rw [HD.out]
          have Hhy4 := hide (Hhy3.out.below hy4)
          have HBy4 := hide (HBy3.out.trans (hy4.mono HBy3.out.size))
          clear hy4 Hhy3 HBy3
          go_wp2_with fail
          refine (scopy_any Hhy4.out).mono ?_
          rintro e y5 ⟨bz, rfl, hby5, hHy5, hy5⟩
          have Nhz := hide (Hhy4.out.ne hby5)
          have Lz := hide (Nat.le_trans HBy4.out.size hby5)
          have Ky5 := hide hHy5
          clear hby5 hHy5
          have Hhy5 := hide (Hhy4.out.below hy5)
          have HBy5 := hide (HBy4.out.trans (hy5.mono HBy4.out.size))
          clear hy5 Hhy4 HBy4
          go_wp2_with fail
          refine (shsum_any Ky5.out (by rw [List.length_replicate]; omega)).mono ?_
          rintro e y6 ⟨rfl, hy6⟩
          rw [HD.out]
          have Hhy6 := hide (Hhy5.out.below hy6)
          have Hzy6 := hide (Ky5.out.below hy6)
          have HBy6 := hide (HBy5.out.trans (hy6.mono HBy5.out.size))
          clear hy6 Hhy5 Ky5 HBy5
          go_wp2_with fail
          go_roundg g3
          case measure => omega
          case rel => exact ⟨k + 1, by omega, by omega, by go_num, HBy6.out⟩
    · obtain rfl : n = 70 := by omega
      obtain ⟨K1, d1⟩ : ∃ S, ByteArray.mk (List.replicate 65 (107 : UInt8)).toArray = S := ⟨_, rfl⟩
      have y1 : K1.size = 65 := by rw [← d1, ← sb_length, sb_mk, List.length_replicate]
      obtain ⟨V1, d2⟩ : ∃ S, shm K1 ⟨#[97]⟩ = S := ⟨_, rfl⟩
      obtain ⟨K2, d3⟩ : ∃ S, sdg (sb K1) = S := ⟨_, rfl⟩
      have y2 : K2.size = 32 := by rw [← d3, sdg_size]
      have d4 : shm K2 ⟨#[97]⟩ = V1 := by rw [← d3, shm_long' _ _ (by rw [y1]; decide), d2]
      obtain ⟨K3, d5⟩ : ∃ S, ByteArray.mk (List.replicate 64 (0 : UInt8)).toArray = S := ⟨_, rfl⟩
      have y3 : K3.size = 64 := by rw [← d5, ← sb_length, sb_mk, List.length_replicate]
      obtain ⟨V2, d6⟩ : ∃ S, shm ⟨#[]⟩ ⟨#[97]⟩ = S := ⟨_, rfl⟩
      have d7 : shm K3 ⟨#[97]⟩ = V2 := by rw [← d5, shm_none_noughts, d6]
      obtain ⟨K4, d8⟩ : ∃ S, ByteArray.mk (List.replicate 64 (107 : UInt8)).toArray = S := ⟨_, rfl⟩
      have y4 : K4.size = 64 := by rw [← d8, ← sb_length, sb_mk, List.length_replicate]
      obtain ⟨V3, d9⟩ : ∃ S, shm K4 ⟨#[]⟩ = S := ⟨_, rfl⟩
      have y5 : V3.size = 32 := by rw [← d9, shm_size]
      have X1 := hide (And.intro d1 (And.intro d2 (And.intro d3 d4)))
      have X2 := hide (And.intro d5 (And.intro d6 d7))
      have X3 := hide (And.intro d8 d9)
      have YY := hide (And.intro y1 (And.intro y2 (And.intro y3 y4)))
      clear d1 d2 d3 d4 d5 d6 d7 d8 d9 y1 y2 y3 y4
      go_wp2_with fail
      refine (many_any 65 107 _ (by decide)).mono ?_
      rintro e z1 ⟨rfl, hz1⟩
      rw [X1.out.1]
      have HBz1 := hide (HB0.out.trans (hz1.mono HB0.out.size))
      clear hz1 HB0
      go_wp2_with fail
      refine (shmac_any K1 _ _ (by rw [YY.out.1]; decide) (by decide)).mono ?_
      rintro e z2 ⟨rfl, hz2⟩
      rw [X1.out.2.1]
      have HBz2 := hide (HBz1.out.trans (hz2.mono HBz1.out.size))
      clear hz2 HBz1
      go_wp2_with fail
      refine (many_any 65 107 _ (by decide)).mono ?_
      rintro e z3 ⟨rfl, hz3⟩
      rw [X1.out.1]
      have HBz3 := hide (HBz2.out.trans (hz3.mono HBz2.out.size))
      clear hz3 HBz2
      go_wp2_with fail
      refine (ssum_any K1 _ (by rw [YY.out.1]; decide)).mono ?_
      rintro e z4 ⟨rfl, hz4⟩
      rw [X1.out.2.2.1]
      have HBz4 := hide (HBz3.out.trans (hz4.mono HBz3.out.size))
      clear hz4 HBz3
      go_wp2_with fail
      refine (shmac_any K2 _ _ (by rw [YY.out.2.1]; decide) (by decide)).mono ?_
      rintro e z5 ⟨rfl, hz5⟩
      rw [X1.out.2.2.2]
      have HBz5 := hide (HBz4.out.trans (hz5.mono HBz4.out.size))
      clear hz5 HBz4
      go_wp2_with fail
      refine (many_any 64 0 _ (by decide)).mono ?_
      rintro e z6 ⟨rfl, hz6⟩
      rw [X2.out.1]
      have HBz6 := hide (HBz5.out.trans (hz6.mono HBz5.out.size))
      clear hz6 HBz5
      go_wp2_with fail
      refine (shmac_any K3 _ _ (by rw [YY.out.2.2.1]; decide) (by decide)).mono ?_
      rintro e z7 ⟨rfl, hz7⟩
      rw [X2.out.2.2]
      have HBz7 := hide (HBz6.out.trans (hz7.mono HBz6.out.size))
      clear hz7 HBz6
      go_wp2_with fail
      refine (shmac_any ⟨#[]⟩ _ _ (by decide) (by decide)).mono ?_
      rintro e z8 ⟨rfl, hz8⟩
      rw [X2.out.2.1]
      have HBz8 := hide (HBz7.out.trans (hz8.mono HBz7.out.size))
      clear hz8 HBz7
      go_wp2_with fail
      refine (many_any 64 107 _ (by decide)).mono ?_
      rintro e z9 ⟨rfl, hz9⟩
      rw [X3.out.1]
      have HBz9 := hide (HBz8.out.trans (hz9.mono HBz8.out.size))
      clear hz9 HBz8
      go_wp2_with fail
      refine (shmac_any K4 _ _ (by rw [YY.out.2.2.2]; decide) (by decide)).mono ?_
      rintro e z10 ⟨rfl, hz10⟩
      rw [X3.out.2]
      have HBz10 := hide (HBz9.out.trans (hz10.mono HBz9.out.size))
      clear hz10 HBz9
      go_wp2_with fail
      go_ret
      exact ⟨rfl, HBz10.out⟩

theorem shaNames_own : ownKnob Try.prog.godebug = none := by kernel_rfl
theorem shaNames_laidOut : laidOutB Try.prog = true := by kernel_rfl

set_option maxRecDepth 100000 in
theorem shaNames_lifted (os : Os) (started : os.Started) (H : Type) (enc : TypeId × Value → H) :
    ReturnsInHanded {} Try.checked os 3 .any (Rows.shaNamesSpec.pre6 enc Try.prog Try.f3 Rows.shaNamesRow.domain false) (Rows.shaNamesSpec.post enc Try.prog Try.f3 false true false false) := by
  refine returnsInHanded_of_change_sized (C := Try.checked) shaNames_own started (by kernel_rfl) Try.func3
    (ChangeSpec.witness6 (enc := enc) (C := Try.checked) false ⟨#[], #[], []⟩ 8 (by kernel_rfl) (by kernel_rfl) (by kernel_rfl) (by kernel_rfl)) ?_
  intro W base args ds gs before hval0 hW hcnd hsz0 _
  have hval : ∀ (j : Nat) t v, Try.f3.params[j]? = some t → args[j]? = some v → Value.okWide Try.prog W .any base t v := hval0
  have hW' := hW
  obtain ⟨p, q, hA0, hV, rfl, hfz, hnd⟩ := hW
  have hA : DataW.TrodAll enc Try.prog W 0 (fun _ => true) true Try.f3.params.toList args.toList ds p := hA0
  rw [Try.params3] at hA hval
  obtain ⟨rfl, rfl, rfl⟩ := trodAll_none hA
  obtain ⟨rfl, rfl⟩ := trodVars_none hV
  clear hA0 hval0 hsz0
  simp only [List.append_nil] at hW'
  refine (shaNames_any W ).mono fun e W' ⟨he, bel⟩ => ?_
  subst he
  exact ⟨_, rfl, _, _, _, [], [], [], hW', trodAll_mk1 (shut_bool Try.underlying4 _), rfl, rfl, bel.frame _, fun h => by cases h⟩

theorem shaNames_holds : Rows.ShaNamesSaid :=
  OpenClaim.holds_of_wide 3 Try.f3 rfl rfl rfl rfl rfl rfl rfl ⟨rfl, rfl, rfl, rfl, rfl⟩ rfl rfl rfl rfl rfl (by kernel_rfl) Try.func3 (by kernel_rfl)
    (of_decide_eq_true (by kernel_rfl)) (by unfold Func.isWrapper; first | (rw [if_pos (by decide +kernel)]; kernel_rfl) | (rw [if_neg (by decide +kernel)]; exact ⟨rfl, rfl⟩))
    (fun os started H enc _ => shaNames_lifted os started H enc)

#print axioms shaNames_holds

end Go.Proofs.Ytgcgflmgppplmaa
