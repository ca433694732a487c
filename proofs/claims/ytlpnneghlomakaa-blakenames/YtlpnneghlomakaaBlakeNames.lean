/- The statement BlakeNames (closed) returns true. No condition. -/
import Derived.Test.YtlpnneghlomakaaBArgs
import Derived.SizedLaws
namespace Go.Proofs.Ytlpnneghlomakaa
open Go.ChangeShapes Go.WideShapes Go.ChangeAt Go.RowKit Bk
open Go.ChangeMaps (open_string shut_string)
set_option linter.unusedVariables false
set_option linter.unusedSimpArgs false

theorem rep_one (i : Nat) : List.replicate i (113 : UInt8) ++ sb ⟨#[113]⟩ = List.replicate (i + 1) 113 := by
  rw [List.replicate_succ']; rfl
set_option maxRecDepth 100000 in
set_option maxHeartbeats 8000000 in
theorem blakeNames_any (w : World) : Calls Try.prog 3 #[] w fun e w' => e = .returned (.bool true) ∧ Below w.heap.size w w' := by
  obtain ⟨K, eK⟩ : ∃ K : ByteArray, ByteArray.mk (List.replicate 32 (107 : UInt8)).toArray = K := ⟨_, rfl⟩
  have lK : K.size = 32 := by rw [← eK]; rfl
  have wK : kye K = 0 := by unfold kye; rw [if_neg (by omega)]
  have w0 : kye ⟨#[]⟩ = 0 := by unfold kye; rw [if_neg (by decide)]
  have vK : ∀ s, (kyv K s).size = 32 := fun s => by unfold kyv; rw [if_neg (by omega), dg_size]
  have HK := hide (And.intro eK (And.intro lK (And.intro wK (And.intro w0 vK))))
  obtain ⟨D0, eD0⟩ : ∃ D, dg 0 [] = D := ⟨_, rfl⟩
  obtain ⟨D1, eD1⟩ : ∃ D, dg 0 [97, 98, 99] = D := ⟨_, rfl⟩
  have f1 : kyv ⟨#[]⟩ ⟨#[97, 98, 99]⟩ = D1 := by rw [kyv_none, ← eD1]; rfl
  have f2 : dg 0 (sb ⟨#[97, 98, 99]⟩) = D1 := eD1
  have f3 : dg 0 (sb ⟨#[]⟩) = D0 := eD0
  have HD := hide (And.intro f1 (And.intro f2 (And.intro f3 eD0)))
  clear eK lK wK w0 vK eD0 eD1 f1 f2 f3
  go_enter Try.func3, Try.ntmps3
  have HB0 := hide (Below.refl w.heap.size w)
  go_wp2_with fail
  refine (works_any _).mono ?_
  rintro e w1 ⟨rfl, hw1⟩
  have HBw1 := hide (HB0.out.trans (hw1.mono HB0.out.size))
  clear hw1 HB0
  go_wp2_with fail
  refine (keyed_any ⟨#[]⟩ ⟨#[97, 98, 99]⟩ _ (by decide) (by decide)).mono ?_
  rintro e w2 ⟨rfl, hw2⟩
  rw [HD.out.1, HK.out.2.2.2.1]
  have HBw2 := hide (HBw1.out.trans (hw2.mono HBw1.out.size))
  clear hw2 HBw1
  go_wp2_with fail
  refine (many_any 32 107 _ (by decide)).mono ?_
  rintro e w3 ⟨rfl, hw3⟩
  rw [HK.out.1]
  have HBw3 := hide (HBw2.out.trans (hw3.mono HBw2.out.size))
  clear hw3 HBw2
  obtain ⟨V, eV⟩ : ∃ V, kyv K ⟨#[97, 98, 99]⟩ = V := ⟨_, rfl⟩
  have HV := hide eV
  clear eV
  go_wp2_with fail
  refine (keyed_any K ⟨#[97, 98, 99]⟩ _ (by rw [HK.out.2.1]; decide) (by decide)).mono ?_
  rintro e w4 ⟨rfl, hw4⟩
  rw [HV.out, HK.out.2.2.1]
  have HBw4 := hide (HBw3.out.trans (hw4.mono HBw3.out.size))
  clear hw4 HBw3
  go_wp2_with fail
  refine (hadd_nil _ _).mono ?_
  rintro e x9 ⟨rfl, hx9⟩
  rw [hx9]
  clear hx9
  go_wp2_with fail
  refine (hcopy_nil _).mono ?_
  rintro e x9 ⟨rfl, hx9⟩
  rw [hx9]
  clear hx9
  go_wp2_with fail
  refine (hsum_nil _).mono ?_
  rintro e w5 ⟨rfl, hw5⟩
  rw [HD.out.2.2.2]
  have HBw5 := hide (HBw4.out.trans (hw5.mono HBw4.out.size))
  clear hw5 HBw4
  go_wp2_with fail
  refine (bsum_any ⟨#[]⟩ _ (by decide)).mono ?_
  rintro e w6 ⟨rfl, hw6⟩
  rw [HD.out.2.2.1]
  have HBw6 := hide (HBw5.out.trans (hw6.mono HBw5.out.size))
  clear hw6 HBw5
  go_wp2_with fail
  refine (bsum_any ⟨#[97, 98, 99]⟩ _ (by decide)).mono ?_
  rintro e w7 ⟨rfl, hw7⟩
  rw [HD.out.2.1]
  have HBw7 := hide (HBw6.out.trans (hw7.mono HBw6.out.size))
  clear hw7 HBw6
  go_wp2_with fail
  go_loopg [6, 7, 8, 9, 10] 72 (fun g t _ _ _ _ wr => ∃ k : Nat, k + g = 132 ∧ t = .int .i64 k ∧ Below w.heap.size w wr)
  case atStart => exact ⟨60, by omega, rfl, HBw7.out⟩
  case round =>
    clear HBw7
    obtain ⟨n, hkg, rfl, hHB⟩ := hrel
    have HB0 := hide hHB
    clear hHB
    by_cases hlt : n < 132
    · have hlt' : (n : Int) < 132 := by omega
      obtain ⟨g3, rfl⟩ : ∃ g3, gk = g3 + 1 := ⟨gk - 1, by omega⟩
      obtain ⟨Q, eQ⟩ : ∃ Q : ByteArray, ByteArray.mk (List.replicate n (113 : UInt8)).toArray = Q := ⟨_, rfl⟩
      have lQ : Q.size = n := by rw [← eQ, ← sb_length, sb_mk, List.length_replicate]
      have sQ : sb Q = List.replicate n 113 := by rw [← eQ, sb_mk]
      have HQ := hide (And.intro eQ (And.intro lQ sQ))
      obtain ⟨V2, eV2⟩ : ∃ V, kyv K Q = V := ⟨_, rfl⟩
      have lV2 : V2.size = 32 := by rw [← eV2]; exact HK.out.2.2.2.2 Q
      obtain ⟨D, eD⟩ : ∃ D, dg 0 (List.replicate n 113) = D := ⟨_, rfl⟩
      have HV2 := hide (And.intro eV2 eD)
      clear eQ lQ sQ eV2 eD
      go_wp2_with fail
      refine (new_any _).mono ?_
      rintro e v1 ⟨bh, rfl, hbv1, hHv1, hv1⟩
      have Lh := hide (Nat.le_trans HB0.out.size hbv1)
      have Kv1 := hide hHv1
      clear hbv1 hHv1
      have HBv1 := hide (HB0.out.trans (hv1.mono HB0.out.size))
      clear hv1 HB0
      go_wp2_with fail
      go_loopg [8] n (fun g t wx => ∃ i : Nat, i + g = n ∧ t = .int .i64 i ∧ Hs wx bh (h0 0) (List.replicate i 113) ∧ Below w.heap.size w wx)
      case atStart => exact ⟨0, by omega, rfl, Kv1.out, HBv1.out⟩
      case round =>
        clear Kv1 HBv1
        obtain ⟨i, hig, rfl, hHh, hHBx⟩ := hrel
        have Hh0 := hide hHh
        have HBx := hide hHBx
        clear hHh hHBx
        by_cases hil : i < n
        · have hil' : (i : Int) < (n : Int) := by omega
          obtain ⟨g5, rfl⟩ : ∃ g5, gk = g5 + 1 := ⟨gk - 1, by omega⟩
          go_wp2_with fail
          refine (hadd_any ⟨#[113]⟩ Hh0.out (h0_length 0) (h0_lt 0 (by decide)) (by rw [List.length_replicate]; show i + 1 < _; omega)).mono ?_
          rintro e x1 ⟨rfl, hHx1, hx1⟩
          rw [rep_one] at hHx1
          have Hhx1 := hide hHx1
          have HBx1 := hide (HBx.out.trans (hx1.below Lh.out HBx.out.size))
          clear hHx1 hx1 Hh0 HBx
          go_wp2_with fail
          go_roundg g5
          case measure => omega
          case rel => exact ⟨i + 1, by omega, by go_num, Hhx1.out, HBx1.out⟩
        · obtain rfl : i = n := by omega
          go_wp2_with fail
          refine (many_any 32 107 _ (by decide)).mono ?_
          rintro e x1 ⟨rfl, hx1⟩
          rw [HK.out.1]
          have Hhx1 := hide (Hh0.out.below hx1)
          have HBx1 := hide (HBx.out.trans (hx1.mono HBx.out.size))
          clear hx1 Hh0 HBx
          go_wp2_with fail
          refine (many_any i 113 _ (by omega)).mono ?_
          rintro e x2 ⟨rfl, hx2⟩
          rw [HQ.out.1]
          have Hhx2 := hide (Hhx1.out.below hx2)
          have HBx2 := hide (HBx1.out.trans (hx2.mono HBx1.out.size))
          clear hx2 Hhx1 HBx1
          go_wp2_with fail
          refine (keyed_any K Q _ (by rw [HK.out.2.1]; decide) (by rw [HQ.out.2.1]; omega)).mono ?_
          rintro e x3 ⟨rfl, hx3⟩
          rw [HV2.out.1, HK.out.2.2.1]
          have Hhx3 := hide (Hhx2.out.below hx3)
          have HBx3 := hide (HBx2.out.trans (hx3.mono HBx2.out.size))
          clear hx3 Hhx2 HBx2
          go_wp2_with fail
          refine (hsum0_any Hhx3.out (by simp; omega)).mono ?_
          rintro e x4 ⟨rfl, hx4⟩
          rw [HV2.out.2]
          have Hhx4 := hide (Hhx3.out.below hx4)
          have HBx4 := hide (HBx3.out.trans (hx4.mono HBx3.out.size))
          clear hx4 Hhx3 HBx3
          go_wp2_with fail
          refine (many_any i 113 _ (by omega)).mono ?_
          rintro e x5 ⟨rfl, hx5⟩
          rw [HQ.out.1]
          have Hhx5 := hide (Hhx4.out.below hx5)
          have HBx5 := hide (HBx4.out.trans (hx5.mono HBx4.out.size))
          clear hx5 Hhx4 HBx4
          go_wp2_with fail
          refine (bsum_any Q _ (by rw [HQ.out.2.1]; omega)).mono ?_
          rintro e x6 ⟨rfl, hx6⟩
          rw [HQ.out.2.2, HV2.out.2]
          have Hhx6 := hide (Hhx5.out.below hx6)
          have HBx6 := hide (HBx5.out.trans (hx6.mono HBx5.out.size))
          clear hx6 Hhx5 HBx5
          go_wp2_with fail
          refine (hsum0_any Hhx6.out (by simp; omega)).mono ?_
          rintro e x7 ⟨rfl, hx7⟩
          rw [HV2.out.2]
          have Hhx7 := hide (Hhx6.out.below hx7)
          have HBx7 := hide (HBx6.out.trans (hx7.mono HBx6.out.size))
          clear hx7 Hhx6 HBx6
          go_wp2_with fail
          refine (hcopy_any Hhx7.out (h0_length 0) (h0_lt 0 (by decide))).mono ?_
          rintro e x8 ⟨bz, rfl, hbx8, hHx8, hx8⟩
          have Nhz := hide (Hhx7.out.ne hbx8)
          have Lz := hide (Nat.le_trans HBx7.out.size hbx8)
          have Kx8 := hide hHx8
          clear hbx8 hHx8
          have Hhx8 := hide (Hhx7.out.below hx8)
          have HBx8 := hide (HBx7.out.trans (hx8.mono HBx7.out.size))
          clear hx8 Hhx7 HBx7
          go_wp2_with fail
          refine (hsum0_any Kx8.out (by simp; omega)).mono ?_
          rintro e x9 ⟨rfl, hx9⟩
          rw [HV2.out.2]
          have Hhx9 := hide (Hhx8.out.below hx9)
          have Hzx9 := hide (Kx8.out.below hx9)
          have HBx9 := hide (HBx8.out.trans (hx9.mono HBx8.out.size))
          clear hx9 Hhx8 Kx8 HBx8
          go_wp2_with fail
          go_roundg g3
          case measure => omega
          case rel => exact ⟨i + 1, by omega, by go_num, HBx9.out⟩
    · obtain rfl : n = 132 := by omega
      go_wp2_with fail
      go_ret
      exact ⟨rfl, HB0.out⟩

theorem blakeNames_own : ownKnob Try.prog.godebug = none := by kernel_rfl
theorem blakeNames_laidOut : laidOutB Try.prog = true := by kernel_rfl

set_option maxRecDepth 100000 in
theorem blakeNames_lifted (os : Os) (started : os.Started) (H : Type) (enc : TypeId × Value → H) :
    ReturnsInHanded {} Try.checked os 3 .any (Rows.blakeNamesSpec.pre6 enc Try.prog Try.f3 Rows.blakeNamesRow.domain false) (Rows.blakeNamesSpec.post enc Try.prog Try.f3 false true false false) := by
  refine returnsInHanded_of_change_sized (C := Try.checked) blakeNames_own started (by kernel_rfl) Try.func3
    (ChangeSpec.witness6 (enc := enc) (C := Try.checked) false ⟨#[], #[], []⟩ 8 (by kernel_rfl) (by kernel_rfl) (by kernel_rfl) (by kernel_rfl)) ?_
  intro W base args ds gs before hval0 hW hcnd hsz0 _
  have hval : ∀ (j : Nat) t v, Try.f3.params[j]? = some t → args[j]? = some v → Value.okWide Try.prog W .any base t v := hval0
  have hW' := hW
  obtain ⟨p, q, hA0, hV, rfl, hfz, hnd⟩ := hW
  have hA : DataW.TrodAll enc Try.prog W 0 (fun _ => true) true Try.f3.params.toList args.toList ds p := hA0
  rw [Try.params3] at hA hval
  obtain ⟨rfl, rfl, rfl⟩ := trodAll_none hA
  obtain ⟨rfl, rfl⟩ := trodVars_none hV
  clear hA0 hval0 hsz0
  simp only [List.append_nil] at hW'
  refine (blakeNames_any W ).mono fun e W' ⟨he, bel⟩ => ?_
  subst he
  exact ⟨_, rfl, _, _, _, [], [], [], hW', trodAll_mk1 (shut_bool Try.underlying4 _), rfl, rfl, bel.frame _, fun h => by cases h⟩

theorem blakeNames_holds : Rows.BlakeNamesSaid :=
  OpenClaim.holds_of_wide 3 Try.f3 rfl rfl rfl rfl rfl rfl rfl ⟨rfl, rfl, rfl, rfl, rfl⟩ rfl rfl rfl rfl rfl (by kernel_rfl) Try.func3 (by kernel_rfl)
    (of_decide_eq_true (by kernel_rfl)) (by unfold Func.isWrapper; first | (rw [if_pos (by decide +kernel)]; kernel_rfl) | (rw [if_neg (by decide +kernel)]; exact ⟨rfl, rfl⟩))
    (fun os started H enc _ => blakeNames_lifted os started H enc)

#print axioms blakeNames_holds

end Go.Proofs.Ytlpnneghlomakaa
