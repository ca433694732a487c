/- For any data the statement CbcFrame returns true and its argument reads as before. No condition. -/
import Derived.Test.YtknjmmbebkcnpaaRun13
namespace Go.Proofs.Ytknjmmbebkcnpaa
open Go.ChangeShapes Go.WideShapes Go.ChangeAt Go.RowKit Bk
open Go.ChangeMaps (open_string shut_string)
set_option linter.unusedVariables false
set_option linter.unusedSimpArgs false

set_option maxRecDepth 100000 in
set_option maxHeartbeats 16000000 in
theorem cbcFrame_long (D : ByteArray) (w : World) (h : 70000 < D.size) : Calls Try.prog 8 #[.string D] w fun e w' => e = .returned (.bool true) ∧ Below w.heap.size w w' := by
  have hI : (70000 : Int) < (D.size : Int) := by omega
  clear h
  go_enter Try.func8, Try.ntmps8
  have HS0 := hide (Below.refl w.heap.size w)
  go_wp2_with fail
  refine (awakeC_any _).mono ?_
  rintro e w1 ⟨rfl, hB⟩
  have HS1 := hide (show Below w.heap.size w w1 from HS0.out.trans (hB.mono HS0.out.size))
  clear HS0 hB
  go_wp2_with fail
  go_ret
  exact ⟨rfl, HS1.out⟩

set_option maxRecDepth 100000 in
set_option maxHeartbeats 16000000 in
theorem cbcFrame_ok (D : ByteArray) (w : World) (h : D.size ≤ 70000) : Calls Try.prog 8 #[.string D] w fun e w' => e = .returned (.bool true) ∧ Below w.heap.size w w' := by
  obtain ⟨n, hn⟩ : ∃ n, D.size = n := ⟨_, rfl⟩
  have hI : ¬ (70000 : Int) < (n : Int) := by omega
  have hl := lk_lt n
  have h16 := lk_16 n
  obtain ⟨L, hL⟩ : ∃ L, lk n = L := ⟨_, rfl⟩
  rw [hL] at hl h16
  have HC := hide (fun w : World => cFrame_any D w (by omega))
  obtain ⟨S, eS⟩ : ∃ S, frm D = S := ⟨_, rfl⟩
  rw [eS] at HC
  have sS : sb S = fr (sb D) := by rw [← eS, frm_sb]
  have lD : (sb D).length = n := by rw [sb_length, hn]
  have zS : S.size = 8 + n + L := by rw [← sb_length, sS, fr_length, lD, hL]
  have v1 := IntWalk.i64_in ((n : Int) + 8) (by omega)
  have v2 := IntWalk.i64_in ((n : Int) + 24) (by omega)
  have hcut : ∀ w, (Instr.slice 9 (.string S) (some (.int .i64 8)) (some (.int .i64 (8 + (n : Int)))) none).run Try.prog w = .ok (.string D) w := fun w => by
    rw [run_slice_string (P := Try.prog) w 9 S .i64 .i64 _ _ Try.underlying9 (by omega) (by omega) (by rw [zS]; omega)]
    congr 2
    refine sb_inj ?_
    rw [sb_extract, sS, show (8 : Int).toNat = 8 from rfl, show (8 + (n : Int)).toNat = 8 + n by omega, Nat.add_sub_cancel_left, ← lD]
    exact fr_data _
  have hval : v8 (sb S) 8 = n := by rw [sS, ← lD]; exact fr_val _ (by rw [lD]; omega)
  have hzero : ∀ k, k < L → gy (sb S) (8 + n + k) = 0 := fun k hk => by
    rw [sS]
    unfold fr
    rw [gy_app2 _ _ _ (by rw [n8_length]; omega), gy_app2 _ _ _ (by rw [n8_length, lD]; omega), n8_length, lD, hL]
    have : 8 + n + k - 8 - n = k := by omega
    rw [this]
    simp [gy, hk]
  obtain ⟨N, hN⟩ : ∃ N, S.size = N := ⟨_, rfl⟩
  rw [hN] at zS
  have g1 : ((N : Int) == 0) = false := by simp; omega
  have g2 : (((N : Int) % 16) != 0) = false := by simp; omega
  have g3 : (((N : Int) % 16) == 0) = true := by simp; omega
  have g4 : (((N : Int).tmod 16) != 0) = false := by
    rw [Int.tmod_eq_emod_of_nonneg (by omega)]
    exact g2
  have g5 : (((N : Int).tmod 16) == 0) = true := by
    rw [Int.tmod_eq_emod_of_nonneg (by omega)]
    exact g3
  have g6 : ¬ (N : Int) < (n : Int) + 8 := by omega
  have g7 : ¬ (n : Int) + 24 ≤ (N : Int) := by omega
  obtain ⟨P, hP⟩ : ∃ P, 8 + n = P := ⟨_, rfl⟩
  rw [hP] at hzero zS
  have v3 := IntWalk.i64_in (8 + (n : Int)) (by omega)
  have HN := hide (show n ≤ 70000 ∧ L < 16 ∧ N = P + L ∧ P = 8 + n ∧ S.size = N from ⟨hn ▸ h, hl, zS, hP.symm, hN⟩)
  have HZ := hide hzero
  have HV := hide hval
  clear hl h16 hL eS sS lD zS hval hzero hP h
  go_enter Try.func8, Try.ntmps8
  have HS0 := hide (Below.refl w.heap.size w)
  go_wp2_with fail
  refine (awakeC_any _).mono ?_
  rintro e w1 ⟨rfl, hB⟩
  have HS1 := hide (show Below w.heap.size w w1 from HS0.out.trans (hB.mono HS0.out.size))
  clear HS0 hB
  go_wp2_with fail
  refine (HC.out _).mono ?_
  rintro e w2 ⟨rfl, hB⟩
  have HS2 := hide (show Below w.heap.size w w2 from HS1.out.trans (hB.mono HS1.out.size))
  clear HS1 hB
  go_wp2_with fail
  clear hcut
  go_loopg [4, 5] 8 (fun g m q wr => ∃ k : Nat, k + g = 8 ∧ q = .int .i64 k ∧ m = .int .i64 ((v8 (sb S) k : Nat) : Int) ∧ Below w.heap.size w wr)
  case atStart => exact ⟨0, rfl, rfl, rfl, HS2.out⟩
  case round =>
    obtain ⟨k, hkg, rfl, rfl, hB⟩ := hrel
    by_cases hlt : k < 8
    · have hltI : (k : Int) < 8 := by omega
      obtain ⟨g3, rfl⟩ : ∃ g3, gk = g3 + 1 := ⟨gk - 1, by omega⟩
      have hx := idx_gy S k (by have := HN.out; omega)
      have hnx : v8 (sb S) (k + 1) = v8 (sb S) k * 256 + (gy (sb S) k).toNat := rfl
      have hmn : v8 (sb S) (k + 1) ≤ n := by
        have := v8_mono (sb S) (k := k + 1) (7 - k)
        rwa [show k + 1 + (7 - k) = 8 by omega, HV.out] at this
      obtain ⟨v, ev⟩ : ∃ v, v8 (sb S) k = v := ⟨_, rfl⟩
      obtain ⟨c, ec⟩ : ∃ c, (gy (sb S) k).toNat = c := ⟨_, rfl⟩
      rw [ev, ec] at hnx
      rw [hnx] at hmn
      rw [ec] at hx
      rw [ev]
      have hn7 := HN.out.1
      have w1 := IntWalk.i64_in ((v : Int) * 256) (by omega)
      have w2 := IntWalk.i64_in (c : Int) (by omega)
      have w3 := IntWalk.i64_in ((v : Int) * 256 + (c : Int)) (by omega)
      have hsz : (k : Int) < (N : Int) := by have := HN.out; omega
      have HB := hide (And.intro hnx hB)
      clear hnx hmn ev ec hB hn7
      go_wp2_with fail
      go_roundg g3
      case measure => omega
      case rel => exact ⟨k + 1, by omega, by go_num, by rw [HB.out.1]; go_num, HB.out.2⟩
    · obtain rfl : k = 8 := by omega
      rw [HV.out]
      have HB := hide hB
      clear hB hlt hkg
      have eP : (8 : Int) + (n : Int) = (P : Int) := by have := HN.out.2.2.2.1; omega
      rw [eP] at v3
      go_wp2_with fail
      go_loopg [6] L (fun g q wr => ∃ k : Nat, k + g = L ∧ q = .int .i64 ((P + k : Nat) : Int) ∧ Below w.heap.size w wr)
      case atStart => exact ⟨0, by omega, rfl, HB.out⟩
      case round =>
        obtain ⟨k, hkg, rfl, hB⟩ := hrel
        obtain ⟨M, hM⟩ : ∃ M, P + k = M := ⟨_, rfl⟩
        rw [hM]
        by_cases hlt : k < L
        · have hltI : (M : Int) < (N : Int) := by have := HN.out; omega
          obtain ⟨g3, rfl⟩ : ∃ g3, gk = g3 + 1 := ⟨gk - 1, by omega⟩
          have hx := idx_gy S M (by have := HN.out; omega)
          rw [← hM, HZ.out k hlt, hM] at hx
          have w1 := IntWalk.i64_in ((M : Int) + 1) (by have := HN.out; omega)
          have HB2 := hide (And.intro hM hB)
          clear hM hB
          go_wp2_with fail
          go_roundg g3
          case measure => omega
          case rel => exact ⟨k + 1, by omega, by rw [show P + (k + 1) = M + 1 by have := HB2.out.1; omega]; go_num, HB2.out.2⟩
        · have hltI : ¬ (M : Int) < (N : Int) := by have := HN.out; omega
          have HB2 := hide hB
          clear hB hM hlt hkg
          go_wp2_with fail
          go_ret
          exact ⟨rfl, HB2.out⟩

theorem cbcFrame_any (w : World) (D : ByteArray) (m0 : D.size ≤ 140737488351232) : Calls Try.prog 8 #[.string D] w fun e w' => e = .returned (.bool true) ∧ Below w.heap.size w w' := by
  by_cases h : D.size ≤ 70000
  · exact cbcFrame_ok D w h
  · exact cbcFrame_long D w (by omega)

theorem cbcFrame_own : ownKnob Try.prog.godebug = none := by kernel_rfl
theorem cbcFrame_laidOut : laidOutB Try.prog = true := by kernel_rfl

set_option maxRecDepth 100000 in
theorem cbcFrame_lifted (os : Os) (started : os.Started) (H : Type) (enc : TypeId × Value → H) :
    ReturnsInHanded {} Try.checked os 8 .any (Rows.cbcFrameSpec.pre6 enc Try.prog Try.f8 Rows.cbcFrameRow.domain false) (Rows.cbcFrameSpec.post enc Try.prog Try.f8 false true false false) := by
  refine returnsInHanded_of_change_sized (C := Try.checked) cbcFrame_own started (by kernel_rfl) Try.func8
    (ChangeSpec.witness6 (enc := enc) (C := Try.checked) false ⟨#[], #[.string ⟨#[]⟩], []⟩ 8 (by kernel_rfl) (by kernel_rfl) (by kernel_rfl) (by kernel_rfl)) ?_
  intro W base args ds gs before hval0 hW hcnd hsz0 _
  have hval : ∀ (j : Nat) t v, Try.f8.params[j]? = some t → args[j]? = some v → Value.okWide Try.prog W .any base t v := hval0
  have hW' := hW
  obtain ⟨p, q, hA0, hV, rfl, hfz, hnd⟩ := hW
  have hA : DataW.TrodAll enc Try.prog W 0 (fun _ => true) true Try.f8.params.toList args.toList ds p := hA0
  rw [Try.params8] at hA hval
  obtain ⟨v0, vs0, d0, ds0, p0, q0, hargs, rfl, rfl, h0, r0⟩ := trodAll_cons hA
  obtain ⟨rfl, rfl, rfl⟩ := trodAll_nil r0
  obtain rfl : args = #[v0] := by cases args; simp_all
  obtain ⟨rfl, rfl⟩ := trodVars_none hV
  obtain ⟨a0, rfl, rfl, rfl, w0⟩ := open_string Try.underlying9 (hval 0 9 v0 rfl rfl) h0
  have s0 : a0.size ≤ 140737488351232 := sized_string hsz0 (j := 0) (t := 9) rfl rfl
  clear hA0 hval0 hsz0
  simp only [List.append_nil] at hW'
  refine (cbcFrame_any W a0 s0).mono fun e W' ⟨he, bel⟩ => ?_
  subst he
  exact ⟨_, rfl, _, _, _, [], _, [], hW', trodAll_mk1 (shut_bool Try.underlying4 _), (trodAll_cons_mk (shut_string Try.underlying9 w0) trodAll_mk0), rfl, bel.frame _, fun h => by cases h⟩

theorem cbcFrame_holds : Rows.CbcFrameSaid :=
  OpenClaim.holds_of_wide 8 Try.f8 rfl rfl rfl rfl rfl rfl rfl ⟨rfl, rfl, rfl, rfl, rfl⟩ rfl rfl rfl rfl rfl (by kernel_rfl) Try.func8 (by kernel_rfl)
    (of_decide_eq_true (by kernel_rfl)) (by unfold Func.isWrapper; first | (rw [if_pos (by decide +kernel)]; kernel_rfl) | (rw [if_neg (by decide +kernel)]; exact ⟨rfl, rfl⟩))
    (fun os started H enc _ => cbcFrame_lifted os started H enc)

#print axioms cbcFrame_holds

end Go.Proofs.Ytknjmmbebkcnpaa
