/- For any key and first block and any data the statement CbcBlocks returns true and its arguments read as before. No condition. -/
import Derived.Test.YtknjmmbebkcnpaaRun13
import Derived.Deep.QuietTactic
import Derived.BigQuiet
namespace Go.Proofs.Ytknjmmbebkcnpaa
open Go.ChangeShapes Go.WideShapes Go.ChangeAt Go.RowKit Bk
open Go.ChangeMaps (open_string shut_string)
set_option linter.unusedVariables false
set_option linter.unusedSimpArgs false

set_option maxRecDepth 100000 in
set_option maxHeartbeats 16000000 in
theorem cbcBlocks_no0 (K f d : ByteArray) (w : World) (hK : 100 < K.size) : Calls Try.prog 7 #[.string K, .string f, .string d] w fun e w' => e = .returned (.bool true) ∧ Below w.heap.size w w' := by
  have qK : (100 : Int) < (K.size : Int) := by omega
  clear hK
  go_enter Try.func7, Try.ntmps7
  have HS0 := hide (Below.refl w.heap.size w)
  go_wp2_with fail
  refine (awakeC_any _).mono ?_
  rintro e w1 ⟨rfl, hB⟩
  have HS1 := hide (show Below w.heap.size w w1 from HS0.out.trans (hB.mono HS0.out.size))
  clear HS0 hB
  go_wp2_with fail
  go_ret
  exact ⟨rfl, HS1.out⟩

set_option maxRecDepth 100000 in
set_option maxHeartbeats 16000000 in
theorem cbcBlocks_no1 (K f d : ByteArray) (w : World) (hK : K.size ≤ 100) (hf : 100 < f.size) : Calls Try.prog 7 #[.string K, .string f, .string d] w fun e w' => e = .returned (.bool true) ∧ Below w.heap.size w w' := by
  have qK : ¬ (100 : Int) < (K.size : Int) := by omega
  have qf : (100 : Int) < (f.size : Int) := by omega
  clear hK hf
  go_enter Try.func7, Try.ntmps7
  have HS0 := hide (Below.refl w.heap.size w)
  go_wp2_with fail
  refine (awakeC_any _).mono ?_
  rintro e w1 ⟨rfl, hB⟩
  have HS1 := hide (show Below w.heap.size w w1 from HS0.out.trans (hB.mono HS0.out.size))
  clear HS0 hB
  go_wp2_with fail
  go_ret
  exact ⟨rfl, HS1.out⟩

set_option maxRecDepth 100000 in
set_option maxHeartbeats 16000000 in
theorem cbcBlocks_no2 (K f d : ByteArray) (w : World) (hK : K.size ≤ 100) (hf : f.size ≤ 100) (hd : 600 < d.size) : Calls Try.prog 7 #[.string K, .string f, .string d] w fun e w' => e = .returned (.bool true) ∧ Below w.heap.size w w' := by
  have qK : ¬ (100 : Int) < (K.size : Int) := by omega
  have qf : ¬ (100 : Int) < (f.size : Int) := by omega
  have qd : (600 : Int) < (d.size : Int) := by omega
  clear hK hf hd
  go_enter Try.func7, Try.ntmps7
  have HS0 := hide (Below.refl w.heap.size w)
  go_wp2_with fail
  refine (awakeC_any _).mono ?_
  rintro e w1 ⟨rfl, hB⟩
  have HS1 := hide (show Below w.heap.size w w1 from HS0.out.trans (hB.mono HS0.out.size))
  clear HS0 hB
  go_wp2_with fail
  go_ret
  exact ⟨rfl, HS1.out⟩

set_option maxRecDepth 100000 in
set_option maxHeartbeats 16000000 in
theorem cbcBlocks_bad (K f d : ByteArray) (w : World) (hK : K.size ≤ 100) (hf : f.size ≤ 100) (hd : d.size ≤ 600) (h : K.size ≠ 32 ∨ f.size ≠ 16) : Calls Try.prog 7 #[.string K, .string f, .string d] w fun e w' => e = .returned (.bool true) ∧ Below w.heap.size w w' := by
  have qK : ¬ (100 : Int) < (K.size : Int) := by omega
  have qf : ¬ (100 : Int) < (f.size : Int) := by omega
  have qd : ¬ (600 : Int) < (d.size : Int) := by omega
  have hB0 := hide h
  clear hK hf hd h
  go_enter Try.func7, Try.ntmps7
  have HS0 := hide (Below.refl w.heap.size w)
  go_wp2_with fail
  refine (awakeC_any _).mono ?_
  rintro e w1 ⟨rfl, hB⟩
  have HS1 := hide (show Below w.heap.size w w1 from HS0.out.trans (hB.mono HS0.out.size))
  clear HS0 hB
  go_wp2_with fail
  refine (cSeal_bad K f d _ hB0.out).mono ?_
  rintro e w2 ⟨rfl, hB⟩
  have HS2 := hide (show Below w.heap.size w w2 from HS1.out.trans (hB.mono HS1.out.size))
  clear HS1 hB
  go_wp2_with fail
  go_ret
  exact ⟨rfl, HS2.out⟩

set_option maxRecDepth 100000 in
set_option maxHeartbeats 16000000 in
theorem cbcBlocks_ok (K f d : ByteArray) (w : World) (hK : K.size = 32) (hf : f.size = 16) (hd : d.size ≤ 600) : Calls Try.prog 7 #[.string K, .string f, .string d] w fun e w' => e = .returned (.bool true) ∧ Below w.heap.size w w' := by
  have qK : ¬ (100 : Int) < (K.size : Int) := by omega
  have qf : ¬ (100 : Int) < (f.size : Int) := by omega
  have qd : ¬ (600 : Int) < (d.size : Int) := by omega
  have hI : ∀ k i, k < fb d.size → i < 16 → gy (sb (dt K (bt16 (seT K f d) k))) i ^^^ gy (sb (pvt f (seT K f d) k)) i = gy (sb (frm d)) (16 * k + i) := fun k i h1 h2 => dt_byte hK hf h1 h2
  have zS := seT_blocks d hK hf
  have zX := frm_blocks d
  have hn : fb d.size ≤ 40 := by have := lk_lt d.size; unfold fb; omega
  obtain ⟨S, eS⟩ : ∃ S, seT K f d = S := ⟨_, rfl⟩
  obtain ⟨X, eX⟩ : ∃ S, frm d = S := ⟨_, rfl⟩
  obtain ⟨n, en⟩ : ∃ S, fb d.size = S := ⟨_, rfl⟩
  rw [eS, eX, en] at hI
  rw [eS, en] at zS
  rw [eX, en] at zX
  rw [en] at hn
  have HL := hide (And.intro hK (And.intro hf hd))
  have HE := hide (And.intro eS eX)
  have HI := hide hI
  have HZ := hide (show S.size = 16 * n ∧ X.size = 16 * n ∧ n ≤ 40 from ⟨zS, zX, hn⟩)
  clear hK hf hd eS eX en hI hn
  obtain ⟨N, hNS⟩ : ∃ N, S.size = N := ⟨_, rfl⟩
  have hNX : X.size = N := by omega
  clear zS zX
  go_enter Try.func7, Try.ntmps7
  have HS0 := hide (Below.refl w.heap.size w)
  go_wp2_with fail
  refine (awakeC_any _).mono ?_
  rintro e w1 ⟨rfl, hB⟩
  have HS1 := hide (show Below w.heap.size w w1 from HS0.out.trans (hB.mono HS0.out.size))
  clear HS0 hB
  go_wp2_with fail
  refine (cSeal_ok K f d _ HL.out.1 HL.out.2.1 (by have := HL.out.2.2; omega)).mono ?_
  rintro e w2 ⟨rfl, hB⟩
  rw [HE.out.1]
  have HS2 := hide (show Below w.heap.size w w2 from HS1.out.trans (hB.mono HS1.out.size))
  clear HS1 hB
  go_wp2_with fail
  refine (new_c K _ HL.out.1).mono ?_
  rintro e w3 ⟨c, rfl, hR, hb, hB⟩
  have HS3 := hide (show Below w.heap.size w w3 ∧ Row w3 c 0 (bs (ciB (kw K))) from ⟨HS2.out.trans (hB.mono HS2.out.size), hR⟩)
  clear HS2 hB hR hb
  go_wp2_with fail
  refine (cFrame_any d _ (by have := HL.out.2.2; omega)).mono ?_
  rintro e w4 ⟨rfl, hB⟩
  rw [HE.out.2]
  have HS4 := hide (show Below w.heap.size w w4 ∧ Row w4 c 0 (bs (ciB (kw K))) from ⟨HS3.out.1.trans (hB.mono HS3.out.1.size), HS3.out.2.below hB HS3.out.2.lt⟩)
  clear HS3 hB
  go_wp2_with fail
  go_loopg [11, 12, 13, 14, 15] n (fun g v q _ _ _ wr => ∃ k : Nat, k + g = n ∧ v = .string (pvt f S k) ∧ q = .int .i64 ((16 * k : Nat) : Int) ∧ Row wr c 0 (bs (ciB (kw K))) ∧ Below w.heap.size w wr)
  case atStart => exact ⟨0, by omega, rfl, rfl, HS4.out.2, HS4.out.1⟩
  case round =>
    obtain ⟨k, hkg, rfl, rfl, hR, hB⟩ := hrel
    obtain ⟨I, eI⟩ : ∃ I, 16 * k = I := ⟨_, rfl⟩
    rw [eI]
    have zS := HZ.out.1
    rw [hNS] at zS
    by_cases h1 : k < n
    · have g1 : (I : Int) < (N : Int) := by omega
      obtain ⟨g3, rfl⟩ : ∃ g3, gk = g3 + 1 := ⟨gk - 1, by omega⟩
      have v1 := IntWalk.i64_in ((I : Int) + 16) (by have := HZ.out; omega)
      have c1 := cut16 S k I eI.symm (by have := HZ.out; omega)
      have hi := HI.out k
      have zA : (bt16 S k).size = 16 := bt16_size (by have := HZ.out; omega)
      have zP : (dt K (bt16 S k)).size = 16 := dt_size HL.out.1 zA
      have zV : (pvt f S k).size = 16 := pvt_size HL.out.2.1 (by have := HZ.out; omega)
      have eV : pvt f S (k + 1) = bt16 S k := rfl
      obtain ⟨A, eA⟩ : ∃ A, bt16 S k = A := ⟨_, rfl⟩
      rw [eA] at c1 hi zA zP eV
      obtain ⟨P, eP⟩ : ∃ P, dt K A = P := ⟨_, rfl⟩
      rw [eP] at hi zP
      obtain ⟨V, eW⟩ : ∃ P, pvt f S k = P := ⟨_, rfl⟩
      rw [eW] at hi zV
      rw [eI] at hi
      rw [eW]
      have HQ := hide (show A.size = 16 ∧ dt K A = P ∧ P.size = 16 ∧ V.size = 16 from ⟨zA, eP, zP, zV⟩)
      have HV := hide (show pvt f S (k + 1) = A ∧ 16 * k = I ∧ 16 * n = N from ⟨eV, eI, zS.symm⟩)
      have HJ := hide (show ∀ i, i < 16 → gy (sb P) i ^^^ gy (sb V) i = gy (sb X) (I + i) from fun i h => hi i h1 h)
      have HB := hide (And.intro hR hB)
      have zPi : (P.size : Int) = 16 := by omega
      have zVi : (V.size : Int) = 16 := by omega
      clear hR hB hi zA zP zV eV eP eW eA eI zS h1
      go_wp2_with fail
      refine (dec_c K A _ c HL.out.1 HQ.out.1 HB.out.1).mono ?_
      rintro e wd ⟨rfl, hBd⟩
      rw [HQ.out.2.1]
      have HD := hide (show Row wd c 0 (bs (ciB (kw K))) ∧ Below w.heap.size w wd from ⟨HB.out.1.below hBd HB.out.1.lt, HB.out.2.trans (hBd.mono HB.out.2.size)⟩)
      clear hBd HB
      go_wp2_with fail
      go_loopg [15] 16 (fun g q wx => ∃ i : Nat, i + g = 16 ∧ q = .int .i64 i ∧ Row wx c 0 (bs (ciB (kw K))) ∧ Below w.heap.size w wx)
      case atStart => exact ⟨0, rfl, rfl, HD.out⟩
      case round =>
        obtain ⟨i, hig, rfl, hR, hB⟩ := hrel
        have HB := hide (And.intro hR hB)
        clear hR hB
        by_cases hi : i < 16
        · have hiI : (i : Int) < 16 := by omega
          obtain ⟨g4, rfl⟩ : ∃ g4, gk = g4 + 1 := ⟨gk - 1, by omega⟩
          have x1 := idx_gy P i (by have := HQ.out; omega)
          have x2 := idx_gy V i (by have := HQ.out; omega)
          have x3 := idx_gy X (I + i) (by have := HV.out; have := HZ.out; omega)
          have x4 := x8_int (gy (sb P) i) (gy (sb V) i)
          rw [HJ.out i hi] at x4
          obtain ⟨y1, e1⟩ : ∃ y, (gy (sb P) i).toNat = y := ⟨_, rfl⟩
          obtain ⟨y2, e2⟩ : ∃ y, (gy (sb V) i).toNat = y := ⟨_, rfl⟩
          obtain ⟨y3, e3⟩ : ∃ y, (gy (sb X) (I + i)).toNat = y := ⟨_, rfl⟩
          rw [e1] at x1 x4
          rw [e2] at x2 x4
          rw [e3] at x3 x4
          obtain ⟨J, eJ⟩ : ∃ J, I + i = J := ⟨_, rfl⟩
          rw [eJ] at x3
          have x5 : IntKind.i64.wrap ((I : Int) + (i : Int)) = (J : Int) := by rw [IntWalk.i64_in _ (by have := HV.out; have := HZ.out; omega)]; omega
          have hJN : (J : Int) < (N : Int) := by have := HV.out; have := HZ.out; omega
          clear e1 e2 e3 eJ
          go_wp2_with fail
          go_quiet (fail)
          go_wp2_with fail
          go_roundg g4
          case measure => omega
          case rel => exact ⟨i + 1, by omega, by go_num, HB.out.1.below (below_drewN (Below.refl _ _) nq) HB.out.1.lt, below_drewN HB.out.2 nq⟩
        · have hiI : ¬ (i : Int) < 16 := by omega
          go_wp2_with fail
          go_roundg g3
          case measure => omega
          case rel => exact ⟨k + 1, by omega, by rw [HV.out.1], by rw [show 16 * (k + 1) = I + 16 by have := HV.out; omega]; go_num, HB.out⟩
    · have g1 : ¬ (I : Int) < (N : Int) := by have := HZ.out; omega
      have HB := hide hB
      clear hR hB eI zS
      go_wp2_with fail
      go_ret
      exact ⟨rfl, HB.out⟩

theorem cbcBlocks_any (w : World) (K : ByteArray) (m0 : K.size ≤ 140737488351232) (f : ByteArray) (m1 : f.size ≤ 140737488351232) (d : ByteArray) (m2 : d.size ≤ 140737488351232) : Calls Try.prog 7 #[.string K, .string f, .string d] w fun e w' => e = .returned (.bool true) ∧ Below w.heap.size w w' := by
  by_cases hK : K.size ≤ 100
  · by_cases hf : f.size ≤ 100
    · by_cases hd : d.size ≤ 600
      · by_cases h : K.size = 32 ∧ f.size = 16
        · exact cbcBlocks_ok K f d w h.1 h.2 hd
        · exact cbcBlocks_bad K f d w hK hf hd (by omega)
      · exact cbcBlocks_no2 K f d w hK hf (by omega)
    · exact cbcBlocks_no1 K f d w hK (by omega)
  · exact cbcBlocks_no0 K f d w (by omega)

theorem cbcBlocks_own : ownKnob Try.prog.godebug = none := by kernel_rfl
theorem cbcBlocks_laidOut : laidOutB Try.prog = true := by kernel_rfl

set_option maxRecDepth 100000 in
theorem cbcBlocks_lifted (os : Os) (started : os.Started) (H : Type) (enc : TypeId × Value → H) :
    ReturnsInHanded {} Try.checked os 7 .any (Rows.cbcBlocksSpec.pre6 enc Try.prog Try.f7 Rows.cbcBlocksRow.domain false) (Rows.cbcBlocksSpec.post enc Try.prog Try.f7 false true false false) := by
  refine returnsInHanded_of_change_sized (C := Try.checked) cbcBlocks_own started (by kernel_rfl) Try.func7
    (ChangeSpec.witness6 (enc := enc) (C := Try.checked) false ⟨#[], #[.string ⟨#[]⟩, .string ⟨#[]⟩, .string ⟨#[]⟩], []⟩ 8 (by kernel_rfl) (by kernel_rfl) (by kernel_rfl) (by kernel_rfl)) ?_
  intro W base args ds gs before hval0 hW hcnd hsz0 _
  have hval : ∀ (j : Nat) t v, Try.f7.params[j]? = some t → args[j]? = some v → Value.okWide Try.prog W .any base t v := hval0
  have hW' := hW
  obtain ⟨p, q, hA0, hV, rfl, hfz, hnd⟩ := hW
  have hA : DataW.TrodAll enc Try.prog W 0 (fun _ => true) true Try.f7.params.toList args.toList ds p := hA0
  rw [Try.params7] at hA hval
  obtain ⟨v0, vs0, d0, ds0, p0, q0, hargs, rfl, rfl, h0, r0⟩ := trodAll_cons hA
  obtain ⟨v1, vs1, d1, ds1, p1, q1, rfl, rfl, rfl, h1, r1⟩ := trodAll_cons r0
  obtain ⟨v2, vs2, d2, ds2, p2, q2, rfl, rfl, rfl, h2, r2⟩ := trodAll_cons r1
  obtain ⟨rfl, rfl, rfl⟩ := trodAll_nil r2
  obtain rfl : args = #[v0, v1, v2] := by cases args; simp_all
  obtain ⟨rfl, rfl⟩ := trodVars_none hV
  obtain ⟨a0, rfl, rfl, rfl, w0⟩ := open_string Try.underlying9 (hval 0 9 v0 rfl rfl) h0
  have s0 : a0.size ≤ 140737488351232 := sized_string hsz0 (j := 0) (t := 9) rfl rfl
  obtain ⟨a1, rfl, rfl, rfl, w1⟩ := open_string Try.underlying9 (hval 1 9 v1 rfl rfl) h1
  have s1 : a1.size ≤ 140737488351232 := sized_string hsz0 (j := 1) (t := 9) rfl rfl
  obtain ⟨a2, rfl, rfl, rfl, w2⟩ := open_string Try.underlying9 (hval 2 9 v2 rfl rfl) h2
  have s2 : a2.size ≤ 140737488351232 := sized_string hsz0 (j := 2) (t := 9) rfl rfl
  clear hA0 hval0 hsz0
  simp only [List.append_nil] at hW'
  refine (cbcBlocks_any W a0 s0 a1 s1 a2 s2).mono fun e W' ⟨he, bel⟩ => ?_
  subst he
  exact ⟨_, rfl, _, _, _, [], _, [], hW', trodAll_mk1 (shut_bool Try.underlying4 _), (trodAll_cons_mk (shut_string Try.underlying9 w0) (trodAll_cons_mk (shut_string Try.underlying9 w1) (trodAll_cons_mk (shut_string Try.underlying9 w2) trodAll_mk0))), rfl, bel.frame _, fun h => by cases h⟩

theorem cbcBlocks_holds : Rows.CbcBlocksSaid :=
  OpenClaim.holds_of_wide 7 Try.f7 rfl rfl rfl rfl rfl rfl rfl ⟨rfl, rfl, rfl, rfl, rfl⟩ rfl rfl rfl rfl rfl (by kernel_rfl) Try.func7 (by kernel_rfl)
    (of_decide_eq_true (by kernel_rfl)) (by unfold Func.isWrapper; first | (rw [if_pos (by decide +kernel)]; kernel_rfl) | (rw [if_neg (by decide +kernel)]; exact ⟨rfl, rfl⟩))
    (fun os started H enc _ => cbcBlocks_lifted os started H enc)

#print axioms cbcBlocks_holds

end Go.Proofs.Ytknjmmbebkcnpaa
