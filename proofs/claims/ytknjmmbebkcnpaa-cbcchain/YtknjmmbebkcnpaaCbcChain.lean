/- For any key and first block and any two texts the statement CbcChain returns true and its arguments read as before. No condition. -/
import Derived.Test.YtknjmmbebkcnpaaRun13
import Derived.Deep.QuietTactic
import Derived.BigQuiet
namespace Go.Proofs.Ytknjmmbebkcnpaa
open Go.ChangeShapes Go.WideShapes Go.ChangeAt Go.RowKit Bk
open Go.ChangeMaps (open_string shut_string)
set_option linter.unusedVariables false
set_option linter.unusedSimpArgs false

theorem bne_txt {a b : ByteArray} (h : a ≠ b) : (a.toList != b.toList) = true := by
  unfold bne
  rw [toList_ne h]
  rfl

set_option maxRecDepth 100000 in
set_option maxHeartbeats 16000000 in
theorem cbcChain_no0 (K f a b : ByteArray) (w : World) (hK : K.size ≠ 32) : Calls Try.prog 6 #[.string K, .string f, .string a, .string b] w fun e w' => e = .returned (.bool true) ∧ Below w.heap.size w w' := by
  have qK : ((K.size : Int) != 32) = true := by rw [bne_iff_ne]; omega
  have pK : ((K.size : Int) == 32) = false := by simp; omega
  clear hK
  go_enter Try.func6, Try.ntmps6
  have HS0 := hide (Below.refl w.heap.size w)
  go_wp2_with fail
  refine (awakeC_any _).mono ?_
  rintro e w1 ⟨rfl, hB⟩
  have HS1 := hide (show Below w.heap.size w w1 from HS0.out.trans (hB.mono HS0.out.size))
  clear HS0 hB
  go_wp2_with fail
  go_ret
  exact ⟨rfl, HS1.out⟩

set_option maxRecDepth 100000 in
set_option maxHeartbeats 16000000 in
theorem cbcChain_no1 (K f a b : ByteArray) (w : World) (hK : K.size = 32) (hf : f.size ≠ 16) : Calls Try.prog 6 #[.string K, .string f, .string a, .string b] w fun e w' => e = .returned (.bool true) ∧ Below w.heap.size w w' := by
  have qK : ((K.size : Int) != 32) = false := by rw [hK]; rfl
  have pK : ((K.size : Int) == 32) = true := by rw [hK]; rfl
  have qf : ((f.size : Int) != 16) = true := by rw [bne_iff_ne]; omega
  have pf : ((f.size : Int) == 16) = false := by simp; omega
  clear hK hf
  go_enter Try.func6, Try.ntmps6
  have HS0 := hide (Below.refl w.heap.size w)
  go_wp2_with fail
  refine (awakeC_any _).mono ?_
  rintro e w1 ⟨rfl, hB⟩
  have HS1 := hide (show Below w.heap.size w w1 from HS0.out.trans (hB.mono HS0.out.size))
  clear HS0 hB
  go_wp2_with fail
  go_ret
  exact ⟨rfl, HS1.out⟩

set_option maxRecDepth 100000 in
set_option maxHeartbeats 16000000 in
theorem cbcChain_no2 (K f a b : ByteArray) (w : World) (hK : K.size = 32) (hf : f.size = 16) (ha : 600 < a.size) : Calls Try.prog 6 #[.string K, .string f, .string a, .string b] w fun e w' => e = .returned (.bool true) ∧ Below w.heap.size w w' := by
  have qK : ((K.size : Int) != 32) = false := by rw [hK]; rfl
  have pK : ((K.size : Int) == 32) = true := by rw [hK]; rfl
  have qf : ((f.size : Int) != 16) = false := by rw [hf]; rfl
  have pf : ((f.size : Int) == 16) = true := by rw [hf]; rfl
  have qa : (600 : Int) < (a.size : Int) := by omega
  clear hK hf ha
  go_enter Try.func6, Try.ntmps6
  have HS0 := hide (Below.refl w.heap.size w)
  go_wp2_with fail
  refine (awakeC_any _).mono ?_
  rintro e w1 ⟨rfl, hB⟩
  have HS1 := hide (show Below w.heap.size w w1 from HS0.out.trans (hB.mono HS0.out.size))
  clear HS0 hB
  go_wp2_with fail
  go_ret
  exact ⟨rfl, HS1.out⟩

set_option maxRecDepth 100000 in
set_option maxHeartbeats 16000000 in
theorem cbcChain_no3 (K f a b : ByteArray) (w : World) (hK : K.size = 32) (hf : f.size = 16) (ha : a.size ≤ 600) (hb : 600 < b.size) : Calls Try.prog 6 #[.string K, .string f, .string a, .string b] w fun e w' => e = .returned (.bool true) ∧ Below w.heap.size w w' := by
  have qK : ((K.size : Int) != 32) = false := by rw [hK]; rfl
  have pK : ((K.size : Int) == 32) = true := by rw [hK]; rfl
  have qf : ((f.size : Int) != 16) = false := by rw [hf]; rfl
  have pf : ((f.size : Int) == 16) = true := by rw [hf]; rfl
  have qa : ¬ (600 : Int) < (a.size : Int) := by omega
  have qb : (600 : Int) < (b.size : Int) := by omega
  clear hK hf ha hb
  go_enter Try.func6, Try.ntmps6
  have HS0 := hide (Below.refl w.heap.size w)
  go_wp2_with fail
  refine (awakeC_any _).mono ?_
  rintro e w1 ⟨rfl, hB⟩
  have HS1 := hide (show Below w.heap.size w w1 from HS0.out.trans (hB.mono HS0.out.size))
  clear HS0 hB
  go_wp2_with fail
  go_ret
  exact ⟨rfl, HS1.out⟩

set_option maxRecDepth 100000 in
set_option maxHeartbeats 16000000 in
theorem cbcChain_ok (K f a b : ByteArray) (w : World) (hK : K.size = 32) (hf : f.size = 16) (ha : a.size ≤ 600) (hb : b.size ≤ 600) : Calls Try.prog 6 #[.string K, .string f, .string a, .string b] w fun e w' => e = .returned (.bool true) ∧ Below w.heap.size w w' := by
  have hmx : Try.prog.follows .mixedOrders = true := by kernel_rfl
  have qK : ((K.size : Int) != 32) = false := by rw [hK]; rfl
  have pK : ((K.size : Int) == 32) = true := by rw [hK]; rfl
  have qf : ((f.size : Int) != 16) = false := by rw [hf]; rfl
  have pf : ((f.size : Int) == 16) = true := by rw [hf]; rfl
  have qa : ¬ (600 : Int) < (a.size : Int) := by omega
  have qb : ¬ (600 : Int) < (b.size : Int) := by omega
  have hI : ∀ k, k < fb a.size → k < fb b.size → (∀ j, j < k → bt16 (frm a) j = bt16 (frm b) j) → (bt16 (seT K f a) k = bt16 (seT K f b) k ↔ bt16 (frm a) k = bt16 (frm b) k) := fun k h1 h2 h3 => chain_iff hK hf h1 h2 h3
  have zS := seT_blocks a hK hf
  have zT := seT_blocks b hK hf
  have zX := frm_blocks a
  have zY := frm_blocks b
  have hn : fb a.size ≤ 40 := by have := lk_lt a.size; unfold fb; omega
  have hm : fb b.size ≤ 40 := by have := lk_lt b.size; unfold fb; omega
  obtain ⟨S, eS⟩ : ∃ S, seT K f a = S := ⟨_, rfl⟩
  obtain ⟨T, eT⟩ : ∃ S, seT K f b = S := ⟨_, rfl⟩
  obtain ⟨X, eX⟩ : ∃ S, frm a = S := ⟨_, rfl⟩
  obtain ⟨Y, eY⟩ : ∃ S, frm b = S := ⟨_, rfl⟩
  obtain ⟨n, en⟩ : ∃ S, fb a.size = S := ⟨_, rfl⟩
  obtain ⟨m, em⟩ : ∃ S, fb b.size = S := ⟨_, rfl⟩
  rw [eS, eT, eX, eY, en, em] at hI
  rw [eS, en] at zS
  rw [eT, em] at zT
  rw [eX, en] at zX
  rw [eY, em] at zY
  rw [en] at hn
  rw [em] at hm
  have HL := hide (And.intro hK (And.intro hf (And.intro ha hb)))
  have HE := hide (And.intro eS (And.intro eT (And.intro eX eY)))
  have HI := hide hI
  have HZ := hide (show S.size = 16 * n ∧ T.size = 16 * m ∧ X.size = 16 * n ∧ Y.size = 16 * m ∧ n ≤ 40 ∧ m ≤ 40 from ⟨zS, zT, zX, zY, hn, hm⟩)
  clear hK hf ha hb eS eT eX eY en em hI zS zT zX zY hn hm
  go_enter Try.func6, Try.ntmps6
  have HS0 := hide (Below.refl w.heap.size w)
  go_wp2_with fail
  refine (awakeC_any _).mono ?_
  rintro e w1 ⟨rfl, hB⟩
  have HS1 := hide (show Below w.heap.size w w1 from HS0.out.trans (hB.mono HS0.out.size))
  clear HS0 hB
  go_wp2_with fail
  refine (cSeal_ok K f a _ HL.out.1 HL.out.2.1 (by have := HL.out.2.2.1; omega)).mono ?_
  rintro e w2 ⟨rfl, hB⟩
  rw [HE.out.1]
  have HS2 := hide (show Below w.heap.size w w2 from HS1.out.trans (hB.mono HS1.out.size))
  clear HS1 hB
  go_wp2_with fail
  refine (cSeal_ok K f b _ HL.out.1 HL.out.2.1 (by have := HL.out.2.2.2; omega)).mono ?_
  rintro e w3 ⟨rfl, hB⟩
  rw [HE.out.2.1]
  have HS3 := hide (show Below w.heap.size w w3 from HS2.out.trans (hB.mono HS2.out.size))
  clear HS2 hB
  go_wp2_with fail
  refine (cFrame_any a _ (by have := HL.out.2.2.1; omega)).mono ?_
  rintro e w4 ⟨rfl, hB⟩
  rw [HE.out.2.2.1]
  have HS4 := hide (show Below w.heap.size w w4 from HS3.out.trans (hB.mono HS3.out.size))
  clear HS3 hB
  go_wp2_with fail
  refine (cFrame_any b _ (by have := HL.out.2.2.2; omega)).mono ?_
  rintro e w5 ⟨rfl, hB⟩
  rw [HE.out.2.2.2]
  have HS5 := hide (show Below w.heap.size w w5 from HS4.out.trans (hB.mono HS4.out.size))
  clear HS4 hB
  go_wp2_with fail
  obtain ⟨NX, hNX⟩ : ∃ N, X.size = N := ⟨_, rfl⟩
  obtain ⟨NY, hNY⟩ : ∃ N, Y.size = N := ⟨_, rfl⟩
  go_loopg [15] 41 (fun g q wr => ∃ k : Nat, k + g = 41 ∧ k ≤ n ∧ k ≤ m ∧ q = .int .i64 ((16 * k : Nat) : Int) ∧ (∀ j, j < k → bt16 X j = bt16 Y j) ∧ Below w.heap.size w wr)
  case atStart => exact ⟨0, rfl, Nat.zero_le _, Nat.zero_le _, rfl, fun j hj => by omega, HS5.out⟩
  case round =>
    obtain ⟨k, hkg, hkn, hkm, rfl, hj, hB⟩ := hrel
    obtain ⟨I, eI⟩ : ∃ I, 16 * k = I := ⟨_, rfl⟩
    rw [eI]
    have zX := HZ.out.2.2.1
    have zY := HZ.out.2.2.2.1
    rw [hNX] at zX
    rw [hNY] at zY
    have v1 := IntWalk.i64_in ((I : Int) + 16) (by have := HZ.out; omega)
    by_cases h1 : k < n
    · have g1 : (I : Int) + 16 ≤ (NX : Int) := by omega
      by_cases h2 : k < m
      · have g2 : (I : Int) + 16 ≤ (NY : Int) := by omega
        obtain ⟨g3, rfl⟩ : ∃ g3, gk = g3 + 1 := ⟨gk - 1, by have := HZ.out; omega⟩
        have c1 := cut16 S k I eI.symm (by have := HZ.out; omega)
        have c2 := cut16 T k I eI.symm (by have := HZ.out; omega)
        have c3 := cut16 X k I eI.symm (by have := HZ.out; omega)
        have c4 := cut16 Y k I eI.symm (by have := HZ.out; omega)
        have hi := HI.out k h1 h2 hj
        obtain ⟨A, eA⟩ : ∃ A, bt16 S k = A := ⟨_, rfl⟩
        obtain ⟨B, eB⟩ : ∃ A, bt16 T k = A := ⟨_, rfl⟩
        obtain ⟨C, eC⟩ : ∃ A, bt16 X k = A := ⟨_, rfl⟩
        obtain ⟨D, eD⟩ : ∃ A, bt16 Y k = A := ⟨_, rfl⟩
        rw [eA] at c1 hi
        rw [eB] at c2 hi
        rw [eC] at c3 hi
        rw [eD] at c4 hi
        by_cases he : A = B
        · have he2 := hi.1 he
          subst he
          subst he2
          have HJ := hide (show ∀ j, j < k + 1 → bt16 X j = bt16 Y j from fun j h => by
            by_cases e : j = k
            · rw [e, eC, eD]
            · exact hj j (by omega))
          have HB := hide hB
          have HI2 := hide eI
          have v2 := IntWalk.i64_in ((I : Int) + 16) (by have := HZ.out; omega)
          clear hj hB eA eB eC eD hi eI zX zY
          go_wp2_with fail
          go_quiet (fail)
          go_wp2_with fail
          go_roundg g3
          case measure => omega
          case rel => exact ⟨k + 1, by omega, by omega, by omega, by rw [show 16 * (k + 1) = I + 16 by have := HI2.out; omega]; go_num, HJ.out, below_drewN HB.out nq⟩
        · have he2 : C ≠ D := fun h => he (hi.2 h)
          have q1 := bne_txt he
          have q2 := toList_ne he
          have q3 := toList_ne he2
          have HB := hide hB
          clear hj hB eA eB eC eD hi eI zX zY he he2
          go_wp2_with fail
          go_quiet (fail)
          go_wp2_with fail
          go_quiet (fail)
          go_wp2_with fail
          go_ret
          exact ⟨rfl, below_drewN (below_drewN HB.out _) _⟩
      · have g2 : ¬ (I : Int) + 16 ≤ (NY : Int) := by omega
        have HB := hide hB
        clear hj hB eI zX zY
        go_wp2_with fail
        go_ret
        exact ⟨rfl, HB.out⟩
    · have g1 : ¬ (I : Int) + 16 ≤ (NX : Int) := by omega
      have HB := hide hB
      clear hj hB eI zX zY
      go_wp2_with fail
      go_ret
      exact ⟨rfl, HB.out⟩

theorem cbcChain_any (w : World) (K : ByteArray) (m0 : K.size ≤ 140737488351232) (f : ByteArray) (m1 : f.size ≤ 140737488351232) (a : ByteArray) (m2 : a.size ≤ 140737488351232) (b : ByteArray) (m3 : b.size ≤ 140737488351232) : Calls Try.prog 6 #[.string K, .string f, .string a, .string b] w fun e w' => e = .returned (.bool true) ∧ Below w.heap.size w w' := by
  by_cases hK : K.size = 32
  · skip
    by_cases hf : f.size = 16
    · skip
      by_cases ha : a.size ≤ 600
      · skip
        by_cases hb : b.size ≤ 600
        · exact cbcChain_ok K f a b w hK hf ha hb
        · exact cbcChain_no3 K f a b w hK hf ha (by omega)
      · exact cbcChain_no2 K f a b w hK hf (by omega)
    · exact cbcChain_no1 K f a b w hK hf
  · exact cbcChain_no0 K f a b w  hK

theorem cbcChain_own : ownKnob Try.prog.godebug = none := by kernel_rfl
theorem cbcChain_laidOut : laidOutB Try.prog = true := by kernel_rfl

set_option maxRecDepth 100000 in
theorem cbcChain_lifted (os : Os) (started : os.Started) (H : Type) (enc : TypeId × Value → H) :
    ReturnsInHanded {} Try.checked os 6 .any (Rows.cbcChainSpec.pre6 enc Try.prog Try.f6 Rows.cbcChainRow.domain false) (Rows.cbcChainSpec.post enc Try.prog Try.f6 false true false false) := by
  refine returnsInHanded_of_change_sized (C := Try.checked) cbcChain_own started (by kernel_rfl) Try.func6
    (ChangeSpec.witness6 (enc := enc) (C := Try.checked) false ⟨#[], #[.string ⟨#[]⟩, .string ⟨#[]⟩, .string ⟨#[]⟩, .string ⟨#[]⟩], []⟩ 8 (by kernel_rfl) (by kernel_rfl) (by kernel_rfl) (by kernel_rfl)) ?_
  intro W base args ds gs before hval0 hW hcnd hsz0 _
  have hval : ∀ (j : Nat) t v, Try.f6.params[j]? = some t → args[j]? = some v → Value.okWide Try.prog W .any base t v := hval0
  have hW' := hW
  obtain ⟨p, q, hA0, hV, rfl, hfz, hnd⟩ := hW
  have hA : DataW.TrodAll enc Try.prog W 0 (fun _ => true) true Try.f6.params.toList args.toList ds p := hA0
  rw [Try.params6] at hA hval
  obtain ⟨v0, vs0, d0, ds0, p0, q0, hargs, rfl, rfl, h0, r0⟩ := trodAll_cons hA
  obtain ⟨v1, vs1, d1, ds1, p1, q1, rfl, rfl, rfl, h1, r1⟩ := trodAll_cons r0
  obtain ⟨v2, vs2, d2, ds2, p2, q2, rfl, rfl, rfl, h2, r2⟩ := trodAll_cons r1
  obtain ⟨v3, vs3, d3, ds3, p3, q3, rfl, rfl, rfl, h3, r3⟩ := trodAll_cons r2
  obtain ⟨rfl, rfl, rfl⟩ := trodAll_nil r3
  obtain rfl : args = #[v0, v1, v2, v3] := by cases args; simp_all
  obtain ⟨rfl, rfl⟩ := trodVars_none hV
  obtain ⟨a0, rfl, rfl, rfl, w0⟩ := open_string Try.underlying9 (hval 0 9 v0 rfl rfl) h0
  have s0 : a0.size ≤ 140737488351232 := sized_string hsz0 (j := 0) (t := 9) rfl rfl
  obtain ⟨a1, rfl, rfl, rfl, w1⟩ := open_string Try.underlying9 (hval 1 9 v1 rfl rfl) h1
  have s1 : a1.size ≤ 140737488351232 := sized_string hsz0 (j := 1) (t := 9) rfl rfl
  obtain ⟨a2, rfl, rfl, rfl, w2⟩ := open_string Try.underlying9 (hval 2 9 v2 rfl rfl) h2
  have s2 : a2.size ≤ 140737488351232 := sized_string hsz0 (j := 2) (t := 9) rfl rfl
  obtain ⟨a3, rfl, rfl, rfl, w3⟩ := open_string Try.underlying9 (hval 3 9 v3 rfl rfl) h3
  have s3 : a3.size ≤ 140737488351232 := sized_string hsz0 (j := 3) (t := 9) rfl rfl
  clear hA0 hval0 hsz0
  simp only [List.append_nil] at hW'
  refine (cbcChain_any W a0 s0 a1 s1 a2 s2 a3 s3).mono fun e W' ⟨he, bel⟩ => ?_
  subst he
  exact ⟨_, rfl, _, _, _, [], _, [], hW', trodAll_mk1 (shut_bool Try.underlying4 _), (trodAll_cons_mk (shut_string Try.underlying9 w0) (trodAll_cons_mk (shut_string Try.underlying9 w1) (trodAll_cons_mk (shut_string Try.underlying9 w2) (trodAll_cons_mk (shut_string Try.underlying9 w3) trodAll_mk0)))), rfl, bel.frame _, fun h => by cases h⟩

theorem cbcChain_holds : Rows.CbcChainSaid :=
  OpenClaim.holds_of_wide 6 Try.f6 rfl rfl rfl rfl rfl rfl rfl ⟨rfl, rfl, rfl, rfl, rfl⟩ rfl rfl rfl rfl rfl (by kernel_rfl) Try.func6 (by kernel_rfl)
    (of_decide_eq_true (by kernel_rfl)) (by unfold Func.isWrapper; first | (rw [if_pos (by decide +kernel)]; kernel_rfl) | (rw [if_neg (by decide +kernel)]; exact ⟨rfl, rfl⟩))
    (fun os started H enc _ => cbcChain_lifted os started H enc)

#print axioms cbcChain_holds

end Go.Proofs.Ytknjmmbebkcnpaa
