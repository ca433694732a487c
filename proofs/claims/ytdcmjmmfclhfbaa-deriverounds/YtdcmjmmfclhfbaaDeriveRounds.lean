/- For any password, salt, number of rounds and block the statement DeriveRounds returns true and its arguments read as before. No condition. -/
import Derived.Test.YtdcmjmmfclhfbaaKArgs
namespace Go.Proofs.Ytdcmjmmfclhfbaa
open Go.ChangeShapes Go.WideShapes Go.ChangeAt Go.RowKit Bk
open Go.ChangeMaps (open_string shut_string)
set_option linter.unusedVariables false
set_option linter.unusedSimpArgs false

theorem st_size {p s : ByteArray} {n b : Int} (h : okS p s n b) : (st p s n b).size = 32 := by rw [st_ok h]; exact dst_size _ _ _
set_option maxRecDepth 100000 in
set_option maxHeartbeats 8000000 in
theorem deriveRounds_big0 (p s : ByteArray) (n b : Int) (w : World) (h : 300 < p.size) : Calls Try.prog 5 #[.string p, .string s, .int .i64 n, .int .i64 b] w fun e w' => e = .returned (.bool true) ∧ Below w.heap.size w w' := by
  have f0 : (300 : Int) < (p.size : Int) := by omega
  clear h
  go_enter Try.func5, Try.ntmps5
  have HB0 := hide (Below.refl w.heap.size w)
  go_wp2_with fail
  refine (awake8_any _).mono ?_
  rintro e w1 ⟨rfl, hw1⟩
  have HB1 := hide (HB0.out.trans (hw1.mono HB0.out.size))
  clear hw1 HB0
  go_wp2_with fail
  go_ret
  exact ⟨rfl, HB1.out⟩

set_option maxRecDepth 100000 in
set_option maxHeartbeats 8000000 in
theorem deriveRounds_big1 (p s : ByteArray) (n b : Int) (w : World) (h : p.size ≤ 300 ∧ 100 < s.size) : Calls Try.prog 5 #[.string p, .string s, .int .i64 n, .int .i64 b] w fun e w' => e = .returned (.bool true) ∧ Below w.heap.size w w' := by
  have f0 : ¬ ((300 : Int) < (p.size : Int)) := by omega
  have f1 : (100 : Int) < (s.size : Int) := by omega
  clear h
  go_enter Try.func5, Try.ntmps5
  have HB0 := hide (Below.refl w.heap.size w)
  go_wp2_with fail
  refine (awake8_any _).mono ?_
  rintro e w1 ⟨rfl, hw1⟩
  have HB1 := hide (HB0.out.trans (hw1.mono HB0.out.size))
  clear hw1 HB0
  go_wp2_with fail
  go_ret
  exact ⟨rfl, HB1.out⟩

set_option maxRecDepth 100000 in
set_option maxHeartbeats 8000000 in
theorem deriveRounds_b (p s : ByteArray) (n b : Int) (w : World) (b0 : p.size ≤ 300) (b1 : s.size ≤ 100) (m : Int) (hm : IntKind.i64.wrap (n + 1) = m) (h1 : okS p s n b) (h2 : ¬ okS p s m b) : Calls Try.prog 5 #[.string p, .string s, .int .i64 n, .int .i64 b] w fun e w' => e = .returned (.bool true) ∧ Below w.heap.size w w' := by
  have f0 : ¬ ((300 : Int) < (p.size : Int)) := by omega
  have f1 : ¬ ((100 : Int) < (s.size : Int)) := by omega
  obtain ⟨X0, eX0⟩ : ∃ X, st p s n b = X := ⟨_, rfl⟩
  have z0 : X0.size = 32 := by rw [← eX0]; exact st_size h1
  have z0I : (X0.size : Int) = 32 := by omega
  have H0 := hide (And.intro (se_ok h1) eX0)
  clear eX0
  have H1 := hide (And.intro (se_no h2) (st_no h2))
  clear b0 b1 h1 h2
  go_enter Try.func5, Try.ntmps5
  have HB0 := hide (Below.refl w.heap.size w)
  go_wp2_with fail
  refine (awake8_any _).mono ?_
  rintro e w1 ⟨rfl, hw1⟩
  have HB1 := hide (HB0.out.trans (hw1.mono HB0.out.size))
  clear hw1 HB0
  go_wp2_with fail
  refine (stretch_any p s n b _).mono ?_
  rintro e w2 ⟨rfl, hw2⟩
  rw [H0.out.1, H0.out.2]
  have HB2 := hide (HB1.out.trans (hw2.mono HB1.out.size))
  clear hw2 HB1
  go_wp2_with fail
  refine (stretch_any p s m b _).mono ?_
  rintro e w3 ⟨rfl, hw3⟩
  rw [H1.out.1, H1.out.2]
  have HB3 := hide (HB2.out.trans (hw3.mono HB2.out.size))
  clear hw3 HB2
  go_wp2_with fail
  go_ret
  exact ⟨rfl, HB3.out⟩

set_option maxRecDepth 100000 in
set_option maxHeartbeats 8000000 in
theorem deriveRounds_c (p s : ByteArray) (n b : Int) (w : World) (b0 : p.size ≤ 300) (b1 : s.size ≤ 100) (m : Int) (hm : IntKind.i64.wrap (n + 1) = m) (h1 : ¬ okS p s n b) (h2 : okS p s m b) : Calls Try.prog 5 #[.string p, .string s, .int .i64 n, .int .i64 b] w fun e w' => e = .returned (.bool true) ∧ Below w.heap.size w w' := by
  have f0 : ¬ ((300 : Int) < (p.size : Int)) := by omega
  have f1 : ¬ ((100 : Int) < (s.size : Int)) := by omega
  have H0 := hide (And.intro (se_no h1) (st_no h1))
  obtain ⟨X1, eX1⟩ : ∃ X, st p s m b = X := ⟨_, rfl⟩
  have z1 : X1.size = 32 := by rw [← eX1]; exact st_size h2
  have z1I : (X1.size : Int) = 32 := by omega
  have H1 := hide (And.intro (se_ok h2) eX1)
  clear eX1
  clear b0 b1 h1 h2
  go_enter Try.func5, Try.ntmps5
  have HB0 := hide (Below.refl w.heap.size w)
  go_wp2_with fail
  refine (awake8_any _).mono ?_
  rintro e w1 ⟨rfl, hw1⟩
  have HB1 := hide (HB0.out.trans (hw1.mono HB0.out.size))
  clear hw1 HB0
  go_wp2_with fail
  refine (stretch_any p s n b _).mono ?_
  rintro e w2 ⟨rfl, hw2⟩
  rw [H0.out.1, H0.out.2]
  have HB2 := hide (HB1.out.trans (hw2.mono HB1.out.size))
  clear hw2 HB1
  go_wp2_with fail
  refine (stretch_any p s m b _).mono ?_
  rintro e w3 ⟨rfl, hw3⟩
  rw [H1.out.1, H1.out.2]
  have HB3 := hide (HB2.out.trans (hw3.mono HB2.out.size))
  clear hw3 HB2
  go_wp2_with fail
  go_ret
  exact ⟨rfl, HB3.out⟩

set_option maxRecDepth 100000 in
set_option maxHeartbeats 8000000 in
theorem deriveRounds_d (p s : ByteArray) (n b : Int) (w : World) (b0 : p.size ≤ 300) (b1 : s.size ≤ 100) (m : Int) (hm : IntKind.i64.wrap (n + 1) = m) (h1 : ¬ okS p s n b) (h2 : ¬ okS p s m b) : Calls Try.prog 5 #[.string p, .string s, .int .i64 n, .int .i64 b] w fun e w' => e = .returned (.bool true) ∧ Below w.heap.size w w' := by
  have f0 : ¬ ((300 : Int) < (p.size : Int)) := by omega
  have f1 : ¬ ((100 : Int) < (s.size : Int)) := by omega
  have H0 := hide (And.intro (se_no h1) (st_no h1))
  have H1 := hide (And.intro (se_no h2) (st_no h2))
  clear b0 b1 h1 h2
  go_enter Try.func5, Try.ntmps5
  have HB0 := hide (Below.refl w.heap.size w)
  go_wp2_with fail
  refine (awake8_any _).mono ?_
  rintro e w1 ⟨rfl, hw1⟩
  have HB1 := hide (HB0.out.trans (hw1.mono HB0.out.size))
  clear hw1 HB0
  go_wp2_with fail
  refine (stretch_any p s n b _).mono ?_
  rintro e w2 ⟨rfl, hw2⟩
  rw [H0.out.1, H0.out.2]
  have HB2 := hide (HB1.out.trans (hw2.mono HB1.out.size))
  clear hw2 HB1
  go_wp2_with fail
  refine (stretch_any p s m b _).mono ?_
  rintro e w3 ⟨rfl, hw3⟩
  rw [H1.out.1, H1.out.2]
  have HB3 := hide (HB2.out.trans (hw3.mono HB2.out.size))
  clear hw3 HB2
  go_wp2_with fail
  go_ret
  exact ⟨rfl, HB3.out⟩

set_option maxRecDepth 100000 in
set_option maxHeartbeats 8000000 in
theorem deriveRounds_a (p s : ByteArray) (n b : Nat) (w : World) (b0 : p.size ≤ 300) (b1 : s.size ≤ 100) (h1 : okS p s n b) (h2 : okS p s (n + 1 : Nat) b) : Calls Try.prog 5 #[.string p, .string s, .int .i64 n, .int .i64 b] w fun e w' => e = .returned (.bool true) ∧ Below w.heap.size w w' := by
  have f0 : ¬ ((300 : Int) < (p.size : Int)) := by omega
  have f1 : ¬ ((100 : Int) < (s.size : Int)) := by omega
  have hbn : b ≤ 2147483647 := by omega
  have hbI : (b : Int) ≤ 2147483647 := by omega
  have hnI : (n : Int) ≤ 64 := h1.1.2.2.2
  have hm : IntKind.i64.wrap ((n : Int) + 1) = ((n + 1 : Nat) : Int) := by rw [IntWalk.i64_in _ (by omega)]; omega
  obtain ⟨N4, eN⟩ : ∃ N4, nb4 b = N4 := ⟨_, rfl⟩
  obtain ⟨F, eF⟩ : ∃ F, s ++ N4 = F := ⟨_, rfl⟩
  have h4 : N4.size = 4 := by rw [← eN]; rfl
  have hxx := number_text b hbn
  rw [eN] at hxx
  have hEF : s ++ nb4 b = F := by rw [eN]; exact eF
  obtain ⟨X0, e0⟩ : ∃ X, dst p F n = X := ⟨_, rfl⟩
  obtain ⟨X1, e1⟩ : ∃ X, dst p F (n + 1) = X := ⟨_, rfl⟩
  obtain ⟨U, eU⟩ : ∃ U, dtx p F n = U := ⟨_, rfl⟩
  obtain ⟨K1, k1⟩ : ∃ K, kk p s n = K := ⟨_, rfl⟩
  obtain ⟨C1, k2⟩ : ∃ K, kc p s n = K := ⟨_, rfl⟩
  obtain ⟨S2, k3⟩ : ∃ K, st p s n 2 = K := ⟨_, rfl⟩
  have z0 : X0.size = 32 := by rw [← e0]; exact dst_size _ _ _
  have zU : U.size = 32 := by rw [← eU]; exact dtx_size _ _ _
  have z2 : S2.size = 32 := by rw [← k3]; exact st_size ⟨h1.1, by decide, by decide⟩
  have z0I : (X0.size : Int) = 32 := by omega
  have z2I : (S2.size : Int) = 32 := by omega
  have hC : S2.extract 0 8 = C1 := by rw [← k3, ← k2, st_ok ⟨h1.1, by decide, by decide⟩, kc_ok h1.1]; rfl
  have HA := hide (show se p s n b = 0 ∧ st p s n b = X0 from ⟨se_ok h1, by rw [st_ok h1, ← e0, ← hEF]; rfl⟩)
  have HB9 := hide (show se p s (n + 1 : Nat) b = 0 ∧ st p s (n + 1 : Nat) b = X1 from ⟨se_ok h2, by rw [st_ok h2, ← e1, ← hEF]; rfl⟩)
  have HC := hide (show ke p s n = 0 ∧ kk p s n = K1 ∧ kc p s n = C1 from ⟨ke_ok h1.1, k1, k2⟩)
  have HD := hide (show se p s n 1 = 0 ∧ st p s n 1 = K1 from ⟨se_ok ⟨h1.1, by decide, by decide⟩, by rw [st_ok ⟨h1.1, by decide, by decide⟩, ← k1, kk_ok h1.1]; rfl⟩)
  have HE := hide (show se p s n 2 = 0 ∧ st p s n 2 = S2 from ⟨se_ok ⟨h1.1, by decide, by decide⟩, k3⟩)
  have HX := hide (show (⟨(kx (sb X0) (sb U)).toArray⟩ : ByteArray) = X1 by rw [← e0, ← e1, ← eU]; exact congrArg (fun l => (⟨l.toArray⟩ : ByteArray)) (kxo_succ (sb p) (sb F) n).symm)
  have HU := hide eU
  have HZ := hide (show p.size < 576460752303423488 ∧ F.size < 576460752303423488 by rw [← eF, ByteArray.size_append, h4]; omega)
  have HZZ := hide (And.intro z0 zU)
  have b2 : s.size ≤ 100 := b1
  clear b0 b1 e0 e1 eU k1 k2 k3 eN hEF h1 h2 zU
  go_enter Try.func5, Try.ntmps5
  have HB0 := hide (Below.refl w.heap.size w)
  go_wp2_with fail
  refine (awake8_any _).mono ?_
  rintro e w1 ⟨rfl, hw1⟩
  have HB1 := hide (HB0.out.trans (hw1.mono HB0.out.size))
  clear hw1 HB0
  go_wp2_with fail
  refine (stretch_any p s n b _).mono ?_
  rintro e w2 ⟨rfl, hw2⟩
  rw [HA.out.1, HA.out.2]
  have HB2 := hide (HB1.out.trans (hw2.mono HB1.out.size))
  clear hw2 HB1
  go_wp2_with fail
  refine (stretch_any p s (n + 1 : Nat) b _).mono ?_
  rintro e w3 ⟨rfl, hw3⟩
  rw [HB9.out.1, HB9.out.2]
  have HB3 := hide (HB2.out.trans (hw3.mono HB2.out.size))
  clear hw3 HB2
  go_wp2_with fail
  refine (shmac_any p F _ HZ.out.1 HZ.out.2).mono ?_
  rintro e w4 ⟨rfl, hw4⟩
  have HB4 := hide ((HB3.out.alloc HB3.out.size _).trans (hw4.mono (by rw [World.size_alloc]; have := HB3.out.size; omega)))
  clear hw4 HB3
  go_wp2_with fail
  go_loopg [13, 14] n (fun g9 u t wr => ∃ k : Nat, k + g9 = n ∧ u = .string (dtx p F k) ∧ t = .int .i64 k ∧ Below w.heap.size w wr)
  case atStart => exact ⟨0, by omega, rfl, rfl, HB4.out⟩
  case round =>
    clear HB4
    obtain ⟨k, hkg, rfl, rfl, hB⟩ := hrel
    have HB4 := hide hB
    clear hB
    by_cases hlt : k < n
    · have hltI : (k : Int) < (n : Int) := by omega
      obtain ⟨g3, rfl⟩ : ∃ g3, gk = g3 + 1 := ⟨gk - 1, by omega⟩
      obtain ⟨T, eT⟩ : ∃ T, dtx p F k = T := ⟨_, rfl⟩
      have zT : T.size < 576460752303423488 := by rw [← eT, dtx_size]; decide
      have HT := hide (And.intro (show shm p T = dtx p F (k + 1) by rw [← eT]; rfl) zT)
      rw [eT]
      clear eT zT
      go_wp2_with fail
      refine (shmac_any p T _ HZ.out.1 HT.out.2).mono ?_
      rintro e w5 ⟨rfl, hw5⟩
      rw [HT.out.1]
      have HB5 := hide (HB4.out.trans (hw5.mono HB4.out.size))
      clear hw5 HB4
      go_wp2_with fail
      go_roundg g3
      case measure => omega
      case rel => exact ⟨k + 1, by omega, rfl, by go_num, HB5.out⟩
    · obtain rfl : k = n := by omega
      rw [HU.out]
      go_wp2_with fail
      refine (key_any p s k _).mono ?_
      rintro e w5 ⟨rfl, hw5⟩
      rw [HC.out.1, HC.out.2.1, HC.out.2.2]
      have HB5 := hide (HB4.out.trans (hw5.mono HB4.out.size))
      clear hw5 HB4
      go_wp2_with fail
      refine (stretch_any p s k 1 _).mono ?_
      rintro e w6 ⟨rfl, hw6⟩
      rw [HD.out.1, HD.out.2]
      have HB6 := hide (HB5.out.trans (hw6.mono HB5.out.size))
      clear hw6 HB5
      go_wp2_with fail
      refine (stretch_any p s k 2 _).mono ?_
      rintro e w7 ⟨rfl, hw7⟩
      rw [HE.out.1, HE.out.2]
      have HB7 := hide (HB6.out.trans (hw7.mono HB6.out.size))
      clear hw7 HB6
      go_wp2_with fail
      refine (xor8_any X0 U _ HZZ.out.1 HZZ.out.2).mono ?_
      rintro e w8 ⟨rfl, hw8⟩
      rw [HX.out]
      have HB8 := hide (HB7.out.trans (hw8.mono HB7.out.size))
      clear hw8 HB7
      go_wp2_with fail
      go_ret
      exact ⟨rfl, HB8.out⟩

theorem deriveRounds_any (w : World) (p : ByteArray) (m0 : p.size ≤ 140737488351232) (s : ByteArray) (m1 : s.size ≤ 140737488351232) (n : Int) (bn : -9223372036854775808 ≤ n ∧ n ≤ 9223372036854775807) (b : Int) (bb : -9223372036854775808 ≤ b ∧ b ≤ 9223372036854775807) :
    Calls Try.prog 5 #[.string p, .string s, .int .i64 n, .int .i64 b] w fun e w' => e = .returned (.bool true) ∧ Below w.heap.size w w' := by
  by_cases h0 : 300 < p.size
  · exact deriveRounds_big0 p s n b w h0
  · by_cases h1 : 100 < s.size
    · exact deriveRounds_big1 p s n b w ⟨by omega, h1⟩
    · obtain ⟨m, hm⟩ : ∃ m, IntKind.i64.wrap (n + 1) = m := ⟨_, rfl⟩
      by_cases hn : okS p s n b
      · by_cases hb : okS p s m b
        · have e1 : IntKind.i64.wrap (n + 1) = n + 1 := by have := hn.1.2.2; rw [IntWalk.i64_in _ (by omega)]
          obtain rfl : m = n + 1 := hm.symm.trans e1
          obtain ⟨nn, rfl⟩ : ∃ k : Nat, n = (k : Int) := ⟨n.toNat, by have := hn.1.2.2; omega⟩
          obtain ⟨kb, rfl⟩ : ∃ k : Nat, b = (k : Int) := ⟨b.toNat, by have := hn.2; omega⟩
          exact deriveRounds_a p s nn kb w (by omega) (by omega) hn (by rw [show ((nn + 1 : Nat) : Int) = (nn : Int) + 1 by omega]; exact hb)
        · exact deriveRounds_b p s n b w (by omega) (by omega) m hm hn hb
      · by_cases hb : okS p s m b
        · exact deriveRounds_c p s n b w (by omega) (by omega) m hm hn hb
        · exact deriveRounds_d p s n b w (by omega) (by omega) m hm hn hb

theorem deriveRounds_own : ownKnob Try.prog.godebug = none := by kernel_rfl
theorem deriveRounds_laidOut : laidOutB Try.prog = true := by kernel_rfl

set_option maxRecDepth 100000 in
theorem deriveRounds_lifted (os : Os) (started : os.Started) (H : Type) (enc : TypeId × Value → H) :
    ReturnsInHanded {} Try.checked os 5 .any (Rows.deriveRoundsSpec.pre6 enc Try.prog Try.f5 Rows.deriveRoundsRow.domain false) (Rows.deriveRoundsSpec.post enc Try.prog Try.f5 false true false false) := by
  refine returnsInHanded_of_change_sized (C := Try.checked) deriveRounds_own started (by kernel_rfl) Try.func5
    (ChangeSpec.witness6 (enc := enc) (C := Try.checked) false ⟨#[], #[.string ⟨#[]⟩, .string ⟨#[]⟩, .int .i64 0, .int .i64 0], []⟩ 8 (by kernel_rfl) (by kernel_rfl) (by kernel_rfl) (by kernel_rfl)) ?_
  intro W base args ds gs before hval0 hW hcnd hsz0 _
  have hval : ∀ (j : Nat) t v, Try.f5.params[j]? = some t → args[j]? = some v → Value.okWide Try.prog W .any base t v := hval0
  have hW' := hW
  obtain ⟨p, q, hA0, hV, rfl, hfz, hnd⟩ := hW
  have hA : DataW.TrodAll enc Try.prog W 0 (fun _ => true) true Try.f5.params.toList args.toList ds p := hA0
  rw [Try.params5] at hA hval
  obtain ⟨v0, vs0, d0, ds0, p0, q0, hargs, rfl, rfl, h0, r0⟩ := trodAll_cons hA
  obtain ⟨v1, vs1, d1, ds1, p1, q1, rfl, rfl, rfl, h1, r1⟩ := trodAll_cons r0
  obtain ⟨v2, vs2, d2, ds2, p2, q2, rfl, rfl, rfl, h2, r2⟩ := trodAll_cons r1
  obtain ⟨v3, vs3, d3, ds3, p3, q3, rfl, rfl, rfl, h3, r3⟩ := trodAll_cons r2
  obtain ⟨rfl, rfl, rfl⟩ := trodAll_nil r3
  obtain rfl : args = #[v0, v1, v2, v3] := by cases args; simp_all
  obtain ⟨rfl, rfl⟩ := trodVars_none hV
  obtain ⟨a0, rfl, rfl, rfl, w0⟩ := open_string Try.underlying9 (hval 0 9 v0 rfl rfl) h0
  have s0 : a0.size ≤ 140737488351232 := sized_string hsz0 (j := 0) (t := 9) rfl rfl
  obtain ⟨a1, rfl, rfl, rfl, w1⟩ := open_string Try.underlying9 (hval 1 9 v1 rfl rfl) h1
  have s1 : a1.size ≤ 140737488351232 := sized_string hsz0 (j := 1) (t := 9) rfl rfl
  obtain ⟨a2, rfl, rfl, rfl, w2⟩ := open_int Try.underlying3 (hval 2 3 v2 rfl rfl) h2
  obtain ⟨a3, rfl, rfl, rfl, w3⟩ := open_int Try.underlying3 (hval 3 3 v3 rfl rfl) h3
  clear hA0 hval0 hsz0
  simp only [List.append_nil] at hW'
  refine (deriveRounds_any W a0 s0 a1 s1 a2 (bounds_i64 w2) a3 (bounds_i64 w3)).mono fun e W' ⟨he, bel⟩ => ?_
  subst he
  exact ⟨_, rfl, _, _, _, [], _, [], hW', trodAll_mk1 (shut_bool Try.underlying4 _), (trodAll_cons_mk (shut_string Try.underlying9 w0) (trodAll_cons_mk (shut_string Try.underlying9 w1) (trodAll_cons_mk (shut_int Try.underlying3 w2) (trodAll_cons_mk (shut_int Try.underlying3 w3) trodAll_mk0)))), rfl, bel.frame _, fun h => by cases h⟩

theorem deriveRounds_holds : Rows.DeriveRoundsSaid :=
  OpenClaim.holds_of_wide 5 Try.f5 rfl rfl rfl rfl rfl rfl rfl ⟨rfl, rfl, rfl, rfl, rfl⟩ rfl rfl rfl rfl rfl (by kernel_rfl) Try.func5 (by kernel_rfl)
    (of_decide_eq_true (by kernel_rfl)) (by unfold Func.isWrapper; first | (rw [if_pos (by decide +kernel)]; kernel_rfl) | (rw [if_neg (by decide +kernel)]; exact ⟨rfl, rfl⟩))
    (fun os started H enc _ => deriveRounds_lifted os started H enc)

#print axioms deriveRounds_holds

end Go.Proofs.Ytdcmjmmfclhfbaa
