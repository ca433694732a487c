/- For any key and first block and any two texts the statement CbcBack returns true and its arguments read as before. No condition. -/
import Derived.Test.YtknjmmbebkcnpaaRun13
namespace Go.Proofs.Ytknjmmbebkcnpaa
open Go.ChangeShapes Go.WideShapes Go.ChangeAt Go.RowKit Bk
open Go.ChangeMaps (open_string shut_string)
set_option linter.unusedVariables false
set_option linter.unusedSimpArgs false

set_option maxRecDepth 100000 in
set_option maxHeartbeats 16000000 in
theorem cbcBack_long0 (K f d s : ByteArray) (w : World)  (hK : 100 < K.size) : Calls Try.prog 5 #[.string K, .string f, .string d, .string s] w fun e w' => e = .returned (.bool true) ∧ Below w.heap.size w w' := by
  have qK : (100 : Int) < (K.size : Int) := by omega
  clear hK
  go_enter Try.func5, Try.ntmps5
  have HS0 := hide (Below.refl w.heap.size w)
  go_wp2_with fail
  refine (awakeC_any _).mono ?_
  rintro e w1 ⟨rfl, hB⟩
  have HS1 := hide (show Below w.heap.size w w1 from HS0.out.trans (hB.mono HS0.out.size))
  clear HS0 hB
  go_wp2_with fail
  go_ret
  exact ⟨rfl, HS1.out⟩

set_option maxRecDepth 100000 in
set_option maxHeartbeats 16000000 in
theorem cbcBack_long1 (K f d s : ByteArray) (w : World) (hK : K.size ≤ 100) (hf : 100 < f.size) : Calls Try.prog 5 #[.string K, .string f, .string d, .string s] w fun e w' => e = .returned (.bool true) ∧ Below w.heap.size w w' := by
  have qK : ¬ (100 : Int) < (K.size : Int) := by omega
  have qf : (100 : Int) < (f.size : Int) := by omega
  clear hK hf
  go_enter Try.func5, Try.ntmps5
  have HS0 := hide (Below.refl w.heap.size w)
  go_wp2_with fail
  refine (awakeC_any _).mono ?_
  rintro e w1 ⟨rfl, hB⟩
  have HS1 := hide (show Below w.heap.size w w1 from HS0.out.trans (hB.mono HS0.out.size))
  clear HS0 hB
  go_wp2_with fail
  go_ret
  exact ⟨rfl, HS1.out⟩

set_option maxRecDepth 100000 in
set_option maxHeartbeats 16000000 in
theorem cbcBack_long2 (K f d s : ByteArray) (w : World) (hK : K.size ≤ 100) (hf : f.size ≤ 100) (hd : 600 < d.size) : Calls Try.prog 5 #[.string K, .string f, .string d, .string s] w fun e w' => e = .returned (.bool true) ∧ Below w.heap.size w w' := by
  have qK : ¬ (100 : Int) < (K.size : Int) := by omega
  have qf : ¬ (100 : Int) < (f.size : Int) := by omega
  have qd : (600 : Int) < (d.size : Int) := by omega
  clear hK hf hd
  go_enter Try.func5, Try.ntmps5
  have HS0 := hide (Below.refl w.heap.size w)
  go_wp2_with fail
  refine (awakeC_any _).mono ?_
  rintro e w1 ⟨rfl, hB⟩
  have HS1 := hide (show Below w.heap.size w w1 from HS0.out.trans (hB.mono HS0.out.size))
  clear HS0 hB
  go_wp2_with fail
  go_ret
  exact ⟨rfl, HS1.out⟩

set_option maxRecDepth 100000 in
set_option maxHeartbeats 16000000 in
theorem cbcBack_long3 (K f d s : ByteArray) (w : World) (hK : K.size ≤ 100) (hf : f.size ≤ 100) (hd : d.size ≤ 600) (hs : 600 < s.size) : Calls Try.prog 5 #[.string K, .string f, .string d, .string s] w fun e w' => e = .returned (.bool true) ∧ Below w.heap.size w w' := by
  have qK : ¬ (100 : Int) < (K.size : Int) := by omega
  have qf : ¬ (100 : Int) < (f.size : Int) := by omega
  have qd : ¬ (600 : Int) < (d.size : Int) := by omega
  have qs : (600 : Int) < (s.size : Int) := by omega
  clear hK hf hd hs
  go_enter Try.func5, Try.ntmps5
  have HS0 := hide (Below.refl w.heap.size w)
  go_wp2_with fail
  refine (awakeC_any _).mono ?_
  rintro e w1 ⟨rfl, hB⟩
  have HS1 := hide (show Below w.heap.size w w1 from HS0.out.trans (hB.mono HS0.out.size))
  clear HS0 hB
  go_wp2_with fail
  go_ret
  exact ⟨rfl, HS1.out⟩

set_option maxRecDepth 100000 in
set_option maxHeartbeats 16000000 in
theorem cbcBack_key (K f d s : ByteArray) (w : World) (hK : K.size ≤ 100) (hf : f.size ≤ 100) (hd : d.size ≤ 600) (hs : s.size ≤ 600) (h : K.size ≠ 32) : Calls Try.prog 5 #[.string K, .string f, .string d, .string s] w fun e w' => e = .returned (.bool true) ∧ Below w.heap.size w w' := by
  have qK : ¬ (100 : Int) < (K.size : Int) := by omega
  have qf : ¬ (100 : Int) < (f.size : Int) := by omega
  have qd : ¬ (600 : Int) < (d.size : Int) := by omega
  have qs : ¬ (600 : Int) < (s.size : Int) := by omega
  have f1 : ((K.size : Int) != 32) = true := by rw [bne_iff_ne]; omega
  have f2 : ((K.size : Int) == 32) = false := by simp; omega
  have hB0 := hide (show K.size ≠ 32 ∨ f.size ≠ 16 from .inl h)
  clear hK hf hd hs h
  go_enter Try.func5, Try.ntmps5
  have HS0 := hide (Below.refl w.heap.size w)
  go_wp2_with fail
  refine (awakeC_any _).mono ?_
  rintro e w1 ⟨rfl, hB⟩
  have HS1 := hide (show Below w.heap.size w w1 from HS0.out.trans (hB.mono HS0.out.size))
  clear HS0 hB
  go_wp2_with fail
  refine (cSeal_bad K f d _ hB0.out).mono ?_
  rintro e w2 ⟨rfl, hB⟩
  have HS2 := hide (show Below w.heap.size w w2 from HS1.out.trans (hB.mono HS1.out.size))
  clear HS1 hB
  go_wp2_with fail
  go_ret
  exact ⟨rfl, HS2.out⟩

set_option maxRecDepth 100000 in
set_option maxHeartbeats 16000000 in
theorem cbcBack_first (K f d s : ByteArray) (w : World) (hK : K.size ≤ 100) (hf : f.size ≤ 100) (hd : d.size ≤ 600) (hs : s.size ≤ 600) (hk : K.size = 32) (h : f.size ≠ 16) : Calls Try.prog 5 #[.string K, .string f, .string d, .string s] w fun e w' => e = .returned (.bool true) ∧ Below w.heap.size w w' := by
  have qK : ¬ (100 : Int) < (K.size : Int) := by omega
  have qf : ¬ (100 : Int) < (f.size : Int) := by omega
  have qd : ¬ (600 : Int) < (d.size : Int) := by omega
  have qs : ¬ (600 : Int) < (s.size : Int) := by omega
  have f1 : ((K.size : Int) != 32) = false := by rw [hk]; rfl
  have f2 : ((f.size : Int) != 16) = true := by rw [bne_iff_ne]; omega
  have f3 : ((f.size : Int) == 16) = false := by simp; omega
  have f4 : ((K.size : Int) == 32) = true := by rw [hk]; rfl
  have hB0 := hide (show K.size ≠ 32 ∨ f.size ≠ 16 from .inr h)
  clear hK hf hd hs h hk
  go_enter Try.func5, Try.ntmps5
  have HS0 := hide (Below.refl w.heap.size w)
  go_wp2_with fail
  refine (awakeC_any _).mono ?_
  rintro e w1 ⟨rfl, hB⟩
  have HS1 := hide (show Below w.heap.size w w1 from HS0.out.trans (hB.mono HS0.out.size))
  clear HS0 hB
  go_wp2_with fail
  refine (cSeal_bad K f d _ hB0.out).mono ?_
  rintro e w2 ⟨rfl, hB⟩
  have HS2 := hide (show Below w.heap.size w w2 from HS1.out.trans (hB.mono HS1.out.size))
  clear HS1 hB
  go_wp2_with fail
  go_ret
  exact ⟨rfl, HS2.out⟩

set_option maxRecDepth 100000 in
set_option maxHeartbeats 16000000 in
theorem cbcBack_none (K f d s : ByteArray) (w : World) (hk : K.size = 32) (hf : f.size = 16) (hd : d.size ≤ 600) (hs : s.size ≤ 600) (ho : opO K f s = none) : Calls Try.prog 5 #[.string K, .string f, .string d, .string s] w fun e w' => e = .returned (.bool true) ∧ Below w.heap.size w w' := by
  have qK : ¬ (100 : Int) < (K.size : Int) := by omega
  have qf : ¬ (100 : Int) < (f.size : Int) := by omega
  have qd : ¬ (600 : Int) < (d.size : Int) := by omega
  have qs : ¬ (600 : Int) < (s.size : Int) := by omega
  obtain ⟨S, eS⟩ : ∃ S, seT K f d = S := ⟨_, rfl⟩
  obtain ⟨F, eF⟩ : ∃ F, frm d = F := ⟨_, rfl⟩
  have hl := lk_lt d.size
  have zF : F.size = 8 + d.size + lk d.size := by rw [← eF]; exact frm_size d
  have zS : S.size = F.size := by rw [← eS, ← eF]; exact seT_size d hk hf
  have h16 := lk_16 d.size
  have hop : opO K f S = some (sb d) := by rw [← eS]; exact op_se d hk hf (by omega)
  have hcu : opO K f (S.extract 0 (S.size - 16)) = none := by rw [← eS]; exact op_cut d hk hf (by omega)
  have hdd : (⟨(sb d).toArray⟩ : ByteArray) = d := sb_inj (sb_mk _)
  obtain ⟨M, hM⟩ : ∃ M, S.size = M := ⟨_, rfl⟩
  have hFM : F.size = M := by omega
  obtain ⟨C, eC⟩ : ∃ C, S.extract 0 (M - 16) = C := ⟨_, rfl⟩
  rw [hM, eC] at hcu
  have zC : C.size = M - 16 := by rw [← eC, ByteArray.size_extract]; omega
  have v1 := IntWalk.i64_in ((M : Int) - 16) (by omega)
  have hcut : ∀ w, (Instr.slice 9 (.string S) none (some (.int .i64 ((M : Int) - 16))) none).run Try.prog w = .ok (.string C) w := fun w => by
    rw [run_slice_string_h (P := Try.prog) w 9 S Try.underlying9 .i64 _ (by omega) (by omega), ← eC]
    congr 3
    omega
  have HO := hide (show opT K f S = d ∧ opE K f S = 0 from ⟨(opT_some hop).trans hdd, opE_some hop⟩)
  have HU := hide (show opT K f C = ⟨#[]⟩ ∧ opE K f C = 4 from ⟨opT_none hcu, opE_none hcu⟩)
  have HE := hide (show seT K f d = S ∧ frm d = F from ⟨eS, eF⟩)
  have HL := hide (show K.size = 32 ∧ f.size = 16 ∧ d.size ≤ 600 ∧ S.size ≤ 1048576 ∧ C.size ≤ 1048576 ∧ s.size ≤ 1048576 from ⟨hk, hf, hd, by omega, by omega, by omega⟩)
  have HP := hide (show opT K f s = ⟨#[]⟩ ∧ opE K f s = 4 ∧ True from ⟨opT_none ho, opE_none ho, trivial⟩)
  clear eS eF hl zF zS h16 hop hcu hdd eC zC hk hf hd hs ho
  go_enter Try.func5, Try.ntmps5
  have HS0 := hide (Below.refl w.heap.size w)
  go_wp2_with fail
  refine (awakeC_any _).mono ?_
  rintro e w1 ⟨rfl, hB⟩
  have HS1 := hide (show Below w.heap.size w w1 from HS0.out.trans (hB.mono HS0.out.size))
  clear HS0 hB
  go_wp2_with fail
  refine (cSeal_ok K f d _ HL.out.1 HL.out.2.1 (by have := HL.out.2.2.1; omega)).mono ?_
  rintro e w2 ⟨rfl, hB⟩
  rw [HE.out.1]
  have HS2 := hide (show Below w.heap.size w w2 from HS1.out.trans (hB.mono HS1.out.size))
  clear HS1 hB
  go_wp2_with fail
  refine (cOpen_any K f S _ HL.out.1 HL.out.2.1 HL.out.2.2.2.1).mono ?_
  rintro e w3 ⟨rfl, hB⟩
  rw [HO.out.1, HO.out.2]
  have HS3 := hide (show Below w.heap.size w w3 from HS2.out.trans (hB.mono HS2.out.size))
  clear HS2 hB
  go_wp2_with fail
  refine (cFrame_any d _ (by have := HL.out.2.2.1; omega)).mono ?_
  rintro e w4 ⟨rfl, hB⟩
  rw [HE.out.2]
  have HS4 := hide (show Below w.heap.size w w4 from HS3.out.trans (hB.mono HS3.out.size))
  clear HS3 hB
  go_wp2_with fail
  refine (cOpen_any K f C _ HL.out.1 HL.out.2.1 HL.out.2.2.2.2.1).mono ?_
  rintro e w5 ⟨rfl, hB⟩
  rw [HU.out.1, HU.out.2]
  have HS5 := hide (show Below w.heap.size w w5 from HS4.out.trans (hB.mono HS4.out.size))
  clear HS4 hB
  go_wp2_with fail
  refine (cOpen_any K f s _ HL.out.1 HL.out.2.1 HL.out.2.2.2.2.2).mono ?_
  rintro e w6 ⟨rfl, hB⟩
  rw [HP.out.1, HP.out.2.1]
  have HS6 := hide (show Below w.heap.size w w6 from HS5.out.trans (hB.mono HS5.out.size))
  clear HS5 hB
  go_wp2_with fail
  go_ret
  exact ⟨rfl, HS6.out⟩

set_option maxRecDepth 100000 in
set_option maxHeartbeats 16000000 in
theorem cbcBack_some (K f d s : ByteArray) (w : World) (hk : K.size = 32) (hf : f.size = 16) (hd : d.size ≤ 600) (hs : s.size ≤ 600) (l : List UInt8) (ho : opO K f s = some l) : Calls Try.prog 5 #[.string K, .string f, .string d, .string s] w fun e w' => e = .returned (.bool true) ∧ Below w.heap.size w w' := by
  have qK : ¬ (100 : Int) < (K.size : Int) := by omega
  have qf : ¬ (100 : Int) < (f.size : Int) := by omega
  have qd : ¬ (600 : Int) < (d.size : Int) := by omega
  have qs : ¬ (600 : Int) < (s.size : Int) := by omega
  obtain ⟨S, eS⟩ : ∃ S, seT K f d = S := ⟨_, rfl⟩
  obtain ⟨F, eF⟩ : ∃ F, frm d = F := ⟨_, rfl⟩
  have hl := lk_lt d.size
  have zF : F.size = 8 + d.size + lk d.size := by rw [← eF]; exact frm_size d
  have zS : S.size = F.size := by rw [← eS, ← eF]; exact seT_size d hk hf
  have h16 := lk_16 d.size
  have hop : opO K f S = some (sb d) := by rw [← eS]; exact op_se d hk hf (by omega)
  have hcu : opO K f (S.extract 0 (S.size - 16)) = none := by rw [← eS]; exact op_cut d hk hf (by omega)
  have hdd : (⟨(sb d).toArray⟩ : ByteArray) = d := sb_inj (sb_mk _)
  obtain ⟨M, hM⟩ : ∃ M, S.size = M := ⟨_, rfl⟩
  have hFM : F.size = M := by omega
  obtain ⟨C, eC⟩ : ∃ C, S.extract 0 (M - 16) = C := ⟨_, rfl⟩
  rw [hM, eC] at hcu
  have zC : C.size = M - 16 := by rw [← eC, ByteArray.size_extract]; omega
  have v1 := IntWalk.i64_in ((M : Int) - 16) (by omega)
  have hcut : ∀ w, (Instr.slice 9 (.string S) none (some (.int .i64 ((M : Int) - 16))) none).run Try.prog w = .ok (.string C) w := fun w => by
    rw [run_slice_string_h (P := Try.prog) w 9 S Try.underlying9 .i64 _ (by omega) (by omega), ← eC]
    congr 3
    omega
  have HO := hide (show opT K f S = d ∧ opE K f S = 0 from ⟨(opT_some hop).trans hdd, opE_some hop⟩)
  have HU := hide (show opT K f C = ⟨#[]⟩ ∧ opE K f C = 4 from ⟨opT_none hcu, opE_none hcu⟩)
  have HE := hide (show seT K f d = S ∧ frm d = F from ⟨eS, eF⟩)
  have HL := hide (show K.size = 32 ∧ f.size = 16 ∧ d.size ≤ 600 ∧ S.size ≤ 1048576 ∧ C.size ≤ 1048576 ∧ s.size ≤ 1048576 from ⟨hk, hf, hd, by omega, by omega, by omega⟩)
  obtain ⟨T, eT⟩ : ∃ T : ByteArray, ⟨l.toArray⟩ = T := ⟨_, rfl⟩
  have zT : T.size ≤ 1048576 := by
    have h1 := opO_len hk hf ho
    have : T.size = l.length := by rw [← eT, ← sb_length, sb_mk]
    omega
  have HP := hide (show opT K f s = T ∧ opE K f s = 0 ∧ seT K f T = s ∧ T.size ≤ 1048576 from ⟨(opT_some ho).trans eT, opE_some ho, by rw [← eT]; exact se_op hk hf ho, zT⟩)
  clear eS eF hl zF zS h16 hop hcu hdd eC zC hk hf hd hs ho eT zT
  go_enter Try.func5, Try.ntmps5
  have HS0 := hide (Below.refl w.heap.size w)
  go_wp2_with fail
  refine (awakeC_any _).mono ?_
  rintro e w1 ⟨rfl, hB⟩
  have HS1 := hide (show Below w.heap.size w w1 from HS0.out.trans (hB.mono HS0.out.size))
  clear HS0 hB
  go_wp2_with fail
  refine (cSeal_ok K f d _ HL.out.1 HL.out.2.1 (by have := HL.out.2.2.1; omega)).mono ?_
  rintro e w2 ⟨rfl, hB⟩
  rw [HE.out.1]
  have HS2 := hide (show Below w.heap.size w w2 from HS1.out.trans (hB.mono HS1.out.size))
  clear HS1 hB
  go_wp2_with fail
  refine (cOpen_any K f S _ HL.out.1 HL.out.2.1 HL.out.2.2.2.1).mono ?_
  rintro e w3 ⟨rfl, hB⟩
  rw [HO.out.1, HO.out.2]
  have HS3 := hide (show Below w.heap.size w w3 from HS2.out.trans (hB.mono HS2.out.size))
  clear HS2 hB
  go_wp2_with fail
  refine (cFrame_any d _ (by have := HL.out.2.2.1; omega)).mono ?_
  rintro e w4 ⟨rfl, hB⟩
  rw [HE.out.2]
  have HS4 := hide (show Below w.heap.size w w4 from HS3.out.trans (hB.mono HS3.out.size))
  clear HS3 hB
  go_wp2_with fail
  refine (cOpen_any K f C _ HL.out.1 HL.out.2.1 HL.out.2.2.2.2.1).mono ?_
  rintro e w5 ⟨rfl, hB⟩
  rw [HU.out.1, HU.out.2]
  have HS5 := hide (show Below w.heap.size w w5 from HS4.out.trans (hB.mono HS4.out.size))
  clear HS4 hB
  go_wp2_with fail
  refine (cOpen_any K f s _ HL.out.1 HL.out.2.1 HL.out.2.2.2.2.2).mono ?_
  rintro e w6 ⟨rfl, hB⟩
  rw [HP.out.1, HP.out.2.1]
  have HS6 := hide (show Below w.heap.size w w6 from HS5.out.trans (hB.mono HS5.out.size))
  clear HS5 hB
  go_wp2_with fail
  refine (cSeal_ok K f T _ HL.out.1 HL.out.2.1 HP.out.2.2.2).mono ?_
  rintro e w7 ⟨rfl, hB⟩
  rw [HP.out.2.2.1]
  have HS7 := hide (show Below w.heap.size w w7 from HS6.out.trans (hB.mono HS6.out.size))
  clear HS6 hB
  go_wp2_with fail
  go_ret
  exact ⟨rfl, HS7.out⟩

theorem cbcBack_any (w : World) (K : ByteArray) (m0 : K.size ≤ 140737488351232) (f : ByteArray) (m1 : f.size ≤ 140737488351232) (d : ByteArray) (m2 : d.size ≤ 140737488351232) (s : ByteArray) (m3 : s.size ≤ 140737488351232) : Calls Try.prog 5 #[.string K, .string f, .string d, .string s] w fun e w' => e = .returned (.bool true) ∧ Below w.heap.size w w' := by
  by_cases hK : K.size ≤ 100
  · by_cases hf : f.size ≤ 100
    · by_cases hd : d.size ≤ 600
      · by_cases hs : s.size ≤ 600
        · by_cases hk : K.size = 32
          · by_cases hx : f.size = 16
            · cases ho : opO K f s with
              | none => exact cbcBack_none K f d s w hk hx hd hs ho
              | some l => exact cbcBack_some K f d s w hk hx hd hs l ho
            · exact cbcBack_first K f d s w hK hf hd hs hk hx
          · exact cbcBack_key K f d s w hK hf hd hs hk
        · exact cbcBack_long3 K f d s w hK hf hd (by omega)
      · exact cbcBack_long2 K f d s w hK hf (by omega)
    · exact cbcBack_long1 K f d s w hK (by omega)
  · exact cbcBack_long0 K f d s w (by omega)

theorem cbcBack_own : ownKnob Try.prog.godebug = none := by kernel_rfl
theorem cbcBack_laidOut : laidOutB Try.prog = true := by kernel_rfl

set_option maxRecDepth 100000 in
theorem cbcBack_lifted (os : Os) (started : os.Started) (H : Type) (enc : TypeId × Value → H) :
    ReturnsInHanded {} Try.checked os 5 .any (Rows.cbcBackSpec.pre6 enc Try.prog Try.f5 Rows.cbcBackRow.domain false) (Rows.cbcBackSpec.post enc Try.prog Try.f5 false true false false) := by
  refine returnsInHanded_of_change_sized (C := Try.checked) cbcBack_own started (by kernel_rfl) Try.func5
    (ChangeSpec.witness6 (enc := enc) (C := Try.checked) false ⟨#[], #[.string ⟨#[]⟩, .string ⟨#[]⟩, .string ⟨#[]⟩, .string ⟨#[]⟩], []⟩ 8 (by kernel_rfl) (by kernel_rfl) (by kernel_rfl) (by kernel_rfl)) ?_
  intro W base args ds gs before hval0 hW hcnd hsz0 _
  have hval : ∀ (j : Nat) t v, Try.f5.params[j]? = some t → args[j]? = some v → Value.okWide Try.prog W .any base t v := hval0
  have hW' := hW
  obtain ⟨p, q, hA0, hV, rfl, hfz, hnd⟩ := hW
  have hA : DataW.TrodAll enc Try.prog W 0 (fun _ => true) true Try.f5.params.toList args.toList ds p := hA0
  rw [Try.params5] at hA hval
  obtain ⟨v0, vs0, d0, ds0, p0, q0, hargs, rfl, rfl, h0, r0⟩ := trodAll_cons hA
  obtain ⟨v1, vs1, d1, ds1, p1, q1, rfl, rfl, rfl, h1, r1⟩ := trodAll_cons r0
  obtain ⟨v2, vs2, d2, ds2, p2, q2, rfl, rfl, rfl, h2, r2⟩ := trodAll_cons r1
  obtain ⟨v3, vs3, d3, ds3, p3, q3, rfl, rfl, rfl, h3, r3⟩ := trodAll_cons r2
  obtain ⟨rfl, rfl, rfl⟩ := trodAll_nil r3
  obtain rfl : args = #[v0, v1, v2, v3] := by cases args; simp_all
  obtain ⟨rfl, rfl⟩ := trodVars_none hV
  obtain ⟨a0, rfl, rfl, rfl, w0⟩ := open_string Try.underlying9 (hval 0 9 v0 rfl rfl) h0
  have s0 : a0.size ≤ 140737488351232 := sized_string hsz0 (j := 0) (t := 9) rfl rfl
  obtain ⟨a1, rfl, rfl, rfl, w1⟩ := open_string Try.underlying9 (hval 1 9 v1 rfl rfl) h1
  have s1 : a1.size ≤ 140737488351232 := sized_string hsz0 (j := 1) (t := 9) rfl rfl
  obtain ⟨a2, rfl, rfl, rfl, w2⟩ := open_string Try.underlying9 (hval 2 9 v2 rfl rfl) h2
  have s2 : a2.size ≤ 140737488351232 := sized_string hsz0 (j := 2) (t := 9) rfl rfl
  obtain ⟨a3, rfl, rfl, rfl, w3⟩ := open_string Try.underlying9 (hval 3 9 v3 rfl rfl) h3
  have s3 : a3.size ≤ 140737488351232 := sized_string hsz0 (j := 3) (t := 9) rfl rfl
  clear hA0 hval0 hsz0
  simp only [List.append_nil] at hW'
  refine (cbcBack_any W a0 s0 a1 s1 a2 s2 a3 s3).mono fun e W' ⟨he, bel⟩ => ?_
  subst he
  exact ⟨_, rfl, _, _, _, [], _, [], hW', trodAll_mk1 (shut_bool Try.underlying4 _), (trodAll_cons_mk (shut_string Try.underlying9 w0) (trodAll_cons_mk (shut_string Try.underlying9 w1) (trodAll_cons_mk (shut_string Try.underlying9 w2) (trodAll_cons_mk (shut_string Try.underlying9 w3) trodAll_mk0)))), rfl, bel.frame _, fun h => by cases h⟩

theorem cbcBack_holds : Rows.CbcBackSaid :=
  OpenClaim.holds_of_wide 5 Try.f5 rfl rfl rfl rfl rfl rfl rfl ⟨rfl, rfl, rfl, rfl, rfl⟩ rfl rfl rfl rfl rfl (by kernel_rfl) Try.func5 (by kernel_rfl)
    (of_decide_eq_true (by kernel_rfl)) (by unfold Func.isWrapper; first | (rw [if_pos (by decide +kernel)]; kernel_rfl) | (rw [if_neg (by decide +kernel)]; exact ⟨rfl, rfl⟩))
    (fun os started H enc _ => cbcBack_lifted os started H enc)

#print axioms cbcBack_holds

end Go.Proofs.Ytknjmmbebkcnpaa
