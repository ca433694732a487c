/- The document's own Stretch and Key, walked: as the program's. No condition. -/
import Derived.Test.YtdcmjmmfclhfbaaKArgs
import Derived.Test.YtdcmjmmfclhfbaaQHmac
import Derived.StillTailTactics
import Derived.Deep.LoopGhost
namespace Go.Proofs.Ytdcmjmmfclhfbaa
open Go.RowKit Bk
set_option linter.unusedVariables false
set_option linter.unusedSimpArgs false

set_option maxRecDepth 100000 in
set_option maxHeartbeats 8000000 in
theorem rfstretch_no0 (p s : ByteArray) (n b : Int) (w : World)  (h0 : ¬ (p.size ≤ 64)) : Calls Try.prog 12 #[.string p, .string s, .int .i64 n, .int .i64 b] w fun e w' => e = .returned (.tuple #[.string (st p s n b), .int .i64 (se p s n b)]) ∧ Below w.heap.size w w' := by
  have hno : ¬ okS p s n b := fun k => h0 k.1.1
  rw [se_no hno, st_no hno]
  have f0 : (64 : Int) < (p.size : Int) := by omega
  clear hno h0
  go_enter Try.func12, Try.ntmps12
  go_wp2_with fail
  go_ret2
  exact ⟨rfl, Below.refl _ _⟩

set_option maxRecDepth 100000 in
set_option maxHeartbeats 8000000 in
theorem rfstretch_no1 (p s : ByteArray) (n b : Int) (w : World) (h0 : p.size ≤ 64) (h1 : ¬ (s.size = 16)) : Calls Try.prog 12 #[.string p, .string s, .int .i64 n, .int .i64 b] w fun e w' => e = .returned (.tuple #[.string (st p s n b), .int .i64 (se p s n b)]) ∧ Below w.heap.size w w' := by
  have hno : ¬ okS p s n b := fun k => h1 k.1.2.1
  rw [se_no hno, st_no hno]
  have f0 : ¬ ((64 : Int) < (p.size : Int)) := by omega
  have f1 : ¬ ((s.size : Int) = 16) := by omega
  have g1 : ((s.size : Int) != 16) = true := by simpa using f1
  clear hno h0 h1
  go_enter Try.func12, Try.ntmps12
  go_wp2_with fail
  go_ret2
  exact ⟨rfl, Below.refl _ _⟩

set_option maxRecDepth 100000 in
set_option maxHeartbeats 8000000 in
theorem rfstretch_no2 (p s : ByteArray) (n b : Int) (w : World) (h0 : p.size ≤ 64) (h1 : s.size = 16) (h2 : ¬ (1 ≤ n)) : Calls Try.prog 12 #[.string p, .string s, .int .i64 n, .int .i64 b] w fun e w' => e = .returned (.tuple #[.string (st p s n b), .int .i64 (se p s n b)]) ∧ Below w.heap.size w w' := by
  have hno : ¬ okS p s n b := fun k => h2 k.1.2.2.1
  rw [se_no hno, st_no hno]
  have f0 : ¬ ((64 : Int) < (p.size : Int)) := by omega
  have f1 : (s.size : Int) = 16 := by omega
  have g1 : ((s.size : Int) != 16) = false := by rw [f1]; rfl
  have f2 : n < 1 := by omega
  clear hno h0 h1 h2
  go_enter Try.func12, Try.ntmps12
  go_wp2_with fail
  go_ret2
  exact ⟨rfl, Below.refl _ _⟩

set_option maxRecDepth 100000 in
set_option maxHeartbeats 8000000 in
theorem rfstretch_no3 (p s : ByteArray) (n b : Int) (w : World) (h0 : p.size ≤ 64) (h1 : s.size = 16) (h2 : 1 ≤ n) (h3 : ¬ (n ≤ 64)) : Calls Try.prog 12 #[.string p, .string s, .int .i64 n, .int .i64 b] w fun e w' => e = .returned (.tuple #[.string (st p s n b), .int .i64 (se p s n b)]) ∧ Below w.heap.size w w' := by
  have hno : ¬ okS p s n b := fun k => h3 k.1.2.2.2
  rw [se_no hno, st_no hno]
  have f0 : ¬ ((64 : Int) < (p.size : Int)) := by omega
  have f1 : (s.size : Int) = 16 := by omega
  have g1 : ((s.size : Int) != 16) = false := by rw [f1]; rfl
  have f2 : ¬ (n < 1) := by omega
  have f3 : 64 < n := by omega
  clear hno h0 h1 h2 h3
  go_enter Try.func12, Try.ntmps12
  go_wp2_with fail
  go_ret2
  exact ⟨rfl, Below.refl _ _⟩

set_option maxRecDepth 100000 in
set_option maxHeartbeats 8000000 in
theorem rfstretch_no4 (p s : ByteArray) (n b : Int) (w : World) (h0 : p.size ≤ 64) (h1 : s.size = 16) (h2 : 1 ≤ n) (h3 : n ≤ 64) (h4 : ¬ (1 ≤ b)) : Calls Try.prog 12 #[.string p, .string s, .int .i64 n, .int .i64 b] w fun e w' => e = .returned (.tuple #[.string (st p s n b), .int .i64 (se p s n b)]) ∧ Below w.heap.size w w' := by
  have hno : ¬ okS p s n b := fun k => h4 k.2.1
  rw [se_no hno, st_no hno]
  have f0 : ¬ ((64 : Int) < (p.size : Int)) := by omega
  have f1 : (s.size : Int) = 16 := by omega
  have g1 : ((s.size : Int) != 16) = false := by rw [f1]; rfl
  have f2 : ¬ (n < 1) := by omega
  have f3 : ¬ (64 < n) := by omega
  have f4 : b < 1 := by omega
  clear hno h0 h1 h2 h3 h4
  go_enter Try.func12, Try.ntmps12
  go_wp2_with fail
  go_ret2
  exact ⟨rfl, Below.refl _ _⟩

set_option maxRecDepth 100000 in
set_option maxHeartbeats 8000000 in
theorem rfstretch_no5 (p s : ByteArray) (n b : Int) (w : World) (h0 : p.size ≤ 64) (h1 : s.size = 16) (h2 : 1 ≤ n) (h3 : n ≤ 64) (h4 : 1 ≤ b) (h5 : ¬ (b ≤ 2147483647)) : Calls Try.prog 12 #[.string p, .string s, .int .i64 n, .int .i64 b] w fun e w' => e = .returned (.tuple #[.string (st p s n b), .int .i64 (se p s n b)]) ∧ Below w.heap.size w w' := by
  have hno : ¬ okS p s n b := fun k => h5 k.2.2
  rw [se_no hno, st_no hno]
  have f0 : ¬ ((64 : Int) < (p.size : Int)) := by omega
  have f1 : (s.size : Int) = 16 := by omega
  have g1 : ((s.size : Int) != 16) = false := by rw [f1]; rfl
  have f2 : ¬ (n < 1) := by omega
  have f3 : ¬ (64 < n) := by omega
  have f4 : ¬ (b < 1) := by omega
  have f5 : 2147483647 < b := by omega
  clear hno h0 h1 h2 h3 h4 h5
  go_enter Try.func12, Try.ntmps12
  go_wp2_with fail
  go_ret2
  exact ⟨rfl, Below.refl _ _⟩

set_option maxRecDepth 100000 in
set_option maxHeartbeats 16000000 in
theorem rfstretch_ok (p s : ByteArray) (n b : Nat) (w : World) (h : okS p s n b) : Calls Try.prog 12 #[.string p, .string s, .int .i64 n, .int .i64 b] w fun e w' => e = .returned (.tuple #[.string (st p s n b), .int .i64 (se p s n b)]) ∧ Below w.heap.size w w' := by
  have hmx : Try.prog.follows .mixedOrders = true := by kernel_rfl
  have f0 : ¬ ((64 : Int) < (p.size : Int)) := by omega
  have f1 : (s.size : Int) = 16 := by omega
  have g1 : ((s.size : Int) != 16) = false := by rw [f1]; rfl
  have f2 : ¬ ((n : Int) < 1) := by omega
  have f3 : ¬ ((64 : Int) < (n : Int)) := by omega
  have f4 : ¬ ((b : Int) < 1) := by omega
  have f5 : ¬ ((2147483647 : Int) < (b : Int)) := by omega
  have hbn : b ≤ 2147483647 := by omega
  have hbI : (b : Int) ≤ 2147483647 := by omega
  have hn1 : 1 ≤ n := by omega
  have hn6 : n ≤ 64 := by omega
  obtain ⟨N4, eN⟩ : ∃ N4, nb4 b = N4 := ⟨_, rfl⟩
  obtain ⟨F, eF⟩ : ∃ F, s ++ N4 = F := ⟨_, rfl⟩
  have h4 : N4.size = 4 := by rw [← eN]; rfl
  have hxx := number_text b hbn
  rw [eN] at hxx
  have hEF : s ++ nb4 b = F := by rw [eN]; exact eF
  rw [se_ok h, st_ok h, show (b : Int).toNat = b by simp, show (n : Int).toNat = n by simp, hEF]
  have HZ := hide (show p.size ≤ 100000 ∧ F.size ≤ 90000 by rw [← eF, ByteArray.size_append, h4]; omega)
  have hs16 : s.size = 16 := by omega
  obtain ⟨U, eU⟩ : ∃ U, dtx p F 0 = U := ⟨_, rfl⟩
  have zU : U.size = 32 := by rw [← eU]; exact dtx_size _ _ _
  have HU := hide (show shm p F = U from eU)
  have HN := hide (And.intro hn1 hn6)
  clear h hEF hn1 hn6 eN
  go_enter Try.func12, Try.ntmps12
  go_wp2_with fail
  refine (rhmac_any p F _ HZ.out.1 HZ.out.2).mono ?_
  rintro e w1 ⟨rfl, hw1⟩
  rw [HU.out]
  have HB1 := hide (((Below.refl w.heap.size w).alloc (Nat.le_refl _) _).trans (hw1.mono (by rw [World.size_alloc]; omega)))
  clear hw1
  obtain ⟨v, w2, hrun, hO, hB2⟩ := run_bytesO (P := Try.prog) w1 9 29 5 U Try.underlying9 Try.underlying29 Try.underlying5
  rw [zU] at hO
  obtain ⟨g, cap, rfl, hg, hcap, hR⟩ := hO.row (by decide)
  have hg0 : w.heap.size ≤ g := Nat.le_trans HB1.out.size hg
  have HR := hide hR
  have HB := hide (HB1.out.trans (hB2.mono HB1.out.size))
  have HG := hide hg0
  have HU2 := hide eU
  clear hO hR hB2 HB1 eU hg hg0
  go_wp2_with fail
  go_loopg [10, 12, 13] (n - 1) (fun g9 u t _ wr => ∃ i : Nat, i + 1 + g9 = n ∧ u = .string (dtx p F i) ∧ t = .int .i64 ((i + 1 : Nat) : Int) ∧ Row wr g 0 (bs (kxo (sb p) (sb F) (i + 1))) ∧ Below w.heap.size w wr)
  case atStart =>
    refine ⟨0, by have := HN.out; omega, by rw [HU2.out], rfl, ?_, HB.out⟩
    have e : kxo (sb p) (sb F) 1 = sb U := by rw [kxo_one, ← HU2.out]; rfl
    rw [e]
    exact HR.out
  case round =>
    clear HR HB hrun
    obtain ⟨i, hig, rfl, rfl, hR, hB⟩ := hrel
    by_cases hlt : i + 1 < n
    · have hltI : ((i + 1 : Nat) : Int) < (n : Int) := by omega
      have hbnd : ((i + 1 : Nat) : Int) ≤ 64 := by have := HN.out; omega
      obtain ⟨g3, rfl⟩ : ∃ g3, gk = g3 + 1 := ⟨gk - 1, by omega⟩
      obtain ⟨I, eI⟩ : ∃ I, i + 1 = I := ⟨_, rfl⟩
      obtain ⟨Q, eQ⟩ : ∃ Q, dtx p F i = Q := ⟨_, rfl⟩
      obtain ⟨T, eT⟩ : ∃ T, dtx p F (i + 1) = T := ⟨_, rfl⟩
      obtain ⟨A, eA⟩ : ∃ A, kxo (sb p) (sb F) (i + 1) = A := ⟨_, rfl⟩
      have zQ : Q.size ≤ 90000 := by rw [← eQ, dtx_size]; decide
      have lA : A.length = 32 := by rw [← eA]; exact kxo_length _ _ _
      have lT : (sb T).length = 32 := by rw [← eT]; exact ktx_length _ _ _
      have zT : T.size = 32 := by rw [← sb_length]; exact lT
      have HT := hide (show shm p Q = T ∧ kx A (sb T) = kxo (sb p) (sb F) (i + 1 + 1) from ⟨by rw [← eQ, ← eT]; rfl, by rw [kxo_succ (sb p) (sb F) (i + 1), eA, ← eT]; rfl⟩)
      rw [eA] at hR
      have HR := hide hR
      have HB := hide hB
      have HI := hide (And.intro eI hig)
      have HT3 := hide eT
      rw [eI] at hltI hbnd ⊢
      rw [eQ]
      clear hR hB eA eQ eT eI hlt hig
      go_wp2_with fail
      refine (rhmac_any p Q _ HZ.out.1 zQ).mono ?_
      rintro e w3 ⟨rfl, hw3⟩
      rw [HT.out.1]
      have HR3 := hide (HR.out.below hw3 HR.out.lt)
      have HB3 := hide (HB.out.trans (hw3.mono HB.out.size))
      clear hw3 HR HB
      go_wp2_with fail
      go_loopg [13] 32 (fun g9 q wr => ∃ k : Nat, k + g9 = 32 ∧ q = .int .i64 k ∧ Row wr g 0 (bs (kmid A (sb T) k)) ∧ Below w.heap.size w wr)
      case atStart => exact ⟨0, rfl, rfl, HR3.out, HB3.out⟩
      case round =>
        clear HR3 HB3
        obtain ⟨k, hkg, rfl, hR, hB⟩ := hrel
        by_cases hlt : k < 32
        · have hlt' : (k : Int) < 32 := by omega
          obtain ⟨g5, rfl⟩ : ∃ g5, gk = g5 + 1 := ⟨gk - 1, by omega⟩
          have hk : k ≤ 32 := by omega
          have hc := hR.y0 k (by rw [kmid_length lA lT k hk]; exact hlt)
          rw [kmid_at lA lT k hlt] at hc
          have f0' := hR.f0 k (by rw [bs_length, kmid_length lA lT k hk]; exact hlt)
          have hidx : ∀ w, (Instr.index 9 (.string T) (.int .i64 (k : Int))).run Try.prog w = .ok (.int .u8 ((by' (sb T) k : Nat) : Int)) w := fun w => idx_str T k (by omega) w
          have h3 := hR.set0 (i := k) (by rw [bs_length, kmid_length lA lT k hk]; exact hlt) (.int .u8 ((UInt8.ofNat (by' A k) ^^^ UInt8.ofNat (by' (sb T) k)).toNat : Int))
          rw [← bs_setU, ← kmid_succ lA lT k hlt] at h3
          have hx := x8_int (UInt8.ofNat (by' A k)) (UInt8.ofNat (by' (sb T) k))
          obtain ⟨z, ez⟩ : ∃ z, (UInt8.ofNat (by' A k) ^^^ UInt8.ofNat (by' (sb T) k)).toNat = z := ⟨_, rfl⟩
          rw [ez] at hx h3
          have ba : by' A k < 256 := by_lt _ _
          have bt : by' (sb T) k < 256 := by_lt _ _
          rw [UInt8.toNat_ofNat_of_lt' ba, UInt8.toNat_ofNat_of_lt' bt] at hx
          obtain ⟨a1, e1⟩ : ∃ a, by' A k = a := ⟨_, rfl⟩
          obtain ⟨t1, e2⟩ : ∃ t, by' (sb T) k = t := ⟨_, rfl⟩
          rw [e1] at hc hx ba
          rw [e2] at hidx hx bt
          have H3 := hide h3
          have HB := hide (hB.setCell (p := ⟨g, k, none⟩) HG.out (.int .u8 (z : Int)))
          have hyS : (k : Int) < (T.size : Int) := by rw [zT]; exact hlt'
          clear hR hB h3 ez e1 e2 lA lT
          go_wp2_with fail
          go_still_tail 11, hmx
          go_wp2_with fail
          go_roundg g5
          case measure => omega
          case rel => exact ⟨k + 1, by omega, by go_num, H3.out.drew, HB.out.drew⟩
        · obtain rfl : k = 32 := by omega
          rw [kmid_all lA lT, HT.out.2] at hR
          have HR := hide hR
          have HB := hide hB
          clear hR hB
          go_wp2_with fail
          go_roundg g3
          case measure => omega
          case rel =>
            obtain ⟨eI, hig⟩ := HI.out
            refine ⟨i + 1, by omega, by rw [HT3.out], ?_, HR.out, HB.out⟩
            rw [← eI]
            go_num
    · obtain rfl : n = i + 1 := by have := HN.out; omega
      obtain ⟨V, eV⟩ : ∃ V, dst p F (i + 1) = V := ⟨_, rfl⟩
      have hx := run_textR (P := Try.prog) wr 29 9 5 (c := cap) Try.underlying29 Try.underlying5 Try.underlying9 g 0 rfl (kxo_length (sb p) (sb F) (i + 1)) hR.cell
      rw [show (⟨(kxo (sb p) (sb F) (i + 1)).toArray⟩ : ByteArray) = V from eV] at hx
      have HB := hide hB
      have HV := hide eV
      clear hR hB eV
      go_wp2_with fail
      go_ret2
      exact ⟨by rw [HV.out]; rfl, HB.out⟩

theorem rfstretch_any (p s : ByteArray) (n b : Int) (w : World) : Calls Try.prog 12 #[.string p, .string s, .int .i64 n, .int .i64 b] w fun e w' => e = .returned (.tuple #[.string (st p s n b), .int .i64 (se p s n b)]) ∧ Below w.heap.size w w' := by
  by_cases h0 : p.size ≤ 64
  · by_cases h1 : s.size = 16
    · by_cases h2 : 1 ≤ n
      · by_cases h3 : n ≤ 64
        · by_cases h4 : 1 ≤ b
          · by_cases h5 : b ≤ 2147483647
            · obtain ⟨kb, rfl⟩ : ∃ k : Nat, b = (k : Int) := ⟨b.toNat, by omega⟩
              obtain ⟨nn, rfl⟩ : ∃ k : Nat, n = (k : Int) := ⟨n.toNat, by omega⟩
              exact rfstretch_ok p s nn kb w ⟨⟨h0, h1, h2, h3⟩, h4, h5⟩
            · exact rfstretch_no5 p s n b w h0 h1 h2 h3 h4 h5
          · exact rfstretch_no4 p s n b w h0 h1 h2 h3 h4
        · exact rfstretch_no3 p s n b w h0 h1 h2 h3
      · exact rfstretch_no2 p s n b w h0 h1 h2
    · exact rfstretch_no1 p s n b w h0 h1
  · exact rfstretch_no0 p s n b w h0

theorem okS_one {p s : ByteArray} {n : Int} (b : Int) (h : okD p s n) (hb : 1 ≤ b ∧ b ≤ 2147483647) : okS p s n b := ⟨h, hb⟩

set_option maxRecDepth 100000 in
set_option maxHeartbeats 8000000 in
theorem rfkey8_any (p s : ByteArray) (n : Int) (w : World) : Calls Try.prog 10 #[.string p, .string s, .int .i64 n] w fun e w' => e = .returned (.tuple #[.string (kk p s n), .string (kc p s n), .int .i64 (ke p s n)]) ∧ Below w.heap.size w w' := by
  have hmx : Try.prog.follows .mixedOrders = true := by kernel_rfl
  by_cases h : okD p s n
  · obtain ⟨K, eK⟩ : ∃ K, kk p s n = K := ⟨_, rfl⟩
    obtain ⟨C, eC⟩ : ∃ C, kc p s n = C := ⟨_, rfl⟩
    obtain ⟨S2, e2⟩ : ∃ K, st p s n 2 = K := ⟨_, rfl⟩
    have z2 : S2.size = 32 := by rw [← e2, st_ok (okS_one 2 h (by decide))]; exact dst_size _ _ _
    have hC : S2.extract 0 8 = C := by rw [← e2, ← eC, st_ok (okS_one 2 h (by decide)), kc_ok h]; rfl
    have H1 := hide (show se p s n 1 = 0 ∧ st p s n 1 = K from ⟨se_ok (okS_one 1 h (by decide)), by rw [st_ok (okS_one 1 h (by decide)), ← eK, kk_ok h]; rfl⟩)
    have H2 := hide (show se p s n 2 = 0 ∧ st p s n 2 = S2 from ⟨se_ok (okS_one 2 h (by decide)), e2⟩)
    rw [ke_ok h]
    clear h e2
    go_enter Try.func10, Try.ntmps10
    go_wp2_with fail
    refine (rfstretch_any p s n 1 _).mono ?_
    rintro e w1 ⟨rfl, hw1⟩
    rw [H1.out.1, H1.out.2]
    have HB1 := hide hw1
    clear hw1
    go_wp2_with fail
    refine (rfstretch_any p s n 2 _).mono ?_
    rintro e w2 ⟨rfl, hw2⟩
    rw [H2.out.1, H2.out.2]
    have HB2 := hide (HB1.out.trans (hw2.mono HB1.out.size))
    clear hw2 HB1
    go_wp2_with fail
    have HV := hide (And.intro eK eC)
    clear eK eC
    go_region
    go_wp2_with fail
    go_ret3
    exact ⟨by rw [HV.out.1, HV.out.2]; rfl, HB2.out.drew⟩
  · have H1 := hide (show se p s n 1 = 1 ∧ st p s n 1 = ⟨#[]⟩ from ⟨se_no (fun k => h k.1), st_no (fun k => h k.1)⟩)
    rw [ke_no h, kk_no h, kc_no h]
    clear h
    go_enter Try.func10, Try.ntmps10
    go_wp2_with fail
    refine (rfstretch_any p s n 1 _).mono ?_
    rintro e w1 ⟨rfl, hw1⟩
    rw [H1.out.1, H1.out.2]
    have HB1 := hide hw1
    clear hw1
    go_wp2_with fail
    go_ret3
    exact ⟨rfl, HB1.out⟩
end Go.Proofs.Ytdcmjmmfclhfbaa
