/- The document's blocks, deciphered, walked. For any key of 32 bytes and at most 60 blocks of 16: the call returns what ATab says, in memory of its own; what was there is left. -/
import Derived.Test.YtknjmmbebkcnpaaGEnc
namespace Go.Proofs.Ytknjmmbebkcnpaa
open Go.RowKit Bk
set_option linter.unusedVariables false
set_option linter.unusedSimpArgs false

set_option maxRecDepth 100000 in
set_option maxHeartbeats 32000000 in
theorem gdec_any (key : ByteArray) (fa : Option Addr) (m fc : Nat) (F : Nat → ByteArray) (w : World) (hk : key.size = 32) (hm : m ≤ 60) (hf : Tx w fa m F) (hz : ∀ j, j < m → (F j).size = 16) :
    Calls Try.prog 50 #[.string key, .slice fa m fc] w fun e w' => ∃ v, e = .returned v ∧ Ow w' w.heap.size v m (ts (fun j => dt key (F j)) m) ∧ Below w.heap.size w w' := by
  have hmx : Try.prog.follows .mixedOrders = true := by kernel_rfl
  have m16 : ∀ w, (Instr.makeSlice 28 (.int .i64 16) (.int .i64 16)).run Try.prog w = .ok (.slice (some ⟨w.heap.size, 0, none⟩) 16 16) (w.alloc (.cells (madeCells #[.int .u8 0] 16) 5)) := mk_bytes 16 (by decide)
  have m256 : ∀ w, (Instr.makeSlice 28 (.int .i64 256) (.int .i64 256)).run Try.prog w = .ok (.slice (some ⟨w.heap.size, 0, none⟩) 256 256) (w.alloc (.cells (madeCells #[.int .u8 0] 256) 5)) := mk_bytes 256 (by decide)
  obtain ⟨M, eM⟩ : ∃ M, madeCells #[.int .u8 0] 16 = M := ⟨_, rfl⟩
  have HRM := hide (show ∀ w : World, Row (w.alloc (.cells M 5)) w.heap.size 0 (bs (zr 16)) from fun w => eM ▸ row_made w 16)
  rw [eM] at m16
  have HM16 := hide m16
  obtain ⟨M2, eM2⟩ : ∃ M, madeCells #[.int .u8 0] 256 = M := ⟨_, rfl⟩
  have HRM2 := hide (show ∀ w : World, Row (w.alloc (.cells M2 5)) w.heap.size 0 (bs (zr 256)) from fun w => eM2 ▸ row_made w 256)
  rw [eM2] at m256
  have HK := hide hk
  have HF := hide (And.intro hm (And.intro hf hz))
  have HSB := hide SB_length
  have HOB := hide OB_length
  clear hk hf hz hm eM eM2 m16
  go_enter Try.func50, Try.ntmps50
  go_wp2_with fail
  refine (gtable_any _).mono ?_
  rintro e w1 ⟨v1, rfl, hO1, hB1⟩
  obtain ⟨tb, tc, rfl, htb, htc, hT⟩ := hO1.row (by decide)
  have H1 := hide (And.intro hT hB1)
  have H2 := hide (show Row (w1.alloc (.cells M2 5)) tb 0 (bs SB) ∧ Row (w1.alloc (.cells M2 5)) w1.heap.size 0 (bs (obs 0)) ∧ tb < w1.heap.size ∧ Below w.heap.size w (w1.alloc (.cells M2 5)) from ⟨hT.alloc _, by rw [obs_zero]; exact HRM2.out w1, hT.lt, hB1.alloc hB1.size _⟩)
  clear hO1 htb htc hT hB1
  go_wp2_with fail
  clear m256
  go_loopg [7] 256 (fun g q wr => ∃ k : Nat, k + g = 256 ∧ q = .int .i64 k ∧ Row wr tb 0 (bs SB) ∧ Row wr w1.heap.size 0 (bs (obs k)) ∧ tb < w1.heap.size ∧ Below w.heap.size w wr)
  case atStart => exact ⟨0, rfl, rfl, H2.out⟩
  case round =>
    clear H2
    obtain ⟨k, hkg, rfl, hT, hO, hlo, hB⟩ := hrel
    by_cases hlt : k < 256
    · have hlt' : (k : Int) < 256 := by omega
      obtain ⟨g3, rfl⟩ : ∃ g3, gk = g3 + 1 := ⟨gk - 1, by omega⟩
      have hcv := conv_byte k hlt
      have c1 := hT.g0 k (by rw [HSB.out]; exact hlt)
      obtain ⟨n, hn⟩ : ∃ n, (gy SB k).toNat = n := ⟨_, rfl⟩
      have ln : n < 256 := hn ▸ UInt8.toNat_lt _
      have ln' : (n : Int) < 256 := by omega
      rw [hn] at c1
      have c2 := hO.g0 n (by rw [obs_length]; exact ln)
      have f2 := hO.fy0 n (by rw [obs_length]; exact ln)
      have h3 := hO.sety (i := n) (by rw [obs_length]; exact ln) (UInt8.ofNat k)
      have e3 : (obs k).set n (UInt8.ofNat k) = obs (k + 1) := by rw [← hn]; rfl
      rw [e3, UInt8.toNat_ofNat_of_lt' hlt] at h3
      have H3 := hide (And.intro (hT.other w1.heap.size n (.int .u8 (k : Int)) (.inl (by omega))) (And.intro h3 (And.intro hlo (hB.setCell (p := ⟨w1.heap.size, n, none⟩) H1.out.2.size (.int .u8 (k : Int))))))
      clear hT hO hlo hB h3 e3 hn
      go_wp2_with fail
      go_roundg g3
      case measure => omega
      case rel => exact ⟨k + 1, by omega, by go_num, H3.out⟩
    · obtain rfl : k = 256 := by omega
      have H2 := hide (show Row wr tb 0 (bs SB) ∧ Row wr w1.heap.size 0 (bs OB) ∧ Below w.heap.size w wr from ⟨hT, hO, hB⟩)
      have HBB := hide H1.out.2.size
      obtain ⟨bb, hbb⟩ : ∃ b, w1.heap.size = b := ⟨_, rfl⟩
      rw [hbb] at H2 HBB ⊢
      clear hT hO hlo hB H1 hbb
      go_wp2_with fail
      refine (gwords_any SB key _ tb tc HK.out HSB.out H2.out.1).mono ?_
      rintro e w2 ⟨v2, rfl, hO2, hB2⟩
      obtain ⟨wb, wc, rfl, hwb, hwc, hW⟩ := hO2.row (by decide)
      have hbe : Below w.heap.size w w2 := H2.out.2.2.trans (hB2.mono H2.out.2.2.size)
      have HG := hide (show Gb w2 bb wb OB (kw key) fa m F from ⟨H2.out.2.1.below hB2 H2.out.2.1.lt, hW, HF.out.2.1.below hbe⟩)
      have HB := hide hbe
      clear hO2 hwb hwc hW hB2 hbe H2 hlt hkg
      go_wp2_with fail
      go_loopg [9, 10, 11, 12, 13, 14, 15, 16, 17, 18, 19, 20, 21, 22, 23] m (fun g v q _ _ _ _ _ _ _ _ _ _ _ _ _ wr => ∃ k : Nat, k + g = m ∧ q = .int .i64 k ∧ Ow wr w2.heap.size v k (ts (fun j => dt key (F j)) k) ∧ Below w2.heap.size w2 wr)
      case atStart => exact ⟨0, by omega, rfl, Ow.nil _ _, Below.refl _ _⟩
      case round =>
        obtain ⟨wo, hwo⟩ : ∃ z, z = wr := ⟨_, rfl⟩
        subst hwo
        obtain ⟨k, hkg, rfl, hO, hBw⟩ := hrel
        by_cases hlt : k < m
        · have hlt' : (k : Int) < (m : Int) := by omega
          obtain ⟨g3, rfl⟩ : ∃ g3, gk = g3 + 1 := ⟨gk - 1, by omega⟩
          obtain ⟨va, vc, rfl, hvc⟩ := hO.shape
          have hG := HG.out.below hBw
          obtain ⟨fb, fo, rfl, hfb, cF⟩ := hG.f.at' hlt
          obtain ⟨x, ex⟩ : ∃ x, F k = x := ⟨_, rfl⟩
          have zx : x.size = 16 := ex ▸ HF.out.2.2 k hlt
          rw [ex] at cF
          obtain ⟨X, eX⟩ : ∃ X, sb x = X := ⟨_, rfl⟩
          have lX : X.length = 16 := by rw [← eX, sb_length, zx]
          obtain ⟨v3, w3, hrun, hO3, hB3⟩ := run_bytesO (P := Try.prog) wo 9 28 5 x Try.underlying9 Try.underlying28 Try.underlying5
          rw [zx, eX] at hO3
          obtain ⟨sb0, sc, rfl, hsb, hsc, hS⟩ := hO3.row (by decide)
          have HO := hide hO
          have HBw := hide hBw
          have HGo := hide hG
          have HX := hide lX
          have HE := hide (And.intro ex eX)
          have HS := hide (show Gs wo w3 sb0 X from ⟨hS, hsb, hB3⟩)
          have HN := hide (And.intro hlt hkg)
          clear hO hBw hG hfb hO3 hB3 hsb hsc hS lX ex eX zx hvc hkg
          go_wp2_with fail
          clear hrun cF
          go_loopg [11, 12, 13, 14, 15, 16, 17, 18, 19, 20, 21, 22] 15 (fun g v q _ _ _ _ _ _ _ _ _ _ wr => ∃ r sb sc : Nat, r + 1 + g = 16 ∧ v = .slice (some ⟨sb, 0, none⟩) 16 sc ∧ q = .int .i64 (14 - (r : Int)) ∧ r ≤ 14 ∧ Gs wo wr sb (dN (kw key) X r))
          case atStart => exact ⟨0, sb0, sc, rfl, rfl, rfl, by decide, HS.out⟩
          case round =>
            clear HS
            obtain ⟨wp, hwp⟩ : ∃ z, z = wr := ⟨_, rfl⟩
            subst hwp
            obtain ⟨r, sb1, sc1, hrg, rfl, rfl, hr14, hS⟩ := hrel
            by_cases hr : r < 14
            · obtain ⟨g5, rfl⟩ : ∃ g5, gk = g5 + 1 := ⟨gk - 1, by omega⟩
              obtain ⟨n, en⟩ : ∃ n, 14 - r = n := ⟨_, rfl⟩
              have eI : (14 : Int) - (r : Int) = (n : Int) := by omega
              rw [eI]
              have hr' : (1 : Int) ≤ (n : Int) := by omega
              have hn0 := IntWalk.i64_in ((n : Int) - 1) (by omega)
              obtain ⟨s, es⟩ : ∃ s, dN (kw key) X r = s := ⟨_, rfl⟩
              have ls : s.length = 16 := by rw [← es]; exact dN_length HX.out r
              rw [es] at hS
              obtain ⟨Kn, eK⟩ : ∃ a, kR (kw key) n = a := ⟨_, rfl⟩
              have lK : Kn.length = 16 := by rw [← eK]; exact kR_length (by rw [kw_length HK.out]; omega)
              obtain ⟨A, eA⟩ : ∃ a, comb s Kn = a := ⟨_, rfl⟩
              have lA : A.length = 16 := eA ▸ comb_length ls lK
              obtain ⟨C, eC⟩ : ∃ a, (if n < 14 then mixS fD A else A) = a := ⟨_, rfl⟩
              have lC : C.length = 16 := by
                rw [← eC]
                split
                · exact mixS_length _ _
                · exact lA
              obtain ⟨D, eD⟩ : ∃ a, repl OB (shf 3 C) = a := ⟨_, rfl⟩
              have lD : D.length = 16 := by rw [← eD, repl_length]; exact shf_length _ _
              have hD : dN (kw key) X (r + 1) = D := by
                show dR (kw key) (r + 1) (dN (kw key) X r) = D
                rw [es]
                unfold dR
                rw [show 15 - (r + 1) = n by omega, eK, eA, eC, eD]
              have HLs := hide (And.intro ls (And.intro lA (And.intro lC (And.intro lK lD))))
              have HEs := hide (And.intro eA (And.intro eC (And.intro eK (And.intro eD hD))))
              have HR := hide (And.intro hrg (And.intro hr en))
              have HS := hide (show Gs wo wp sb1 (mixd A s 0) from by rw [mixd_zero]; exact hS)
              clear hS ls lA lC lK lD eA eC eK eD hD es hrg hr en hr14 eI
              go_wp2_with fail
              go_loopg [13] 16 (fun g q wr => ∃ i : Nat, i + g = 16 ∧ q = .int .i64 i ∧ Gs wo wr sb1 (mixd A s i))
              case atStart => exact ⟨0, rfl, rfl, HS.out⟩
              case round =>
                clear HS
                obtain ⟨wx, hwx⟩ : ∃ z, z = wr := ⟨_, rfl⟩
                subst hwx
                obtain ⟨i, hig, rfl, hS⟩ := hrel
                by_cases hi : i < 16
                · have hi' : (i : Int) < 16 := by omega
                  obtain ⟨g7, rfl⟩ : ∃ g7, gk = g7 + 1 := ⟨gk - 1, by omega⟩
                  have hn14 : n ≤ 14 := by have := HR.out.2; omega
                  have lm : (mixd A s i).length = 16 := mixd_length HLs.out.2.1 HLs.out.1 i (by omega)
                  have hG := HGo.out.below hS.be
                  have c1 := hS.s.drew.g0 i (by rw [lm]; exact hi)
                  rw [gy_mixd HLs.out.2.1 HLs.out.1 (by omega), if_neg (Nat.lt_irrefl _)] at c1
                  have f1 := hS.s.drew.fy0 i (by rw [lm]; exact hi)
                  obtain ⟨p, ep⟩ : ∃ p, 16 * n + i = p := ⟨_, rfl⟩
                  have v1 := IntWalk.i64_in (16 * (n : Int)) (by omega)
                  have v2 : 16 * (n : Int) + (i : Int) = (p : Int) := by omega
                  have v3 := IntWalk.i64_in (p : Int) (by omega)
                  have v4 : (p : Int) < 240 := by omega
                  have c2 := hG.k.drew.g0 p (by rw [kw_length HK.out]; omega)
                  have e2 : gy (kw key) p = gy Kn i := by rw [← HEs.out.2.2.1]; unfold kR; rw [gy_take _ _ _ hi, gy_drop, ep]
                  rw [e2] at c2
                  have e3 : gy s i ^^^ gy Kn i = gy A i := by rw [← HEs.out.1, gy_comb (by rw [HLs.out.1]; exact hi) (by rw [HLs.out.2.2.2.1]; exact hi)]
                  have hxo := x8_int (gy s i) (gy Kn i)
                  rw [e3] at hxo
                  have h3 : Gs wo (wx.drew.setCell ⟨sb1, i, none⟩ (.int .u8 ((gy A i).toNat : Int))) sb1 (mixd A s (i + 1)) := ⟨hS.s.drew.mixd1 HLs.out.2.1 HLs.out.1 hi rfl, hS.lo, (Below.drew hS.be).setCell (p := ⟨sb1, i, none⟩) hS.lo _⟩
                  have H3 := hide h3
                  obtain ⟨y1, f01⟩ : ∃ y, gy s i = y := ⟨_, rfl⟩
                  obtain ⟨y2, f02⟩ : ∃ y, gy Kn i = y := ⟨_, rfl⟩
                  obtain ⟨y3, f03⟩ : ∃ y, gy A i = y := ⟨_, rfl⟩
                  rw [f01] at c1 hxo
                  rw [f02] at c2 hxo
                  rw [f03] at hxo H3
                  clear hS hG h3 lm e2 e3 f01 f02 f03 ep
                  go_wp2_with fail
                  go_still_tail 15, hmx
                  go_wp2_with fail
                  go_roundg g7
                  case measure => omega
                  case rel => exact ⟨i + 1, by omega, by go_num, H3.out⟩
                · obtain rfl : i = 16 := by omega
                  rw [mixd_all HLs.out.2.1 HLs.out.1] at hS
                  by_cases cn : n < 14
                  · have cn' : (n : Int) < 14 := by omega
                    have eC : mixS fD A = C := by have := HEs.out.2.1; rwa [if_pos cn] at this
                    have HC0 := hide (show Gs wo wx sb1 (mixd C A (0 * 4)) from by rw [Nat.zero_mul, mixd_zero]; exact hS)
                    have HEC := hide eC
                    clear eC hS
                    go_wp2_with fail
                    clear cn'
                    go_loopg [14, 15, 16, 17, 18] 4 (fun g q _ _ _ _ wr => ∃ c : Nat, c + g = 4 ∧ q = .int .i64 c ∧ Gs wo wr sb1 (mixd C A (c * 4)))
                    case atStart => exact ⟨0, rfl, rfl, HC0.out⟩
                    case round =>
                      clear HC0
                      obtain ⟨wx, hwx⟩ : ∃ z, z = wr := ⟨_, rfl⟩
                      subst hwx
                      obtain ⟨c, hcg, rfl, hS⟩ := hrel
                      by_cases hc : c < 4
                      · have hc' : (c : Int) < 4 := by omega
                        obtain ⟨g7, rfl⟩ : ∃ g7, gk = g7 + 1 := ⟨gk - 1, by omega⟩
                        have lm : (mixd C A (c * 4)).length = 16 := mixd_length HLs.out.2.2.1 HLs.out.2.1 _ (by omega)
                        have hcol := colD A c hc
                        rw [HEC.out] at hcol
                        obtain ⟨i0, ei0⟩ : ∃ z, 4 * c = z := ⟨_, rfl⟩
                        have w0 : 4 * (c : Int) = (i0 : Int) := by omega
                        have n0 : c * 4 = i0 := by omega
                        have hA := hS.s
                        rw [n0] at hA lm
                        rw [ei0] at hcol
                        have a0 : (i0 : Int) < 16 := by omega
                        have z0 := IntWalk.i64_in (i0 : Int) (by omega)
                        have hAd := hA.drew
                        have HLO := hide hS.lo
                        have a1 : (i0 : Int) + 1 < 16 := by omega
                        have b1 : (0 : Int) ≤ (i0 : Int) + 1 := by omega
                        have tn1 : ((i0 : Int) + 1).toNat = i0 + 1 := by omega
                        have z1 := IntWalk.i64_in ((i0 : Int) + 1) (by omega)
                        have a2 : (i0 : Int) + 2 < 16 := by omega
                        have b2 : (0 : Int) ≤ (i0 : Int) + 2 := by omega
                        have tn2 : ((i0 : Int) + 2).toNat = i0 + 2 := by omega
                        have z2 := IntWalk.i64_in ((i0 : Int) + 2) (by omega)
                        have a3 : (i0 : Int) + 3 < 16 := by omega
                        have b3 : (0 : Int) ≤ (i0 : Int) + 3 := by omega
                        have tn3 : ((i0 : Int) + 3).toNat = i0 + 3 := by omega
                        have z3 := IntWalk.i64_in ((i0 : Int) + 3) (by omega)
                        have c0 := hAd.g0 (i0) (by rw [lm]; omega)
                        rw [gy_mixd HLs.out.2.2.1 HLs.out.2.1 (by omega), if_neg (by omega)] at c0
                        have c1 := hAd.g0 (i0 + 1) (by rw [lm]; omega)
                        rw [gy_mixd HLs.out.2.2.1 HLs.out.2.1 (by omega), if_neg (by omega)] at c1
                        have c2 := hAd.g0 (i0 + 2) (by rw [lm]; omega)
                        rw [gy_mixd HLs.out.2.2.1 HLs.out.2.1 (by omega), if_neg (by omega)] at c2
                        have c3 := hAd.g0 (i0 + 3) (by rw [lm]; omega)
                        rw [gy_mixd HLs.out.2.2.1 HLs.out.2.1 (by omega), if_neg (by omega)] at c3
                        obtain ⟨hc0, hc1, hc2, hc3⟩ := hcol
                        obtain ⟨y0, ey0⟩ : ∃ y, gy A (i0) = y := ⟨_, rfl⟩
                        rw [ey0] at c0 hc0 hc1 hc2 hc3
                        obtain ⟨y1, ey1⟩ : ∃ y, gy A (i0 + 1) = y := ⟨_, rfl⟩
                        rw [ey1] at c1 hc0 hc1 hc2 hc3
                        obtain ⟨y2, ey2⟩ : ∃ y, gy A (i0 + 2) = y := ⟨_, rfl⟩
                        rw [ey2] at c2 hc0 hc1 hc2 hc3
                        obtain ⟨y3, ey3⟩ : ∃ y, gy A (i0 + 3) = y := ⟨_, rfl⟩
                        rw [ey3] at c3 hc0 hc1 hc2 hc3
                        obtain ⟨R0, eR0⟩ : ∃ y, gy C (i0) = y := ⟨_, rfl⟩
                        rw [eR0] at hc0
                        obtain ⟨R1, eR1⟩ : ∃ y, gy C (i0 + 1) = y := ⟨_, rfl⟩
                        rw [eR1] at hc1
                        obtain ⟨R2, eR2⟩ : ∃ y, gy C (i0 + 2) = y := ⟨_, rfl⟩
                        rw [eR2] at hc2
                        obtain ⟨R3, eR3⟩ : ∃ y, gy C (i0 + 3) = y := ⟨_, rfl⟩
                        rw [eR3] at hc3
                        have HQ0 := hide (show Below wo.heap.size wo wx.drew ∧ Row wx.drew sb1 0 (bs (mixd C A i0)) from ⟨hS.drew.be, hAd⟩)
                        have HCo := hide (And.intro hc0 (And.intro hc1 (And.intro hc2 (And.intro hc3 (And.intro eR0 (And.intro eR1 (And.intro eR2 eR3)))))))
                        have HI0 := hide (show i0 + 3 < 16 ∧ c * 4 = i0 ∧ c < 4 by omega)
                        clear hA hAd lm hc0 hc1 hc2 hc3 eR0 eR1 eR2 eR3 ey0 ey1 ey2 ey3 ei0 n0 hS
                        have HS4 := hide (And.intro c0 (And.intro c1 (And.intro c2 c3)))
                        clear c0 c1 c2 c3
                        go_wp2_with fail
                        refine wp_region_ord (fun w9 => w9.cell? ⟨sb1, i0, none⟩ = some (.int .u8 (y0.toNat : Int)) ∧ w9.cell? ⟨sb1, i0 + 1, none⟩ = some (.int .u8 (y1.toNat : Int)) ∧ w9.cell? ⟨sb1, i0 + 2, none⟩ = some (.int .u8 (y2.toNat : Int)) ∧ w9.cell? ⟨sb1, i0 + 3, none⟩ = some (.int .u8 (y3.toNat : Int))) 26 [(0, some true), (1, some true), (2, some true), (3, some true), (4, some false), (5, some true), (6, some true), (7, some true), (8, some true), (9, some true), (10, some false), (11, some true), (12, some true), (13, some true), (14, some true), (15, some true), (16, some false), (17, some true), (18, some true), (19, some true), (20, some true), (21, some true), (22, some false), (23, none), (24, none), (25, none), (26, none)] (by kernel_rfl) (by kernel_rfl) (fun _ _ _ _ h => h) HS4.out ?_
                        refine ord_pureE (o := ⟨some 81, _, _, _, _, _⟩) rfl (by kernel_rfl) ⟨_, fun w9 => by (go_simp; try rfl), ?_⟩
                        simp only [Act.put, List.setIfInBounds_toArray, List.set_cons_zero, List.set_cons_succ]
                        refine ord_pureE (o := ⟨some 82, _, _, _, _, _⟩) rfl (by kernel_rfl) ⟨_, fun w9 => by (go_simp; try rfl), ?_⟩
                        simp only [Act.put, List.setIfInBounds_toArray, List.set_cons_zero, List.set_cons_succ]
                        refine ord_pureE (o := ⟨some 83, _, _, _, _, _⟩) rfl (by kernel_rfl) ⟨_, fun w9 => by (go_simp; try rfl), ?_⟩
                        simp only [Act.put, List.setIfInBounds_toArray, List.set_cons_zero, List.set_cons_succ]
                        refine ord_pureE (o := ⟨some 84, _, _, _, _, _⟩) rfl (by kernel_rfl) ⟨_, fun w9 => by (go_simp; try rfl), ?_⟩
                        simp only [Act.put, List.setIfInBounds_toArray, List.set_cons_zero, List.set_cons_succ]
                        refine ord_heldE (o := ⟨some 85, _, _, _, _, _⟩) rfl (by kernel_rfl) ⟨_, fun w9 h9 => by (obtain ⟨q0, q1, q2, q3⟩ := h9; go_simp; try rfl), ?_⟩
                        simp only [Act.put, List.setIfInBounds_toArray, List.set_cons_zero, List.set_cons_succ]
                        refine ord_pureE (o := ⟨some 86, _, _, _, _, _⟩) rfl (by kernel_rfl) ⟨_, fun w9 => by (go_simp; try rfl), ?_⟩
                        simp only [Act.put, List.setIfInBounds_toArray, List.set_cons_zero, List.set_cons_succ]
                        refine ord_pureE (o := ⟨some 87, _, _, _, _, _⟩) rfl (by kernel_rfl) ⟨_, fun w9 => by (go_simp; try rfl), ?_⟩
                        simp only [Act.put, List.setIfInBounds_toArray, List.set_cons_zero, List.set_cons_succ]
                        refine ord_pureE (o := ⟨some 88, _, _, _, _, _⟩) rfl (by kernel_rfl) ⟨_, fun w9 => by (go_simp; try rfl), ?_⟩
                        simp only [Act.put, List.setIfInBounds_toArray, List.set_cons_zero, List.set_cons_succ]
                        refine ord_pureE (o := ⟨some 89, _, _, _, _, _⟩) rfl (by kernel_rfl) ⟨_, fun w9 => by (go_simp; try rfl), ?_⟩
                        simp only [Act.put, List.setIfInBounds_toArray, List.set_cons_zero, List.set_cons_succ]
                        refine ord_pureE (o := ⟨some 90, _, _, _, _, _⟩) rfl (by kernel_rfl) ⟨_, fun w9 => by (go_simp; try rfl), ?_⟩
                        simp only [Act.put, List.setIfInBounds_toArray, List.set_cons_zero, List.set_cons_succ]
                        refine ord_heldE (o := ⟨some 91, _, _, _, _, _⟩) rfl (by kernel_rfl) ⟨_, fun w9 h9 => by (obtain ⟨q0, q1, q2, q3⟩ := h9; go_simp; try rfl), ?_⟩
                        simp only [Act.put, List.setIfInBounds_toArray, List.set_cons_zero, List.set_cons_succ]
                        refine ord_pureE (o := ⟨some 92, _, _, _, _, _⟩) rfl (by kernel_rfl) ⟨_, fun w9 => by (go_simp; try rfl), ?_⟩
                        simp only [Act.put, List.setIfInBounds_toArray, List.set_cons_zero, List.set_cons_succ]
                        refine ord_pureE (o := ⟨some 93, _, _, _, _, _⟩) rfl (by kernel_rfl) ⟨_, fun w9 => by (go_simp; try rfl), ?_⟩
                        simp only [Act.put, List.setIfInBounds_toArray, List.set_cons_zero, List.set_cons_succ]
                        refine ord_pureE (o := ⟨some 94, _, _, _, _, _⟩) rfl (by kernel_rfl) ⟨_, fun w9 => by (go_simp; try rfl), ?_⟩
                        simp only [Act.put, List.setIfInBounds_toArray, List.set_cons_zero, List.set_cons_succ]
                        refine ord_pureE (o := ⟨some 95, _, _, _, _, _⟩) rfl (by kernel_rfl) ⟨_, fun w9 => by (go_simp; try rfl), ?_⟩
                        simp only [Act.put, List.setIfInBounds_toArray, List.set_cons_zero, List.set_cons_succ]
                        refine ord_pureE (o := ⟨some 96, _, _, _, _, _⟩) rfl (by kernel_rfl) ⟨_, fun w9 => by (go_simp; try rfl), ?_⟩
                        simp only [Act.put, List.setIfInBounds_toArray, List.set_cons_zero, List.set_cons_succ]
                        refine ord_heldE (o := ⟨some 97, _, _, _, _, _⟩) rfl (by kernel_rfl) ⟨_, fun w9 h9 => by (obtain ⟨q0, q1, q2, q3⟩ := h9; go_simp; try rfl), ?_⟩
                        simp only [Act.put, List.setIfInBounds_toArray, List.set_cons_zero, List.set_cons_succ]
                        refine ord_pureE (o := ⟨some 98, _, _, _, _, _⟩) rfl (by kernel_rfl) ⟨_, fun w9 => by (go_simp; try rfl), ?_⟩
                        simp only [Act.put, List.setIfInBounds_toArray, List.set_cons_zero, List.set_cons_succ]
                        refine ord_pureE (o := ⟨some 99, _, _, _, _, _⟩) rfl (by kernel_rfl) ⟨_, fun w9 => by (go_simp; try rfl), ?_⟩
                        simp only [Act.put, List.setIfInBounds_toArray, List.set_cons_zero, List.set_cons_succ]
                        refine ord_pureE (o := ⟨some 100, _, _, _, _, _⟩) rfl (by kernel_rfl) ⟨_, fun w9 => by (go_simp; try rfl), ?_⟩
                        simp only [Act.put, List.setIfInBounds_toArray, List.set_cons_zero, List.set_cons_succ]
                        refine ord_pureE (o := ⟨some 101, _, _, _, _, _⟩) rfl (by kernel_rfl) ⟨_, fun w9 => by (go_simp; try rfl), ?_⟩
                        simp only [Act.put, List.setIfInBounds_toArray, List.set_cons_zero, List.set_cons_succ]
                        refine ord_pureE (o := ⟨some 102, _, _, _, _, _⟩) rfl (by kernel_rfl) ⟨_, fun w9 => by (go_simp; try rfl), ?_⟩
                        simp only [Act.put, List.setIfInBounds_toArray, List.set_cons_zero, List.set_cons_succ]
                        refine ord_heldE (o := ⟨some 103, _, _, _, _, _⟩) rfl (by kernel_rfl) ⟨_, fun w9 h9 => by (obtain ⟨q0, q1, q2, q3⟩ := h9; go_simp; try rfl), ?_⟩
                        simp only [Act.put, List.setIfInBounds_toArray, List.set_cons_zero, List.set_cons_succ]
                        refine ord_go rfl (fun K9 hK => ?_)
                        go_simp
                        skip
                        refine hK.out _ _ (fun _ => HS4.out) ?_
                        clear hK K9
                        refine ord_go rfl (fun K9 hK => ?_)
                        go_simp
                        skip
                        refine hK.out _ _ (fun _ => HS4.out) ?_
                        clear hK K9
                        refine ord_go rfl (fun K9 hK => ?_)
                        go_simp
                        skip
                        refine hK.out _ _ (fun _ => HS4.out) ?_
                        clear hK K9
                        refine ord_go rfl (fun K9 hK => ?_)
                        go_simp
                        skip
                        refine hK.out _ _ (fun h => by cases h) ?_
                        clear hK K9
                        refine ord_end ?_
                        clear HS4
                        have cs := HQ0.out.2.g0 (i0) (by rw [mixd_length HLs.out.2.2.1 HLs.out.2.1 _ (by have := HI0.out; omega)]; have := HI0.out; omega)
                        have fs := HQ0.out.2.fy0 (i0) (by rw [mixd_length HLs.out.2.2.1 HLs.out.2.1 _ (by have := HI0.out; omega)]; have := HI0.out; omega)
                        have x1 := x8_int ((mu 14 y0)) (mu 11 y1)
                        have x2 := x8_int (((mu 14 y0) ^^^ (mu 11 y1))) (mu 13 y2)
                        have x3 := x8_int ((((mu 14 y0) ^^^ (mu 11 y1)) ^^^ (mu 13 y2))) (mu 9 y3)
                        have hr := HCo.out.1
                        rw [← hr] at x3
                        obtain ⟨s1, es1⟩ : ∃ y, ((mu 14 y0) ^^^ (mu 11 y1)) = y := ⟨_, rfl⟩
                        rw [es1] at x1 x2 x3
                        obtain ⟨s2, es2⟩ : ∃ y, s1 ^^^ (mu 13 y2) = y := ⟨_, rfl⟩
                        rw [es2] at x2 x3
                        clear es1 es2 hr
                        obtain ⟨wq1, hwq1, g1, g2⟩ : ∃ v, wx.drew.setCell ⟨sb1, i0, none⟩ (.int .u8 (R0.toNat : Int)) = v ∧ (Below wo.heap.size wo v) ∧ Row v sb1 0 (bs (mixd C A (i0 + 1))) :=
                          ⟨_, rfl, HQ0.out.1.setCell (p := ⟨sb1, i0, none⟩) HLO.out _, by
                            have h := HQ0.out.2.mixd1 HLs.out.2.2.1 HLs.out.2.1 (k := i0) (by have := HI0.out; omega) (x := R0) HCo.out.2.2.2.2.1.symm
                            exact h⟩
                        have HQ1 := hide (And.intro g1 g2)
                        clear g1 g2
                        go_wp2_with fail
                        refine (gmul_u8 14 y0 _).mono ?_
                        rintro e w8 ⟨rfl, hw⟩
                        obtain rfl := hw.symm
                        go_wp2_with fail
                        refine (gmul_u8 11 y1 _).mono ?_
                        rintro e w8 ⟨rfl, hw⟩
                        obtain rfl := hw.symm
                        go_wp2_with fail
                        refine (gmul_u8 13 y2 _).mono ?_
                        rintro e w8 ⟨rfl, hw⟩
                        obtain rfl := hw.symm
                        go_wp2_with fail
                        refine (gmul_u8 9 y3 _).mono ?_
                        rintro e w8 ⟨rfl, hw⟩
                        obtain rfl := hw.symm
                        go_wp2_with fail
                        clear cs fs x1 x2 x3 hwq1 HQ0
                        have cs := HQ1.out.2.g0 (i0 + 1) (by rw [mixd_length HLs.out.2.2.1 HLs.out.2.1 _ (by have := HI0.out; omega)]; have := HI0.out; omega)
                        have fs := HQ1.out.2.fy0 (i0 + 1) (by rw [mixd_length HLs.out.2.2.1 HLs.out.2.1 _ (by have := HI0.out; omega)]; have := HI0.out; omega)
                        have x1 := x8_int ((mu 9 y0)) (mu 14 y1)
                        have x2 := x8_int (((mu 9 y0) ^^^ (mu 14 y1))) (mu 11 y2)
                        have x3 := x8_int ((((mu 9 y0) ^^^ (mu 14 y1)) ^^^ (mu 11 y2))) (mu 13 y3)
                        have hr := HCo.out.2.1
                        rw [← hr] at x3
                        obtain ⟨s1, es1⟩ : ∃ y, ((mu 9 y0) ^^^ (mu 14 y1)) = y := ⟨_, rfl⟩
                        rw [es1] at x1 x2 x3
                        obtain ⟨s2, es2⟩ : ∃ y, s1 ^^^ (mu 11 y2) = y := ⟨_, rfl⟩
                        rw [es2] at x2 x3
                        clear es1 es2 hr
                        obtain ⟨wq2, hwq2, g1, g2⟩ : ∃ v, wq1.setCell ⟨sb1, i0 + 1, none⟩ (.int .u8 (R1.toNat : Int)) = v ∧ (Below wo.heap.size wo v) ∧ Row v sb1 0 (bs (mixd C A (i0 + 2))) :=
                          ⟨_, rfl, HQ1.out.1.setCell (p := ⟨sb1, i0 + 1, none⟩) HLO.out _, by
                            have h := HQ1.out.2.mixd1 HLs.out.2.2.1 HLs.out.2.1 (k := i0 + 1) (by have := HI0.out; omega) (x := R1) HCo.out.2.2.2.2.2.1.symm
                            exact h⟩
                        have HQ2 := hide (And.intro g1 g2)
                        clear g1 g2
                        go_wp2_with fail
                        refine (gmul_u8 9 y0 _).mono ?_
                        rintro e w8 ⟨rfl, hw⟩
                        obtain rfl := hw.symm
                        go_wp2_with fail
                        refine (gmul_u8 14 y1 _).mono ?_
                        rintro e w8 ⟨rfl, hw⟩
                        obtain rfl := hw.symm
                        go_wp2_with fail
                        refine (gmul_u8 11 y2 _).mono ?_
                        rintro e w8 ⟨rfl, hw⟩
                        obtain rfl := hw.symm
                        go_wp2_with fail
                        refine (gmul_u8 13 y3 _).mono ?_
                        rintro e w8 ⟨rfl, hw⟩
                        obtain rfl := hw.symm
                        go_wp2_with fail
                        clear cs fs x1 x2 x3 hwq2 HQ1
                        have cs := HQ2.out.2.g0 (i0 + 2) (by rw [mixd_length HLs.out.2.2.1 HLs.out.2.1 _ (by have := HI0.out; omega)]; have := HI0.out; omega)
                        have fs := HQ2.out.2.fy0 (i0 + 2) (by rw [mixd_length HLs.out.2.2.1 HLs.out.2.1 _ (by have := HI0.out; omega)]; have := HI0.out; omega)
                        have x1 := x8_int ((mu 13 y0)) (mu 9 y1)
                        have x2 := x8_int (((mu 13 y0) ^^^ (mu 9 y1))) (mu 14 y2)
                        have x3 := x8_int ((((mu 13 y0) ^^^ (mu 9 y1)) ^^^ (mu 14 y2))) (mu 11 y3)
                        have hr := HCo.out.2.2.1
                        rw [← hr] at x3
                        obtain ⟨s1, es1⟩ : ∃ y, ((mu 13 y0) ^^^ (mu 9 y1)) = y := ⟨_, rfl⟩
                        rw [es1] at x1 x2 x3
                        obtain ⟨s2, es2⟩ : ∃ y, s1 ^^^ (mu 14 y2) = y := ⟨_, rfl⟩
                        rw [es2] at x2 x3
                        clear es1 es2 hr
                        obtain ⟨wq3, hwq3, g1, g2⟩ : ∃ v, wq2.setCell ⟨sb1, i0 + 2, none⟩ (.int .u8 (R2.toNat : Int)) = v ∧ (Below wo.heap.size wo v) ∧ Row v sb1 0 (bs (mixd C A (i0 + 3))) :=
                          ⟨_, rfl, HQ2.out.1.setCell (p := ⟨sb1, i0 + 2, none⟩) HLO.out _, by
                            have h := HQ2.out.2.mixd1 HLs.out.2.2.1 HLs.out.2.1 (k := i0 + 2) (by have := HI0.out; omega) (x := R2) HCo.out.2.2.2.2.2.2.1.symm
                            exact h⟩
                        have HQ3 := hide (And.intro g1 g2)
                        clear g1 g2
                        go_wp2_with fail
                        refine (gmul_u8 13 y0 _).mono ?_
                        rintro e w8 ⟨rfl, hw⟩
                        obtain rfl := hw.symm
                        go_wp2_with fail
                        refine (gmul_u8 9 y1 _).mono ?_
                        rintro e w8 ⟨rfl, hw⟩
                        obtain rfl := hw.symm
                        go_wp2_with fail
                        refine (gmul_u8 14 y2 _).mono ?_
                        rintro e w8 ⟨rfl, hw⟩
                        obtain rfl := hw.symm
                        go_wp2_with fail
                        refine (gmul_u8 11 y3 _).mono ?_
                        rintro e w8 ⟨rfl, hw⟩
                        obtain rfl := hw.symm
                        go_wp2_with fail
                        clear cs fs x1 x2 x3 hwq3 HQ2
                        have cs := HQ3.out.2.g0 (i0 + 3) (by rw [mixd_length HLs.out.2.2.1 HLs.out.2.1 _ (by have := HI0.out; omega)]; have := HI0.out; omega)
                        have fs := HQ3.out.2.fy0 (i0 + 3) (by rw [mixd_length HLs.out.2.2.1 HLs.out.2.1 _ (by have := HI0.out; omega)]; have := HI0.out; omega)
                        have x1 := x8_int ((mu 11 y0)) (mu 13 y1)
                        have x2 := x8_int (((mu 11 y0) ^^^ (mu 13 y1))) (mu 9 y2)
                        have x3 := x8_int ((((mu 11 y0) ^^^ (mu 13 y1)) ^^^ (mu 9 y2))) (mu 14 y3)
                        have hr := HCo.out.2.2.2.1
                        rw [← hr] at x3
                        obtain ⟨s1, es1⟩ : ∃ y, ((mu 11 y0) ^^^ (mu 13 y1)) = y := ⟨_, rfl⟩
                        rw [es1] at x1 x2 x3
                        obtain ⟨s2, es2⟩ : ∃ y, s1 ^^^ (mu 9 y2) = y := ⟨_, rfl⟩
                        rw [es2] at x2 x3
                        clear es1 es2 hr
                        obtain ⟨wq4, hwq4, g1, g2⟩ : ∃ v, wq3.setCell ⟨sb1, i0 + 3, none⟩ (.int .u8 (R3.toNat : Int)) = v ∧ (Below wo.heap.size wo v) ∧ Row v sb1 0 (bs (mixd C A (i0 + 4))) :=
                          ⟨_, rfl, HQ3.out.1.setCell (p := ⟨sb1, i0 + 3, none⟩) HLO.out _, by
                            have h := HQ3.out.2.mixd1 HLs.out.2.2.1 HLs.out.2.1 (k := i0 + 3) (by have := HI0.out; omega) (x := R3) HCo.out.2.2.2.2.2.2.2.symm
                            exact h⟩
                        have HQ4 := hide (And.intro g1 g2)
                        clear g1 g2
                        go_wp2_with fail
                        refine (gmul_u8 11 y0 _).mono ?_
                        rintro e w8 ⟨rfl, hw⟩
                        obtain rfl := hw.symm
                        go_wp2_with fail
                        refine (gmul_u8 13 y1 _).mono ?_
                        rintro e w8 ⟨rfl, hw⟩
                        obtain rfl := hw.symm
                        go_wp2_with fail
                        refine (gmul_u8 9 y2 _).mono ?_
                        rintro e w8 ⟨rfl, hw⟩
                        obtain rfl := hw.symm
                        go_wp2_with fail
                        refine (gmul_u8 14 y3 _).mono ?_
                        rintro e w8 ⟨rfl, hw⟩
                        obtain rfl := hw.symm
                        go_wp2_with fail
                        clear cs fs x1 x2 x3 hwq4 HQ3
                        have HC1 := hide (show Gs wo wq4 sb1 (mixd C A ((c + 1) * 4)) from ⟨by rw [show (c + 1) * 4 = i0 + 4 by have := HI0.out; omega]; exact HQ4.out.2, HLO.out, HQ4.out.1⟩)
                        clear HQ4
                        go_roundg g7
                        case measure => omega
                        case rel => exact ⟨c + 1, by omega, by go_num, HC1.out⟩
                      · obtain rfl : c = 4 := by omega
                        rw [show 4 * 4 = 16 from rfl, mixd_all HLs.out.2.2.1 HLs.out.2.1] at hS
                        have HCx := hide hS
                        clear hS
                        have m16 := HM16.out
                        obtain ⟨wc, hwc⟩ : ∃ z, z = wx := ⟨_, rfl⟩
                        have HXs := hide (show Gs wo (wx.alloc (.cells M 5)) sb1 C ∧ Row (wx.alloc (.cells M 5)) wx.heap.size 0 (bs (scat D 0)) ∧ sb1 < wx.heap.size from ⟨HCx.out.alloc _, by rw [scat_zero]; exact HRM.out wx, HCx.out.s.lt⟩)
                        have HXlo := hide HCx.out.be.size
                        clear HCx hwc
                        go_wp2_with fail
                        clear m16
                        obtain ⟨xb, hxb⟩ : ∃ b, wx.heap.size = b := ⟨_, rfl⟩
                        rw [hxb] at HXs HXlo ⊢
                        clear hxb
                        go_loopg [20, 21, 22] 16 (fun g q _ _ wr => ∃ i : Nat, i + g = 16 ∧ q = .int .i64 i ∧ Gs wo wr sb1 C ∧ Row wr xb 0 (bs (scat D i)) ∧ sb1 < xb)
                        case atStart => exact ⟨0, rfl, rfl, HXs.out⟩
                        case round =>
                          clear HXs
                          obtain ⟨wy, hwy⟩ : ∃ z, z = wr := ⟨_, rfl⟩
                          subst hwy
                          obtain ⟨i, hig, rfl, hS, hA, hlo⟩ := hrel
                          by_cases hi : i < 16
                          · have hi' : (i : Int) < 16 := by omega
                            obtain ⟨g6, rfl⟩ : ∃ g6, gk = g6 + 1 := ⟨gk - 1, by omega⟩
                            have hst := scat_set D i hi
                            have hrd := gy_rd C HLs.out.2.2.1 i hi
                            rw [HEs.out.2.2.2.1] at hrd
                            obtain ⟨r4, er4⟩ : ∃ z, i % 4 = z := ⟨_, rfl⟩
                            obtain ⟨c4, ec4⟩ : ∃ z, i / 4 = z := ⟨_, rfl⟩
                            obtain ⟨q4, eq4⟩ : ∃ z, (c4 + r4) % 4 = z := ⟨_, rfl⟩
                            obtain ⟨d4, ed4⟩ : ∃ z, r4 + 4 * q4 = z := ⟨_, rfl⟩
                            rw [er4, ec4, eq4, ed4] at hst hrd
                            have t1 : (i : Int).tmod 4 = (r4 : Int) := by rw [Int.tmod_eq_emod_of_nonneg (by omega)]; omega
                            have t2 : (i : Int) % 4 = (r4 : Int) := by omega
                            have t3 : (i : Int).tdiv 4 = (c4 : Int) := by rw [Int.tdiv_eq_ediv_of_nonneg (by omega)]; omega
                            have t4 : (i : Int) / 4 = (c4 : Int) := by omega
                            have t5 : ((c4 : Int) + (r4 : Int)).tmod 4 = (q4 : Int) := by rw [Int.tmod_eq_emod_of_nonneg (by omega)]; omega
                            have t6 : ((c4 : Int) + (r4 : Int)) % 4 = (q4 : Int) := by omega
                            have t7 : (r4 : Int) + 4 * (q4 : Int) = (d4 : Int) := by omega
                            have u1 := IntWalk.i64_in (r4 : Int) (by omega)
                            have u2 := IntWalk.i64_in (c4 : Int) (by omega)
                            have u3 := IntWalk.i64_in ((c4 : Int) + (r4 : Int)) (by omega)
                            have u4 := IntWalk.i64_in (q4 : Int) (by omega)
                            have u5 := IntWalk.i64_in (4 * (q4 : Int)) (by omega)
                            have u6 := IntWalk.i64_in (d4 : Int) (by omega)
                            have ld4 : (d4 : Int) < 16 := by omega
                            have hG := HGo.out.below hS.be
                            have c1 := hS.s.g0 i (by rw [HLs.out.2.2.1]; exact hi)
                            obtain ⟨y, ey⟩ : ∃ y, (gy C i).toNat = y := ⟨_, rfl⟩
                            have ly : (y : Int) < 256 := by have := UInt8.toNat_lt (gy C i); omega
                            have c2 := hG.t.g0 y (by rw [HOB.out]; omega)
                            rw [ey] at c1 hrd
                            have c3 := hA.g0 d4 (by rw [scat_length]; omega)
                            have f3 := hA.fy0 d4 (by rw [scat_length]; omega)
                            have h3 := hA.sety (i := d4) (by rw [scat_length]; omega) (gy D d4)
                            rw [hst] at h3
                            rw [← hrd] at c2
                            have H3 := hide (And.intro (hS.other xb d4 (.int .u8 ((gy D d4).toNat : Int)) HXlo.out (by omega)) (And.intro h3 hlo))
                            obtain ⟨z, ez⟩ : ∃ z, (gy D d4).toNat = z := ⟨_, rfl⟩
                            rw [ez] at c2 H3
                            clear hS hA hG h3 er4 ec4 eq4 ed4 hst hrd ey ez hlo
                            go_wp2_with fail
                            go_roundg g6
                            case measure => omega
                            case rel => exact ⟨i + 1, by omega, by go_num, H3.out⟩
                          · obtain rfl : i = 16 := by omega
                            rw [scat_all HLs.out.2.2.2.2] at hA
                            have HS := hide (show Gs wo wy xb D from ⟨hA, HXlo.out, hS.be⟩)
                            have HE9 := hide (show (14 : Int) - ((r + 1 : Nat) : Int) = (n : Int) - 1 by have := HR.out.2; omega)
                            clear hS hA hlo
                            go_wp2_with fail
                            go_roundg g5
                            case measure => omega
                            case rel => exact ⟨r + 1, xb, 16, by have := HR.out.1; omega, rfl, by rw [HE9.out], by have := HR.out.2.1; omega, by rw [HEs.out.2.2.2.2]; exact HS.out⟩
                  · have cn' : ¬ ((n : Int) < 14) := by omega
                    have eC : A = C := by have := HEs.out.2.1; rwa [if_neg cn] at this
                    rw [eC] at hS
                    have HCx := hide hS
                    clear hS eC
                    have m16 := HM16.out
                    obtain ⟨wc, hwc⟩ : ∃ z, z = wx := ⟨_, rfl⟩
                    have HXs := hide (show Gs wo (wx.alloc (.cells M 5)) sb1 C ∧ Row (wx.alloc (.cells M 5)) wx.heap.size 0 (bs (scat D 0)) ∧ sb1 < wx.heap.size from ⟨HCx.out.alloc _, by rw [scat_zero]; exact HRM.out wx, HCx.out.s.lt⟩)
                    have HXlo := hide HCx.out.be.size
                    clear HCx hwc
                    go_wp2_with fail
                    clear m16
                    obtain ⟨xb, hxb⟩ : ∃ b, wx.heap.size = b := ⟨_, rfl⟩
                    rw [hxb] at HXs HXlo ⊢
                    clear hxb
                    go_loopg [20, 21, 22] 16 (fun g q _ _ wr => ∃ i : Nat, i + g = 16 ∧ q = .int .i64 i ∧ Gs wo wr sb1 C ∧ Row wr xb 0 (bs (scat D i)) ∧ sb1 < xb)
                    case atStart => exact ⟨0, rfl, rfl, HXs.out⟩
                    case round =>
                      clear HXs
                      obtain ⟨wy, hwy⟩ : ∃ z, z = wr := ⟨_, rfl⟩
                      subst hwy
                      obtain ⟨i, hig, rfl, hS, hA, hlo⟩ := hrel
                      by_cases hi : i < 16
                      · have hi' : (i : Int) < 16 := by omega
                        obtain ⟨g6, rfl⟩ : ∃ g6, gk = g6 + 1 := ⟨gk - 1, by omega⟩
                        have hst := scat_set D i hi
                        have hrd := gy_rd C HLs.out.2.2.1 i hi
                        rw [HEs.out.2.2.2.1] at hrd
                        obtain ⟨r4, er4⟩ : ∃ z, i % 4 = z := ⟨_, rfl⟩
                        obtain ⟨c4, ec4⟩ : ∃ z, i / 4 = z := ⟨_, rfl⟩
                        obtain ⟨q4, eq4⟩ : ∃ z, (c4 + r4) % 4 = z := ⟨_, rfl⟩
                        obtain ⟨d4, ed4⟩ : ∃ z, r4 + 4 * q4 = z := ⟨_, rfl⟩
                        rw [er4, ec4, eq4, ed4] at hst hrd
                        have t1 : (i : Int).tmod 4 = (r4 : Int) := by rw [Int.tmod_eq_emod_of_nonneg (by omega)]; omega
                        have t2 : (i : Int) % 4 = (r4 : Int) := by omega
                        have t3 : (i : Int).tdiv 4 = (c4 : Int) := by rw [Int.tdiv_eq_ediv_of_nonneg (by omega)]; omega
                        have t4 : (i : Int) / 4 = (c4 : Int) := by omega
                        have t5 : ((c4 : Int) + (r4 : Int)).tmod 4 = (q4 : Int) := by rw [Int.tmod_eq_emod_of_nonneg (by omega)]; omega
                        have t6 : ((c4 : Int) + (r4 : Int)) % 4 = (q4 : Int) := by omega
                        have t7 : (r4 : Int) + 4 * (q4 : Int) = (d4 : Int) := by omega
                        have u1 := IntWalk.i64_in (r4 : Int) (by omega)
                        have u2 := IntWalk.i64_in (c4 : Int) (by omega)
                        have u3 := IntWalk.i64_in ((c4 : Int) + (r4 : Int)) (by omega)
                        have u4 := IntWalk.i64_in (q4 : Int) (by omega)
                        have u5 := IntWalk.i64_in (4 * (q4 : Int)) (by omega)
                        have u6 := IntWalk.i64_in (d4 : Int) (by omega)
                        have ld4 : (d4 : Int) < 16 := by omega
                        have hG := HGo.out.below hS.be
                        have c1 := hS.s.g0 i (by rw [HLs.out.2.2.1]; exact hi)
                        obtain ⟨y, ey⟩ : ∃ y, (gy C i).toNat = y := ⟨_, rfl⟩
                        have ly : (y : Int) < 256 := by have := UInt8.toNat_lt (gy C i); omega
                        have c2 := hG.t.g0 y (by rw [HOB.out]; omega)
                        rw [ey] at c1 hrd
                        have c3 := hA.g0 d4 (by rw [scat_length]; omega)
                        have f3 := hA.fy0 d4 (by rw [scat_length]; omega)
                        have h3 := hA.sety (i := d4) (by rw [scat_length]; omega) (gy D d4)
                        rw [hst] at h3
                        rw [← hrd] at c2
                        have H3 := hide (And.intro (hS.other xb d4 (.int .u8 ((gy D d4).toNat : Int)) HXlo.out (by omega)) (And.intro h3 hlo))
                        obtain ⟨z, ez⟩ : ∃ z, (gy D d4).toNat = z := ⟨_, rfl⟩
                        rw [ez] at c2 H3
                        clear hS hA hG h3 er4 ec4 eq4 ed4 hst hrd ey ez hlo
                        go_wp2_with fail
                        go_roundg g6
                        case measure => omega
                        case rel => exact ⟨i + 1, by omega, by go_num, H3.out⟩
                      · obtain rfl : i = 16 := by omega
                        rw [scat_all HLs.out.2.2.2.2] at hA
                        have HS := hide (show Gs wo wy xb D from ⟨hA, HXlo.out, hS.be⟩)
                        have HE9 := hide (show (14 : Int) - ((r + 1 : Nat) : Int) = (n : Int) - 1 by have := HR.out.2; omega)
                        clear hS hA hlo
                        go_wp2_with fail
                        go_roundg g5
                        case measure => omega
                        case rel => exact ⟨r + 1, xb, 16, by have := HR.out.1; omega, rfl, by rw [HE9.out], by have := HR.out.2.1; omega, by rw [HEs.out.2.2.2.2]; exact HS.out⟩
            · obtain rfl : r = 14 := by omega
              have HCx := hide hS
              obtain ⟨s, es⟩ : ∃ s, dN (kw key) X 14 = s := ⟨_, rfl⟩
              have ls : s.length = 16 := by rw [← es]; exact dN_length HX.out 14
              obtain ⟨K0, eK0⟩ : ∃ K, kR (kw key) 0 = K := ⟨_, rfl⟩
              have lK0 : K0.length = 16 := by rw [← eK0]; exact kR_length (by rw [kw_length HK.out]; omega)
              obtain ⟨L, eL⟩ : ∃ Y, comb s K0 = Y := ⟨_, rfl⟩
              have lL : L.length = 16 := eL ▸ comb_length ls lK0
              have hLe : dec (kw key) X = L := by unfold dec; rw [es, eK0, eL]
              rw [es] at hS
              have HS := hide (show Gs wo wp sb1 (mixd L s 0) from by rw [mixd_zero]; exact hS)
              have HLs := hide (And.intro ls (And.intro lK0 lL))
              have HEs := hide (And.intro eK0 (And.intro eL hLe))
              clear HCx hS es ls eK0 lK0 eL lL hLe
              have e0 : (14 : Int) - ((14 : Nat) : Int) = 0 := by decide
              rw [e0]
              go_wp2_with fail
              go_loopg [23] 16 (fun g q wr => ∃ i : Nat, i + g = 16 ∧ q = .int .i64 i ∧ Gs wo wr sb1 (mixd L s i))
              case atStart => exact ⟨0, rfl, rfl, HS.out⟩
              case round =>
                clear HS
                obtain ⟨wx, hwx⟩ : ∃ z, z = wr := ⟨_, rfl⟩
                subst hwx
                obtain ⟨i, hig, rfl, hS⟩ := hrel
                by_cases hi : i < 16
                · have hi' : (i : Int) < 16 := by omega
                  have hi2 : (i : Int) < 240 := by omega
                  obtain ⟨g7, rfl⟩ : ∃ g7, gk = g7 + 1 := ⟨gk - 1, by omega⟩
                  have lm : (mixd L s i).length = 16 := mixd_length HLs.out.2.2 HLs.out.1 i (by omega)
                  have hG := HGo.out.below hS.be
                  have c1 := hS.s.drew.g0 i (by rw [lm]; exact hi)
                  rw [gy_mixd HLs.out.2.2 HLs.out.1 (by omega), if_neg (Nat.lt_irrefl _)] at c1
                  have f1 := hS.s.drew.fy0 i (by rw [lm]; exact hi)
                  have c2 := hG.k.drew.g0 i (by rw [kw_length HK.out]; omega)
                  have e2 : gy (kw key) i = gy K0 i := by rw [← HEs.out.1]; unfold kR; rw [gy_take _ _ _ hi, gy_drop, Nat.mul_zero, Nat.zero_add]
                  rw [e2] at c2
                  have e3 : gy s i ^^^ gy K0 i = gy L i := by rw [← HEs.out.2.1, gy_comb (by rw [HLs.out.1]; exact hi) (by rw [HLs.out.2.1]; exact hi)]
                  have hxo := x8_int (gy s i) (gy K0 i)
                  rw [e3] at hxo
                  have h3 : Gs wo (wx.drew.setCell ⟨sb1, i, none⟩ (.int .u8 ((gy L i).toNat : Int))) sb1 (mixd L s (i + 1)) := ⟨hS.s.drew.mixd1 HLs.out.2.2 HLs.out.1 hi rfl, hS.lo, (Below.drew hS.be).setCell (p := ⟨sb1, i, none⟩) hS.lo _⟩
                  have H3 := hide h3
                  obtain ⟨y1, f01⟩ : ∃ y, gy s i = y := ⟨_, rfl⟩
                  obtain ⟨y2, f02⟩ : ∃ y, gy K0 i = y := ⟨_, rfl⟩
                  obtain ⟨y3, f03⟩ : ∃ y, gy L i = y := ⟨_, rfl⟩
                  rw [f01] at c1 hxo
                  rw [f02] at c2 hxo
                  rw [f03] at hxo H3
                  clear hS hG h3 lm e2 e3 f01 f02 f03
                  go_wp2_with fail
                  go_still_tail 12, hmx
                  go_wp2_with fail
                  go_roundg g7
                  case measure => omega
                  case rel => exact ⟨i + 1, by omega, by go_num, H3.out⟩
                · obtain rfl : i = 16 := by omega
                  rw [mixd_all HLs.out.2.2 HLs.out.1] at hS
                  obtain ⟨Z, eZ⟩ : ∃ Z, dt key x = Z := ⟨_, rfl⟩
                  have hZ : (⟨L.toArray⟩ : ByteArray) = Z := by rw [← eZ]; unfold dt; rw [HE.out.2, HEs.out.2.2]
                  have hx := run_textR (P := Try.prog) wx 28 9 5 (c := sc1) (n := 16) (l := L) Try.underlying28 Try.underlying5 Try.underlying9 sb1 0 rfl HLs.out.2.2 hS.s.cell
                  rw [hZ] at hx
                  have HB5 := hide (show Below w2.heap.size w2 (wx.alloc (.cells #[.string Z] 9)) from HBw.out.trans ((hS.be.alloc hS.be.size _).mono HBw.out.size))
                  have HO5 := hide (HO.out.keep (hS.be.alloc hS.be.size (.cells #[.string Z] 9)))
                  have HZ := hide (show dt key (F k) = Z by rw [HE.out.1]; exact eZ)
                  clear hS hZ eZ
                  have hk60 := IntWalk.i64_in ((k : Int) + 1) (by have := HF.out.1; have := HN.out.1; omega)
                  go_wp2_with (refine wpList_appendO rfl (.tmp 209) (.tmp 212) 78 78 rfl 9 Try.underlying78 infoSt (by decide) rfl (B := w2.heap.size) (n := k) (m := 1) (xs := ts (fun j => dt key (F j)) k) (news := [.string Z]) rfl rfl HO5.out ((Row.newL wx [.string Z] 9).src (n := 1) (cap := 1) rfl Try.underlying78 (fun u hu => by simp at hu; subst hu; rfl)) (by have := HF.out.1; have := HN.out.1; omega) HB5.out.size (fun u hu => ts_one hu) ?_
                               intro v9 w9 hO9 hB9
                               have HO9 := hide hO9
                               have HB9 := hide (HB5.out.trans hB9)
                               clear hO9 hB9)
                  go_roundg g3
                  case measure => omega
                  case rel => exact ⟨k + 1, by have := HN.out.2; omega, by go_num, by rw [ts_succ, HZ.out]; exact HO9.out, HB9.out⟩
        · obtain rfl : k = m := by omega
          obtain ⟨va, vc, rfl, hvc⟩ := hO.shape
          have HO := hide hO
          have HBw := hide (HB.out.trans (hBw.mono HB.out.size))
          have HBs := hide HB.out.size
          clear hO hBw hvc
          go_wp2_with fail
          go_ret
          refine ⟨_, rfl, ?_, HBw.out⟩
          obtain ⟨h1, h2⟩ := HO.out
          refine ⟨h1, ?_⟩
          rcases h2 with h2 | ⟨g, cap, zs, hv, hg, hn, hzs, hR⟩
          · exact .inl h2
          · exact .inr ⟨g, cap, zs, hv, Nat.le_trans HBs.out hg, hn, hzs, hR⟩
end Go.Proofs.Ytknjmmbebkcnpaa
