/- The document's blocks, enciphered, walked. For any key of 32 bytes and at most 60 blocks of 16: the call returns what ATab says, in memory of its own; what was there is left. -/
import Derived.Test.YtknjmmbebkcnpaaGWrd
import Derived.Test.YtknjmmbebkcnpaaGMix
import Derived.Test.YtknjmmbebkcnpaaRun12
namespace Go.Proofs.Ytknjmmbebkcnpaa
open Go.RowKit Bk
set_option linter.unusedVariables false
set_option linter.unusedSimpArgs false

/-- What lies in memory ahead of a block: the table, the words, the blocks that came in. -/
structure Gb (w : World) (tb wb : Nat) (T W : List UInt8) (fa : Option Addr) (m : Nat) (F : Nat → ByteArray) : Prop where
  t : Row w tb 0 (bs T)
  k : Row w wb 0 (bs W)
  f : Tx w fa m F
theorem Gb.below {w w' : World} {tb wb : Nat} {T W : List UInt8} {fa : Option Addr} {m : Nat} {F : Nat → ByteArray} (h : Gb w tb wb T W fa m F) (k : Below w.heap.size w w') : Gb w' tb wb T W fa m F := ⟨h.t.below k h.t.lt, h.k.below k h.k.lt, h.f.below k⟩
/-- While a block is worked on: its row in block sb. -/
structure Gs (w w' : World) (sb : Nat) (s : List UInt8) : Prop where
  s : Row w' sb 0 (bs s)
  lo : w.heap.size ≤ sb
  be : Below w.heap.size w w'
theorem Gs.set {w w' : World} {sb : Nat} {s : List UInt8} (h : Gs w w' sb s) {i : Nat} (hi : i < s.length) (x : UInt8) : Gs w (w'.setCell ⟨sb, i, none⟩ (.int .u8 (x.toNat : Int))) sb (s.set i x) := ⟨h.s.sety hi x, h.lo, h.be.setCell (p := ⟨sb, i, none⟩) h.lo _⟩
theorem Gs.drew {w w' : World} {sb : Nat} {s : List UInt8} (h : Gs w w' sb s) : Gs w w'.drew sb s := ⟨h.s.drew, h.lo, h.be.drew⟩
theorem Gs.alloc {w w' : World} {sb : Nat} {s : List UInt8} (h : Gs w w' sb s) (o : Obj) : Gs w (w'.alloc o) sb s := ⟨h.s.alloc o, h.lo, h.be.alloc h.be.size o⟩
theorem Gs.other {w w' : World} {sb : Nat} {s : List UInt8} (h : Gs w w' sb s) (b i : Nat) (v : Value) (hb : w.heap.size ≤ b) (hne : sb ≠ b) : Gs w (w'.setCell ⟨b, i, none⟩ v) sb s := ⟨h.s.other _ _ _ (.inl hne), h.lo, h.be.setCell (p := ⟨b, i, none⟩) hb _⟩

set_option maxRecDepth 100000 in
set_option maxHeartbeats 32000000 in
theorem genc_any (key : ByteArray) (fa : Option Addr) (m fc : Nat) (F : Nat → ByteArray) (w : World) (hk : key.size = 32) (hm : m ≤ 60) (hf : Tx w fa m F) (hz : ∀ j, j < m → (F j).size = 16) :
    Calls Try.prog 49 #[.string key, .slice fa m fc] w fun e w' => ∃ v, e = .returned v ∧ Ow w' w.heap.size v m (ts (fun j => et key (F j)) m) ∧ Below w.heap.size w w' := by
  have hmx : Try.prog.follows .mixedOrders = true := by kernel_rfl
  have m16 : ∀ w, (Instr.makeSlice 28 (.int .i64 16) (.int .i64 16)).run Try.prog w = .ok (.slice (some ⟨w.heap.size, 0, none⟩) 16 16) (w.alloc (.cells (madeCells #[.int .u8 0] 16) 5)) := mk_bytes 16 (by decide)
  have HM16 := hide m16
  obtain ⟨M, eM⟩ : ∃ M, madeCells #[.int .u8 0] 16 = M := ⟨_, rfl⟩
  have HRM := hide (show ∀ w : World, Row (w.alloc (.cells M 5)) w.heap.size 0 (bs (zr 16)) from fun w => eM ▸ row_made w 16)
  rw [eM] at m16 HM16
  have HK := hide hk
  have HF := hide (And.intro hm (And.intro hf hz))
  have HSB := hide SB_length
  clear hk hf hz hm eM m16
  go_enter Try.func49, Try.ntmps49
  go_wp2_with fail
  refine (gtable_any _).mono ?_
  rintro e w1 ⟨v1, rfl, hO1, hB1⟩
  obtain ⟨tb, tc, rfl, htb, htc, hT⟩ := hO1.row (by decide)
  have H1 := hide (And.intro hT hB1)
  clear hO1 htb htc hT hB1
  go_wp2_with fail
  refine (gwords_any SB key _ tb tc HK.out HSB.out H1.out.1).mono ?_
  rintro e w2 ⟨v2, rfl, hO2, hB2⟩
  obtain ⟨wb, wc, rfl, hwb, hwc, hW⟩ := hO2.row (by decide)
  have hbe : Below w.heap.size w w2 := H1.out.2.trans (hB2.mono H1.out.2.size)
  have HG := hide (show Gb w2 tb wb SB (kw key) fa m F from ⟨H1.out.1.below hB2 H1.out.1.lt, hW, HF.out.2.1.below hbe⟩)
  have HB := hide hbe
  have hcw : 240 ≤ wc := hwc
  clear hO2 hwb hwc hW hB2 hbe H1
  go_wp2_with fail
  go_loopg [7, 8, 9, 10, 11, 12, 13, 14, 15, 16, 17, 18, 19, 20, 21] m (fun g v q _ _ _ _ _ _ _ _ _ _ _ _ _ wr => ∃ k : Nat, k + g = m ∧ q = .int .i64 k ∧ Ow wr w2.heap.size v k (ts (fun j => et key (F j)) k) ∧ Below w2.heap.size w2 wr)
  case atStart => exact ⟨0, by omega, rfl, Ow.nil _ _, Below.refl _ _⟩
  case round =>
    obtain ⟨wo, hwo⟩ : ∃ z, z = wr := ⟨_, rfl⟩
    subst hwo
    obtain ⟨k, hkg, rfl, hO, hBw⟩ := hrel
    by_cases hlt : k < m
    · have hlt' : (k : Int) < (m : Int) := by omega
      obtain ⟨g3, rfl⟩ : ∃ g3, gk = g3 + 1 := ⟨gk - 1, by omega⟩
      obtain ⟨va, vc, rfl, hvc⟩ := hO.shape
      have hG := HG.out.below hBw
      obtain ⟨fb, fo, rfl, hfb, cF⟩ := hG.f.at' hlt
      obtain ⟨x, ex⟩ : ∃ x, F k = x := ⟨_, rfl⟩
      have zx : x.size = 16 := ex ▸ HF.out.2.2 k hlt
      rw [ex] at cF
      obtain ⟨X, eX⟩ : ∃ X, sb x = X := ⟨_, rfl⟩
      have lX : X.length = 16 := by rw [← eX, sb_length, zx]
      obtain ⟨v3, w3, hrun, hO3, hB3⟩ := run_bytesO (P := Try.prog) wo 9 28 5 x Try.underlying9 Try.underlying28 Try.underlying5
      rw [zx, eX] at hO3
      obtain ⟨sb0, sc, rfl, hsb, hsc, hS⟩ := hO3.row (by decide)
      obtain ⟨K0, eK0⟩ : ∃ K, kR (kw key) 0 = K := ⟨_, rfl⟩
      have lK0 : K0.length = 16 := by rw [← eK0]; exact kR_length (by rw [kw_length HK.out]; omega)
      obtain ⟨Y0, eY0⟩ : ∃ Y, comb X K0 = Y := ⟨_, rfl⟩
      have lY0 : Y0.length = 16 := eY0 ▸ comb_length lX lK0
      have HO := hide hO
      have HBw := hide hBw
      have HGo := hide hG
      have HX := hide (And.intro lX (And.intro lK0 lY0))
      have HE := hide (And.intro ex (And.intro eX (And.intro eK0 eY0)))
      have HS := hide (show Gs wo w3 sb0 (mixd Y0 X 0) from ⟨by rw [mixd_zero]; exact hS, hsb, hB3⟩)
      have HN := hide (And.intro hlt hkg)
      clear hO hBw hG hfb hO3 hB3 hsb hsc hS lX lK0 lY0 ex eX eK0 eY0 zx hvc hkg
      go_wp2_with fail
      clear hrun cF
      go_loopg [10] 16 (fun g q wr => ∃ i : Nat, i + g = 16 ∧ q = .int .i64 i ∧ Gs wo wr sb0 (mixd Y0 X i))
      case atStart => exact ⟨0, rfl, rfl, HS.out⟩
      case round =>
        clear HS
        obtain ⟨wx, hwx⟩ : ∃ z, z = wr := ⟨_, rfl⟩
        subst hwx
        obtain ⟨i, hig, rfl, hS⟩ := hrel
        by_cases hi : i < 16
        · have hi' : (i : Int) < 16 := by omega
          have hi2 : (i : Int) < 240 := by omega
          obtain ⟨g4, rfl⟩ : ∃ g4, gk = g4 + 1 := ⟨gk - 1, by omega⟩
          have lm : (mixd Y0 X i).length = 16 := mixd_length HX.out.2.2 HX.out.1 i (by omega)
          have hG := HGo.out.below hS.be
          have c1 := hS.s.drew.g0 i (by rw [lm]; exact hi)
          rw [gy_mixd HX.out.2.2 HX.out.1 (by omega), if_neg (Nat.lt_irrefl _)] at c1
          have f1 := hS.s.drew.fy0 i (by rw [lm]; exact hi)
          have c2 := hG.k.drew.g0 i (by rw [kw_length HK.out]; omega)
          have e2 : gy (kw key) i = gy K0 i := by rw [← HE.out.2.2.1]; unfold kR; rw [gy_take _ _ _ hi, gy_drop, Nat.mul_zero, Nat.zero_add]
          rw [e2] at c2
          have e3 : gy X i ^^^ gy K0 i = gy Y0 i := by rw [← HE.out.2.2.2, gy_comb (by rw [HX.out.1]; exact hi) (by rw [HX.out.2.1]; exact hi)]
          have hxo := x8_int (gy X i) (gy K0 i)
          rw [e3] at hxo
          have h3 : Gs wo (wx.drew.setCell ⟨sb0, i, none⟩ (.int .u8 ((gy Y0 i).toNat : Int))) sb0 (mixd Y0 X (i + 1)) := ⟨hS.s.drew.mixd1 HX.out.2.2 HX.out.1 hi rfl, hS.lo, (Below.drew hS.be).setCell (p := ⟨sb0, i, none⟩) hS.lo _⟩
          have H3 := hide h3
          obtain ⟨y1, f01⟩ : ∃ y, gy X i = y := ⟨_, rfl⟩
          obtain ⟨y2, f02⟩ : ∃ y, gy K0 i = y := ⟨_, rfl⟩
          obtain ⟨y3, f03⟩ : ∃ y, gy Y0 i = y := ⟨_, rfl⟩
          rw [f01] at c1 hxo
          rw [f02] at c2 hxo
          rw [f03] at hxo H3
          clear hS hG h3 lm e2 e3 f01 f02 f03
          go_wp2_with fail
          go_still_tail 12, hmx
          go_wp2_with fail
          go_roundg g4
          case measure => omega
          case rel => exact ⟨i + 1, by omega, by go_num, H3.out⟩
        · obtain rfl : i = 16 := by omega
          rw [mixd_all HX.out.2.2 HX.out.1] at hS
          have HS := hide hS
          clear hS
          go_wp2_with fail
          go_loopg [11, 12, 13, 14, 15, 16, 17, 18, 19, 20, 21] 15 (fun g q _ _ _ _ _ _ _ _ _ _ wr => ∃ r : Nat, r + 1 + g = 16 ∧ q = .int .i64 ((r + 1 : Nat) : Int) ∧ r ≤ 14 ∧ Gs wo wr sb0 (eN (kw key) Y0 r))
          case atStart => exact ⟨0, rfl, rfl, by decide, HS.out⟩
          case round =>
            clear HS
            obtain ⟨wp, hwp⟩ : ∃ z, z = wr := ⟨_, rfl⟩
            subst hwp
            obtain ⟨r, hrg, rfl, hr14, hS⟩ := hrel
            by_cases hr : r < 14
            · have hr' : ((r + 1 : Nat) : Int) ≤ 14 := by omega
              obtain ⟨g5, rfl⟩ : ∃ g5, gk = g5 + 1 := ⟨gk - 1, by omega⟩
              obtain ⟨n, en⟩ : ∃ n, r + 1 = n := ⟨_, rfl⟩
              rw [en] at hr' ⊢
              obtain ⟨s, es⟩ : ∃ s, eN (kw key) Y0 r = s := ⟨_, rfl⟩
              have ls : s.length = 16 := by rw [← es]; exact eN_length (kw_length HK.out) HX.out.2.2 r (by omega)
              rw [es] at hS
              obtain ⟨A, eA⟩ : ∃ a, shf 1 (repl SB s) = a := ⟨_, rfl⟩
              have lA : A.length = 16 := eA ▸ shf_length _ _
              obtain ⟨C, eC⟩ : ∃ a, (if n < 14 then mixS fE A else A) = a := ⟨_, rfl⟩
              have lC : C.length = 16 := by
                rw [← eC]
                split
                · exact mixS_length _ _
                · exact lA
              obtain ⟨Kn, eK⟩ : ∃ a, kR (kw key) n = a := ⟨_, rfl⟩
              have lK : Kn.length = 16 := by rw [← eK]; exact kR_length (by rw [kw_length HK.out]; omega)
              obtain ⟨D, eD⟩ : ∃ a, comb C Kn = a := ⟨_, rfl⟩
              have lD : D.length = 16 := eD ▸ comb_length lC lK
              have hD : eN (kw key) Y0 (r + 1) = D := by
                show eR (kw key) (r + 1) (eN (kw key) Y0 r) = D
                rw [es, en]
                unfold eR
                rw [eA, eC, eK, eD]
              have HLs := hide (And.intro ls (And.intro lA (And.intro lC (And.intro lK lD))))
              have HEs := hide (And.intro eA (And.intro eC (And.intro eK (And.intro eD hD))))
              have HR := hide (And.intro hrg (And.intro hr en))
              have m16 := HM16.out
              have hxs : Gs wo (wp.alloc (.cells M 5)) sb0 s ∧ Row (wp.alloc (.cells M 5)) wp.heap.size 0 (bs (mixd A (zr 16) 0)) ∧ sb0 < wp.heap.size := ⟨hS.alloc _, by rw [mixd_zero]; exact HRM.out wp, hS.s.lt⟩
              have HXs := hide hxs
              clear hS hxs ls lA lC lK lD eA eC eK eD hD es hrg hr en hr14
              go_wp2_with fail
              clear m16
              go_loopg [13, 14, 15] 16 (fun g q _ _ wr => ∃ i : Nat, i + g = 16 ∧ q = .int .i64 i ∧ Gs wo wr sb0 s ∧ Row wr wp.heap.size 0 (bs (mixd A (zr 16) i)) ∧ sb0 < wp.heap.size)
              case atStart => exact ⟨0, rfl, rfl, HXs.out⟩
              case round =>
                clear HXs
                obtain ⟨wx, hwx⟩ : ∃ z, z = wr := ⟨_, rfl⟩
                subst hwx
                obtain ⟨i, hig, rfl, hS, hA, hlo⟩ := hrel
                by_cases hi : i < 16
                · have hi' : (i : Int) < 16 := by omega
                  obtain ⟨g6, rfl⟩ : ∃ g6, gk = g6 + 1 := ⟨gk - 1, by omega⟩
                  obtain ⟨r4, er4⟩ : ∃ z, i % 4 = z := ⟨_, rfl⟩
                  obtain ⟨c4, ec4⟩ : ∃ z, i / 4 = z := ⟨_, rfl⟩
                  obtain ⟨q4, eq4⟩ : ∃ z, (c4 + r4) % 4 = z := ⟨_, rfl⟩
                  obtain ⟨d4, ed4⟩ : ∃ z, r4 + 4 * q4 = z := ⟨_, rfl⟩
                  have t1 : (i : Int).tmod 4 = (r4 : Int) := by rw [Int.tmod_eq_emod_of_nonneg (by omega)]; omega
                  have t2 : (i : Int) % 4 = (r4 : Int) := by omega
                  have t3 : (i : Int).tdiv 4 = (c4 : Int) := by rw [Int.tdiv_eq_ediv_of_nonneg (by omega)]; omega
                  have t4 : (i : Int) / 4 = (c4 : Int) := by omega
                  have t5 : ((c4 : Int) + (r4 : Int)).tmod 4 = (q4 : Int) := by rw [Int.tmod_eq_emod_of_nonneg (by omega)]; omega
                  have t6 : ((c4 : Int) + (r4 : Int)) % 4 = (q4 : Int) := by omega
                  have t7 : (r4 : Int) + 4 * (q4 : Int) = (d4 : Int) := by omega
                  have u1 := IntWalk.i64_in (r4 : Int) (by omega)
                  have u2 := IntWalk.i64_in (c4 : Int) (by omega)
                  have u3 := IntWalk.i64_in ((c4 : Int) + (r4 : Int)) (by omega)
                  have u4 := IntWalk.i64_in (q4 : Int) (by omega)
                  have u5 := IntWalk.i64_in (4 * (q4 : Int)) (by omega)
                  have u6 := IntWalk.i64_in (d4 : Int) (by omega)
                  have ld4 : (d4 : Int) < 16 := by omega
                  have hG := HGo.out.below hS.be
                  have c1 := hS.s.g0 d4 (by rw [HLs.out.1]; omega)
                  obtain ⟨y, ey⟩ : ∃ y, (gy s d4).toNat = y := ⟨_, rfl⟩
                  have ly : (y : Int) < 256 := by have := UInt8.toNat_lt (gy s d4); omega
                  have c2 := hG.t.g0 y (by rw [HSB.out]; omega)
                  have e1 : gy SB y = gy A i := by rw [← HEs.out.1, gy_rs s HLs.out.1 i hi, er4, ec4, eq4, ed4, ey]
                  rw [ey] at c1
                  rw [e1] at c2
                  have lm : (mixd A (zr 16) i).length = 16 := mixd_length HLs.out.2.1 (zr_length 16) i (by omega)
                  have c3 := hA.g0 i (by rw [lm]; exact hi)
                  have f3 := hA.fy0 i (by rw [lm]; exact hi)
                  have h3 := hA.mixd1 HLs.out.2.1 (zr_length 16) hi (x := gy A i) rfl
                  have H3 := hide (And.intro (hS.other wp.heap.size i (.int .u8 ((gy A i).toNat : Int)) (by have := hS.lo; omega) (by omega)) (And.intro h3 hlo))
                  obtain ⟨z, ez⟩ : ∃ z, (gy A i).toNat = z := ⟨_, rfl⟩
                  rw [ez] at c2 H3
                  clear hS hA hG h3 lm er4 ec4 eq4 ed4 e1 ey ez hlo
                  go_wp2_with fail
                  go_roundg g6
                  case measure => omega
                  case rel => exact ⟨i + 1, by omega, by go_num, H3.out⟩
                · obtain rfl : i = 16 := by omega
                  rw [mixd_all HLs.out.2.1 (zr_length 16)] at hA
                  have HA := hide (And.intro hS (And.intro hA hlo))
                  clear hS hA hlo
                  by_cases cn : n < 14
                  · have cn' : (n : Int) < 14 := by omega
                    have eC : mixS fE A = C := by have := HEs.out.2.1; rwa [if_pos cn] at this
                    have HC0 := hide (show Gs wo wx sb0 s ∧ Row wx wp.heap.size 0 (bs (mixd C A (0 * 4))) ∧ sb0 < wp.heap.size from ⟨HA.out.1, by rw [Nat.zero_mul, mixd_zero]; exact HA.out.2.1, HA.out.2.2⟩)
                    have HEC := hide eC
                    clear eC HA
                    go_wp2_with fail
                    clear cn'
                    go_loopg [16, 17, 18, 19, 20] 4 (fun g q _ _ _ _ wr => ∃ c : Nat, c + g = 4 ∧ q = .int .i64 c ∧ Gs wo wr sb0 s ∧ Row wr wp.heap.size 0 (bs (mixd C A (c * 4))) ∧ sb0 < wp.heap.size)
                    case atStart => exact ⟨0, rfl, rfl, HC0.out⟩
                    case round =>
                      clear HC0
                      obtain ⟨wx, hwx⟩ : ∃ z, z = wr := ⟨_, rfl⟩
                      subst hwx
                      obtain ⟨c, hcg, rfl, hS, hA, hlo⟩ := hrel
                      by_cases hc : c < 4
                      · have hc' : (c : Int) < 4 := by omega
                        obtain ⟨g7, rfl⟩ : ∃ g7, gk = g7 + 1 := ⟨gk - 1, by omega⟩
                        have lm : (mixd C A (c * 4)).length = 16 := mixd_length HLs.out.2.2.1 HLs.out.2.1 _ (by omega)
                        have hcol := colE A c hc
                        rw [HEC.out] at hcol
                        obtain ⟨i0, ei0⟩ : ∃ z, 4 * c = z := ⟨_, rfl⟩
                        have w0 : 4 * (c : Int) = (i0 : Int) := by omega
                        have n0 : c * 4 = i0 := by omega
                        rw [n0] at hA lm
                        rw [ei0] at hcol
                        have a0 : (i0 : Int) < 16 := by omega
                        have z0 := IntWalk.i64_in (i0 : Int) (by omega)
                        have hAd := hA.drew
                        have HLO := hide hlo
                        have a1 : (i0 : Int) + 1 < 16 := by omega
                        have b1 : (0 : Int) ≤ (i0 : Int) + 1 := by omega
                        have tn1 : ((i0 : Int) + 1).toNat = i0 + 1 := by omega
                        have z1 := IntWalk.i64_in ((i0 : Int) + 1) (by omega)
                        have a2 : (i0 : Int) + 2 < 16 := by omega
                        have b2 : (0 : Int) ≤ (i0 : Int) + 2 := by omega
                        have tn2 : ((i0 : Int) + 2).toNat = i0 + 2 := by omega
                        have z2 := IntWalk.i64_in ((i0 : Int) + 2) (by omega)
                        have a3 : (i0 : Int) + 3 < 16 := by omega
                        have b3 : (0 : Int) ≤ (i0 : Int) + 3 := by omega
                        have tn3 : ((i0 : Int) + 3).toNat = i0 + 3 := by omega
                        have z3 := IntWalk.i64_in ((i0 : Int) + 3) (by omega)
                        have c0 := hAd.g0 (i0) (by rw [lm]; omega)
                        rw [gy_mixd HLs.out.2.2.1 HLs.out.2.1 (by omega), if_neg (by omega)] at c0
                        have c1 := hAd.g0 (i0 + 1) (by rw [lm]; omega)
                        rw [gy_mixd HLs.out.2.2.1 HLs.out.2.1 (by omega), if_neg (by omega)] at c1
                        have c2 := hAd.g0 (i0 + 2) (by rw [lm]; omega)
                        rw [gy_mixd HLs.out.2.2.1 HLs.out.2.1 (by omega), if_neg (by omega)] at c2
                        have c3 := hAd.g0 (i0 + 3) (by rw [lm]; omega)
                        rw [gy_mixd HLs.out.2.2.1 HLs.out.2.1 (by omega), if_neg (by omega)] at c3
                        obtain ⟨hc0, hc1, hc2, hc3⟩ := hcol
                        obtain ⟨y0, ey0⟩ : ∃ y, gy A (i0) = y := ⟨_, rfl⟩
                        rw [ey0] at c0 hc0 hc1 hc2 hc3
                        obtain ⟨y1, ey1⟩ : ∃ y, gy A (i0 + 1) = y := ⟨_, rfl⟩
                        rw [ey1] at c1 hc0 hc1 hc2 hc3
                        obtain ⟨y2, ey2⟩ : ∃ y, gy A (i0 + 2) = y := ⟨_, rfl⟩
                        rw [ey2] at c2 hc0 hc1 hc2 hc3
                        obtain ⟨y3, ey3⟩ : ∃ y, gy A (i0 + 3) = y := ⟨_, rfl⟩
                        rw [ey3] at c3 hc0 hc1 hc2 hc3
                        obtain ⟨R0, eR0⟩ : ∃ y, gy C (i0) = y := ⟨_, rfl⟩
                        rw [eR0] at hc0
                        obtain ⟨R1, eR1⟩ : ∃ y, gy C (i0 + 1) = y := ⟨_, rfl⟩
                        rw [eR1] at hc1
                        obtain ⟨R2, eR2⟩ : ∃ y, gy C (i0 + 2) = y := ⟨_, rfl⟩
                        rw [eR2] at hc2
                        obtain ⟨R3, eR3⟩ : ∃ y, gy C (i0 + 3) = y := ⟨_, rfl⟩
                        rw [eR3] at hc3
                        have HQ0 := hide (show Gs wo wx.drew sb0 s ∧ Row wx.drew wp.heap.size 0 (bs (mixd C A i0)) from ⟨hS.drew, hAd⟩)
                        have HCo := hide (And.intro hc0 (And.intro hc1 (And.intro hc2 (And.intro hc3 (And.intro eR0 (And.intro eR1 (And.intro eR2 eR3)))))))
                        have HI0 := hide (show i0 + 3 < 16 ∧ c * 4 = i0 ∧ c < 4 by omega)
                        clear hA hAd lm hc0 hc1 hc2 hc3 eR0 eR1 eR2 eR3 ey0 ey1 ey2 ey3 ei0 n0 hS hlo
                        have HS4 := hide (And.intro c0 (And.intro c1 (And.intro c2 c3)))
                        clear c0 c1 c2 c3
                        go_wp2_with fail
                        refine wp_region_ord (fun w9 => w9.cell? ⟨wp.heap.size, i0, none⟩ = some (.int .u8 (y0.toNat : Int)) ∧ w9.cell? ⟨wp.heap.size, i0 + 1, none⟩ = some (.int .u8 (y1.toNat : Int)) ∧ w9.cell? ⟨wp.heap.size, i0 + 2, none⟩ = some (.int .u8 (y2.toNat : Int)) ∧ w9.cell? ⟨wp.heap.size, i0 + 3, none⟩ = some (.int .u8 (y3.toNat : Int))) 26 [(0, some true), (1, some true), (2, some true), (3, some true), (4, some false), (5, some true), (6, some true), (7, some true), (8, some true), (9, some true), (10, some false), (11, some true), (12, some true), (13, some true), (14, some true), (15, some true), (16, some false), (17, some true), (18, some true), (19, some true), (20, some true), (21, some true), (22, some false), (23, none), (24, none), (25, none), (26, none)] (by kernel_rfl) (by kernel_rfl) (fun _ _ _ _ h => h) HS4.out ?_
                        refine ord_pureE (o := ⟨some 88, _, _, _, _, _⟩) rfl (by kernel_rfl) ⟨_, fun w9 => by (go_simp; try rfl), ?_⟩
                        simp only [Act.put, List.setIfInBounds_toArray, List.set_cons_zero, List.set_cons_succ]
                        refine ord_pureE (o := ⟨some 89, _, _, _, _, _⟩) rfl (by kernel_rfl) ⟨_, fun w9 => by (go_simp; try rfl), ?_⟩
                        simp only [Act.put, List.setIfInBounds_toArray, List.set_cons_zero, List.set_cons_succ]
                        refine ord_pureE (o := ⟨some 90, _, _, _, _, _⟩) rfl (by kernel_rfl) ⟨_, fun w9 => by (go_simp; try rfl), ?_⟩
                        simp only [Act.put, List.setIfInBounds_toArray, List.set_cons_zero, List.set_cons_succ]
                        refine ord_pureE (o := ⟨some 91, _, _, _, _, _⟩) rfl (by kernel_rfl) ⟨_, fun w9 => by (go_simp; try rfl), ?_⟩
                        simp only [Act.put, List.setIfInBounds_toArray, List.set_cons_zero, List.set_cons_succ]
                        refine ord_heldE (o := ⟨some 92, _, _, _, _, _⟩) rfl (by kernel_rfl) ⟨_, fun w9 h9 => by (obtain ⟨q0, q1, q2, q3⟩ := h9; go_simp; try rfl), ?_⟩
                        simp only [Act.put, List.setIfInBounds_toArray, List.set_cons_zero, List.set_cons_succ]
                        refine ord_pureE (o := ⟨some 93, _, _, _, _, _⟩) rfl (by kernel_rfl) ⟨_, fun w9 => by (go_simp; try rfl), ?_⟩
                        simp only [Act.put, List.setIfInBounds_toArray, List.set_cons_zero, List.set_cons_succ]
                        refine ord_pureE (o := ⟨some 94, _, _, _, _, _⟩) rfl (by kernel_rfl) ⟨_, fun w9 => by (go_simp; try rfl), ?_⟩
                        simp only [Act.put, List.setIfInBounds_toArray, List.set_cons_zero, List.set_cons_succ]
                        refine ord_pureE (o := ⟨some 95, _, _, _, _, _⟩) rfl (by kernel_rfl) ⟨_, fun w9 => by (go_simp; try rfl), ?_⟩
                        simp only [Act.put, List.setIfInBounds_toArray, List.set_cons_zero, List.set_cons_succ]
                        refine ord_pureE (o := ⟨some 96, _, _, _, _, _⟩) rfl (by kernel_rfl) ⟨_, fun w9 => by (go_simp; try rfl), ?_⟩
                        simp only [Act.put, List.setIfInBounds_toArray, List.set_cons_zero, List.set_cons_succ]
                        refine ord_pureE (o := ⟨some 97, _, _, _, _, _⟩) rfl (by kernel_rfl) ⟨_, fun w9 => by (go_simp; try rfl), ?_⟩
                        simp only [Act.put, List.setIfInBounds_toArray, List.set_cons_zero, List.set_cons_succ]
                        refine ord_heldE (o := ⟨some 98, _, _, _, _, _⟩) rfl (by kernel_rfl) ⟨_, fun w9 h9 => by (obtain ⟨q0, q1, q2, q3⟩ := h9; go_simp; try rfl), ?_⟩
                        simp only [Act.put, List.setIfInBounds_toArray, List.set_cons_zero, List.set_cons_succ]
                        refine ord_pureE (o := ⟨some 99, _, _, _, _, _⟩) rfl (by kernel_rfl) ⟨_, fun w9 => by (go_simp; try rfl), ?_⟩
                        simp only [Act.put, List.setIfInBounds_toArray, List.set_cons_zero, List.set_cons_succ]
                        refine ord_pureE (o := ⟨some 100, _, _, _, _, _⟩) rfl (by kernel_rfl) ⟨_, fun w9 => by (go_simp; try rfl), ?_⟩
                        simp only [Act.put, List.setIfInBounds_toArray, List.set_cons_zero, List.set_cons_succ]
                        refine ord_pureE (o := ⟨some 101, _, _, _, _, _⟩) rfl (by kernel_rfl) ⟨_, fun w9 => by (go_simp; try rfl), ?_⟩
                        simp only [Act.put, List.setIfInBounds_toArray, List.set_cons_zero, List.set_cons_succ]
                        refine ord_pureE (o := ⟨some 102, _, _, _, _, _⟩) rfl (by kernel_rfl) ⟨_, fun w9 => by (go_simp; try rfl), ?_⟩
                        simp only [Act.put, List.setIfInBounds_toArray, List.set_cons_zero, List.set_cons_succ]
                        refine ord_pureE (o := ⟨some 103, _, _, _, _, _⟩) rfl (by kernel_rfl) ⟨_, fun w9 => by (go_simp; try rfl), ?_⟩
                        simp only [Act.put, List.setIfInBounds_toArray, List.set_cons_zero, List.set_cons_succ]
                        refine ord_heldE (o := ⟨some 104, _, _, _, _, _⟩) rfl (by kernel_rfl) ⟨_, fun w9 h9 => by (obtain ⟨q0, q1, q2, q3⟩ := h9; go_simp; try rfl), ?_⟩
                        simp only [Act.put, List.setIfInBounds_toArray, List.set_cons_zero, List.set_cons_succ]
                        refine ord_pureE (o := ⟨some 105, _, _, _, _, _⟩) rfl (by kernel_rfl) ⟨_, fun w9 => by (go_simp; try rfl), ?_⟩
                        simp only [Act.put, List.setIfInBounds_toArray, List.set_cons_zero, List.set_cons_succ]
                        refine ord_pureE (o := ⟨some 106, _, _, _, _, _⟩) rfl (by kernel_rfl) ⟨_, fun w9 => by (go_simp; try rfl), ?_⟩
                        simp only [Act.put, List.setIfInBounds_toArray, List.set_cons_zero, List.set_cons_succ]
                        refine ord_pureE (o := ⟨some 107, _, _, _, _, _⟩) rfl (by kernel_rfl) ⟨_, fun w9 => by (go_simp; try rfl), ?_⟩
                        simp only [Act.put, List.setIfInBounds_toArray, List.set_cons_zero, List.set_cons_succ]
                        refine ord_pureE (o := ⟨some 108, _, _, _, _, _⟩) rfl (by kernel_rfl) ⟨_, fun w9 => by (go_simp; try rfl), ?_⟩
                        simp only [Act.put, List.setIfInBounds_toArray, List.set_cons_zero, List.set_cons_succ]
                        refine ord_pureE (o := ⟨some 109, _, _, _, _, _⟩) rfl (by kernel_rfl) ⟨_, fun w9 => by (go_simp; try rfl), ?_⟩
                        simp only [Act.put, List.setIfInBounds_toArray, List.set_cons_zero, List.set_cons_succ]
                        refine ord_heldE (o := ⟨some 110, _, _, _, _, _⟩) rfl (by kernel_rfl) ⟨_, fun w9 h9 => by (obtain ⟨q0, q1, q2, q3⟩ := h9; go_simp; try rfl), ?_⟩
                        simp only [Act.put, List.setIfInBounds_toArray, List.set_cons_zero, List.set_cons_succ]
                        refine ord_go rfl (fun K9 hK => ?_)
                        go_simp
                        skip
                        refine hK.out _ _ (fun _ => HS4.out) ?_
                        clear hK K9
                        refine ord_go rfl (fun K9 hK => ?_)
                        go_simp
                        skip
                        refine hK.out _ _ (fun _ => HS4.out) ?_
                        clear hK K9
                        refine ord_go rfl (fun K9 hK => ?_)
                        go_simp
                        skip
                        refine hK.out _ _ (fun _ => HS4.out) ?_
                        clear hK K9
                        refine ord_go rfl (fun K9 hK => ?_)
                        go_simp
                        skip
                        refine hK.out _ _ (fun h => by cases h) ?_
                        clear hK K9
                        refine ord_end ?_
                        clear HS4
                        have cs := HQ0.out.2.g0 (i0) (by rw [mixd_length HLs.out.2.2.1 HLs.out.2.1 _ (by have := HI0.out; omega)]; have := HI0.out; omega)
                        have fs := HQ0.out.2.fy0 (i0) (by rw [mixd_length HLs.out.2.2.1 HLs.out.2.1 _ (by have := HI0.out; omega)]; have := HI0.out; omega)
                        have x1 := x8_int ((mu 2 y0)) (mu 3 y1)
                        have x2 := x8_int (((mu 2 y0) ^^^ (mu 3 y1))) (y2)
                        have x3 := x8_int ((((mu 2 y0) ^^^ (mu 3 y1)) ^^^ (y2))) (y3)
                        have hr := HCo.out.1
                        rw [← hr] at x3
                        obtain ⟨s1, es1⟩ : ∃ y, ((mu 2 y0) ^^^ (mu 3 y1)) = y := ⟨_, rfl⟩
                        rw [es1] at x1 x2 x3
                        obtain ⟨s2, es2⟩ : ∃ y, s1 ^^^ (y2) = y := ⟨_, rfl⟩
                        rw [es2] at x2 x3
                        clear es1 es2 hr
                        obtain ⟨wq1, hwq1, g1, g2⟩ : ∃ v, wx.drew.setCell ⟨wp.heap.size, i0, none⟩ (.int .u8 (R0.toNat : Int)) = v ∧ (Gs wo v sb0 s) ∧ Row v wp.heap.size 0 (bs (mixd C A (i0 + 1))) :=
                          ⟨_, rfl, HQ0.out.1.other wp.heap.size _ _ (by have h1 := HQ0.out.1.lo; have h2 := HLO.out; omega) (by have h2 := HLO.out; omega), by
                            have h := HQ0.out.2.mixd1 HLs.out.2.2.1 HLs.out.2.1 (k := i0) (by have := HI0.out; omega) (x := R0) HCo.out.2.2.2.2.1.symm
                            exact h⟩
                        have HQ1 := hide (And.intro g1 g2)
                        clear g1 g2
                        go_wp2_with fail
                        refine (gmul_u8 2 y0 _).mono ?_
                        rintro e w8 ⟨rfl, hw⟩
                        obtain rfl := hw.symm
                        go_wp2_with fail
                        refine (gmul_u8 3 y1 _).mono ?_
                        rintro e w8 ⟨rfl, hw⟩
                        obtain rfl := hw.symm
                        go_wp2_with fail
                        clear cs fs x1 x2 x3 hwq1 HQ0
                        have cs := HQ1.out.2.g0 (i0 + 1) (by rw [mixd_length HLs.out.2.2.1 HLs.out.2.1 _ (by have := HI0.out; omega)]; have := HI0.out; omega)
                        have fs := HQ1.out.2.fy0 (i0 + 1) (by rw [mixd_length HLs.out.2.2.1 HLs.out.2.1 _ (by have := HI0.out; omega)]; have := HI0.out; omega)
                        have x1 := x8_int ((y0)) (mu 2 y1)
                        have x2 := x8_int (((y0) ^^^ (mu 2 y1))) (mu 3 y2)
                        have x3 := x8_int ((((y0) ^^^ (mu 2 y1)) ^^^ (mu 3 y2))) (y3)
                        have hr := HCo.out.2.1
                        rw [← hr] at x3
                        obtain ⟨s1, es1⟩ : ∃ y, ((y0) ^^^ (mu 2 y1)) = y := ⟨_, rfl⟩
                        rw [es1] at x1 x2 x3
                        obtain ⟨s2, es2⟩ : ∃ y, s1 ^^^ (mu 3 y2) = y := ⟨_, rfl⟩
                        rw [es2] at x2 x3
                        clear es1 es2 hr
                        obtain ⟨wq2, hwq2, g1, g2⟩ : ∃ v, wq1.setCell ⟨wp.heap.size, i0 + 1, none⟩ (.int .u8 (R1.toNat : Int)) = v ∧ (Gs wo v sb0 s) ∧ Row v wp.heap.size 0 (bs (mixd C A (i0 + 2))) :=
                          ⟨_, rfl, HQ1.out.1.other wp.heap.size _ _ (by have h1 := HQ1.out.1.lo; have h2 := HLO.out; omega) (by have h2 := HLO.out; omega), by
                            have h := HQ1.out.2.mixd1 HLs.out.2.2.1 HLs.out.2.1 (k := i0 + 1) (by have := HI0.out; omega) (x := R1) HCo.out.2.2.2.2.2.1.symm
                            exact h⟩
                        have HQ2 := hide (And.intro g1 g2)
                        clear g1 g2
                        go_wp2_with fail
                        refine (gmul_u8 2 y1 _).mono ?_
                        rintro e w8 ⟨rfl, hw⟩
                        obtain rfl := hw.symm
                        go_wp2_with fail
                        refine (gmul_u8 3 y2 _).mono ?_
                        rintro e w8 ⟨rfl, hw⟩
                        obtain rfl := hw.symm
                        go_wp2_with fail
                        clear cs fs x1 x2 x3 hwq2 HQ1
                        have cs := HQ2.out.2.g0 (i0 + 2) (by rw [mixd_length HLs.out.2.2.1 HLs.out.2.1 _ (by have := HI0.out; omega)]; have := HI0.out; omega)
                        have fs := HQ2.out.2.fy0 (i0 + 2) (by rw [mixd_length HLs.out.2.2.1 HLs.out.2.1 _ (by have := HI0.out; omega)]; have := HI0.out; omega)
                        have x1 := x8_int ((y0)) (y1)
                        have x2 := x8_int (((y0) ^^^ (y1))) (mu 2 y2)
                        have x3 := x8_int ((((y0) ^^^ (y1)) ^^^ (mu 2 y2))) (mu 3 y3)
                        have hr := HCo.out.2.2.1
                        rw [← hr] at x3
                        obtain ⟨s1, es1⟩ : ∃ y, ((y0) ^^^ (y1)) = y := ⟨_, rfl⟩
                        rw [es1] at x1 x2 x3
                        obtain ⟨s2, es2⟩ : ∃ y, s1 ^^^ (mu 2 y2) = y := ⟨_, rfl⟩
                        rw [es2] at x2 x3
                        clear es1 es2 hr
                        obtain ⟨wq3, hwq3, g1, g2⟩ : ∃ v, wq2.setCell ⟨wp.heap.size, i0 + 2, none⟩ (.int .u8 (R2.toNat : Int)) = v ∧ (Gs wo v sb0 s) ∧ Row v wp.heap.size 0 (bs (mixd C A (i0 + 3))) :=
                          ⟨_, rfl, HQ2.out.1.other wp.heap.size _ _ (by have h1 := HQ2.out.1.lo; have h2 := HLO.out; omega) (by have h2 := HLO.out; omega), by
                            have h := HQ2.out.2.mixd1 HLs.out.2.2.1 HLs.out.2.1 (k := i0 + 2) (by have := HI0.out; omega) (x := R2) HCo.out.2.2.2.2.2.2.1.symm
                            exact h⟩
                        have HQ3 := hide (And.intro g1 g2)
                        clear g1 g2
                        go_wp2_with fail
                        refine (gmul_u8 2 y2 _).mono ?_
                        rintro e w8 ⟨rfl, hw⟩
                        obtain rfl := hw.symm
                        go_wp2_with fail
                        refine (gmul_u8 3 y3 _).mono ?_
                        rintro e w8 ⟨rfl, hw⟩
                        obtain rfl := hw.symm
                        go_wp2_with fail
                        clear cs fs x1 x2 x3 hwq3 HQ2
                        have cs := HQ3.out.2.g0 (i0 + 3) (by rw [mixd_length HLs.out.2.2.1 HLs.out.2.1 _ (by have := HI0.out; omega)]; have := HI0.out; omega)
                        have fs := HQ3.out.2.fy0 (i0 + 3) (by rw [mixd_length HLs.out.2.2.1 HLs.out.2.1 _ (by have := HI0.out; omega)]; have := HI0.out; omega)
                        have x1 := x8_int ((mu 3 y0)) (y1)
                        have x2 := x8_int (((mu 3 y0) ^^^ (y1))) (y2)
                        have x3 := x8_int ((((mu 3 y0) ^^^ (y1)) ^^^ (y2))) (mu 2 y3)
                        have hr := HCo.out.2.2.2.1
                        rw [← hr] at x3
                        obtain ⟨s1, es1⟩ : ∃ y, ((mu 3 y0) ^^^ (y1)) = y := ⟨_, rfl⟩
                        rw [es1] at x1 x2 x3
                        obtain ⟨s2, es2⟩ : ∃ y, s1 ^^^ (y2) = y := ⟨_, rfl⟩
                        rw [es2] at x2 x3
                        clear es1 es2 hr
                        obtain ⟨wq4, hwq4, g1, g2⟩ : ∃ v, wq3.setCell ⟨wp.heap.size, i0 + 3, none⟩ (.int .u8 (R3.toNat : Int)) = v ∧ (Gs wo v sb0 s) ∧ Row v wp.heap.size 0 (bs (mixd C A (i0 + 4))) :=
                          ⟨_, rfl, HQ3.out.1.other wp.heap.size _ _ (by have h1 := HQ3.out.1.lo; have h2 := HLO.out; omega) (by have h2 := HLO.out; omega), by
                            have h := HQ3.out.2.mixd1 HLs.out.2.2.1 HLs.out.2.1 (k := i0 + 3) (by have := HI0.out; omega) (x := R3) HCo.out.2.2.2.2.2.2.2.symm
                            exact h⟩
                        have HQ4 := hide (And.intro g1 g2)
                        clear g1 g2
                        go_wp2_with fail
                        refine (gmul_u8 3 y0 _).mono ?_
                        rintro e w8 ⟨rfl, hw⟩
                        obtain rfl := hw.symm
                        go_wp2_with fail
                        refine (gmul_u8 2 y3 _).mono ?_
                        rintro e w8 ⟨rfl, hw⟩
                        obtain rfl := hw.symm
                        go_wp2_with fail
                        clear cs fs x1 x2 x3 hwq4 HQ3
                        have HC1 := hide (show Gs wo wq4 sb0 s ∧ Row wq4 wp.heap.size 0 (bs (mixd C A ((c + 1) * 4))) ∧ sb0 < wp.heap.size from ⟨HQ4.out.1, by rw [show (c + 1) * 4 = i0 + 4 by have := HI0.out; omega]; exact HQ4.out.2, HLO.out⟩)
                        clear HQ4
                        go_roundg g7
                        case measure => omega
                        case rel => exact ⟨c + 1, by omega, by go_num, HC1.out⟩
                      · obtain rfl : c = 4 := by omega
                        rw [show 4 * 4 = 16 from rfl, mixd_all HLs.out.2.2.1 HLs.out.2.1] at hA
                        have HCx := hide (And.intro hS (And.intro hA hlo))
                        clear hS hA hlo
                        go_wp2_with fail
                        go_loopg [21] 16 (fun g q wr => ∃ i : Nat, i + g = 16 ∧ q = .int .i64 i ∧ Gs wo wr sb0 (mixd D s i) ∧ Row wr wp.heap.size 0 (bs C) ∧ sb0 < wp.heap.size)
                        case atStart => exact ⟨0, rfl, rfl, by rw [mixd_zero]; exact HCx.out⟩
                        case round =>
                          clear HCx
                          obtain ⟨wx, hwx⟩ : ∃ z, z = wr := ⟨_, rfl⟩
                          subst hwx
                          obtain ⟨i, hig, rfl, hS, hC, hlo⟩ := hrel
                          by_cases hi : i < 16
                          · have hi' : (i : Int) < 16 := by omega
                            obtain ⟨g7, rfl⟩ : ∃ g7, gk = g7 + 1 := ⟨gk - 1, by omega⟩
                            have hn14 : n ≤ 14 := by have := HR.out.2; omega
                            have lm : (mixd D s i).length = 16 := mixd_length HLs.out.2.2.2.2 HLs.out.1 i (by omega)
                            have hG := HGo.out.below hS.be
                            have c1 := hS.s.drew.g0 i (by rw [lm]; exact hi)
                            have f1 := hS.s.drew.fy0 i (by rw [lm]; exact hi)
                            have c0 := hC.drew.g0 i (by rw [HLs.out.2.2.1]; exact hi)
                            obtain ⟨p, ep⟩ : ∃ p, 16 * n + i = p := ⟨_, rfl⟩
                            have v1 := IntWalk.i64_in (16 * (n : Int)) (by omega)
                            have v2 : 16 * (n : Int) + (i : Int) = (p : Int) := by omega
                            have v3 := IntWalk.i64_in (p : Int) (by omega)
                            have v4 : (p : Int) < 240 := by omega
                            have c2 := hG.k.drew.g0 p (by rw [kw_length HK.out]; omega)
                            have e2 : gy (kw key) p = gy Kn i := by rw [← HEs.out.2.2.1]; unfold kR; rw [gy_take _ _ _ hi, gy_drop, ep]
                            rw [e2] at c2
                            have e3 : gy C i ^^^ gy Kn i = gy D i := by rw [← HEs.out.2.2.2.1, gy_comb (by rw [HLs.out.2.2.1]; exact hi) (by rw [HLs.out.2.2.2.1]; exact hi)]
                            have hxo := x8_int (gy C i) (gy Kn i)
                            rw [e3] at hxo
                            have h3 : Gs wo (wx.drew.setCell ⟨sb0, i, none⟩ (.int .u8 ((gy D i).toNat : Int))) sb0 (mixd D s (i + 1)) := ⟨hS.s.drew.mixd1 HLs.out.2.2.2.2 HLs.out.1 hi rfl, hS.lo, (Below.drew hS.be).setCell (p := ⟨sb0, i, none⟩) hS.lo _⟩
                            have H3 := hide (And.intro h3 (And.intro (hC.drew.other sb0 i (.int .u8 ((gy D i).toNat : Int)) (.inl (by omega))) hlo))
                            obtain ⟨y1, f01⟩ : ∃ y, gy C i = y := ⟨_, rfl⟩
                            obtain ⟨y2, f02⟩ : ∃ y, gy Kn i = y := ⟨_, rfl⟩
                            obtain ⟨y3, f03⟩ : ∃ y, gy D i = y := ⟨_, rfl⟩
                            rw [f01] at c0 hxo
                            rw [f02] at c2 hxo
                            rw [f03] at hxo H3
                            clear hS hC hG h3 lm e2 e3 f01 f02 f03 ep hlo
                            go_wp2_with fail
                            go_still_tail 15, hmx
                            go_wp2_with fail
                            go_roundg g7
                            case measure => omega
                            case rel => exact ⟨i + 1, by omega, by go_num, H3.out⟩
                          · obtain rfl : i = 16 := by omega
                            rw [mixd_all HLs.out.2.2.2.2 HLs.out.1] at hS
                            have HS := hide hS
                            clear hS hC hlo
                            go_wp2_with fail
                            go_roundg g5
                            case measure => omega
                            case rel => exact ⟨r + 1, by have := HR.out.1; omega, by have := HR.out.2.2; go_num, by have := HR.out.2.1; omega, by rw [HEs.out.2.2.2.2]; exact HS.out⟩
                  · have cn' : ¬ ((n : Int) < 14) := by omega
                    have eC : A = C := by have := HEs.out.2.1; rwa [if_neg cn] at this
                    rw [eC] at HA
                    have HCx := hide HA.out
                    clear HA eC
                    go_wp2_with fail
                    clear cn'
                    go_loopg [21] 16 (fun g q wr => ∃ i : Nat, i + g = 16 ∧ q = .int .i64 i ∧ Gs wo wr sb0 (mixd D s i) ∧ Row wr wp.heap.size 0 (bs C) ∧ sb0 < wp.heap.size)
                    case atStart => exact ⟨0, rfl, rfl, by rw [mixd_zero]; exact HCx.out⟩
                    case round =>
                      clear HCx
                      obtain ⟨wx, hwx⟩ : ∃ z, z = wr := ⟨_, rfl⟩
                      subst hwx
                      obtain ⟨i, hig, rfl, hS, hC, hlo⟩ := hrel
                      by_cases hi : i < 16
                      · have hi' : (i : Int) < 16 := by omega
                        obtain ⟨g7, rfl⟩ : ∃ g7, gk = g7 + 1 := ⟨gk - 1, by omega⟩
                        have hn14 : n ≤ 14 := by have := HR.out.2; omega
                        have lm : (mixd D s i).length = 16 := mixd_length HLs.out.2.2.2.2 HLs.out.1 i (by omega)
                        have hG := HGo.out.below hS.be
                        have c1 := hS.s.drew.g0 i (by rw [lm]; exact hi)
                        have f1 := hS.s.drew.fy0 i (by rw [lm]; exact hi)
                        have c0 := hC.drew.g0 i (by rw [HLs.out.2.2.1]; exact hi)
                        obtain ⟨p, ep⟩ : ∃ p, 16 * n + i = p := ⟨_, rfl⟩
                        have v1 := IntWalk.i64_in (16 * (n : Int)) (by omega)
                        have v2 : 16 * (n : Int) + (i : Int) = (p : Int) := by omega
                        have v3 := IntWalk.i64_in (p : Int) (by omega)
                        have v4 : (p : Int) < 240 := by omega
                        have c2 := hG.k.drew.g0 p (by rw [kw_length HK.out]; omega)
                        have e2 : gy (kw key) p = gy Kn i := by rw [← HEs.out.2.2.1]; unfold kR; rw [gy_take _ _ _ hi, gy_drop, ep]
                        rw [e2] at c2
                        have e3 : gy C i ^^^ gy Kn i = gy D i := by rw [← HEs.out.2.2.2.1, gy_comb (by rw [HLs.out.2.2.1]; exact hi) (by rw [HLs.out.2.2.2.1]; exact hi)]
                        have hxo := x8_int (gy C i) (gy Kn i)
                        rw [e3] at hxo
                        have h3 : Gs wo (wx.drew.setCell ⟨sb0, i, none⟩ (.int .u8 ((gy D i).toNat : Int))) sb0 (mixd D s (i + 1)) := ⟨hS.s.drew.mixd1 HLs.out.2.2.2.2 HLs.out.1 hi rfl, hS.lo, (Below.drew hS.be).setCell (p := ⟨sb0, i, none⟩) hS.lo _⟩
                        have H3 := hide (And.intro h3 (And.intro (hC.drew.other sb0 i (.int .u8 ((gy D i).toNat : Int)) (.inl (by omega))) hlo))
                        obtain ⟨y1, f01⟩ : ∃ y, gy C i = y := ⟨_, rfl⟩
                        obtain ⟨y2, f02⟩ : ∃ y, gy Kn i = y := ⟨_, rfl⟩
                        obtain ⟨y3, f03⟩ : ∃ y, gy D i = y := ⟨_, rfl⟩
                        rw [f01] at c0 hxo
                        rw [f02] at c2 hxo
                        rw [f03] at hxo H3
                        clear hS hC hG h3 lm e2 e3 f01 f02 f03 ep hlo
                        go_wp2_with fail
                        go_still_tail 15, hmx
                        go_wp2_with fail
                        go_roundg g7
                        case measure => omega
                        case rel => exact ⟨i + 1, by omega, by go_num, H3.out⟩
                      · obtain rfl : i = 16 := by omega
                        rw [mixd_all HLs.out.2.2.2.2 HLs.out.1] at hS
                        have HS := hide hS
                        clear hS hC hlo
                        go_wp2_with fail
                        go_roundg g5
                        case measure => omega
                        case rel => exact ⟨r + 1, by have := HR.out.1; omega, by have := HR.out.2.2; go_num, by have := HR.out.2.1; omega, by rw [HEs.out.2.2.2.2]; exact HS.out⟩
            · obtain rfl : r = 14 := by omega
              obtain ⟨Z, eZ⟩ : ∃ Z, et key x = Z := ⟨_, rfl⟩
              obtain ⟨L, eL⟩ : ∃ L, eN (kw key) Y0 14 = L := ⟨_, rfl⟩
              have lL : L.length = 16 := by rw [← eL]; exact eN_length (kw_length HK.out) HX.out.2.2 14 (by decide)
              have hZ : (⟨L.toArray⟩ : ByteArray) = Z := by rw [← eZ, ← eL]; unfold et enc; rw [HE.out.2.1, HE.out.2.2.1, HE.out.2.2.2]
              rw [eL] at hS
              have hx := run_textR (P := Try.prog) wp 28 9 5 (c := sc) (n := 16) (l := L) Try.underlying28 Try.underlying5 Try.underlying9 sb0 0 rfl lL hS.s.cell
              rw [hZ] at hx
              have HB5 := hide (show Below w2.heap.size w2 (wp.alloc (.cells #[.string Z] 9)) from HBw.out.trans ((hS.be.alloc hS.be.size _).mono HBw.out.size))
              have HO5 := hide (HO.out.keep (hS.be.alloc hS.be.size (.cells #[.string Z] 9)))
              have HZ := hide (show et key (F k) = Z by rw [HE.out.1]; exact eZ)
              clear hS hZ eZ eL lL
              have hk60 := IntWalk.i64_in ((k : Int) + 1) (by have := HF.out.1; have := HN.out.1; omega)
              go_wp2_with (refine wpList_appendO rfl (.tmp 185) (.tmp 188) 78 78 rfl 9 Try.underlying78 infoSt (by decide) rfl (B := w2.heap.size) (n := k) (m := 1) (xs := ts (fun j => et key (F j)) k) (news := [.string Z]) rfl rfl HO5.out ((Row.newL wp [.string Z] 9).src (n := 1) (cap := 1) rfl Try.underlying78 (fun u hu => by simp at hu; subst hu; rfl)) (by have := HF.out.1; have := HN.out.1; omega) HB5.out.size (fun u hu => ts_one hu) ?_
                           intro v9 w9 hO9 hB9
                           have HO9 := hide hO9
                           have HB9 := hide (HB5.out.trans hB9)
                           clear hO9 hB9)
              go_roundg g3
              case measure => omega
              case rel => exact ⟨k + 1, by have := HN.out.2; omega, by go_num, by rw [ts_succ, HZ.out]; exact HO9.out, HB9.out⟩
    · obtain rfl : k = m := by omega
      obtain ⟨va, vc, rfl, hvc⟩ := hO.shape
      have HO := hide hO
      have HBw := hide (HB.out.trans (hBw.mono HB.out.size))
      have HBs := hide HB.out.size
      clear hO hBw hvc
      go_wp2_with fail
      go_ret
      refine ⟨_, rfl, ?_, HBw.out⟩
      obtain ⟨h1, h2⟩ := HO.out
      refine ⟨h1, ?_⟩
      rcases h2 with h2 | ⟨g, cap, zs, hv, hg, hn, hzs, hR⟩
      · exact .inl h2
      · exact .inr ⟨g, cap, zs, hv, Nat.le_trans HBs.out hg, hn, hzs, hR⟩
end Go.Proofs.Ytknjmmbebkcnpaa
