/- The document's roots' bits, walked: rows of the bits of the first 64 primes' square and cube roots. No condition. -/
import Derived.Test.YtdcmjmmfclhfbaaQApp
import Derived.Test.YtdcmjmmfclhfbaaQSpec
namespace Go.Proofs.Ytdcmjmmfclhfbaa
open Go.RowKit Bk
set_option linter.unusedVariables false
set_option linter.unusedSimpArgs false

theorem w64_mul' (x y : Nat) (h : x * y < 18446744073709551616) : IntKind.u64.wrap ((x : Int) * (y : Int)) = ((x * y : Nat) : Int) := by
  rw [w64_mul]; unfold w64; rw [Nat.mod_eq_of_lt h]
set_option maxRecDepth 100000 in
set_option maxHeartbeats 16000000 in
theorem rroots_any (w : World) : Calls Try.prog 40 #[] w fun e w' => ∃ v1 v2, e = .returned (.tuple #[v1, v2]) ∧ Ow w' w.heap.size v1 64 (us (rq sqW 64)) ∧ Ow w' w.heap.size v2 64 (us (rq cbW 64)) ∧ Below w.heap.size w w' := by
  go_enter Try.func40, Try.ntmps40
  go_wp2_with fail
  go_loopg [2, 3, 4, 5, 6, 7, 8, 9, 10] 310 (fun g s1 s2 q _ _ _ _ _ _ wr => ∃ p c : Nat, p + g = 312 ∧ 2 ≤ p ∧ c = cnp p ∧ q = .int .u64 p ∧ Dj s1 s2 ∧ Ow wr w.heap.size s1 c (us (rq sqW c)) ∧ Ow wr w.heap.size s2 c (us (rq cbW c)) ∧ Below w.heap.size w wr)
  case atStart => exact ⟨2, 0, rfl, Nat.le_refl _, cnp_two.symm, rfl, Dj.nil _, Ow.nil _ _, Ow.nil _ _, Below.refl _ _⟩
  case round =>
    obtain ⟨p, c, hpg, hp2, hc, rfl, hdj, hO1, hO2, hB⟩ := hrel
    obtain ⟨a1, cap1, rfl, hc1⟩ := hO1.shape
    obtain ⟨a2, cap2, rfl, hc2⟩ := hO2.shape
    have DJ := hide hdj
    have O1 := hide hO1
    have O2 := hide hO2
    have HB := hide hB
    have HC := hide hc
    have hc64 : c ≤ 64 := by rw [hc]; exact cnp_le p
    clear hO1 hO2 hB hc hc1 hc2 hdj
    by_cases hlt : c < 64
    · have hlt' : (c : Int) < 64 := by omega
      have hp : p < 312 := by
        rcases Nat.lt_or_ge p 312 with h | h
        · exact h
        · have : p = 312 := by omega
          have h9 := HC.out
          rw [this, cnp_end] at h9
          omega
      obtain ⟨g3, rfl⟩ : ∃ g3, gk = g3 + 1 := ⟨gk - 1, by omega⟩
      go_wp2_with fail
      go_loopg [5, 6] 17 (fun g b q wr => ∃ k : Nat, k + g = 17 ∧ q = .int .u64 (k + 2 : Nat) ∧ ((b = .bool true ∧ okd p k = true) ∨ (b = .bool false ∧ ¬ p ∈ spr)) ∧ Ow wr w.heap.size (.slice a1 c cap1) c (us (rq sqW c)) ∧ Ow wr w.heap.size (.slice a2 c cap2) c (us (rq cbW c)) ∧ Below w.heap.size w wr)
      case atStart => exact ⟨0, rfl, rfl, .inl ⟨rfl, rfl⟩, O1.out, O2.out, HB.out⟩
      case round =>
        clear O1 O2 HB
        obtain ⟨k, hkg, rfl, hb, hO1, hO2, hB⟩ := hrel
        have O1 := hide hO1
        have O2 := hide hO2
        have HB := hide hB
        clear hO1 hO2 hB
        obtain ⟨d, ed⟩ : ∃ d, k + 2 = d := ⟨_, rfl⟩
        have hdd0 : d * d ≤ 19 * 19 := Nat.mul_le_mul (by omega) (by omega)
        have r1 := w64_mul' d d (by omega)
        obtain ⟨dd, edd⟩ : ∃ z, d * d = z := ⟨_, rfl⟩
        rw [edd] at r1 hdd0
        rw [ed]
        have p1 : IntKind.u64.wrap ((p : Int) + 1) = (p : Int) + 1 := IntWalk.u64_in _ (by omega)
        have p2 : IntKind.u64.wrap ((d : Int) + 1) = (d : Int) + 1 := IntWalk.u64_in _ (by omega)
        rcases hb with ⟨rfl, hok⟩ | ⟨rfl, hno⟩
        · by_cases hle : dd ≤ p
          · have hleI : (dd : Int) ≤ (p : Int) := by omega
            have hd18 : d < 18 := by
              rcases Nat.lt_or_ge d 18 with h | h
              · exact h
              · have : 18 * 18 ≤ d * d := Nat.mul_le_mul h h
                omega
            obtain ⟨g4, rfl⟩ : ∃ g4, gk = g4 + 1 := ⟨gk - 1, by omega⟩
            obtain ⟨e, ee⟩ : ∃ e, p % d = e := ⟨_, rfl⟩
            have m1 : (p : Int) % (d : Int) = (e : Int) := by rw [← ee, Int.natCast_emod]
            have m2 : Int.tmod (p : Int) (d : Int) = (e : Int) := by rw [Int.tmod_eq_emod_of_nonneg (by omega)]; exact m1
            have hd0 : ¬ ((d : Int) = 0) := by omega
            have HD := hide (show k + 2 = d ∧ d * d = dd ∧ p % d = e by exact ⟨ed, edd, ee⟩)
            have HOK := hide hok
            clear ed edd ee hok hdd0
            by_cases he : e = 0
            · have hb : ((e : Int) != 0) = false := by simp [he]
              have hno : ¬ p ∈ spr := div_no hp hd18 (by have := HD.out.1; omega) (by rw [HD.out.2.1]; exact hle) (by rw [HD.out.2.2]; exact he)
              have HNO := hide hno
              clear hno he
              go_wp2_with fail
              go_roundg g4
              case measure => omega
              case rel => exact ⟨k + 1, by omega, by have := HD.out.1; go_num, .inr ⟨rfl, HNO.out⟩, O1.out, O2.out, HB.out⟩
            · have hb : ((e : Int) != 0) = true := by
                rw [bne_iff_ne]
                intro h
                exact he (by omega)
              have hok2 := hide (okd_succ p k HOK.out (by rw [HD.out.1, HD.out.2.2]; exact he))
              clear he
              go_wp2_with fail
              go_roundg g4
              case measure => omega
              case rel => exact ⟨k + 1, by omega, by have := HD.out.1; go_num, .inl ⟨rfl, hok2.out⟩, O1.out, O2.out, HB.out⟩
          · have hleI : ¬ ((dd : Int) ≤ (p : Int)) := by omega
            have hyes : p ∈ spr := by
              rcases Nat.lt_or_ge k 18 with h | h
              · exact div_yes hp hp2 h hok (by rw [ed, edd]; omega)
              · omega
            have HY0 := hide hyes
            clear hyes hok ed edd hdd0 hle
            go_wp2_with fail
            go_loopg [7, 8, 9, 10] 37 (fun g x y a _ wr => ∃ k xx yy : Nat, k = g ∧ k ≤ 37 ∧ x = .int .u64 xx ∧ y = .int .u64 yy ∧ a = .int .u64 (bitOf k : Nat) ∧ (xx + 2 ^ k ≤ 137438953472 ∧ yy + 2 ^ k ≤ 137438953472) ∧ rtb (sqW p) k xx = rtb (sqW p) 37 0 ∧ rtb (cbW p) k yy = rtb (cbW p) 37 0 ∧ Ow wr w.heap.size (.slice a1 c cap1) c (us (rq sqW c)) ∧ Ow wr w.heap.size (.slice a2 c cap2) c (us (rq cbW c)) ∧ Below w.heap.size w wr)
            case atStart => exact ⟨37, 0, 0, rfl, Nat.le_refl _, rfl, rfl, rfl, ⟨by omega, by omega⟩, rfl, rfl, O1.out, O2.out, HB.out⟩
            case round =>
              clear O1 O2 HB
              obtain ⟨k, xx, yy, rfl, hk37, rfl, rfl, rfl, ⟨hx, hy⟩, hX, hY, hO1, hO2, hB⟩ := hrel
              have O1 := hide hO1
              have O2 := hide hO2
              have HB := hide hB
              clear hO1 hO2 hB
              cases k with
              | zero =>
                have e0 : bitOf 0 = 0 := rfl
                rw [e0]
                clear hx hy
                have EX := hide (show rts (sqW p) = xx % 4294967296 from congrArg (· % 4294967296) hX.symm)
                have EY := hide (show rts (cbW p) = yy % 4294967296 from congrArg (· % 4294967296) hY.symm)
                clear hX hY
                obtain ⟨v1, ev1⟩ : ∃ z, xx % 4294967296 = z := ⟨_, rfl⟩
                obtain ⟨v2, ev2⟩ : ∃ z, yy % 4294967296 = z := ⟨_, rfl⟩
                have m1 : (xx : Int) % 4294967296 = (v1 : Int) := by omega
                have m1' : Int.tmod (xx : Int) 4294967296 = (v1 : Int) := by rw [Int.tmod_eq_emod_of_nonneg (by omega)]; exact m1
                have m2 : (yy : Int) % 4294967296 = (v2 : Int) := by omega
                have m2' : Int.tmod (yy : Int) 4294967296 = (v2 : Int) := by rw [Int.tmod_eq_emod_of_nonneg (by omega)]; exact m2
                have z1 := IntWalk.u32_in (v1 : Int) (by omega)
                have z2 := IntWalk.u32_in (v2 : Int) (by omega)
                have FX := hide (show rts (sqW p) = v1 by rw [EX.out, ev1])
                have FY := hide (show rts (cbW p) = v2 by rw [EY.out, ev2])
                have HP := hide (pr_yes hp HY0.out)
                clear ev1 ev2 EX EY
                go_wp2_with (first
                  | (refine appendUP rfl (.tmp 62) (.tmp 66) rfl rfl rfl O1.out (by omega) HB.out.size ?_
                     intro s1 w1 hS1 kA1
                     have S1 := hide hS1
                     have T1 := hide (O2.out.ap kA1 DJ.out)
                     have B1 := hide (HB.out.trans (kA1.below O1.out HB.out.size))
                     have D1 := hide (DJ.out.ap kA1 O2.out)
                     clear hS1 kA1 O1 O2 HB DJ)
                  | (refine appendUP rfl (.tmp 68) (.tmp 72) rfl rfl rfl T1.out (by omega) B1.out.size ?_
                     intro s2 w2 hS2 kA2
                     have T2 := hide hS2
                     have S2 := hide (S1.out.ap kA2 D1.out.symm)
                     have B2 := hide (B1.out.trans (kA2.below T1.out B1.out.size))
                     have D2 := hide (D1.out.symm.ap kA2 S1.out).symm
                     clear hS2 kA2 S1 T1 B1 D1))
                go_roundg g3
                case measure => omega
                case rel => exact ⟨p + 1, c + 1, by omega, by omega, by rw [HP.out.1]; exact congrArg (· + 1) HC.out, by go_num, D2.out, by rw [rq_succ _ _ hlt, HC.out, HP.out.2, FX.out, ← HC.out]; exact S2.out, by rw [rq_succ _ _ hlt, HC.out, HP.out.2, FY.out, ← HC.out]; exact T2.out, B2.out⟩
              | succ k =>
                have eb : bitOf (k + 1) = 2 ^ k := rfl
                have hh := bitOf_half k
                rw [eb] at hh
                have h2 : 2 ^ (k + 1) = 2 ^ k + 2 ^ k := by rw [Nat.pow_succ]; omega
                have h1 : 0 < 2 ^ k := Nat.two_pow_pos k
                rw [h2] at hx hy
                have hX2 : rtb (sqW p) k (if sqW p (xx + 2 ^ k) then xx + 2 ^ k else xx) = rtb (sqW p) 37 0 := hX
                have hY2 : rtb (cbW p) k (if cbW p (yy + 2 ^ k) then yy + 2 ^ k else yy) = rtb (cbW p) 37 0 := hY
                rw [eb]
                obtain ⟨B, eB⟩ : ∃ z, 2 ^ k = z := ⟨_, rfl⟩
                have EB := hide eB
                rw [eB] at hx hy h1 hh hX2 hY2 ⊢
                obtain ⟨B2, eB2⟩ : ∃ z, bitOf k = z := ⟨_, rfl⟩
                rw [eB2] at hh
                obtain ⟨X, eX⟩ : ∃ z, xx + B = z := ⟨_, rfl⟩
                obtain ⟨Y, eY⟩ : ∃ z, yy + B = z := ⟨_, rfl⟩
                rw [eX] at hX2
                rw [eY] at hY2
                have rX : IntKind.u64.wrap ((xx : Int) + (B : Int)) = (X : Int) := by rw [IntWalk.u64_in _ (by omega)]; omega
                have rY : IntKind.u64.wrap ((yy : Int) + (B : Int)) = (Y : Int) := by rw [IntWalk.u64_in _ (by omega)]; omega
                have rB : (B : Int) / 2 = (B2 : Int) := by omega
                have rB' : Int.tdiv (B : Int) 2 = (B2 : Int) := by rw [Int.tdiv_eq_ediv_of_nonneg (by omega)]; exact rB
                have uB := IntWalk.u64_in (B2 : Int) (by omega)
                have hB0 : (B : Int) > 0 := by omega
                have hB0' : (0 : Int) < (B : Int) := by omega
                have HX := hide hX2
                have HY := hide hY2
                have HN := hide (show X < 18446744073709551616 ∧ Y < 18446744073709551616 ∧ X + B ≤ 137438953472 ∧ Y + B ≤ 137438953472 ∧ xx + B ≤ 137438953472 ∧ yy + B ≤ 137438953472 ∧ k ≤ 37 by omega)
                have EB2 := hide eB2
                have hbB : decide (0 < B) = true := decide_eq_true h1
                clear hX hY hX2 hY2 eB eB2 eX eY hx hy hh h2 eb hk37
                obtain ⟨bs1, es1⟩ : ∃ z, sqW p X = z := ⟨_, rfl⟩
                obtain ⟨bc1, ec1⟩ : ∃ z, cbW p Y = z := ⟨_, rfl⟩
                have ES := hide es1
                have EC := hide ec1
                clear es1 ec1
                go_wp2_with fail
                refine (rdig_any X _ HN.out.1).mono ?_
                rintro e w1 ⟨d1, rfl, hd1, r1, k1⟩
                have R1 := hide r1
                have B1 := hide (HB.out.trans (k1.mono HB.out.size))
                have P1 := hide (O1.out.keep k1)
                have Q1 := hide (O2.out.keep k1)
                clear k1 HB O1 O2 r1 hd1
                go_wp2_with fail
                refine (rsq_any X R1.out).mono ?_
                rintro e w2 ⟨d2, rfl, hd2, r2, k2⟩
                have R2 := hide r2
                have B2 := hide (B1.out.trans (k2.mono B1.out.size))
                have P2 := hide (P1.out.keep k2)
                have Q2 := hide (Q1.out.keep k2)
                clear k2 B1 P1 Q1 R1 r2 hd2
                go_wp2_with fail
                refine (rwsq_any X p (by omega) R2.out).mono ?_
                rintro e w3 ⟨rfl, k3⟩
                have B3 := hide (B2.out.trans (k3.mono B2.out.size))
                have P3 := hide (P2.out.keep k3)
                have Q3 := hide (Q2.out.keep k3)
                clear k3 B2 P2 Q2 R2
                rw [ES.out]
                cases bs1 with
                | true =>
                  go_wp2_with fail
                  refine (rdig_any Y _ HN.out.2.1).mono ?_
                  rintro e w4 ⟨d4, rfl, hd4, r4, k4⟩
                  have R4 := hide r4
                  have B4 := hide (B3.out.trans (k4.mono B3.out.size))
                  have P4 := hide (P3.out.keep k4)
                  have Q4 := hide (Q3.out.keep k4)
                  clear k4 B3 P3 Q3 r4 hd4
                  go_wp2_with fail
                  refine (rsq_any Y R4.out).mono ?_
                  rintro e w5 ⟨d5, rfl, hd5, r5, k5⟩
                  have R5 := hide r5
                  have B5 := hide (B4.out.trans (k5.mono B4.out.size))
                  have P5 := hide (P4.out.keep k5)
                  have Q5 := hide (Q4.out.keep k5)
                  have R4b := hide (R4.out.below k5 R4.out.lt)
                  clear k5 B4 P4 Q4 R4 r5 hd5
                  go_wp2_with fail
                  refine (rcb_any Y R5.out R4b.out).mono ?_
                  rintro e w6 ⟨d6, rfl, hd6, r6, k6⟩
                  have R6 := hide r6
                  have B6 := hide (B5.out.trans (k6.mono B5.out.size))
                  have P6 := hide (P5.out.keep k6)
                  have Q6 := hide (Q5.out.keep k6)
                  clear k6 B5 P5 Q5 R5 R4b r6 hd6
                  go_wp2_with fail
                  refine (rwcb_any Y p (by omega) R6.out).mono ?_
                  rintro e w7 ⟨rfl, k7⟩
                  have B7 := hide (B6.out.trans (k7.mono B6.out.size))
                  have P7 := hide (P6.out.keep k7)
                  have Q7 := hide (Q6.out.keep k7)
                  clear k7 B6 P6 Q6 R6
                  rw [EC.out]
                  cases bc1 with
                  | true =>
                    go_wp2_with fail
                    go_roundg k
                    case measure => omega
                    case rel => exact ⟨k, X, Y, rfl, by have := HN.out; omega, rfl, rfl, by rw [EB2.out], ⟨by rw [EB.out]; have := HN.out; omega, by rw [EB.out]; have := HN.out; omega⟩, by have h9 := HX.out; rw [ES.out] at h9; first | rwa [if_pos rfl] at h9 | rwa [if_neg (by decide)] at h9, by have h9 := HY.out; rw [EC.out] at h9; first | rwa [if_pos rfl] at h9 | rwa [if_neg (by decide)] at h9, P7.out, Q7.out, B7.out⟩
                  | false =>
                    go_wp2_with fail
                    go_roundg k
                    case measure => omega
                    case rel => exact ⟨k, X, yy, rfl, by have := HN.out; omega, rfl, rfl, by rw [EB2.out], ⟨by rw [EB.out]; have := HN.out; omega, by rw [EB.out]; have := HN.out; omega⟩, by have h9 := HX.out; rw [ES.out] at h9; first | rwa [if_pos rfl] at h9 | rwa [if_neg (by decide)] at h9, by have h9 := HY.out; rw [EC.out] at h9; first | rwa [if_pos rfl] at h9 | rwa [if_neg (by decide)] at h9, P7.out, Q7.out, B7.out⟩
                | false =>
                  go_wp2_with fail
                  refine (rdig_any Y _ HN.out.2.1).mono ?_
                  rintro e w4 ⟨d4, rfl, hd4, r4, k4⟩
                  have R4 := hide r4
                  have B4 := hide (B3.out.trans (k4.mono B3.out.size))
                  have P4 := hide (P3.out.keep k4)
                  have Q4 := hide (Q3.out.keep k4)
                  clear k4 B3 P3 Q3 r4 hd4
                  go_wp2_with fail
                  refine (rsq_any Y R4.out).mono ?_
                  rintro e w5 ⟨d5, rfl, hd5, r5, k5⟩
                  have R5 := hide r5
                  have B5 := hide (B4.out.trans (k5.mono B4.out.size))
                  have P5 := hide (P4.out.keep k5)
                  have Q5 := hide (Q4.out.keep k5)
                  have R4b := hide (R4.out.below k5 R4.out.lt)
                  clear k5 B4 P4 Q4 R4 r5 hd5
                  go_wp2_with fail
                  refine (rcb_any Y R5.out R4b.out).mono ?_
                  rintro e w6 ⟨d6, rfl, hd6, r6, k6⟩
                  have R6 := hide r6
                  have B6 := hide (B5.out.trans (k6.mono B5.out.size))
                  have P6 := hide (P5.out.keep k6)
                  have Q6 := hide (Q5.out.keep k6)
                  clear k6 B5 P5 Q5 R5 R4b r6 hd6
                  go_wp2_with fail
                  refine (rwcb_any Y p (by omega) R6.out).mono ?_
                  rintro e w7 ⟨rfl, k7⟩
                  have B7 := hide (B6.out.trans (k7.mono B6.out.size))
                  have P7 := hide (P6.out.keep k7)
                  have Q7 := hide (Q6.out.keep k7)
                  clear k7 B6 P6 Q6 R6
                  rw [EC.out]
                  cases bc1 with
                  | true =>
                    go_wp2_with fail
                    go_roundg k
                    case measure => omega
                    case rel => exact ⟨k, xx, Y, rfl, by have := HN.out; omega, rfl, rfl, by rw [EB2.out], ⟨by rw [EB.out]; have := HN.out; omega, by rw [EB.out]; have := HN.out; omega⟩, by have h9 := HX.out; rw [ES.out] at h9; first | rwa [if_pos rfl] at h9 | rwa [if_neg (by decide)] at h9, by have h9 := HY.out; rw [EC.out] at h9; first | rwa [if_pos rfl] at h9 | rwa [if_neg (by decide)] at h9, P7.out, Q7.out, B7.out⟩
                  | false =>
                    go_wp2_with fail
                    go_roundg k
                    case measure => omega
                    case rel => exact ⟨k, xx, yy, rfl, by have := HN.out; omega, rfl, rfl, by rw [EB2.out], ⟨by rw [EB.out]; have := HN.out; omega, by rw [EB.out]; have := HN.out; omega⟩, by have h9 := HX.out; rw [ES.out] at h9; first | rwa [if_pos rfl] at h9 | rwa [if_neg (by decide)] at h9, by have h9 := HY.out; rw [EC.out] at h9; first | rwa [if_pos rfl] at h9 | rwa [if_neg (by decide)] at h9, P7.out, Q7.out, B7.out⟩
        · have HNO := hide hno
          clear hno ed edd hdd0
          by_cases hle : dd ≤ p
          · have hleI : (dd : Int) ≤ (p : Int) := by omega
            clear hle
            go_wp2_with fail
            go_roundg g3
            case measure => omega
            case rel => exact ⟨p + 1, c, by omega, by omega, by rw [pr_no hp HNO.out]; exact HC.out, by go_num, DJ.out, O1.out, O2.out, HB.out⟩
          · have hleI : ¬ ((dd : Int) ≤ (p : Int)) := by omega
            clear hle
            go_wp2_with fail
            go_roundg g3
            case measure => omega
            case rel => exact ⟨p + 1, c, by omega, by omega, by rw [pr_no hp HNO.out]; exact HC.out, by go_num, DJ.out, O1.out, O2.out, HB.out⟩
    · obtain rfl : c = 64 := by omega
      go_wp2_with fail
      go_ret2
      exact ⟨_, _, rfl, O1.out, O2.out, HB.out⟩
end Go.Proofs.Ytdcmjmmfclhfbaa
