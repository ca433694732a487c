/- The document's Sums, of one text, walked. For at most 100000 bytes: the call returns a row of one digest, and leaves what was there. -/
import Derived.Test.YtdcmjmmfclhfbaaQSum
import Derived.Test.YtdcmjmmfclhfbaaQSteps
import Derived.Test.YtdcmjmmfclhfbaaQWs
import Derived.Test.YtdcmjmmfclhfbaaQRootsW
import Derived.Test.YtdcmjmmfclhfbaaSSum
import Derived.Test.YtdcmjmmfclhfbaaOrdR
import Derived.LoopN
namespace Go.Proofs.Ytdcmjmmfclhfbaa
open Go.RowKit Bk
set_option linter.unusedVariables false
set_option linter.unusedSimpArgs false

theorem infoSt : (Try.prog.info? 9).map (fun i => (i.zero, i.size, i.bytes)) = some (some (.string ⟨#[]⟩), 1, 16) := by kernel_rfl

set_option maxRecDepth 100000 in
set_option maxHeartbeats 16000000 in
theorem rsums_any (s : ByteArray) {w : World} {gl c0 : Nat} (hR : Row w gl 0 [.string s]) (hs : s.size ≤ 100000) :
    Calls Try.prog 28 #[.slice (some ⟨gl, 0, none⟩) 1 c0] w fun e w' => ∃ g c, e = .returned (.slice (some ⟨g, 0, none⟩) 1 c) ∧ Row w' g 0 [.string (sdg (sb s))] ∧ Below w.heap.size w w' := by
  obtain ⟨n, en⟩ : ∃ n, s.size = n := ⟨_, rfl⟩
  have ln : (sb s).length = n := by rw [sb_length, en]
  obtain ⟨L, eL⟩ : ∃ L, sb s = L := ⟨_, rfl⟩
  obtain ⟨D, eD⟩ : ∃ D, sdg L = D := ⟨_, rfl⟩
  have hsI : (s.size : Int) = (n : Int) := by omega
  rw [eL] at ln
  rw [en] at hs
  rw [eL, eD]
  have HR := hide hR
  have HEN := hide en
  have HEL := hide eL
  have HED := hide eD
  have HLN := hide ln
  clear hR en eL eD ln
  go_enter Try.func28, Try.ntmps28
  go_wp2_with fail
  refine (rroots_any _).mono ?_
  rintro e w1 ⟨v3, v4, rfl, hO3, hO4, hB1⟩
  obtain ⟨g3, c3, rfl, hg3, hc3, hR3⟩ := hO3.row (by decide)
  obtain ⟨g4, c4, rfl, hg4, hc4, hR4⟩ := hO4.row (by decide)
  rw [rq_cb] at hR4
  have HR3 := hide hR3
  have HR4 := hide hR4
  have HB1 := hide hB1
  have HRl := hide (HR.out.below hB1 HR.out.lt)
  have hc3I : (8 : Int) ≤ (c3 : Int) := by omega
  clear hO3 hO4 hB1 hR3 hR4 HR hg3 hg4 hc3 hc4
  go_wp2_with fail
  refine wp_loop_rounds 2 (rounds_k fun K0 hK0 => ?_)
  obtain ⟨wa, ewa⟩ : ∃ v, v = w1 := ⟨_, rfl⟩
  subst ewa
  have hcl := HRl.out.cell 0 _ rfl
  have HB := HB1
  clear HB1
  obtain ⟨v38, w38, hcv, hO8, hB8⟩ := run_bytesO (P := Try.prog) wa 9 29 5 s Try.underlying9 Try.underlying29 Try.underlying5
  rw [HEN.out, HEL.out] at hO8
  have HO8 := hide hO8
  have HB8 := hide hB8
  clear hO8 hB8
  go_wp2_with (refine appendY (z := 128) (zi := 128) rfl (.tmp 38) (.tmp 39) rfl rfl rfl rfl HO8.out (by omega) HB8.out.size ?_
               intro v7 w7 hO7 hB7
               have HO7 := hide hO7
               have HB7 := hide (HB8.out.trans hB7)
               clear hO7 hB7 HO8 HB8)
  obtain ⟨m, em⟩ : ∃ m, 63 - (n + 8) % 64 = m := ⟨_, rfl⟩
  have HM := hide em
  clear hcv em
  go_loopg [7] m (fun g v wr => ∃ j : Nat, j + g = m ∧ Ow wr wa.heap.size v (n + 1 + j) (bs ((L ++ [128]) ++ List.replicate j 0)) ∧ Below wa.heap.size wa wr)
  case atStart => exact ⟨0, by omega, by simpa using HO7.out, HB7.out⟩
  case round =>
    clear HO7 HB7
    obtain ⟨j, hj, hO, hBa⟩ := hrel
    obtain ⟨a7, c7, rfl, hc7⟩ := hO.shape
    have HO := hide hO
    have HBa := hide hBa
    clear hO hBa
    obtain ⟨N, eN⟩ : ∃ N, n + 1 + j = N := ⟨_, rfl⟩
    rw [eN] at HO hc7 ⊢
    have hr1 : (N : Int) % 64 = ((N % 64 : Nat) : Int) := by omega
    have hr2 : (N : Int).tmod 64 = ((N % 64 : Nat) : Int) := by rw [Int.tmod_eq_emod_of_nonneg (by omega)]; omega
    obtain ⟨r, er⟩ : ∃ r, N % 64 = r := ⟨_, rfl⟩
    rw [er] at hr1 hr2
    have hm := HM.out
    by_cases hcond : j < m
    · obtain ⟨g3', rfl⟩ : ∃ g3', gk = g3' + 1 := ⟨gk - 1, by omega⟩
      have hrb : ((r : Int) != 56) = true := bne_iff_ne.2 (by omega)
      have HJ := hide (show j + 1 + g3' = m ∧ n + 1 + (j + 1) = N + 1 ∧ N + 1 ≤ 1000000 by omega)
      clear hj eN er hcond hm
      go_wp2_with (refine appendY (z := 0) (zi := 0) rfl (.tmp 45) (.tmp 46) rfl rfl rfl rfl HO.out HJ.out.2.2 HBa.out.size ?_
                   intro v9 w9 hO9 hB9
                   have HO9 := hide hO9
                   have HB9 := hide (HBa.out.trans hB9)
                   clear hO9 hB9)
      go_roundg g3'
      case measure => omega
      case rel => exact ⟨j + 1, HJ.out.1, by rw [HJ.out.2.1, List.replicate_succ', ← List.append_assoc]; exact HO9.out, HB9.out⟩
    · obtain rfl : j = m := by omega
      have hrb : ((r : Int) != 56) = false := by
        have : (r : Int) = 56 := by omega
        rw [this]; rfl
      have hx1 : IntKind.u64.wrap ((n : Int) * 8) = ((n * 8 : Nat) : Int) := by rw [IntWalk.u64_in _ (by omega)]; omega
      have hx2 : (n : Int) * 8 % 18446744073709551616 = ((n * 8 : Nat) : Int) := by omega
      have hx3 : IntKind.u64.wrap (n : Int) = (n : Int) := IntWalk.u64_in _ (by omega)
      obtain ⟨N8, eN8⟩ : ∃ z, n * 8 = z := ⟨_, rfl⟩
      rw [eN8] at hx1 hx2
      have HN8 := hide eN8
      have HLI := hide (show N + 8 ≤ 1000000 ∧ 64 * ((N + 8) / 64) = N + 8 ∧ n + 1 + j = N by omega)
      have hcl2 := (HRl.out.below HBa.out HRl.out.lt).cell 0 _ rfl
      clear hj er hcond hm eN8 eN
      go_wp2_with fail
      clear hcl hcl2
      go_loopg [7, 9] 8 (fun g v q wr => ∃ k : Nat, k + g = 8 ∧ q = .int .i64 (7 - (k : Int)) ∧ Ow wr wa.heap.size v (N + k) (bs (((L ++ [128]) ++ List.replicate j 0) ++ (se8 n).take k)) ∧ Below wa.heap.size wa wr)
      case atStart => exact ⟨0, rfl, rfl, by simpa using HO.out, HBa.out⟩
      case round =>
        clear HO HBa
        obtain ⟨k, hkg, rfl, hO, hBa⟩ := hrel
        obtain ⟨a7, c7, rfl, hc7⟩ := hO.shape
        have HO := hide hO
        have HBa := hide hBa
        clear hO hBa
        by_cases hlt : k < 8
        · obtain ⟨g3', rfl⟩ : ∃ g3', gk = g3' + 1 := ⟨gk - 1, by omega⟩
          have hk8 : k = 0 ∨ k = 1 ∨ k = 2 ∨ k = 3 ∨ k = 4 ∨ k = 5 ∨ k = 6 ∨ k = 7 := by omega
          have HG := hide hkg
          clear hlt hkg
          rcases hk8 with rfl | rfl | rfl | rfl | rfl | rfl | rfl | rfl
          · have e0 : (7 : Int) - ((0 : Nat) : Int) = 7 := rfl
            rw [e0]
            obtain ⟨d, ed⟩ : ∃ d, N8 / 72057594037927936 = d := ⟨_, rfl⟩
            have hd : (N8 : Int) / 72057594037927936 = (d : Int) := by omega
            have h1 : IntKind.u8.wrap (d : Int) = ((d % 256 : Nat) : Int) := by rw [IntKind.wrap_u8]; omega
            have h2 : (d : Int) % 256 = ((d % 256 : Nat) : Int) := by omega
            obtain ⟨y, ey⟩ : ∃ y, d % 256 = y := ⟨_, rfl⟩
            rw [ey] at h1 h2
            have hz : ((y : Nat) : Int) = (((UInt8.ofNat y).toNat : Nat) : Int) := by rw [sbyte_nat y (by omega)]
            have hse : (se8 n).take (0 + 1) = (se8 n).take 0 ++ [UInt8.ofNat y] := by
              rw [← ey, ← ed, ← HN8.out]
              rfl
            have HSE := hide hse
            have HZ := hide hz
            
            clear hse hz ed ey
            go_wp2_with (refine appendY (z := UInt8.ofNat y) (zi := (y : Int)) rfl (.tmp 59) (.tmp 66) rfl HZ.out rfl rfl HO.out (by have := HLI.out.1; omega) HBa.out.size ?_
                         intro v9 w9 hO9 hB9
                         have HO9 := hide hO9
                         have HB9 := hide (HBa.out.trans hB9)
                         clear hO9 hB9)
            go_roundg g3'
            case measure => omega
            case rel => exact ⟨0 + 1, by have := HG.out; omega, rfl, by rw [HSE.out, ← List.append_assoc]; exact HO9.out, HB9.out⟩
          · have e0 : (7 : Int) - ((1 : Nat) : Int) = 6 := rfl
            rw [e0]
            obtain ⟨d, ed⟩ : ∃ d, N8 / 281474976710656 = d := ⟨_, rfl⟩
            have hd : (N8 : Int) / 281474976710656 = (d : Int) := by omega
            have h1 : IntKind.u8.wrap (d : Int) = ((d % 256 : Nat) : Int) := by rw [IntKind.wrap_u8]; omega
            have h2 : (d : Int) % 256 = ((d % 256 : Nat) : Int) := by omega
            obtain ⟨y, ey⟩ : ∃ y, d % 256 = y := ⟨_, rfl⟩
            rw [ey] at h1 h2
            have hz : ((y : Nat) : Int) = (((UInt8.ofNat y).toNat : Nat) : Int) := by rw [sbyte_nat y (by omega)]
            have hse : (se8 n).take (1 + 1) = (se8 n).take 1 ++ [UInt8.ofNat y] := by
              rw [← ey, ← ed, ← HN8.out]
              rfl
            have HSE := hide hse
            have HZ := hide hz
            
            clear hse hz ed ey
            go_wp2_with (refine appendY (z := UInt8.ofNat y) (zi := (y : Int)) rfl (.tmp 59) (.tmp 66) rfl HZ.out rfl rfl HO.out (by have := HLI.out.1; omega) HBa.out.size ?_
                         intro v9 w9 hO9 hB9
                         have HO9 := hide hO9
                         have HB9 := hide (HBa.out.trans hB9)
                         clear hO9 hB9)
            go_roundg g3'
            case measure => omega
            case rel => exact ⟨1 + 1, by have := HG.out; omega, rfl, by rw [HSE.out, ← List.append_assoc]; exact HO9.out, HB9.out⟩
          · have e0 : (7 : Int) - ((2 : Nat) : Int) = 5 := rfl
            rw [e0]
            obtain ⟨d, ed⟩ : ∃ d, N8 / 1099511627776 = d := ⟨_, rfl⟩
            have hd : (N8 : Int) / 1099511627776 = (d : Int) := by omega
            have h1 : IntKind.u8.wrap (d : Int) = ((d % 256 : Nat) : Int) := by rw [IntKind.wrap_u8]; omega
            have h2 : (d : Int) % 256 = ((d % 256 : Nat) : Int) := by omega
            obtain ⟨y, ey⟩ : ∃ y, d % 256 = y := ⟨_, rfl⟩
            rw [ey] at h1 h2
            have hz : ((y : Nat) : Int) = (((UInt8.ofNat y).toNat : Nat) : Int) := by rw [sbyte_nat y (by omega)]
            have hse : (se8 n).take (2 + 1) = (se8 n).take 2 ++ [UInt8.ofNat y] := by
              rw [← ey, ← ed, ← HN8.out]
              rfl
            have HSE := hide hse
            have HZ := hide hz
            
            clear hse hz ed ey
            go_wp2_with (refine appendY (z := UInt8.ofNat y) (zi := (y : Int)) rfl (.tmp 59) (.tmp 66) rfl HZ.out rfl rfl HO.out (by have := HLI.out.1; omega) HBa.out.size ?_
                         intro v9 w9 hO9 hB9
                         have HO9 := hide hO9
                         have HB9 := hide (HBa.out.trans hB9)
                         clear hO9 hB9)
            go_roundg g3'
            case measure => omega
            case rel => exact ⟨2 + 1, by have := HG.out; omega, rfl, by rw [HSE.out, ← List.append_assoc]; exact HO9.out, HB9.out⟩
          · have e0 : (7 : Int) - ((3 : Nat) : Int) = 4 := rfl
            rw [e0]
            obtain ⟨d, ed⟩ : ∃ d, N8 / 4294967296 = d := ⟨_, rfl⟩
            have hd : (N8 : Int) / 4294967296 = (d : Int) := by omega
            have h1 : IntKind.u8.wrap (d : Int) = ((d % 256 : Nat) : Int) := by rw [IntKind.wrap_u8]; omega
            have h2 : (d : Int) % 256 = ((d % 256 : Nat) : Int) := by omega
            obtain ⟨y, ey⟩ : ∃ y, d % 256 = y := ⟨_, rfl⟩
            rw [ey] at h1 h2
            have hz : ((y : Nat) : Int) = (((UInt8.ofNat y).toNat : Nat) : Int) := by rw [sbyte_nat y (by omega)]
            have hse : (se8 n).take (3 + 1) = (se8 n).take 3 ++ [UInt8.ofNat y] := by
              rw [← ey, ← ed, ← HN8.out]
              rfl
            have HSE := hide hse
            have HZ := hide hz
            
            clear hse hz ed ey
            go_wp2_with (refine appendY (z := UInt8.ofNat y) (zi := (y : Int)) rfl (.tmp 59) (.tmp 66) rfl HZ.out rfl rfl HO.out (by have := HLI.out.1; omega) HBa.out.size ?_
                         intro v9 w9 hO9 hB9
                         have HO9 := hide hO9
                         have HB9 := hide (HBa.out.trans hB9)
                         clear hO9 hB9)
            go_roundg g3'
            case measure => omega
            case rel => exact ⟨3 + 1, by have := HG.out; omega, rfl, by rw [HSE.out, ← List.append_assoc]; exact HO9.out, HB9.out⟩
          · have e0 : (7 : Int) - ((4 : Nat) : Int) = 3 := rfl
            rw [e0]
            obtain ⟨d, ed⟩ : ∃ d, N8 / 16777216 = d := ⟨_, rfl⟩
            have hd : (N8 : Int) / 16777216 = (d : Int) := by omega
            have h1 : IntKind.u8.wrap (d : Int) = ((d % 256 : Nat) : Int) := by rw [IntKind.wrap_u8]; omega
            have h2 : (d : Int) % 256 = ((d % 256 : Nat) : Int) := by omega
            obtain ⟨y, ey⟩ : ∃ y, d % 256 = y := ⟨_, rfl⟩
            rw [ey] at h1 h2
            have hz : ((y : Nat) : Int) = (((UInt8.ofNat y).toNat : Nat) : Int) := by rw [sbyte_nat y (by omega)]
            have hse : (se8 n).take (4 + 1) = (se8 n).take 4 ++ [UInt8.ofNat y] := by
              rw [← ey, ← ed, ← HN8.out]
              rfl
            have HSE := hide hse
            have HZ := hide hz
            
            clear hse hz ed ey
            go_wp2_with (refine appendY (z := UInt8.ofNat y) (zi := (y : Int)) rfl (.tmp 59) (.tmp 66) rfl HZ.out rfl rfl HO.out (by have := HLI.out.1; omega) HBa.out.size ?_
                         intro v9 w9 hO9 hB9
                         have HO9 := hide hO9
                         have HB9 := hide (HBa.out.trans hB9)
                         clear hO9 hB9)
            go_roundg g3'
            case measure => omega
            case rel => exact ⟨4 + 1, by have := HG.out; omega, rfl, by rw [HSE.out, ← List.append_assoc]; exact HO9.out, HB9.out⟩
          · have e0 : (7 : Int) - ((5 : Nat) : Int) = 2 := rfl
            rw [e0]
            obtain ⟨d, ed⟩ : ∃ d, N8 / 65536 = d := ⟨_, rfl⟩
            have hd : (N8 : Int) / 65536 = (d : Int) := by omega
            have h1 : IntKind.u8.wrap (d : Int) = ((d % 256 : Nat) : Int) := by rw [IntKind.wrap_u8]; omega
            have h2 : (d : Int) % 256 = ((d % 256 : Nat) : Int) := by omega
            obtain ⟨y, ey⟩ : ∃ y, d % 256 = y := ⟨_, rfl⟩
            rw [ey] at h1 h2
            have hz : ((y : Nat) : Int) = (((UInt8.ofNat y).toNat : Nat) : Int) := by rw [sbyte_nat y (by omega)]
            have hse : (se8 n).take (5 + 1) = (se8 n).take 5 ++ [UInt8.ofNat y] := by
              rw [← ey, ← ed, ← HN8.out]
              rfl
            have HSE := hide hse
            have HZ := hide hz
            
            clear hse hz ed ey
            go_wp2_with (refine appendY (z := UInt8.ofNat y) (zi := (y : Int)) rfl (.tmp 59) (.tmp 66) rfl HZ.out rfl rfl HO.out (by have := HLI.out.1; omega) HBa.out.size ?_
                         intro v9 w9 hO9 hB9
                         have HO9 := hide hO9
                         have HB9 := hide (HBa.out.trans hB9)
                         clear hO9 hB9)
            go_roundg g3'
            case measure => omega
            case rel => exact ⟨5 + 1, by have := HG.out; omega, rfl, by rw [HSE.out, ← List.append_assoc]; exact HO9.out, HB9.out⟩
          · have e0 : (7 : Int) - ((6 : Nat) : Int) = 1 := rfl
            rw [e0]
            obtain ⟨d, ed⟩ : ∃ d, N8 / 256 = d := ⟨_, rfl⟩
            have hd : (N8 : Int) / 256 = (d : Int) := by omega
            have h1 : IntKind.u8.wrap (d : Int) = ((d % 256 : Nat) : Int) := by rw [IntKind.wrap_u8]; omega
            have h2 : (d : Int) % 256 = ((d % 256 : Nat) : Int) := by omega
            obtain ⟨y, ey⟩ : ∃ y, d % 256 = y := ⟨_, rfl⟩
            rw [ey] at h1 h2
            have hz : ((y : Nat) : Int) = (((UInt8.ofNat y).toNat : Nat) : Int) := by rw [sbyte_nat y (by omega)]
            have hse : (se8 n).take (6 + 1) = (se8 n).take 6 ++ [UInt8.ofNat y] := by
              rw [← ey, ← ed, ← HN8.out]
              rfl
            have HSE := hide hse
            have HZ := hide hz
            
            clear hse hz ed ey
            go_wp2_with (refine appendY (z := UInt8.ofNat y) (zi := (y : Int)) rfl (.tmp 59) (.tmp 66) rfl HZ.out rfl rfl HO.out (by have := HLI.out.1; omega) HBa.out.size ?_
                         intro v9 w9 hO9 hB9
                         have HO9 := hide hO9
                         have HB9 := hide (HBa.out.trans hB9)
                         clear hO9 hB9)
            go_roundg g3'
            case measure => omega
            case rel => exact ⟨6 + 1, by have := HG.out; omega, rfl, by rw [HSE.out, ← List.append_assoc]; exact HO9.out, HB9.out⟩
          · have e0 : (7 : Int) - ((7 : Nat) : Int) = 0 := rfl
            rw [e0]
            obtain ⟨d, ed⟩ : ∃ d, N8 / 1 = d := ⟨_, rfl⟩
            have hd : (N8 : Int) / 1 = (d : Int) := by omega
            have h1 : IntKind.u8.wrap (d : Int) = ((d % 256 : Nat) : Int) := by rw [IntKind.wrap_u8]; omega
            have h2 : (d : Int) % 256 = ((d % 256 : Nat) : Int) := by omega
            obtain ⟨y, ey⟩ : ∃ y, d % 256 = y := ⟨_, rfl⟩
            rw [ey] at h1 h2
            have hz : ((y : Nat) : Int) = (((UInt8.ofNat y).toNat : Nat) : Int) := by rw [sbyte_nat y (by omega)]
            have hse : (se8 n).take (7 + 1) = (se8 n).take 7 ++ [UInt8.ofNat y] := by
              rw [← ey, ← ed, ← HN8.out]
              rw [Nat.div_one]; rfl
            have HSE := hide hse
            have HZ := hide hz
            obtain rfl : N8 = d := by omega
            clear hse hz ed ey
            go_wp2_with (refine appendY (z := UInt8.ofNat y) (zi := (y : Int)) rfl (.tmp 59) (.tmp 66) rfl HZ.out rfl rfl HO.out (by have := HLI.out.1; omega) HBa.out.size ?_
                         intro v9 w9 hO9 hB9
                         have HO9 := hide hO9
                         have HB9 := hide (HBa.out.trans hB9)
                         clear hO9 hB9)
            go_roundg g3'
            case measure => omega
            case rel => exact ⟨7 + 1, by have := HG.out; omega, rfl, by rw [HSE.out, ← List.append_assoc]; exact HO9.out, HB9.out⟩
        · obtain rfl : k = 8 := by omega
          have e8 : (se8 n).take 8 = se8 n := List.take_of_length_le (by simp [se8])
          have hP : ((L ++ [128]) ++ List.replicate j 0) ++ (se8 n).take 8 = qfl L := by rw [e8, qfl_eq L j (by rw [HLN.out]; exact HM.out), HLN.out]
          rw [hP] at HO
          obtain ⟨T, eT⟩ : ∃ T, (N + 8) / 64 = T := ⟨_, rfl⟩
          obtain ⟨P, eP⟩ : ∃ P, qfl L = P := ⟨_, rfl⟩
          have lP : P.length = N + 8 := by rw [← eP, qfl_length L j (by rw [HLN.out]; exact HM.out), HLN.out]; have := HLI.out.2.2; omega
          rw [eP] at HO
          obtain ⟨NN, eNN⟩ : ∃ NN, N + 8 = NN := ⟨_, rfl⟩
          rw [eNN] at HO lP hc7 ⊢
          obtain ⟨ga, c7', hv7, hga, hc7', hRa⟩ := HO.out.row (by omega)
          obtain ⟨rfl, rfl⟩ : a7 = some ⟨ga, 0, none⟩ ∧ c7 = c7' := by simpa using hv7
          have hNN : (NN : Int) ≤ 1000000 := by have := HLI.out.1; omega
          have HT := hide (show 64 * T = NN ∧ P.length = NN ∧ ssum L = sdig (sst skc siv P T) 8 from ⟨by have := HLI.out.2.1; omega, lP, by rw [ssum_qfl, eP, lP, ← eNN, eT]⟩)
          have HRa := hide hRa
          have e0 : (7 : Int) - ((8 : Nat) : Int) = -1 := rfl
          rw [e0]
          clear hv7 hRa HO lP eP eT eNN hP e8 hlt hkg hc7' hx1 hx2 hx3 hrb hr1 hr2
          go_wp2_with (refine wpList_appendO rfl (.tmp 68) (.tmp 70) 76 76 rfl 51 Try.underlying76 info32' (by decide) rfl (B := wr.heap.size) (n := 0) (m := 8) (xs := []) (news := us siv) rfl rfl (Ow.made wr wr.heap.size (Nat.le_refl _) [] 51) ?_ (by decide) (by simp) (fun u hu => by cases hu) ?_
                       · have h9 : Row wr g3 0 (us (rq sqW 64)) := HR3.out.below HBa.out HR3.out.lt
                         rw [← List.take_append_drop 8 (rq sqW 64), rq_sq, us_app'] at h9
                         exact (h9.left.alloc _).src rfl Try.underlying76 (fun u hu => us_one' hu)
                       intro v10 w10 hO10 hB10
                       obtain ⟨gs, cs, rfl, hgs, hcs, hRs⟩ := hO10.row (by decide)
                       rw [List.nil_append] at hRs
                       have hBs := ((Below.refl wr.heap.size wr).alloc (Nat.le_refl _) (.cells #[] 51)).trans hB10
                       have HRs := hide hRs
                       have HR4s := hide ((HR4.out.below HBa.out HR4.out.lt).below hBs (Nat.lt_of_lt_of_le HR4.out.lt HBa.out.size))
                       have HRas := hide (HRa.out.below hBs HRa.out.lt)
                       have HBs := hide (HBa.out.trans (hBs.mono HBa.out.size))
                       have HGS := hide (show ga < gs ∧ wa.heap.size ≤ ga ∧ g4 < wa.heap.size from ⟨Nat.lt_of_lt_of_le HRa.out.lt hgs, hga, HR4.out.lt⟩)
                       have hcsI : (8 : Int) ≤ (cs : Int) := by omega
                       clear hO10 hB10 hRs hBs hgs hcs)
          clear HRa HRl HR3
          go_loopg [11, 12, 13, 14, 15, 16, 17, 18, 19, 20, 21] T (fun g f _ _ _ _ _ _ _ _ _ _ wr => ∃ q : Nat, q + g = T ∧ f = .int .i64 ((64 * q : Nat) : Int) ∧ Row wr gs 0 (us (sst skc siv P q)) ∧ Row wr ga 0 (bs P) ∧ Row wr g4 0 (us skc) ∧ Below wa.heap.size wa wr)
          case atStart => exact ⟨0, by omega, rfl, HRs.out, HRas.out, HR4s.out, HBs.out⟩
          case round =>
            clear HRs HRas HR4s HBs
            obtain ⟨q, hqg, rfl, hRs, hRa, hR4, hBa⟩ := hrel
            have HRs := hide hRs
            have HRa := hide hRa
            have HR4' := hide hR4
            have HBq := hide hBa
            clear hRs hRa hR4 hBa
            obtain ⟨f, ef⟩ : ∃ f, 64 * q = f := ⟨_, rfl⟩
            rw [ef]
            obtain ⟨H, eH⟩ : ∃ H, sst skc siv P q = H := ⟨_, rfl⟩
            rw [eH] at HRs
            have nH : H.length = 8 := by rw [← eH]; exact sst_length siv_length _ _ _
            have lH : Lt H := by rw [← eH]; exact sst_lt siv_length siv_lt _ _ _
            have HLH := hide lH
            by_cases hlt : q < T
            · obtain ⟨g3', rfl⟩ : ∃ g3', gk = g3' + 1 := ⟨gk - 1, by omega⟩
              have hfN : (f : Int) < (NN : Int) := by have := HT.out.1; omega
              have HF := hide (show f + 64 ≤ NN ∧ q + 1 + g3' = T ∧ 64 * (q + 1) = f + 64 ∧ sst skc siv P (q + 1) = scmp skc H (bnums (P.drop f)) from ⟨by have := HT.out.1; omega, by omega, by omega, by rw [← eH, ← ef]; rfl⟩)
              obtain ⟨M, eM⟩ : ∃ M, bnums (P.drop f) = M := ⟨_, rfl⟩
              have nM : M.length = 16 := by rw [← eM]; exact bnums_length _
              have lM : Lt M := by rw [← eM]; exact bnums_lt _
              obtain ⟨W, eW⟩ : ∃ W, swl M 48 = W := ⟨_, rfl⟩
              have nW : W.length = 64 := by rw [← eW]; exact swl_length nM 48
              have HLW := hide (show Lt W by rw [← eW]; exact swl_lt nM lM 48)
              have HWlow := hide (show ∀ i, i < 16 → at' W i = bnum (P.drop f) i from fun i hi => by rw [← eW, swl_low nM 48 i hi, ← eM]; exact tab_at _ _ _ hi)
              have HWat := hide (show ∀ i, 16 ≤ i → i < 64 → at' W i = swn W i from fun i h1 h2 => by
                obtain ⟨j, rfl⟩ : ∃ j, i = 16 + j := ⟨i - 16, by omega⟩
                rw [← eW]; exact swl_at nM 48 j (by omega))
              have HFW := hide (show scmp skc H (bnums (P.drop f)) = dupto H (srd skc W H 64) 8 by rw [eM, ← eW, dupto_all nH])
              obtain ⟨wq, ewq⟩ : ∃ v, v = wr := ⟨_, rfl⟩
              subst ewq
              clear lH eH ef hqg hlt eM nM lM eW
              go_wp2_with fail
              refine qws nW HLW.out HWlow.out HWat.out HRa.out HT.out.2.1 HF.out.1 (by omega) (fun _ _ _ _ h => h) ?_
              intro u12 u13 u14 u15 u16 u78 u79 u80 u81 u82 u83 u84 u85 u86 u87 u88 u89 u90 u91 u92 u93 u94 u95 u96 u97 u98 u99 u100 u101 u102 u103 u104 u105 u106 u107 u108 u109 u110 u111 u112 u113 u114 u115 u116 u117 u118 u119 u120 u121 u122 u123 u124 u125 u126 u127 u128 u129 u130 u131 u132 u133 u134 u135 u136 u137 u138 u139 u140 u141 u142 u143 u144 u145 u146 u147 u148 u149 u150 u151 u152 u153 u154 u155 u156 u157 u158 u159 u160 u161 u162 u163 u164 u165 u166 u167 u168 u169 u170 u171 u172 u173 u174 u175 u176 u177 wr hx9
              obtain ⟨gm, cm, rfl, hgm, hRm, hBl⟩ := hx9
              have HRm := hide hRm
              have HBL := hide hBl
              have HGM := hide (show wq.heap.size ≤ gm ∧ gs < wq.heap.size ∧ ga < wq.heap.size ∧ g4 < wq.heap.size from ⟨hgm, HRs.out.lt, HRa.out.lt, HR4'.out.lt⟩)
              obtain ⟨wm, ewm⟩ : ∃ v, v = wr := ⟨_, rfl⟩
              subst ewm
              clear hRm hBl hgm HWlow HWat
              go_wp2_with (refine wpList_appendO rfl (.tmp 178) (.tmp 179) 76 76 rfl 51 Try.underlying76 info32' (by decide) rfl (B := wm.heap.size) (n := 0) (m := 8) (xs := []) (news := us H) rfl rfl (Ow.made wm wm.heap.size (Nat.le_refl _) [] 51) (((HRs.out.here HBL.out (Nat.le_refl _)).alloc _).src (n := 8) (cap := cs) (by rw [us_length]; exact nH) Try.underlying76 (fun u hu => us_one' hu)) (by decide) (by simp) (fun u hu => by cases hu) ?_
                           intro v17 w17 hO17 hB17
                           obtain ⟨gc, cc, rfl, hgc, hcc, hRc⟩ := hO17.row (by decide)
                           rw [List.nil_append] at hRc
                           have hBc := ((Below.refl wm.heap.size wm).alloc (Nat.le_refl _) (.cells #[] 51)).trans hB17
                           have HRc := hide hRc
                           have HRm2 := hide (HRm.out.here hBc (Nat.le_refl _))
                           have HBc := hide (HBL.out.trans (hBc.mono HBL.out.size))
                           have HGC := hide (Nat.le_trans HBL.out.size hgc)
                           have hccI : (8 : Int) ≤ (cc : Int) := by omega
                           clear hO17 hB17 hRc hBc hgc hcc)
              obtain ⟨wc, ewc⟩ : ∃ v, v = w17 := ⟨_, rfl⟩
              subst ewc
              clear HRm HBL
              go_wp2_with fail
              refine qsteps (wq := wq) nH HLH.out nW (HR4'.out.here HBc.out (Nat.le_refl _)) HRm2.out HRc.out (by omega) HGC.out ?_
              intro u17 u18 u19 u20 u181 u182 u183 u184 u185 u186 u187 u188 u189 u190 u191 u192 u193 u194 u195 u196 u197 u198 u199 u200 u201 u202 u203 u204 u205 u206 u207 u208 u209 u210 u211 u212 u213 u214 u215 u216 u217 u218 u219 u220 u221 u222 u223 u224 u225 u226 u227 u228 u229 u230 u231 u232 u233 u234 u235 u236 u237 u238 u239 u240 u241 u242 u243 u244 u245 u246 u247 u248 u249 u250 u251 u252 u253 u254 u255 u256 u257 u258 u259 u260 u261 u262 u263 u264 u265 u266 u267 u268 u269 u270 u271 u272 u273 u274 u275 u276 u277 u278 u279 u280 u281 u282 u283 u284 u285 u286 u287 u288 u289 u290 u291 u292 u293 u294 wr hx9
              obtain ⟨gv, cv, rfl, hcv, hRv, hgv, hBl⟩ := hx9
              have HRv := hide hRv
              have HBv := hide hBl
              have HGV := hide hgv
              have hcvI : (8 : Int) ≤ (cv : Int) := by omega
              clear hRv hBl hgv HRc
              have hD := HFW.out
              have lRR : Lt (srd skc W H 64) := srd_lt HLH.out _ _ _
              obtain ⟨R, eR⟩ : ∃ R, srd skc W H 64 = R := ⟨_, rfl⟩
              have nR : R.length = 8 := by rw [← eR]; exact srd_length nH _ _ _
              have HRR : Hid (Row wr gv 0 (us R)) := by rw [← eR]; exact HRv.out
              rw [eR] at hD lRR
              have HD := hide hD
              have HLR := hide lRR
              obtain ⟨wd, ewd⟩ : ∃ v, v = wr := ⟨_, rfl⟩
              subst ewd
              have kB := HBc.out.trans (HBv.out.mono HBc.out.size)
              have HRs2 := hide (HRs.out.here kB (Nat.le_refl _))
              have HRa2 := hide (HRa.out.here kB (Nat.le_refl _))
              have HR42 := hide (HR4'.out.here kB (Nat.le_refl _))
              have HBd := hide (HBq.out.trans (kB.mono HBq.out.size))
              clear eR hD lRR kB HRv HBv HRm2
              go_wp2_with fail
              go_loopg [21] 8 (fun g tt wr => ∃ i : Nat, i + g = 8 ∧ tt = .int .i64 i ∧ Row wr gs 0 (us (dupto H R i)) ∧ Bt gs wd wr)
              case atStart => exact ⟨0, rfl, rfl, by rw [dupto_zero H R nH]; exact HRs2.out, Bt.refl _ _⟩
              case round =>
                as_aux_lemma =>
                clear HRs2
                obtain ⟨i, hig, rfl, hRU, hBt⟩ := hrel
                by_cases hi8 : i < 8
                · obtain ⟨g9, rfl⟩ : ∃ g9, gk = g9 + 1 := ⟨gk - 1, by omega⟩
                  have hi8I : (i : Int) < 8 := by omega
                  have hch := hRU.u0 i (by rw [dupto_len]; exact hi8)
                  rw [dupto_at H R i hi8] at hch
                  have hc1 := (HRR.out.bt hBt (by have := HGV.out; have := HGM.out.2.1; omega)).u0 i (by rw [nR]; exact hi8)
                  have hfr := hRU.f0 i (by rw [us_length, dupto_len]; exact hi8)
                  have r1 := ad_wrap (at' H i) (at' R i)
                  have a2 := hRU.set0 (i := i) (by rw [us_length, dupto_len]; exact hi8) (.int .u32 ((ad (at' H i) (at' R i) : Nat) : Int))
                  rw [← us_set, ← dupto_succ H R i hi8] at a2
                  have b2 := hBt.setCell i (.int .u32 ((ad (at' H i) (at' R i) : Nat) : Int))
                  obtain ⟨y0, ey0⟩ : ∃ z, at' H i = z := ⟨_, rfl⟩
                  obtain ⟨y1, ey1⟩ : ∃ z, at' R i = z := ⟨_, rfl⟩
                  obtain ⟨y2, ey2⟩ : ∃ z, ad y0 y1 = z := ⟨_, rfl⟩
                  rw [ey0] at hch r1 a2 b2
                  rw [ey1] at hc1 r1 a2 b2
                  rw [ey2] at r1 a2 b2
                  have A2 := hide a2
                  have B2 := hide b2
                  have HI8 := hide (show i + 1 + g9 = 8 by omega)
                  clear hRU hBt a2 b2 ey0 ey1 ey2 hig hi8
                  go_wp2_with fail
                  refine wp_region_still_tail 12 (by kernel_rfl) (by kernel_rfl) ?_
                  simp only [List.take_succ_cons, List.take_zero, List.drop_succ_cons, List.drop_zero]
                  repeat still_step
                  refine wpStill_nil ?_
                  clear hc1 r1
                  go_wp2_with fail
                  go_roundg g9
                  case measure => omega
                  case rel => exact ⟨i + 1, HI8.out, by go_num, A2.out.drew, B2.out.drew⟩
                · obtain rfl : i = 8 := by omega
                  have z1 : Row wr gs 0 (us (sst skc siv P (q + 1))) := by rw [HF.out.2.2.2, HD.out]; exact hRU
                  have z2 := HRa2.out.bt hBt (by have := HGS.out.1; omega)
                  have z4 := HR42.out.bt hBt (by have := HGS.out.1; have := HGS.out.2.1; have := HGS.out.2.2; omega)
                  have zB := HBd.out.trans (hBt.below (by have := HGS.out.1; have := HGS.out.2.1; omega) HBd.out.size)
                  have Z1 := hide z1
                  have Z2 := hide z2
                  have Z4 := hide z4
                  have ZB := hide zB
                  clear hRU hBt z1 z2 z4 zB hig hi8
                  go_wp2_with fail
                  go_roundg g3'
                  case measure => omega
                  case rel => exact ⟨q + 1, HF.out.2.1, by rw [HF.out.2.2.1]; go_num, Z1.out, Z2.out, Z4.out, ZB.out⟩
            · obtain rfl : q = T := by omega
              have hfN : ¬ ((f : Int) < (NN : Int)) := by have := HT.out.1; omega
              have HSM := hide (show ssum L = sdig H 8 by rw [HT.out.2.2, eH])
              obtain ⟨wo, ewo⟩ : ∃ v, v = wr := ⟨_, rfl⟩
              subst ewo
              clear lH eH ef hqg hlt HRa HR4'
              go_wp2_with fail
              go_loopg [22, 23] 8 (fun g v tt wr => ∃ i : Nat, i + g = 8 ∧ tt = .int .i64 i ∧ Ow wr wo.heap.size v (4 * i) (bs (sdig H i)) ∧ Below wo.heap.size wo wr)
              case atStart => exact ⟨0, rfl, rfl, Ow.nil _ _, Below.refl _ _⟩
              case round =>
                as_aux_lemma =>
                obtain ⟨i, hig, rfl, hO, hBl⟩ := hrel
                have HO := hide hO
                have HBL := hide hBl
                obtain ⟨ao, co, rfl, hco⟩ := hO.shape
                clear hO hBl
                by_cases hi8 : i < 8
                · obtain ⟨g5, rfl⟩ : ∃ g5, gk = g5 + 1 := ⟨gk - 1, by omega⟩
                  have hi8I : (i : Int) < 8 := by omega
                  have hcx := (HRs.out.here HBL.out (Nat.le_refl _)).u0 i (by rw [nH]; exact hi8)
                  have lx := HLH.out i
                  obtain ⟨x, ex⟩ : ∃ x, at' H i = x := ⟨_, rfl⟩
                  rw [ex] at hcx lx
                  obtain ⟨d0, ed0⟩ : ∃ z, x / 16777216 = z := ⟨_, rfl⟩
                  obtain ⟨d1, ed1⟩ : ∃ z, x / 65536 = z := ⟨_, rfl⟩
                  obtain ⟨d2, ed2⟩ : ∃ z, x / 256 = z := ⟨_, rfl⟩
                  obtain ⟨y0, ey0⟩ : ∃ z, d0 % 256 = z := ⟨_, rfl⟩
                  obtain ⟨y1, ey1⟩ : ∃ z, d1 % 256 = z := ⟨_, rfl⟩
                  obtain ⟨y2, ey2⟩ : ∃ z, d2 % 256 = z := ⟨_, rfl⟩
                  obtain ⟨y3, ey3⟩ : ∃ z, x % 256 = z := ⟨_, rfl⟩
                  have hrow := hide (show Row (wr.alloc (.cells #[.int .u8 (y0 : Int), .int .u8 (y1 : Int), .int .u8 (y2 : Int), .int .u8 (y3 : Int)] 5)) wr.heap.size 0 (bs (sfour x)) by rw [sfour_bs, ed0, ed1, ed2, ey0, ey1, ey2, ey3]; exact Row.newL wr _ _)
                  have k0 : (x : Int) / 16777216 = (y0 : Int) := by omega
                  have k1 : (x : Int) / 65536 = (d1 : Int) := by omega
                  have k2 : (x : Int) / 256 = (d2 : Int) := by omega
                  have k3 : (d1 : Int) % 256 = (y1 : Int) := by omega
                  have k4 : (d2 : Int) % 256 = (y2 : Int) := by omega
                  have k5 : (x : Int) % 256 = (y3 : Int) := by omega
                  have t0 : Int.tdiv (x : Int) 16777216 = (y0 : Int) := by rw [Int.tdiv_eq_ediv_of_nonneg (by omega)]; exact k0
                  have t1 : Int.tdiv (x : Int) 65536 = (d1 : Int) := by rw [Int.tdiv_eq_ediv_of_nonneg (by omega)]; exact k1
                  have t2 : Int.tdiv (x : Int) 256 = (d2 : Int) := by rw [Int.tdiv_eq_ediv_of_nonneg (by omega)]; exact k2
                  have t3 : Int.tmod (d1 : Int) 256 = (y1 : Int) := by rw [Int.tmod_eq_emod_of_nonneg (by omega)]; exact k3
                  have t4 : Int.tmod (d2 : Int) 256 = (y2 : Int) := by rw [Int.tmod_eq_emod_of_nonneg (by omega)]; exact k4
                  have t5 : Int.tmod (x : Int) 256 = (y3 : Int) := by rw [Int.tmod_eq_emod_of_nonneg (by omega)]; exact k5
                  have u0 : IntKind.u32.wrap (y0 : Int) = (y0 : Int) := IntWalk.u32_in _ (by omega)
                  have u1 : IntKind.u32.wrap (d1 : Int) = (d1 : Int) := IntWalk.u32_in _ (by omega)
                  have u2 : IntKind.u32.wrap (d2 : Int) = (d2 : Int) := IntWalk.u32_in _ (by omega)
                  have u3 : IntKind.u32.wrap (y1 : Int) = (y1 : Int) := IntWalk.u32_in _ (by omega)
                  have u4 : IntKind.u32.wrap (y2 : Int) = (y2 : Int) := IntWalk.u32_in _ (by omega)
                  have u5 : IntKind.u32.wrap (y3 : Int) = (y3 : Int) := IntWalk.u32_in _ (by omega)
                  have b0 : IntKind.u8.wrap (y0 : Int) = (y0 : Int) := IntWalk.u8_in _ (by omega)
                  have b1 : IntKind.u8.wrap (y1 : Int) = (y1 : Int) := IntWalk.u8_in _ (by omega)
                  have b2 : IntKind.u8.wrap (y2 : Int) = (y2 : Int) := IntWalk.u8_in _ (by omega)
                  have b3 : IntKind.u8.wrap (y3 : Int) = (y3 : Int) := IntWalk.u8_in _ (by omega)
                  have HX := hide ex
                  have HCO : Hid (∀ w9 : World, Row w9 gs 0 (us H) → w9.cell? ⟨gs, i, none⟩ = some (.int .u32 (x : Int))) := hide fun w9 R9 => by have h9 := R9.u0 i (by rw [nH]; exact hi8); rwa [ex] at h9
                  have HI := hide (show i + 1 + g5 = 8 ∧ 4 * (i + 1) = 4 * i + 4 ∧ 4 * i + 4 ≤ 1000000 ∧ i < 8 from ⟨by omega, by omega, by omega, hi8⟩)
                  clear lx ex hig hi8 ed0 ed1 ed2 ey0 ey1 ey2 ey3
                  go_wp2_with fail
                  refine wp_region_ord (fun w9 => w9.cell? ⟨gs, i, none⟩ = some (.int .u32 (x : Int))) 29 [(0, some true), (1, some true), (2, some true), (3, some true), (4, some false), (5, some true), (6, some true), (7, some true), (8, some true), (9, some true), (10, some false), (11, some true), (12, some true), (13, some true), (14, some true), (15, some true), (16, some true), (17, some false), (18, some true), (19, some true), (20, some true), (21, some true), (22, some true), (23, some true), (24, some false), (25, some true), (26, some true), (27, none), (28, none), (29, none)] (by kernel_rfl) (by kernel_rfl) (fun _ _ _ _ h => h) hcx ?_
                  refine ord_pureE (o := ⟨some 315, _, _, _, _, _⟩) rfl (by kernel_rfl) ⟨_, fun w9 => by (go_simp; try rfl), ?_⟩
                  simp only [Act.put, List.setIfInBounds_toArray, List.set_cons_zero, List.set_cons_succ]
                  refine ord_pureE (o := ⟨some 316, _, _, _, _, _⟩) rfl (by kernel_rfl) ⟨_, fun w9 => by (go_simp; try rfl), ?_⟩
                  simp only [Act.put, List.setIfInBounds_toArray, List.set_cons_zero, List.set_cons_succ]
                  refine ord_pureE (o := ⟨some 317, _, _, _, _, _⟩) rfl (by kernel_rfl) ⟨_, fun w9 => by (go_simp; try rfl), ?_⟩
                  simp only [Act.put, List.setIfInBounds_toArray, List.set_cons_zero, List.set_cons_succ]
                  refine ord_pureE (o := ⟨some 318, _, _, _, _, _⟩) rfl (by kernel_rfl) ⟨_, fun w9 => by (go_simp; try rfl), ?_⟩
                  simp only [Act.put, List.setIfInBounds_toArray, List.set_cons_zero, List.set_cons_succ]
                  refine ord_heldE (o := ⟨some 319, _, _, _, _, _⟩) rfl (by kernel_rfl) ⟨_, fun w9 h9 => by (obtain h91 := h9; go_simp; try rfl), ?_⟩
                  simp only [Act.put, List.setIfInBounds_toArray, List.set_cons_zero, List.set_cons_succ]
                  refine ord_pureE (o := ⟨some 320, _, _, _, _, _⟩) rfl (by kernel_rfl) ⟨_, fun w9 => by (go_simp; try rfl), ?_⟩
                  simp only [Act.put, List.setIfInBounds_toArray, List.set_cons_zero, List.set_cons_succ]
                  refine ord_pureE (o := ⟨some 321, _, _, _, _, _⟩) rfl (by kernel_rfl) ⟨_, fun w9 => by (go_simp; try rfl), ?_⟩
                  simp only [Act.put, List.setIfInBounds_toArray, List.set_cons_zero, List.set_cons_succ]
                  refine ord_pureE (o := ⟨some 322, _, _, _, _, _⟩) rfl (by kernel_rfl) ⟨_, fun w9 => by (go_simp; try rfl), ?_⟩
                  simp only [Act.put, List.setIfInBounds_toArray, List.set_cons_zero, List.set_cons_succ]
                  refine ord_pureE (o := ⟨some 323, _, _, _, _, _⟩) rfl (by kernel_rfl) ⟨_, fun w9 => by (go_simp; try rfl), ?_⟩
                  simp only [Act.put, List.setIfInBounds_toArray, List.set_cons_zero, List.set_cons_succ]
                  refine ord_pureE (o := ⟨some 324, _, _, _, _, _⟩) rfl (by kernel_rfl) ⟨_, fun w9 => by (go_simp; try rfl), ?_⟩
                  simp only [Act.put, List.setIfInBounds_toArray, List.set_cons_zero, List.set_cons_succ]
                  refine ord_heldE (o := ⟨some 325, _, _, _, _, _⟩) rfl (by kernel_rfl) ⟨_, fun w9 h9 => by (obtain h91 := h9; go_simp; try rfl), ?_⟩
                  simp only [Act.put, List.setIfInBounds_toArray, List.set_cons_zero, List.set_cons_succ]
                  refine ord_pureE (o := ⟨some 326, _, _, _, _, _⟩) rfl (by kernel_rfl) ⟨_, fun w9 => by (go_simp; try rfl), ?_⟩
                  simp only [Act.put, List.setIfInBounds_toArray, List.set_cons_zero, List.set_cons_succ]
                  refine ord_pureE (o := ⟨some 327, _, _, _, _, _⟩) rfl (by kernel_rfl) ⟨_, fun w9 => by (go_simp; try rfl), ?_⟩
                  simp only [Act.put, List.setIfInBounds_toArray, List.set_cons_zero, List.set_cons_succ]
                  refine ord_pureE (o := ⟨some 328, _, _, _, _, _⟩) rfl (by kernel_rfl) ⟨_, fun w9 => by (go_simp; try rfl), ?_⟩
                  simp only [Act.put, List.setIfInBounds_toArray, List.set_cons_zero, List.set_cons_succ]
                  refine ord_pureE (o := ⟨some 329, _, _, _, _, _⟩) rfl (by kernel_rfl) ⟨_, fun w9 => by (go_simp; try rfl), ?_⟩
                  simp only [Act.put, List.setIfInBounds_toArray, List.set_cons_zero, List.set_cons_succ]
                  refine ord_pureE (o := ⟨some 330, _, _, _, _, _⟩) rfl (by kernel_rfl) ⟨_, fun w9 => by (go_simp; try rfl), ?_⟩
                  simp only [Act.put, List.setIfInBounds_toArray, List.set_cons_zero, List.set_cons_succ]
                  refine ord_pureE (o := ⟨some 331, _, _, _, _, _⟩) rfl (by kernel_rfl) ⟨_, fun w9 => by (go_simp; try rfl), ?_⟩
                  simp only [Act.put, List.setIfInBounds_toArray, List.set_cons_zero, List.set_cons_succ]
                  refine ord_heldE (o := ⟨some 332, _, _, _, _, _⟩) rfl (by kernel_rfl) ⟨_, fun w9 h9 => by (obtain h91 := h9; go_simp; try rfl), ?_⟩
                  simp only [Act.put, List.setIfInBounds_toArray, List.set_cons_zero, List.set_cons_succ]
                  refine ord_pureE (o := ⟨some 333, _, _, _, _, _⟩) rfl (by kernel_rfl) ⟨_, fun w9 => by (go_simp; try rfl), ?_⟩
                  simp only [Act.put, List.setIfInBounds_toArray, List.set_cons_zero, List.set_cons_succ]
                  refine ord_pureE (o := ⟨some 334, _, _, _, _, _⟩) rfl (by kernel_rfl) ⟨_, fun w9 => by (go_simp; try rfl), ?_⟩
                  simp only [Act.put, List.setIfInBounds_toArray, List.set_cons_zero, List.set_cons_succ]
                  refine ord_pureE (o := ⟨some 335, _, _, _, _, _⟩) rfl (by kernel_rfl) ⟨_, fun w9 => by (go_simp; try rfl), ?_⟩
                  simp only [Act.put, List.setIfInBounds_toArray, List.set_cons_zero, List.set_cons_succ]
                  refine ord_pureE (o := ⟨some 336, _, _, _, _, _⟩) rfl (by kernel_rfl) ⟨_, fun w9 => by (go_simp; try rfl), ?_⟩
                  simp only [Act.put, List.setIfInBounds_toArray, List.set_cons_zero, List.set_cons_succ]
                  refine ord_pureE (o := ⟨some 337, _, _, _, _, _⟩) rfl (by kernel_rfl) ⟨_, fun w9 => by (go_simp; try rfl), ?_⟩
                  simp only [Act.put, List.setIfInBounds_toArray, List.set_cons_zero, List.set_cons_succ]
                  refine ord_pureE (o := ⟨some 338, _, _, _, _, _⟩) rfl (by kernel_rfl) ⟨_, fun w9 => by (go_simp; try rfl), ?_⟩
                  simp only [Act.put, List.setIfInBounds_toArray, List.set_cons_zero, List.set_cons_succ]
                  refine ord_heldE (o := ⟨some 339, _, _, _, _, _⟩) rfl (by kernel_rfl) ⟨_, fun w9 h9 => by (obtain h91 := h9; go_simp; try rfl), ?_⟩
                  simp only [Act.put, List.setIfInBounds_toArray, List.set_cons_zero, List.set_cons_succ]
                  refine ord_pureE (o := ⟨some 340, _, _, _, _, _⟩) rfl (by kernel_rfl) ⟨_, fun w9 => by (go_simp; try rfl), ?_⟩
                  simp only [Act.put, List.setIfInBounds_toArray, List.set_cons_zero, List.set_cons_succ]
                  refine ord_pureE (o := ⟨some 341, _, _, _, _, _⟩) rfl (by kernel_rfl) ⟨_, fun w9 => by (go_simp; try rfl), ?_⟩
                  simp only [Act.put, List.setIfInBounds_toArray, List.set_cons_zero, List.set_cons_succ]
                  refine ord_go rfl (fun K9 hK => ?_)
                  go_simp
                  refine hK.out _ _ (fun _ => HCO.out _ ((HRs.out.here HBL.out (Nat.le_refl _)).alloc (.cells #[.int .u8 (y0 : Int), .int .u8 (y1 : Int), .int .u8 (y2 : Int), .int .u8 (y3 : Int)] 5)).drew) ?_
                  clear hK K9
                  have hsz9 : wo.heap.size ≤ wr.heap.size := HBL.out.size
                  refine ord_appendP (o := ⟨some 343, _, _, _, _, _⟩) rfl rfl (.tmp 315) (.tmp 342) 29 29 rfl 5 Try.underlying29 info8q (by decide) rfl rfl rfl (HO.out.keep ((Below.refl _ wr).alloc (Nat.le_refl _) (.cells #[.int .u8 (y0 : Int), .int .u8 (y1 : Int), .int .u8 (y2 : Int), .int .u8 (y3 : Int)] 5))).drew (hrow.out.drew.src (n := 4) (cap := 4) (by rw [bs_length]; rfl) Try.underlying29 (fun u hu => bs_one' hu)) HI.out.2.2.1 (Nat.le_trans hsz9 (by simp)) (fun u hu => bs_one' hu) ?_
                  intro v9 w9 hO9 hA9 hold9
                  have hB9 := hA9.below ((HO.out.keep ((Below.refl _ wr).alloc (Nat.le_refl _) (.cells #[.int .u8 (y0 : Int), .int .u8 (y1 : Int), .int .u8 (y2 : Int), .int .u8 (y3 : Int)] 5))).drew) (Nat.le_trans hsz9 (by simp))
                  have HO9 := hide hO9
                  have HB9 := hide ((HBL.out.alloc hsz9 _).drew.trans hB9)
                  refine ⟨fun _ => HCO.out _ (HRs.out.here HB9.out (Nat.le_refl _)), ?_⟩
                  clear hO9 hB9 hsz9 hA9 hold9
                  simp only [Act.put, List.setIfInBounds_toArray, List.set_cons_zero, List.set_cons_succ]
                  refine ord_go rfl (fun K9 hK => ?_)
                  go_simp
                  refine hK.out _ _ (fun h => by cases h) ?_
                  clear hK K9
                  refine ord_end ?_
                  go_wp2_with fail
                  go_roundg g5
                  case measure => omega
                  case rel => exact ⟨i + 1, HI.out.1, by go_num, by rw [HI.out.2.1, sdig_succ, HX.out, bs_app']; exact HO9.out, HB9.out⟩
                · obtain rfl : i = 8 := by omega
                  obtain ⟨gd, cd, hvd, hgd, hcd, hRd⟩ := HO.out.row (by decide)
                  obtain ⟨rfl, rfl⟩ : ao = some ⟨gd, 0, none⟩ ∧ co = cd := by simpa using hvd
                  have hxx := run_textR (P := Try.prog) wr 29 9 5 (c := co) (n := 32) (l := sdig H 8) Try.underlying29 Try.underlying5 Try.underlying9 gd 0 rfl (sdig_length H 8) hRd.cell
                  have e9 : (ByteArray.mk (sdig H 8).toArray) = D := by rw [← HSM.out, ← HED.out]; rfl
                  rw [e9] at hxx
                  have HBE := hide (HBq.out.trans (HBL.out.mono HBq.out.size))
                  clear hvd hRd HO hig hi8 e9
                  go_wp2_with (refine wpList_appendO rfl (.tmp 344) (.tmp 347) 49 49 rfl 9 Try.underlying49 infoSt (by decide) rfl (B := wr.heap.size) (n := 0) (m := 1) (xs := []) (news := [.string D]) rfl rfl (Ow.nil _ _) ((Row.newL wr [.string D] 9).src (n := 1) (cap := 1) rfl Try.underlying49 (fun u hu => by simp at hu; subst hu; rfl)) (by decide) (by simp) (fun u hu => by cases hu) ?_
                               intro v5 w5 hO5 hB5
                               obtain ⟨g9, c9, rfl, hg9, hc9, hR9⟩ := hO5.row (by decide)
                               rw [List.nil_append] at hR9
                               have HR9 := hide hR9
                               have HB9 := hide ((HB.out.trans (HBE.out.mono HB.out.size)).trans (((Below.refl wr.heap.size wr).alloc (Nat.le_refl _) _).trans hB5 |>.mono ((HB.out.trans (HBE.out.mono HB.out.size)).size)))
                               clear hO5 hB5 hR9 hg9 hc9)
                  first
                    | refine rounds_k fun K1 hK1 => ?_
                    | (go_step; refine rounds_k fun K1 hK1 => ?_)
                  go_wp2_with fail
                  go_ret
                  exact ⟨g9, c9, rfl, HR9.out, HB9.out⟩
end Go.Proofs.Ytdcmjmmfclhfbaa
