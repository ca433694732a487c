/- The statements' own exclusive or of two texts of 32 bytes, walked. -/
import Derived.StillTailTactics
import Derived.Test.YtdcmjmmfclhfbaaKAwake
namespace Go.Proofs.Ytdcmjmmfclhfbaa
open Go.RowKit Bk
set_option linter.unusedVariables false
set_option linter.unusedSimpArgs false

set_option maxRecDepth 100000 in
set_option maxHeartbeats 8000000 in
theorem xor8_any (x y : ByteArray) (w : World) (hx : x.size = 32) (hy : y.size = 32) :
    Calls Try.prog 14 #[.string x, .string y] w fun e w' => e = .returned (.string ⟨(kx (sb x) (sb y)).toArray⟩) ∧ Below w.heap.size w w' := by
  obtain ⟨A, eA⟩ : ∃ A, sb x = A := ⟨_, rfl⟩
  obtain ⟨T, eT⟩ : ∃ T, sb y = T := ⟨_, rfl⟩
  have lA : A.length = 32 := by rw [← eA, sb_length, hx]
  have lT : T.length = 32 := by rw [← eT, sb_length, hy]
  have hidx : ∀ k : Nat, k < 32 → ∀ w, (Instr.index 9 (.string y) (.int .i64 (k : Int))).run Try.prog w = .ok (.int .u8 ((by' T k : Nat) : Int)) w := fun k hk w => by rw [← eT]; exact idx_str y k (by omega) w
  have HI := hide hidx
  obtain ⟨v, w2, hrun, hO, hB2⟩ := run_bytesO (P := Try.prog) w 9 29 5 x Try.underlying9 Try.underlying29 Try.underlying5
  rw [hx, eA] at hO
  obtain ⟨g, cap, rfl, hg, hcap, hR⟩ := hO.row (by decide)
  have HR := hide hR
  have HB := hide hB2
  have HG := hide hg
  have HX := hide (And.intro hx hy)
  rw [eA, eT]
  clear hO hR hB2 hidx eT
  go_enter Try.func14, Try.ntmps14
  go_wp2_with fail
  go_loopg [6] 32 (fun g9 q wr => ∃ k : Nat, k + g9 = 32 ∧ q = .int .i64 k ∧ Row wr g 0 (bs (kmid A T k)) ∧ Below w.heap.size w wr)
  case atStart => exact ⟨0, rfl, rfl, HR.out, HB.out⟩
  case round =>
    clear HR HB hrun
    obtain ⟨k, hkg, rfl, hR, hB⟩ := hrel
    by_cases hlt : k < 32
    · have hlt' : (k : Int) < 32 := by omega
      obtain ⟨g3, rfl⟩ : ∃ g3, gk = g3 + 1 := ⟨gk - 1, by omega⟩
      have hk : k ≤ 32 := by omega
      have hc := hR.y0 k (by rw [kmid_length lA lT k hk]; exact hlt)
      rw [kmid_at lA lT k hlt] at hc
      have f0 := hR.f0 k (by rw [bs_length, kmid_length lA lT k hk]; exact hlt)
      have hidx := HI.out k hlt
      have h3 := hR.set0 (i := k) (by rw [bs_length, kmid_length lA lT k hk]; exact hlt) (.int .u8 ((UInt8.ofNat (by' A k) ^^^ UInt8.ofNat (by' T k)).toNat : Int))
      rw [← bs_setU, ← kmid_succ lA lT k hlt] at h3
      have hx := x8_int (UInt8.ofNat (by' A k)) (UInt8.ofNat (by' T k))
      obtain ⟨z, ez⟩ : ∃ z, (UInt8.ofNat (by' A k) ^^^ UInt8.ofNat (by' T k)).toNat = z := ⟨_, rfl⟩
      rw [ez] at hx h3
      have ba : by' A k < 256 := by_lt _ _
      have bt : by' T k < 256 := by_lt _ _
      rw [UInt8.toNat_ofNat_of_lt' ba, UInt8.toNat_ofNat_of_lt' bt] at hx
      obtain ⟨a1, e1⟩ : ∃ a, by' A k = a := ⟨_, rfl⟩
      obtain ⟨t1, e2⟩ : ∃ t, by' T k = t := ⟨_, rfl⟩
      rw [e1] at hc hx ba
      rw [e2] at hidx hx bt
      have H3 := hide h3
      have HB := hide (hB.setCell (p := ⟨g, k, none⟩) HG.out (.int .u8 (z : Int)))
      have hyS : (k : Int) < (y.size : Int) := by rw [HX.out.2]; exact hlt'
      clear hR hB h3 ez e1 e2 lA lT
      have hmx : Try.prog.follows .mixedOrders = true := by kernel_rfl
      go_wp2_with fail
      go_still_tail 11, hmx
      go_wp2_with fail
      go_roundg g3
      case measure => omega
      case rel => exact ⟨k + 1, by omega, by go_num, H3.out.drew, HB.out.drew⟩
    · obtain rfl : k = 32 := by omega
      rw [kmid_all lA lT] at hR
      have hx := run_textR (P := Try.prog) wr 29 9 5 (c := cap) Try.underlying29 Try.underlying5 Try.underlying9 g 0 rfl (kx_length lA lT) hR.cell
      have HB := hide hB
      clear hR hB
      go_wp2_with fail
      go_ret
      exact ⟨rfl, HB.out⟩
end Go.Proofs.Ytdcmjmmfclhfbaa
