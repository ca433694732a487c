/- The statements' own rows of bytes, walked: n bytes, each so much more than the one ahead of it. For 1 to 1000 bytes; what was there is left. -/
import Derived.Test.YtllhnbnddcghoaaAEx
import Derived.Test.YtllhnbnddcghoaaAStep
namespace Go.Proofs.Ytllhnbnddcghoaa
open Go.RowKit Bk
set_option linter.unusedVariables false
set_option linter.unusedSimpArgs false

set_option maxRecDepth 100000 in
set_option maxHeartbeats 4000000 in
theorem arow_any (n : Nat) (c : UInt8) (w : World) (h1 : 1 ≤ n) (hn : n ≤ 1000) :
    Calls Try.prog 10 #[.int .i64 (n : Int), .int .u8 (c.toNat : Int)] w fun e w' => e = .returned (.string ⟨(rwl n c).toArray⟩) ∧ Below w.heap.size w w' := by
  have hmk := mk_bytes n (by omega)
  obtain ⟨R, eR⟩ : ∃ R, rwl n c = R := ⟨_, rfl⟩
  have lR : R.length = n := eR ▸ rwl_length n c
  have hnx : ∀ i, i + 1 < n → ((gy R i).toNat + c.toNat) % 256 = (gy R (i + 1)).toNat := fun i h => eR ▸ rwl_next c h
  have hfirst : mixd R (zr n) 1 = zr n := by
    refine gy_ext (n := n) (mixd_length lR (zr_length n) 1 h1) (zr_length n) fun j hj => ?_
    rw [gy_mixd lR (zr_length n) h1]
    by_cases e : j < 1
    · obtain rfl : j = 0 := by omega
      rw [if_pos e, ← eR, gy_rwl c h1, Nat.zero_mul]
      exact (gy_zero n 0).symm
    · rw [if_neg e]
  have HX := hide (And.intro lR hnx)
  have H0 := hide (show Row (w.alloc (.cells (madeCells #[.int .u8 0] n) 5)) w.heap.size 0 (bs (mixd R (zr n) (0 + 1))) ∧ Below w.heap.size w (w.alloc (.cells (madeCells #[.int .u8 0] n) 5)) from ⟨by rw [Nat.zero_add, hfirst]; exact row_made w n, (Below.refl _ w).alloc (Nat.le_refl _) _⟩)
  have HN := hide (And.intro h1 hn)
  obtain ⟨M, hM⟩ : ∃ M, madeCells #[.int .u8 0] n = M := ⟨_, rfl⟩
  rw [hM] at hmk H0
  rw [eR]
  clear hM hnx hfirst lR eR h1 hn
  go_enter Try.func10, Try.ntmps10
  go_wp2_with fail
  clear hmk
  go_loopg [6] n (fun g q wr => ∃ k : Nat, k + g = n ∧ q = .int .i64 ((k : Int) + 1) ∧ k + 1 ≤ n ∧ Row wr w.heap.size 0 (bs (mixd R (zr n) (k + 1))) ∧ Below w.heap.size w wr)
  case atStart => exact ⟨0, by omega, rfl, HN.out.1, H0.out⟩
  case round =>
    clear H0
    obtain ⟨k, hkg, rfl, hk1, h1, hB⟩ := hrel
    by_cases hlt : k + 1 < n
    · have hlt' : (k : Int) + 1 < (n : Int) := by omega
      have hb := HN.out.2
      obtain ⟨g3, rfl⟩ : ∃ g3, gk = g3 + 1 := ⟨gk - 1, by omega⟩
      have lm : (mixd R (zr n) (k + 1)).length = n := mixd_length HX.out.1 (zr_length n) _ hk1
      have c0 := h1.g0 k (by omega)
      rw [gy_mixd HX.out.1 (zr_length n) hk1, if_pos (by omega)] at c0
      have c1 := h1.g0 (k + 1) (by omega)
      have f1 := h1.fy0 (k + 1) (by omega)
      have hs := HX.out.2 k hlt
      obtain ⟨y, hy⟩ : ∃ y, gy R k = y := ⟨_, rfl⟩
      obtain ⟨z, hz⟩ : ∃ z, gy R (k + 1) = z := ⟨_, rfl⟩
      have h3 := h1.mixd1 HX.out.1 (zr_length n) hlt (x := z) hz.symm
      have H3 := hide (And.intro h3 (hB.setCell (p := ⟨w.heap.size, k + 1, none⟩) (Nat.le_refl _) (.int .u8 (z.toNat : Int))))
      rw [hy] at c0 hs
      rw [hz] at hs
      have hs' : ((y.toNat : Int) + (c.toNat : Int)) % 256 = (z.toNat : Int) := by omega
      have v1 : (k : Int) + 1 - 1 = (k : Int) := by omega
      have v2 := IntWalk.i64_in (k : Int) (by omega)
      have v3 : (0 : Int) ≤ (k : Int) + 1 := by omega
      have v4 : ((k : Int) + 1).toNat = k + 1 := by omega
      have v5 := IntWalk.i64_in ((k : Int) + 1 + 1) (by omega)
      have v6 : (k : Int) < (n : Int) := by omega
      obtain ⟨y', ey⟩ : ∃ a : Nat, y.toNat = a := ⟨_, rfl⟩
      obtain ⟨z', ez⟩ : ∃ a : Nat, z.toNat = a := ⟨_, rfl⟩
      rw [ey] at c0 hs'
      rw [ez] at hs' H3
      clear h1 hB h3 hy hz hs lm ey ez
      go_wp2_with fail
      go_roundg g3
      case measure => omega
      case rel => exact ⟨k + 1, by omega, by go_num, by omega, H3.out⟩
    · obtain rfl : n = k + 1 := by omega
      rw [mixd_all HX.out.1 (zr_length (k + 1))] at h1
      have hx := run_textR (P := Try.prog) wr 55 9 5 (c := k + 1) Try.underlying55 Try.underlying5 Try.underlying9 w.heap.size 0 rfl HX.out.1 h1.cell
      have HB := hide hB
      clear h1 hB
      go_wp2_with fail
      go_ret
      exact ⟨rfl, HB.out⟩
end Go.Proofs.Ytllhnbnddcghoaa
