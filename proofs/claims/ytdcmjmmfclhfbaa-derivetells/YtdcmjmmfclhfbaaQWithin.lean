/- The document's comparison of digits, walked. For rows of at most 64 digits: the call returns what QMath says, and leaves what was there. -/
import Derived.Test.YtdcmjmmfclhfbaaQTimes
namespace Go.Proofs.Ytdcmjmmfclhfbaa
open Go.RowKit Bk
set_option linter.unusedVariables false
set_option linter.unusedSimpArgs false

set_option maxRecDepth 100000 in
set_option maxHeartbeats 8000000 in
theorem rwithin_any {w : World} {ga : Nat} (a : List Nat) (na ca p n : Nat) (ha : a.length = na) (ra : Row w ga 0 (uq a)) (h64 : na ≤ 64 ∧ n ≤ 64) (hp : p < 18446744073709551616) :
    Calls Try.prog 53 #[.slice (some ⟨ga, 0, none⟩) na ca, .int .u64 p, .int .i64 n] w fun e w' => e = .returned (.bool (wtn a p n)) ∧ Below w.heap.size w w' := by
  have hX : wtn a p n = wth a p n na := by unfold wtn; rw [ha]
  obtain ⟨R, eR⟩ : ∃ R, wtn a p n = R := ⟨_, rfl⟩
  rw [eR] at hX ⊢
  have n1 : IntKind.i64.wrap ((na : Int) - 1) = (na : Int) - 1 := IntWalk.i64_in _ (by omega)
  have RA := hide ra
  have HX := hide hX
  clear ra hX eR
  go_enter Try.func53, Try.ntmps53
  go_wp2_with fail
  clear n1
  go_loopg [7, 8] na (fun g q _ wr => ∃ j : Nat, j = g ∧ j ≤ na ∧ q = .int .i64 ((j : Int) - 1) ∧ wth a p n j = R ∧ Below w.heap.size w wr)
  case atStart => exact ⟨na, rfl, Nat.le_refl _, rfl, HX.out.symm, Below.refl _ _⟩
  case round =>
    clear HX
    obtain ⟨j, rfl, hj, rfl, hR, hB⟩ := hrel
    have HB := hide hB
    clear hB
    cases j with
    | zero =>
      have e0 : ((0 : Nat) : Int) - 1 = -1 := rfl
      rw [e0]
      have hR2 : R = true := hR.symm
      subst hR2
      clear hR
      go_wp2_with fail
      go_ret
      exact ⟨rfl, HB.out⟩
    | succ j =>
      have e0 : ((j + 1 : Nat) : Int) - 1 = (j : Int) := by omega
      rw [e0]
      have hjI : (j : Int) < (na : Int) := by omega
      have hj0 : (0 : Int) ≤ (j : Int) := by omega
      have v1 : IntKind.i64.wrap ((j : Int) - 1) = (j : Int) - 1 := IntWalk.i64_in _ (by omega)
      have v2 : IntKind.i64.wrap ((n : Int) + 4) = (n : Int) + 4 := IntWalk.i64_in _ (by omega)
      have hS : (if at' a j = wnt p n j then wth a p n j else decide (at' a j < wnt p n j)) = R := hR
      obtain ⟨x, ex⟩ : ∃ x, at' a j = x := ⟨_, rfl⟩
      obtain ⟨W, eW⟩ : ∃ W, wnt p n j = W := ⟨_, rfl⟩
      rw [ex, eW] at hS
      have HS := hide hS
      have EX := hide ex
      have HJ := hide hj
      clear hR hS ex hj
      by_cases hin : n ≤ j ∧ j < n + 4
      · have q1 : (n : Int) ≤ (j : Int) := by omega
        have q2 : (j : Int) < (n : Int) + 4 := by omega
        obtain ⟨jn, ejn⟩ : ∃ z, j - n = z := ⟨_, rfl⟩
        have v3 : IntKind.i64.wrap ((j : Int) - (n : Int)) = (jn : Int) := by rw [IntWalk.i64_in _ (by omega)]; omega
        have v3' : (j : Int) - (n : Int) = (jn : Int) := by omega
        have q3 : (jn : Int) < 4 := by omega
        have hW : at' (dgs p) jn = W := by rw [← eW, ← ejn]; unfold wnt; rw [if_pos hin]
        have HW := hide hW
        have JN := hide (show jn < 4 by omega)
        clear eW hW hin ejn
        go_wp2_with fail
        refine (rdigits_any p _ hp).mono ?_
        rintro e w1 ⟨g, rfl, hg, hr, hB1⟩
        have cd := hr.q0 jn JN.out
        rw [HW.out] at cd
        have HB1 := hide (HB.out.trans (hB1.mono HB.out.size))
        have cx := (RA.out.below HB1.out RA.out.lt).q0 j (by have := HJ.out; omega)
        rw [EX.out] at cx
        clear hr hB1 hg
        by_cases hxw : x = W
        · have hb : ((x : Int) != (W : Int)) = false := by simp [hxw]
          have hR9 : wth a p n j = R := by have := HS.out; rwa [if_pos hxw] at this
          go_wp2_with fail
          go_roundg j
          case measure => omega
          case rel => exact ⟨j, rfl, by have := HJ.out; omega, by go_num, hR9, HB1.out⟩
        · have hb : ((x : Int) != (W : Int)) = true := by
            rw [bne_iff_ne]
            intro h
            exact hxw (by omega)
          have hR9 : decide (x < W) = R := by have := HS.out; rwa [if_neg hxw] at this
          have hR8 : decide ((x : Int) < (W : Int)) = R := by rw [← hR9]; simp
          go_wp2_with fail
          go_ret
          exact ⟨by first | rw [hR8] | rw [hR9] | rfl, HB1.out⟩
      · have hW : W = 0 := by rw [← eW]; unfold wnt; rw [if_neg hin]
        subst hW
        have cx := (RA.out.below HB.out RA.out.lt).q0 j (by have := HJ.out; omega)
        rw [EX.out] at cx
        have HB1 := HB
        by_cases q1 : (n : Int) ≤ (j : Int)
        · have q2 : ¬ ((j : Int) < (n : Int) + 4) := by omega
          clear eW hin
          by_cases hxw : x = 0
          · have hb : ((x : Int) != (0 : Int)) = false := by simp [hxw]
            have hR9 : wth a p n j = R := by have := HS.out; rwa [if_pos hxw] at this
            go_wp2_with fail
            go_roundg j
            case measure => omega
            case rel => exact ⟨j, rfl, by have := HJ.out; omega, by go_num, hR9, HB1.out⟩
          · have hb : ((x : Int) != (0 : Int)) = true := by
              rw [bne_iff_ne]
              intro h
              exact hxw (by omega)
            have hR9 : decide (x < 0) = R := by have := HS.out; rwa [if_neg hxw] at this
            have hR8 : decide ((x : Int) < (0 : Int)) = R := by rw [← hR9]; simp
            go_wp2_with fail
            go_ret
            exact ⟨by first | rw [hR8] | rw [hR9] | rfl, HB1.out⟩
        · clear eW hin
          by_cases hxw : x = 0
          · have hb : ((x : Int) != (0 : Int)) = false := by simp [hxw]
            have hR9 : wth a p n j = R := by have := HS.out; rwa [if_pos hxw] at this
            go_wp2_with fail
            go_roundg j
            case measure => omega
            case rel => exact ⟨j, rfl, by have := HJ.out; omega, by go_num, hR9, HB1.out⟩
          · have hb : ((x : Int) != (0 : Int)) = true := by
              rw [bne_iff_ne]
              intro h
              exact hxw (by omega)
            have hR9 : decide (x < 0) = R := by have := HS.out; rwa [if_neg hxw] at this
            have hR8 : decide ((x : Int) < (0 : Int)) = R := by rw [← hR9]; simp
            go_wp2_with fail
            go_ret
            exact ⟨by first | rw [hR8] | rw [hR9] | rfl, HB1.out⟩
end Go.Proofs.Ytdcmjmmfclhfbaa
