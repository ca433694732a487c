/- The document's digits, products and comparisons, walked. Each call returns what QMath says in memory of its own, and leaves what was there. -/
import Derived.Test.YtdcmjmmfclhfbaaQMath
import Derived.Test.YtdcmjmmfclhfbaaSHash
import Derived.Test.YtdcmjmmfclhfbaaBMade
namespace Go.Proofs.Ytdcmjmmfclhfbaa
open Go.RowKit Bk
set_option linter.unusedVariables false
set_option linter.unusedSimpArgs false

theorem uq_set (l : List Nat) (i x : Nat) : uq (l.set i x) = (uq l).set i (.int .u64 (x : Int)) := by simp [uq, List.map_set]
theorem w64_int (x : Int) (n : Nat) (h : x = (n : Int)) : IntKind.u64.wrap x = ((w64 n : Nat) : Int) := by
  subst h; rw [IntKind.wrap_u64]; unfold w64; omega

set_option maxRecDepth 100000 in
set_option maxHeartbeats 4000000 in
theorem rdigits_any (n : Nat) (w : World) (hn : n < 18446744073709551616) :
    Calls Try.prog 52 #[.int .u64 n] w fun e w' => ∃ g, e = .returned (.slice (some ⟨g, 0, none⟩) 4 4) ∧ w.heap.size ≤ g ∧ Row w' g 0 (uq (dgs n)) ∧ Below w.heap.size w w' := by
  obtain ⟨n1, e1⟩ : ∃ z, n / 65536 = z := ⟨_, rfl⟩
  obtain ⟨n2, e2⟩ : ∃ z, n1 / 65536 = z := ⟨_, rfl⟩
  obtain ⟨n3, e3⟩ : ∃ z, n2 / 65536 = z := ⟨_, rfl⟩
  obtain ⟨d0, f0⟩ : ∃ z, n % 65536 = z := ⟨_, rfl⟩
  obtain ⟨d1, f1⟩ : ∃ z, n1 % 65536 = z := ⟨_, rfl⟩
  obtain ⟨d2, f2⟩ : ∃ z, n2 % 65536 = z := ⟨_, rfl⟩
  have hd : dgs n = [d0, d1, d2, n3] := by unfold dgs; rw [e1, e2, e3, f0, f1, f2]
  have i1 : (n : Int) / 65536 = (n1 : Int) := by omega
  have i2 : (n1 : Int) / 65536 = (n2 : Int) := by omega
  have i3 : (n2 : Int) / 65536 = (n3 : Int) := by omega
  have j1 : Int.tdiv (n : Int) 65536 = (n1 : Int) := by rw [Int.tdiv_eq_ediv_of_nonneg (by omega)]; exact i1
  have j2 : Int.tdiv (n1 : Int) 65536 = (n2 : Int) := by rw [Int.tdiv_eq_ediv_of_nonneg (by omega)]; exact i2
  have j3 : Int.tdiv (n2 : Int) 65536 = (n3 : Int) := by rw [Int.tdiv_eq_ediv_of_nonneg (by omega)]; exact i3
  have k0 : (n : Int) % 65536 = (d0 : Int) := by omega
  have k1 : (n1 : Int) % 65536 = (d1 : Int) := by omega
  have k2 : (n2 : Int) % 65536 = (d2 : Int) := by omega
  have l0 : Int.tmod (n : Int) 65536 = (d0 : Int) := by rw [Int.tmod_eq_emod_of_nonneg (by omega)]; exact k0
  have l1 : Int.tmod (n1 : Int) 65536 = (d1 : Int) := by rw [Int.tmod_eq_emod_of_nonneg (by omega)]; exact k1
  have l2 : Int.tmod (n2 : Int) 65536 = (d2 : Int) := by rw [Int.tmod_eq_emod_of_nonneg (by omega)]; exact k2
  have u1 := IntWalk.u64_in (n1 : Int) (by omega)
  have u2 := IntWalk.u64_in (n2 : Int) (by omega)
  have u3 := IntWalk.u64_in (n3 : Int) (by omega)
  have hR := Row.newL w (uq (dgs n)) 55
  have hB : Below w.heap.size w (w.alloc (.cells (uq (dgs n)).toArray 55)) := (Below.refl _ w).alloc (Nat.le_refl _) _
  have hc : (uq (dgs n)).toArray = #[.int .u64 (d0 : Int), .int .u64 (d1 : Int), .int .u64 (d2 : Int), .int .u64 (n3 : Int)] := by rw [hd]; rfl
  rw [hc] at hR hB
  have HR := hide hR
  have HB := hide hB
  clear hR hB hc hd e1 e2 e3 f0 f1 f2
  go_enter Try.func52, Try.ntmps52
  go_wp2_with fail
  go_ret
  exact ⟨_, rfl, Nat.le_refl _, HR.out, HB.out⟩
end Go.Proofs.Ytdcmjmmfclhfbaa
