/- The document's columns, rows and bytes are ATab's: pure arithmetic on bytes and lists. -/
import Derived.Test.YtknjmmbebkcnpaaRun13
namespace Go.Proofs.Ytknjmmbebkcnpaa.Bk
set_option linter.unusedVariables false
set_option linter.unusedSimpArgs false

theorem comm_ok : ((List.range 256).all fun x => [2, 3, 9, 11, 13, 14].all (fun f => pr f x == pr x f) && pr x 1 == x) = true := by decide +kernel
theorem mu_comm (f : UInt8) (hf : f.toNat ∈ [2, 3, 9, 11, 13, 14]) (x : UInt8) : mu x f = mu f x := by
  apply u8_eq
  rw [mu_nat, mu_nat]
  have h := all256 comm_ok (UInt8.toNat_lt x)
  rw [Bool.and_eq_true, List.all_eq_true] at h
  exact (eq_of_beq (h.1 _ hf)).symm
theorem mu_one (x : UInt8) : mu x 1 = x := by
  apply u8_eq
  rw [mu_nat]
  have h := all256 comm_ok (UInt8.toNat_lt x)
  rw [Bool.and_eq_true] at h
  exact eq_of_beq h.2
theorem colE (X : List UInt8) (c : Nat) (hc : c < 4) :
    gy (mixS fE X) (4 * c) = ((mu 2 (gy X (4 * c)) ^^^ mu 3 (gy X (4 * c + 1))) ^^^ gy X (4 * c + 2)) ^^^ gy X (4 * c + 3) ∧
    gy (mixS fE X) (4 * c + 1) = ((gy X (4 * c) ^^^ mu 2 (gy X (4 * c + 1))) ^^^ mu 3 (gy X (4 * c + 2))) ^^^ gy X (4 * c + 3) ∧
    gy (mixS fE X) (4 * c + 2) = ((gy X (4 * c) ^^^ gy X (4 * c + 1)) ^^^ mu 2 (gy X (4 * c + 2))) ^^^ mu 3 (gy X (4 * c + 3)) ∧
    gy (mixS fE X) (4 * c + 3) = ((mu 3 (gy X (4 * c)) ^^^ gy X (4 * c + 1)) ^^^ gy X (4 * c + 2)) ^^^ mu 2 (gy X (4 * c + 3)) := by
  have h2 := mu_comm 2 (by decide)
  have h3 := mu_comm 3 (by decide)
  refine ⟨?_, ?_, ?_, ?_⟩
  · rw [gy_mixS _ _ (by omega), show 4 * c / 4 = c by omega, show 4 * c % 4 = 0 by omega]
    show (((0 ^^^ mu (gy X (4 * c + 0)) 2) ^^^ mu (gy X (4 * c + 1)) 3) ^^^ mu (gy X (4 * c + 2)) 1) ^^^ mu (gy X (4 * c + 3)) 1 = _
    rw [mu_one, mu_one, UInt8.zero_xor, h2, h3, Nat.add_zero]
  · rw [gy_mixS _ _ (by omega), show (4 * c + 1) / 4 = c by omega, show (4 * c + 1) % 4 = 1 by omega]
    show (((0 ^^^ mu (gy X (4 * c + 0)) 1) ^^^ mu (gy X (4 * c + 1)) 2) ^^^ mu (gy X (4 * c + 2)) 3) ^^^ mu (gy X (4 * c + 3)) 1 = _
    rw [mu_one, mu_one, UInt8.zero_xor, h2, h3, Nat.add_zero]
  · rw [gy_mixS _ _ (by omega), show (4 * c + 2) / 4 = c by omega, show (4 * c + 2) % 4 = 2 by omega]
    show (((0 ^^^ mu (gy X (4 * c + 0)) 1) ^^^ mu (gy X (4 * c + 1)) 1) ^^^ mu (gy X (4 * c + 2)) 2) ^^^ mu (gy X (4 * c + 3)) 3 = _
    rw [mu_one, mu_one, UInt8.zero_xor, h2, h3, Nat.add_zero]
  · rw [gy_mixS _ _ (by omega), show (4 * c + 3) / 4 = c by omega, show (4 * c + 3) % 4 = 3 by omega]
    show (((0 ^^^ mu (gy X (4 * c + 0)) 3) ^^^ mu (gy X (4 * c + 1)) 1) ^^^ mu (gy X (4 * c + 2)) 1) ^^^ mu (gy X (4 * c + 3)) 2 = _
    rw [mu_one, mu_one, UInt8.zero_xor, h2, h3, Nat.add_zero]
theorem colD (X : List UInt8) (c : Nat) (hc : c < 4) :
    gy (mixS fD X) (4 * c) = ((mu 14 (gy X (4 * c)) ^^^ mu 11 (gy X (4 * c + 1))) ^^^ mu 13 (gy X (4 * c + 2))) ^^^ mu 9 (gy X (4 * c + 3)) ∧
    gy (mixS fD X) (4 * c + 1) = ((mu 9 (gy X (4 * c)) ^^^ mu 14 (gy X (4 * c + 1))) ^^^ mu 11 (gy X (4 * c + 2))) ^^^ mu 13 (gy X (4 * c + 3)) ∧
    gy (mixS fD X) (4 * c + 2) = ((mu 13 (gy X (4 * c)) ^^^ mu 9 (gy X (4 * c + 1))) ^^^ mu 14 (gy X (4 * c + 2))) ^^^ mu 11 (gy X (4 * c + 3)) ∧
    gy (mixS fD X) (4 * c + 3) = ((mu 11 (gy X (4 * c)) ^^^ mu 13 (gy X (4 * c + 1))) ^^^ mu 9 (gy X (4 * c + 2))) ^^^ mu 14 (gy X (4 * c + 3)) := by
  have h1 := mu_comm 14 (by decide)
  have h2 := mu_comm 11 (by decide)
  have h3 := mu_comm 13 (by decide)
  have h4 := mu_comm 9 (by decide)
  refine ⟨?_, ?_, ?_, ?_⟩
  · rw [gy_mixS _ _ (by omega), show 4 * c / 4 = c by omega, show 4 * c % 4 = 0 by omega]
    show (((0 ^^^ mu (gy X (4 * c + 0)) 14) ^^^ mu (gy X (4 * c + 1)) 11) ^^^ mu (gy X (4 * c + 2)) 13) ^^^ mu (gy X (4 * c + 3)) 9 = _
    rw [UInt8.zero_xor, h1, h2, h3, h4, Nat.add_zero]
  · rw [gy_mixS _ _ (by omega), show (4 * c + 1) / 4 = c by omega, show (4 * c + 1) % 4 = 1 by omega]
    show (((0 ^^^ mu (gy X (4 * c + 0)) 9) ^^^ mu (gy X (4 * c + 1)) 14) ^^^ mu (gy X (4 * c + 2)) 11) ^^^ mu (gy X (4 * c + 3)) 13 = _
    rw [UInt8.zero_xor, h1, h2, h3, h4, Nat.add_zero]
  · rw [gy_mixS _ _ (by omega), show (4 * c + 2) / 4 = c by omega, show (4 * c + 2) % 4 = 2 by omega]
    show (((0 ^^^ mu (gy X (4 * c + 0)) 13) ^^^ mu (gy X (4 * c + 1)) 9) ^^^ mu (gy X (4 * c + 2)) 14) ^^^ mu (gy X (4 * c + 3)) 11 = _
    rw [UInt8.zero_xor, h1, h2, h3, h4, Nat.add_zero]
  · rw [gy_mixS _ _ (by omega), show (4 * c + 3) / 4 = c by omega, show (4 * c + 3) % 4 = 3 by omega]
    show (((0 ^^^ mu (gy X (4 * c + 0)) 11) ^^^ mu (gy X (4 * c + 1)) 13) ^^^ mu (gy X (4 * c + 2)) 9) ^^^ mu (gy X (4 * c + 3)) 14 = _
    rw [UInt8.zero_xor, h1, h2, h3, h4, Nat.add_zero]
/-- What stands at i behind stand-ins and rows taken to the left. -/
theorem gy_rs (s : List UInt8) (hs : s.length = 16) (i : Nat) (hi : i < 16) : gy (shf 1 (repl SB s)) i = gy SB (gy s (i % 4 + 4 * ((i / 4 + i % 4) % 4))).toNat := by
  rw [gy_shf _ _ hi, Nat.one_mul, gy_repl (by rw [hs]; omega), Nat.add_comm (4 * _)]
/-- Where byte i goes to, back; where j comes from. -/
theorem scat_ok : ((List.range 16).all fun i => decide (i % 4 + 4 * ((i / 4 + i % 4) % 4) < 16) && (List.range 16).all fun j => (decide (4 * ((j / 4 + 3 * (j % 4)) % 4) + j % 4 = i) == decide (j = i % 4 + 4 * ((i / 4 + i % 4) % 4)))) = true := by decide
def scat (R : List UInt8) (i : Nat) : List UInt8 := (List.range 16).map fun j => if 4 * ((j / 4 + 3 * (j % 4)) % 4) + j % 4 < i then gy R j else 0
theorem scat_length (R : List UInt8) (i : Nat) : (scat R i).length = 16 := by simp [scat]
theorem scat_zero (R : List UInt8) : scat R 0 = List.replicate 16 0 := by
  refine gy_ext (n := 16) (scat_length R 0) (by simp) fun j hj => ?_
  unfold scat
  rw [gy_range hj, if_neg (by omega), gy_zero]
theorem scat_all {R : List UInt8} (hR : R.length = 16) : scat R 16 = R := by
  refine gy_ext (n := 16) (scat_length R 16) hR fun j hj => ?_
  unfold scat
  rw [gy_range hj, if_pos (by omega)]
theorem scat_lt {i : Nat} (hi : i < 16) : i % 4 + 4 * ((i / 4 + i % 4) % 4) < 16 := by omega
theorem scat_set (R : List UInt8) (i : Nat) (hi : i < 16) : (scat R i).set (i % 4 + 4 * ((i / 4 + i % 4) % 4)) (gy R (i % 4 + 4 * ((i / 4 + i % 4) % 4))) = scat R (i + 1) := by
  refine gy_ext (n := 16) (by rw [List.length_set, scat_length]) (scat_length _ _) fun j hj => ?_
  rw [gy_set _ _ _ _ (by rw [scat_length]; exact scat_lt hi)]
  have h := scat_ok
  rw [List.all_eq_true] at h
  have h1 := h i (List.mem_range.2 hi)
  rw [Bool.and_eq_true, List.all_eq_true] at h1
  have h2 := eq_of_beq (h1.2 j (List.mem_range.2 hj))
  have h3 : (4 * ((j / 4 + 3 * (j % 4)) % 4) + j % 4 = i) ↔ (j = i % 4 + 4 * ((i / 4 + i % 4) % 4)) := decide_eq_decide.1 h2
  unfold scat
  by_cases e : j = i % 4 + 4 * ((i / 4 + i % 4) % 4)
  · rw [if_pos e, gy_range hj, if_pos (by have := h3.2 e; omega), e]
  · have hne := fun k => e (h3.1 k)
    rw [if_neg e, gy_range hj, gy_range hj]
    by_cases k : 4 * ((j / 4 + 3 * (j % 4)) % 4) + j % 4 < i
    · rw [if_pos k, if_pos (by omega)]
    · rw [if_neg k, if_neg (by omega)]
theorem gy_rd (s : List UInt8) (hs : s.length = 16) (i : Nat) (hi : i < 16) : gy (repl OB (shf 3 s)) (i % 4 + 4 * ((i / 4 + i % 4) % 4)) = gy OB (gy s i).toNat := by
  rw [gy_repl (by rw [shf_length]; exact scat_lt hi), gy_shf _ _ (scat_lt hi)]
  congr 3
  omega
end Go.Proofs.Ytknjmmbebkcnpaa.Bk
