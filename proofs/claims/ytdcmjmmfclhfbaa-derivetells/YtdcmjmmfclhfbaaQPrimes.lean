/- The document's roots' bits, walked: rows of the bits of the first 64 primes' square and cube roots. No condition. -/
import Derived.Test.YtdcmjmmfclhfbaaQWithin

import Derived.Test.YtdcmjmmfclhfbaaSNew
import Derived.Test.YtdcmjmmfclhfbaaOw
namespace Go.Proofs.Ytdcmjmmfclhfbaa
open Go.RowKit Bk
set_option linter.unusedVariables false
set_option linter.unusedSimpArgs false

namespace Bk
/-- How many of the primes are below p. -/
def cnp (p : Nat) : Nat := (spr.filter fun q => decide (q < p)).length
def okd (p k : Nat) : Bool := (List.range k).all fun j => decide (p % (j + 2) ≠ 0)
theorem okd_succ (p k : Nat) (h : okd p k = true) (h2 : p % (k + 2) ≠ 0) : okd p (k + 1) = true := by
  unfold okd at h ⊢
  rw [List.range_succ, List.all_append, h]
  simp [h2]
theorem pr_yes {p : Nat} (h : p < 312) (hp : p ∈ spr) : cnp (p + 1) = cnp p + 1 ∧ at' spr (cnp p) = p := by
  have := all_of (p := fun p => decide (p ∈ spr → cnp (p + 1) = cnp p + 1 ∧ at' spr (cnp p) = p)) 312 (by decide +kernel) p h
  exact of_decide_eq_true this hp
theorem pr_no {p : Nat} (h : p < 312) (hp : ¬ p ∈ spr) : cnp (p + 1) = cnp p := by
  have := all_of (p := fun p => decide (¬ p ∈ spr → cnp (p + 1) = cnp p)) 312 (by decide +kernel) p h
  exact of_decide_eq_true this hp
theorem cnp_end : cnp 312 = 64 := by decide +kernel
theorem cnp_two : cnp 2 = 0 := by decide +kernel
theorem cnp_le (p : Nat) : cnp p ≤ 64 := by unfold cnp; exact List.length_filter_le _ _
theorem div_no {p d : Nat} (h : p < 312) (hd : d < 18) (h2 : 2 ≤ d) (hdd : d * d ≤ p) (hm : p % d = 0) : ¬ p ∈ spr := by
  have h1 := all_of (p := fun p => (List.range 18).all fun d => decide (2 ≤ d → d * d ≤ p → p % d = 0 → ¬ p ∈ spr)) 312 (by decide +kernel) p h
  have h3 := all_of 18 h1 d hd
  exact of_decide_eq_true h3 h2 hdd hm
theorem div_yes {p k : Nat} (h : p < 312) (h2 : 2 ≤ p) (hk : k < 18) (hok : okd p k = true) (hdd : p < (k + 2) * (k + 2)) : p ∈ spr := by
  have h1 := all_of (p := fun p => (List.range 18).all fun k => decide (2 ≤ p → okd p k = true → p < (k + 2) * (k + 2) → p ∈ spr)) 312 (by decide +kernel) p h
  have h3 := all_of 18 h1 k hk
  exact of_decide_eq_true h3 h2 hok hdd
/-- The bits of the first c primes' roots. -/
def rq (f : Nat → Nat → Bool) (c : Nat) : List Nat := (spr.take c).map fun p => rts (f p)
theorem rq_length (f : Nat → Nat → Bool) (c : Nat) (h : c ≤ 64) : (rq f c).length = c := by unfold rq; rw [List.length_map, List.length_take, spr_length]; omega
theorem rq_succ (f : Nat → Nat → Bool) (c : Nat) (h : c < 64) : rq f (c + 1) = rq f c ++ [rts (f (at' spr c))] := by
  unfold rq
  rw [List.take_succ_eq_append_getElem (by rw [spr_length]; exact h), List.map_append]
  simp [at', List.getD_eq_getElem?_getD, List.getElem?_eq_getElem (show c < spr.length by rw [spr_length]; exact h)]
theorem rts_lt (f : Nat → Bool) : rts f < 4294967296 := Nat.mod_lt _ (by decide)
end Bk
end Go.Proofs.Ytdcmjmmfclhfbaa
