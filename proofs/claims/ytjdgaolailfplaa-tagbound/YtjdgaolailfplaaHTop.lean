/- Copy, Sum and Keyed of bytes, and the calls on nil, walked. For fewer than 2 to the power of 61 bytes. -/
import Derived.Test.YtjdgaolailfplaaHAdd
namespace Go.Proofs.Ytjdgaolailfplaa
open Go.RowKit Bk
set_option linter.unusedVariables false
set_option linter.unusedSimpArgs false

/-- What is summed by a key: the key, filled up to a block, ahead of the bytes. -/
def kd (k s : List UInt8) : List UInt8 := if k.length = 0 then s else (k ++ List.replicate (64 - k.length) 0) ++ s
/-- A digest, as a string. -/
def dg (k : Nat) (l : List UInt8) : ByteArray := ⟨(sum k l).toArray⟩
theorem sb_dg (k : Nat) (l : List UInt8) : sb (dg k l) = sum k l := rfl
theorem dg_size (k : Nat) (l : List UInt8) : (dg k l).size = 32 := by rw [← sb_length, sb_dg, sum_length]

set_option maxRecDepth 100000 in
theorem hadd_nil (w : World) (s : ByteArray) : Calls Try.prog 21 #[.pointer none, .string s] w fun e w' => e = .returned (.int .i64 2) ∧ w' = w := by
  go_enter Try.func21, Try.ntmps21
  go_wp2
  go_ret
  exact ⟨rfl, rfl⟩

set_option maxRecDepth 100000 in
set_option maxHeartbeats 4000000 in
theorem bsum_any (s : ByteArray) (w : World) (hs : s.size < 2305843009213693952) : Calls Try.prog 14 #[.string s] w fun e w' => e = .returned (.string (dg 0 (sb s))) ∧ Below w.heap.size w w' := by
  go_enter Try.func14, Try.ntmps14
  go_wp2_with fail
  refine (new_any _).mono ?_
  rintro e w1 ⟨b, rfl, hb, hH, hB⟩
  have HH := hide hH
  have HB := hide hB
  clear hH hB
  go_wp2_with fail
  refine (hadd_any s HH.out (h0_length 0) (h0_lt 0 (by omega)) (by simp; omega)).mono ?_
  rintro e w2 ⟨rfl, hH2, hB2⟩
  rw [List.nil_append] at hH2
  have HH2 := hide hH2
  have HB2 := hide hB2
  clear hH2 hB2
  go_wp2_with fail
  refine (hsum_any HH2.out (h0_length 0) (h0_lt 0 (by omega)) (by rw [sb_length]; omega)).mono ?_
  rintro e w3 ⟨rfl, hB3⟩
  have HB3 := hide hB3
  clear hB3
  go_wp2_with fail
  go_ret
  refine ⟨rfl, ?_⟩
  have q2 : Below w.heap.size w w2 := HB.out.trans (HB2.out.below hb HB.out.size)
  exact q2.trans (HB3.out.mono q2.size)

theorem hsum_nil (w : World) : Calls Try.prog 22 #[.pointer none] w fun e w' => e = .returned (.string (dg 0 [])) ∧ Below w.heap.size w w' := by
  go_enter Try.func22, Try.ntmps22
  go_wp2_with fail
  refine (bsum_any ⟨#[]⟩ _ (by decide)).mono ?_
  rintro e w1 ⟨rfl, hB⟩
  have HB := hide hB
  clear hB
  go_wp2_with fail
  go_ret
  exact ⟨rfl, HB.out⟩

/-- A digest by a key, or the refusal. -/
def kyv (k s : ByteArray) : ByteArray := if 32 < k.size then ⟨#[]⟩ else dg k.size (kd (sb k) (sb s))
def kye (k : ByteArray) : Int := if 32 < k.size then 1 else 0
theorem kyv_none (s : ByteArray) : kyv ⟨#[]⟩ s = dg 0 (sb s) := rfl
end Go.Proofs.Ytjdgaolailfplaa
