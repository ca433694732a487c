/- A hash of SHA-256 in memory: its cells; what it says that a hash has taken in a row of bytes. No call is walked here. -/
import Derived.Test.YtdcmjmmfclhfbaaSAfter
import Derived.Test.YtdcmjmmfclhfbaaSRoot
import Derived.Test.YtdcmjmmfclhfbaaBt
import Derived.Test.YtdcmjmmfclhfbaaOrdsX
namespace Go.Proofs.Ytdcmjmmfclhfbaa
open Go.RowKit Bk
set_option linter.unusedVariables false

/-- Numbers of 64 bits as values. -/
def uq (l : List Nat) : List Value := l.map fun (x : Nat) => Value.int .u64 (x : Int)
theorem uq_length (l : List Nat) : (uq l).length = l.length := by simp [uq]
theorem uq_get (l : List Nat) (j : Nat) (h : j < l.length) : (uq l)[j]? = some (.int .u64 (at' l j : Nat)) := by simp [uq, at', h]
theorem uq_one {l : List Nat} {v : Value} (h : v ∈ uq l) : v.oneCell' = true := by
  simp only [uq, List.mem_map] at h
  obtain ⟨x, _, rfl⟩ := h
  rfl
theorem Row.q0 {w : World} {b : Nat} {l : List Nat} (h : Row w b 0 (uq l)) (j : Nat) (hj : j < l.length) : w.cell? ⟨b, j, none⟩ = some (.int .u64 (Bk.at' l j : Nat)) := by
  have := h.cell j _ (uq_get l j hj)
  rwa [Nat.zero_add] at this

/-- The cells of a hash: eight numbers, 64 more, a block, how many bytes. -/
def scs (N K : List Nat) (B : List UInt8) (n : Nat) : List Value := us N ++ (us K ++ (bs B ++ [.int .u64 (n : Int)]))
theorem scs_length (N K : List Nat) (B : List UInt8) (n : Nat) : (scs N K B n).length = N.length + (K.length + (B.length + 1)) := by simp [scs, us_length, bs_length]
theorem scs_one {N K : List Nat} {B : List UInt8} {n : Nat} {v : Value} (hv : v ∈ scs N K B n) : v.oneCell' = true := by
  simp only [scs, List.mem_append, List.mem_singleton] at hv
  rcases hv with hv | hv | hv | rfl
  · exact us_one hv
  · exact us_one hv
  · exact bs_one hv
  · rfl
structure Sm (w : World) (b : Nat) (N K : List Nat) (B : List UInt8) (n : Nat) : Prop where
  rn : Row w b 0 (us N)
  rk : Row w b 8 (us K)
  ry : Row w b 72 (bs B)
  rl : Row w b 136 [.int .u64 (n : Int)]
  nN : N.length = 8
  nK : K.length = 64
  nB : B.length = 64
theorem Sm.of {w : World} {b : Nat} {N K : List Nat} {B : List UInt8} {n : Nat} (h : Row w b 0 (scs N K B n)) (nN : N.length = 8) (nK : K.length = 64) (nB : B.length = 64) : Sm w b N K B n := by
  have h1 := h.right
  rw [us_length, nN] at h1
  have h2 := h1.right
  rw [us_length, nK] at h2
  have h3 := h2.right
  rw [bs_length, nB] at h3
  exact ⟨h.left, h1.left, h2.left, h3, nN, nK, nB⟩
theorem Sm.row {w : World} {b : Nat} {N K : List Nat} {B : List UInt8} {n : Nat} (h : Sm w b N K B n) : Row w b 0 (scs N K B n) := by
  refine h.rn.join ?_
  rw [us_length, h.nN]
  refine h.rk.join ?_
  rw [us_length, h.nK]
  refine h.ry.join ?_
  rw [bs_length, h.nB]
  exact h.rl
theorem Sm.lt {w : World} {b : Nat} {N K : List Nat} {B : List UInt8} {n : Nat} (h : Sm w b N K B n) : b < w.heap.size := h.rn.lt
theorem Sm.len {w : World} {b : Nat} {N K : List Nat} {B : List UInt8} {n : Nat} (h : Sm w b N K B n) : (scs N K B n).length = 137 := by rw [scs_length, h.nN, h.nK, h.nB]
theorem Sm.below {w w' : World} {b B0 : Nat} {N K : List Nat} {B : List UInt8} {n : Nat} (h : Sm w b N K B n) (k : Below B0 w w') (hb : b < B0) : Sm w' b N K B n :=
  ⟨h.rn.below k hb, h.rk.below k hb, h.ry.below k hb, h.rl.below k hb, h.nN, h.nK, h.nB⟩
theorem Sm.drew {w : World} {b : Nat} {N K : List Nat} {B : List UInt8} {n : Nat} (h : Sm w b N K B n) : Sm w.drew b N K B n := ⟨h.rn.drew, h.rk.drew, h.ry.drew, h.rl.drew, h.nN, h.nK, h.nB⟩
theorem Sm.bt {w w' : World} {b c : Nat} {N K : List Nat} {B : List UInt8} {n : Nat} (h : Sm w b N K B n) (k : Bt c w w') (hne : b ≠ c) : Sm w' b N K B n :=
  ⟨h.rn.bt k hne, h.rk.bt k hne, h.ry.bt k hne, h.rl.bt k hne, h.nN, h.nK, h.nB⟩
theorem Sm.setn {w : World} {b : Nat} {N K : List Nat} {B : List UInt8} {n : Nat} (h : Sm w b N K B n) (i x : Nat) (hi : i < 8) : Sm (w.setCell ⟨b, i, none⟩ (.int .u32 (x : Int))) b (N.set i x) K B n := by
  have e := h.nN
  refine ⟨?_, h.rk.other _ _ _ (.inr (.inl hi)), h.ry.other _ _ _ (.inr (.inl (by omega))), h.rl.other _ _ _ (.inr (.inl (by omega))), by rw [List.length_set]; exact e, h.nK, h.nB⟩
  rw [us_set]
  exact h.rn.set0 (by rw [us_length]; omega) _
theorem Sm.setk {w : World} {b : Nat} {N K : List Nat} {B : List UInt8} {n : Nat} (h : Sm w b N K B n) (i x : Nat) (hi : i < 64) : Sm (w.setCell ⟨b, 8 + i, none⟩ (.int .u32 (x : Int))) b N (K.set i x) B n := by
  have e := h.nN
  have e2 := h.nK
  refine ⟨h.rn.other _ _ _ (.inr (.inr (by rw [us_length]; omega))), ?_, h.ry.other _ _ _ (.inr (.inl (by omega))), h.rl.other _ _ _ (.inr (.inl (by omega))), e, by rw [List.length_set]; exact e2, h.nB⟩
  rw [us_set]
  exact h.rk.set (by rw [us_length]; omega) _
theorem Sm.setl {w : World} {b : Nat} {N K : List Nat} {B : List UInt8} {n : Nat} (h : Sm w b N K B n) (m : Nat) : Sm (w.setCell ⟨b, 136, none⟩ (.int .u64 (m : Int))) b N K B m := by
  have e := h.nN
  have e2 := h.nK
  have e3 := h.nB
  refine ⟨h.rn.other _ _ _ (.inr (.inr (by rw [us_length]; omega))), h.rk.other _ _ _ (.inr (.inr (by rw [us_length]; omega))), h.ry.other _ _ _ (.inr (.inr (by rw [bs_length]; omega))), ?_, e, e2, e3⟩
  exact h.rl.set (i := 0) (by simp) _
theorem Sm.putn {w : World} {b : Nat} {N K : List Nat} {B : List UInt8} {n : Nat} (h : Sm w b N K B n) (M : List Nat) (hM : M.length = 8) : Sm (w.setCells b 0 (us M)) b M K B n := by
  have e := h.nN
  refine ⟨h.rn.put _ (by rw [us_length, us_length, hM, e]), h.rk.apart _ _ _ (.inr (.inr (by rw [us_length]; omega))), h.ry.apart _ _ _ (.inr (.inr (by rw [us_length]; omega))), h.rl.apart _ _ _ (.inr (.inr (by rw [us_length]; omega))), hM, h.nK, h.nB⟩
theorem row_split {w : World} {b o : Nat} {B x : List UInt8} {t : Nat} (h : Row w b o (bs B)) (ht : t + x.length ≤ B.length) : Row (w.setCells b (o + t) (bs x)) b o (bs (B.take t ++ (x ++ B.drop (t + x.length)))) := by
  have e : B = B.take t ++ ((B.drop t).take x.length ++ B.drop (t + x.length)) := by
    rw [← List.drop_drop, List.take_append_drop, List.take_append_drop]
  rw [e, bs_app, bs_app] at h
  have l1 : (bs (B.take t)).length = t := by rw [bs_length, List.length_take]; omega
  have l2 : (bs ((B.drop t).take x.length)).length = x.length := by rw [bs_length, List.length_take, List.length_drop]; omega
  have h1 := h.left
  have h2 := h.right
  rw [l1] at h2
  have h3 := h2.left
  have h4 := h2.right
  rw [l2] at h4
  rw [bs_app, bs_app]
  refine (h1.apart b (o + t) (bs x) (.inr (.inl (by rw [l1]; exact Nat.le_refl _)))).join ?_
  rw [l1]
  refine (h3.put (bs x) (by rw [l2, bs_length])).join ?_
  rw [bs_length]
  exact h4.apart b (o + t) (bs x) (.inr (.inr (by rw [bs_length]; exact Nat.le_refl _)))
theorem Sm.putb {w : World} {b : Nat} {N K : List Nat} {B : List UInt8} {n : Nat} (h : Sm w b N K B n) (t : Nat) (x : List UInt8) (ht : t + x.length ≤ 64) : Sm (w.setCells b (72 + t) (bs x)) b N K (B.take t ++ (x ++ B.drop (t + x.length))) n := by
  have e := h.nN
  have e2 := h.nK
  have e3 := h.nB
  refine ⟨h.rn.apart _ _ _ (.inr (.inl (by rw [us_length]; omega))), h.rk.apart _ _ _ (.inr (.inl (by rw [us_length]; omega))), row_split h.ry (by omega), h.rl.apart _ _ _ (.inr (.inr (by rw [bs_length]; omega))), e, e2, ?_⟩
  simp; omega

/-- The hash at block b has taken in l. -/
structure Ss (w : World) (b : Nat) (l : List UInt8) : Prop where
  ex : ∃ B, B.take (l.length % 64) = l.drop (64 * (l.length / 64)) ∧ Sm w b (sst skc siv l (l.length / 64)) skc B l.length
theorem Ss.lt {w : World} {b : Nat} {l : List UInt8} (h : Ss w b l) : b < w.heap.size := by
  obtain ⟨B, _, h⟩ := h.ex
  exact h.lt
theorem Ss.below {w w' : World} {b : Nat} {l : List UInt8} (h : Ss w b l) (k : Below w.heap.size w w') : Ss w' b l := by
  have := h.lt
  obtain ⟨B, e, h⟩ := h.ex
  exact ⟨B, e, h.below k this⟩
theorem Ss.drew {w : World} {b : Nat} {l : List UInt8} (h : Ss w b l) : Ss w.drew b l := by
  obtain ⟨B, e, h⟩ := h.ex
  exact ⟨B, e, h.drew⟩
theorem Ss.bt {w w' : World} {b c : Nat} {l : List UInt8} (h : Ss w b l) (k : Bt c w w') (hne : b ≠ c) : Ss w' b l := by
  obtain ⟨B, e, h⟩ := h.ex
  exact ⟨B, e, h.bt k hne⟩
theorem Ss.first {w : World} {b : Nat} {B : List UInt8} (h : Sm w b siv skc B 0) : Ss w b [] := ⟨B, rfl, h⟩
end Go.Proofs.Ytdcmjmmfclhfbaa
