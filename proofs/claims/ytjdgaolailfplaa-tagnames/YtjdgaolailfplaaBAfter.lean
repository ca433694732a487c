/- A block taken in, walked. For eight numbers of 32 bits, a count, a block of 64 bytes: the call returns what BMath says in memory of its own, and leaves what was there. -/
import Derived.Test.YtjdgaolailfplaaMixed
namespace Go.Proofs.Ytjdgaolailfplaa
open Go.RowKit Bk
set_option linter.unusedVariables false

/-- A state's cells: eight numbers, and how many bytes are gone through. -/
def stv (h : List Nat) (t : Nat) : List Value := us h ++ [.int .u64 (t : Int)]
theorem stv_length (h : List Nat) (t : Nat) : (stv h t).length = h.length + 1 := by simp [stv, us_length]
theorem stv_one {h : List Nat} {t : Nat} {v : Value} (hv : v ∈ stv h t) : v.oneCell' = true := by
  simp only [stv, List.mem_append, List.mem_singleton] at hv
  rcases hv with hv | rfl
  · exact us_one hv
  · rfl

structure Af (w0 w : World) (h : List Nat) (t : Nat) (l : List UInt8) (v : List Nat) : Prop where
  s : Row w w0.heap.size 0 (us h)
  n : Row w w0.heap.size 8 [.int .u64 (t : Int)]
  b : Row w (w0.heap.size + 1) 0 (bs l)
  r : Row w (w0.heap.size + 1 + 1) 0 (stv (List.replicate 8 0) 0)
  v : Row w (w0.heap.size + 1 + 1 + 1) 0 (us v)
  be : Below w0.heap.size w0 w
theorem Af.below {w0 w w' : World} {h : List Nat} {t : Nat} {l : List UInt8} {v : List Nat} (a : Af w0 w h t l v) (k : Below w.heap.size w w') : Af w0 w' h t l v :=
  ⟨a.s.below k a.s.lt, a.n.below k a.n.lt, a.b.below k a.b.lt, a.r.below k a.r.lt, a.v.below k a.v.lt, a.be.trans (k.mono (Nat.le_of_lt a.s.lt))⟩
theorem Af.drew {w0 w : World} {h : List Nat} {t : Nat} {l : List UInt8} {v : List Nat} (a : Af w0 w h t l v) : Af w0 w.drew h t l v :=
  ⟨a.s.drew, a.n.drew, a.b.drew, a.r.drew, a.v.drew, a.be.drew⟩
theorem Af.setv {w0 w : World} {h : List Nat} {t : Nat} {l : List UInt8} {v : List Nat} (a : Af w0 w h t l v) (i x : Nat) (hi : i < v.length) : Af w0 (w.setCell ⟨w0.heap.size + 1 + 1 + 1, i, none⟩ (.int .u32 (x : Int))) h t l (v.set i x) := by
  refine ⟨a.s.other _ _ _ (.inl (by omega)), a.n.other _ _ _ (.inl (by omega)), a.b.other _ _ _ (.inl (by omega)), a.r.other _ _ _ (.inl (by omega)), ?_, a.be.setCell (by simp; omega) _⟩
  rw [us_set]
  exact a.v.set0 (by rw [us_length]; exact hi) _
theorem Af.seth {w0 w : World} {h : List Nat} {t : Nat} {l : List UInt8} {v : List Nat} (a : Af w0 w h t l v) (i x : Nat) (hi : i < h.length) (h8 : h.length = 8) : Af w0 (w.setCell ⟨w0.heap.size, i, none⟩ (.int .u32 (x : Int))) (h.set i x) t l v := by
  refine ⟨?_, a.n.other _ _ _ (.inr (.inl (by omega))), a.b.other _ _ _ (.inl (by omega)), a.r.other _ _ _ (.inl (by omega)), a.v.other _ _ _ (.inl (by omega)), a.be.setCell (Nat.le_refl _) _⟩
  rw [us_set]
  exact a.s.set0 (by rw [us_length]; exact hi) _
theorem Af.putv {w0 w : World} {h : List Nat} {t : Nat} {l : List UInt8} {v : List Nat} (a : Af w0 w h t l v) (u : List Nat) (hu : u.length = v.length) : Af w0 (w.setCells (w0.heap.size + 1 + 1 + 1) 0 (us u)) h t l u :=
  ⟨a.s.apart _ _ _ (.inl (by omega)), a.n.apart _ _ _ (.inl (by omega)), a.b.apart _ _ _ (.inl (by omega)), a.r.apart _ _ _ (.inl (by omega)), a.v.put _ (by rw [us_length, us_length, hu]), a.be.trans (below_setCells (by omega) _ _ _)⟩

/-- The numbers ahead of the rounds, k of eight laid. -/
def iupto (h : List Nat) (k : Nat) : List Nat := tab 16 fun j => if j < k then at' h j else if 8 ≤ j ∧ j < 8 + k then at' iv (j - 8) else 0
theorem iupto_len (h : List Nat) (k : Nat) : (iupto h k).length = 16 := tab_length _ _
theorem iupto_succ (h : List Nat) (k : Nat) (hk : k < 8) : iupto h (k + 1) = ((iupto h k).set k (at' h k)).set (k + 8) (at' iv k) := by
  apply at_ext (by rw [iupto_len, List.length_set, List.length_set, iupto_len])
  intro j hj
  rw [iupto_len] at hj
  rw [at_set _ _ _ _ (by rw [List.length_set, iupto_len]; omega), at_set _ _ _ _ (by rw [iupto_len]; omega)]
  unfold iupto
  rw [tab_at _ _ _ hj, tab_at _ _ _ hj]
  by_cases e : j = k + 8
  · rw [if_neg (by omega), if_pos (by omega), if_pos e, e, Nat.add_sub_cancel]
  · rw [if_neg e]
    by_cases e2 : j = k
    · rw [if_pos (by omega), if_pos e2, e2]
    · rw [if_neg e2]
      by_cases e3 : j < k
      · rw [if_pos e3, if_pos (by omega)]
      · rw [if_neg e3, if_neg (by omega)]
        by_cases e4 : 8 ≤ j ∧ j < 8 + k
        · rw [if_pos e4, if_pos (by omega)]
        · rw [if_neg e4, if_neg (by omega)]
theorem iupto_zero (h : List Nat) : iupto h 0 = List.replicate 16 0 := rfl
theorem iupto_at12 (h : List Nat) : at' (iupto h 8) 12 = at' iv 4 := rfl
theorem iupto_at13 (h : List Nat) : at' (iupto h 8) 13 = at' iv 5 := rfl
theorem iupto_at14 (h : List Nat) : at' (iupto h 8) 14 = at' iv 6 := rfl
theorem ini_false (h : List Nat) (t : Nat) : ini h t false = ((iupto h 8).set 12 (at' iv 4 ^^^ (t % 4294967296))).set 13 (at' iv 5 ^^^ (t / 4294967296 % 4294967296)) := by
  apply at_ext (by rw [ini_length, List.length_set, List.length_set, iupto_len])
  intro j hj
  rw [ini_length] at hj
  rw [at_set _ _ _ _ (by rw [List.length_set, iupto_len]; omega), at_set _ _ _ _ (by rw [iupto_len]; omega)]
  unfold ini iupto
  rw [tab_at _ _ _ hj, tab_at _ _ _ hj]
  by_cases e1 : j < 8
  · rw [if_pos e1, if_neg (show ¬ j = 13 by omega), if_neg (show ¬ j = 12 by omega), if_pos e1]
  · rw [if_neg e1]
    by_cases e2 : j = 12
    · rw [if_pos e2, if_neg (show ¬ j = 13 by omega), if_pos e2]
    · by_cases e3 : j = 13
      · rw [if_neg e2, if_pos e3, if_pos e3]
      · rw [if_neg e2, if_neg e3, if_neg e3, if_neg e2, if_neg e1, if_pos (show 8 ≤ j ∧ j < 8 + 8 by omega)]
        by_cases e4 : j = 14
        · rw [if_pos e4, e4, if_neg (by decide)]
        · rw [if_neg e4]
theorem ini_true (h : List Nat) (t : Nat) : ini h t true = (ini h t false).set 14 (4294967295 - at' iv 6) := by
  apply at_ext (by rw [ini_length, List.length_set, ini_length])
  intro j hj
  rw [ini_length] at hj
  rw [at_set _ _ _ _ (by rw [ini_length]; omega)]
  unfold ini
  rw [tab_at _ _ _ hj, tab_at _ _ _ hj]
  by_cases e4 : j = 14
  · rw [if_pos e4, if_neg (show ¬ j < 8 by omega), if_neg (show ¬ j = 12 by omega), if_neg (show ¬ j = 13 by omega), if_pos e4, if_pos rfl]
  · rw [if_neg e4, if_neg e4, if_neg e4]

/-- The numbers behind the rounds, k of eight taken into h. -/
def cupto (h v : List Nat) (k : Nat) : List Nat := tab 8 fun j => if j < k then at' h j ^^^ (at' v j ^^^ at' v (j + 8)) else at' h j
theorem cupto_len (h v : List Nat) (k : Nat) : (cupto h v k).length = 8 := tab_length _ _
theorem cupto_zero (h v : List Nat) (h8 : h.length = 8) : cupto h v 0 = h := by
  have := at_tab h
  rw [h8] at this
  exact (tab_ext fun j hj => if_neg (by omega)).trans this
theorem cupto_at (h v : List Nat) (k : Nat) (hk : k < 8) : at' (cupto h v k) k = at' h k := by
  unfold cupto; rw [tab_at _ _ _ hk, if_neg (by omega)]
theorem cupto_succ (h v : List Nat) (k : Nat) (hk : k < 8) : cupto h v (k + 1) = (cupto h v k).set k (at' h k ^^^ (at' v k ^^^ at' v (k + 8))) := by
  apply at_ext (by rw [cupto_len, List.length_set, cupto_len])
  intro j hj
  rw [cupto_len] at hj
  rw [at_set _ _ _ _ (by rw [cupto_len]; exact hk)]
  unfold cupto
  rw [tab_at _ _ _ hj, tab_at _ _ _ hj]
  by_cases e : j = k
  · rw [if_pos (by omega), if_pos e, e]
  · rw [if_neg e]
    by_cases e2 : j < k
    · rw [if_pos e2, if_pos (by omega)]
    · rw [if_neg e2, if_neg (by omega)]
theorem cupto_all (h : List Nat) (t : Nat) (m : List Nat) (last : Bool) : cupto h (rds m (ini h t last) 10) 8 = cmp h t m last := tab_ext fun j hj => if_pos hj

end Go.Proofs.Ytjdgaolailfplaa
