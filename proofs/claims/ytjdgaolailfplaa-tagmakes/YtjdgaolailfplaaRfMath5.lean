/- What the document reckons, in plain numbers: the padded bytes, a block taken in, the sixteen numbers ahead of the rounds. No call is walked here. -/
import Derived.Test.YtjdgaolailfplaaRfRows
namespace Go.Proofs.Ytjdgaolailfplaa
open Go.RowKit Bk
set_option linter.unusedVariables false
set_option linter.unusedSimpArgs false

theorem rnd_eight (m V : List Nat) (r : Nat) : rnd m r V 8 =
    mx (mx (mx (mx (mx (mx (mx (mx V 0 4 8 12 (at' m (at' rows (16 * r + 0))) (at' m (at' rows (16 * r + 1)))) 1 5 9 13 (at' m (at' rows (16 * r + 2))) (at' m (at' rows (16 * r + 3)))) 2 6 10 14 (at' m (at' rows (16 * r + 4))) (at' m (at' rows (16 * r + 5)))) 3 7 11 15 (at' m (at' rows (16 * r + 6))) (at' m (at' rows (16 * r + 7))))
      0 5 10 15 (at' m (at' rows (16 * r + 8))) (at' m (at' rows (16 * r + 9)))) 1 6 11 12 (at' m (at' rows (16 * r + 10))) (at' m (at' rows (16 * r + 11)))) 2 7 8 13 (at' m (at' rows (16 * r + 12))) (at' m (at' rows (16 * r + 13)))) 3 4 9 14 (at' m (at' rows (16 * r + 14))) (at' m (at' rows (16 * r + 15))) := rfl
theorem by_pad (l : List UInt8) (n j : Nat) : by' (l ++ List.replicate n 0) j = by' l j := by
  by_cases h : j < l.length
  · exact by_app _ _ _ h
  · rw [by_app2 _ _ _ (by omega), by_out l j (by omega)]
    unfold by'
    simp [List.getD_eq_getElem?_getD, List.getElem?_replicate]
    split <;> rfl
theorem nums_pad (l : List UInt8) (n q : Nat) : nums ((l ++ List.replicate n 0).drop (64 * q)) = nums (l.drop (64 * q)) := by
  apply nums_ext
  intro j _
  rw [by_drop, by_drop, by_pad]
/-- The numbers behind q blocks, the last one as the last. -/
def hq (h : List Nat) (l : List UInt8) (q : Nat) : List Nat := if q ≤ qn l.length then st h l q else fin h l
theorem hq_length {h : List Nat} (h8 : h.length = 8) (l : List UInt8) (q : Nat) : (hq h l q).length = 8 := by
  unfold hq; split
  · exact st_length h8 _ _
  · exact cmp_length _ _ _ _
theorem hq_lt {h : List Nat} (lh : Lt h) (l : List UInt8) (q : Nat) : Lt (hq h l q) := by
  unfold hq; split
  · exact st_lt lh _ _
  · exact cmp_lt (st_lt lh _ _) _ _ _
theorem hq_zero (h : List Nat) (l : List UInt8) : hq h l 0 = h := by unfold hq; rw [if_pos (Nat.zero_le _)]; rfl
theorem hq_all (h : List Nat) (l : List UInt8) : hq h l (qn l.length + 1) = fin h l := by unfold hq; rw [if_neg (by omega)]
theorem hq_more (h : List Nat) (l : List UInt8) (n q : Nat) (hlt : q < qn l.length) : cmp (hq h l q) (64 * q + 64) (nums ((l ++ List.replicate n 0).drop (64 * q))) false = hq h l (q + 1) := by
  rw [nums_pad]
  unfold hq
  rw [if_pos (by omega), if_pos (by omega)]
  rfl
theorem hq_last (h : List Nat) (l : List UInt8) (n : Nat) : cmp (hq h l (qn l.length)) l.length (nums ((l ++ List.replicate n 0).drop (64 * qn l.length))) true = hq h l (qn l.length + 1) := by
  rw [nums_pad, hq_all]
  unfold hq
  rw [if_pos (Nat.le_refl _)]
  rfl
theorem cmp_xor (h : List Nat) (t : Nat) (m : List Nat) (last : Bool) : cmp h t m last = tab 8 fun j => (at' h j ^^^ at' (rds m (ini h t last) 10) j) ^^^ at' (rds m (ini h t last) 10) (j + 8) := by
  unfold cmp
  apply tab_ext
  intro j _
  rw [Nat.xor_assoc]
theorem iv_six : at' iv 6 ^^^ 4294967295 = 4294967295 - at' iv 6 := by decide +kernel
theorem iv_length : iv.length = 8 := rfl
theorem at_app {l k : List Nat} (j : Nat) : at' (l ++ k) j = if j < l.length then at' l j else at' k (j - l.length) := by
  unfold at'
  simp only [List.getD_eq_getElem?_getD]
  split
  · rename_i h; rw [List.getElem?_append_left h]
  · rename_i h; rw [List.getElem?_append_right (by omega)]
theorem ini_no (h : List Nat) (t : Nat) (h8 : h.length = 8) : ((h ++ iv).set 12 (at' iv 4 ^^^ (t % 4294967296))).set 13 (at' iv 5 ^^^ (t / 4294967296 % 4294967296)) = ini h t false := by
  have hl : (h ++ iv).length = 16 := by rw [List.length_append, h8, iv_length]
  apply at_ext (by rw [List.length_set, List.length_set, hl, ini_length])
  intro j hj
  rw [List.length_set, List.length_set, hl] at hj
  rw [at_set _ _ _ _ (by rw [List.length_set, hl]; decide), at_set _ _ _ _ (by rw [hl]; decide), at_app, h8]
  unfold ini
  rw [tab_at _ _ _ hj]
  by_cases e1 : j < 8
  · have a1 : j ≠ 13 := by omega
    have a2 : j ≠ 12 := by omega
    rw [if_neg a1, if_neg a2, if_pos e1, if_pos e1]
  · rw [if_neg e1, if_neg e1]
    by_cases e2 : j = 12
    · subst e2; simp
    · by_cases e3 : j = 13
      · subst e3; simp
      · rw [if_neg e3, if_neg e2, if_neg e2, if_neg e3]
        by_cases e4 : j = 14
        · subst e4; simp
        · rw [if_neg e4]
theorem ini_yes (h : List Nat) (t : Nat) (h8 : h.length = 8) : (((h ++ iv).set 12 (at' iv 4 ^^^ (t % 4294967296))).set 13 (at' iv 5 ^^^ (t / 4294967296 % 4294967296))).set 14 (at' iv 6 ^^^ 4294967295) = ini h t true := by
  rw [ini_no h t h8]
  apply at_ext (by rw [List.length_set, ini_length, ini_length])
  intro j hj
  rw [List.length_set, ini_length] at hj
  rw [at_set _ _ _ _ (by rw [ini_length]; decide)]
  unfold ini
  rw [tab_at _ _ _ hj, tab_at _ _ _ hj, iv_six]
  by_cases e4 : j = 14
  · subst e4; simp
  · rw [if_neg e4]
    simp only [if_neg e4]
theorem h0_again (k : Nat) : iv.set 0 ((1779033703 ^^^ 16842784) ^^^ (k * 256)) = h0 k := by unfold h0; rw [Nat.xor_assoc]
theorem us_tab_succ (f : Nat → Nat) (i : Nat) : us (tab (i + 1) f) = us (tab i f) ++ [.int .u32 ((f i : Nat) : Int)] := by
  unfold tab
  rw [List.range_succ, List.map_append, us_app]
  rfl
theorem append_zero {ops : Array Oper} {rest : List Oper} {o : Oper} {a : Act} {w0 : World} {Q : Exit → Act → World → Prop} (hg : o.guard = none) (d x : Operand) (ho : o.op = .call { callee := .builtin .append, args := #[d, x], argTypes := #[31, 31] })
    {B n : Nat} {v : Value} {xs : List UInt8} (hd : a.eval d = v) (hx : a.eval x = .slice (some ⟨w0.heap.size, 0, none⟩) 1 1) (hO : Ow w0 B v n (bs xs)) (hn : n + 1 ≤ 1000000) (hB : B ≤ w0.heap.size)
    (h : ∀ v' w', Ow w' B v' (n + 1) (bs (xs ++ [0])) → Below B w0 w' → wpList Try.prog ops Q rest (a.put o.dst v') w') : wpList Try.prog ops Q (o :: rest) a (w0.alloc (.cells #[.int .u8 0] 5)) :=
  wpList_appendO hg d x 31 31 ho 5 Try.underlying31 info8' (by decide) rfl (m := 1) (news := [.int .u8 0]) hd hx (hO.keep ((Below.refl _ w0).alloc (Nat.le_refl _) (.cells #[.int .u8 0] 5)))
    ((Row.newL w0 [.int .u8 0] 5).src (n := 1) (cap := 1) rfl Try.underlying31 (fun u hu => by simp at hu; subst hu; rfl)) hn (by simp; omega) (fun u hu => bs_one hu)
    fun v' w' hO' hB' => h v' w' (by rw [bs_app]; exact hO') (((Below.refl B w0).alloc hB _).trans hB')
/-- The numbers on their way: i of them are the new ones. -/
def upd (H R : List Nat) (i : Nat) : List Nat := tab 8 fun j => if j < i then (at' H j ^^^ at' R j) ^^^ at' R (j + 8) else at' H j
theorem upd_length (H R : List Nat) (i : Nat) : (upd H R i).length = 8 := tab_length _ _
theorem upd_zero {H R : List Nat} (h8 : H.length = 8) : upd H R 0 = H := by
  apply at_ext (by rw [upd_length, h8])
  intro j hj
  rw [upd_length] at hj
  unfold upd
  rw [tab_at _ _ _ hj, if_neg (by omega)]
theorem upd_at (H R : List Nat) (i : Nat) (hi : i < 8) : at' (upd H R i) i = at' H i := by
  unfold upd; rw [tab_at _ _ _ hi, if_neg (by omega)]
theorem upd_set (H R : List Nat) (i : Nat) (hi : i < 8) : (upd H R i).set i ((at' H i ^^^ at' R i) ^^^ at' R (i + 8)) = upd H R (i + 1) := by
  apply at_ext (by rw [List.length_set, upd_length, upd_length])
  intro j hj
  rw [List.length_set, upd_length] at hj
  rw [at_set _ _ _ _ (by rw [upd_length]; exact hi)]
  unfold upd
  rw [tab_at _ _ _ hj, tab_at _ _ _ hj]
  by_cases e : j = i
  · subst e; rw [if_pos rfl, if_pos (by omega)]
  · rw [if_neg e]
    by_cases e2 : j < i
    · rw [if_pos e2, if_pos (by omega)]
    · rw [if_neg e2, if_neg (by omega)]
theorem upd_all (h : List Nat) (t : Nat) (m : List Nat) (last : Bool) : upd h (rds m (ini h t last) 10) 8 = cmp h t m last := by
  rw [cmp_xor]
  apply tab_ext
  intro j hj
  rw [if_pos hj]
theorem rds_succ (m v : List Nat) (r : Nat) : rds m v (r + 1) = rnd m r (rds m v r) 8 := rfl
theorem hq_last_at (h : List Nat) (l : List UInt8) (n q : Nat) (e : q = qn l.length) : cmp (hq h l q) l.length (nums ((l ++ List.replicate n 0).drop (64 * q))) true = hq h l (q + 1) := by
  subst e; exact hq_last h l n
end Go.Proofs.Ytjdgaolailfplaa
