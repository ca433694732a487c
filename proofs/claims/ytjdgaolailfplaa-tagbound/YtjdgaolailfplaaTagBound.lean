/- For whatever arguments the statement TagBound returns true and its arguments read as before. No condition. -/
import Derived.Test.YtjdgaolailfplaaTagA
namespace Go.Proofs.Ytjdgaolailfplaa
open Go.ChangeShapes Go.WideShapes Go.ChangeAt Go.RowKit Bk
open Go.ChangeMaps (open_string shut_string)
set_option linter.unusedVariables false
set_option linter.unusedSimpArgs false

set_option maxRecDepth 100000 in
set_option maxHeartbeats 8000000 in
theorem tagBound_big0 (w : World) (i : ByteArray) (n m : Int) (t : ByteArray) (j : ByteArray) (p q : Int) (u : ByteArray) (s : ByteArray)  (g0 : 100 < i.size) :
    Calls Try.prog 5 #[.agg #[.string i, .int .i64 n, .int .i64 m, .string t], .agg #[.string j, .int .i64 p, .int .i64 q, .string u], .string s] w fun e w' => e = .returned (.bool true) ∧ Below w.heap.size w w' := by
  have f0 : (100 : Int) < (i.size : Int) := by omega
  clear g0
  obtain ⟨W, eW, hB, hC⟩ := of_world2 w i n m t j p q u
  have HX0 := hide (Below.refl W.heap.size W)
  have HB := hide hB
  have HC := hide hC
  obtain ⟨a0, a1, a2, a3, b0, b1, b2, b3⟩ := HC.out _ HX0.out
  clear hB hC
  go_enter Try.func5, Try.ntmps5
  go_wp2_with fail
  refine (tawake_any _).mono ?_
  rintro e w1 ⟨rfl, hw1⟩
  have HXw1 := hide (HX0.out.trans (hw1.mono HX0.out.size))
  clear hw1 HX0 a0 a1 a2 a3 b0 b1 b2 b3
  obtain ⟨a0, a1, a2, a3, b0, b1, b2, b3⟩ := HC.out _ HXw1.out
  go_wp2_with fail
  go_ret
  exact ⟨rfl, HB.out.trans (HXw1.out.mono HB.out.size)⟩

set_option maxRecDepth 100000 in
set_option maxHeartbeats 8000000 in
theorem tagBound_big1 (w : World) (i : ByteArray) (n m : Int) (t : ByteArray) (j : ByteArray) (p q : Int) (u : ByteArray) (s : ByteArray) (g0 : ¬ (100 < i.size)) (g1 : 3000 < t.size) :
    Calls Try.prog 5 #[.agg #[.string i, .int .i64 n, .int .i64 m, .string t], .agg #[.string j, .int .i64 p, .int .i64 q, .string u], .string s] w fun e w' => e = .returned (.bool true) ∧ Below w.heap.size w w' := by
  have f0 : ¬ ((100 : Int) < (i.size : Int)) := by omega
  have f1 : (3000 : Int) < (t.size : Int) := by omega
  clear g0 g1
  obtain ⟨W, eW, hB, hC⟩ := of_world2 w i n m t j p q u
  have HX0 := hide (Below.refl W.heap.size W)
  have HB := hide hB
  have HC := hide hC
  obtain ⟨a0, a1, a2, a3, b0, b1, b2, b3⟩ := HC.out _ HX0.out
  clear hB hC
  go_enter Try.func5, Try.ntmps5
  go_wp2_with fail
  refine (tawake_any _).mono ?_
  rintro e w1 ⟨rfl, hw1⟩
  have HXw1 := hide (HX0.out.trans (hw1.mono HX0.out.size))
  clear hw1 HX0 a0 a1 a2 a3 b0 b1 b2 b3
  obtain ⟨a0, a1, a2, a3, b0, b1, b2, b3⟩ := HC.out _ HXw1.out
  go_wp2_with fail
  go_ret
  exact ⟨rfl, HB.out.trans (HXw1.out.mono HB.out.size)⟩

set_option maxRecDepth 100000 in
set_option maxHeartbeats 8000000 in
theorem tagBound_big2 (w : World) (i : ByteArray) (n m : Int) (t : ByteArray) (j : ByteArray) (p q : Int) (u : ByteArray) (s : ByteArray) (g0 : ¬ (100 < i.size)) (g1 : ¬ (3000 < t.size)) (g2 : 100 < j.size) :
    Calls Try.prog 5 #[.agg #[.string i, .int .i64 n, .int .i64 m, .string t], .agg #[.string j, .int .i64 p, .int .i64 q, .string u], .string s] w fun e w' => e = .returned (.bool true) ∧ Below w.heap.size w w' := by
  have f0 : ¬ ((100 : Int) < (i.size : Int)) := by omega
  have f1 : ¬ ((3000 : Int) < (t.size : Int)) := by omega
  have f2 : (100 : Int) < (j.size : Int) := by omega
  clear g0 g1 g2
  obtain ⟨W, eW, hB, hC⟩ := of_world2 w i n m t j p q u
  have HX0 := hide (Below.refl W.heap.size W)
  have HB := hide hB
  have HC := hide hC
  obtain ⟨a0, a1, a2, a3, b0, b1, b2, b3⟩ := HC.out _ HX0.out
  clear hB hC
  go_enter Try.func5, Try.ntmps5
  go_wp2_with fail
  refine (tawake_any _).mono ?_
  rintro e w1 ⟨rfl, hw1⟩
  have HXw1 := hide (HX0.out.trans (hw1.mono HX0.out.size))
  clear hw1 HX0 a0 a1 a2 a3 b0 b1 b2 b3
  obtain ⟨a0, a1, a2, a3, b0, b1, b2, b3⟩ := HC.out _ HXw1.out
  go_wp2_with fail
  go_ret
  exact ⟨rfl, HB.out.trans (HXw1.out.mono HB.out.size)⟩

set_option maxRecDepth 100000 in
set_option maxHeartbeats 8000000 in
theorem tagBound_big3 (w : World) (i : ByteArray) (n m : Int) (t : ByteArray) (j : ByteArray) (p q : Int) (u : ByteArray) (s : ByteArray) (g0 : ¬ (100 < i.size)) (g1 : ¬ (3000 < t.size)) (g2 : ¬ (100 < j.size)) (g3 : 3000 < u.size) :
    Calls Try.prog 5 #[.agg #[.string i, .int .i64 n, .int .i64 m, .string t], .agg #[.string j, .int .i64 p, .int .i64 q, .string u], .string s] w fun e w' => e = .returned (.bool true) ∧ Below w.heap.size w w' := by
  have f0 : ¬ ((100 : Int) < (i.size : Int)) := by omega
  have f1 : ¬ ((3000 : Int) < (t.size : Int)) := by omega
  have f2 : ¬ ((100 : Int) < (j.size : Int)) := by omega
  have f3 : (3000 : Int) < (u.size : Int) := by omega
  clear g0 g1 g2 g3
  obtain ⟨W, eW, hB, hC⟩ := of_world2 w i n m t j p q u
  have HX0 := hide (Below.refl W.heap.size W)
  have HB := hide hB
  have HC := hide hC
  obtain ⟨a0, a1, a2, a3, b0, b1, b2, b3⟩ := HC.out _ HX0.out
  clear hB hC
  go_enter Try.func5, Try.ntmps5
  go_wp2_with fail
  refine (tawake_any _).mono ?_
  rintro e w1 ⟨rfl, hw1⟩
  have HXw1 := hide (HX0.out.trans (hw1.mono HX0.out.size))
  clear hw1 HX0 a0 a1 a2 a3 b0 b1 b2 b3
  obtain ⟨a0, a1, a2, a3, b0, b1, b2, b3⟩ := HC.out _ HXw1.out
  go_wp2_with fail
  go_ret
  exact ⟨rfl, HB.out.trans (HXw1.out.mono HB.out.size)⟩

set_option maxRecDepth 100000 in
set_option maxHeartbeats 8000000 in
theorem tagBound_big4 (w : World) (i : ByteArray) (n m : Int) (t : ByteArray) (j : ByteArray) (p q : Int) (u : ByteArray) (s : ByteArray) (g0 : ¬ (100 < i.size)) (g1 : ¬ (3000 < t.size)) (g2 : ¬ (100 < j.size)) (g3 : ¬ (3000 < u.size)) (g4 : 100 < s.size) :
    Calls Try.prog 5 #[.agg #[.string i, .int .i64 n, .int .i64 m, .string t], .agg #[.string j, .int .i64 p, .int .i64 q, .string u], .string s] w fun e w' => e = .returned (.bool true) ∧ Below w.heap.size w w' := by
  have f0 : ¬ ((100 : Int) < (i.size : Int)) := by omega
  have f1 : ¬ ((3000 : Int) < (t.size : Int)) := by omega
  have f2 : ¬ ((100 : Int) < (j.size : Int)) := by omega
  have f3 : ¬ ((3000 : Int) < (u.size : Int)) := by omega
  have f4 : (100 : Int) < (s.size : Int) := by omega
  clear g0 g1 g2 g3 g4
  obtain ⟨W, eW, hB, hC⟩ := of_world2 w i n m t j p q u
  have HX0 := hide (Below.refl W.heap.size W)
  have HB := hide hB
  have HC := hide hC
  obtain ⟨a0, a1, a2, a3, b0, b1, b2, b3⟩ := HC.out _ HX0.out
  clear hB hC
  go_enter Try.func5, Try.ntmps5
  go_wp2_with fail
  refine (tawake_any _).mono ?_
  rintro e w1 ⟨rfl, hw1⟩
  have HXw1 := hide (HX0.out.trans (hw1.mono HX0.out.size))
  clear hw1 HX0 a0 a1 a2 a3 b0 b1 b2 b3
  obtain ⟨a0, a1, a2, a3, b0, b1, b2, b3⟩ := HC.out _ HXw1.out
  go_wp2_with fail
  go_ret
  exact ⟨rfl, HB.out.trans (HXw1.out.mono HB.out.size)⟩

set_option maxRecDepth 100000 in
set_option maxHeartbeats 8000000 in
theorem tagBound_yn (w : World) (i : ByteArray) (n m : Int) (t : ByteArray) (j : ByteArray) (p q : Int) (u : ByteArray) (s : ByteArray) (g0 : ¬ (100 < i.size)) (g1 : ¬ (3000 < t.size)) (g2 : ¬ (100 < j.size)) (g3 : ¬ (3000 < u.size)) (g4 : ¬ (100 < s.size)) (hx : okOf i n m) (hy : ¬ okOf j p q) :
    Calls Try.prog 5 #[.agg #[.string i, .int .i64 n, .int .i64 m, .string t], .agg #[.string j, .int .i64 p, .int .i64 q, .string u], .string s] w fun e w' => e = .returned (.bool true) ∧ Below w.heap.size w w' := by
  have f0 : ¬ ((100 : Int) < (i.size : Int)) := by omega
  have f1 : ¬ ((3000 : Int) < (t.size : Int)) := by omega
  have f2 : ¬ ((100 : Int) < (j.size : Int)) := by omega
  have f3 : ¬ ((3000 : Int) < (u.size : Int)) := by omega
  have f4 : ¬ ((100 : Int) < (s.size : Int)) := by omega
  have hd1 := hide (show t.size ≤ 100000 by omega)
  have hd2 := hide (show u.size ≤ 100000 by omega)
  clear g0 g1 g2 g3 g4
  obtain ⟨MX, eMX⟩ : ∃ M, omk i n m t = M := ⟨_, rfl⟩
  have lX : MX.size = 8 := by rw [← eMX]; exact omk_size hx
  have HX := hide (And.intro (oer_ok hx) eMX)
  have HY := hide (And.intro (oer_no hy) (omk_no (d := u) hy))
  clear hx hy eMX
  obtain ⟨W, eW, hB, hC⟩ := of_world2 w i n m t j p q u
  have HX0 := hide (Below.refl W.heap.size W)
  have HB := hide hB
  have HC := hide hC
  obtain ⟨a0, a1, a2, a3, b0, b1, b2, b3⟩ := HC.out _ HX0.out
  clear hB hC
  go_enter Try.func5, Try.ntmps5
  go_wp2_with fail
  refine (tawake_any _).mono ?_
  rintro e w1 ⟨rfl, hw1⟩
  have HXw1 := hide (HX0.out.trans (hw1.mono HX0.out.size))
  clear hw1 HX0 a0 a1 a2 a3 b0 b1 b2 b3
  obtain ⟨a0, a1, a2, a3, b0, b1, b2, b3⟩ := HC.out _ HXw1.out
  go_wp2_with fail
  refine (make_any i n m t _ hd1.out).mono ?_
  rintro e w2 ⟨rfl, hw2⟩
  rw [HX.out.1, HX.out.2]
  have HXw2 := hide (HXw1.out.trans (hw2.mono HXw1.out.size))
  clear hw2 HXw1 a0 a1 a2 a3 b0 b1 b2 b3
  obtain ⟨a0, a1, a2, a3, b0, b1, b2, b3⟩ := HC.out _ HXw2.out
  go_wp2_with fail
  refine (make_any j p q u _ hd2.out).mono ?_
  rintro e w3 ⟨rfl, hw3⟩
  rw [HY.out.1, HY.out.2]
  have HXw3 := hide (HXw2.out.trans (hw3.mono HXw2.out.size))
  clear hw3 HXw2 a0 a1 a2 a3 b0 b1 b2 b3
  obtain ⟨a0, a1, a2, a3, b0, b1, b2, b3⟩ := HC.out _ HXw3.out
  go_wp2_with fail
  go_ret
  exact ⟨rfl, HB.out.trans (HXw3.out.mono HB.out.size)⟩

set_option maxRecDepth 100000 in
set_option maxHeartbeats 8000000 in
theorem tagBound_ny (w : World) (i : ByteArray) (n m : Int) (t : ByteArray) (j : ByteArray) (p q : Int) (u : ByteArray) (s : ByteArray) (g0 : ¬ (100 < i.size)) (g1 : ¬ (3000 < t.size)) (g2 : ¬ (100 < j.size)) (g3 : ¬ (3000 < u.size)) (g4 : ¬ (100 < s.size)) (hx : ¬ okOf i n m) (hy : okOf j p q) :
    Calls Try.prog 5 #[.agg #[.string i, .int .i64 n, .int .i64 m, .string t], .agg #[.string j, .int .i64 p, .int .i64 q, .string u], .string s] w fun e w' => e = .returned (.bool true) ∧ Below w.heap.size w w' := by
  have f0 : ¬ ((100 : Int) < (i.size : Int)) := by omega
  have f1 : ¬ ((3000 : Int) < (t.size : Int)) := by omega
  have f2 : ¬ ((100 : Int) < (j.size : Int)) := by omega
  have f3 : ¬ ((3000 : Int) < (u.size : Int)) := by omega
  have f4 : ¬ ((100 : Int) < (s.size : Int)) := by omega
  have hd1 := hide (show t.size ≤ 100000 by omega)
  have hd2 := hide (show u.size ≤ 100000 by omega)
  clear g0 g1 g2 g3 g4
  have HX := hide (And.intro (oer_no hx) (omk_no (d := t) hx))
  obtain ⟨MY, eMY⟩ : ∃ M, omk j p q u = M := ⟨_, rfl⟩
  have lY : MY.size = 8 := by rw [← eMY]; exact omk_size hy
  have HY := hide (And.intro (oer_ok hy) eMY)
  have HI := hide (ois_no (t := t) hx s)
  clear hx hy eMY
  obtain ⟨W, eW, hB, hC⟩ := of_world2 w i n m t j p q u
  have HX0 := hide (Below.refl W.heap.size W)
  have HB := hide hB
  have HC := hide hC
  obtain ⟨a0, a1, a2, a3, b0, b1, b2, b3⟩ := HC.out _ HX0.out
  clear hB hC
  go_enter Try.func5, Try.ntmps5
  go_wp2_with fail
  refine (tawake_any _).mono ?_
  rintro e w1 ⟨rfl, hw1⟩
  have HXw1 := hide (HX0.out.trans (hw1.mono HX0.out.size))
  clear hw1 HX0 a0 a1 a2 a3 b0 b1 b2 b3
  obtain ⟨a0, a1, a2, a3, b0, b1, b2, b3⟩ := HC.out _ HXw1.out
  go_wp2_with fail
  refine (make_any i n m t _ hd1.out).mono ?_
  rintro e w2 ⟨rfl, hw2⟩
  rw [HX.out.1, HX.out.2]
  have HXw2 := hide (HXw1.out.trans (hw2.mono HXw1.out.size))
  clear hw2 HXw1 a0 a1 a2 a3 b0 b1 b2 b3
  obtain ⟨a0, a1, a2, a3, b0, b1, b2, b3⟩ := HC.out _ HXw2.out
  go_wp2_with fail
  refine (make_any j p q u _ hd2.out).mono ?_
  rintro e w3 ⟨rfl, hw3⟩
  rw [HY.out.1, HY.out.2]
  have HXw3 := hide (HXw2.out.trans (hw3.mono HXw2.out.size))
  clear hw3 HXw2 a0 a1 a2 a3 b0 b1 b2 b3
  obtain ⟨a0, a1, a2, a3, b0, b1, b2, b3⟩ := HC.out _ HXw3.out
  go_wp2_with fail
  refine (is_any i n m t s _ hd1.out).mono ?_
  rintro e w4 ⟨rfl, hw4⟩
  rw [HI.out]
  have HXw4 := hide (HXw3.out.trans (hw4.mono HXw3.out.size))
  clear hw4 HXw3 a0 a1 a2 a3 b0 b1 b2 b3
  obtain ⟨a0, a1, a2, a3, b0, b1, b2, b3⟩ := HC.out _ HXw4.out
  go_wp2_with fail
  go_ret
  exact ⟨rfl, HB.out.trans (HXw4.out.mono HB.out.size)⟩

set_option maxRecDepth 100000 in
set_option maxHeartbeats 8000000 in
theorem tagBound_nn (w : World) (i : ByteArray) (n m : Int) (t : ByteArray) (j : ByteArray) (p q : Int) (u : ByteArray) (s : ByteArray) (g0 : ¬ (100 < i.size)) (g1 : ¬ (3000 < t.size)) (g2 : ¬ (100 < j.size)) (g3 : ¬ (3000 < u.size)) (g4 : ¬ (100 < s.size)) (hx : ¬ okOf i n m) (hy : ¬ okOf j p q) :
    Calls Try.prog 5 #[.agg #[.string i, .int .i64 n, .int .i64 m, .string t], .agg #[.string j, .int .i64 p, .int .i64 q, .string u], .string s] w fun e w' => e = .returned (.bool true) ∧ Below w.heap.size w w' := by
  have f0 : ¬ ((100 : Int) < (i.size : Int)) := by omega
  have f1 : ¬ ((3000 : Int) < (t.size : Int)) := by omega
  have f2 : ¬ ((100 : Int) < (j.size : Int)) := by omega
  have f3 : ¬ ((3000 : Int) < (u.size : Int)) := by omega
  have f4 : ¬ ((100 : Int) < (s.size : Int)) := by omega
  have hd1 := hide (show t.size ≤ 100000 by omega)
  have hd2 := hide (show u.size ≤ 100000 by omega)
  clear g0 g1 g2 g3 g4
  have HX := hide (And.intro (oer_no hx) (omk_no (d := t) hx))
  have HY := hide (And.intro (oer_no hy) (omk_no (d := u) hy))
  have HI := hide (ois_no (t := t) hx s)
  clear hx hy
  obtain ⟨W, eW, hB, hC⟩ := of_world2 w i n m t j p q u
  have HX0 := hide (Below.refl W.heap.size W)
  have HB := hide hB
  have HC := hide hC
  obtain ⟨a0, a1, a2, a3, b0, b1, b2, b3⟩ := HC.out _ HX0.out
  clear hB hC
  go_enter Try.func5, Try.ntmps5
  go_wp2_with fail
  refine (tawake_any _).mono ?_
  rintro e w1 ⟨rfl, hw1⟩
  have HXw1 := hide (HX0.out.trans (hw1.mono HX0.out.size))
  clear hw1 HX0 a0 a1 a2 a3 b0 b1 b2 b3
  obtain ⟨a0, a1, a2, a3, b0, b1, b2, b3⟩ := HC.out _ HXw1.out
  go_wp2_with fail
  refine (make_any i n m t _ hd1.out).mono ?_
  rintro e w2 ⟨rfl, hw2⟩
  rw [HX.out.1, HX.out.2]
  have HXw2 := hide (HXw1.out.trans (hw2.mono HXw1.out.size))
  clear hw2 HXw1 a0 a1 a2 a3 b0 b1 b2 b3
  obtain ⟨a0, a1, a2, a3, b0, b1, b2, b3⟩ := HC.out _ HXw2.out
  go_wp2_with fail
  refine (make_any j p q u _ hd2.out).mono ?_
  rintro e w3 ⟨rfl, hw3⟩
  rw [HY.out.1, HY.out.2]
  have HXw3 := hide (HXw2.out.trans (hw3.mono HXw2.out.size))
  clear hw3 HXw2 a0 a1 a2 a3 b0 b1 b2 b3
  obtain ⟨a0, a1, a2, a3, b0, b1, b2, b3⟩ := HC.out _ HXw3.out
  go_wp2_with fail
  refine (is_any i n m t s _ hd1.out).mono ?_
  rintro e w4 ⟨rfl, hw4⟩
  rw [HI.out]
  have HXw4 := hide (HXw3.out.trans (hw4.mono HXw3.out.size))
  clear hw4 HXw3 a0 a1 a2 a3 b0 b1 b2 b3
  obtain ⟨a0, a1, a2, a3, b0, b1, b2, b3⟩ := HC.out _ HXw4.out
  go_wp2_with fail
  go_ret
  exact ⟨rfl, HB.out.trans (HXw4.out.mono HB.out.size)⟩

set_option maxRecDepth 100000 in
set_option maxHeartbeats 8000000 in
theorem tagBound_same (w : World) (i : ByteArray) (n m : Int) (t : ByteArray) (j : ByteArray) (p q : Int) (u : ByteArray) (s : ByteArray) (g0 : ¬ (100 < i.size)) (g1 : ¬ (3000 < t.size)) (g2 : ¬ (100 < j.size)) (g3 : ¬ (3000 < u.size)) (g4 : ¬ (100 < s.size)) (hx : okOf i n m) (hy : okOf j p q) (he : i = j ∧ n = p ∧ m = q ∧ t = u) :
    Calls Try.prog 5 #[.agg #[.string i, .int .i64 n, .int .i64 m, .string t], .agg #[.string j, .int .i64 p, .int .i64 q, .string u], .string s] w fun e w' => e = .returned (.bool true) ∧ Below w.heap.size w w' := by
  have f0 : ¬ ((100 : Int) < (i.size : Int)) := by omega
  have f1 : ¬ ((3000 : Int) < (t.size : Int)) := by omega
  have f2 : ¬ ((100 : Int) < (j.size : Int)) := by omega
  have f3 : ¬ ((3000 : Int) < (u.size : Int)) := by omega
  have f4 : ¬ ((100 : Int) < (s.size : Int)) := by omega
  have hd1 := hide (show t.size ≤ 100000 by omega)
  have hd2 := hide (show u.size ≤ 100000 by omega)
  clear g0 g1 g2 g3 g4
  obtain ⟨rfl, rfl, rfl, rfl⟩ := he
  obtain ⟨MX, eMX⟩ : ∃ M, omk i n m t = M := ⟨_, rfl⟩
  obtain ⟨TX, eTX⟩ : ∃ T, otx i n m t = T := ⟨_, rfl⟩
  have HX := hide (And.intro (oer_ok hx) (And.intro eMX eTX))
  have hI : ois i n m t s = (s.toList == MX.toList) := by rw [ois_ok hx, eMX]
  have hJ : ois i n m t MX = true := by rw [← eMX]; exact ois_self hx
  have HI := hide (And.intro hI hJ)
  have hq := fun w => of_eq i n m t i n m t w
  simp only [beq_self_eq_true, Bool.and_self] at hq
  obtain ⟨B, eB⟩ : ∃ B, (s.toList == MX.toList) = B := ⟨_, rfl⟩
  clear hx hy eMX eTX hI hJ
  obtain ⟨W, eW, hB, hC⟩ := of_world2 w i n m t i n m t
  have HX0 := hide (Below.refl W.heap.size W)
  have HB := hide hB
  have HC := hide hC
  obtain ⟨a0, a1, a2, a3, b0, b1, b2, b3⟩ := HC.out _ HX0.out
  clear hB hC
  go_enter Try.func5, Try.ntmps5
  go_wp2_with fail
  refine (tawake_any _).mono ?_
  rintro e w1 ⟨rfl, hw1⟩
  have HXw1 := hide (HX0.out.trans (hw1.mono HX0.out.size))
  clear hw1 HX0 a0 a1 a2 a3 b0 b1 b2 b3
  obtain ⟨a0, a1, a2, a3, b0, b1, b2, b3⟩ := HC.out _ HXw1.out
  go_wp2_with fail
  refine (make_any i n m t _ hd1.out).mono ?_
  rintro e w2 ⟨rfl, hw2⟩
  rw [HX.out.1, HX.out.2.1]
  have HXw2 := hide (HXw1.out.trans (hw2.mono HXw1.out.size))
  clear hw2 HXw1 a0 a1 a2 a3 b0 b1 b2 b3
  obtain ⟨a0, a1, a2, a3, b0, b1, b2, b3⟩ := HC.out _ HXw2.out
  go_wp2_with fail
  refine (make_any i n m t _ hd1.out).mono ?_
  rintro e w3 ⟨rfl, hw3⟩
  rw [HX.out.1, HX.out.2.1]
  have HXw3 := hide (HXw2.out.trans (hw3.mono HXw2.out.size))
  clear hw3 HXw2 a0 a1 a2 a3 b0 b1 b2 b3
  obtain ⟨a0, a1, a2, a3, b0, b1, b2, b3⟩ := HC.out _ HXw3.out
  go_wp2_with fail
  refine (text_any i n m t _ hd1.out).mono ?_
  rintro e w4 ⟨rfl, hw4⟩
  rw [HX.out.1, HX.out.2.2]
  have HXw4 := hide (HXw3.out.trans (hw4.mono HXw3.out.size))
  clear hw4 HXw3 a0 a1 a2 a3 b0 b1 b2 b3
  obtain ⟨a0, a1, a2, a3, b0, b1, b2, b3⟩ := HC.out _ HXw4.out
  go_wp2_with fail
  refine (text_any i n m t _ hd1.out).mono ?_
  rintro e w5 ⟨rfl, hw5⟩
  rw [HX.out.1, HX.out.2.2]
  have HXw5 := hide (HXw4.out.trans (hw5.mono HXw4.out.size))
  clear hw5 HXw4 a0 a1 a2 a3 b0 b1 b2 b3
  obtain ⟨a0, a1, a2, a3, b0, b1, b2, b3⟩ := HC.out _ HXw5.out
  go_wp2_with fail
  refine (is_any i n m t MX _ hd1.out).mono ?_
  rintro e w6 ⟨rfl, hw6⟩
  rw [HI.out.2]
  have HXw6 := hide (HXw5.out.trans (hw6.mono HXw5.out.size))
  clear hw6 HXw5 a0 a1 a2 a3 b0 b1 b2 b3
  obtain ⟨a0, a1, a2, a3, b0, b1, b2, b3⟩ := HC.out _ HXw6.out
  go_wp2_with fail
  refine (is_any i n m t s _ hd1.out).mono ?_
  rintro e w7 ⟨rfl, hw7⟩
  rw [HI.out.1, eB]
  have HXw7 := hide (HXw6.out.trans (hw7.mono HXw6.out.size))
  clear hw7 HXw6 a0 a1 a2 a3 b0 b1 b2 b3
  obtain ⟨a0, a1, a2, a3, b0, b1, b2, b3⟩ := HC.out _ HXw7.out
  go_wp2_with fail
  have HXw8 := hide HXw7.out.drew
  clear HXw7 a0 a1 a2 a3 b0 b1 b2 b3
  refine wp_region_ord (fun x9 => x9.cell? ⟨w.heap.size, 0, none⟩ = some (.string i) ∧ x9.cell? ⟨w.heap.size, 1, none⟩ = some (.int .i64 n) ∧ x9.cell? ⟨w.heap.size, 2, none⟩ = some (.int .i64 m) ∧ x9.cell? ⟨w.heap.size, 3, none⟩ = some (.string t) ∧ x9.cell? ⟨w.heap.size + 1, 0, none⟩ = some (.string i) ∧ x9.cell? ⟨w.heap.size + 1, 1, none⟩ = some (.int .i64 n) ∧ x9.cell? ⟨w.heap.size + 1, 2, none⟩ = some (.int .i64 m) ∧ x9.cell? ⟨w.heap.size + 1, 3, none⟩ = some (.string t)) 22 [(0, some true), (1, some true), (2, some true), (3, some true), (4, some false), (5, some false), (6, some true), (7, some true), (8, some true), (9, some true), (10, some true), (11, some true), (12, some true), (13, some true), (14, some true), (15, some true), (16, some true), (17, some true), (18, some true), (19, some true), (20, some true), (21, some true), (22, none)] (by kernel_rfl) (by kernel_rfl) (fun _ _ _ _ h => h) (HC.out _ HXw8.out) ?_
  refine ord_pureE (o := ⟨some 125, _, _, _, _, _⟩) rfl (by kernel_rfl) ⟨_, fun w9 => by (go_simp; try rfl), ?_⟩
  simp only [Act.put, List.setIfInBounds_toArray, List.set_cons_zero, List.set_cons_succ]
  refine ord_pureE (o := ⟨some 126, _, _, _, _, _⟩) rfl (by kernel_rfl) ⟨_, fun w9 => by (go_simp; try rfl), ?_⟩
  simp only [Act.put, List.setIfInBounds_toArray, List.set_cons_zero, List.set_cons_succ]
  refine ord_pureE (o := ⟨some 127, _, _, _, _, _⟩) rfl (by kernel_rfl) ⟨_, fun w9 => by (go_simp; try rfl), ?_⟩
  simp only [Act.put, List.setIfInBounds_toArray, List.set_cons_zero, List.set_cons_succ]
  refine ord_pureE (o := ⟨some 128, _, _, _, _, _⟩) rfl (by kernel_rfl) ⟨_, fun w9 => by (go_simp; try rfl), ?_⟩
  simp only [Act.put, List.setIfInBounds_toArray, List.set_cons_zero, List.set_cons_succ]
  refine ord_heldE (o := ⟨some 129, _, _, _, _, _⟩) rfl (by kernel_rfl) ⟨_, fun w9 h9 => by (obtain ⟨a0, a1, a2, a3, b0, b1, b2, b3⟩ := h9; go_simp; try rfl), ?_⟩
  simp only [Act.put, List.setIfInBounds_toArray, List.set_cons_zero, List.set_cons_succ]
  refine ord_heldE (o := ⟨some 130, _, _, _, _, _⟩) rfl (by kernel_rfl) ⟨_, fun w9 h9 => by (obtain ⟨a0, a1, a2, a3, b0, b1, b2, b3⟩ := h9; go_simp; try rfl), ?_⟩
  simp only [Act.put, List.setIfInBounds_toArray, List.set_cons_zero, List.set_cons_succ]
  refine ord_pureE (o := ⟨some 131, _, _, _, _, _⟩) rfl (by kernel_rfl) ⟨_, fun w9 => by (go_simp; try rfl), ?_⟩
  simp only [Act.put, List.setIfInBounds_toArray, List.set_cons_zero, List.set_cons_succ]
  refine ord_pureE (o := ⟨some 132, _, _, _, _, _⟩) rfl (by kernel_rfl) ⟨_, fun w9 => by (go_simp; try rfl), ?_⟩
  simp only [Act.put, List.setIfInBounds_toArray, List.set_cons_zero, List.set_cons_succ]
  refine ord_pureE (o := ⟨some 133, _, _, _, _, _⟩) rfl (by kernel_rfl) ⟨_, fun w9 => by (go_simp; try rfl), ?_⟩
  simp only [Act.put, List.setIfInBounds_toArray, List.set_cons_zero, List.set_cons_succ]
  refine ord_skip rfl (by kernel_rfl) ?_
  simp only [Act.put, List.setIfInBounds_toArray, List.set_cons_zero, List.set_cons_succ]
  refine ord_skip rfl (by kernel_rfl) ?_
  simp only [Act.put, List.setIfInBounds_toArray, List.set_cons_zero, List.set_cons_succ]
  refine ord_skip rfl (by kernel_rfl) ?_
  simp only [Act.put, List.setIfInBounds_toArray, List.set_cons_zero, List.set_cons_succ]
  refine ord_skip rfl (by kernel_rfl) ?_
  simp only [Act.put, List.setIfInBounds_toArray, List.set_cons_zero, List.set_cons_succ]
  refine ord_skip rfl (by kernel_rfl) ?_
  simp only [Act.put, List.setIfInBounds_toArray, List.set_cons_zero, List.set_cons_succ]
  refine ord_skip rfl (by kernel_rfl) ?_
  simp only [Act.put, List.setIfInBounds_toArray, List.set_cons_zero, List.set_cons_succ]
  refine ord_skip rfl (by kernel_rfl) ?_
  simp only [Act.put, List.setIfInBounds_toArray, List.set_cons_zero, List.set_cons_succ]
  refine ord_skip rfl (by kernel_rfl) ?_
  simp only [Act.put, List.setIfInBounds_toArray, List.set_cons_zero, List.set_cons_succ]
  refine ord_skip rfl (by kernel_rfl) ?_
  simp only [Act.put, List.setIfInBounds_toArray, List.set_cons_zero, List.set_cons_succ]
  refine ord_skip rfl (by kernel_rfl) ?_
  simp only [Act.put, List.setIfInBounds_toArray, List.set_cons_zero, List.set_cons_succ]
  refine ord_skip rfl (by kernel_rfl) ?_
  simp only [Act.put, List.setIfInBounds_toArray, List.set_cons_zero, List.set_cons_succ]
  refine ord_skip rfl (by kernel_rfl) ?_
  simp only [Act.put, List.setIfInBounds_toArray, List.set_cons_zero, List.set_cons_succ]
  refine ord_pureE (o := ⟨some 146, _, _, _, _, _⟩) rfl (by kernel_rfl) ⟨_, fun w9 => by (go_simp; try rfl), ?_⟩
  simp only [Act.put, List.setIfInBounds_toArray, List.set_cons_zero, List.set_cons_succ]
  refine ord_go rfl (fun K9 hK => ?_)
  go_simp
  refine hK.out _ _ (fun h => by cases h) ?_
  clear hK K9
  refine ord_end ?_
  go_wp2_with fail
  go_ret
  exact ⟨rfl, HB.out.trans (HXw8.out.mono HB.out.size)⟩

set_option maxRecDepth 100000 in
set_option maxHeartbeats 8000000 in
theorem tagBound_unlike (w : World) (i : ByteArray) (n m : Int) (t : ByteArray) (j : ByteArray) (p q : Int) (u : ByteArray) (s : ByteArray) (g0 : ¬ (100 < i.size)) (g1 : ¬ (3000 < t.size)) (g2 : ¬ (100 < j.size)) (g3 : ¬ (3000 < u.size)) (g4 : ¬ (100 < s.size)) (hx : okOf i n m) (hy : okOf j p q) (he : ¬ (i = j ∧ n = p ∧ m = q ∧ t = u)) (hm : omk i n m t ≠ omk j p q u) :
    Calls Try.prog 5 #[.agg #[.string i, .int .i64 n, .int .i64 m, .string t], .agg #[.string j, .int .i64 p, .int .i64 q, .string u], .string s] w fun e w' => e = .returned (.bool true) ∧ Below w.heap.size w w' := by
  have f0 : ¬ ((100 : Int) < (i.size : Int)) := by omega
  have f1 : ¬ ((3000 : Int) < (t.size : Int)) := by omega
  have f2 : ¬ ((100 : Int) < (j.size : Int)) := by omega
  have f3 : ¬ ((3000 : Int) < (u.size : Int)) := by omega
  have f4 : ¬ ((100 : Int) < (s.size : Int)) := by omega
  have hd1 := hide (show t.size ≤ 100000 by omega)
  have hd2 := hide (show u.size ≤ 100000 by omega)
  clear g0 g1 g2 g3 g4
  obtain ⟨MX, eMX⟩ : ∃ M, omk i n m t = M := ⟨_, rfl⟩
  obtain ⟨TX, eTX⟩ : ∃ T, otx i n m t = T := ⟨_, rfl⟩
  obtain ⟨MY, eMY⟩ : ∃ M, omk j p q u = M := ⟨_, rfl⟩
  obtain ⟨TY, eTY⟩ : ∃ T, otx j p q u = T := ⟨_, rfl⟩
  have hTT : (TX.toList == TY.toList) = false := by
    rw [toList_beq]
    exact decide_eq_false fun e => he (otx_inj hx hy (by rw [eTX, eTY]; exact e.symm))
  have hTn : ¬ TX.toList = TY.toList := fun e => by rw [e] at hTT; simp at hTT
  have hMM : (MX.toList == MY.toList) = false := by
    rw [toList_beq]
    exact decide_eq_false fun e => hm (by rw [eMX, eMY]; exact e.symm)
  have hMn : ¬ MX.toList = MY.toList := fun e => by rw [e] at hMM; simp at hMM
  have HX := hide (And.intro (oer_ok hx) (And.intro eMX eTX))
  have HY := hide (And.intro (oer_ok hy) (And.intro eMY eTY))
  have hI : ois i n m t s = (s.toList == MX.toList) := by rw [ois_ok hx, eMX]
  have hJ : ois i n m t MX = true := by rw [← eMX]; exact ois_self hx
  have HI := hide (And.intro hI hJ)
  have hq := fun w => of_ne he w
  obtain ⟨B, eB⟩ : ∃ B, (s.toList == MX.toList) = B := ⟨_, rfl⟩
  clear hx hy he eMX eTX eMY eTY hI hJ hm
  obtain ⟨W, eW, hB, hC⟩ := of_world2 w i n m t j p q u
  have HX0 := hide (Below.refl W.heap.size W)
  have HB := hide hB
  have HC := hide hC
  obtain ⟨a0, a1, a2, a3, b0, b1, b2, b3⟩ := HC.out _ HX0.out
  clear hB hC
  go_enter Try.func5, Try.ntmps5
  go_wp2_with fail
  refine (tawake_any _).mono ?_
  rintro e w1 ⟨rfl, hw1⟩
  have HXw1 := hide (HX0.out.trans (hw1.mono HX0.out.size))
  clear hw1 HX0 a0 a1 a2 a3 b0 b1 b2 b3
  obtain ⟨a0, a1, a2, a3, b0, b1, b2, b3⟩ := HC.out _ HXw1.out
  go_wp2_with fail
  refine (make_any i n m t _ hd1.out).mono ?_
  rintro e w2 ⟨rfl, hw2⟩
  rw [HX.out.1, HX.out.2.1]
  have HXw2 := hide (HXw1.out.trans (hw2.mono HXw1.out.size))
  clear hw2 HXw1 a0 a1 a2 a3 b0 b1 b2 b3
  obtain ⟨a0, a1, a2, a3, b0, b1, b2, b3⟩ := HC.out _ HXw2.out
  go_wp2_with fail
  refine (make_any j p q u _ hd2.out).mono ?_
  rintro e w3 ⟨rfl, hw3⟩
  rw [HY.out.1, HY.out.2.1]
  have HXw3 := hide (HXw2.out.trans (hw3.mono HXw2.out.size))
  clear hw3 HXw2 a0 a1 a2 a3 b0 b1 b2 b3
  obtain ⟨a0, a1, a2, a3, b0, b1, b2, b3⟩ := HC.out _ HXw3.out
  go_wp2_with fail
  refine (text_any i n m t _ hd1.out).mono ?_
  rintro e w4 ⟨rfl, hw4⟩
  rw [HX.out.1, HX.out.2.2]
  have HXw4 := hide (HXw3.out.trans (hw4.mono HXw3.out.size))
  clear hw4 HXw3 a0 a1 a2 a3 b0 b1 b2 b3
  obtain ⟨a0, a1, a2, a3, b0, b1, b2, b3⟩ := HC.out _ HXw4.out
  go_wp2_with fail
  refine (text_any j p q u _ hd2.out).mono ?_
  rintro e w5 ⟨rfl, hw5⟩
  rw [HY.out.1, HY.out.2.2]
  have HXw5 := hide (HXw4.out.trans (hw5.mono HXw4.out.size))
  clear hw5 HXw4 a0 a1 a2 a3 b0 b1 b2 b3
  obtain ⟨a0, a1, a2, a3, b0, b1, b2, b3⟩ := HC.out _ HXw5.out
  go_wp2_with fail
  refine (is_any i n m t MX _ hd1.out).mono ?_
  rintro e w6 ⟨rfl, hw6⟩
  rw [HI.out.2]
  have HXw6 := hide (HXw5.out.trans (hw6.mono HXw5.out.size))
  clear hw6 HXw5 a0 a1 a2 a3 b0 b1 b2 b3
  obtain ⟨a0, a1, a2, a3, b0, b1, b2, b3⟩ := HC.out _ HXw6.out
  go_wp2_with fail
  refine (is_any i n m t s _ hd1.out).mono ?_
  rintro e w7 ⟨rfl, hw7⟩
  rw [HI.out.1, eB]
  have HXw7 := hide (HXw6.out.trans (hw7.mono HXw6.out.size))
  clear hw7 HXw6 a0 a1 a2 a3 b0 b1 b2 b3
  obtain ⟨a0, a1, a2, a3, b0, b1, b2, b3⟩ := HC.out _ HXw7.out
  go_wp2_with fail
  have HXw8 := hide HXw7.out.drew
  clear HXw7 a0 a1 a2 a3 b0 b1 b2 b3
  refine wp_region_ord (fun x9 => x9.cell? ⟨w.heap.size, 0, none⟩ = some (.string i) ∧ x9.cell? ⟨w.heap.size, 1, none⟩ = some (.int .i64 n) ∧ x9.cell? ⟨w.heap.size, 2, none⟩ = some (.int .i64 m) ∧ x9.cell? ⟨w.heap.size, 3, none⟩ = some (.string t) ∧ x9.cell? ⟨w.heap.size + 1, 0, none⟩ = some (.string j) ∧ x9.cell? ⟨w.heap.size + 1, 1, none⟩ = some (.int .i64 p) ∧ x9.cell? ⟨w.heap.size + 1, 2, none⟩ = some (.int .i64 q) ∧ x9.cell? ⟨w.heap.size + 1, 3, none⟩ = some (.string u)) 22 [(0, some true), (1, some true), (2, some true), (3, some true), (4, some true), (5, some true), (6, some true), (7, some true), (8, some true), (9, some true), (10, some true), (11, some true), (12, some true), (13, some true), (14, some true), (15, some true), (16, some true), (17, some true), (18, some true), (19, some true), (20, some true), (21, some true), (22, none)] (by kernel_rfl) (by kernel_rfl) (fun _ _ _ _ h => h) (HC.out _ HXw8.out) ?_
  refine ord_pureE (o := ⟨some 125, _, _, _, _, _⟩) rfl (by kernel_rfl) ⟨_, fun w9 => by (go_simp; try rfl), ?_⟩
  simp only [Act.put, List.setIfInBounds_toArray, List.set_cons_zero, List.set_cons_succ]
  refine ord_pureE (o := ⟨some 126, _, _, _, _, _⟩) rfl (by kernel_rfl) ⟨_, fun w9 => by (go_simp; try rfl), ?_⟩
  simp only [Act.put, List.setIfInBounds_toArray, List.set_cons_zero, List.set_cons_succ]
  refine ord_pureE (o := ⟨some 127, _, _, _, _, _⟩) rfl (by kernel_rfl) ⟨_, fun w9 => by (go_simp; try rfl), ?_⟩
  simp only [Act.put, List.setIfInBounds_toArray, List.set_cons_zero, List.set_cons_succ]
  refine ord_pureE (o := ⟨some 128, _, _, _, _, _⟩) rfl (by kernel_rfl) ⟨_, fun w9 => by (go_simp; try rfl), ?_⟩
  simp only [Act.put, List.setIfInBounds_toArray, List.set_cons_zero, List.set_cons_succ]
  refine ord_skip rfl (by kernel_rfl) ?_
  simp only [Act.put, List.setIfInBounds_toArray, List.set_cons_zero, List.set_cons_succ]
  refine ord_skip rfl (by kernel_rfl) ?_
  simp only [Act.put, List.setIfInBounds_toArray, List.set_cons_zero, List.set_cons_succ]
  refine ord_skip rfl (by kernel_rfl) ?_
  simp only [Act.put, List.setIfInBounds_toArray, List.set_cons_zero, List.set_cons_succ]
  refine ord_pureE (o := ⟨some 132, _, _, _, _, _⟩) rfl (by kernel_rfl) ⟨_, fun w9 => by (go_simp; try rfl), ?_⟩
  simp only [Act.put, List.setIfInBounds_toArray, List.set_cons_zero, List.set_cons_succ]
  refine ord_pureE (o := ⟨some 133, _, _, _, _, _⟩) rfl (by kernel_rfl) ⟨_, fun w9 => by (go_simp; try rfl), ?_⟩
  simp only [Act.put, List.setIfInBounds_toArray, List.set_cons_zero, List.set_cons_succ]
  refine ord_skip rfl (by kernel_rfl) ?_
  simp only [Act.put, List.setIfInBounds_toArray, List.set_cons_zero, List.set_cons_succ]
  refine ord_skip rfl (by kernel_rfl) ?_
  simp only [Act.put, List.setIfInBounds_toArray, List.set_cons_zero, List.set_cons_succ]
  refine ord_skip rfl (by kernel_rfl) ?_
  simp only [Act.put, List.setIfInBounds_toArray, List.set_cons_zero, List.set_cons_succ]
  refine ord_skip rfl (by kernel_rfl) ?_
  simp only [Act.put, List.setIfInBounds_toArray, List.set_cons_zero, List.set_cons_succ]
  refine ord_skip rfl (by kernel_rfl) ?_
  simp only [Act.put, List.setIfInBounds_toArray, List.set_cons_zero, List.set_cons_succ]
  refine ord_skip rfl (by kernel_rfl) ?_
  simp only [Act.put, List.setIfInBounds_toArray, List.set_cons_zero, List.set_cons_succ]
  refine ord_skip rfl (by kernel_rfl) ?_
  simp only [Act.put, List.setIfInBounds_toArray, List.set_cons_zero, List.set_cons_succ]
  refine ord_skip rfl (by kernel_rfl) ?_
  simp only [Act.put, List.setIfInBounds_toArray, List.set_cons_zero, List.set_cons_succ]
  refine ord_skip rfl (by kernel_rfl) ?_
  simp only [Act.put, List.setIfInBounds_toArray, List.set_cons_zero, List.set_cons_succ]
  refine ord_skip rfl (by kernel_rfl) ?_
  simp only [Act.put, List.setIfInBounds_toArray, List.set_cons_zero, List.set_cons_succ]
  refine ord_skip rfl (by kernel_rfl) ?_
  simp only [Act.put, List.setIfInBounds_toArray, List.set_cons_zero, List.set_cons_succ]
  refine ord_skip rfl (by kernel_rfl) ?_
  simp only [Act.put, List.setIfInBounds_toArray, List.set_cons_zero, List.set_cons_succ]
  refine ord_pureE (o := ⟨some 146, _, _, _, _, _⟩) rfl (by kernel_rfl) ⟨_, fun w9 => by (go_simp; try rfl), ?_⟩
  simp only [Act.put, List.setIfInBounds_toArray, List.set_cons_zero, List.set_cons_succ]
  refine ord_go rfl (fun K9 hK => ?_)
  go_simp
  refine hK.out _ _ (fun h => by cases h) ?_
  clear hK K9
  refine ord_end ?_
  go_wp2_with fail
  go_ret
  exact ⟨rfl, HB.out.trans (HXw8.out.mono HB.out.size)⟩

set_option maxRecDepth 100000 in
set_option maxHeartbeats 8000000 in
theorem tagBound_alike (w : World) (i : ByteArray) (n m : Int) (t : ByteArray) (j : ByteArray) (p q : Int) (u : ByteArray) (s : ByteArray) (g0 : ¬ (100 < i.size)) (g1 : ¬ (3000 < t.size)) (g2 : ¬ (100 < j.size)) (g3 : ¬ (3000 < u.size)) (g4 : ¬ (100 < s.size)) (hx : okOf i n m) (hy : okOf j p q) (he : ¬ (i = j ∧ n = p ∧ m = q ∧ t = u)) (hm : omk i n m t = omk j p q u) :
    Calls Try.prog 5 #[.agg #[.string i, .int .i64 n, .int .i64 m, .string t], .agg #[.string j, .int .i64 p, .int .i64 q, .string u], .string s] w fun e w' => e = .returned (.bool true) ∧ Below w.heap.size w w' := by
  have f0 : ¬ ((100 : Int) < (i.size : Int)) := by omega
  have f1 : ¬ ((3000 : Int) < (t.size : Int)) := by omega
  have f2 : ¬ ((100 : Int) < (j.size : Int)) := by omega
  have f3 : ¬ ((3000 : Int) < (u.size : Int)) := by omega
  have f4 : ¬ ((100 : Int) < (s.size : Int)) := by omega
  have hd1 := hide (show t.size ≤ 100000 by omega)
  have hd2 := hide (show u.size ≤ 100000 by omega)
  clear g0 g1 g2 g3 g4
  obtain ⟨MX, eMX⟩ : ∃ M, omk i n m t = M := ⟨_, rfl⟩
  obtain ⟨TX, eTX⟩ : ∃ T, otx i n m t = T := ⟨_, rfl⟩
  obtain ⟨MY, eMY⟩ : ∃ M, omk j p q u = M := ⟨_, rfl⟩
  obtain ⟨TY, eTY⟩ : ∃ T, otx j p q u = T := ⟨_, rfl⟩
  have hTT : (TX.toList == TY.toList) = false := by
    rw [toList_beq]
    exact decide_eq_false fun e => he (otx_inj hx hy (by rw [eTX, eTY]; exact e.symm))
  have hTn : ¬ TX.toList = TY.toList := fun e => by rw [e] at hTT; simp at hTT
  rw [eMX, eMY] at hm
  rw [← hm] at eMY
  clear hm
  obtain ⟨DX, eDX⟩ : ∃ D, dg 0 (sb TX) = D := ⟨_, rfl⟩
  obtain ⟨DY, eDY⟩ : ∃ D, dg 0 (sb TY) = D := ⟨_, rfl⟩
  have lDX : DX.size = 32 := by rw [← eDX]; exact dg_size _ _
  have lDY : DY.size = 32 := by rw [← eDY]; exact dg_size _ _
  have xDX : DX.extract 0 8 = MX := by rw [← eMX, ← eDX, ← eTX, omk_ok hx, otx_ok hx, sb_mk]
  have xDY : DY.extract 0 8 = MX := by rw [← eMY, ← eDY, ← eTY, omk_ok hy, otx_ok hy, sb_mk]
  have HD := hide (And.intro eDX (And.intro eDY (And.intro (show TX.size < 2305843009213693952 by rw [← eTX, otx_size hx]; have := hd1.out; omega) (show TY.size < 2305843009213693952 by rw [← eTY, otx_size hy]; have := hd2.out; omega))))
  have HX := hide (And.intro (oer_ok hx) (And.intro eMX eTX))
  have HY := hide (And.intro (oer_ok hy) (And.intro eMY eTY))
  have hI : ois i n m t s = (s.toList == MX.toList) := by rw [ois_ok hx, eMX]
  have hJ : ois i n m t MX = true := by rw [← eMX]; exact ois_self hx
  have HI := hide (And.intro hI hJ)
  have hq := fun w => of_ne he w
  obtain ⟨B, eB⟩ : ∃ B, (s.toList == MX.toList) = B := ⟨_, rfl⟩
  clear hx hy he eMX eTX eMY eTY hI hJ eDX eDY
  obtain ⟨W, eW, hB, hC⟩ := of_world2 w i n m t j p q u
  have HX0 := hide (Below.refl W.heap.size W)
  have HB := hide hB
  have HC := hide hC
  obtain ⟨a0, a1, a2, a3, b0, b1, b2, b3⟩ := HC.out _ HX0.out
  clear hB hC
  go_enter Try.func5, Try.ntmps5
  go_wp2_with fail
  refine (tawake_any _).mono ?_
  rintro e w1 ⟨rfl, hw1⟩
  have HXw1 := hide (HX0.out.trans (hw1.mono HX0.out.size))
  clear hw1 HX0 a0 a1 a2 a3 b0 b1 b2 b3
  obtain ⟨a0, a1, a2, a3, b0, b1, b2, b3⟩ := HC.out _ HXw1.out
  go_wp2_with fail
  refine (make_any i n m t _ hd1.out).mono ?_
  rintro e w2 ⟨rfl, hw2⟩
  rw [HX.out.1, HX.out.2.1]
  have HXw2 := hide (HXw1.out.trans (hw2.mono HXw1.out.size))
  clear hw2 HXw1 a0 a1 a2 a3 b0 b1 b2 b3
  obtain ⟨a0, a1, a2, a3, b0, b1, b2, b3⟩ := HC.out _ HXw2.out
  go_wp2_with fail
  refine (make_any j p q u _ hd2.out).mono ?_
  rintro e w3 ⟨rfl, hw3⟩
  rw [HY.out.1, HY.out.2.1]
  have HXw3 := hide (HXw2.out.trans (hw3.mono HXw2.out.size))
  clear hw3 HXw2 a0 a1 a2 a3 b0 b1 b2 b3
  obtain ⟨a0, a1, a2, a3, b0, b1, b2, b3⟩ := HC.out _ HXw3.out
  go_wp2_with fail
  refine (text_any i n m t _ hd1.out).mono ?_
  rintro e w4 ⟨rfl, hw4⟩
  rw [HX.out.1, HX.out.2.2]
  have HXw4 := hide (HXw3.out.trans (hw4.mono HXw3.out.size))
  clear hw4 HXw3 a0 a1 a2 a3 b0 b1 b2 b3
  obtain ⟨a0, a1, a2, a3, b0, b1, b2, b3⟩ := HC.out _ HXw4.out
  go_wp2_with fail
  refine (text_any j p q u _ hd2.out).mono ?_
  rintro e w5 ⟨rfl, hw5⟩
  rw [HY.out.1, HY.out.2.2]
  have HXw5 := hide (HXw4.out.trans (hw5.mono HXw4.out.size))
  clear hw5 HXw4 a0 a1 a2 a3 b0 b1 b2 b3
  obtain ⟨a0, a1, a2, a3, b0, b1, b2, b3⟩ := HC.out _ HXw5.out
  go_wp2_with fail
  refine (is_any i n m t MX _ hd1.out).mono ?_
  rintro e w6 ⟨rfl, hw6⟩
  rw [HI.out.2]
  have HXw6 := hide (HXw5.out.trans (hw6.mono HXw5.out.size))
  clear hw6 HXw5 a0 a1 a2 a3 b0 b1 b2 b3
  obtain ⟨a0, a1, a2, a3, b0, b1, b2, b3⟩ := HC.out _ HXw6.out
  go_wp2_with fail
  refine (is_any i n m t s _ hd1.out).mono ?_
  rintro e w7 ⟨rfl, hw7⟩
  rw [HI.out.1, eB]
  have HXw7 := hide (HXw6.out.trans (hw7.mono HXw6.out.size))
  clear hw7 HXw6 a0 a1 a2 a3 b0 b1 b2 b3
  obtain ⟨a0, a1, a2, a3, b0, b1, b2, b3⟩ := HC.out _ HXw7.out
  go_wp2_with fail
  have HXw8 := hide HXw7.out.drew
  clear HXw7 a0 a1 a2 a3 b0 b1 b2 b3
  refine wp_region_ord (fun x9 => x9.cell? ⟨w.heap.size, 0, none⟩ = some (.string i) ∧ x9.cell? ⟨w.heap.size, 1, none⟩ = some (.int .i64 n) ∧ x9.cell? ⟨w.heap.size, 2, none⟩ = some (.int .i64 m) ∧ x9.cell? ⟨w.heap.size, 3, none⟩ = some (.string t) ∧ x9.cell? ⟨w.heap.size + 1, 0, none⟩ = some (.string j) ∧ x9.cell? ⟨w.heap.size + 1, 1, none⟩ = some (.int .i64 p) ∧ x9.cell? ⟨w.heap.size + 1, 2, none⟩ = some (.int .i64 q) ∧ x9.cell? ⟨w.heap.size + 1, 3, none⟩ = some (.string u)) 22 [(0, some true), (1, some true), (2, some true), (3, some true), (4, some false), (5, some false), (6, some true), (7, some true), (8, some true), (9, some true), (10, some true), (11, some true), (12, some true), (13, some true), (16, some true), (14, none), (15, some true), (17, none), (18, some true), (19, some true), (20, some true), (21, some true), (22, none)] (by kernel_rfl) (by kernel_rfl) (fun _ _ _ _ h => h) (HC.out _ HXw8.out) ?_
  refine ord_pureE (o := ⟨some 125, _, _, _, _, _⟩) rfl (by kernel_rfl) ⟨_, fun w9 => by (go_simp; try rfl), ?_⟩
  simp only [Act.put, List.setIfInBounds_toArray, List.set_cons_zero, List.set_cons_succ]
  refine ord_pureE (o := ⟨some 126, _, _, _, _, _⟩) rfl (by kernel_rfl) ⟨_, fun w9 => by (go_simp; try rfl), ?_⟩
  simp only [Act.put, List.setIfInBounds_toArray, List.set_cons_zero, List.set_cons_succ]
  refine ord_pureE (o := ⟨some 127, _, _, _, _, _⟩) rfl (by kernel_rfl) ⟨_, fun w9 => by (go_simp; try rfl), ?_⟩
  simp only [Act.put, List.setIfInBounds_toArray, List.set_cons_zero, List.set_cons_succ]
  refine ord_pureE (o := ⟨some 128, _, _, _, _, _⟩) rfl (by kernel_rfl) ⟨_, fun w9 => by (go_simp; try rfl), ?_⟩
  simp only [Act.put, List.setIfInBounds_toArray, List.set_cons_zero, List.set_cons_succ]
  refine ord_heldE (o := ⟨some 129, _, _, _, _, _⟩) rfl (by kernel_rfl) ⟨_, fun w9 h9 => by (obtain ⟨a0, a1, a2, a3, b0, b1, b2, b3⟩ := h9; go_simp; try rfl), ?_⟩
  simp only [Act.put, List.setIfInBounds_toArray, List.set_cons_zero, List.set_cons_succ]
  refine ord_heldE (o := ⟨some 130, _, _, _, _, _⟩) rfl (by kernel_rfl) ⟨_, fun w9 h9 => by (obtain ⟨a0, a1, a2, a3, b0, b1, b2, b3⟩ := h9; go_simp; try rfl), ?_⟩
  simp only [Act.put, List.setIfInBounds_toArray, List.set_cons_zero, List.set_cons_succ]
  refine ord_pureE (o := ⟨some 131, _, _, _, _, _⟩) rfl (by kernel_rfl) ⟨_, fun w9 => by (go_simp; try rfl), ?_⟩
  simp only [Act.put, List.setIfInBounds_toArray, List.set_cons_zero, List.set_cons_succ]
  refine ord_pureE (o := ⟨some 132, _, _, _, _, _⟩) rfl (by kernel_rfl) ⟨_, fun w9 => by (go_simp; try rfl), ?_⟩
  simp only [Act.put, List.setIfInBounds_toArray, List.set_cons_zero, List.set_cons_succ]
  refine ord_pureE (o := ⟨some 133, _, _, _, _, _⟩) rfl (by kernel_rfl) ⟨_, fun w9 => by (go_simp; try rfl), ?_⟩
  simp only [Act.put, List.setIfInBounds_toArray, List.set_cons_zero, List.set_cons_succ]
  refine ord_pureE (o := ⟨some 134, _, _, _, _, _⟩) rfl (by kernel_rfl) ⟨_, fun w9 => by (go_simp; try rfl), ?_⟩
  simp only [Act.put, List.setIfInBounds_toArray, List.set_cons_zero, List.set_cons_succ]
  refine ord_pureE (o := ⟨some 135, _, _, _, _, _⟩) rfl (by kernel_rfl) ⟨_, fun w9 => by (go_simp; try rfl), ?_⟩
  simp only [Act.put, List.setIfInBounds_toArray, List.set_cons_zero, List.set_cons_succ]
  refine ord_pureE (o := ⟨some 136, _, _, _, _, _⟩) rfl (by kernel_rfl) ⟨_, fun w9 => by (go_simp; try rfl), ?_⟩
  simp only [Act.put, List.setIfInBounds_toArray, List.set_cons_zero, List.set_cons_succ]
  refine ord_pureE (o := ⟨some 137, _, _, _, _, _⟩) rfl (by kernel_rfl) ⟨_, fun w9 => by (go_simp; try rfl), ?_⟩
  simp only [Act.put, List.setIfInBounds_toArray, List.set_cons_zero, List.set_cons_succ]
  refine ord_pureE (o := ⟨some 138, _, _, _, _, _⟩) rfl (by kernel_rfl) ⟨_, fun w9 => by (go_simp; try rfl), ?_⟩
  simp only [Act.put, List.setIfInBounds_toArray, List.set_cons_zero, List.set_cons_succ]
  refine ord_pureE (o := ⟨some 141, _, _, _, _, _⟩) rfl (by kernel_rfl) ⟨_, fun w9 => by (go_simp; try rfl), ?_⟩
  simp only [Act.put, List.setIfInBounds_toArray, List.set_cons_zero, List.set_cons_succ]
  refine ord_go rfl (fun K9 hK => ?_)
  go_simp
  go_wp2_with fail
  refine (bsum_any TX _ HD.out.2.2.1).mono ?_
  rintro e w9 ⟨rfl, hw9⟩
  rw [HD.out.1]
  have HXw9 := hide (HXw8.out.trans (hw9.mono HXw8.out.size))
  clear hw9
  dsimp only
  refine hK.out _ _ (fun _ => HC.out _ HXw9.out) ?_
  clear hK K9
  refine ord_pureE (o := ⟨some 140, _, _, _, _, _⟩) rfl (by kernel_rfl) ⟨_, fun w9 => by (go_simp; try rfl), ?_⟩
  simp only [Act.put, List.setIfInBounds_toArray, List.set_cons_zero, List.set_cons_succ]
  refine ord_go rfl (fun K9 hK => ?_)
  go_simp
  go_wp2_with fail
  refine (bsum_any TY _ HD.out.2.2.2).mono ?_
  rintro e w10 ⟨rfl, hw10⟩
  rw [HD.out.2.1]
  have HXw10 := hide (HXw9.out.trans (hw10.mono HXw9.out.size))
  clear hw10
  dsimp only
  refine hK.out _ _ (fun _ => HC.out _ HXw10.out) ?_
  clear hK K9
  refine ord_pureE (o := ⟨some 143, _, _, _, _, _⟩) rfl (by kernel_rfl) ⟨_, fun w9 => by (go_simp; try rfl), ?_⟩
  simp only [Act.put, List.setIfInBounds_toArray, List.set_cons_zero, List.set_cons_succ]
  refine ord_pureE (o := ⟨some 144, _, _, _, _, _⟩) rfl (by kernel_rfl) ⟨_, fun w9 => by (go_simp; try rfl), ?_⟩
  simp only [Act.put, List.setIfInBounds_toArray, List.set_cons_zero, List.set_cons_succ]
  refine ord_pureE (o := ⟨some 145, _, _, _, _, _⟩) rfl (by kernel_rfl) ⟨_, fun w9 => by (go_simp; try rfl), ?_⟩
  simp only [Act.put, List.setIfInBounds_toArray, List.set_cons_zero, List.set_cons_succ]
  refine ord_pureE (o := ⟨some 146, _, _, _, _, _⟩) rfl (by kernel_rfl) ⟨_, fun w9 => by (go_simp; try rfl), ?_⟩
  simp only [Act.put, List.setIfInBounds_toArray, List.set_cons_zero, List.set_cons_succ]
  refine ord_go rfl (fun K9 hK => ?_)
  go_simp
  refine hK.out _ _ (fun h => by cases h) ?_
  clear hK K9
  refine ord_end ?_
  go_wp2_with fail
  go_ret
  exact ⟨rfl, HB.out.trans (HXw10.out.mono HB.out.size)⟩

theorem tagBound_any (w : World) (i : ByteArray) (n m : Int) (t : ByteArray) (j : ByteArray) (p q : Int) (u : ByteArray) (s : ByteArray) (m0 : s.size ≤ 140737488351232) :
    Calls Try.prog 5 #[.agg #[.string i, .int .i64 n, .int .i64 m, .string t], .agg #[.string j, .int .i64 p, .int .i64 q, .string u], .string s] w fun e w' => e = .returned (.bool true) ∧ Below w.heap.size w w' := by
  by_cases g0 : 100 < i.size
  · exact tagBound_big0 w i n m t j p q u s g0
  by_cases g1 : 3000 < t.size
  · exact tagBound_big1 w i n m t j p q u s g0 g1
  by_cases g2 : 100 < j.size
  · exact tagBound_big2 w i n m t j p q u s g0 g1 g2
  by_cases g3 : 3000 < u.size
  · exact tagBound_big3 w i n m t j p q u s g0 g1 g2 g3
  by_cases g4 : 100 < s.size
  · exact tagBound_big4 w i n m t j p q u s g0 g1 g2 g3 g4
  by_cases hx : okOf i n m
  · by_cases hy : okOf j p q
    · by_cases he : i = j ∧ n = p ∧ m = q ∧ t = u
      · exact tagBound_same w i n m t j p q u s g0 g1 g2 g3 g4 hx hy he
      · by_cases hm : omk i n m t = omk j p q u
        · exact tagBound_alike w i n m t j p q u s g0 g1 g2 g3 g4 hx hy he hm
        · exact tagBound_unlike w i n m t j p q u s g0 g1 g2 g3 g4 hx hy he hm
    · exact tagBound_yn w i n m t j p q u s g0 g1 g2 g3 g4 hx hy
  · by_cases hy : okOf j p q
    · exact tagBound_ny w i n m t j p q u s g0 g1 g2 g3 g4 hx hy
    · exact tagBound_nn w i n m t j p q u s g0 g1 g2 g3 g4 hx hy

theorem tagBound_own : ownKnob Try.prog.godebug = none := by kernel_rfl
theorem tagBound_laidOut : laidOutB Try.prog = true := by kernel_rfl

set_option maxRecDepth 100000 in
theorem tagBound_lifted (os : Os) (started : os.Started) (H : Type) (enc : TypeId × Value → H) :
    ReturnsInHanded {} Try.checked os 5 .any (Rows.tagBoundSpec.pre6 enc Try.prog Try.f5 Rows.tagBoundRow.domain false) (Rows.tagBoundSpec.post enc Try.prog Try.f5 false true false false) := by
  refine returnsInHanded_of_change_sized (C := Try.checked) tagBound_own started (by kernel_rfl) Try.func5
    (ChangeSpec.witness6 (enc := enc) (C := Try.checked) false ⟨#[], #[.agg #[.string ⟨#[]⟩, .int .i64 0, .int .i64 0, .string ⟨#[]⟩], .agg #[.string ⟨#[]⟩, .int .i64 0, .int .i64 0, .string ⟨#[]⟩], .string ⟨#[]⟩], []⟩ 8 (by kernel_rfl) (by kernel_rfl) (by kernel_rfl) (by kernel_rfl)) ?_
  intro W base args ds gs before hval0 hW hcnd hsz0 _
  have hval : ∀ (j : Nat) t v, Try.f5.params[j]? = some t → args[j]? = some v → Value.okWide Try.prog W .any base t v := hval0
  have hW' := hW
  obtain ⟨p, q, hA0, hV, rfl, hfz, hnd⟩ := hW
  have hA : DataW.TrodAll enc Try.prog W 0 (fun _ => true) true Try.f5.params.toList args.toList ds p := hA0
  rw [Try.params5] at hA hval
  obtain ⟨v0, vs0, d0, ds0, p0, q0, hargs, rfl, rfl, h0, r0⟩ := trodAll_cons hA
  obtain ⟨v1, vs1, d1, ds1, p1, q1, rfl, rfl, rfl, h1, r1⟩ := trodAll_cons r0
  obtain ⟨v2, vs2, d2, ds2, p2, q2, rfl, rfl, rfl, h2, r2⟩ := trodAll_cons r1
  obtain ⟨rfl, rfl, rfl⟩ := trodAll_nil r2
  obtain rfl : args = #[v0, v1, v2] := by cases args; simp_all
  obtain ⟨rfl, rfl⟩ := trodVars_none hV
  have k0 := h0
  have lt0 : ∀ x ∈ p0, x.block < W.heap.size := by obtain ⟨m, hm⟩ := k0; exact DataW.trod_lt m _ _ _ hm
  obtain ⟨i0, n0, m0, b0, rfl⟩ := open_of (hval 0 23 v0 rfl rfl) h0
  have k1 := h1
  have lt1 : ∀ x ∈ p1, x.block < W.heap.size := by obtain ⟨m, hm⟩ := k1; exact DataW.trod_lt m _ _ _ hm
  obtain ⟨i1, n1, m1, b1, rfl⟩ := open_of (hval 1 23 v1 rfl rfl) h1
  obtain ⟨a2, rfl, rfl, rfl, w2⟩ := open_string Try.underlying9 (hval 2 9 v2 rfl rfl) h2
  have s2 : a2.size ≤ 140737488351232 := sized_string hsz0 (j := 2) (t := 9) rfl rfl
  clear hA0 hval0 hsz0
  simp only [List.append_nil] at hW'
  refine (tagBound_any W i0 n0 m0 b0 i1 n1 m1 b1 a2 s2).mono fun e W' ⟨he, bel⟩ => ?_
  subst he
  exact ⟨_, rfl, _, _, _, [], _, [], hW', trodAll_mk1 (shut_bool Try.underlying4 _), (trodAll_cons_mk (Below.trod tagBound_laidOut (by kernel_rfl) (of_decide_eq_true (by kernel_rfl)) k0 bel lt0) (trodAll_cons_mk (Below.trod tagBound_laidOut (by kernel_rfl) (of_decide_eq_true (by kernel_rfl)) k1 bel lt1) (trodAll_cons_mk (shut_string Try.underlying9 w2) trodAll_mk0))), rfl, bel.frame _, fun h => by cases h⟩

theorem tagBound_holds : Rows.TagBoundSaid :=
  OpenClaim.holds_of_wide 5 Try.f5 rfl rfl rfl rfl rfl rfl rfl ⟨rfl, rfl, rfl, rfl, rfl⟩ rfl rfl rfl rfl rfl (by kernel_rfl) Try.func5 (by kernel_rfl)
    (of_decide_eq_true (by kernel_rfl)) (by unfold Func.isWrapper; first | (rw [if_pos (by decide +kernel)]; kernel_rfl) | (rw [if_neg (by decide +kernel)]; exact ⟨rfl, rfl⟩))
    (fun os started H enc _ => tagBound_lifted os started H enc)

#print axioms tagBound_holds

end Go.Proofs.Ytjdgaolailfplaa
