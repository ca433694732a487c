/- For whatever arguments the statement TagMakes returns true and its arguments read as before. No condition. -/
import Derived.Test.YtjdgaolailfplaaTagA
import Derived.Test.YtjdgaolailfplaaTagRg
namespace Go.Proofs.Ytjdgaolailfplaa
open Go.ChangeShapes Go.WideShapes Go.ChangeAt Go.RowKit Bk
open Go.ChangeMaps (open_string shut_string)
set_option linter.unusedVariables false
set_option linter.unusedSimpArgs false

set_option maxRecDepth 100000 in
set_option maxHeartbeats 8000000 in
theorem tagMakes_big0 (w : World) (i : ByteArray) (n m : Int) (t : ByteArray) (s : ByteArray)  (g0 : 100 < i.size) :
    Calls Try.prog 3 #[.agg #[.string i, .int .i64 n, .int .i64 m, .string t], .string s] w fun e w' => e = .returned (.bool true) ∧ Below w.heap.size w w' := by
  have f0 : (100 : Int) < (i.size : Int) := by omega
  clear g0
  obtain ⟨W, eW, hB, hC⟩ := of_world w i n m t
  have HX0 := hide (Below.refl W.heap.size W)
  have HB := hide hB
  have HC := hide hC
  obtain ⟨a0, a1, a2, a3⟩ := HC.out _ HX0.out
  clear hB hC
  go_enter Try.func3, Try.ntmps3
  go_wp2_with fail
  refine (tawake_any _).mono ?_
  rintro e w1 ⟨rfl, hw1⟩
  have HXw1 := hide (HX0.out.trans (hw1.mono HX0.out.size))
  clear hw1 HX0 a0 a1 a2 a3
  obtain ⟨a0, a1, a2, a3⟩ := HC.out _ HXw1.out
  go_wp2_with fail
  go_ret
  exact ⟨rfl, HB.out.trans (HXw1.out.mono HB.out.size)⟩

set_option maxRecDepth 100000 in
set_option maxHeartbeats 8000000 in
theorem tagMakes_big1 (w : World) (i : ByteArray) (n m : Int) (t : ByteArray) (s : ByteArray) (g0 : ¬ (100 < i.size)) (g1 : 3000 < t.size) :
    Calls Try.prog 3 #[.agg #[.string i, .int .i64 n, .int .i64 m, .string t], .string s] w fun e w' => e = .returned (.bool true) ∧ Below w.heap.size w w' := by
  have f0 : ¬ ((100 : Int) < (i.size : Int)) := by omega
  have f1 : (3000 : Int) < (t.size : Int) := by omega
  clear g0 g1
  obtain ⟨W, eW, hB, hC⟩ := of_world w i n m t
  have HX0 := hide (Below.refl W.heap.size W)
  have HB := hide hB
  have HC := hide hC
  obtain ⟨a0, a1, a2, a3⟩ := HC.out _ HX0.out
  clear hB hC
  go_enter Try.func3, Try.ntmps3
  go_wp2_with fail
  refine (tawake_any _).mono ?_
  rintro e w1 ⟨rfl, hw1⟩
  have HXw1 := hide (HX0.out.trans (hw1.mono HX0.out.size))
  clear hw1 HX0 a0 a1 a2 a3
  obtain ⟨a0, a1, a2, a3⟩ := HC.out _ HXw1.out
  go_wp2_with fail
  go_ret
  exact ⟨rfl, HB.out.trans (HXw1.out.mono HB.out.size)⟩

set_option maxRecDepth 100000 in
set_option maxHeartbeats 8000000 in
theorem tagMakes_big2 (w : World) (i : ByteArray) (n m : Int) (t : ByteArray) (s : ByteArray) (g0 : ¬ (100 < i.size)) (g1 : ¬ (3000 < t.size)) (g2 : 100 < s.size) :
    Calls Try.prog 3 #[.agg #[.string i, .int .i64 n, .int .i64 m, .string t], .string s] w fun e w' => e = .returned (.bool true) ∧ Below w.heap.size w w' := by
  have f0 : ¬ ((100 : Int) < (i.size : Int)) := by omega
  have f1 : ¬ ((3000 : Int) < (t.size : Int)) := by omega
  have f2 : (100 : Int) < (s.size : Int) := by omega
  clear g0 g1 g2
  obtain ⟨W, eW, hB, hC⟩ := of_world w i n m t
  have HX0 := hide (Below.refl W.heap.size W)
  have HB := hide hB
  have HC := hide hC
  obtain ⟨a0, a1, a2, a3⟩ := HC.out _ HX0.out
  clear hB hC
  go_enter Try.func3, Try.ntmps3
  go_wp2_with fail
  refine (tawake_any _).mono ?_
  rintro e w1 ⟨rfl, hw1⟩
  have HXw1 := hide (HX0.out.trans (hw1.mono HX0.out.size))
  clear hw1 HX0 a0 a1 a2 a3
  obtain ⟨a0, a1, a2, a3⟩ := HC.out _ HXw1.out
  go_wp2_with fail
  go_ret
  exact ⟨rfl, HB.out.trans (HXw1.out.mono HB.out.size)⟩

set_option maxRecDepth 100000 in
set_option maxHeartbeats 8000000 in
theorem tagMakes_ok (w : World) (i : ByteArray) (n m : Int) (t : ByteArray) (s : ByteArray) (g0 : ¬ (100 < i.size)) (g1 : ¬ (3000 < t.size)) (g2 : ¬ (100 < s.size)) (ho : okOf i n m) :
    Calls Try.prog 3 #[.agg #[.string i, .int .i64 n, .int .i64 m, .string t], .string s] w fun e w' => e = .returned (.bool true) ∧ Below w.heap.size w w' := by
  have f0 : ¬ ((100 : Int) < (i.size : Int)) := by omega
  have f1 : ¬ ((3000 : Int) < (t.size : Int)) := by omega
  have f2 : ¬ ((100 : Int) < (s.size : Int)) := by omega
  have hd1 := hide (show t.size ≤ 100000 by omega)
  have hd2 := hide (show t.size ≤ 50000 by omega)
  clear g0 g1 g2
  obtain ⟨S, eS⟩ : ∃ S, otx i n m t = S := ⟨_, rfl⟩
  obtain ⟨M, eM⟩ : ∃ M, omk i n m t = M := ⟨_, rfl⟩
  have HO := hide (And.intro (oer_ok ho) (And.intro eS eM))
  have hI : ois i n m t s = (s.toList == M.toList) := by rw [ois_ok ho, eM]
  have hJ : ois i n m t M = true := by rw [← eM]; exact ois_self ho
  have HI := hide (And.intro hI hJ)
  obtain ⟨B, eB⟩ : ∃ B, (s.toList == M.toList) = B := ⟨_, rfl⟩
  clear ho eS eM hI hJ
  obtain ⟨W, eW, hB, hC⟩ := of_world w i n m t
  have HX0 := hide (Below.refl W.heap.size W)
  have HB := hide hB
  have HC := hide hC
  obtain ⟨a0, a1, a2, a3⟩ := HC.out _ HX0.out
  clear hB hC
  go_enter Try.func3, Try.ntmps3
  go_wp2_with fail
  refine (make_any i n m t _ hd1.out).mono ?_
  rintro e w1 ⟨rfl, hw1⟩
  rw [HO.out.1, HO.out.2.2]
  have HXw1 := hide (HX0.out.trans (hw1.mono HX0.out.size))
  clear hw1 HX0 a0 a1 a2 a3
  obtain ⟨a0, a1, a2, a3⟩ := HC.out _ HXw1.out
  go_wp2_with fail
  refine (rfmake_any i n m t _ hd2.out).mono ?_
  rintro e w2 ⟨rfl, hw2⟩
  rw [HO.out.1, HO.out.2.2]
  have HXw2 := hide (HXw1.out.trans (hw2.mono HXw1.out.size))
  clear hw2 HXw1 a0 a1 a2 a3
  obtain ⟨a0, a1, a2, a3⟩ := HC.out _ HXw2.out
  go_wp2_with fail
  refine (text_any i n m t _ hd1.out).mono ?_
  rintro e w3 ⟨rfl, hw3⟩
  rw [HO.out.1, HO.out.2.1]
  have HXw3 := hide (HXw2.out.trans (hw3.mono HXw2.out.size))
  clear hw3 HXw2 a0 a1 a2 a3
  obtain ⟨a0, a1, a2, a3⟩ := HC.out _ HXw3.out
  go_wp2_with fail
  refine (rftext_any i n m t _ hd2.out).mono ?_
  rintro e w4 ⟨rfl, hw4⟩
  rw [HO.out.1, HO.out.2.1]
  have HXw4 := hide (HXw3.out.trans (hw4.mono HXw3.out.size))
  clear hw4 HXw3 a0 a1 a2 a3
  obtain ⟨a0, a1, a2, a3⟩ := HC.out _ HXw4.out
  go_wp2_with fail
  refine (is_any i n m t s _ hd1.out).mono ?_
  rintro e w5 ⟨rfl, hw5⟩
  rw [HI.out.1, eB]
  have HXw5 := hide (HXw4.out.trans (hw5.mono HXw4.out.size))
  clear hw5 HXw4 a0 a1 a2 a3
  obtain ⟨a0, a1, a2, a3⟩ := HC.out _ HXw5.out
  go_wp2_with fail
  refine (is_any i n m t M _ hd1.out).mono ?_
  rintro e w6 ⟨rfl, hw6⟩
  rw [HI.out.2]
  have HXw6 := hide (HXw5.out.trans (hw6.mono HXw5.out.size))
  clear hw6 HXw5 a0 a1 a2 a3
  obtain ⟨a0, a1, a2, a3⟩ := HC.out _ HXw6.out
  go_wp2_with fail
  refine (tawake_any _).mono ?_
  rintro e w7 ⟨rfl, hw7⟩
  have HXw7 := hide (HXw6.out.trans (hw7.mono HXw6.out.size))
  clear hw7 HXw6 a0 a1 a2 a3
  obtain ⟨a0, a1, a2, a3⟩ := HC.out _ HXw7.out
  go_wp2_with fail
  go_ret
  exact ⟨rfl, HB.out.trans (HXw7.out.mono HB.out.size)⟩

set_option maxRecDepth 100000 in
set_option maxHeartbeats 8000000 in
theorem tagMakes_no (w : World) (i : ByteArray) (n m : Int) (t : ByteArray) (s : ByteArray) (g0 : ¬ (100 < i.size)) (g1 : ¬ (3000 < t.size)) (g2 : ¬ (100 < s.size)) (ho : ¬ okOf i n m) :
    Calls Try.prog 3 #[.agg #[.string i, .int .i64 n, .int .i64 m, .string t], .string s] w fun e w' => e = .returned (.bool true) ∧ Below w.heap.size w w' := by
  have f0 : ¬ ((100 : Int) < (i.size : Int)) := by omega
  have f1 : ¬ ((3000 : Int) < (t.size : Int)) := by omega
  have f2 : ¬ ((100 : Int) < (s.size : Int)) := by omega
  have hd1 := hide (show t.size ≤ 100000 by omega)
  have hd2 := hide (show t.size ≤ 50000 by omega)
  clear g0 g1 g2
  have HO := hide (And.intro (oer_no ho) (And.intro (otx_no (d := t) ho) (omk_no (d := t) ho)))
  have HI := hide (And.intro (ois_no (t := t) ho s) (ois_no (t := t) ho ⟨#[]⟩))
  clear ho
  obtain ⟨W, eW, hB, hC⟩ := of_world w i n m t
  have HX0 := hide (Below.refl W.heap.size W)
  have HB := hide hB
  have HC := hide hC
  obtain ⟨a0, a1, a2, a3⟩ := HC.out _ HX0.out
  clear hB hC
  go_enter Try.func3, Try.ntmps3
  go_wp2_with fail
  refine (make_any i n m t _ hd1.out).mono ?_
  rintro e w1 ⟨rfl, hw1⟩
  rw [HO.out.1, HO.out.2.2]
  have HXw1 := hide (HX0.out.trans (hw1.mono HX0.out.size))
  clear hw1 HX0 a0 a1 a2 a3
  obtain ⟨a0, a1, a2, a3⟩ := HC.out _ HXw1.out
  go_wp2_with fail
  refine (rfmake_any i n m t _ hd2.out).mono ?_
  rintro e w2 ⟨rfl, hw2⟩
  rw [HO.out.1, HO.out.2.2]
  have HXw2 := hide (HXw1.out.trans (hw2.mono HXw1.out.size))
  clear hw2 HXw1 a0 a1 a2 a3
  obtain ⟨a0, a1, a2, a3⟩ := HC.out _ HXw2.out
  go_wp2_with fail
  refine (text_any i n m t _ hd1.out).mono ?_
  rintro e w3 ⟨rfl, hw3⟩
  rw [HO.out.1, HO.out.2.1]
  have HXw3 := hide (HXw2.out.trans (hw3.mono HXw2.out.size))
  clear hw3 HXw2 a0 a1 a2 a3
  obtain ⟨a0, a1, a2, a3⟩ := HC.out _ HXw3.out
  go_wp2_with fail
  refine (rftext_any i n m t _ hd2.out).mono ?_
  rintro e w4 ⟨rfl, hw4⟩
  rw [HO.out.1, HO.out.2.1]
  have HXw4 := hide (HXw3.out.trans (hw4.mono HXw3.out.size))
  clear hw4 HXw3 a0 a1 a2 a3
  obtain ⟨a0, a1, a2, a3⟩ := HC.out _ HXw4.out
  go_wp2_with fail
  refine (is_any i n m t s _ hd1.out).mono ?_
  rintro e w5 ⟨rfl, hw5⟩
  rw [HI.out.1]
  have HXw5 := hide (HXw4.out.trans (hw5.mono HXw4.out.size))
  clear hw5 HXw4 a0 a1 a2 a3
  obtain ⟨a0, a1, a2, a3⟩ := HC.out _ HXw5.out
  go_wp2_with fail
  refine (is_any i n m t ⟨#[]⟩ _ hd1.out).mono ?_
  rintro e w6 ⟨rfl, hw6⟩
  rw [HI.out.2]
  have HXw6 := hide (HXw5.out.trans (hw6.mono HXw5.out.size))
  clear hw6 HXw5 a0 a1 a2 a3
  obtain ⟨a0, a1, a2, a3⟩ := HC.out _ HXw6.out
  go_wp2_with fail
  refine (tawake_any _).mono ?_
  rintro e w7 ⟨rfl, hw7⟩
  have HXw7 := hide (HXw6.out.trans (hw7.mono HXw6.out.size))
  clear hw7 HXw6 a0 a1 a2 a3
  obtain ⟨a0, a1, a2, a3⟩ := HC.out _ HXw7.out
  go_wp2_with fail
  go_ret
  exact ⟨rfl, HB.out.trans (HXw7.out.mono HB.out.size)⟩

theorem tagMakes_any (w : World) (i : ByteArray) (n m : Int) (t : ByteArray) (s : ByteArray) (m0 : s.size ≤ 140737488351232) :
    Calls Try.prog 3 #[.agg #[.string i, .int .i64 n, .int .i64 m, .string t], .string s] w fun e w' => e = .returned (.bool true) ∧ Below w.heap.size w w' := by
  by_cases g0 : 100 < i.size
  · exact tagMakes_big0 w i n m t s g0
  by_cases g1 : 3000 < t.size
  · exact tagMakes_big1 w i n m t s g0 g1
  by_cases g2 : 100 < s.size
  · exact tagMakes_big2 w i n m t s g0 g1 g2
  by_cases ho : okOf i n m
  · exact tagMakes_ok w i n m t s g0 g1 g2 ho
  · exact tagMakes_no w i n m t s g0 g1 g2 ho

theorem tagMakes_own : ownKnob Try.prog.godebug = none := by kernel_rfl
theorem tagMakes_laidOut : laidOutB Try.prog = true := by kernel_rfl

set_option maxRecDepth 100000 in
theorem tagMakes_lifted (os : Os) (started : os.Started) (H : Type) (enc : TypeId × Value → H) :
    ReturnsInHanded {} Try.checked os 3 .any (Rows.tagMakesSpec.pre6 enc Try.prog Try.f3 Rows.tagMakesRow.domain false) (Rows.tagMakesSpec.post enc Try.prog Try.f3 false true false false) := by
  refine returnsInHanded_of_change_sized (C := Try.checked) tagMakes_own started (by kernel_rfl) Try.func3
    (ChangeSpec.witness6 (enc := enc) (C := Try.checked) false ⟨#[], #[.agg #[.string ⟨#[]⟩, .int .i64 0, .int .i64 0, .string ⟨#[]⟩], .string ⟨#[]⟩], []⟩ 8 (by kernel_rfl) (by kernel_rfl) (by kernel_rfl) (by kernel_rfl)) ?_
  intro W base args ds gs before hval0 hW hcnd hsz0 _
  have hval : ∀ (j : Nat) t v, Try.f3.params[j]? = some t → args[j]? = some v → Value.okWide Try.prog W .any base t v := hval0
  have hW' := hW
  obtain ⟨p, q, hA0, hV, rfl, hfz, hnd⟩ := hW
  have hA : DataW.TrodAll enc Try.prog W 0 (fun _ => true) true Try.f3.params.toList args.toList ds p := hA0
  rw [Try.params3] at hA hval
  obtain ⟨v0, vs0, d0, ds0, p0, q0, hargs, rfl, rfl, h0, r0⟩ := trodAll_cons hA
  obtain ⟨v1, vs1, d1, ds1, p1, q1, rfl, rfl, rfl, h1, r1⟩ := trodAll_cons r0
  obtain ⟨rfl, rfl, rfl⟩ := trodAll_nil r1
  obtain rfl : args = #[v0, v1] := by cases args; simp_all
  obtain ⟨rfl, rfl⟩ := trodVars_none hV
  have k0 := h0
  have lt0 : ∀ x ∈ p0, x.block < W.heap.size := by obtain ⟨m, hm⟩ := k0; exact DataW.trod_lt m _ _ _ hm
  obtain ⟨i0, n0, m0, b0, rfl⟩ := open_of (hval 0 23 v0 rfl rfl) h0
  obtain ⟨a1, rfl, rfl, rfl, w1⟩ := open_string Try.underlying9 (hval 1 9 v1 rfl rfl) h1
  have s1 : a1.size ≤ 140737488351232 := sized_string hsz0 (j := 1) (t := 9) rfl rfl
  clear hA0 hval0 hsz0
  simp only [List.append_nil] at hW'
  refine (tagMakes_any W i0 n0 m0 b0 a1 s1).mono fun e W' ⟨he, bel⟩ => ?_
  subst he
  exact ⟨_, rfl, _, _, _, [], _, [], hW', trodAll_mk1 (shut_bool Try.underlying4 _), (trodAll_cons_mk (Below.trod tagMakes_laidOut (by kernel_rfl) (of_decide_eq_true (by kernel_rfl)) k0 bel lt0) (trodAll_cons_mk (shut_string Try.underlying9 w1) trodAll_mk0)), rfl, bel.frame _, fun h => by cases h⟩

theorem tagMakes_holds : Rows.TagMakesSaid :=
  OpenClaim.holds_of_wide 3 Try.f3 rfl rfl rfl rfl rfl rfl rfl ⟨rfl, rfl, rfl, rfl, rfl⟩ rfl rfl rfl rfl rfl (by kernel_rfl) Try.func3 (by kernel_rfl)
    (of_decide_eq_true (by kernel_rfl)) (by unfold Func.isWrapper; first | (rw [if_pos (by decide +kernel)]; kernel_rfl) | (rw [if_neg (by decide +kernel)]; exact ⟨rfl, rfl⟩))
    (fun os started H enc _ => tagMakes_lifted os started H enc)

#print axioms tagMakes_holds

end Go.Proofs.Ytjdgaolailfplaa
