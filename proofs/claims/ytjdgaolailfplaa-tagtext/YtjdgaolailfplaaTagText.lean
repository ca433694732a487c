/- For whatever a tag may be of the statement TagText returns true and its argument reads as before. No condition. -/
import Derived.Test.YtjdgaolailfplaaTagA
namespace Go.Proofs.Ytjdgaolailfplaa
open Go.ChangeShapes Go.WideShapes Go.ChangeAt Go.RowKit Bk
open Go.ChangeMaps (open_string shut_string)
set_option linter.unusedVariables false
set_option linter.unusedSimpArgs false

set_option maxRecDepth 100000 in
set_option maxHeartbeats 8000000 in
theorem tagText_big0 (w : World) (i : ByteArray) (n m : Int) (t : ByteArray)  (g0 : 100 < i.size) :
    Calls Try.prog 6 #[.agg #[.string i, .int .i64 n, .int .i64 m, .string t]] w fun e w' => e = .returned (.bool true) ∧ Below w.heap.size w w' := by
  have f0 : (100 : Int) < (i.size : Int) := by omega
  clear g0
  obtain ⟨W, eW, hB, hC⟩ := of_world w i n m t
  have HX0 := hide (Below.refl W.heap.size W)
  have HB := hide hB
  have HC := hide hC
  obtain ⟨a0, a1, a2, a3⟩ := HC.out _ HX0.out
  clear hB hC
  go_enter Try.func6, Try.ntmps6
  go_wp2_with fail
  refine (tawake_any _).mono ?_
  rintro e w1 ⟨rfl, hw1⟩
  have HXw1 := hide (HX0.out.trans (hw1.mono HX0.out.size))
  clear hw1 HX0 a0 a1 a2 a3
  obtain ⟨a0, a1, a2, a3⟩ := HC.out _ HXw1.out
  go_wp2_with fail
  go_ret
  exact ⟨rfl, HB.out.trans (HXw1.out.mono HB.out.size)⟩

set_option maxRecDepth 100000 in
set_option maxHeartbeats 8000000 in
theorem tagText_big1 (w : World) (i : ByteArray) (n m : Int) (t : ByteArray) (g0 : ¬ (100 < i.size)) (g1 : 3000 < t.size) :
    Calls Try.prog 6 #[.agg #[.string i, .int .i64 n, .int .i64 m, .string t]] w fun e w' => e = .returned (.bool true) ∧ Below w.heap.size w w' := by
  have f0 : ¬ ((100 : Int) < (i.size : Int)) := by omega
  have f1 : (3000 : Int) < (t.size : Int) := by omega
  clear g0 g1
  obtain ⟨W, eW, hB, hC⟩ := of_world w i n m t
  have HX0 := hide (Below.refl W.heap.size W)
  have HB := hide hB
  have HC := hide hC
  obtain ⟨a0, a1, a2, a3⟩ := HC.out _ HX0.out
  clear hB hC
  go_enter Try.func6, Try.ntmps6
  go_wp2_with fail
  refine (tawake_any _).mono ?_
  rintro e w1 ⟨rfl, hw1⟩
  have HXw1 := hide (HX0.out.trans (hw1.mono HX0.out.size))
  clear hw1 HX0 a0 a1 a2 a3
  obtain ⟨a0, a1, a2, a3⟩ := HC.out _ HXw1.out
  go_wp2_with fail
  go_ret
  exact ⟨rfl, HB.out.trans (HXw1.out.mono HB.out.size)⟩

set_option maxRecDepth 100000 in
set_option maxHeartbeats 8000000 in
theorem tagText_no (w : World) (i : ByteArray) (n m : Int) (t : ByteArray) (g0 : ¬ 100 < i.size) (g1 : ¬ 3000 < t.size) (ho : ¬ okOf i n m) :
    Calls Try.prog 6 #[.agg #[.string i, .int .i64 n, .int .i64 m, .string t]] w fun e w' => e = .returned (.bool true) ∧ Below w.heap.size w w' := by
  have f0 : ¬ ((100 : Int) < (i.size : Int)) := by omega
  have f1 : ¬ ((3000 : Int) < (t.size : Int)) := by omega
  have hdd := hide (show t.size ≤ 100000 by omega)
  clear g0 g1
  have HO := hide (And.intro (oer_no ho) (And.intro (otx_no (d := t) ho) (omk_no (d := t) ho)))
  clear ho
  obtain ⟨W, eW, hB, hC⟩ := of_world w i n m t
  have HX0 := hide (Below.refl W.heap.size W)
  have HB := hide hB
  have HC := hide hC
  obtain ⟨a0, a1, a2, a3⟩ := HC.out _ HX0.out
  clear hB hC
  go_enter Try.func6, Try.ntmps6
  go_wp2_with fail
  refine (tawake_any _).mono ?_
  rintro e w1 ⟨rfl, hw1⟩
  have HXw1 := hide (HX0.out.trans (hw1.mono HX0.out.size))
  clear hw1 HX0 a0 a1 a2 a3
  obtain ⟨a0, a1, a2, a3⟩ := HC.out _ HXw1.out
  go_wp2_with fail
  refine (text_any i n m t _ hdd.out).mono ?_
  rintro e w2 ⟨rfl, hw2⟩
  rw [HO.out.1, HO.out.2.1]
  have HXw2 := hide (HXw1.out.trans (hw2.mono HXw1.out.size))
  clear hw2 HXw1 a0 a1 a2 a3
  obtain ⟨a0, a1, a2, a3⟩ := HC.out _ HXw2.out
  go_wp2_with fail
  refine (make_any i n m t _ hdd.out).mono ?_
  rintro e w3 ⟨rfl, hw3⟩
  rw [HO.out.1, HO.out.2.2]
  have HXw3 := hide (HXw2.out.trans (hw3.mono HXw2.out.size))
  clear hw3 HXw2 a0 a1 a2 a3
  obtain ⟨a0, a1, a2, a3⟩ := HC.out _ HXw3.out
  go_wp2_with fail
  go_ret
  exact ⟨rfl, HB.out.trans (HXw3.out.mono HB.out.size)⟩

set_option maxRecDepth 100000 in
set_option maxHeartbeats 8000000 in
theorem tagText_ok (w : World) (i : ByteArray) (n m : Int) (t : ByteArray) (g0 : ¬ 100 < i.size) (g1 : ¬ 3000 < t.size) (ho : okOf i n m) :
    Calls Try.prog 6 #[.agg #[.string i, .int .i64 n, .int .i64 m, .string t]] w fun e w' => e = .returned (.bool true) ∧ Below w.heap.size w w' := by
  have f0 : ¬ ((100 : Int) < (i.size : Int)) := by omega
  have f1 : ¬ ((3000 : Int) < (t.size : Int)) := by omega
  have hdd := hide (show t.size ≤ 100000 by omega)
  clear g0 g1
  obtain ⟨p, hp, rfl⟩ : ∃ p : Nat, p ≤ 65535 ∧ n = p := ⟨n.toNat, by have := ho.2.1; omega, by have := ho.2.1; omega⟩
  obtain ⟨q, hq, rfl⟩ : ∃ q : Nat, q ≤ 65535 ∧ m = q := ⟨m.toNat, by have := ho.2.2; omega, by have := ho.2.2; omega⟩
  obtain ⟨S, eS⟩ : ∃ S, otx i p q t = S := ⟨_, rfl⟩
  obtain ⟨M, eM⟩ : ∃ M, omk i p q t = M := ⟨_, rfl⟩
  obtain ⟨D, eD⟩ : ∃ D, dg 0 (sb S) = D := ⟨_, rfl⟩
  have lS := otx_size (d := t) ho
  rw [eS] at lS
  have SI : (S.size : Int) = 20 + (t.size : Int) := by omega
  have sw : IntKind.i64.wrap (20 + (t.size : Int)) = 20 + (t.size : Int) := IntWalk.i64_in _ (by omega)
  have s16 : (16 : Int) ≤ (S.size : Int) := by omega
  have s20 : (20 : Int) ≤ (S.size : Int) := by omega
  have x0 : S.extract 0 16 = i := by rw [← eS]; exact otx_head ho
  have x1 : S.extract 20 S.size = t := by rw [← eS]; exact otx_tail ho
  have lD : D.size = 32 := by rw [← eD]; exact dg_size _ _
  have x2 : D.extract 0 8 = M := by rw [← eM, ← eD, ← eS, omk_ok ho, otx_ok ho, sb_mk]
  obtain ⟨y0, y1, y2, y3⟩ := otx_at (t := t) ho
  rw [eS, Int.toNat_natCast] at y0 y1 y2 y3
  have i0 : ∀ w, (Instr.index 9 (.string S) (.int .i64 16)).run Try.prog w = .ok (.int .u8 ((by' (sb S) 16 : Nat) : Int)) w := idx_str S 16 (by omega)
  have i1 : ∀ w, (Instr.index 9 (.string S) (.int .i64 17)).run Try.prog w = .ok (.int .u8 ((by' (sb S) 17 : Nat) : Int)) w := idx_str S 17 (by omega)
  have i2 : ∀ w, (Instr.index 9 (.string S) (.int .i64 18)).run Try.prog w = .ok (.int .u8 ((by' (sb S) 18 : Nat) : Int)) w := idx_str S 18 (by omega)
  have i3 : ∀ w, (Instr.index 9 (.string S) (.int .i64 19)).run Try.prog w = .ok (.int .u8 ((by' (sb S) 19 : Nat) : Int)) w := idx_str S 19 (by omega)
  rw [y0] at i0
  rw [y1] at i1
  rw [y2] at i2
  rw [y3] at i3
  obtain ⟨ph, eph⟩ : ∃ x, p / 256 = x := ⟨_, rfl⟩
  obtain ⟨pl, epl⟩ : ∃ x, p % 256 = x := ⟨_, rfl⟩
  obtain ⟨qh, eqh⟩ : ∃ x, q / 256 = x := ⟨_, rfl⟩
  obtain ⟨ql, eql⟩ : ∃ x, q % 256 = x := ⟨_, rfl⟩
  rw [eph] at i0
  rw [epl] at i1
  rw [eqh] at i2
  rw [eql] at i3
  have v0 : IntKind.i64.wrap (ph : Int) = (ph : Int) := IntWalk.i64_in _ (by omega)
  have v1 : IntKind.i64.wrap (pl : Int) = (pl : Int) := IntWalk.i64_in _ (by omega)
  have v2 : IntKind.i64.wrap (qh : Int) = (qh : Int) := IntWalk.i64_in _ (by omega)
  have v3 : IntKind.i64.wrap (ql : Int) = (ql : Int) := IntWalk.i64_in _ (by omega)
  have u0 : IntKind.i64.wrap ((ph : Int) * 256) = (ph : Int) * 256 := IntWalk.i64_in _ (by omega)
  have u1 : IntKind.i64.wrap ((ph : Int) * 256 + (pl : Int)) = (p : Int) := by rw [IntWalk.i64_in _ (by omega)]; omega
  have u2 : IntKind.i64.wrap ((qh : Int) * 256) = (qh : Int) * 256 := IntWalk.i64_in _ (by omega)
  have u3 : IntKind.i64.wrap ((qh : Int) * 256 + (ql : Int)) = (q : Int) := by rw [IntWalk.i64_in _ (by omega)]; omega
  have HO := hide (And.intro (oer_ok ho) (And.intro eS (And.intro eM eD)))
  have HS := hide (show S.size < 2305843009213693952 by omega)
  clear ho hp hq eS eM eD lS y0 y1 y2 y3 eph epl eqh eql
  obtain ⟨W, eW, hB, hC⟩ := of_world w i p q t
  have HX0 := hide (Below.refl W.heap.size W)
  have HB := hide hB
  have HC := hide hC
  obtain ⟨a0, a1, a2, a3⟩ := HC.out _ HX0.out
  clear hB hC
  go_enter Try.func6, Try.ntmps6
  go_wp2_with fail
  refine (tawake_any _).mono ?_
  rintro e w1 ⟨rfl, hw1⟩
  have HXw1 := hide (HX0.out.trans (hw1.mono HX0.out.size))
  clear hw1 HX0 a0 a1 a2 a3
  obtain ⟨a0, a1, a2, a3⟩ := HC.out _ HXw1.out
  go_wp2_with fail
  refine (text_any i p q t _ hdd.out).mono ?_
  rintro e w2 ⟨rfl, hw2⟩
  rw [HO.out.1, HO.out.2.1]
  have HXw2 := hide (HXw1.out.trans (hw2.mono HXw1.out.size))
  clear hw2 HXw1 a0 a1 a2 a3
  obtain ⟨a0, a1, a2, a3⟩ := HC.out _ HXw2.out
  go_wp2_with fail
  refine (make_any i p q t _ hdd.out).mono ?_
  rintro e w3 ⟨rfl, hw3⟩
  rw [HO.out.1, HO.out.2.2.1]
  have HXw3 := hide (HXw2.out.trans (hw3.mono HXw2.out.size))
  clear hw3 HXw2 a0 a1 a2 a3
  obtain ⟨a0, a1, a2, a3⟩ := HC.out _ HXw3.out
  go_wp2_with fail
  go_quiet (fail)
  have HXw4 := hide (below_drewN HXw3.out nq)
  clear HXw3 a0 a1 a2 a3
  obtain ⟨a0, a1, a2, a3⟩ := HC.out _ HXw4.out
  go_wp2_with fail
  have HXw5 := hide HXw4.out.drew
  clear HXw4 a0 a1 a2 a3
  refine wp_region_ord (fun x9 => x9.cell? ⟨w.heap.size, 0, none⟩ = some (.string i) ∧ x9.cell? ⟨w.heap.size, 1, none⟩ = some (.int .i64 (p : Int)) ∧ x9.cell? ⟨w.heap.size, 2, none⟩ = some (.int .i64 (q : Int)) ∧ x9.cell? ⟨w.heap.size, 3, none⟩ = some (.string t)) 31 [(0, some true), (1, some true), (2, some true), (3, some true), (4, some true), (5, some true), (6, some true), (7, some true), (8, some true), (9, some false), (10, some true), (11, some true), (12, some true), (13, some true), (14, some true), (15, some true), (16, some true), (17, some true), (18, some true), (19, some true), (20, some true), (21, some false), (22, some true), (23, some true), (24, some true), (25, some true), (26, some true), (27, none), (28, some true), (29, some true), (30, some true), (31, none)] (by kernel_rfl) (by kernel_rfl) (fun _ _ _ _ h => h) (HC.out _ HXw5.out) ?_
  refine ord_pureE (o := ⟨some 70, _, _, _, _, _⟩) rfl (by kernel_rfl) ⟨_, fun w9 => by (go_simp; try rfl), ?_⟩
  simp only [Act.put, List.setIfInBounds_toArray, List.set_cons_zero, List.set_cons_succ]
  refine ord_pureE (o := ⟨some 71, _, _, _, _, _⟩) rfl (by kernel_rfl) ⟨_, fun w9 => by (go_simp; try rfl), ?_⟩
  simp only [Act.put, List.setIfInBounds_toArray, List.set_cons_zero, List.set_cons_succ]
  refine ord_pureE (o := ⟨some 72, _, _, _, _, _⟩) rfl (by kernel_rfl) ⟨_, fun w9 => by (go_simp; try rfl), ?_⟩
  simp only [Act.put, List.setIfInBounds_toArray, List.set_cons_zero, List.set_cons_succ]
  refine ord_pureE (o := ⟨some 73, _, _, _, _, _⟩) rfl (by kernel_rfl) ⟨_, fun w9 => by (go_simp; try rfl), ?_⟩
  simp only [Act.put, List.setIfInBounds_toArray, List.set_cons_zero, List.set_cons_succ]
  refine ord_pureE (o := ⟨some 74, _, _, _, _, _⟩) rfl (by kernel_rfl) ⟨_, fun w9 => by (go_simp; try rfl), ?_⟩
  simp only [Act.put, List.setIfInBounds_toArray, List.set_cons_zero, List.set_cons_succ]
  refine ord_pureE (o := ⟨some 75, _, _, _, _, _⟩) rfl (by kernel_rfl) ⟨_, fun w9 => by (go_simp; try rfl), ?_⟩
  simp only [Act.put, List.setIfInBounds_toArray, List.set_cons_zero, List.set_cons_succ]
  refine ord_pureE (o := ⟨some 76, _, _, _, _, _⟩) rfl (by kernel_rfl) ⟨_, fun w9 => by (go_simp; try rfl), ?_⟩
  simp only [Act.put, List.setIfInBounds_toArray, List.set_cons_zero, List.set_cons_succ]
  refine ord_pureE (o := ⟨some 77, _, _, _, _, _⟩) rfl (by kernel_rfl) ⟨_, fun w9 => by (go_simp; try rfl), ?_⟩
  simp only [Act.put, List.setIfInBounds_toArray, List.set_cons_zero, List.set_cons_succ]
  refine ord_pureE (o := ⟨some 78, _, _, _, _, _⟩) rfl (by kernel_rfl) ⟨_, fun w9 => by (go_simp; try rfl), ?_⟩
  simp only [Act.put, List.setIfInBounds_toArray, List.set_cons_zero, List.set_cons_succ]
  refine ord_heldE (o := ⟨some 79, _, _, _, _, _⟩) rfl (by kernel_rfl) ⟨_, fun w9 h9 => by (obtain ⟨a0, a1, a2, a3⟩ := h9; go_simp; try rfl), ?_⟩
  simp only [Act.put, List.setIfInBounds_toArray, List.set_cons_zero, List.set_cons_succ]
  refine ord_pureE (o := ⟨some 80, _, _, _, _, _⟩) rfl (by kernel_rfl) ⟨_, fun w9 => by (go_simp; try rfl), ?_⟩
  simp only [Act.put, List.setIfInBounds_toArray, List.set_cons_zero, List.set_cons_succ]
  refine ord_pureE (o := ⟨some 81, _, _, _, _, _⟩) rfl (by kernel_rfl) ⟨_, fun w9 => by (go_simp; try rfl), ?_⟩
  simp only [Act.put, List.setIfInBounds_toArray, List.set_cons_zero, List.set_cons_succ]
  refine ord_pureE (o := ⟨some 82, _, _, _, _, _⟩) rfl (by kernel_rfl) ⟨_, fun w9 => by (go_simp; try rfl), ?_⟩
  simp only [Act.put, List.setIfInBounds_toArray, List.set_cons_zero, List.set_cons_succ]
  refine ord_pureE (o := ⟨some 83, _, _, _, _, _⟩) rfl (by kernel_rfl) ⟨_, fun w9 => by (go_simp; try rfl), ?_⟩
  simp only [Act.put, List.setIfInBounds_toArray, List.set_cons_zero, List.set_cons_succ]
  refine ord_pureE (o := ⟨some 84, _, _, _, _, _⟩) rfl (by kernel_rfl) ⟨_, fun w9 => by (go_simp; try rfl), ?_⟩
  simp only [Act.put, List.setIfInBounds_toArray, List.set_cons_zero, List.set_cons_succ]
  refine ord_pureE (o := ⟨some 85, _, _, _, _, _⟩) rfl (by kernel_rfl) ⟨_, fun w9 => by (go_simp; try rfl), ?_⟩
  simp only [Act.put, List.setIfInBounds_toArray, List.set_cons_zero, List.set_cons_succ]
  refine ord_pureE (o := ⟨some 86, _, _, _, _, _⟩) rfl (by kernel_rfl) ⟨_, fun w9 => by (go_simp; try rfl), ?_⟩
  simp only [Act.put, List.setIfInBounds_toArray, List.set_cons_zero, List.set_cons_succ]
  refine ord_pureE (o := ⟨some 87, _, _, _, _, _⟩) rfl (by kernel_rfl) ⟨_, fun w9 => by (go_simp; try rfl), ?_⟩
  simp only [Act.put, List.setIfInBounds_toArray, List.set_cons_zero, List.set_cons_succ]
  refine ord_pureE (o := ⟨some 88, _, _, _, _, _⟩) rfl (by kernel_rfl) ⟨_, fun w9 => by (go_simp; try rfl), ?_⟩
  simp only [Act.put, List.setIfInBounds_toArray, List.set_cons_zero, List.set_cons_succ]
  refine ord_pureE (o := ⟨some 89, _, _, _, _, _⟩) rfl (by kernel_rfl) ⟨_, fun w9 => by (go_simp; try rfl), ?_⟩
  simp only [Act.put, List.setIfInBounds_toArray, List.set_cons_zero, List.set_cons_succ]
  refine ord_pureE (o := ⟨some 90, _, _, _, _, _⟩) rfl (by kernel_rfl) ⟨_, fun w9 => by (go_simp; try rfl), ?_⟩
  simp only [Act.put, List.setIfInBounds_toArray, List.set_cons_zero, List.set_cons_succ]
  refine ord_heldE (o := ⟨some 91, _, _, _, _, _⟩) rfl (by kernel_rfl) ⟨_, fun w9 h9 => by (obtain ⟨a0, a1, a2, a3⟩ := h9; go_simp; try rfl), ?_⟩
  simp only [Act.put, List.setIfInBounds_toArray, List.set_cons_zero, List.set_cons_succ]
  refine ord_pureE (o := ⟨some 92, _, _, _, _, _⟩) rfl (by kernel_rfl) ⟨_, fun w9 => by (go_simp; try rfl), ?_⟩
  simp only [Act.put, List.setIfInBounds_toArray, List.set_cons_zero, List.set_cons_succ]
  refine ord_pureE (o := ⟨some 93, _, _, _, _, _⟩) rfl (by kernel_rfl) ⟨_, fun w9 => by (go_simp; try rfl), ?_⟩
  simp only [Act.put, List.setIfInBounds_toArray, List.set_cons_zero, List.set_cons_succ]
  refine ord_pureE (o := ⟨some 94, _, _, _, _, _⟩) rfl (by kernel_rfl) ⟨_, fun w9 => by (go_simp; try rfl), ?_⟩
  simp only [Act.put, List.setIfInBounds_toArray, List.set_cons_zero, List.set_cons_succ]
  refine ord_pureE (o := ⟨some 95, _, _, _, _, _⟩) rfl (by kernel_rfl) ⟨_, fun w9 => by (go_simp; try rfl), ?_⟩
  simp only [Act.put, List.setIfInBounds_toArray, List.set_cons_zero, List.set_cons_succ]
  refine ord_pureE (o := ⟨some 96, _, _, _, _, _⟩) rfl (by kernel_rfl) ⟨_, fun w9 => by (go_simp; try rfl), ?_⟩
  simp only [Act.put, List.setIfInBounds_toArray, List.set_cons_zero, List.set_cons_succ]
  refine ord_go rfl (fun K9 hK => ?_)
  go_simp
  go_wp2_with fail
  refine (bsum_any S _ HS.out).mono ?_
  rintro e w6 ⟨rfl, hw6⟩
  rw [HO.out.2.2.2]
  have HXw6 := hide (HXw5.out.trans (hw6.mono HXw5.out.size))
  clear hw6
  dsimp only
  refine hK.out _ _ (fun _ => HC.out _ HXw6.out) ?_
  clear hK K9
  refine ord_pureE (o := ⟨some 98, _, _, _, _, _⟩) rfl (by kernel_rfl) ⟨_, fun w9 => by (go_simp; try rfl), ?_⟩
  simp only [Act.put, List.setIfInBounds_toArray, List.set_cons_zero, List.set_cons_succ]
  refine ord_pureE (o := ⟨some 99, _, _, _, _, _⟩) rfl (by kernel_rfl) ⟨_, fun w9 => by (go_simp; try rfl), ?_⟩
  simp only [Act.put, List.setIfInBounds_toArray, List.set_cons_zero, List.set_cons_succ]
  refine ord_pureE (o := ⟨some 100, _, _, _, _, _⟩) rfl (by kernel_rfl) ⟨_, fun w9 => by (go_simp; try rfl), ?_⟩
  simp only [Act.put, List.setIfInBounds_toArray, List.set_cons_zero, List.set_cons_succ]
  refine ord_go rfl (fun K9 hK => ?_)
  go_simp
  refine hK.out _ _ (fun h => by cases h) ?_
  clear hK K9
  refine ord_end ?_
  go_wp2_with fail
  go_ret
  exact ⟨rfl, HB.out.trans (HXw6.out.mono HB.out.size)⟩

theorem tagText_any (w : World) (i : ByteArray) (n m : Int) (t : ByteArray) :
    Calls Try.prog 6 #[.agg #[.string i, .int .i64 n, .int .i64 m, .string t]] w fun e w' => e = .returned (.bool true) ∧ Below w.heap.size w w' := by
  by_cases g0 : 100 < i.size
  · exact tagText_big0 w i n m t g0
  by_cases g1 : 3000 < t.size
  · exact tagText_big1 w i n m t g0 g1
  by_cases ho : okOf i n m
  · exact tagText_ok w i n m t g0 g1 ho
  · exact tagText_no w i n m t g0 g1 ho

theorem tagText_own : ownKnob Try.prog.godebug = none := by kernel_rfl
theorem tagText_laidOut : laidOutB Try.prog = true := by kernel_rfl

set_option maxRecDepth 100000 in
theorem tagText_lifted (os : Os) (started : os.Started) (H : Type) (enc : TypeId × Value → H) :
    ReturnsInHanded {} Try.checked os 6 .any (Rows.tagTextSpec.pre6 enc Try.prog Try.f6 Rows.tagTextRow.domain false) (Rows.tagTextSpec.post enc Try.prog Try.f6 false true false false) := by
  refine returnsInHanded_of_change_sized (C := Try.checked) tagText_own started (by kernel_rfl) Try.func6
    (ChangeSpec.witness6 (enc := enc) (C := Try.checked) false ⟨#[], #[.agg #[.string ⟨#[]⟩, .int .i64 0, .int .i64 0, .string ⟨#[]⟩]], []⟩ 8 (by kernel_rfl) (by kernel_rfl) (by kernel_rfl) (by kernel_rfl)) ?_
  intro W base args ds gs before hval0 hW hcnd hsz0 _
  have hval : ∀ (j : Nat) t v, Try.f6.params[j]? = some t → args[j]? = some v → Value.okWide Try.prog W .any base t v := hval0
  have hW' := hW
  obtain ⟨p, q, hA0, hV, rfl, hfz, hnd⟩ := hW
  have hA : DataW.TrodAll enc Try.prog W 0 (fun _ => true) true Try.f6.params.toList args.toList ds p := hA0
  rw [Try.params6] at hA hval
  obtain ⟨v0, vs0, d0, ds0, p0, q0, hargs, rfl, rfl, h0, r0⟩ := trodAll_cons hA
  obtain ⟨rfl, rfl, rfl⟩ := trodAll_nil r0
  obtain rfl : args = #[v0] := by cases args; simp_all
  obtain ⟨rfl, rfl⟩ := trodVars_none hV
  have k0 := h0
  have lt0 : ∀ x ∈ p0, x.block < W.heap.size := by obtain ⟨m, hm⟩ := k0; exact DataW.trod_lt m _ _ _ hm
  obtain ⟨i0, n0, m0, b0, rfl⟩ := open_of (hval 0 23 v0 rfl rfl) h0
  clear hA0 hval0 hsz0
  refine (tagText_any W i0 n0 m0 b0).mono fun e W' ⟨he, bel⟩ => ?_
  subst he
  exact ⟨_, rfl, _, _, _, [], _, [], hW', trodAll_mk1 (shut_bool Try.underlying4 _), (trodAll_cons_mk (Below.trod tagText_laidOut (by kernel_rfl) (of_decide_eq_true (by kernel_rfl)) k0 bel lt0) trodAll_mk0), rfl, bel.frame _, fun h => by cases h⟩

theorem tagText_holds : Rows.TagTextSaid :=
  OpenClaim.holds_of_wide 6 Try.f6 rfl rfl rfl rfl rfl rfl rfl ⟨rfl, rfl, rfl, rfl, rfl⟩ rfl rfl rfl rfl rfl (by kernel_rfl) Try.func6 (by kernel_rfl)
    (of_decide_eq_true (by kernel_rfl)) (by unfold Func.isWrapper; first | (rw [if_pos (by decide +kernel)]; kernel_rfl) | (rw [if_neg (by decide +kernel)]; exact ⟨rfl, rfl⟩))
    (fun os started H enc _ => tagText_lifted os started H enc)

#print axioms tagText_holds

end Go.Proofs.Ytjdgaolailfplaa
