/- The ten rounds over sixteen numbers, walked. For sixteen numbers of 32 bits and a block's sixteen: the call returns what BMath says in memory of its own, and leaves what was there. -/
import Derived.Test.YtjdgaolailfplaaBNums
namespace Go.Proofs.Ytjdgaolailfplaa
open Go.RowKit Bk
set_option linter.unusedVariables false

def rowOf (r : Nat) : List Nat := (rows.drop (r * 16)).take 16
def fourOf (i : Nat) : List Nat := (fours.drop (i * 4)).take 4
theorem at_part (l : List Nat) (k n j : Nat) (h : j < n) : at' ((l.drop k).take n) j = at' l (k + j) := by
  simp [at', List.getD_eq_getElem?_getD, h, List.getElem?_drop]
theorem rowOf_at (r j : Nat) (h : j < 16) : at' (rowOf r) j = at' rows (16 * r + j) := by unfold rowOf; rw [at_part _ _ _ _ h, Nat.mul_comm]
theorem fourOf_at (i j : Nat) (h : j < 4) : at' (fourOf i) j = at' fours (4 * i + j) := by unfold fourOf; rw [at_part _ _ _ _ h, Nat.mul_comm]
theorem rowOf_len (r : Nat) (h : r < 10) : (rowOf r).length = 16 := by unfold rowOf; simp [rows]; omega
theorem fourOf_len (i : Nat) (h : i < 8) : (fourOf i).length = 4 := by unfold fourOf; simp [fours]; omega

/-- A block that is made, and filled at once. -/
theorem Row.made (w : World) (z vs : List Value) (t : TypeId) (hl : vs.length = z.length) : Row ((w.alloc (.cells z.toArray t)).setCells w.heap.size 0 vs) w.heap.size 0 vs := (Row.newL w z t).put vs hl
theorem Row.keep {w : World} {b o : Nat} {cs : List Value} (h : Row w b o cs) (z : Array Value) (vs : List Value) (t : TypeId) : Row ((w.alloc (.cells z t)).setCells w.heap.size 0 vs) b o cs := (h.alloc _).apart _ _ _ (.inl (Nat.ne_of_lt h.lt))
theorem below_made {B : Nat} {w0 w : World} (h : Below B w0 w) (hB : B ≤ w.heap.size) (z : Array Value) (vs : List Value) (t : TypeId) : Below B w0 ((w.alloc (.cells z t)).setCells w.heap.size 0 vs) := (h.alloc hB _).trans (below_setCells hB _ _ _)
theorem size_made (w : World) (z : Array Value) (vs : List Value) (t : TypeId) : ((w.alloc (.cells z t)).setCells w.heap.size 0 vs).heap.size = w.heap.size + 1 := by rw [size_setCells, World.size_alloc]

/-- What lies in memory while the rounds go on. -/
structure Mx (w0 w : World) (b : Nat) (v m : List Nat) : Prop where
  v : Row w w0.heap.size 0 (us v)
  m : Row w (w0.heap.size + 1) 0 (us m)
  z : Row w (w0.heap.size + 1 + 1) 0 (us (List.replicate 16 0))
  f : Row w b 0 (u8s fours)
  be : Below w0.heap.size w0 w
  hb : w0.heap.size + 1 + 1 < b
  lb : b < w.heap.size
theorem Mx.made {w0 w : World} {b : Nat} {v m : List Nat} (h : Mx w0 w b v m) (z : Array Value) (vs : List Value) (t : TypeId) : Mx w0 ((w.alloc (.cells z t)).setCells w.heap.size 0 vs) b v m :=
  ⟨h.v.keep _ _ _, h.m.keep _ _ _, h.z.keep _ _ _, h.f.keep _ _ _, below_made h.be (Nat.le_of_lt h.v.lt) _ _ _, h.hb, by rw [size_made]; have := h.lb; omega⟩
theorem Mx.drew {w0 w : World} {b : Nat} {v m : List Nat} (h : Mx w0 w b v m) : Mx w0 w.drew b v m := ⟨h.v.drew, h.m.drew, h.z.drew, h.f.drew, h.be.drew, h.hb, h.lb⟩
theorem Mx.set {w0 w : World} {b : Nat} {v m : List Nat} (h : Mx w0 w b v m) (i x : Nat) (hi : i < v.length) : Mx w0 (w.setCell ⟨w0.heap.size, i, none⟩ (.int .u32 (x : Int))) b (v.set i x) m := by
  have hb := h.hb
  refine ⟨?_, h.m.other _ _ _ (.inl (by omega)), h.z.other _ _ _ (.inl (by omega)), h.f.other _ _ _ (.inl (by omega)), h.be.setCell (Nat.le_refl _) _, h.hb, by simpa [World.setCell] using h.lb⟩
  rw [us_set]
  exact h.v.set0 (by rw [us_length]; exact hi) _

theorem mix_q {a b c d x y : Nat} {q : Qd} (w : World) (hb : b < 4294967296) (hd : d < 4294967296) (hq : mixN a b c d x y = q) :
    Calls Try.prog 40 #[.int .u32 a, .int .u32 b, .int .u32 c, .int .u32 d, .int .u32 x, .int .u32 y] w fun e w' => e = .returned (.tuple #[.int .u32 q.a, .int .u32 q.b, .int .u32 q.c, .int .u32 q.d]) ∧ w' = w := by
  subst hq
  exact mix_any a b c d x y w hb hd

set_option maxRecDepth 100000 in
set_option maxHeartbeats 8000000 in
theorem mixed_any (v m : List Nat) (w : World) (hv : v.length = 16) (hm : m.length = 16) (lv : Lt v) (lm : Lt m) :
    Calls Try.prog 36 #[.agg (us v).toArray, .agg (us m).toArray] w fun e w' => e = .returned (.agg (us (rds m v 10)).toArray) ∧ Below w.heap.size w w' := by
  obtain ⟨R, hR⟩ : ∃ R, rds m v 10 = R := ⟨_, rfl⟩
  have nR : R.length = 16 := hR ▸ (rds_length m v 10).trans hv
  rw [hR]
  have HRd := hide hR
  clear hR
  have R0 : Row ((((w.alloc (.cells (us v).toArray 72)).alloc (.cells (us m).toArray 72)).alloc (.cells #[.int .u32 0, .int .u32 0, .int .u32 0, .int .u32 0, .int .u32 0, .int .u32 0, .int .u32 0, .int .u32 0, .int .u32 0, .int .u32 0, .int .u32 0, .int .u32 0, .int .u32 0, .int .u32 0, .int .u32 0, .int .u32 0] 72)).alloc (.cells (u8s (List.replicate 160 0)).toArray 80)) (w.heap.size + 1 + 1 + 1) 0 (u8s (List.replicate 160 0)) := by
    have h := Row.newL (((w.alloc (.cells (us v).toArray 72)).alloc (.cells (us m).toArray 72)).alloc (.cells #[.int .u32 0, .int .u32 0, .int .u32 0, .int .u32 0, .int .u32 0, .int .u32 0, .int .u32 0, .int .u32 0, .int .u32 0, .int .u32 0, .int .u32 0, .int .u32 0, .int .u32 0, .int .u32 0, .int .u32 0, .int .u32 0] 72)) (u8s (List.replicate 160 0)) 80
    rwa [World.size_alloc, World.size_alloc, World.size_alloc] at h
  obtain ⟨W1, hW1, r0, r1, r2, r3, b1, s1⟩ : ∃ W1, ((((w.alloc (.cells (us v).toArray 72)).alloc (.cells (us m).toArray 72)).alloc (.cells #[.int .u32 0, .int .u32 0, .int .u32 0, .int .u32 0, .int .u32 0, .int .u32 0, .int .u32 0, .int .u32 0, .int .u32 0, .int .u32 0, .int .u32 0, .int .u32 0, .int .u32 0, .int .u32 0, .int .u32 0, .int .u32 0] 72)).alloc (.cells (u8s (List.replicate 160 0)).toArray 80)).setCells (w.heap.size + 1 + 1 + 1) 0 (u8s rows) = W1 ∧
      Row W1 w.heap.size 0 (us v) ∧ Row W1 (w.heap.size + 1) 0 (us m) ∧ Row W1 (w.heap.size + 1 + 1) 0 (us (List.replicate 16 0)) ∧ Row W1 (w.heap.size + 1 + 1 + 1) 0 (u8s rows) ∧ Below w.heap.size w W1 ∧ w.heap.size + 1 + 1 < W1.heap.size := by
    refine ⟨_, rfl, ?_, ?_, ?_, R0.put _ (by rw [u8s_length, u8s_length]; rfl), ?_, ?_⟩
    · exact ((((Row.newL w (us v) _).alloc _).alloc _).alloc _).apart _ _ _ (.inl (by omega))
    · have h := ((Row.newL (w.alloc (.cells (us v).toArray 72)) (us m) 72).alloc (.cells #[.int .u32 0, .int .u32 0, .int .u32 0, .int .u32 0, .int .u32 0, .int .u32 0, .int .u32 0, .int .u32 0, .int .u32 0, .int .u32 0, .int .u32 0, .int .u32 0, .int .u32 0, .int .u32 0, .int .u32 0, .int .u32 0] 72)).alloc (.cells (u8s (List.replicate 160 0)).toArray 80)
      rw [World.size_alloc] at h
      exact h.apart _ _ _ (.inl (by omega))
    · have h := (Row.new ((w.alloc (.cells (us v).toArray 72)).alloc (.cells (us m).toArray 72)) #[.int .u32 0, .int .u32 0, .int .u32 0, .int .u32 0, .int .u32 0, .int .u32 0, .int .u32 0, .int .u32 0, .int .u32 0, .int .u32 0, .int .u32 0, .int .u32 0, .int .u32 0, .int .u32 0, .int .u32 0, .int .u32 0] 72).alloc (.cells (u8s (List.replicate 160 0)).toArray 80)
      rw [World.size_alloc, World.size_alloc] at h
      exact h.apart _ _ _ (.inl (by omega))
    · exact ((((Below.refl _ w).alloc (Nat.le_refl _) _).alloc (by simp) _).alloc (by simp; omega) _ |>.alloc (by simp; omega) _).trans (below_setCells (by omega) _ _ _)
    · rw [size_setCells, World.size_alloc, World.size_alloc, World.size_alloc, World.size_alloc]; omega
  obtain ⟨W2, hW2, h2⟩ : ∃ W2, (W1.alloc (.cells (u8s (List.replicate 32 0)).toArray 82)).setCells W1.heap.size 0 (u8s fours) = W2 ∧ Mx w W2 W1.heap.size v m ∧ Row W2 (w.heap.size + 1 + 1 + 1) 0 (u8s rows) :=
    ⟨_, rfl, ⟨r0.keep _ _ _, r1.keep _ _ _, r2.keep _ _ _, Row.made _ _ _ _ (by rw [u8s_length, u8s_length]; rfl), below_made b1 (Nat.le_of_lt r0.lt) _ _ _, s1, by rw [size_made]; omega⟩, r3.keep _ _ _⟩
  have R1 := Row.newL W1 (u8s (List.replicate 32 0)) 82
  have RR := h2.2
  have HR0 := hide R0
  have HR1 := hide R1
  have HRR := hide RR
  have H2 := hide h2.1
  have HS := hide s1
  clear R0 R1 RR h2 r0 r1 r2 r3 b1 s1
  go_enter Try.func36, Try.ntmps36
  iterate 17 go_step
  refine wpList_buildL (op := ⟨some 17, _, _, _, _, _⟩) rfl 79 _ rfl (u8s [0, 1, 2, 3, 4, 5, 6, 7, 8, 9, 10, 11, 12, 13, 14, 15]) (by kernel_rfl) ?_
  refine wpList_buildL (op := ⟨some 18, _, _, _, _, _⟩) rfl 79 _ rfl (u8s [14, 10, 4, 8, 9, 15, 13, 6, 1, 12, 0, 2, 11, 7, 5, 3]) (by kernel_rfl) ?_
  refine wpList_buildL (op := ⟨some 19, _, _, _, _, _⟩) rfl 79 _ rfl (u8s [11, 8, 12, 0, 5, 2, 15, 13, 10, 14, 3, 6, 7, 1, 9, 4]) (by kernel_rfl) ?_
  refine wpList_buildL (op := ⟨some 20, _, _, _, _, _⟩) rfl 79 _ rfl (u8s [7, 9, 3, 1, 13, 12, 11, 14, 2, 6, 5, 10, 4, 0, 15, 8]) (by kernel_rfl) ?_
  refine wpList_buildL (op := ⟨some 21, _, _, _, _, _⟩) rfl 79 _ rfl (u8s [9, 0, 5, 7, 2, 4, 10, 15, 14, 1, 11, 12, 6, 8, 3, 13]) (by kernel_rfl) ?_
  refine wpList_buildL (op := ⟨some 22, _, _, _, _, _⟩) rfl 79 _ rfl (u8s [2, 12, 6, 10, 0, 11, 8, 3, 4, 13, 7, 5, 15, 14, 1, 9]) (by kernel_rfl) ?_
  refine wpList_buildL (op := ⟨some 23, _, _, _, _, _⟩) rfl 79 _ rfl (u8s [12, 5, 1, 15, 14, 13, 4, 10, 0, 7, 6, 3, 9, 2, 8, 11]) (by kernel_rfl) ?_
  refine wpList_buildL (op := ⟨some 24, _, _, _, _, _⟩) rfl 79 _ rfl (u8s [13, 11, 7, 14, 12, 1, 3, 9, 5, 0, 15, 4, 8, 6, 2, 10]) (by kernel_rfl) ?_
  refine wpList_buildL (op := ⟨some 25, _, _, _, _, _⟩) rfl 79 _ rfl (u8s [6, 15, 14, 9, 11, 3, 0, 8, 12, 2, 13, 7, 1, 4, 10, 5]) (by kernel_rfl) ?_
  refine wpList_buildL (op := ⟨some 26, _, _, _, _, _⟩) rfl 79 _ rfl (u8s [10, 2, 8, 4, 7, 6, 1, 5, 15, 11, 9, 14, 3, 12, 13, 0]) (by kernel_rfl) ?_
  refine wpList_buildL (op := ⟨some 27, _, _, _, _, _⟩) rfl 80 _ rfl (u8s rows) (by kernel_rfl) ?_
  refine wpList_allocL (op := ⟨some 5, _, _, _, _, _⟩) rfl 80 rfl (u8s (List.replicate 160 0)) 160 (by kernel_rfl) ?_
  simp only [Act.put, List.setIfInBounds_toArray, List.set_cons_zero, List.set_cons_succ]
  simp only [World.size_alloc]
  refine wpList_storeR (op := ⟨none, _, _, _, _, _⟩) rfl 80 (.tmp 5) (.tmp 27) rfl rfl (vs := u8s rows) rfl HR0.out (by rw [u8s_length, u8s_length]; rfl) (by kernel_rfl) (fun v hv => u8s_one hv) ?_
  rw [hW1]
  iterate 5 go_step
  refine wpList_buildL (op := ⟨some 28, _, _, _, _, _⟩) rfl 81 _ rfl (u8s [0, 4, 8, 12]) (by kernel_rfl) ?_
  refine wpList_buildL (op := ⟨some 29, _, _, _, _, _⟩) rfl 81 _ rfl (u8s [1, 5, 9, 13]) (by kernel_rfl) ?_
  refine wpList_buildL (op := ⟨some 30, _, _, _, _, _⟩) rfl 81 _ rfl (u8s [2, 6, 10, 14]) (by kernel_rfl) ?_
  refine wpList_buildL (op := ⟨some 31, _, _, _, _, _⟩) rfl 81 _ rfl (u8s [3, 7, 11, 15]) (by kernel_rfl) ?_
  refine wpList_buildL (op := ⟨some 32, _, _, _, _, _⟩) rfl 81 _ rfl (u8s [0, 5, 10, 15]) (by kernel_rfl) ?_
  refine wpList_buildL (op := ⟨some 33, _, _, _, _, _⟩) rfl 81 _ rfl (u8s [1, 6, 11, 12]) (by kernel_rfl) ?_
  refine wpList_buildL (op := ⟨some 34, _, _, _, _, _⟩) rfl 81 _ rfl (u8s [2, 7, 8, 13]) (by kernel_rfl) ?_
  refine wpList_buildL (op := ⟨some 35, _, _, _, _, _⟩) rfl 81 _ rfl (u8s [3, 4, 9, 14]) (by kernel_rfl) ?_
  refine wpList_buildL (op := ⟨some 36, _, _, _, _, _⟩) rfl 82 _ rfl (u8s fours) (by kernel_rfl) ?_
  refine wpList_allocL (op := ⟨some 6, _, _, _, _, _⟩) rfl 82 rfl (u8s (List.replicate 32 0)) 32 (by kernel_rfl) ?_
  simp only [Act.put, List.setIfInBounds_toArray, List.set_cons_zero, List.set_cons_succ]
  refine wpList_storeR (op := ⟨none, _, _, _, _, _⟩) rfl 82 (.tmp 6) (.tmp 36) rfl rfl (vs := u8s fours) rfl HR1.out (by rw [u8s_length, u8s_length]; rfl) (by kernel_rfl) (fun v hv => u8s_one hv) ?_
  rw [hW2]
  clear hW1 hW2 HR0 HR1
  go_wp2_with (refine wpList_loadR (op := ⟨some 37, _, _, _, _, _⟩) rfl 80 (.tmp 5) rfl rfl _ HRR.out Try.underlying80 rfl (by rw [u8s_length]; kernel_rfl) ?_)
  clear HRR
  go_loopg [8, 9, 10, 11, 12, 13, 14, 15, 16, 38] 10 (fun g _ _ _ _ _ _ _ _ _ t wr => ∃ r : Nat, r + g = 10 ∧ t = .int .i64 r ∧ Mx w wr W1.heap.size (rds m v r) m)
  case atStart => exact ⟨0, rfl, rfl, H2.out⟩
  case round =>
    clear H2
    obtain ⟨r, hrg, rfl, hM⟩ := hrel
    by_cases hlt : r < 10
    · have hlt' : (r : Int) < 10 := by omega
      obtain ⟨g3, rfl⟩ : ∃ g3, gk = g3 + 1 := ⟨gk - 1, by omega⟩
      have hx : ∀ w, (Instr.index 80 (.agg (u8s rows).toArray) (.int .i64 (r : Int))).run Try.prog w = .ok (.agg (u8s (rowOf r)).toArray) w := fun w => by
        rw [run_index_row (sz := 16) (u8s rows).toArray r Try.underlying80 hlt (by kernel_rfl) Try.underlying79 rfl w, u8s_extract rows (r * 16) 16]
        unfold rowOf
        rfl
      have HR3 := hide (Row.new wr #[.int .u8 0, .int .u8 0, .int .u8 0, .int .u8 0, .int .u8 0, .int .u8 0, .int .u8 0, .int .u8 0, .int .u8 0, .int .u8 0, .int .u8 0, .int .u8 0, .int .u8 0, .int .u8 0, .int .u8 0, .int .u8 0] 79)
      obtain ⟨W3, hW3, h3, h3r, h3s⟩ : ∃ W3, (wr.alloc (.cells #[.int .u8 0, .int .u8 0, .int .u8 0, .int .u8 0, .int .u8 0, .int .u8 0, .int .u8 0, .int .u8 0, .int .u8 0, .int .u8 0, .int .u8 0, .int .u8 0, .int .u8 0, .int .u8 0, .int .u8 0, .int .u8 0] 79)).setCells wr.heap.size 0 (u8s (rowOf r)) = W3 ∧ Mx w W3 W1.heap.size (rds m v r) m ∧ Row W3 wr.heap.size 0 (u8s (rowOf r)) ∧ wr.heap.size < W3.heap.size :=
        ⟨_, rfl, hM.made _ _ _, (Row.new wr #[.int .u8 0, .int .u8 0, .int .u8 0, .int .u8 0, .int .u8 0, .int .u8 0, .int .u8 0, .int .u8 0, .int .u8 0, .int .u8 0, .int .u8 0, .int .u8 0, .int .u8 0, .int .u8 0, .int .u8 0, .int .u8 0] 79).put _ (by rw [u8s_length, rowOf_len r hlt]; rfl), by rw [size_made]; omega⟩
      have HF := hide h3.f
      have H3 := hide h3
      have hwr : w.heap.size < wr.heap.size := hM.v.lt
      have HM := hide hM
      have H3r := hide h3r
      have H3s := hide h3s
      clear h3 hM h3r h3s
      go_wp2_with (first | (refine wpList_storeR (op := ⟨none, _, _, _, _, _⟩) rfl 79 (.tmp 8) (.tmp 40) rfl rfl (vs := u8s (rowOf r)) rfl HR3.out (by rw [u8s_length, rowOf_len r hlt]; rfl) (by rw [u8s_length, rowOf_len r hlt]; kernel_rfl) (fun v hv => u8s_one hv) ?_; rw [hW3]) | (refine wpList_loadR (op := ⟨some 41, _, _, _, _, _⟩) rfl 82 (.tmp 6) rfl rfl _ HF.out Try.underlying82 rfl (by rw [u8s_length]; kernel_rfl) ?_))
      obtain ⟨V, hV⟩ : ∃ V, rds m v r = V := ⟨_, rfl⟩
      have lV : Lt V := hV ▸ rds_lt lv r
      have nV : V.length = 16 := hV ▸ (rds_length m v r).trans hv
      rw [hV] at H3
      have HV := hide hV
      have HlV := hide lV
      have Hlm := hide lm
      clear hV lV hx hW3 HR3 HF HM
      go_loopg [9, 10, 11, 12, 13, 14, 15, 16, 42] 8 (fun g _ _ _ _ _ _ _ _ t wx => ∃ i : Nat, i + g = 8 ∧ t = .int .i64 i ∧ Mx w wx W1.heap.size (rnd m r V i) m ∧ Row wx wr.heap.size 0 (u8s (rowOf r)) ∧ wr.heap.size < wx.heap.size)
      case atStart => exact ⟨0, rfl, rfl, H3.out, H3r.out, H3s.out⟩
      case round =>
        clear H3 H3r H3s
        obtain ⟨wo, hwo⟩ : ∃ z, z = wr := ⟨_, rfl⟩
        subst hwo
        obtain ⟨i, hig, rfl, hM, hR, hs⟩ := hrel
        by_cases hi : i < 8
        · have hi' : (i : Int) < 8 := by omega
          obtain ⟨g4, rfl⟩ : ∃ g4, gk = g4 + 1 := ⟨gk - 1, by omega⟩
          obtain ⟨U, hU⟩ : ∃ U, rnd m r V i = U := ⟨_, rfl⟩
          have lU : Lt U := hU ▸ rnd_lt HlV.out r i
          have nU : U.length = 16 := hU ▸ (rnd_length m V r i).trans nV
          rw [hU] at hM
          have hx : ∀ w, (Instr.index 82 (.agg (u8s fours).toArray) (.int .i64 (i : Int))).run Try.prog w = .ok (.agg (u8s (fourOf i)).toArray) w := fun w => by
            rw [run_index_row (sz := 4) (u8s fours).toArray i Try.underlying82 hi (by kernel_rfl) Try.underlying81 rfl w, u8s_extract fours (i * 4) 4]
            unfold fourOf
            rfl
          have HR4 := hide (Row.new wo #[.int .u8 0, .int .u8 0, .int .u8 0, .int .u8 0] 81)
          obtain ⟨W4, hW4, h4, h4r, h4f, h4s⟩ : ∃ W4, (wo.alloc (.cells #[.int .u8 0, .int .u8 0, .int .u8 0, .int .u8 0] 81)).setCells wo.heap.size 0 (u8s (fourOf i)) = W4 ∧ Mx w W4 W1.heap.size U m ∧ Row W4 wr.heap.size 0 (u8s (rowOf r)) ∧ Row W4 wo.heap.size 0 (u8s (fourOf i)) ∧ wr.heap.size < W4.heap.size :=
            ⟨_, rfl, hM.made _ _ _, hR.keep _ _ _, (Row.new wo #[.int .u8 0, .int .u8 0, .int .u8 0, .int .u8 0] 81).put _ (by rw [u8s_length, fourOf_len i hi]; rfl), by rw [size_made]; omega⟩
          obtain ⟨fa, efa⟩ : ∃ z, Bk.at' fours (4 * i) = z := ⟨_, rfl⟩
          obtain ⟨fb, efb⟩ : ∃ z, Bk.at' fours (4 * i + 1) = z := ⟨_, rfl⟩
          obtain ⟨fc, efc⟩ : ∃ z, Bk.at' fours (4 * i + 2) = z := ⟨_, rfl⟩
          obtain ⟨fd, efd⟩ : ∃ z, Bk.at' fours (4 * i + 3) = z := ⟨_, rfl⟩
          obtain ⟨px, epx⟩ : ∃ z, Bk.at' rows (16 * r + 2 * i) = z := ⟨_, rfl⟩
          obtain ⟨py, epy⟩ : ∃ z, Bk.at' rows (16 * r + (2 * i + 1)) = z := ⟨_, rfl⟩
          have lfa : fa < 16 := efa ▸ fours_lt (by omega)
          have lfb : fb < 16 := efb ▸ fours_lt (by omega)
          have lfc : fc < 16 := efc ▸ fours_lt (by omega)
          have lfd : fd < 16 := efd ▸ fours_lt (by omega)
          have lpx : px < 16 := epx ▸ rows_lt (by omega)
          have lpy : py < 16 := epy ▸ rows_lt (by omega)
          obtain ⟨W5, hW5, h5, h5r, h5f⟩ : ∃ W5, W4.drew = W5 ∧ Mx w W5 W1.heap.size U m ∧ Row W5 wr.heap.size 0 (u8s (rowOf r)) ∧ Row W5 wo.heap.size 0 (u8s (fourOf i)) := ⟨_, rfl, h4.drew, h4r.drew, h4f.drew⟩
          obtain ⟨W6, hW6, h6⟩ : ∃ W6, W5.drew = W6 ∧ Mx w W6 W1.heap.size U m ∧ Row W6 wr.heap.size 0 (u8s (rowOf r)) ∧ wr.heap.size < W6.heap.size := ⟨_, rfl, h5.drew, h5r.drew, by subst hW5; exact h4s⟩
          have c0 := h5f.e0 0 (by rw [fourOf_len i hi]; omega)
          have c1 := h5f.e0 1 (by rw [fourOf_len i hi]; omega)
          have c2 := h5f.e0 2 (by rw [fourOf_len i hi]; omega)
          have c3 := h5f.e0 3 (by rw [fourOf_len i hi]; omega)
          rw [fourOf_at i _ (by omega), Nat.add_zero, efa] at c0
          rw [fourOf_at i _ (by omega), efb] at c1
          rw [fourOf_at i _ (by omega), efc] at c2
          rw [fourOf_at i _ (by omega), efd] at c3
          have d0 := h6.2.1.e0 (2 * i) (by rw [rowOf_len r hlt]; omega)
          have d1 := h6.2.1.e0 (2 * i + 1) (by rw [rowOf_len r hlt]; omega)
          rw [rowOf_at r _ (by omega), epx] at d0
          rw [rowOf_at r _ (by omega), epy] at d1
          have m0 := h6.1.m.u0 px (by omega)
          have m1 := h6.1.m.u0 py (by omega)
          obtain ⟨q, hq⟩ : ∃ q, mixN (Bk.at' U fa) (Bk.at' U fb) (Bk.at' U fc) (Bk.at' U fd) (Bk.at' m px) (Bk.at' m py) = q := ⟨_, rfl⟩
          have HQ := hide hq
          have hstep : rnd m r V (i + 1) = (((U.set fa q.a).set fb q.b).set fc q.c).set fd q.d := by
            show stp m r (rnd m r V i) i = _
            rw [hU]
            unfold stp mx
            rw [efa, efb, efc, efd, epx, epy, hq]
          have HST := hide hstep
          have HlU := hide lU
          have H6 := hide h6
          clear hstep hq lU h4 h4r h4f h4s h5 h5r h5f h6 hM hR hs hU efa efb efc efd epx epy
          have ia : (fa : Int) < 16 := by omega
          have ib : (fb : Int) < 16 := by omega
          have ic : (fc : Int) < 16 := by omega
          have id' : (fd : Int) < 16 := by omega
          have ix : (px : Int) < 16 := by omega
          have iy : (py : Int) < 16 := by omega
          have p0 : (0 : Int) ≤ 2 * (i : Int) := by omega
          have p1 : (0 : Int) ≤ 2 * (i : Int) + 1 := by omega
          have q0 : 2 * (i : Int) < 16 := by omega
          have q1 : 2 * (i : Int) + 1 < 16 := by omega
          have t0 : (2 * (i : Int)).toNat = 2 * i := by omega
          have t1 : (2 * (i : Int) + 1).toNat = 2 * i + 1 := by omega
          have v0 := IntWalk.i64_in (2 * (i : Int)) (by omega)
          have v1 := IntWalk.i64_in (2 * (i : Int) + 1) (by omega)
          go_wp2_with (refine wpList_storeR (op := ⟨none, _, _, _, _, _⟩) rfl 81 (.tmp 10) (.tmp 45) rfl rfl (vs := u8s (fourOf i)) rfl HR4.out (by rw [u8s_length, fourOf_len i hi]; rfl) (by rw [u8s_length, fourOf_len i hi]; kernel_rfl) (fun v hv => u8s_one hv) ?_; rw [hW4])
          refine region_tail 11 (by kernel_rfl) (by kernel_rfl) ?_
          rw [hW5]
          simp only [List.take_succ_cons, List.take_zero, List.drop_succ_cons, List.drop_zero]
          repeat still_step
          refine wpStill_nil ?_
          clear c0 c1 c2 c3 hx hW4 HR4
          go_wp2_with fail
          refine region_tail 14 (by kernel_rfl) (by kernel_rfl) ?_
          rw [hW6]
          simp only [List.take_succ_cons, List.take_zero, List.drop_succ_cons, List.drop_zero]
          repeat still_step
          refine wpStill_nil ?_
          clear d0 d1 m0 m1 p0 p1 q0 q1 t0 t1 v0 v1 ix iy lpx lpy
          go_wp2_with fail
          refine wp_region_lex (fun w9 => ∀ j, j < 16 → w9.cell? ⟨w.heap.size, j, none⟩ = some (.int .u32 (Bk.at' U j : Nat))) 25 [some true, some true, some true, some true, some true, some true, some false, some true, some true, some false, some true, some true, some false, some true, some true, some false, some true, some true, none, some true, some true, some true, some true, some true, some true, none, none, none, none, none, none, none] (by kernel_rfl) (by kernel_rfl) (fun _ _ _ _ h => h) (fun j hj => H6.out.1.drew.v.u0 j (by omega)) ?_
          refine lex_pure (.int .u8 (fa : Nat)) (by kernel_rfl) (fun w9 => by go_simp) ?_
          simp only [Act.put, List.setIfInBounds_toArray, List.set_cons_zero, List.set_cons_succ]
          refine lex_pure (.int .u8 (fb : Nat)) (by kernel_rfl) (fun w9 => by go_simp) ?_
          simp only [Act.put, List.setIfInBounds_toArray, List.set_cons_zero, List.set_cons_succ]
          refine lex_pure (.int .u8 (fc : Nat)) (by kernel_rfl) (fun w9 => by go_simp) ?_
          simp only [Act.put, List.setIfInBounds_toArray, List.set_cons_zero, List.set_cons_succ]
          refine lex_pure (.int .u8 (fd : Nat)) (by kernel_rfl) (fun w9 => by go_simp) ?_
          simp only [Act.put, List.setIfInBounds_toArray, List.set_cons_zero, List.set_cons_succ]
          refine lex_pure (.int .u8 (fa : Nat)) (by kernel_rfl) (fun w9 => by go_simp) ?_
          simp only [Act.put, List.setIfInBounds_toArray, List.set_cons_zero, List.set_cons_succ]
          refine lex_pure (.pointer (some ⟨w.heap.size, fa, none⟩)) (by kernel_rfl) (fun w9 => by go_simp) ?_
          simp only [Act.put, List.setIfInBounds_toArray, List.set_cons_zero, List.set_cons_succ]
          refine lex_held (.int .u32 (Bk.at' U fa : Nat)) (by kernel_rfl) (fun w9 h9 => by have h8 := h9 fa lfa; go_simp) ?_
          simp only [Act.put, List.setIfInBounds_toArray, List.set_cons_zero, List.set_cons_succ]
          refine lex_pure (.int .u8 (fb : Nat)) (by kernel_rfl) (fun w9 => by go_simp) ?_
          simp only [Act.put, List.setIfInBounds_toArray, List.set_cons_zero, List.set_cons_succ]
          refine lex_pure (.pointer (some ⟨w.heap.size, fb, none⟩)) (by kernel_rfl) (fun w9 => by go_simp) ?_
          simp only [Act.put, List.setIfInBounds_toArray, List.set_cons_zero, List.set_cons_succ]
          refine lex_held (.int .u32 (Bk.at' U fb : Nat)) (by kernel_rfl) (fun w9 h9 => by have h8 := h9 fb lfb; go_simp) ?_
          simp only [Act.put, List.setIfInBounds_toArray, List.set_cons_zero, List.set_cons_succ]
          refine lex_pure (.int .u8 (fc : Nat)) (by kernel_rfl) (fun w9 => by go_simp) ?_
          simp only [Act.put, List.setIfInBounds_toArray, List.set_cons_zero, List.set_cons_succ]
          refine lex_pure (.pointer (some ⟨w.heap.size, fc, none⟩)) (by kernel_rfl) (fun w9 => by go_simp) ?_
          simp only [Act.put, List.setIfInBounds_toArray, List.set_cons_zero, List.set_cons_succ]
          refine lex_held (.int .u32 (Bk.at' U fc : Nat)) (by kernel_rfl) (fun w9 h9 => by have h8 := h9 fc lfc; go_simp) ?_
          simp only [Act.put, List.setIfInBounds_toArray, List.set_cons_zero, List.set_cons_succ]
          refine lex_pure (.int .u8 (fd : Nat)) (by kernel_rfl) (fun w9 => by go_simp) ?_
          simp only [Act.put, List.setIfInBounds_toArray, List.set_cons_zero, List.set_cons_succ]
          refine lex_pure (.pointer (some ⟨w.heap.size, fd, none⟩)) (by kernel_rfl) (fun w9 => by go_simp) ?_
          simp only [Act.put, List.setIfInBounds_toArray, List.set_cons_zero, List.set_cons_succ]
          refine lex_held (.int .u32 (Bk.at' U fd : Nat)) (by kernel_rfl) (fun w9 h9 => by have h8 := h9 fd lfd; go_simp) ?_
          simp only [Act.put, List.setIfInBounds_toArray, List.set_cons_zero, List.set_cons_succ]
          refine lex_pure (.int .u32 (Bk.at' m px : Nat)) (by kernel_rfl) (fun w9 => by go_simp) ?_
          simp only [Act.put, List.setIfInBounds_toArray, List.set_cons_zero, List.set_cons_succ]
          refine lex_pure (.int .u32 (Bk.at' m py : Nat)) (by kernel_rfl) (fun w9 => by go_simp) ?_
          simp only [Act.put, List.setIfInBounds_toArray, List.set_cons_zero, List.set_cons_succ]
          refine lex_go rfl (fun K hK => ?_)
          go_simp
          go_wp2_with fail
          refine (mix_q _ (HlU.out fb) (HlU.out fd) HQ.out).mono ?_
          rintro e w9 ⟨rfl, hw9⟩
          subst hw9
          dsimp only
          refine hK.out _ _ (fun _ => (fun j hj => H6.out.1.drew.v.u0 j (by omega))) ?_
          clear hK K
          refine lex_pure (.tuple #[.int .u32 q.a, .int .u32 q.b, .int .u32 q.c, .int .u32 q.d]) (by kernel_rfl) (fun w9 => by go_simp) ?_
          simp only [Act.put, List.setIfInBounds_toArray, List.set_cons_zero, List.set_cons_succ]
          refine lex_pure (.int .u32 q.a) (by kernel_rfl) (fun w9 => by go_simp) ?_
          simp only [Act.put, List.setIfInBounds_toArray, List.set_cons_zero, List.set_cons_succ]
          refine lex_pure (.int .u32 q.b) (by kernel_rfl) (fun w9 => by go_simp) ?_
          simp only [Act.put, List.setIfInBounds_toArray, List.set_cons_zero, List.set_cons_succ]
          refine lex_pure (.int .u32 q.c) (by kernel_rfl) (fun w9 => by go_simp) ?_
          simp only [Act.put, List.setIfInBounds_toArray, List.set_cons_zero, List.set_cons_succ]
          refine lex_pure (.int .u32 q.d) (by kernel_rfl) (fun w9 => by go_simp) ?_
          simp only [Act.put, List.setIfInBounds_toArray, List.set_cons_zero, List.set_cons_succ]
          refine lex_pure (.pointer (some ⟨w.heap.size, fa, none⟩)) (by kernel_rfl) (fun w9 => by go_simp) ?_
          simp only [Act.put, List.setIfInBounds_toArray, List.set_cons_zero, List.set_cons_succ]
          refine lex_rest (Nat.le_refl _) (by rfl) (by rfl) ?_
          have x0 := H6.out.1.drew
          have x1 := x0.set fa q.a (by omega)
          have x2 := x1.set fb q.b (by rw [List.length_set]; omega)
          have x3 := x2.set fc q.c (by rw [List.length_set, List.length_set]; omega)
          have x4 := x3.set fd q.d (by rw [List.length_set, List.length_set, List.length_set]; omega)
          have HX := hide (And.intro x0 (And.intro x1 (And.intro x2 (And.intro x3 x4))))
          clear x0 x1 x2 x3 x4
          refine wpList_store1 rfl 54 (.tmp 91) (.tmp 87) rfl rfl rfl (HX.out.1.v.u0 fa (by omega)) (HX.out.1.v.f0 fa (by rw [us_length]; omega)) (by kernel_rfl) ?_
          iterate 3 go_step
          refine wpList_store1 rfl 54 (.tmp 92) (.tmp 88) rfl rfl rfl (HX.out.2.1.v.u0 fb (by rw [List.length_set]; omega)) (HX.out.2.1.v.f0 fb (by rw [us_length, List.length_set]; omega)) (by kernel_rfl) ?_
          iterate 3 go_step
          refine wpList_store1 rfl 54 (.tmp 93) (.tmp 89) rfl rfl rfl (HX.out.2.2.1.v.u0 fc (by rw [List.length_set, List.length_set]; omega)) (HX.out.2.2.1.v.f0 fc (by rw [us_length, List.length_set, List.length_set]; omega)) (by kernel_rfl) ?_
          iterate 3 go_step
          refine wpList_store1 rfl 54 (.tmp 94) (.tmp 90) rfl rfl rfl (HX.out.2.2.2.1.v.u0 fd (by rw [List.length_set, List.length_set, List.length_set]; omega)) (HX.out.2.2.2.1.v.f0 fd (by rw [us_length, List.length_set, List.length_set, List.length_set]; omega)) (by kernel_rfl) ?_
          go_wp2_with fail
          go_roundg g4
          case measure => omega
          case rel =>
            have x0 := H6.out.1
            have x1 := x0.set fa q.a (by omega)
            have x2 := x1.set fb q.b (by rw [List.length_set]; omega)
            have x3 := x2.set fc q.c (by rw [List.length_set, List.length_set]; omega)
            have x4 := x3.set fd q.d (by rw [List.length_set, List.length_set, List.length_set]; omega)
            refine ⟨i + 1, by omega, by go_num, by rw [HST.out]; exact x4.drew, ((((H6.out.2.1.other _ _ _ (.inl (by omega))).other _ _ _ (.inl (by omega))).other _ _ _ (.inl (by omega))).other _ _ _ (.inl (by omega))).drew, ?_⟩
            have := H6.out.2.2
            simpa [World.setCell] using this
        · obtain rfl : i = 8 := by omega
          have HM := hide hM
          clear hM hR hs
          go_wp2_with fail
          go_roundg g3
          case measure => omega
          case rel =>
            refine ⟨r + 1, by omega, by go_num, ?_⟩
            have h9 := HM.out
            rw [← HV.out] at h9
            exact h9
    · obtain rfl : r = 10 := by omega
      rw [HRd.out] at hM
      have HM := hide hM
      clear hM
      iterate 15 go_step
      refine wpList_loadR (op := ⟨some 97, _, _, _, _, _⟩) rfl 72 (.tmp 2) rfl rfl _ HM.out.v Try.underlying72 rfl (by rw [us_length, nR]; kernel_rfl) ?_
      simp only [Act.put, List.setIfInBounds_toArray, List.set_cons_zero, List.set_cons_succ]
      refine wpList_storeR (op := ⟨none, _, _, _, _, _⟩) rfl 72 (.tmp 4) (.tmp 97) rfl rfl (vs := us R) rfl HM.out.z (by rw [us_length, us_length, nR]; rfl) (by rw [us_length, nR]; kernel_rfl) (fun v hv => us_one hv) ?_
      go_wp2_with fail
      exact post_row _ (HM.out.z.put (us R) (by rw [us_length, us_length, nR]; rfl)) rfl rfl Try.underlying72 rfl (by rw [us_length, nR]; kernel_rfl) rfl ⟨rfl, HM.out.be.trans (below_setCells (by omega) _ _ _)⟩
end Go.Proofs.Ytjdgaolailfplaa
