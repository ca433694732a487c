/- The first numbers, and the numbers of a block, walked. For a block of 64 bytes: each call returns what BMath says in memory of its own, and leaves what was there. -/
import Derived.Test.YtjdgaolailfplaaArr
import Derived.Test.YtjdgaolailfplaaOrds
import Derived.Deep.LoopGhost
namespace Go.Proofs.Ytjdgaolailfplaa
open Go.RowKit Bk
set_option linter.unusedVariables false

/-- A result that lies in memory, whole. -/
theorem results_row {P : Program} {fn : Func} {p : Tmp} {ty : TypeId} (h : fn.results = #[.cell p ty]) (tmps : Array Value) (w : World) (b o : Nat) (cs : List Value) (d : TypeDesc) (ha : tmps.getD p undef = .pointer (some ⟨b, o, none⟩))
    (hc : w.rangeAt b o cs) (hu : P.underlying ty = some d) (hd : d.isRow = true) (hi : (P.info? ty).map (·.size) = some cs.length) : (results fn tmps).run P w = .ok (.agg cs.toArray) w := by
  have hl := run_loadVar_mid (P := P) w b o ty cs d hc hu hd hi
  simp only [Array.getD_eq_getD_getElem?] at ha
  simp only [results, h]
  simp [ha, asAddr, hl]
theorem post_row {P : Program} {fn : Func} {R : Ending → World → Prop} {a : Act} {w : World} {p : Tmp} {ty : TypeId} {b o : Nat} {cs : List Value} (d : TypeDesc) (hr : Row w b o cs) (h : fn.results = #[.cell p ty]) (ha : a.tmps.getD p undef = .pointer (some ⟨b, o, none⟩))
    (hu : P.underlying ty = some d) (hd : d.isRow = true) (hi : (P.info? ty).map (·.size) = some cs.length) (hz : a.defers = []) (hR : R (.returned (.agg cs.toArray)) w) : bodyPost P fn R .ret a w :=
  bodyPost_ret (results_row h a.tmps w b o cs d ha hr.cell hu hd hi) hz hR

set_option maxHeartbeats 1000000 in
theorem first_any (w : World) :
    Calls Try.prog 35 #[] w fun e w' => e = .returned (.agg (us iv).toArray) ∧ Below w.heap.size w w' := by
  go_enter Try.func35, Try.ntmps35
  go_wp2_with fail
  exact bodyPost_ret (v := .agg (us iv).toArray) (by simp [results, Try.results35, go_sem, us, iv]) rfl ⟨rfl, (Below.refl _ _).alloc (Nat.le_refl _) _⟩

/-- The numbers that are made. -/
def nupto (l : List UInt8) (k : Nat) : List Nat := tab 16 fun j => if j < k then num l j else 0
theorem nupto_zero (l : List UInt8) : nupto l 0 = List.replicate 16 0 := rfl
theorem nupto_all (l : List UInt8) : nupto l 16 = nums l := tab_ext fun j hj => if_pos hj
theorem nupto_len (l : List UInt8) (k : Nat) : (nupto l k).length = 16 := tab_length _ _
theorem nupto_succ (l : List UInt8) (k : Nat) (hk : k < 16) : nupto l (k + 1) = (nupto l k).set k (num l k) := by
  apply at_ext (by rw [nupto_len, List.length_set, nupto_len])
  intro j hj
  rw [nupto_len] at hj
  rw [at_set _ _ _ _ (by rw [nupto_len]; exact hk)]
  unfold nupto
  rw [tab_at _ _ _ hj, tab_at _ _ _ hj]
  by_cases e : j = k
  · rw [if_pos (by omega), if_pos e, e]
  · rw [if_neg e]
    by_cases e2 : j < k
    · rw [if_pos e2, if_pos (by omega)]
    · rw [if_neg e2, if_neg (by omega)]

theorem or4 {b0 b1 b2 b3 N : Nat} (l0 : b0 < 256) (l1 : b1 < 256) (l2 : b2 < 256) (l3 : b3 < 256) (h : b0 + 256 * b1 + 65536 * b2 + 16777216 * b3 = N) :
    bits .or .u32 (bits .or .u32 (bits .or .u32 (b0 : Int) (IntKind.u32.wrap ((b1 : Int) * 256))) (IntKind.u32.wrap ((b2 : Int) * 65536))) (IntKind.u32.wrap ((b3 : Int) * 16777216)) = (N : Int) := by
  have c1 : IntKind.u32.wrap ((b1 : Int) * 256) = ((2 ^ 8 * b1 : Nat) : Int) := by rw [IntWalk.u32_in _ (by omega)]; omega
  have c2 : IntKind.u32.wrap ((b2 : Int) * 65536) = ((2 ^ 16 * b2 : Nat) : Int) := by rw [IntWalk.u32_in _ (by omega)]; omega
  have c3 : IntKind.u32.wrap ((b3 : Int) * 16777216) = ((2 ^ 24 * b3 : Nat) : Int) := by rw [IntWalk.u32_in _ (by omega)]; omega
  have o1 : b0 ||| 2 ^ 8 * b1 = 2 ^ 8 * b1 + b0 := (Nat.or_comm _ _).trans (Nat.two_pow_add_eq_or_of_lt (by omega) _).symm
  have o2 : (2 ^ 8 * b1 + b0) ||| 2 ^ 16 * b2 = 2 ^ 16 * b2 + (2 ^ 8 * b1 + b0) := (Nat.or_comm _ _).trans (Nat.two_pow_add_eq_or_of_lt (by omega) _).symm
  have o3 : (2 ^ 16 * b2 + (2 ^ 8 * b1 + b0)) ||| 2 ^ 24 * b3 = 2 ^ 24 * b3 + (2 ^ 16 * b2 + (2 ^ 8 * b1 + b0)) := (Nat.or_comm _ _).trans (Nat.two_pow_add_eq_or_of_lt (by omega) _).symm
  rw [c1, u32_or_nat _ _ (by omega) (by omega), o1, c2, u32_or_nat _ _ (by omega) (by omega), o2, c3, u32_or_nat _ _ (by omega) (by omega), o3]
  omega

set_option maxHeartbeats 1000000 in
theorem numsOf_any (l : List UInt8) (w : World) (hl : l.length = 64) :
    Calls Try.prog 37 #[.agg (bs l).toArray] w fun e w' => e = .returned (.agg (us (nums l)).toArray) ∧ Below w.heap.size w w' := by
  go_enter Try.func37, Try.ntmps37
  go_wp2_with fail
  go_loopg [4, 5, 6] 16 (fun g _ _ t wr => ∃ k : Nat, k + g = 16 ∧ t = .int .i64 k ∧ Row wr w.heap.size 0 (bs l) ∧ Row wr (w.heap.size + 1) 0 (us (List.replicate 16 0)) ∧ Row wr (w.heap.size + 1 + 1) 0 (us (nupto l k)) ∧ Below w.heap.size w wr)
  case atStart =>
    refine ⟨0, rfl, rfl, ?_, ?_, ?_, ?_⟩
    · exact ((Row.newL w (bs l) _).alloc _).alloc _
    · have h1 := (Row.new (w.alloc (.cells (bs l).toArray 63)) (us (List.replicate 16 0)).toArray 72).alloc (.cells (us (List.replicate 16 0)).toArray 72)
      rw [World.size_alloc] at h1
      exact h1
    · have h1 := Row.new ((w.alloc (.cells (bs l).toArray 63)).alloc (.cells (us (List.replicate 16 0)).toArray 72)) (us (nupto l 0)).toArray 72
      rw [World.size_alloc, World.size_alloc] at h1
      exact h1
    · exact (((Below.refl _ w).alloc (Nat.le_refl _) _).alloc (by simp) _).alloc (by simp; omega) _
  case round =>
    obtain ⟨k, hkg, rfl, h1, h2, h3, hB⟩ := hrel
    by_cases hlt : k < 16
    · have hlt' : (k : Int) < 16 := by omega
      obtain ⟨g3, rfl⟩ : ∃ g3, gk = g3 + 1 := ⟨gk - 1, by omega⟩
      have y0 := h1.y0 (4 * k) (by omega)
      have y1 := h1.y0 (4 * k + 1) (by omega)
      have y2 := h1.y0 (4 * k + 2) (by omega)
      have y3 := h1.y0 (4 * k + 3) (by omega)
      have x3 := h3.u0 k (by rw [nupto_len]; exact hlt)
      have f3 := h3.f0 k (by rw [us_length, nupto_len]; exact hlt)
      have H1 := hide h1
      have H2 := hide h2
      have H3 := hide h3
      have HB := hide hB
      clear h1 h2 h3 hB
      have p0 : (0 : Int) ≤ 4 * (k : Int) := by omega
      have p1 : (0 : Int) ≤ 4 * (k : Int) + 1 := by omega
      have p2 : (0 : Int) ≤ 4 * (k : Int) + 2 := by omega
      have p3 : (0 : Int) ≤ 4 * (k : Int) + 3 := by omega
      have q0 : 4 * (k : Int) < 64 := by omega
      have q1 : 4 * (k : Int) + 1 < 64 := by omega
      have q2 : 4 * (k : Int) + 2 < 64 := by omega
      have q3 : 4 * (k : Int) + 3 < 64 := by omega
      have t0 : (4 * (k : Int)).toNat = 4 * k := by omega
      have t1 : (4 * (k : Int) + 1).toNat = 4 * k + 1 := by omega
      have t2 : (4 * (k : Int) + 2).toNat = 4 * k + 2 := by omega
      have t3 : (4 * (k : Int) + 3).toNat = 4 * k + 3 := by omega
      have v1 := IntWalk.i64_in (4 * (k : Int) + 1) (by omega)
      have v2 := IntWalk.i64_in (4 * (k : Int) + 2) (by omega)
      have v3 := IntWalk.i64_in (4 * (k : Int) + 3) (by omega)
      obtain ⟨N, hN⟩ : ∃ N, num l k = N := ⟨_, rfl⟩
      have hN2 := hN
      unfold num at hN2
      have HN := hide hN
      clear hN
      obtain ⟨b0, e0⟩ : ∃ b, by' l (4 * k) = b := ⟨_, rfl⟩
      obtain ⟨b1, e1⟩ : ∃ b, by' l (4 * k + 1) = b := ⟨_, rfl⟩
      obtain ⟨b2, e2⟩ : ∃ b, by' l (4 * k + 2) = b := ⟨_, rfl⟩
      obtain ⟨b3, e3⟩ : ∃ b, by' l (4 * k + 3) = b := ⟨_, rfl⟩
      have l0 := by_lt l (4 * k)
      have l1 := by_lt l (4 * k + 1)
      have l2 := by_lt l (4 * k + 2)
      have l3 := by_lt l (4 * k + 3)
      rw [e0] at y0 hN2 l0
      rw [e1] at y1 hN2 l1
      rw [e2] at y2 hN2 l2
      rw [e3] at y3 hN2 l3
      have hor := or4 l0 l1 l2 l3 hN2
      clear hN2 e0 e1 e2 e3
      have z0 := IntWalk.u32_in (b0 : Int) (by omega)
      have z1 := IntWalk.u32_in (b1 : Int) (by omega)
      have z2 := IntWalk.u32_in (b2 : Int) (by omega)
      have z3 := IntWalk.u32_in (b3 : Int) (by omega)
      go_wp2_with fail
      refine wp_region_still_tail 26 (by kernel_rfl) (by kernel_rfl) ?_
      simp only [List.take_succ_cons, List.take_zero, List.drop_succ_cons, List.drop_zero]
      repeat still_step
      refine wpStill_nil ?_
      clear hor y0 y1 y2 y3
      go_wp2_with fail
      go_roundg g3
      case measure => omega
      case rel =>
        refine ⟨k + 1, by omega, by go_num, (H1.out.other _ _ _ (.inl (by omega))).drew, (H2.out.other _ _ _ (.inl (by omega))).drew, ?_, (HB.out.setCell (by simp; omega) _).drew⟩
        rw [nupto_succ l k hlt, us_set, HN.out]
        exact (H3.out.set0 (by rw [us_length, nupto_len]; exact hlt) _).drew
    · obtain rfl : k = 16 := by omega
      rw [nupto_all] at h3
      have H2 := hide h2
      have H3 := hide h3
      have HB := hide hB
      clear h1 h2 h3 hB
      go_wp2_with (first | (refine wpList_load_mid rfl 72 (.tmp 3) rfl _ _ rfl _ _ H3.out.cell Try.underlying72 rfl (by kernel_rfl) ?_) | (refine wpList_store_mid rfl 72 (.tmp 2) (.tmp 39) rfl _ _ _ rfl rfl H2.out.there (by kernel_rfl) (all_oneCell_toArray (fun v hv => us_one hv)) ?_))
      exact post_row _ (H2.out.put (us (nums l)) (by rw [us_length, us_length, nums_length]; rfl)) rfl rfl Try.underlying72 rfl (by rw [us_length, nums_length]; kernel_rfl) rfl ⟨rfl, HB.out.trans (below_setCells (by omega) _ _ _)⟩
end Go.Proofs.Ytjdgaolailfplaa
