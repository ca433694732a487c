/- The 64 numbers w of a block, walked. For a block of 64 bytes: the call returns what SMath says in memory of its own, and leaves what was there. -/
import Derived.Test.YtdcmjmmfclhfbaaSLow
import Derived.Test.YtdcmjmmfclhfbaaArr
import Derived.Test.YtdcmjmmfclhfbaaOrds
import Derived.Deep.LoopGhost
namespace Go.Proofs.Ytdcmjmmfclhfbaa
open Go.RowKit Bk
set_option linter.unusedVariables false

/-- A result that lies in memory, whole. -/
theorem sres_row {P : Program} {fn : Func} {p : Tmp} {ty : TypeId} (h : fn.results = #[.cell p ty]) (tmps : Array Value) (w : World) (b o : Nat) (cs : List Value) (d : TypeDesc) (ha : tmps.getD p undef = .pointer (some ⟨b, o, none⟩))
    (hc : w.rangeAt b o cs) (hu : P.underlying ty = some d) (hd : d.isRow = true) (hi : (P.info? ty).map (·.size) = some cs.length) : (results fn tmps).run P w = .ok (.agg cs.toArray) w := by
  have hl := run_loadVar_mid (P := P) w b o ty cs d hc hu hd hi
  simp only [Array.getD_eq_getD_getElem?] at ha
  simp only [results, h]
  simp [ha, asAddr, hl]
theorem spost_row {P : Program} {fn : Func} {R : Ending → World → Prop} {a : Act} {w : World} {p : Tmp} {ty : TypeId} {b o : Nat} {cs : List Value} (d : TypeDesc) (hr : Row w b o cs) (h : fn.results = #[.cell p ty]) (ha : a.tmps.getD p undef = .pointer (some ⟨b, o, none⟩))
    (hu : P.underlying ty = some d) (hd : d.isRow = true) (hi : (P.info? ty).map (·.size) = some cs.length) (hz : a.defers = []) (hR : R (.returned (.agg cs.toArray)) w) : bodyPost P fn R .ret a w :=
  bodyPost_ret (sres_row h a.tmps w b o cs d ha hr.cell hu hd hi) hz hR

/-- The first k of W, noughts behind. -/
def supto (W : List Nat) (k : Nat) : List Nat := tab 64 fun j => if j < k then at' W j else 0
theorem supto_zero (W : List Nat) : supto W 0 = List.replicate 64 0 := rfl
theorem supto_len (W : List Nat) (k : Nat) : (supto W k).length = 64 := tab_length _ _
theorem supto_all {W : List Nat} (h : W.length = 64) : supto W 64 = W := by
  have := at_tab W
  rw [h] at this
  exact (tab_ext fun j hj => if_pos hj).trans this
theorem supto_at (W : List Nat) (k j : Nat) (hj : j < k) (hk : k ≤ 64) : at' (supto W k) j = at' W j := by
  unfold supto; rw [tab_at _ _ _ (by omega), if_pos hj]
theorem supto_succ (W : List Nat) (k : Nat) (hk : k < 64) : supto W (k + 1) = (supto W k).set k (at' W k) := by
  apply at_ext (by rw [supto_len, List.length_set, supto_len])
  intro j hj
  rw [supto_len] at hj
  rw [at_set _ _ _ _ (by rw [supto_len]; exact hk)]
  unfold supto
  rw [tab_at _ _ _ hj, tab_at _ _ _ hj]
  by_cases e : j = k
  · rw [if_pos (by omega), if_pos e, e]
  · rw [if_neg e]
    by_cases e2 : j < k
    · rw [if_pos e2, if_pos (by omega)]
    · rw [if_neg e2, if_neg (by omega)]

theorem bor4 {b0 b1 b2 b3 N : Nat} (l0 : b0 < 256) (l1 : b1 < 256) (l2 : b2 < 256) (l3 : b3 < 256) (h : 16777216 * b0 + 65536 * b1 + 256 * b2 + b3 = N) :
    bits .or .u32 (bits .or .u32 (bits .or .u32 (IntKind.u32.wrap ((b0 : Int) * 16777216)) (IntKind.u32.wrap ((b1 : Int) * 65536))) (IntKind.u32.wrap ((b2 : Int) * 256))) (b3 : Int) = (N : Int) := by
  have c1 : IntKind.u32.wrap ((b2 : Int) * 256) = ((2 ^ 8 * b2 : Nat) : Int) := by rw [IntWalk.u32_in _ (by omega)]; omega
  have c2 : IntKind.u32.wrap ((b1 : Int) * 65536) = ((2 ^ 16 * b1 : Nat) : Int) := by rw [IntWalk.u32_in _ (by omega)]; omega
  have c3 : IntKind.u32.wrap ((b0 : Int) * 16777216) = ((2 ^ 24 * b0 : Nat) : Int) := by rw [IntWalk.u32_in _ (by omega)]; omega
  have o1 : 2 ^ 24 * b0 ||| 2 ^ 16 * b1 = 2 ^ 24 * b0 + 2 ^ 16 * b1 := (Nat.two_pow_add_eq_or_of_lt (by omega) _).symm
  have o2 : (2 ^ 24 * b0 + 2 ^ 16 * b1) ||| 2 ^ 8 * b2 = 2 ^ 24 * b0 + 2 ^ 16 * b1 + 2 ^ 8 * b2 := by
    rw [show 2 ^ 24 * b0 + 2 ^ 16 * b1 = 2 ^ 16 * (2 ^ 8 * b0 + b1) by omega]
    exact (Nat.two_pow_add_eq_or_of_lt (by omega) _).symm
  have o3 : (2 ^ 24 * b0 + 2 ^ 16 * b1 + 2 ^ 8 * b2) ||| b3 = 2 ^ 24 * b0 + 2 ^ 16 * b1 + 2 ^ 8 * b2 + b3 := by
    rw [show 2 ^ 24 * b0 + 2 ^ 16 * b1 + 2 ^ 8 * b2 = 2 ^ 8 * (2 ^ 16 * b0 + 2 ^ 8 * b1 + b2) by omega]
    exact (Nat.two_pow_add_eq_or_of_lt (by omega) _).symm
  rw [c1, c2, c3, u32_or_nat _ _ (by omega) (by omega), o1, u32_or_nat _ _ (by omega) (by omega), o2, u32_or_nat _ _ (by omega) (by omega), o3]
  omega

set_option maxRecDepth 100000 in
set_option maxHeartbeats 4000000 in
theorem spread_any (l : List UInt8) (w : World) (hl : l.length = 64) :
    Calls Try.prog 46 #[.agg (bs l).toArray] w fun e w' => e = .returned (.agg (us (swl (bnums l) 48)).toArray) ∧ Below w.heap.size w w' := by
  have n16 := bnums_length l
  obtain ⟨W, eW⟩ : ∃ W, swl (bnums l) 48 = W := ⟨_, rfl⟩
  have nW : W.length = 64 := eW ▸ swl_length n16 48
  have lW : Lt W := eW ▸ swl_lt n16 (bnums_lt l) 48
  have wlow : ∀ k, k < 16 → at' W k = bnum l k := fun k hk => by rw [← eW, swl_low n16 48 k hk]; exact tab_at _ _ _ hk
  have wat : ∀ k, 16 ≤ k → k < 64 → at' W k = swn W k := fun k h1 h2 => by
    obtain ⟨i, rfl⟩ : ∃ i, k = 16 + i := ⟨k - 16, by omega⟩
    rw [← eW]; exact swl_at n16 48 i (by omega)
  rw [eW]
  have HlW := hide lW
  have HwL := hide wlow
  have HwA := hide wat
  clear eW lW wlow wat n16
  go_enter Try.func46, Try.ntmps46
  go_wp2_with fail
  go_loopg [4, 5, 9] 16 (fun g _ _ t wr => ∃ k : Nat, k + g = 16 ∧ t = .int .i64 k ∧ Row wr w.heap.size 0 (bs l) ∧ Row wr (w.heap.size + 1) 0 (us (List.replicate 64 0)) ∧ Row wr (w.heap.size + 1 + 1) 0 (us (supto W k)) ∧ Below w.heap.size w wr)
  case atStart =>
    refine ⟨0, rfl, rfl, ?_, ?_, ?_, ?_⟩
    · exact ((Row.newL w (bs l) _).alloc _).alloc _
    · have h1 := (Row.new (w.alloc (.cells (bs l).toArray 54)) (us (List.replicate 64 0)).toArray 53).alloc (.cells (us (List.replicate 64 0)).toArray 53)
      rw [World.size_alloc] at h1
      exact h1
    · have h1 := Row.new ((w.alloc (.cells (bs l).toArray 54)).alloc (.cells (us (List.replicate 64 0)).toArray 53)) (us (supto W 0)).toArray 53
      rw [World.size_alloc, World.size_alloc] at h1
      exact h1
    · exact (((Below.refl _ w).alloc (Nat.le_refl _) _).alloc (by simp) _).alloc (by simp; omega) _
  case round =>
    obtain ⟨k, hkg, rfl, h1, h2, h3, hB⟩ := hrel
    by_cases hlt : k < 16
    · have hlt' : (k : Int) < 16 := by omega
      obtain ⟨g3, rfl⟩ : ∃ g3, gk = g3 + 1 := ⟨gk - 1, by omega⟩
      have y0 := h1.y0 (4 * k) (by omega)
      have y1 := h1.y0 (4 * k + 1) (by omega)
      have y2 := h1.y0 (4 * k + 2) (by omega)
      have y3 := h1.y0 (4 * k + 3) (by omega)
      have x3 := h3.u0 k (by rw [supto_len]; omega)
      have f3 := h3.f0 k (by rw [us_length, supto_len]; omega)
      have H1 := hide h1
      have H2 := hide h2
      have H3 := hide h3
      have HB := hide hB
      clear h1 h2 h3 hB
      have p0 : (0 : Int) ≤ 4 * (k : Int) := by omega
      have p1 : (0 : Int) ≤ 4 * (k : Int) + 1 := by omega
      have p2 : (0 : Int) ≤ 4 * (k : Int) + 2 := by omega
      have p3 : (0 : Int) ≤ 4 * (k : Int) + 3 := by omega
      have q0 : 4 * (k : Int) < 64 := by omega
      have q1 : 4 * (k : Int) + 1 < 64 := by omega
      have q2 : 4 * (k : Int) + 2 < 64 := by omega
      have q3 : 4 * (k : Int) + 3 < 64 := by omega
      have q4 : (k : Int) < 64 := by omega
      have t0 : (4 * (k : Int)).toNat = 4 * k := by omega
      have t1 : (4 * (k : Int) + 1).toNat = 4 * k + 1 := by omega
      have t2 : (4 * (k : Int) + 2).toNat = 4 * k + 2 := by omega
      have t3 : (4 * (k : Int) + 3).toNat = 4 * k + 3 := by omega
      have v1 := IntWalk.i64_in (4 * (k : Int) + 1) (by omega)
      have v2 := IntWalk.i64_in (4 * (k : Int) + 2) (by omega)
      have v3 := IntWalk.i64_in (4 * (k : Int) + 3) (by omega)
      obtain ⟨N, hN⟩ : ∃ N, bnum l k = N := ⟨_, rfl⟩
      have hN2 := hN
      unfold bnum at hN2
      have HN := hide ((HwL.out k hlt).trans hN)
      clear hN
      obtain ⟨b0, e0⟩ : ∃ b, by' l (4 * k) = b := ⟨_, rfl⟩
      obtain ⟨b1, e1⟩ : ∃ b, by' l (4 * k + 1) = b := ⟨_, rfl⟩
      obtain ⟨b2, e2⟩ : ∃ b, by' l (4 * k + 2) = b := ⟨_, rfl⟩
      obtain ⟨b3, e3⟩ : ∃ b, by' l (4 * k + 3) = b := ⟨_, rfl⟩
      have l0 := by_lt l (4 * k)
      have l1 := by_lt l (4 * k + 1)
      have l2 := by_lt l (4 * k + 2)
      have l3 := by_lt l (4 * k + 3)
      rw [e0] at y0 hN2 l0
      rw [e1] at y1 hN2 l1
      rw [e2] at y2 hN2 l2
      rw [e3] at y3 hN2 l3
      have hor := bor4 l0 l1 l2 l3 hN2
      clear hN2 e0 e1 e2 e3
      have z0 := IntWalk.u32_in (b0 : Int) (by omega)
      have z1 := IntWalk.u32_in (b1 : Int) (by omega)
      have z2 := IntWalk.u32_in (b2 : Int) (by omega)
      have z3 := IntWalk.u32_in (b3 : Int) (by omega)
      go_wp2_with fail
      refine wp_region_still_tail 26 (by kernel_rfl) (by kernel_rfl) ?_
      simp only [List.take_succ_cons, List.take_zero, List.drop_succ_cons, List.drop_zero]
      repeat still_step
      refine wpStill_nil ?_
      clear hor y0 y1 y2 y3
      go_wp2_with fail
      go_roundg g3
      case measure => omega
      case rel =>
        refine ⟨k + 1, by omega, by go_num, (H1.out.other _ _ _ (.inl (by omega))).drew, (H2.out.other _ _ _ (.inl (by omega))).drew, ?_, (HB.out.setCell (by simp; omega) _).drew⟩
        rw [supto_succ W k (by omega), us_set, HN.out]
        exact (H3.out.set0 (by rw [us_length, supto_len]; omega) _).drew
    · obtain rfl : k = 16 := by omega
      have H1 := hide h1
      have H2 := hide h2
      have H3 := hide h3
      have HB := hide hB
      clear h1 h2 h3 hB
      go_wp2_with fail
      go_loopg [6, 7, 8] 48 (fun g t _ _ wr => ∃ k : Nat, k + g = 64 ∧ 16 ≤ k ∧ t = .int .i64 k ∧ Row wr (w.heap.size + 1) 0 (us (List.replicate 64 0)) ∧ Row wr (w.heap.size + 1 + 1) 0 (us (supto W k)) ∧ Below w.heap.size w wr)
      case atStart => exact ⟨16, rfl, Nat.le_refl _, rfl, H2.out, H3.out, HB.out⟩
      case round =>
        clear H1 H2 H3 HB
        obtain ⟨k, hkg, hk0, rfl, h2, h3, hB⟩ := hrel
        by_cases hk : k < 64
        · have hk' : (k : Int) < 64 := by omega
          obtain ⟨g4, rfl⟩ : ∃ g4, gk = g4 + 1 := ⟨gk - 1, by omega⟩
          have c16 := h3.u0 (k - 16) (by rw [supto_len]; omega)
          have c7 := h3.u0 (k - 7) (by rw [supto_len]; omega)
          have c15 := h3.u0 (k - 15) (by rw [supto_len]; omega)
          have c2 := h3.u0 (k - 2) (by rw [supto_len]; omega)
          rw [supto_at W k _ (by omega) (by omega)] at c16 c7 c15 c2
          have x3 := h3.u0 k (by rw [supto_len]; omega)
          have f3 := h3.f0 k (by rw [us_length, supto_len]; omega)
          have H2 := hide h2
          have H3 := hide h3
          have HB := hide hB
          clear h2 h3 hB
          have hN := HwA.out k hk0 hk
          unfold swn at hN
          obtain ⟨x16, e16⟩ : ∃ x, at' W (k - 16) = x := ⟨_, rfl⟩
          obtain ⟨x7, e7⟩ : ∃ x, at' W (k - 7) = x := ⟨_, rfl⟩
          obtain ⟨x15, e15⟩ : ∃ x, at' W (k - 15) = x := ⟨_, rfl⟩
          obtain ⟨x2, e2⟩ : ∃ x, at' W (k - 2) = x := ⟨_, rfl⟩
          have l15 : x15 < 4294967296 := e15 ▸ HlW.out _
          have l2 : x2 < 4294967296 := e2 ▸ HlW.out _
          rw [e16] at c16 hN
          rw [e7] at c7 hN
          rw [e15] at c15 hN
          rw [e2] at c2 hN
          unfold sF sN at hN
          obtain ⟨a7, ea7⟩ : ∃ z, tu 7 x15 = z := ⟨_, rfl⟩
          obtain ⟨a18, ea18⟩ : ∃ z, tu 18 x15 = z := ⟨_, rfl⟩
          obtain ⟨a17, ea17⟩ : ∃ z, tu 17 x2 = z := ⟨_, rfl⟩
          obtain ⟨a19, ea19⟩ : ∃ z, tu 19 x2 = z := ⟨_, rfl⟩
          have la7 : a7 < 4294967296 := ea7 ▸ tu_lt l15
          have la18 : a18 < 4294967296 := ea18 ▸ tu_lt l15
          have la17 : a17 < 4294967296 := ea17 ▸ tu_lt l2
          have la19 : a19 < 4294967296 := ea19 ▸ tu_lt l2
          rw [ea7, ea18, ea17, ea19] at hN
          obtain ⟨s3, es3⟩ : ∃ z, x15 / 8 = z := ⟨_, rfl⟩
          obtain ⟨s10, es10⟩ : ∃ z, x2 / 1024 = z := ⟨_, rfl⟩
          have ls3 : s3 < 4294967296 := by omega
          have ls10 : s10 < 4294967296 := by omega
          rw [es3, es10] at hN
          have d3 : (x15 : Int) / 8 = (s3 : Int) := by omega
          have d10 : (x2 : Int) / 1024 = (s10 : Int) := by omega
          obtain ⟨f1, ef1⟩ : ∃ z, a7 ^^^ a18 = z := ⟨_, rfl⟩
          obtain ⟨f2, ef2⟩ : ∃ z, f1 ^^^ s3 = z := ⟨_, rfl⟩
          obtain ⟨n1, en1⟩ : ∃ z, a17 ^^^ a19 = z := ⟨_, rfl⟩
          obtain ⟨n2, en2⟩ : ∃ z, n1 ^^^ s10 = z := ⟨_, rfl⟩
          have r1 := xr_int la7 la18
          have lf1 : f1 < 4294967296 := ef1 ▸ xr_lt la7 la18
          rw [ef1] at r1 hN
          have r2 := xr_int lf1 ls3
          rw [ef2] at r2 hN
          have r3 := xr_int la17 la19
          have ln1 : n1 < 4294967296 := en1 ▸ xr_lt la17 la19
          rw [en1] at r3 hN
          have r4 := xr_int ln1 ls10
          rw [en2] at r4 hN
          have r5 := ad_wrap x16 x7
          obtain ⟨p1, ep1⟩ : ∃ z, ad x16 x7 = z := ⟨_, rfl⟩
          rw [ep1] at r5 hN
          have r6 := ad_wrap p1 f2
          obtain ⟨p2, ep2⟩ : ∃ z, ad p1 f2 = z := ⟨_, rfl⟩
          rw [ep2] at r6 hN
          have r7 := ad_wrap p2 n2
          obtain ⟨p3, ep3⟩ : ∃ z, ad p2 n2 = z := ⟨_, rfl⟩
          rw [ep3] at r7 hN
          have HN := hide hN
          have E7 := hide ea7
          have E18 := hide ea18
          have E17 := hide ea17
          have E19 := hide ea19
          have L15 := hide l15
          have L2 := hide l2
          clear hN ea7 ea18 ea17 ea19 es3 es10 ef1 ef2 en1 en2 ep1 ep2 ep3 e16 e7 e15 e2 l15 l2 la7 la18 la17 la19 ls3 ls10 lf1 ln1
          obtain ⟨j16, ej16⟩ : ∃ j, k - 16 = j := ⟨_, rfl⟩
          rw [ej16] at c16
          have v16 : IntKind.i64.wrap ((k : Int) - 16) = (j16 : Int) := by rw [IntWalk.i64_in _ (by omega)]; omega
          have q16 : (j16 : Int) < 64 := by omega
          obtain ⟨j7, ej7⟩ : ∃ j, k - 7 = j := ⟨_, rfl⟩
          rw [ej7] at c7
          have v7 : IntKind.i64.wrap ((k : Int) - 7) = (j7 : Int) := by rw [IntWalk.i64_in _ (by omega)]; omega
          have q7 : (j7 : Int) < 64 := by omega
          obtain ⟨j15, ej15⟩ : ∃ j, k - 15 = j := ⟨_, rfl⟩
          rw [ej15] at c15
          have v15 : IntKind.i64.wrap ((k : Int) - 15) = (j15 : Int) := by rw [IntWalk.i64_in _ (by omega)]; omega
          have q15 : (j15 : Int) < 64 := by omega
          obtain ⟨j2, ej2⟩ : ∃ j, k - 2 = j := ⟨_, rfl⟩
          rw [ej2] at c2
          have v2 : IntKind.i64.wrap ((k : Int) - 2) = (j2 : Int) := by rw [IntWalk.i64_in _ (by omega)]; omega
          have q2 : (j2 : Int) < 64 := by omega
          clear ej16 ej7 ej15 ej2
          go_wp2_with fail
          refine wp_region_still_tail 9 (by kernel_rfl) (by kernel_rfl) ?_
          simp only [List.take_succ_cons, List.take_zero, List.drop_succ_cons, List.drop_zero]
          repeat still_step
          refine wpStill_nil ?_
          go_wp2_with fail
          generalize hW1 : ({ heap := wr.heap, tape := wr.tape, drawn := wr.drawn + 1, os := wr.os, output := wr.output } : World) = W1
          have hd : wr.drew = W1 := hW1
          have g16 : W1.cell? ⟨w.heap.size + 1 + 1, j16, none⟩ = some (.int .u32 (x16 : Int)) := by rw [← hd]; exact c16
          have g7 : W1.cell? ⟨w.heap.size + 1 + 1, j7, none⟩ = some (.int .u32 (x7 : Int)) := by rw [← hd]; exact c7
          have g3 : W1.cell? ⟨w.heap.size + 1 + 1, k, none⟩ = some (.int .u32 (Bk.at' (supto W k) k : Nat)) := by rw [← hd]; exact x3
          have g0 : W1.frozen? ⟨w.heap.size + 1 + 1, k, none⟩ = false := by rw [← hd]; exact f3
          have G2 : Hid (Row W1 (w.heap.size + 1) 0 (us (List.replicate 64 0))) := by rw [← hd]; exact H2.out.drew
          have G3 : Hid (Row W1 (w.heap.size + 1 + 1) 0 (us (supto W k))) := by rw [← hd]; exact H3.out.drew
          have GB : Hid (Below w.heap.size w W1) := by rw [← hd]; exact HB.out.drew
          clear hW1 hd c16 c7 c15 c2 x3 f3 H2 H3 HB
          refine wp_region_still_tail 29 (by kernel_rfl) (by kernel_rfl) ?_
          simp only [List.take_succ_cons, List.take_zero, List.drop_succ_cons, List.drop_zero]
          repeat still_step
          still_call (sturn7e _ L15.out E7.out)
          repeat still_step
          still_call (sturn18e _ L15.out E18.out)
          repeat still_step
          still_call (sturn17e _ L2.out E17.out)
          repeat still_step
          still_call (sturn19e _ L2.out E19.out)
          repeat still_step
          refine wpStill_nil ?_
          go_wp2_with fail
          go_roundg g4
          case measure => omega
          case rel =>
            refine ⟨k + 1, by omega, by omega, by go_num, (G2.out.other _ _ _ (.inl (by omega))).drew, ?_, (GB.out.setCell (by simp; omega) _).drew⟩
            rw [supto_succ W k (by omega), us_set, HN.out]
            exact (G3.out.set0 (by rw [us_length, supto_len]; omega) _).drew
        · obtain rfl : k = 64 := by omega
          rw [supto_all nW] at h3
          have H2 := hide h2
          have H3 := hide h3
          have HB := hide hB
          clear h2 h3 hB
          go_wp2_with (first | (refine wpList_load_mid rfl 53 (.tmp 3) rfl _ _ rfl _ _ H3.out.cell Try.underlying53 rfl (by rw [us_length, nW]; kernel_rfl) ?_) | (refine wpList_store_mid rfl 53 (.tmp 2) (.tmp 83) rfl _ _ _ rfl rfl (by have h9 := H2.out.there; rw [us_length, List.length_replicate] at h9; simpa [us_length, nW] using h9) (by simp only [List.size_toArray]; rw [us_length, nW]; kernel_rfl) (all_oneCell_toArray (fun v hv => us_one hv)) ?_))
          exact spost_row _ (H2.out.put (us W) (by rw [us_length, us_length, nW, List.length_replicate])) rfl rfl Try.underlying53 rfl (by rw [us_length, nW]; kernel_rfl) rfl ⟨rfl, HB.out.trans (below_setCells (by omega) _ _ _)⟩
end Go.Proofs.Ytdcmjmmfclhfbaa
