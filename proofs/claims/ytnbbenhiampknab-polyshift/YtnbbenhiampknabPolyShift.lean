/- For any slice of numbers of 16 bits, any such number and any integer the statement PolyShift returns true and its arguments read as before. No condition. -/
import Derived.Test.YtnbbenhiampknabArgs
import Derived.Test.YtnbbenhiampknabRefsP
import Derived.OwnWalk
import Derived.Maps.AppendAt
namespace Go.Proofs.Ytnbbenhiampknab
open Go.ChangeShapes Go.WideShapes Go.ChangeAt Go.RowKit Gf
open Go.ChangeMaps (open_string shut_string)
set_option linter.unusedVariables false

theorem k_ex (n : Int) : ∃ k : Nat, wrap64 ((IntKind.u64.wrap n).tmod 40) = (k : Int) ∧ k < 40 := by
  have h0 : 0 ≤ IntKind.u64.wrap n := by
    show 0 ≤ n % 18446744073709551616
    exact Int.emod_nonneg _ (by decide)
  have h1 : (IntKind.u64.wrap n).tmod 40 = IntKind.u64.wrap n % 40 := Int.tmod_eq_emod_of_nonneg h0
  have h2 : 0 ≤ IntKind.u64.wrap n % 40 := Int.emod_nonneg _ (by decide)
  have h3 : IntKind.u64.wrap n % 40 < 40 := Int.emod_lt_of_pos _ (by decide)
  refine ⟨(IntKind.u64.wrap n % 40).toNat, ?_, by omega⟩
  rw [h1]
  unfold wrap64
  omega

theorem made_vals (k : Nat) : (madeCells #[Value.int .u16 0] k).toList.take (k * 1) = vals nul k := by
  rw [Nat.mul_one]
  apply List.ext_getElem?
  intro j
  by_cases hj : j < k
  · rw [List.getElem?_take, if_pos hj, vals_get nul k j hj]
    simp [madeCells, hj, Nat.mod_one, nul]
  · rw [List.getElem?_eq_none (by simp [size_madeCells]; omega), List.getElem?_eq_none (by rw [vals_length]; omega)]
theorem owns_made (w : World) (k : Nat) (hk : k < 40) : (w.alloc (.cells (madeCells #[.int .u16 0] k) 23)).ownsRow w.heap.size 23 1 (.slice (some ⟨w.heap.size, 0, none⟩) k k) k (vals nul k) :=
  ⟨by simp [vals_length], .inr ⟨w.heap.size, k, _, rfl, Nat.le_refl _, Go.Deep.blk_alloc_new w _, Nat.le_refl _, by unfold maxLen; omega, by simp [size_madeCells], made_vals k⟩⟩
theorem vals_shi (k n : Nat) (f : Nat → Int) : vals nul k ++ vals f n = vals (shi k f) (k + n) := by
  apply List.ext_getElem?
  intro j
  by_cases hj : j < k
  · rw [List.getElem?_append_left (by rw [vals_length]; exact hj), vals_get nul k j hj, vals_get _ _ j (by omega)]
    unfold shi
    rw [if_pos hj]
    rfl
  · rw [List.getElem?_append_right (by rw [vals_length]; omega), vals_length]
    by_cases h2 : j < k + n
    · rw [vals_get f n _ (by omega), vals_get _ _ j h2]
      unfold shi
      rw [if_neg hj]
    · rw [List.getElem?_eq_none (by rw [vals_length]; omega), List.getElem?_eq_none (by rw [vals_length]; omega)]

theorem src_one (w : World) (k : Nat) : ∀ j u, [Value.int .u16 1][j]? = some u → ((w.alloc (.cells (madeCells #[.int .u16 0] k) 23)).alloc (.cells #[.int .u16 1] 23)).cell? ((⟨w.heap.size + 1, 0, none⟩ : Addr).add j) = some u := by
  have h := cell_one_new (w.alloc (.cells (madeCells #[.int .u16 0] k) 23)) (.int .u16 1) 23
  rwa [World.size_alloc] at h
theorem vals_one1 : [Value.int .u16 1] = vals (cst 1) 1 := rfl

def pwr (x : Int) : Nat → Int
  | 0 => 1
  | i + 1 => gI (pwr x i) x
theorem pwr16 (x : Int) (i : Nat) : 0 ≤ pwr x i ∧ pwr x i ≤ 65535 := by
  induction i with
  | zero => exact (show (0 : Int) ≤ 1 ∧ (1 : Int) ≤ 65535 by decide)
  | succ i ih => exact g16 ih
theorem shi_val (x : Int) (hx : 0 ≤ x ∧ x ≤ 65535) (n k : Nat) {f : Nat → Int} (hf : P16 f) : atp x (k + n) (shi k f) = gI (pwr x k) (atp x n f) := by
  have hA := atp16 x n f hf
  induction k with
  | zero => rw [Nat.zero_add, shi_zero]; show _ = gI 1 _; rw [g2 (by decide) hA, f8 _ hA.1]
  | succ k ih =>
    rw [show k + 1 + n = k + n + 1 from by omega, shi_succ, atp_sh x _ (shi16 hf k), ih]
    show _ = gI (gI (pwr x k) x) (atp x n f)
    rw [g4 (pwr16 x k) hA, g2 hA hx, g4 (pwr16 x k) hx]
theorem shi_mul (k : Nat) {f : Nat → Int} (hf : P16 f) : shi k f = mulp f (shi k (cst 1)) := by
  have h1 : P16 (cst 1) := cst16 (by decide)
  rw [mulp_comm hf (shi16 h1 k), mulp_shi h1 hf, mulp_comm h1 hf, mulp_cst hf (by decide)]
  congr 1
  exact funext fun j => (f8 _ (hf j).1).symm
theorem shi_out {f : Nat → Int} {n : Nat} (h : ∀ j, n ≤ j → f j = 0) (k : Nat) : ∀ j, k + n ≤ j → shi k f j = 0 := fun j hj => by
  unfold shi
  rw [if_neg (by omega), h _ (by omega)]

set_option maxRecDepth 100000 in
set_option maxHeartbeats 4000000 in
theorem polyShift_any {w : World} {a0 : Option Addr} {n0 c0 : Nat} {p0 : Nat → Int} {x n : Int} (h0 : Sl w a0 n0 c0 p0) (m0 : n0 ≤ maxLen) (hx : 0 ≤ x ∧ x ≤ 65535) (hn : -9223372036854775808 ≤ n ∧ n ≤ 9223372036854775807) :
    Calls Try.prog 3 #[.slice a0 n0 c0, .int .u16 x, .int .i64 n] w fun e w' => e = .returned (.bool true) ∧ Below w.heap.size w w' := by
  unfold maxLen at m0
  by_cases g0 : 60 < n0
  · go_enter Try.func3, Try.ntmps3
    go_wp2_with fail
    refine (awake_any _).mono ?_
    rintro e w' ⟨rfl, hB⟩
    go_wp2
    go_ret
    exact ⟨rfl, hB⟩
  obtain ⟨k, hk, hk40⟩ := k_ex n
  have hmk := mk_int k (k : Int) rfl (by omega)
  obtain ⟨i0, hi, hz0, hz1, hz2⟩ := info_parts info16
  go_enter Try.func3, Try.ntmps3
  go_wp2_with fail
  refine (awake_any _).mono ?_
  rintro e w1 ⟨rfl, hT⟩
  replace h0 := h0.below hT
  have ho1 := owns_made w1 k hk40
  have HP := hide (And.intro h0.bd h0.out)
  have hsrc : n0 ≠ 0 → ∃ b off, a0 = some ⟨b, off, none⟩ ∧ ∀ j u, (vals p0 n0)[j]? = some u → (w1.alloc (.cells (madeCells #[.int .u16 0] k) 23)).cell? ((⟨b, off, none⟩ : Addr).add j) = some u := by
    intro hn0
    obtain ⟨b, off, e, hb, hc⟩ := h0.at'.resolve_left hn0
    refine ⟨b, off, e, fun j u hu => ?_⟩
    have hj : j < n0 := by
      have := (List.getElem?_eq_some_iff.1 hu).1
      rwa [vals_length] at this
    rw [vals_get p0 n0 j hj] at hu
    cases hu
    rw [add_at, ← hc j hj]
    exact World.cell?_of_block (w := w1) (Go.Deep.blk_alloc_lt _ _ _ hb)
  have HSRC := hide hsrc
  have HO1 := hide ho1
  clear hsrc ho1
  have hb1 := bel_lit w1 (.cells (madeCells #[.int .u16 0] k) 23)
  have HB1 := hide hb1
  clear hb1
  by_cases hn0 : n0 = 0
  · subst hn0
    go_wp2_with (first
      | (at_builtin; refine wpList_append_fits_any _ rfl _ _ 22 rfl w1.heap.size 23 i0 1 Try.underlying22 hi hz1 w1.heap.size k k (vals nul k) rfl HO1.out a0 0 c0 [] rfl rfl (fun e => ⟨rfl, h0.nil e⟩) (fun _ _ j u hu => by simp at hu) (fun u hu => by simp at hu) (by omega) ?_; intro w2 hown hgrow; rw [show ([] : List Value) = vals p0 0 from rfl, vals_shi] at hown; obtain ⟨a2, c2, e2, hnew⟩ := new_of_owns hown (HB1.out.grown hgrow (by simp) (fun j e => by cases e; exact Nat.le_refl _)) (shi16 HP.out.1 k) (shi_out HP.out.2 k); cases e2; clear hown hgrow)
      | (at_builtin; refine wpList_append_own _ rfl _ _ 22 rfl w2.heap.size 23 i0 (.int .u16 0) 1 2 Try.underlying22 hi hz0 hz1 hz2 rfl (by decide) _ k (vals nul k) rfl ((owns_made w2 k hk40).alloc _) ⟨w2.heap.size + 1, 0, none⟩ 1 1 [.int .u16 1] rfl rfl (src_one w2 k) (fun u hu => vals_one (f := cst 1) (n := 1) hu) (by unfold maxLen; omega) (by omega) (by simp; omega) ?_; intro v' w3 hown hgrow _; rw [vals_one1, vals_shi] at hown; obtain ⟨a3, c3, rfl, hnew3⟩ := new_of_owns hown (((bel_lit w2 _).trans ((bel_lit _ _).mono (by simp))).grown hgrow (by simp; omega) (fun j e => by cases e; exact Nat.le_refl _)) (shi16 (cst16 (by decide)) k) (shi_out (n := 1) (fun j hj => by unfold cst; rw [if_neg (by omega)]) k); clear hown hgrow))
    have hT2 := hT.trans (hnew.bel.mono hT.size)
    have hT3 := hT2.trans (hnew3.bel.mono hT2.size)
    have HF := hide (And.intro ((h0.below hnew.bel).below hnew3.bel) (And.intro (hnew.sl.below hnew3.bel) (And.intro hnew3.sl hT3)))
    clear hT hT2 hT3 hnew hnew3 h0 hmk HO1 HB1 HSRC
    go_loop [10, 11] (fun t i => ∃ j : Nat, j ≤ k ∧ i = .int .i64 j ∧ t = .int .u16 (pwr x j)) (fun _ i => k - (intOf i).toNat)
    case atStart => exact ⟨0, Nat.zero_le _, rfl, rfl⟩
    case round =>
      obtain ⟨j, hj, rfl, rfl⟩ := hrel
      have bp := pwr16 x j
      by_cases hjk : j < k
      · go_wp2_with (go_at_call 5; refine (refMul_any _ _ _ (by omega) (by omega)).mono ?_; rintro e w' ⟨rfl, rfl⟩)
        go_round
        case rel => exact ⟨j + 1, by omega, by go_num, rfl⟩
        case measure => simp [intOf]; omega
      · obtain rfl : j = k := by omega
        obtain ⟨h0, hu, hz, hT⟩ := HF.out
        have q9 : (atp x j (shi j p0) == gI (pwr x j) (atp x 0 p0)) = true := beq_yes (shi_val x hx 0 j HP.out.1)
        have bA := atp16 x 0 p0 HP.out.1
        clear HF
        go_wp2_with fail
        refine (short_any hu (by omega)).mono ?_
        rintro e w5 ⟨a5, n5, c5, rfl, m5, s5, h5⟩
        replace h0 := h0.below h5.bel
        replace hu := hu.below h5.bel
        replace hz := hz.below h5.bel
        replace hT := hT.trans (h5.bel.mono hT.size)
        replace h5 := h5.sl
        go_wp2_with fail
        refine (pmul_any h0 hz (by omega) (by omega)).mono ?_
        rintro e w6 ⟨a6, n6, c6, rfl, m6, s6, h6⟩
        replace h0 := h0.below h6.bel
        replace hu := hu.below h6.bel
        replace h5 := h5.below h6.bel
        replace hT := hT.trans (h6.bel.mono hT.size)
        go_wp2_with fail
        refine (same_sh h5 h6.sl s5 s6 (by omega) (shi_mul j HP.out.1)).mono ?_
        rintro e w7 ⟨rfl, b7⟩
        replace h0 := h0.below b7
        replace hu := hu.below b7
        replace hT := hT.trans (b7.mono hT.size)
        clear h5 h6 s5 s6 hz b7
        go_wp2_with fail
        refine (at_any hu (by omega) hx).mono ?_
        rintro e w8 ⟨rfl, b8⟩
        replace h0 := h0.below b8
        replace hT := hT.trans (b8.mono hT.size)
        go_wp2_with fail
        refine (at_any h0 (by omega) hx).mono ?_
        rintro e w9 ⟨rfl, b9⟩
        replace hT := hT.trans (b9.mono hT.size)
        clear h0 hu b8 b9
        go_wp2_with fail
        refine (refMul_any _ _ _ (by omega) (by omega)).mono ?_
        rintro e w10 ⟨rfl, rfl⟩
        go_wp2
        go_ret
        exact ⟨rfl, hT⟩
  · obtain ⟨b, off, rfl, hnews⟩ := HSRC.out hn0
    have HN := hide hnews
    clear hnews
    go_wp2_with (first
      | (at_builtin; refine wpList_append_own _ rfl _ _ 22 rfl w1.heap.size 23 i0 (.int .u16 0) 1 2 Try.underlying22 hi hz0 hz1 hz2 rfl (by decide) _ k (vals nul k) rfl HO1.out ⟨b, off, none⟩ n0 c0 (vals p0 n0) rfl (by simp [vals_length]) HN.out (fun u hu => vals_one hu) (by unfold maxLen; omega) (by omega) (by simp) ?_; intro v' w2 hown hgrow _; rw [vals_shi] at hown; obtain ⟨a2, c2, rfl, hnew⟩ := new_of_owns hown (HB1.out.grown hgrow (by simp) (fun j e => by cases e; exact Nat.le_refl _)) (shi16 HP.out.1 k) (shi_out HP.out.2 k); clear hown hgrow)
      | (at_builtin; refine wpList_append_own _ rfl _ _ 22 rfl w2.heap.size 23 i0 (.int .u16 0) 1 2 Try.underlying22 hi hz0 hz1 hz2 rfl (by decide) _ k (vals nul k) rfl ((owns_made w2 k hk40).alloc _) ⟨w2.heap.size + 1, 0, none⟩ 1 1 [.int .u16 1] rfl rfl (src_one w2 k) (fun u hu => vals_one (f := cst 1) (n := 1) hu) (by unfold maxLen; omega) (by omega) (by simp; omega) ?_; intro v' w3 hown hgrow _; rw [vals_one1, vals_shi] at hown; obtain ⟨a3, c3, rfl, hnew3⟩ := new_of_owns hown (((bel_lit w2 _).trans ((bel_lit _ _).mono (by simp))).grown hgrow (by simp; omega) (fun j e => by cases e; exact Nat.le_refl _)) (shi16 (cst16 (by decide)) k) (shi_out (n := 1) (fun j hj => by unfold cst; rw [if_neg (by omega)]) k); clear hown hgrow))
    have hT2 := hT.trans (hnew.bel.mono hT.size)
    have hT3 := hT2.trans (hnew3.bel.mono hT2.size)
    have HF := hide (And.intro ((h0.below hnew.bel).below hnew3.bel) (And.intro (hnew.sl.below hnew3.bel) (And.intro hnew3.sl hT3)))
    clear hT hT2 hT3 hnew hnew3 h0 hmk HO1 HB1 HN HSRC
    go_loop [10, 11] (fun t i => ∃ j : Nat, j ≤ k ∧ i = .int .i64 j ∧ t = .int .u16 (pwr x j)) (fun _ i => k - (intOf i).toNat)
    case atStart => exact ⟨0, Nat.zero_le _, rfl, rfl⟩
    case round =>
      obtain ⟨j, hj, rfl, rfl⟩ := hrel
      have bp := pwr16 x j
      by_cases hjk : j < k
      · go_wp2_with (go_at_call 5; refine (refMul_any _ _ _ (by omega) (by omega)).mono ?_; rintro e w' ⟨rfl, rfl⟩)
        go_round
        case rel => exact ⟨j + 1, by omega, by go_num, rfl⟩
        case measure => simp [intOf]; omega
      · obtain rfl : j = k := by omega
        obtain ⟨h0, hu, hz, hT⟩ := HF.out
        have q9 : (atp x (j + n0) (shi j p0) == gI (pwr x j) (atp x n0 p0)) = true := beq_yes (shi_val x hx n0 j HP.out.1)
        have bA := atp16 x n0 p0 HP.out.1
        clear HF
        go_wp2_with fail
        refine (short_any hu (by omega)).mono ?_
        rintro e w5 ⟨a5, n5, c5, rfl, m5, s5, h5⟩
        replace h0 := h0.below h5.bel
        replace hu := hu.below h5.bel
        replace hz := hz.below h5.bel
        replace hT := hT.trans (h5.bel.mono hT.size)
        replace h5 := h5.sl
        go_wp2_with fail
        refine (pmul_any h0 hz (by omega) (by omega)).mono ?_
        rintro e w6 ⟨a6, n6, c6, rfl, m6, s6, h6⟩
        replace h0 := h0.below h6.bel
        replace hu := hu.below h6.bel
        replace h5 := h5.below h6.bel
        replace hT := hT.trans (h6.bel.mono hT.size)
        go_wp2_with fail
        refine (same_sh h5 h6.sl s5 s6 (by omega) (shi_mul j HP.out.1)).mono ?_
        rintro e w7 ⟨rfl, b7⟩
        replace h0 := h0.below b7
        replace hu := hu.below b7
        replace hT := hT.trans (b7.mono hT.size)
        clear h5 h6 s5 s6 hz b7
        go_wp2_with fail
        refine (at_any hu (by omega) hx).mono ?_
        rintro e w8 ⟨rfl, b8⟩
        replace h0 := h0.below b8
        replace hT := hT.trans (b8.mono hT.size)
        go_wp2_with fail
        refine (at_any h0 (by omega) hx).mono ?_
        rintro e w9 ⟨rfl, b9⟩
        replace hT := hT.trans (b9.mono hT.size)
        clear h0 hu b8 b9
        go_wp2_with fail
        refine (refMul_any _ _ _ (by omega) (by omega)).mono ?_
        rintro e w10 ⟨rfl, rfl⟩
        go_wp2
        go_ret
        exact ⟨rfl, hT⟩

theorem polyShift_own : ownKnob Try.prog.godebug = none := by kernel_rfl
theorem polyShift_laidOut : laidOutB Try.prog = true := by kernel_rfl

set_option maxRecDepth 100000 in
theorem polyShift_lifted (os : Os) (started : os.Started) (H : Type) (enc : TypeId × Value → H) :
    ReturnsInHanded {} Try.checked os 3 .any (Rows.polyShiftSpec.pre6 enc Try.prog Try.f3 Rows.polyShiftRow.domain false) (Rows.polyShiftSpec.post enc Try.prog Try.f3 false true false false) := by
  refine returnsInHanded_of_change (C := Try.checked) polyShift_own started (by kernel_rfl) Try.func3
    (ChangeSpec.witness6 (enc := enc) (C := Try.checked) false ⟨#[], #[.slice none 0 0, .int .u16 0, .int .i64 0], []⟩ 8 (by kernel_rfl) (by kernel_rfl) (by kernel_rfl) (by kernel_rfl)) ?_
  intro W base args ds gs before hval0 hW hcnd _
  have hval : ∀ (j : Nat) t v, Try.f3.params[j]? = some t → args[j]? = some v → Value.okWide Try.prog W .any base t v := hval0
  have hW' := hW
  obtain ⟨p, q, hA0, hV, rfl, hfz, hnd⟩ := hW
  have hA : DataW.TrodAll enc Try.prog W 0 (fun _ => true) true Try.f3.params.toList args.toList ds p := hA0
  rw [Try.params3] at hA hval
  obtain ⟨v0, vs0, d0, ds0, p0, q0, hargs, rfl, rfl, h0, r0⟩ := trodAll_cons hA
  obtain ⟨v1, vs1, d1, ds1, p1, q1, rfl, rfl, rfl, h1, r1⟩ := trodAll_cons r0
  obtain ⟨v2, vs2, d2, ds2, p2, q2, rfl, rfl, rfl, h2, r2⟩ := trodAll_cons r1
  obtain ⟨rfl, rfl, rfl⟩ := trodAll_nil r2
  obtain rfl : args = #[v0, v1, v2] := by cases args; simp_all
  obtain ⟨rfl, rfl⟩ := trodVars_none hV
  obtain ⟨a0, len0, cap0, rfl⟩ := okWide_slice Try.underlying22 (hval 0 22 v0 rfl rfl)
  have k0 := h0
  have lt0 : ∀ x ∈ p0, x.block < W.heap.size := by obtain ⟨m, hm⟩ := k0; exact DataW.trod_lt m _ _ _ hm
  obtain ⟨z0, w0⟩ : ∃ zs, IsRow .u16 W a0 len0 cap0 zs := by
    obtain ⟨fuel, hf⟩ := h0
    rcases open_ints Try.underlying22 Try.underlying23 (by kernel_rfl) hf with ⟨hcs, _⟩ | ⟨x, l, c, zs, hcs, _, hl, hm, hz, _, hcell, hwz⟩
    · simp [Value.cells] at hcs
      obtain ⟨rfl, rfl, rfl⟩ := hcs
      exact ⟨[], .inl ⟨rfl, rfl, rfl, rfl⟩⟩
    · simp [Value.cells] at hcs
      obtain ⟨rfl, rfl, rfl⟩ := hcs
      exact ⟨zs, .inr ⟨_, rfl, hl, hm, by simpa using hz, hcell, hwz⟩⟩
  obtain ⟨a1, rfl, rfl, rfl, w1⟩ := open_int Try.underlying23 (hval 1 23 v1 rfl rfl) h1
  obtain ⟨a2, rfl, rfl, rfl, w2⟩ := open_int Try.underlying3 (hval 2 3 v2 rfl rfl) h2
  clear hA0 hval0
  simp only [List.append_nil] at hW'
  refine (polyShift_any (isRow_sl w0) (isRow_max w0) (bounds_u16 w1) (bounds_i64 w2)).mono fun e W' ⟨he, bel⟩ => ?_
  subst he
  exact ⟨_, rfl, _, _, _, [], _, [], hW', trodAll_mk1 (shut_bool Try.underlying4 _), (trodAll_cons_mk (Below.trod polyShift_laidOut (by kernel_rfl) (of_decide_eq_true (by kernel_rfl)) k0 bel lt0) (trodAll_cons_mk (shut_int Try.underlying23 w1) (trodAll_cons_mk (shut_int Try.underlying3 w2) trodAll_mk0))), rfl, bel.frame _, fun h => by cases h⟩

theorem polyShift_holds : Rows.PolyShiftSaid :=
  OpenClaim.holds_of_wide 3 Try.f3 rfl rfl rfl rfl rfl rfl rfl ⟨rfl, rfl, rfl, rfl, rfl⟩ rfl rfl rfl rfl rfl (by kernel_rfl) Try.func3 (by kernel_rfl)
    (of_decide_eq_true (by kernel_rfl)) (by unfold Func.isWrapper; first | (rw [if_pos (by decide +kernel)]; kernel_rfl) | (rw [if_neg (by decide +kernel)]; exact ⟨rfl, rfl⟩))
    (fun os started H enc _ => polyShift_lifted os started H enc)

#print axioms polyShift_holds

end Go.Proofs.Ytnbbenhiampknab
