/- For any slice of numbers of 16 bits, any number and any two integers the statement RsOne returns true and its arguments read as before. No condition. -/
import Derived.Test.YtfinicoipoleaabArgs
import Derived.Deep.QuietTactic
import Derived.BigQuiet
namespace Go.Proofs.Ytfinicoipoleaab
open Go.ChangeShapes Go.WideShapes Go.ChangeAt Go.RowKit Gf
open Go.ChangeMaps (open_string shut_string)
set_option linter.unusedVariables false

theorem Chk.sc {n r : Nat} {f c : Nat → Int} {x : Int} (hf : P16 f) (hx : 0 ≤ x ∧ x ≤ 65535) (h : Chk n f r c) : Chk n (sc x f) r (sc x c) := by
  refine ⟨sc16 h.bd x, fun j hj => by show gI (c j) x = 0; rw [h.out j hj, f12], (h.rt.sc (cat16 hf h.bd) hx).congr fun j _ => ?_⟩
  show gI (if j < n then f j else c (j - n)) x = (if j < n then gI (f j) x else gI (c (j - n)) x)
  split <;> rfl
theorem sc_one {x : Int} (hx : 0 ≤ x ∧ x ≤ 65535) : sc x (cst 1) = cst x := funext fun j => by
  show gI (if j = 0 then 1 else 0) x = (if j = 0 then x else 0)
  split
  · rw [g2 o16 hx, f8 _ hx.1]
  · rw [f12]

theorem wr_first (w : World) (n : Nat) (y : Int) : Wr (w.alloc (.cells ((madeCells #[.int .u16 0] (n + 1)).setIfInBounds 0 (.int .u16 y)) 23)) w.heap.size 0 (n + 1) (cst y) := by
  have hsz : ((madeCells #[Value.int .u16 0] (n + 1)).setIfInBounds 0 (.int .u16 y)).size = n + 1 := by rw [Array.size_setIfInBounds, size_madeCells]
  have hr := World.rowIs_alloc w ((madeCells #[.int .u16 0] (n + 1)).setIfInBounds 0 (.int .u16 y)) 23 (fun j => .int .u16 (cst y j)) (by
    intro j hj
    rw [hsz] at hj
    rw [Array.getElem?_setIfInBounds]
    unfold cst
    by_cases e : 0 = j
    · subst e
      rw [if_pos rfl, if_pos (by rw [size_madeCells]; omega), if_pos rfl]
    · rw [if_neg e, if_neg (fun h => e h.symm)]
      simp [madeCells, hj, Nat.mod_one])
  rw [hsz] at hr
  refine ⟨hr.lt, fun j hj => ?_, fun j _ => ?_⟩
  · rw [Nat.zero_add]; exact hr.cell hj
  · rw [Nat.zero_add]; exact hr.frozen j
theorem cst_out (y : Int) (n : Nat) : ∀ j, n + 1 ≤ j → cst y j = 0 := fun j hj => by unfold cst; rw [if_neg (by omega)]

set_option maxRecDepth 100000 in
set_option maxHeartbeats 4000000 in
theorem rsOne_any {w : World} {a0 : Option Addr} {n0 c0 : Nat} {p0 : Nat → Int} {x n r : Int} (h0 : Sl w a0 n0 c0 p0) (m0 : n0 ≤ maxLen) (hx : 0 ≤ x ∧ x ≤ 65535) (bn : -9223372036854775808 ≤ n ∧ n ≤ 9223372036854775807) (br : -9223372036854775808 ≤ r ∧ r ≤ 9223372036854775807) :
    Calls Try.prog 3 #[.slice a0 n0 c0, .int .u16 x, .int .i64 n, .int .i64 r] w fun e w' => e = .returned (.bool true) ∧ Below w.heap.size w w' := by
  unfold maxLen at m0
  obtain ⟨k, hk, hk60⟩ : ∃ k : Nat, wrap64 ((IntKind.u64.wrap n).tmod 60) = (k : Int) ∧ k < 60 := mod_ex 60 (by decide) (by decide) n
  obtain ⟨R, hR, hR60⟩ : ∃ k : Nat, wrap64 ((IntKind.u64.wrap r).tmod 60) = (k : Int) ∧ k < 60 := mod_ex 60 (by decide) (by decide) r
  by_cases g0 : (254 : Int) < (n0 : Int)
  · go_enter Try.func3, Try.ntmps3
    go_wp2_with fail
    refine (works_any _).mono ?_
    rintro e w1 ⟨rfl, hB⟩
    go_wp2_with fail
    refine (works_any _).mono ?_
    rintro e w2 ⟨rfl, hB2⟩
    go_wp2
    go_ret
    exact ⟨rfl, hB.trans (hB2.mono hB.size)⟩
  have hmk := mk_int (k + 1) ((k : Int) + 1) (by omega) (by omega)
  have HF := hide (And.intro h0.bd h0.out)
  go_enter Try.func3, Try.ntmps3
  go_wp2_with fail
  refine (works_any _).mono ?_
  rintro e w1 ⟨rfl, hB1⟩
  replace h0 := h0.below hB1
  go_wp2_with fail
  refine (new_any _).mono ?_
  rintro e w2 ⟨rfl, hw2⟩
  have b2 := bel_lit w1 (.cells #[] 36)
  rw [← hw2] at b2
  clear hw2
  replace h0 := h0.below b2
  have hT := hB1.trans (b2.mono hB1.size)
  have HS := hide h0
  clear h0 b2
  go_wp2_with fail
  go_loop [10, 11] (fun s i => ∃ j : Nat, j ≤ n0 ∧ i = .int .i64 j ∧ s = .int .u16 (sm j p0)) (fun _ i => n0 - (intOf i).toNat)
  case atStart => exact ⟨0, Nat.zero_le _, rfl, rfl⟩
  case round =>
    obtain ⟨j, hj, rfl, rfl⟩ := hrel
    have s16 := sm16 (n := j) (fun i _ => HF.out.1 i)
    by_cases hlt : j < n0
    · obtain ⟨b, o, rfl, hb, hc⟩ := HS.out.at'.resolve_left (by omega)
      have hcx := hc j hlt
      have j16 := HF.out.1 j
      clear hc
      go_wp2_with fail
      refine (add_any _ _ _ _ (by omega) (by omega)).mono ?_
      rintro e w3 ⟨rfl, hw3⟩
      obtain rfl := hw3.symm
      go_wp2_with fail
      go_round
      case rel => exact ⟨j + 1, by omega, by go_num, rfl⟩
      case measure => simp [intOf]; omega
    · obtain rfl : j = n0 := by omega
      go_wp2_with fail
      refine (check_any HS.out 1 (by omega)).mono ?_
      rintro e w3 ⟨a3, c3, ck, rfl, hN3, hk3⟩
      have e7 := hk3.one HF.out.1 HF.out.2
      replace hT := hT.trans (hN3.bel.mono hT.size)
      have hA := hN3.sl
      have HT := hide hT
      have HA := hide hA
      clear hT hA hN3 hk3
      have m1 := Wr.made w3 (k + 1)
      have f1 : (w3.alloc (.cells (madeCells #[.int .u16 0] (k + 1)) 23)).cell? ⟨w3.heap.size, 0, none⟩ = some (.int .u16 0) := m1.cell 0 (by omega)
      have z1 : (w3.alloc (.cells (madeCells #[.int .u16 0] (k + 1)) 23)).frozen? ⟨w3.heap.size, 0, none⟩ = false := m1.free 0 (by omega)
      have m2 := Wr.made (w3.alloc (.cells ((madeCells #[.int .u16 0] (k + 1)).setIfInBounds 0 (.int .u16 1)) 23)) (k + 1)
      rw [World.size_alloc] at m2
      have f2 : ((w3.alloc (.cells ((madeCells #[.int .u16 0] (k + 1)).setIfInBounds 0 (.int .u16 1)) 23)).alloc (.cells (madeCells #[.int .u16 0] (k + 1)) 23)).cell? ⟨w3.heap.size + 1, 0, none⟩ = some (.int .u16 0) := m2.cell 0 (by omega)
      have z2 : ((w3.alloc (.cells ((madeCells #[.int .u16 0] (k + 1)).setIfInBounds 0 (.int .u16 1)) 23)).alloc (.cells (madeCells #[.int .u16 0] (k + 1)) 23)).frozen? ⟨w3.heap.size + 1, 0, none⟩ = false := m2.free 0 (by omega)
      clear m1 m2
      go_wp2_with fail
      have hO := ((wr_first w3 k 1).sl (k + 1) (Nat.le_refl _) (cst16 o16) (cst_out 1 k)).alloc (.cells ((madeCells #[.int .u16 0] (k + 1)).setIfInBounds 0 (.int .u16 x)) 23)
      have hM := (wr_first (w3.alloc (.cells ((madeCells #[.int .u16 0] (k + 1)).setIfInBounds 0 (.int .u16 1)) 23)) k x).sl (k + 1) (Nat.le_refl _) (cst16 hx) (cst_out x k)
      rw [World.size_alloc] at hM
      have hb := ((Below.refl w3.heap.size w3).alloc (Nat.le_refl _) (.cells ((madeCells #[.int .u16 0] (k + 1)).setIfInBounds 0 (.int .u16 1)) 23)).alloc (by simp) (.cells ((madeCells #[.int .u16 0] (k + 1)).setIfInBounds 0 (.int .u16 x)) 23)
      clear f1 z1 f2 z2 hmk hk hR
      obtain ⟨w4, hw4⟩ : ∃ v, v = ((w3.alloc (.cells ((madeCells #[.int .u16 0] (k + 1)).setIfInBounds 0 (.int .u16 1)) 23)).alloc (.cells ((madeCells #[.int .u16 0] (k + 1)).setIfInBounds 0 (.int .u16 x)) 23)) := ⟨_, rfl⟩
      rw [← hw4] at hO hM hb ⊢
      clear hw4
      have hT := HT.out.trans (hb.mono HT.out.size)
      have hA := HA.out.below hb
      clear HT HA hb
      refine (check_any hO R (by omega)).mono ?_
      rintro e w5 ⟨a5, c5, cb, rfl, hN5, hk5⟩
      replace hT := hT.trans (hN5.bel.mono hT.size)
      replace hA := hA.below hN5.bel
      replace hM := hM.below hN5.bel
      have hB := hN5.sl
      clear hO hN5
      have HK5 := hide hk5
      clear hk5
      go_wp2_with fail
      refine (check_any hM R (by omega)).mono ?_
      rintro e w6 ⟨a6, c6, cc, rfl, hN6, hk6⟩
      replace hT := hT.trans (hN6.bel.mono hT.size)
      replace hA := hA.below hN6.bel
      replace hB := hB.below hN6.bel
      have hC := hN6.sl
      have hcc := hk6.uniq (by omega) (cst16 hx) (sc_one hx ▸ HK5.out.sc (cst16 o16) hx)
      clear hM hN6 hk6
      obtain ⟨b3, o3, rfl, hb3, hc3⟩ := hA.at'.resolve_left (by decide)
      have f3 := hc3 0 (by decide)
      rw [Nat.add_zero, e7] at f3
      have q3 := bne_no (rfl : sm j p0 = sm j p0)
      have q4 := bne_no (rfl : (R : Int) = R)
      have HB := hide hB
      have HC := hide hC
      have HT := hide hT
      have HCC := hide hcc
      clear hB hC hT hcc hc3 hb3 hA e7
      go_wp2_with fail
      go_loopw [20] (fun t wr => ∃ i : Nat, t = .int .i64 i ∧ i ≤ R ∧ Below w6.heap.size w6 wr) (fun t _ => R - (intOf t).toNat)
      case atStart => exact ⟨0, rfl, Nat.zero_le _, Below.refl _ _⟩
      case round =>
        obtain ⟨i, rfl, hi, hbl⟩ := hrel
        by_cases hlt2 : i < R
        · obtain ⟨b5, o5, rfl, hb5, hc5⟩ := HB.out.at'.resolve_left (by omega)
          obtain ⟨b6, o6, rfl, hb6, hc6⟩ := HC.out.at'.resolve_left (by omega)
          have f5 : wr.cell? ⟨b5, o5 + i, none⟩ = some (.int .u16 (cb i)) := (hbl.cell (p := ⟨b5, o5 + i, none⟩) hb5).trans (hc5 i hlt2)
          have f6 : wr.cell? ⟨b6, o6 + i, none⟩ = some (.int .u16 (gI (cb i) x)) := by
            rw [show gI (cb i) x = cc i from by rw [HCC.out]; rfl]
            exact (hbl.cell (p := ⟨b6, o6 + i, none⟩) hb6).trans (hc6 i hlt2)
          have c16 := HB.out.bd i
          have HBL := hide hbl
          clear hbl hc5 hc6 hb5 hb6 f3
          go_wp2_with fail
          go_quiet ((go_at_call 8; exact Calls.quiet_of_same (mul_any _ _ _ _ (by omega) (by omega))))
          go_wp2
          go_roundw
          case rel => exact ⟨i + 1, by go_num, by omega, below_drewN HBL.out nq⟩
          case measure => simp [intOf]; omega
        · obtain rfl : i = R := by omega
          have hT2 := HT.out.trans (hbl.mono HT.out.size)
          go_wp2
          go_ret
          exact ⟨rfl, hT2⟩

theorem rsOne_own : ownKnob Try.prog.godebug = none := by kernel_rfl
theorem rsOne_laidOut : laidOutB Try.prog = true := by kernel_rfl

set_option maxRecDepth 100000 in
theorem rsOne_lifted (os : Os) (started : os.Started) (H : Type) (enc : TypeId × Value → H) :
    ReturnsInHanded {} Try.checked os 3 .any (Rows.rsOneSpec.pre6 enc Try.prog Try.f3 Rows.rsOneRow.domain false) (Rows.rsOneSpec.post enc Try.prog Try.f3 false true false false) := by
  refine returnsInHanded_of_change (C := Try.checked) rsOne_own started (by kernel_rfl) Try.func3
    (ChangeSpec.witness6 (enc := enc) (C := Try.checked) false ⟨#[], #[.slice none 0 0, .int .u16 0, .int .i64 0, .int .i64 0], []⟩ 8 (by kernel_rfl) (by kernel_rfl) (by kernel_rfl) (by kernel_rfl)) ?_
  intro W base args ds gs before hval0 hW hcnd _
  have hval : ∀ (j : Nat) t v, Try.f3.params[j]? = some t → args[j]? = some v → Value.okWide Try.prog W .any base t v := hval0
  have hW' := hW
  obtain ⟨p, q, hA0, hV, rfl, hfz, hnd⟩ := hW
  have hA : DataW.TrodAll enc Try.prog W 0 (fun _ => true) true Try.f3.params.toList args.toList ds p := hA0
  rw [Try.params3] at hA hval
  obtain ⟨v0, vs0, d0, ds0, p0, q0, hargs, rfl, rfl, h0, r0⟩ := trodAll_cons hA
  obtain ⟨v1, vs1, d1, ds1, p1, q1, rfl, rfl, rfl, h1, r1⟩ := trodAll_cons r0
  obtain ⟨v2, vs2, d2, ds2, p2, q2, rfl, rfl, rfl, h2, r2⟩ := trodAll_cons r1
  obtain ⟨v3, vs3, d3, ds3, p3, q3, rfl, rfl, rfl, h3, r3⟩ := trodAll_cons r2
  obtain ⟨rfl, rfl, rfl⟩ := trodAll_nil r3
  obtain rfl : args = #[v0, v1, v2, v3] := by cases args; simp_all
  obtain ⟨rfl, rfl⟩ := trodVars_none hV
  obtain ⟨a0, len0, cap0, rfl⟩ := okWide_slice Try.underlying22 (hval 0 22 v0 rfl rfl)
  have k0 := h0
  have lt0 : ∀ x ∈ p0, x.block < W.heap.size := by obtain ⟨m, hm⟩ := k0; exact DataW.trod_lt m _ _ _ hm
  obtain ⟨z0, w0⟩ : ∃ zs, IsRow .u16 W a0 len0 cap0 zs := by
    obtain ⟨fuel, hf⟩ := h0
    rcases open_ints Try.underlying22 Try.underlying23 (by kernel_rfl) hf with ⟨hcs, _⟩ | ⟨x, l, c, zs, hcs, _, hl, hm, hz, _, hcell, hwz⟩
    · simp [Value.cells] at hcs
      obtain ⟨rfl, rfl, rfl⟩ := hcs
      exact ⟨[], .inl ⟨rfl, rfl, rfl, rfl⟩⟩
    · simp [Value.cells] at hcs
      obtain ⟨rfl, rfl, rfl⟩ := hcs
      exact ⟨zs, .inr ⟨_, rfl, hl, hm, by simpa using hz, hcell, hwz⟩⟩
  obtain ⟨a1, rfl, rfl, rfl, w1⟩ := open_int Try.underlying23 (hval 1 23 v1 rfl rfl) h1
  obtain ⟨a2, rfl, rfl, rfl, w2⟩ := open_int Try.underlying3 (hval 2 3 v2 rfl rfl) h2
  obtain ⟨a3, rfl, rfl, rfl, w3⟩ := open_int Try.underlying3 (hval 3 3 v3 rfl rfl) h3
  clear hA0 hval0
  simp only [List.append_nil] at hW'
  refine (rsOne_any (isRow_sl w0) (isRow_max w0) (bounds_u16 w1) (bounds_i64 w2) (bounds_i64 w3)).mono fun e W' ⟨he, bel⟩ => ?_
  subst he
  exact ⟨_, rfl, _, _, _, [], _, [], hW', trodAll_mk1 (shut_bool Try.underlying4 _), (trodAll_cons_mk (Below.trod rsOne_laidOut (by kernel_rfl) (of_decide_eq_true (by kernel_rfl)) k0 bel lt0) (trodAll_cons_mk (shut_int Try.underlying23 w1) (trodAll_cons_mk (shut_int Try.underlying3 w2) (trodAll_cons_mk (shut_int Try.underlying3 w3) trodAll_mk0)))), rfl, bel.frame _, fun h => by cases h⟩

theorem rsOne_holds : Rows.RsOneSaid :=
  OpenClaim.holds_of_wide 3 Try.f3 rfl rfl rfl rfl rfl rfl rfl ⟨rfl, rfl, rfl, rfl, rfl⟩ rfl rfl rfl rfl rfl (by kernel_rfl) Try.func3 (by kernel_rfl)
    (of_decide_eq_true (by kernel_rfl)) (by unfold Func.isWrapper; first | (rw [if_pos (by decide +kernel)]; kernel_rfl) | (rw [if_neg (by decide +kernel)]; exact ⟨rfl, rfl⟩))
    (fun os started H enc _ => rsOne_lifted os started H enc)

#print axioms rsOne_holds

end Go.Proofs.Ytfinicoipoleaab
