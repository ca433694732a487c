/- For any slice of numbers of 16 bits, any two integers and any number the statement RsRight returns true and its arguments read as before. No condition. -/
import Derived.Test.YtfinicoipoleaaaArgs
import Derived.Deep.QuietTactic
import Derived.BigQuiet
namespace Go.Proofs.Ytfinicoipoleaaa
open Go.ChangeShapes Go.WideShapes Go.ChangeAt Go.RowKit Gf
open Go.ChangeMaps (open_string shut_string)
set_option linter.unusedVariables false

theorem word_N {w : World} {a : Option Addr} {n c : Nat} {f : Nat → Int} (h : Sl w a n c f) (r N : Nat) (hr : N ≤ 255) (hN : N = n + r) :
    Calls Try.prog 17 #[.slice a n c, .int .i64 (r : Int)] w fun e w' => ∃ a' c' ck, e = .returned (.tuple #[.slice a' N c', .bool true]) ∧ New w w' a' N c' (cat n f ck) ∧ Rt N (cat n f ck) r := by
  subst hN
  refine (word_any h r hr).mono ?_
  rintro e w' ⟨a', c', ck, rfl, hN, hk⟩
  exact ⟨a', c', ck, rfl, hN, hk.rt⟩
/-- One symbol another one. -/
def chg (f : Nat → Int) (k : Nat) (x : Int) : Nat → Int := fun j => if j = k then x else f j
theorem chg_add {f : Nat → Int} (hf : P16 f) {k : Nat} {x : Int} (hx : 0 ≤ x ∧ x ≤ 65535) : chg f k x = addp f (fun i => if i = k then xI (f k) x else 0) := funext fun j => by
  show (if j = k then x else f j) = xI (f j) (if j = k then xI (f k) x else 0)
  by_cases h : j = k
  · subst h
    rw [if_pos rfl, if_pos rfl, xx hx]
  · rw [if_neg h, if_neg h, f6 _ (hf j).1]
theorem chg16 {f : Nat → Int} (hf : P16 f) {k : Nat} {x : Int} (hx : 0 ≤ x ∧ x ≤ 65535) : P16 (chg f k x) := fun j => by
  unfold chg
  split
  · exact hx
  · exact hf j
theorem chg_val {f : Nat → Int} (hf : P16 f) {k N r j : Nat} {x : Int} (hx : 0 ≤ x ∧ x ≤ 65535) (hk : k < N) (hR : Rt N f r) (hj : j < r) : vh (al j) N (chg f k x) = gI (xI (f k) x) (al (j * (N - 1 - k))) := by
  have h16 : P16 (fun i => if i = k then xI (f k) x else 0) := fun i => by
    show 0 ≤ (if i = k then xI (f k) x else 0) ∧ (if i = k then xI (f k) x else 0) ≤ 65535
    split
    · exact x16 (hf k) hx
    · exact z16
  rw [chg_add hf hx, vh_add (al16 j) N hf h16, hR j hj, vh_single (x16 (hf k) hx) hk, x0 (g16 (x16 (hf k) hx))]
theorem chg_same {f : Nat → Int} {k N r : Nat} {x : Int} (hR : Rt N f r) (e : f k = x) : Rt N (chg f k x) r := hR.congr fun j _ => by
  unfold chg
  split
  · rename_i h; rw [h]; exact e
  · rfl
theorem chg_not {f : Nat → Int} (hf : P16 f) {k N r : Nat} {x : Int} (hx : 0 ≤ x ∧ x ≤ 65535) (hk : k < N) (hr : 0 < r) (hR : Rt N f r) (e : f k ≠ x) : ¬ Rt N (chg f k x) r := fun h => by
  have h1 := h 0 hr
  rw [chg_val hf hx hk hR hr, Nat.zero_mul, al_zero, f8 _ (x16 (hf k) hx).1] at h1
  exact e (x_eq (hf k) hx h1)
theorem k_of (at' : Int) (N : Nat) (hN : 0 < N) (hN' : N ≤ 255) : ∃ k : Nat, wrap64 ((IntKind.u64.wrap at').tmod (N : Int)) = (k : Int) ∧ k < N := mod_ex N hN (by omega) at'

set_option maxRecDepth 100000 in
set_option maxHeartbeats 4000000 in
theorem rsRight_any {w : World} {a0 : Option Addr} {n0 c0 : Nat} {p0 : Nat → Int} {r y x : Int} (h0 : Sl w a0 n0 c0 p0) (m0 : n0 ≤ maxLen) (br : -9223372036854775808 ≤ r ∧ r ≤ 9223372036854775807) (by' : -9223372036854775808 ≤ y ∧ y ≤ 9223372036854775807) (hx : 0 ≤ x ∧ x ≤ 65535) :
    Calls Try.prog 5 #[.slice a0 n0 c0, .int .i64 r, .int .i64 y, .int .u16 x] w fun e w' => e = .returned (.bool true) ∧ Below w.heap.size w w' := by
  unfold maxLen at m0
  by_cases g0 : (300 : Int) < (n0 : Int)
  · go_enter Try.func5, Try.ntmps5
    go_wp2_with fail
    refine (works_any _).mono ?_
    rintro e w1 ⟨rfl, hB⟩
    go_wp2_with fail
    refine (works_any _).mono ?_
    rintro e w2 ⟨rfl, hB2⟩
    go_wp2
    go_ret
    exact ⟨rfl, hB.trans (hB2.mono hB.size)⟩
  by_cases g1 : r < 0
  · go_enter Try.func5, Try.ntmps5
    go_wp2_with fail
    refine (works_any _).mono ?_
    rintro e w1 ⟨rfl, hB⟩
    go_wp2_with fail
    refine (works_any _).mono ?_
    rintro e w2 ⟨rfl, hB2⟩
    go_wp2
    go_ret
    exact ⟨rfl, hB.trans (hB2.mono hB.size)⟩
  by_cases g2 : 255 < r
  · go_enter Try.func5, Try.ntmps5
    go_wp2_with fail
    refine (works_any _).mono ?_
    rintro e w1 ⟨rfl, hB⟩
    go_wp2_with fail
    refine (works_any _).mono ?_
    rintro e w2 ⟨rfl, hB2⟩
    go_wp2
    go_ret
    exact ⟨rfl, hB.trans (hB2.mono hB.size)⟩
  by_cases g3 : 255 < (n0 : Int) + r
  · go_enter Try.func5, Try.ntmps5
    go_wp2_with fail
    refine (works_any _).mono ?_
    rintro e w1 ⟨rfl, hB⟩
    go_wp2_with fail
    refine (works_any _).mono ?_
    rintro e w2 ⟨rfl, hB2⟩
    go_wp2
    go_ret
    exact ⟨rfl, hB.trans (hB2.mono hB.size)⟩
  obtain ⟨R, rfl⟩ := Int.eq_ofNat_of_zero_le (show 0 ≤ r by omega)
  obtain ⟨N, hN, hNb, hRN⟩ : ∃ N, Hid (N = n0 + R) ∧ N ≤ 255 ∧ R ≤ N := ⟨n0 + R, hide rfl, by omega, by omega⟩
  have HF := hide h0.bd
  go_enter Try.func5, Try.ntmps5
  go_wp2_with fail
  refine (works_any _).mono ?_
  rintro e w1 ⟨rfl, hB1⟩
  replace h0 := h0.below hB1
  go_wp2_with fail
  refine (word_N h0 R N (by omega) hN.out).mono ?_
  rintro e w2 ⟨a2, c2, ck, rfl, hN2, hR⟩
  have hT := hB1.trans (hN2.bel.mono hB1.size)
  obtain ⟨f, hf⟩ : ∃ f, f = cat n0 p0 ck := ⟨_, rfl⟩
  rw [← hf] at hN2 hR
  clear hf
  have HR := hide hR
  clear hR
  go_wp2_with fail
  refine (right_yes hN2.sl R (by omega) (by omega) HR.out).mono ?_
  rintro e w3 ⟨rfl, hB3⟩
  by_cases hR0 : R = 0
  · subst hR0
    replace hT := hT.trans (hB3.mono hT.size)
    by_cases hn0 : N = 0
    · have q1 : ((N : Int) == 0) = true := beq_yes (by omega)
      go_wp2
      go_ret
      exact ⟨rfl, hT⟩
    · have q1 : ((N : Int) == 0) = false := beq_no (by omega)
      go_wp2
      go_ret
      exact ⟨rfl, hT⟩
  have q1 : ((N : Int) == 0) = false := beq_no (by omega)
  have q2 : ((R : Int) == 0) = false := beq_no (by omega)
  obtain ⟨b, o, rfl, hb, hw⟩ := hN2.own.resolve_left (by omega)
  have f16 := hN2.sl.bd
  have hfo := hN2.sl.out
  have hcap := hN2.sl.cap
  have hb' : w.heap.size ≤ b := Nat.le_trans hB1.size hb
  have hW3 := hw.below hB3 hw.lt
  replace hT := hT.trans (hB3.mono hT.size)
  obtain ⟨k, hk, hkN⟩ := k_of y N (by omega) (by omega)
  have hcell := hW3.cell k hkN
  have hfz := hW3.free k hkN
  have k16 := f16 k
  have HW := hide hW3
  have HT := hide hT
  have H16 := hide (And.intro f16 hfo)
  clear hw hB3 hN2 hW3 hT f16 hfo
  go_wp2_with fail
  have hW4 : Wr (w3.setCell ⟨b, o + k, none⟩ (.int .u16 x)) b o N (chg f k x) := HW.out.set k hkN x
  have hT4 := HT.out.trans ((Only.setCell b (o + k) w3 (.int .u16 x)).below hb')
  have hS4 := hW4.sl c2 hcap (chg16 H16.out.1 hx) (fun j hj => by unfold chg; rw [if_neg (by omega)]; exact H16.out.2 j hj)
  clear hcell hfz
  obtain ⟨w4, hw4⟩ : ∃ v, v = w3.setCell ⟨b, o + k, none⟩ (.int .u16 x) := ⟨_, rfl⟩
  rw [← hw4] at hW4 hT4 hS4 ⊢
  clear hw4 hW4 HW HT
  rw [hk]
  refine (sums_any hS4 R (by omega) (by omega)).mono ?_
  rintro e w5 ⟨ad, rfl, hN5⟩
  replace hT4 := hT4.trans (hN5.bel.mono hT4.size)
  replace hS4 := hS4.below hN5.bel
  obtain ⟨b5, o5, e5, hb5, hw5⟩ := hN5.own.resolve_left (by omega)
  cases e5
  have HS := hide (hS4.alloc (.cells #[] 46))
  have HW5 := hide (hw5.alloc (.cells #[] 46))
  have HT5 := hide (hT4.alloc hT4.size (.cells #[] 46))
  clear hS4 hT4 hN5 hw5
  clear hk by'
  go_wp2_with fail
  refine (new_any _).mono ?_
  rintro e w6 ⟨rfl, hw6⟩
  rw [← hw6] at HS HW5 HT5
  clear hw6
  have d16 := x16 k16 hx
  go_wp2_with fail
  go_loopw [16] (fun t wr => ∃ m : Nat, t = .int .i64 m ∧ m ≤ R ∧ Below w6.heap.size w6 wr) (fun t _ => R - (intOf t).toNat)
  case atStart => exact ⟨0, rfl, Nat.zero_le _, Below.refl _ _⟩
  case round =>
    obtain ⟨m, rfl, hm, hbl⟩ := hrel
    by_cases hlt : m < R
    · obtain ⟨P, hP, hPe⟩ : ∃ P : Nat, (m : Int) * ((N : Int) - 1 - (k : Int)) = (P : Int) ∧ P = m * (N - 1 - k) := ⟨m * (N - 1 - k), by
        rw [Int.natCast_mul, show ((N - 1 - k : Nat) : Int) = (N : Int) - 1 - (k : Int) from by omega], rfl⟩
      have hPl : P < 65535 := by
        have h1 : m * (N - 1 - k) ≤ 255 * 255 := Nat.mul_le_mul (by omega) (by omega)
        omega
      have hcl : wr.cell? ⟨b5, o5 + m, none⟩ = some (.int .u16 (gI (xI (f k) x) (pI 2 ((P : Int) % 65535)))) := by
        refine (hbl.cell (p := ⟨b5, o5 + m, none⟩) HW5.out.lt).trans ((HW5.out.cell m hlt).trans ?_)
        unfold vs
        rw [if_pos hlt, chg_val H16.out.1 hx hkN HR.out hlt, al_mod P hPl, hPe]
      have b2 := pI_bd 2 ((P : Int) % 65535) (by decide)
      have HBL := hide hbl
      clear hbl hPe
      go_wp2_with fail
      go_quiet (first
        | (go_at_call 20; exact Calls.quiet_of_same (add_any _ _ _ _ (by omega) (by omega)))
        | (go_at_call 21; exact Calls.quiet_of_same (exp_any _ _ _))
        | (go_at_call 19; exact Calls.quiet_of_same (mul_any _ _ _ _ (by omega) (by omega))))
      go_wp2
      go_roundw
      case rel => exact ⟨m + 1, by go_num, by omega, below_drewN HBL.out nq⟩
      case measure => simp [intOf]; omega
    · obtain rfl : m = R := by omega
      obtain ⟨wo, hwo⟩ : ∃ v, v = wr := ⟨_, rfl⟩
      subst hwo
      have hT := HT5.out.trans (hbl.mono HT5.out.size)
      have hS := HS.out.below hbl
      by_cases hwx : f k = x
      · have q7 := beq_yes hwx
        have HX := hide hwx
        clear hwx
        go_wp2_with fail
        refine (right_yes hS m (by omega) (by omega) (chg_same HR.out HX.out)).mono ?_
        rintro e w9 ⟨rfl, hB9⟩
        go_wp2
        go_ret
        exact ⟨rfl, hT.trans (hB9.mono hT.size)⟩
      · have q7 := beq_no hwx
        go_wp2_with fail
        refine (right_no hS m (by omega) (by omega) (chg_not H16.out.1 hx hkN (by omega) HR.out hwx)).mono ?_
        rintro e w9 ⟨rfl, hB9⟩
        go_wp2
        go_ret
        exact ⟨rfl, hT.trans (hB9.mono hT.size)⟩

theorem rsRight_own : ownKnob Try.prog.godebug = none := by kernel_rfl
theorem rsRight_laidOut : laidOutB Try.prog = true := by kernel_rfl

set_option maxRecDepth 100000 in
theorem rsRight_lifted (os : Os) (started : os.Started) (H : Type) (enc : TypeId × Value → H) :
    ReturnsInHanded {} Try.checked os 5 .any (Rows.rsRightSpec.pre6 enc Try.prog Try.f5 Rows.rsRightRow.domain false) (Rows.rsRightSpec.post enc Try.prog Try.f5 false true false false) := by
  refine returnsInHanded_of_change (C := Try.checked) rsRight_own started (by kernel_rfl) Try.func5
    (ChangeSpec.witness6 (enc := enc) (C := Try.checked) false ⟨#[], #[.slice none 0 0, .int .i64 0, .int .i64 0, .int .u16 0], []⟩ 8 (by kernel_rfl) (by kernel_rfl) (by kernel_rfl) (by kernel_rfl)) ?_
  intro W base args ds gs before hval0 hW hcnd _
  have hval : ∀ (j : Nat) t v, Try.f5.params[j]? = some t → args[j]? = some v → Value.okWide Try.prog W .any base t v := hval0
  have hW' := hW
  obtain ⟨p, q, hA0, hV, rfl, hfz, hnd⟩ := hW
  have hA : DataW.TrodAll enc Try.prog W 0 (fun _ => true) true Try.f5.params.toList args.toList ds p := hA0
  rw [Try.params5] at hA hval
  obtain ⟨v0, vs0, d0, ds0, p0, q0, hargs, rfl, rfl, h0, r0⟩ := trodAll_cons hA
  obtain ⟨v1, vs1, d1, ds1, p1, q1, rfl, rfl, rfl, h1, r1⟩ := trodAll_cons r0
  obtain ⟨v2, vs2, d2, ds2, p2, q2, rfl, rfl, rfl, h2, r2⟩ := trodAll_cons r1
  obtain ⟨v3, vs3, d3, ds3, p3, q3, rfl, rfl, rfl, h3, r3⟩ := trodAll_cons r2
  obtain ⟨rfl, rfl, rfl⟩ := trodAll_nil r3
  obtain rfl : args = #[v0, v1, v2, v3] := by cases args; simp_all
  obtain ⟨rfl, rfl⟩ := trodVars_none hV
  obtain ⟨a0, len0, cap0, rfl⟩ := okWide_slice Try.underlying23 (hval 0 23 v0 rfl rfl)
  have k0 := h0
  have lt0 : ∀ x ∈ p0, x.block < W.heap.size := by obtain ⟨m, hm⟩ := k0; exact DataW.trod_lt m _ _ _ hm
  obtain ⟨z0, w0⟩ : ∃ zs, IsRow .u16 W a0 len0 cap0 zs := by
    obtain ⟨fuel, hf⟩ := h0
    rcases open_ints Try.underlying23 Try.underlying27 (by kernel_rfl) hf with ⟨hcs, _⟩ | ⟨x, l, c, zs, hcs, _, hl, hm, hz, _, hcell, hwz⟩
    · simp [Value.cells] at hcs
      obtain ⟨rfl, rfl, rfl⟩ := hcs
      exact ⟨[], .inl ⟨rfl, rfl, rfl, rfl⟩⟩
    · simp [Value.cells] at hcs
      obtain ⟨rfl, rfl, rfl⟩ := hcs
      exact ⟨zs, .inr ⟨_, rfl, hl, hm, by simpa using hz, hcell, hwz⟩⟩
  obtain ⟨a1, rfl, rfl, rfl, w1⟩ := open_int Try.underlying3 (hval 1 3 v1 rfl rfl) h1
  obtain ⟨a2, rfl, rfl, rfl, w2⟩ := open_int Try.underlying3 (hval 2 3 v2 rfl rfl) h2
  obtain ⟨a3, rfl, rfl, rfl, w3⟩ := open_int Try.underlying27 (hval 3 27 v3 rfl rfl) h3
  clear hA0 hval0
  simp only [List.append_nil] at hW'
  refine (rsRight_any (isRow_sl w0) (isRow_max w0) (bounds_i64 w1) (bounds_i64 w2) (bounds_u16 w3)).mono fun e W' ⟨he, bel⟩ => ?_
  subst he
  exact ⟨_, rfl, _, _, _, [], _, [], hW', trodAll_mk1 (shut_bool Try.underlying4 _), (trodAll_cons_mk (Below.trod rsRight_laidOut (by kernel_rfl) (of_decide_eq_true (by kernel_rfl)) k0 bel lt0) (trodAll_cons_mk (shut_int Try.underlying3 w1) (trodAll_cons_mk (shut_int Try.underlying3 w2) (trodAll_cons_mk (shut_int Try.underlying27 w3) trodAll_mk0)))), rfl, bel.frame _, fun h => by cases h⟩

theorem rsRight_holds : Rows.RsRightSaid :=
  OpenClaim.holds_of_wide 5 Try.f5 rfl rfl rfl rfl rfl rfl rfl ⟨rfl, rfl, rfl, rfl, rfl⟩ rfl rfl rfl rfl rfl (by kernel_rfl) Try.func5 (by kernel_rfl)
    (of_decide_eq_true (by kernel_rfl)) (by unfold Func.isWrapper; first | (rw [if_pos (by decide +kernel)]; kernel_rfl) | (rw [if_neg (by decide +kernel)]; exact ⟨rfl, rfl⟩))
    (fun os started H enc _ => rsRight_lifted os started H enc)

#print axioms rsRight_holds

end Go.Proofs.Ytfinicoipoleaaa
