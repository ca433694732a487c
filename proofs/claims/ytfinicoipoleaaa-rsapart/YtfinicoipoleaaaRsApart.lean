/- For any two slices of numbers of 16 bits, any integer and any number the statement RsApart returns true and its arguments read as before. No condition. -/
import Derived.Test.YtfinicoipoleaaaArgs
import Derived.Deep.QuietTactic
import Derived.BigQuiet
import Derived.StillTailTactics
import Derived.Deep.RegionHeld
namespace Go.Proofs.Ytfinicoipoleaaa
open Go.ChangeShapes Go.WideShapes Go.ChangeAt Go.RowKit Gf
open Go.ChangeMaps (open_string shut_string)
set_option linter.unusedVariables false

/-- The first m places. -/
def tk (m : Nat) (f : Nat → Int) : Nat → Int := fun j => if j < m then f j else 0
theorem tk_out (m : Nat) (f : Nat → Int) : ∀ j, m ≤ j → tk m f j = 0 := fun j hj => by unfold tk; rw [if_neg (by omega)]
theorem word_M {w : World} {a : Option Addr} {n c : Nat} {f : Nat → Int} (h : Sl w a n c f) (r N : Nat) (hr : N ≤ 255) (hN : N = n + r) :
    Calls Try.prog 17 #[.slice a n c, .int .i64 (r : Int)] w fun e w' => ∃ a' c' V, e = .returned (.tuple #[.slice a' N c', .bool true]) ∧ New w w' a' N c' V ∧ Rt N V r ∧ ∀ j, j < n → V j = f j := by
  subst hN
  refine (word_any h r hr).mono ?_
  rintro e w' ⟨a', c', ck, rfl, hN, hk⟩
  exact ⟨a', c', _, rfl, hN, hk.rt, fun j hj => by unfold cat; rw [if_pos hj]⟩
theorem diff_zero {V W : Nat → Int} (hV : P16 V) (hW : P16 W) (j : Nat) : addp V W j = 0 ↔ V j = W j :=
  ⟨fun h => x_eq (hV j) (hW j) h, fun h => by show xI (V j) (W j) = 0; rw [h, f7]⟩
/-- The stage's theorem: two right words of one length that differ in no more places than there are checks are the same. -/
theorem words_apart {N r : Nat} {V W : Nat → Int} (hN : N ≤ 255) (hV : P16 V) (hW : P16 W) (rV : Rt N V r) (rW : Rt N W r) (h : cnt N (addp V W) ≤ r) : ∀ j, j < N → V j = W j := fun j hj =>
  (diff_zero hV hW j).1 (apart (by omega) (addp16 hV hW) (rV.add hV hW rW) h j hj)
theorem cnt_none {n : Nat} {d : Nat → Int} (h : ∀ j, j < n → d j = 0) : cnt n d = 0 := by
  induction n with
  | zero => rfl
  | succ n ih =>
    show cnt n d + (if d n = 0 then 0 else 1) = 0
    rw [ih (fun j hj => h j (by omega)), if_pos (h n (by omega))]

set_option maxRecDepth 100000 in
set_option maxHeartbeats 8000000 in
theorem rsApart_any {w : World} {a0 a1 : Option Addr} {n0 c0 n1 c1 : Nat} {p0 p1 : Nat → Int} {r x : Int} (h0 : Sl w a0 n0 c0 p0) (m0 : n0 ≤ maxLen) (h1 : Sl w a1 n1 c1 p1) (m1 : n1 ≤ maxLen) (br : -9223372036854775808 ≤ r ∧ r ≤ 9223372036854775807) (hx : 0 ≤ x ∧ x ≤ 65535) :
    Calls Try.prog 6 #[.slice a0 n0 c0, .slice a1 n1 c1, .int .i64 r, .int .u16 x] w fun e w' => e = .returned (.bool true) ∧ Below w.heap.size w w' := by
  unfold maxLen at m0 m1
  have k0 := h0.cap
  have k1 := h1.cap
  by_cases g0 : (n1 : Int) < (n0 : Int)
  · skip
    by_cases g1 : (255 : Int) < (n1 : Int)
    · go_enter Try.func6, Try.ntmps6
      go_wp2_with fail
      refine (works_any _).mono ?_
      rintro e w1 ⟨rfl, hB⟩
      go_wp2_with fail
      refine (works_any _).mono ?_
      rintro e w2 ⟨rfl, hB2⟩
      go_wp2
      go_ret
      exact ⟨rfl, hB.trans (hB2.mono hB.size)⟩
    by_cases g2 : r < 0
    · go_enter Try.func6, Try.ntmps6
      go_wp2_with fail
      refine (works_any _).mono ?_
      rintro e w1 ⟨rfl, hB⟩
      go_wp2_with fail
      refine (works_any _).mono ?_
      rintro e w2 ⟨rfl, hB2⟩
      go_wp2
      go_ret
      exact ⟨rfl, hB.trans (hB2.mono hB.size)⟩
    by_cases g3 : (256 : Int) < r
    · go_enter Try.func6, Try.ntmps6
      go_wp2_with fail
      refine (works_any _).mono ?_
      rintro e w1 ⟨rfl, hB⟩
      go_wp2_with fail
      refine (works_any _).mono ?_
      rintro e w2 ⟨rfl, hB2⟩
      go_wp2
      go_ret
      exact ⟨rfl, hB.trans (hB2.mono hB.size)⟩
    by_cases g4 : 255 < (n1 : Int) + r
    · go_enter Try.func6, Try.ntmps6
      go_wp2_with fail
      refine (works_any _).mono ?_
      rintro e w1 ⟨rfl, hB⟩
      go_wp2_with fail
      refine (works_any _).mono ?_
      rintro e w2 ⟨rfl, hB2⟩
      go_wp2
      go_ret
      exact ⟨rfl, hB.trans (hB2.mono hB.size)⟩
    obtain ⟨R, rfl⟩ := Int.eq_ofNat_of_zero_le (show 0 ≤ r by omega)
    obtain ⟨N, hN, hNb, hRN⟩ : ∃ N, Hid (N = n1 + R) ∧ N ≤ 255 ∧ R ≤ N := ⟨n1 + R, hide rfl, by omega, by omega⟩
    have hMN : n1 ≤ N := by have := hN.out; omega
    have hmk := mk_int N (N : Int) rfl (by omega)
    have kM0 : n1 ≤ c0 := by omega
    have kM1 : n1 ≤ c1 := by omega
    have hA : Sl w a0 n1 c0 (tk n1 p0) := h0.take (by omega) (fun j hj => by unfold tk; rw [if_pos hj]) (tk_out n1 p0)
    have hC : Sl w a1 n1 c1 (tk n1 p1) := h1.take (by omega) (fun j hj => by unfold tk; rw [if_pos hj]) (tk_out n1 p1)
    clear h0 h1
    go_enter Try.func6, Try.ntmps6
    go_wp2_with fail
    refine (works_any _).mono ?_
    rintro e w1 ⟨rfl, hB1⟩
    replace hA := hA.below hB1
    replace hC := hC.below hB1
    go_wp2_with fail
    simp only [show decide ((255 : Int) < (n1 : Int)) = false from decide_eq_false (by omega), show decide ((R : Int) < 0) = false from decide_eq_false (by omega), show decide ((255 : Int) < (n1 : Int) + (R : Int)) = false from decide_eq_false (by omega), Bool.or_false]
    refine (word_M hA R N hNb hN.out).mono ?_
    rintro e w2 ⟨av, cv, V, rfl, hV, rV, eV⟩
    have hT := hB1.trans (hV.bel.mono hB1.size)
    replace hA := hA.below hV.bel
    replace hC := hC.below hV.bel
    have RV := hide (And.intro rV eV)
    clear rV eV hB1
    replace hV := hV.sl
    go_wp2_with fail
    refine (word_M hC R N hNb hN.out).mono ?_
    rintro e w3 ⟨aw, cw, W, rfl, hW, rW, eW⟩
    replace hT := hT.trans (hW.bel.mono hT.size)
    replace hA := hA.below hW.bel
    replace hC := hC.below hW.bel
    replace hV := hV.below hW.bel
    have RW := hide (And.intro rW eW)
    clear rW eW
    replace hW := hW.sl
    go_wp2_with fail
    refine (new_any _).mono ?_
    rintro e w4 ⟨rfl, hw4⟩
    have bl4 := bel_lit w3 (.cells #[] 46)
    rw [← hw4] at bl4
    clear hw4
    replace hT := hT.trans (bl4.mono hT.size)
    replace hA := hA.below bl4
    replace hC := hC.below bl4
    replace hV := hV.below bl4
    replace hW := hW.below bl4
    clear bl4
    have HAC := hide (And.intro hA hC)
    have HVW := hide (And.intro hV hW)
    have HT := hide hT
    have hs1 := (Wr.made w4 N).alloc (.cells (madeCells #[.int .u16 0] N) 27)
    have hs2 := Wr.made (w4.alloc (.cells (madeCells #[.int .u16 0] N) 27)) N
    rw [World.size_alloc] at hs2
    have hb0 := ((Below.refl w4.heap.size w4).alloc (Nat.le_refl _) (.cells (madeCells #[.int .u16 0] N) 27)).alloc (by simp) (.cells (madeCells #[.int .u16 0] N) 27)
    have H1 := hide hs1
    have H2 := hide hs2
    have HB0 := hide hb0
    clear hA hC hV hW hT hs1 hs2 hb0
    go_wp2_with fail
    go_loopw [17, 18] (fun q t wr => ∃ i : Nat, t = .int .i64 i ∧ i ≤ N ∧ q = .int .i64 (cnt i (addp V W) : Nat) ∧ Wr wr w4.heap.size 0 N (fun j => if j < i then xI (V j) (W j) else 0) ∧ Wr wr (w4.heap.size + 1) 0 N (fun j => if j < i then gI (V j) x else 0) ∧ Below w4.heap.size w4 wr) (fun _ t _ => N - (intOf t).toNat)
    case atStart => exact ⟨0, rfl, Nat.zero_le _, rfl, H1.out.congr (fun j _ => by rw [if_neg (by omega)]), H2.out.congr (fun j _ => by rw [if_neg (by omega)]), HB0.out⟩
    case round =>
      obtain ⟨i, rfl, hi, rfl, hwr1, hwr2, hbl⟩ := hrel
      obtain ⟨wo, hwo⟩ : ∃ v, v = wr := ⟨_, rfl⟩
      subst hwo
      by_cases hlt : i < N
      · obtain ⟨bv, ov, rfl, hbv, hcv⟩ := (HVW.out.1).at'.resolve_left (by omega)
        obtain ⟨bw, ow, rfl, hbw, hcw⟩ := (HVW.out.2).at'.resolve_left (by omega)
        have hv : wo.cell? ⟨bv, ov + i, none⟩ = some (.int .u16 (V i)) := (hbl.cell (p := ⟨bv, ov + i, none⟩) hbv).trans (hcv i hlt)
        have hw : wo.cell? ⟨bw, ow + i, none⟩ = some (.int .u16 (W i)) := (hbl.cell (p := ⟨bw, ow + i, none⟩) hbw).trans (hcw i hlt)
        have hf1 : wo.frozen? ⟨w4.heap.size, i, none⟩ = false := by have := hwr1.free i hlt; rwa [Nat.zero_add] at this
        have hf2 : wo.frozen? ⟨w4.heap.size + 1, i, none⟩ = false := by have := hwr2.free i hlt; rwa [Nat.zero_add] at this
        obtain ⟨y1, hy1⟩ : ∃ y, wo.cell? ⟨w4.heap.size, i, none⟩ = some y := ⟨_, by have := hwr1.cell i hlt; rwa [Nat.zero_add] at this⟩
        obtain ⟨y2, hy2⟩ : ∃ y, wo.cell? ⟨w4.heap.size + 1, i, none⟩ = some y := ⟨_, by have := hwr2.cell i hlt; rwa [Nat.zero_add] at this⟩
        have v16 := HVW.out.1.bd i
        have w16 := HVW.out.2.bd i
        have HW1 := hide hwr1
        have HW2 := hide hwr2
        have HB := hide hbl
        have nv1 : bv ≠ w4.heap.size := by omega
        have nv2 : bw ≠ w4.heap.size := by omega
        have nv3 : bv ≠ w4.heap.size + 1 := by omega
        have nv4 : bw ≠ w4.heap.size + 1 := by omega
        clear hwr1 hwr2 hbl hcv hcw hbv hbw hmk
        go_wp2_with fail
        refine wp_region_still_tail 13 (by kernel_rfl) (by kernel_rfl) ?_
        simp only [List.take_succ_cons, List.take_zero, List.drop_succ_cons, List.drop_zero]
        repeat still_step
        still_call (add_any _ _ _ _ (by omega) (by omega))
        repeat still_step
        refine wpStill_nil ?_
        go_wp2_with fail
        have ho1 := (Only.setCell w4.heap.size i wo (.int .u16 (xI (V i) (W i)))).drew
        have hA1 : Wr ((wo.setCell ⟨w4.heap.size, i, none⟩ (.int .u16 (xI (V i) (W i)))).drew) w4.heap.size 0 N (fun j => if j < i + 1 then xI (V j) (W j) else 0) := by
          have h9 := HW1.out.set i hlt (xI (V i) (W i))
          rw [Nat.zero_add] at h9
          refine Wr.drew1 (h9.congr (fun j hj => ?_))
          by_cases e : j = i
          · rw [if_pos e, if_pos (by omega), e]
          · by_cases e2 : j < i
            · rw [if_neg e, if_pos e2, if_pos (by omega)]
            · rw [if_neg e, if_neg e2, if_neg (by omega)]
        have hA2 := ho1.wr HW2.out (by omega)
        have hbA := HB.out.trans (ho1.below (Nat.le_refl _))
        have hvA := (ho1.cell (p := ⟨bv, ov + i, none⟩) nv1).trans hv
        have hwA := (ho1.cell (p := ⟨bw, ow + i, none⟩) nv2).trans hw
        clear ho1 hv hw hf1 hf2 hy1 hy2 HW1 HW2 HB y1 y2
        obtain ⟨wA, hwo⟩ : ∃ v, v = (wo.setCell ⟨w4.heap.size, i, none⟩ (.int .u16 (xI (V i) (W i)))).drew := ⟨_, rfl⟩
        rw [← hwo] at hA1 hA2 hbA hvA hwA ⊢
        clear hwo
        have hf2 : wA.frozen? ⟨w4.heap.size + 1, i, none⟩ = false := by have := hA2.free i hlt; rwa [Nat.zero_add] at this
        obtain ⟨y2, hy2⟩ : ∃ y, wA.cell? ⟨w4.heap.size + 1, i, none⟩ = some y := ⟨_, by have := hA2.cell i hlt; rwa [Nat.zero_add] at this⟩
        have ho2 := Only.setCell (w4.heap.size + 1) i wA (.int .u16 (gI (V i) x))
        have hA3 : Wr (wA.setCell ⟨w4.heap.size + 1, i, none⟩ (.int .u16 (gI (V i) x))) (w4.heap.size + 1) 0 N (fun j => if j < i + 1 then gI (V j) x else 0) := by
          have h9 := hA2.set i hlt (gI (V i) x)
          rw [Nat.zero_add] at h9
          refine h9.congr (fun j hj => ?_)
          by_cases e : j = i
          · rw [if_pos e, if_pos (by omega), e]
          · by_cases e2 : j < i
            · rw [if_neg e, if_pos e2, if_pos (by omega)]
            · rw [if_neg e, if_neg e2, if_neg (by omega)]
        have HA1 := hide (ho2.wr hA1 (by omega))
        have HA3 := hide hA3
        have HBA := hide (hbA.trans (ho2.below (by omega)))
        clear ho2 hA1 hA2 hA3 hbA
        refine (mul_any _ _ _ _ (by omega) (by omega)).mono ?_
        rintro e w8 ⟨rfl, hw8⟩
        obtain rfl := hw8.symm
        by_cases hd : V i = W i
        · have qd := bne_no hd
          have hcnt : cnt (i + 1) (addp V W) = cnt i (addp V W) := by
            show cnt i (addp V W) + (if addp V W i = 0 then 0 else 1) = _
            rw [if_pos ((diff_zero HVW.out.1.bd HVW.out.2.bd i).2 hd), Nat.add_zero]
          have HC := hide hcnt
          clear hcnt hd
          go_wp2_with fail
          go_quiet (fail)
          go_wp2
          go_roundw
          case rel => exact ⟨i + 1, by go_num, by omega, by rw [HC.out], HA1.out.drew nq, HA3.out.drew nq, below_drewN HBA.out nq⟩
          case measure => simp [intOf]; omega
        · have qd := bne_yes hd
          have hcnt : cnt (i + 1) (addp V W) = cnt i (addp V W) + 1 := by
            show cnt i (addp V W) + (if addp V W i = 0 then 0 else 1) = _
            rw [if_neg (fun h => hd ((diff_zero HVW.out.1.bd HVW.out.2.bd i).1 h))]
          have hct := cnt_top i (addp V W)
          have HC := hide hcnt
          clear hcnt hd
          go_wp2_with fail
          go_quiet (fail)
          go_wp2
          go_roundw
          case rel => exact ⟨i + 1, by go_num, by omega, by rw [HC.out]; go_num, HA1.out.drew nq, HA3.out.drew nq, below_drewN HBA.out nq⟩
          case measure => simp [intOf]; omega
      · obtain rfl : i = N := by omega
        have hS1 : Sl wo (some ⟨w4.heap.size, 0, none⟩) i i (tk i (addp V W)) := hwr1.sl i (Nat.le_refl _) (fun j => by
          show 0 ≤ (if j < i then xI (V j) (W j) else 0) ∧ (if j < i then xI (V j) (W j) else 0) ≤ 65535
          split
          · exact x16 (HVW.out.1.bd j) (HVW.out.2.bd j)
          · exact z16) (fun j hj => if_neg (by omega))
        have hS2 : Sl wo (some ⟨w4.heap.size + 1, 0, none⟩) i i (tk i (sc x V)) := hwr2.sl i (Nat.le_refl _) (fun j => by
          show 0 ≤ (if j < i then gI (V j) x else 0) ∧ (if j < i then gI (V j) x else 0) ≤ 65535
          split
          · exact g16 (HVW.out.1.bd j)
          · exact z16) (fun j hj => if_neg (by omega))
        have r1 : Rt i (tk i (addp V W)) R := (RV.out.1.add HVW.out.1.bd HVW.out.2.bd RW.out.1).congr (fun j hj => by unfold tk; rw [if_pos hj])
        have r2 : Rt i (tk i (sc x V)) R := (RV.out.1.sc HVW.out.1.bd hx).congr (fun j hj => by unfold tk; rw [if_pos hj])
        have hT := HT.out.trans (hbl.mono HT.out.size)
        have hA := HAC.out.1.below hbl
        have hC := HAC.out.2.below hbl
        have hcnt : cnt i (addp V W) = 0 ∧ tk n1 p0 = tk n1 p1 ∨ R < cnt i (addp V W) := by
          by_cases hc : cnt i (addp V W) ≤ R
          · have he := words_apart hNb HVW.out.1.bd HVW.out.2.bd RV.out.1 RW.out.1 hc
            refine .inl ⟨cnt_none fun j hj => (diff_zero HVW.out.1.bd HVW.out.2.bd j).2 (he j hj), funext fun j => ?_⟩
            by_cases hj : j < n1
            · rw [← RV.out.2 j hj, ← RW.out.2 j hj]
              exact he j (by omega)
            · rw [tk_out _ _ j (by omega), tk_out _ _ j (by omega)]
          · exact .inr (by omega)
        have hct := cnt_top i (addp V W)
        obtain ⟨C, hC'⟩ : ∃ C, C = cnt i (addp V W) := ⟨_, rfl⟩
        rw [← hC'] at hcnt hct ⊢
        clear hC'
        obtain ⟨wd, hwd⟩ : ∃ v, v = wo.drew := ⟨_, rfl⟩
        have hbd : Below wo.heap.size wo wo.drew := ⟨rfl, rfl, rfl, Nat.le_refl _, fun _ _ => rfl⟩
        have HX := hide (And.intro (hS1.below hbd) (And.intro (hS2.below hbd) (And.intro (hA.below hbd) (And.intro (hC.below hbd) (And.intro (hT.trans (hbd.mono hT.size)) (And.intro r1 r2))))))
        clear hwd wd hbd hS1 hS2 hA hC hT r1 r2 hwr1 hwr2 hbl
        rcases hcnt with ⟨rfl, he⟩ | hgt
        · have HE := hide he
          clear he
          go_wp2_with fail
          refine wp_region_held_drew (S := fun _ => True) (by kernel_rfl) trivial (fun _ => ?_)
          refine wpAnyH_take (i := 0) (oi := ⟨some 111, _, _, _, _, _⟩) (v := .slice (some ⟨w4.heap.size, 0, none⟩) i i) rfl (by kernel_rfl) (by kernel_rfl) (by kernel_rfl) (fun _ _ _ h => h) (Or.inl ⟨by kernel_rfl, fun w9 _ => by go_simp⟩) trivial ?_
          simp only [Act.put, List.setIfInBounds_toArray, List.set_cons_zero, List.set_cons_succ]
          refine wpAnyH_take (i := 1) (oi := ⟨some 112, _, _, _, _, _⟩) (v := .int .i64 (R : Int)) rfl (by kernel_rfl) (by kernel_rfl) (by kernel_rfl) (fun _ _ _ h => h) (Or.inl ⟨by kernel_rfl, fun w9 _ => by go_simp⟩) trivial ?_
          simp only [Act.put, List.setIfInBounds_toArray, List.set_cons_zero, List.set_cons_succ]
          refine wpAnyH_ready (rs := [2]) (by kernel_rfl) (by simp) ?_
          refine AllReadyH.cons rfl (fun K hK => ?_) AllReadyH.nil
          go_simp
          go_wp2_with fail
          refine (right_yes HX.out.1 R (by omega) (by omega) HX.out.2.2.2.2.2.1).mono ?_
          rintro e w30 ⟨rfl, b30⟩
          dsimp only
          refine hK.out _ _ trivial (fun _ => ?_)
          clear hK K
          refine wpAnyH_take (i := 3) (oi := ⟨some 114, _, _, _, _, _⟩) (v := .bool true) rfl (by kernel_rfl) (by kernel_rfl) (by kernel_rfl) (fun _ _ _ h => h) (Or.inl ⟨by kernel_rfl, fun w9 _ => by go_simp⟩) trivial ?_
          simp only [Act.put, List.setIfInBounds_toArray, List.set_cons_zero, List.set_cons_succ]
          refine wpAnyH_take (i := 4) (oi := ⟨some 115, _, _, _, _, _⟩) (v := .slice (some ⟨w4.heap.size + 1, 0, none⟩) i i) rfl (by kernel_rfl) (by kernel_rfl) (by kernel_rfl) (fun _ _ _ h => h) (Or.inl ⟨by kernel_rfl, fun w9 _ => by go_simp⟩) trivial ?_
          simp only [Act.put, List.setIfInBounds_toArray, List.set_cons_zero, List.set_cons_succ]
          refine wpAnyH_take (i := 5) (oi := ⟨some 116, _, _, _, _, _⟩) (v := .int .i64 (R : Int)) rfl (by kernel_rfl) (by kernel_rfl) (by kernel_rfl) (fun _ _ _ h => h) (Or.inl ⟨by kernel_rfl, fun w9 _ => by go_simp⟩) trivial ?_
          simp only [Act.put, List.setIfInBounds_toArray, List.set_cons_zero, List.set_cons_succ]
          refine wpAnyH_ready (rs := [6]) (by kernel_rfl) (by simp) ?_
          refine AllReadyH.cons rfl (fun K hK => ?_) AllReadyH.nil
          go_simp
          go_wp2_with fail
          refine (right_yes (HX.out.2.1.below b30) R (by omega) (by omega) HX.out.2.2.2.2.2.2).mono ?_
          rintro e w31 ⟨rfl, b31⟩
          dsimp only
          refine hK.out _ _ trivial (fun _ => ?_)
          clear hK K
          refine wpAnyH_take (i := 7) (oi := ⟨some 118, _, _, _, _, _⟩) (v := .bool true) rfl (by kernel_rfl) (by kernel_rfl) (by kernel_rfl) (fun _ _ _ h => h) (Or.inl ⟨by kernel_rfl, fun w9 _ => by go_simp⟩) trivial ?_
          simp only [Act.put, List.setIfInBounds_toArray, List.set_cons_zero, List.set_cons_succ]
          refine wpAnyH_take (i := 8) (oi := ⟨some 119, _, _, _, _, _⟩) (v := .bool true) rfl (by kernel_rfl) (by kernel_rfl) (by kernel_rfl) (fun _ _ _ h => h) (Or.inl ⟨by kernel_rfl, fun w9 _ => by go_simp⟩) trivial ?_
          simp only [Act.put, List.setIfInBounds_toArray, List.set_cons_zero, List.set_cons_succ]
          have hT := HX.out.2.2.2.2.1
          replace hT := hT.trans (b30.mono hT.size)
          replace hT := hT.trans (b31.mono hT.size)
          refine wpAnyH_take (i := 9) (oi := ⟨some 120, _, _, _, _, _⟩) (v := .int .i64 0) rfl (by kernel_rfl) (by kernel_rfl) (by kernel_rfl) (fun _ _ _ h => h) (Or.inl ⟨by kernel_rfl, fun w9 _ => by go_simp⟩) trivial ?_
          simp only [Act.put, List.setIfInBounds_toArray, List.set_cons_zero, List.set_cons_succ]
          refine wpAnyH_take (i := 10) (oi := ⟨some 121, _, _, _, _, _⟩) (v := .bool true) rfl (by kernel_rfl) (by kernel_rfl) (by kernel_rfl) (fun _ _ _ h => h) (Or.inl ⟨by kernel_rfl, fun w9 _ => by go_simp⟩) trivial ?_
          simp only [Act.put, List.setIfInBounds_toArray, List.set_cons_zero, List.set_cons_succ]
          refine wpAnyH_take (i := 11) (oi := ⟨some 122, _, _, _, _, _⟩) (v := .bool true) rfl (by kernel_rfl) (by kernel_rfl) (by kernel_rfl) (fun _ _ _ h => h) (Or.inl ⟨by kernel_rfl, fun w9 _ => by go_simp⟩) trivial ?_
          simp only [Act.put, List.setIfInBounds_toArray, List.set_cons_zero, List.set_cons_succ]
          refine wpAnyH_take (i := 12) (oi := ⟨some 123, _, _, _, _, _⟩) (v := .slice a0 n0 c0) rfl (by kernel_rfl) (by kernel_rfl) (by kernel_rfl) (fun _ _ _ h => h) (Or.inl ⟨by kernel_rfl, fun w9 _ => by go_simp⟩) trivial ?_
          simp only [Act.put, List.setIfInBounds_toArray, List.set_cons_zero, List.set_cons_succ]
          refine wpAnyH_take (i := 13) (oi := ⟨some 124, _, _, _, _, _⟩) (v := .int .i64 (n1 : Int)) rfl (by kernel_rfl) (by kernel_rfl) (by kernel_rfl) (fun _ _ _ h => h) (Or.inl ⟨by kernel_rfl, fun w9 _ => by go_simp⟩) trivial ?_
          simp only [Act.put, List.setIfInBounds_toArray, List.set_cons_zero, List.set_cons_succ]
          refine wpAnyH_take (i := 14) (oi := ⟨some 125, _, _, _, _, _⟩) (v := .slice a0 n1 c0) rfl (by kernel_rfl) (by kernel_rfl) (by kernel_rfl) (fun _ _ _ h => h) (Or.inl ⟨by kernel_rfl, fun w9 _ => by go_simp⟩) trivial ?_
          simp only [Act.put, List.setIfInBounds_toArray, List.set_cons_zero, List.set_cons_succ]
          refine wpAnyH_take (i := 15) (oi := ⟨some 126, _, _, _, _, _⟩) (v := .slice a1 n1 c1) rfl (by kernel_rfl) (by kernel_rfl) (by kernel_rfl) (fun _ _ _ h => h) (Or.inl ⟨by kernel_rfl, fun w9 _ => by go_simp⟩) trivial ?_
          simp only [Act.put, List.setIfInBounds_toArray, List.set_cons_zero, List.set_cons_succ]
          refine wpAnyH_take (i := 16) (oi := ⟨some 127, _, _, _, _, _⟩) (v := .int .i64 (n1 : Int)) rfl (by kernel_rfl) (by kernel_rfl) (by kernel_rfl) (fun _ _ _ h => h) (Or.inl ⟨by kernel_rfl, fun w9 _ => by go_simp⟩) trivial ?_
          simp only [Act.put, List.setIfInBounds_toArray, List.set_cons_zero, List.set_cons_succ]
          refine wpAnyH_take (i := 17) (oi := ⟨some 128, _, _, _, _, _⟩) (v := .slice a1 n1 c1) rfl (by kernel_rfl) (by kernel_rfl) (by kernel_rfl) (fun _ _ _ h => h) (Or.inl ⟨by kernel_rfl, fun w9 _ => by go_simp⟩) trivial ?_
          simp only [Act.put, List.setIfInBounds_toArray, List.set_cons_zero, List.set_cons_succ]
          refine wpAnyH_ready (rs := [18]) (by kernel_rfl) (by simp) ?_
          refine AllReadyH.cons rfl (fun K hK => ?_) AllReadyH.nil
          go_simp
          go_wp2_with fail
          refine (same_any ((HX.out.2.2.1.below b30).below b31) ((HX.out.2.2.2.1.below b30).below b31) (by omega) rfl HE.out).mono ?_
          rintro e w32 ⟨rfl, b32⟩
          dsimp only
          refine hK.out _ _ trivial (fun _ => ?_)
          clear hK K
          refine wpAnyH_take (i := 19) (oi := ⟨some 130, _, _, _, _, _⟩) (v := .bool true) rfl (by kernel_rfl) (by kernel_rfl) (by kernel_rfl) (fun _ _ _ h => h) (Or.inl ⟨by kernel_rfl, fun w9 _ => by go_simp⟩) trivial ?_
          simp only [Act.put, List.setIfInBounds_toArray, List.set_cons_zero, List.set_cons_succ]
          refine wpAnyH_take (i := 20) (oi := ⟨some 131, _, _, _, _, _⟩) (v := .bool true) rfl (by kernel_rfl) (by kernel_rfl) (by kernel_rfl) (fun _ _ _ h => h) (Or.inl ⟨by kernel_rfl, fun w9 _ => by go_simp⟩) trivial ?_
          simp only [Act.put, List.setIfInBounds_toArray, List.set_cons_zero, List.set_cons_succ]
          refine wpAnyH_take (i := 21) (oi := ⟨some 132, _, _, _, _, _⟩) (v := undef) rfl (by kernel_rfl) (by kernel_rfl) (by kernel_rfl) (fun _ _ _ h => h) (Or.inr ⟨by kernel_rfl, rfl⟩) trivial ?_
          simp only [Act.put, List.setIfInBounds_toArray, List.set_cons_zero, List.set_cons_succ]
          refine wpAnyH_take (i := 22) (oi := ⟨some 133, _, _, _, _, _⟩) (v := undef) rfl (by kernel_rfl) (by kernel_rfl) (by kernel_rfl) (fun _ _ _ h => h) (Or.inr ⟨by kernel_rfl, rfl⟩) trivial ?_
          simp only [Act.put, List.setIfInBounds_toArray, List.set_cons_zero, List.set_cons_succ]
          refine wpAnyH_take (i := 23) (oi := ⟨some 134, _, _, _, _, _⟩) (v := undef) rfl (by kernel_rfl) (by kernel_rfl) (by kernel_rfl) (fun _ _ _ h => h) (Or.inr ⟨by kernel_rfl, rfl⟩) trivial ?_
          simp only [Act.put, List.setIfInBounds_toArray, List.set_cons_zero, List.set_cons_succ]
          refine wpAnyH_take (i := 24) (oi := ⟨some 135, _, _, _, _, _⟩) (v := .bool true) rfl (by kernel_rfl) (by kernel_rfl) (by kernel_rfl) (fun _ _ _ h => h) (Or.inl ⟨by kernel_rfl, fun w9 _ => by go_simp⟩) trivial ?_
          simp only [Act.put, List.setIfInBounds_toArray, List.set_cons_zero, List.set_cons_succ]
          refine wpAnyH_take (i := 25) (oi := ⟨some 136, _, _, _, _, _⟩) (v := .bool true) rfl (by kernel_rfl) (by kernel_rfl) (by kernel_rfl) (fun _ _ _ h => h) (Or.inl ⟨by kernel_rfl, fun w9 _ => by go_simp⟩) trivial ?_
          simp only [Act.put, List.setIfInBounds_toArray, List.set_cons_zero, List.set_cons_succ]
          refine wpAnyH_take (i := 26) (oi := ⟨some 8, _, _, _, _, _⟩) (v := .bool true) rfl (by kernel_rfl) (by kernel_rfl) (by kernel_rfl) (fun _ _ _ h => h) (Or.inl ⟨by kernel_rfl, fun w9 _ => by go_simp⟩) trivial ?_
          simp only [Act.put, List.setIfInBounds_toArray, List.set_cons_zero, List.set_cons_succ]
          refine wpAnyH_done (by kernel_rfl) ?_ _
          go_wp2
          go_ret
          exact ⟨rfl, hT.trans (b32.mono hT.size)⟩
        · have q1 : ((C : Int) == 0) = false := beq_no (by omega)
          have q2 : (R : Int) < (C : Int) := by omega
          go_wp2_with fail
          refine wp_region_held_drew (S := fun _ => True) (by kernel_rfl) trivial (fun _ => ?_)
          refine wpAnyH_take (i := 0) (oi := ⟨some 111, _, _, _, _, _⟩) (v := .slice (some ⟨w4.heap.size, 0, none⟩) i i) rfl (by kernel_rfl) (by kernel_rfl) (by kernel_rfl) (fun _ _ _ h => h) (Or.inl ⟨by kernel_rfl, fun w9 _ => by go_simp⟩) trivial ?_
          simp only [Act.put, List.setIfInBounds_toArray, List.set_cons_zero, List.set_cons_succ]
          refine wpAnyH_take (i := 1) (oi := ⟨some 112, _, _, _, _, _⟩) (v := .int .i64 (R : Int)) rfl (by kernel_rfl) (by kernel_rfl) (by kernel_rfl) (fun _ _ _ h => h) (Or.inl ⟨by kernel_rfl, fun w9 _ => by go_simp⟩) trivial ?_
          simp only [Act.put, List.setIfInBounds_toArray, List.set_cons_zero, List.set_cons_succ]
          refine wpAnyH_ready (rs := [2]) (by kernel_rfl) (by simp) ?_
          refine AllReadyH.cons rfl (fun K hK => ?_) AllReadyH.nil
          go_simp
          go_wp2_with fail
          refine (right_yes HX.out.1 R (by omega) (by omega) HX.out.2.2.2.2.2.1).mono ?_
          rintro e w30 ⟨rfl, b30⟩
          dsimp only
          refine hK.out _ _ trivial (fun _ => ?_)
          clear hK K
          refine wpAnyH_take (i := 3) (oi := ⟨some 114, _, _, _, _, _⟩) (v := .bool true) rfl (by kernel_rfl) (by kernel_rfl) (by kernel_rfl) (fun _ _ _ h => h) (Or.inl ⟨by kernel_rfl, fun w9 _ => by go_simp⟩) trivial ?_
          simp only [Act.put, List.setIfInBounds_toArray, List.set_cons_zero, List.set_cons_succ]
          refine wpAnyH_take (i := 4) (oi := ⟨some 115, _, _, _, _, _⟩) (v := .slice (some ⟨w4.heap.size + 1, 0, none⟩) i i) rfl (by kernel_rfl) (by kernel_rfl) (by kernel_rfl) (fun _ _ _ h => h) (Or.inl ⟨by kernel_rfl, fun w9 _ => by go_simp⟩) trivial ?_
          simp only [Act.put, List.setIfInBounds_toArray, List.set_cons_zero, List.set_cons_succ]
          refine wpAnyH_take (i := 5) (oi := ⟨some 116, _, _, _, _, _⟩) (v := .int .i64 (R : Int)) rfl (by kernel_rfl) (by kernel_rfl) (by kernel_rfl) (fun _ _ _ h => h) (Or.inl ⟨by kernel_rfl, fun w9 _ => by go_simp⟩) trivial ?_
          simp only [Act.put, List.setIfInBounds_toArray, List.set_cons_zero, List.set_cons_succ]
          refine wpAnyH_ready (rs := [6]) (by kernel_rfl) (by simp) ?_
          refine AllReadyH.cons rfl (fun K hK => ?_) AllReadyH.nil
          go_simp
          go_wp2_with fail
          refine (right_yes (HX.out.2.1.below b30) R (by omega) (by omega) HX.out.2.2.2.2.2.2).mono ?_
          rintro e w31 ⟨rfl, b31⟩
          dsimp only
          refine hK.out _ _ trivial (fun _ => ?_)
          clear hK K
          refine wpAnyH_take (i := 7) (oi := ⟨some 118, _, _, _, _, _⟩) (v := .bool true) rfl (by kernel_rfl) (by kernel_rfl) (by kernel_rfl) (fun _ _ _ h => h) (Or.inl ⟨by kernel_rfl, fun w9 _ => by go_simp⟩) trivial ?_
          simp only [Act.put, List.setIfInBounds_toArray, List.set_cons_zero, List.set_cons_succ]
          refine wpAnyH_take (i := 8) (oi := ⟨some 119, _, _, _, _, _⟩) (v := .bool true) rfl (by kernel_rfl) (by kernel_rfl) (by kernel_rfl) (fun _ _ _ h => h) (Or.inl ⟨by kernel_rfl, fun w9 _ => by go_simp⟩) trivial ?_
          simp only [Act.put, List.setIfInBounds_toArray, List.set_cons_zero, List.set_cons_succ]
          have hT := HX.out.2.2.2.2.1
          replace hT := hT.trans (b30.mono hT.size)
          replace hT := hT.trans (b31.mono hT.size)
          refine wpAnyH_take (i := 9) (oi := ⟨some 120, _, _, _, _, _⟩) (v := .int .i64 (C : Int)) rfl (by kernel_rfl) (by kernel_rfl) (by kernel_rfl) (fun _ _ _ h => h) (Or.inl ⟨by kernel_rfl, fun w9 _ => by go_simp⟩) trivial ?_
          simp only [Act.put, List.setIfInBounds_toArray, List.set_cons_zero, List.set_cons_succ]
          refine wpAnyH_take (i := 10) (oi := ⟨some 121, _, _, _, _, _⟩) (v := .bool false) rfl (by kernel_rfl) (by kernel_rfl) (by kernel_rfl) (fun _ _ _ h => h) (Or.inl ⟨by kernel_rfl, fun w9 _ => by go_simp⟩) trivial ?_
          simp only [Act.put, List.setIfInBounds_toArray, List.set_cons_zero, List.set_cons_succ]
          refine wpAnyH_take (i := 11) (oi := ⟨some 122, _, _, _, _, _⟩) (v := .bool false) rfl (by kernel_rfl) (by kernel_rfl) (by kernel_rfl) (fun _ _ _ h => h) (Or.inl ⟨by kernel_rfl, fun w9 _ => by go_simp⟩) trivial ?_
          simp only [Act.put, List.setIfInBounds_toArray, List.set_cons_zero, List.set_cons_succ]
          refine wpAnyH_take (i := 12) (oi := ⟨some 123, _, _, _, _, _⟩) (v := undef) rfl (by kernel_rfl) (by kernel_rfl) (by kernel_rfl) (fun _ _ _ h => h) (Or.inr ⟨by kernel_rfl, rfl⟩) trivial ?_
          simp only [Act.put, List.setIfInBounds_toArray, List.set_cons_zero, List.set_cons_succ]
          refine wpAnyH_take (i := 13) (oi := ⟨some 124, _, _, _, _, _⟩) (v := undef) rfl (by kernel_rfl) (by kernel_rfl) (by kernel_rfl) (fun _ _ _ h => h) (Or.inr ⟨by kernel_rfl, rfl⟩) trivial ?_
          simp only [Act.put, List.setIfInBounds_toArray, List.set_cons_zero, List.set_cons_succ]
          refine wpAnyH_take (i := 14) (oi := ⟨some 125, _, _, _, _, _⟩) (v := undef) rfl (by kernel_rfl) (by kernel_rfl) (by kernel_rfl) (fun _ _ _ h => h) (Or.inr ⟨by kernel_rfl, rfl⟩) trivial ?_
          simp only [Act.put, List.setIfInBounds_toArray, List.set_cons_zero, List.set_cons_succ]
          refine wpAnyH_take (i := 15) (oi := ⟨some 126, _, _, _, _, _⟩) (v := undef) rfl (by kernel_rfl) (by kernel_rfl) (by kernel_rfl) (fun _ _ _ h => h) (Or.inr ⟨by kernel_rfl, rfl⟩) trivial ?_
          simp only [Act.put, List.setIfInBounds_toArray, List.set_cons_zero, List.set_cons_succ]
          refine wpAnyH_take (i := 16) (oi := ⟨some 127, _, _, _, _, _⟩) (v := undef) rfl (by kernel_rfl) (by kernel_rfl) (by kernel_rfl) (fun _ _ _ h => h) (Or.inr ⟨by kernel_rfl, rfl⟩) trivial ?_
          simp only [Act.put, List.setIfInBounds_toArray, List.set_cons_zero, List.set_cons_succ]
          refine wpAnyH_take (i := 17) (oi := ⟨some 128, _, _, _, _, _⟩) (v := undef) rfl (by kernel_rfl) (by kernel_rfl) (by kernel_rfl) (fun _ _ _ h => h) (Or.inr ⟨by kernel_rfl, rfl⟩) trivial ?_
          simp only [Act.put, List.setIfInBounds_toArray, List.set_cons_zero, List.set_cons_succ]
          refine wpAnyH_take (i := 18) (oi := ⟨some 129, _, _, _, _, _⟩) (v := undef) rfl (by kernel_rfl) (by kernel_rfl) (by kernel_rfl) (fun _ _ _ h => h) (Or.inr ⟨by kernel_rfl, rfl⟩) trivial ?_
          simp only [Act.put, List.setIfInBounds_toArray, List.set_cons_zero, List.set_cons_succ]
          refine wpAnyH_take (i := 19) (oi := ⟨some 130, _, _, _, _, _⟩) (v := .bool false) rfl (by kernel_rfl) (by kernel_rfl) (by kernel_rfl) (fun _ _ _ h => h) (Or.inl ⟨by kernel_rfl, fun w9 _ => by go_simp⟩) trivial ?_
          simp only [Act.put, List.setIfInBounds_toArray, List.set_cons_zero, List.set_cons_succ]
          refine wpAnyH_take (i := 20) (oi := ⟨some 131, _, _, _, _, _⟩) (v := .bool false) rfl (by kernel_rfl) (by kernel_rfl) (by kernel_rfl) (fun _ _ _ h => h) (Or.inl ⟨by kernel_rfl, fun w9 _ => by go_simp⟩) trivial ?_
          simp only [Act.put, List.setIfInBounds_toArray, List.set_cons_zero, List.set_cons_succ]
          refine wpAnyH_take (i := 21) (oi := ⟨some 132, _, _, _, _, _⟩) (v := .int .i64 (C : Int)) rfl (by kernel_rfl) (by kernel_rfl) (by kernel_rfl) (fun _ _ _ h => h) (Or.inl ⟨by kernel_rfl, fun w9 _ => by go_simp⟩) trivial ?_
          simp only [Act.put, List.setIfInBounds_toArray, List.set_cons_zero, List.set_cons_succ]
          refine wpAnyH_take (i := 22) (oi := ⟨some 133, _, _, _, _, _⟩) (v := .int .i64 (R : Int)) rfl (by kernel_rfl) (by kernel_rfl) (by kernel_rfl) (fun _ _ _ h => h) (Or.inl ⟨by kernel_rfl, fun w9 _ => by go_simp⟩) trivial ?_
          simp only [Act.put, List.setIfInBounds_toArray, List.set_cons_zero, List.set_cons_succ]
          refine wpAnyH_take (i := 23) (oi := ⟨some 134, _, _, _, _, _⟩) (v := .bool true) rfl (by kernel_rfl) (by kernel_rfl) (by kernel_rfl) (fun _ _ _ h => h) (Or.inl ⟨by kernel_rfl, fun w9 _ => by go_simp⟩) trivial ?_
          simp only [Act.put, List.setIfInBounds_toArray, List.set_cons_zero, List.set_cons_succ]
          refine wpAnyH_take (i := 24) (oi := ⟨some 135, _, _, _, _, _⟩) (v := .bool true) rfl (by kernel_rfl) (by kernel_rfl) (by kernel_rfl) (fun _ _ _ h => h) (Or.inl ⟨by kernel_rfl, fun w9 _ => by go_simp⟩) trivial ?_
          simp only [Act.put, List.setIfInBounds_toArray, List.set_cons_zero, List.set_cons_succ]
          refine wpAnyH_take (i := 25) (oi := ⟨some 136, _, _, _, _, _⟩) (v := .bool true) rfl (by kernel_rfl) (by kernel_rfl) (by kernel_rfl) (fun _ _ _ h => h) (Or.inl ⟨by kernel_rfl, fun w9 _ => by go_simp⟩) trivial ?_
          simp only [Act.put, List.setIfInBounds_toArray, List.set_cons_zero, List.set_cons_succ]
          refine wpAnyH_take (i := 26) (oi := ⟨some 8, _, _, _, _, _⟩) (v := .bool true) rfl (by kernel_rfl) (by kernel_rfl) (by kernel_rfl) (fun _ _ _ h => h) (Or.inl ⟨by kernel_rfl, fun w9 _ => by go_simp⟩) trivial ?_
          simp only [Act.put, List.setIfInBounds_toArray, List.set_cons_zero, List.set_cons_succ]
          refine wpAnyH_done (by kernel_rfl) ?_ _
          go_wp2
          go_ret
          exact ⟨rfl, hT⟩
  · skip
    by_cases g1 : (255 : Int) < (n0 : Int)
    · go_enter Try.func6, Try.ntmps6
      go_wp2_with fail
      refine (works_any _).mono ?_
      rintro e w1 ⟨rfl, hB⟩
      go_wp2_with fail
      refine (works_any _).mono ?_
      rintro e w2 ⟨rfl, hB2⟩
      go_wp2
      go_ret
      exact ⟨rfl, hB.trans (hB2.mono hB.size)⟩
    by_cases g2 : r < 0
    · go_enter Try.func6, Try.ntmps6
      go_wp2_with fail
      refine (works_any _).mono ?_
      rintro e w1 ⟨rfl, hB⟩
      go_wp2_with fail
      refine (works_any _).mono ?_
      rintro e w2 ⟨rfl, hB2⟩
      go_wp2
      go_ret
      exact ⟨rfl, hB.trans (hB2.mono hB.size)⟩
    by_cases g3 : (256 : Int) < r
    · go_enter Try.func6, Try.ntmps6
      go_wp2_with fail
      refine (works_any _).mono ?_
      rintro e w1 ⟨rfl, hB⟩
      go_wp2_with fail
      refine (works_any _).mono ?_
      rintro e w2 ⟨rfl, hB2⟩
      go_wp2
      go_ret
      exact ⟨rfl, hB.trans (hB2.mono hB.size)⟩
    by_cases g4 : 255 < (n0 : Int) + r
    · go_enter Try.func6, Try.ntmps6
      go_wp2_with fail
      refine (works_any _).mono ?_
      rintro e w1 ⟨rfl, hB⟩
      go_wp2_with fail
      refine (works_any _).mono ?_
      rintro e w2 ⟨rfl, hB2⟩
      go_wp2
      go_ret
      exact ⟨rfl, hB.trans (hB2.mono hB.size)⟩
    obtain ⟨R, rfl⟩ := Int.eq_ofNat_of_zero_le (show 0 ≤ r by omega)
    obtain ⟨N, hN, hNb, hRN⟩ : ∃ N, Hid (N = n0 + R) ∧ N ≤ 255 ∧ R ≤ N := ⟨n0 + R, hide rfl, by omega, by omega⟩
    have hMN : n0 ≤ N := by have := hN.out; omega
    have hmk := mk_int N (N : Int) rfl (by omega)
    have kM0 : n0 ≤ c0 := by omega
    have kM1 : n0 ≤ c1 := by omega
    have hA : Sl w a0 n0 c0 (tk n0 p0) := h0.take (by omega) (fun j hj => by unfold tk; rw [if_pos hj]) (tk_out n0 p0)
    have hC : Sl w a1 n0 c1 (tk n0 p1) := h1.take (by omega) (fun j hj => by unfold tk; rw [if_pos hj]) (tk_out n0 p1)
    clear h0 h1
    go_enter Try.func6, Try.ntmps6
    go_wp2_with fail
    refine (works_any _).mono ?_
    rintro e w1 ⟨rfl, hB1⟩
    replace hA := hA.below hB1
    replace hC := hC.below hB1
    go_wp2_with fail
    simp only [show decide ((255 : Int) < (n0 : Int)) = false from decide_eq_false (by omega), show decide ((R : Int) < 0) = false from decide_eq_false (by omega), show decide ((255 : Int) < (n0 : Int) + (R : Int)) = false from decide_eq_false (by omega), Bool.or_false]
    refine (word_M hA R N hNb hN.out).mono ?_
    rintro e w2 ⟨av, cv, V, rfl, hV, rV, eV⟩
    have hT := hB1.trans (hV.bel.mono hB1.size)
    replace hA := hA.below hV.bel
    replace hC := hC.below hV.bel
    have RV := hide (And.intro rV eV)
    clear rV eV hB1
    replace hV := hV.sl
    go_wp2_with fail
    refine (word_M hC R N hNb hN.out).mono ?_
    rintro e w3 ⟨aw, cw, W, rfl, hW, rW, eW⟩
    replace hT := hT.trans (hW.bel.mono hT.size)
    replace hA := hA.below hW.bel
    replace hC := hC.below hW.bel
    replace hV := hV.below hW.bel
    have RW := hide (And.intro rW eW)
    clear rW eW
    replace hW := hW.sl
    go_wp2_with fail
    refine (new_any _).mono ?_
    rintro e w4 ⟨rfl, hw4⟩
    have bl4 := bel_lit w3 (.cells #[] 46)
    rw [← hw4] at bl4
    clear hw4
    replace hT := hT.trans (bl4.mono hT.size)
    replace hA := hA.below bl4
    replace hC := hC.below bl4
    replace hV := hV.below bl4
    replace hW := hW.below bl4
    clear bl4
    have HAC := hide (And.intro hA hC)
    have HVW := hide (And.intro hV hW)
    have HT := hide hT
    have hs1 := (Wr.made w4 N).alloc (.cells (madeCells #[.int .u16 0] N) 27)
    have hs2 := Wr.made (w4.alloc (.cells (madeCells #[.int .u16 0] N) 27)) N
    rw [World.size_alloc] at hs2
    have hb0 := ((Below.refl w4.heap.size w4).alloc (Nat.le_refl _) (.cells (madeCells #[.int .u16 0] N) 27)).alloc (by simp) (.cells (madeCells #[.int .u16 0] N) 27)
    have H1 := hide hs1
    have H2 := hide hs2
    have HB0 := hide hb0
    clear hA hC hV hW hT hs1 hs2 hb0
    go_wp2_with fail
    go_loopw [17, 18] (fun q t wr => ∃ i : Nat, t = .int .i64 i ∧ i ≤ N ∧ q = .int .i64 (cnt i (addp V W) : Nat) ∧ Wr wr w4.heap.size 0 N (fun j => if j < i then xI (V j) (W j) else 0) ∧ Wr wr (w4.heap.size + 1) 0 N (fun j => if j < i then gI (V j) x else 0) ∧ Below w4.heap.size w4 wr) (fun _ t _ => N - (intOf t).toNat)
    case atStart => exact ⟨0, rfl, Nat.zero_le _, rfl, H1.out.congr (fun j _ => by rw [if_neg (by omega)]), H2.out.congr (fun j _ => by rw [if_neg (by omega)]), HB0.out⟩
    case round =>
      obtain ⟨i, rfl, hi, rfl, hwr1, hwr2, hbl⟩ := hrel
      obtain ⟨wo, hwo⟩ : ∃ v, v = wr := ⟨_, rfl⟩
      subst hwo
      by_cases hlt : i < N
      · obtain ⟨bv, ov, rfl, hbv, hcv⟩ := (HVW.out.1).at'.resolve_left (by omega)
        obtain ⟨bw, ow, rfl, hbw, hcw⟩ := (HVW.out.2).at'.resolve_left (by omega)
        have hv : wo.cell? ⟨bv, ov + i, none⟩ = some (.int .u16 (V i)) := (hbl.cell (p := ⟨bv, ov + i, none⟩) hbv).trans (hcv i hlt)
        have hw : wo.cell? ⟨bw, ow + i, none⟩ = some (.int .u16 (W i)) := (hbl.cell (p := ⟨bw, ow + i, none⟩) hbw).trans (hcw i hlt)
        have hf1 : wo.frozen? ⟨w4.heap.size, i, none⟩ = false := by have := hwr1.free i hlt; rwa [Nat.zero_add] at this
        have hf2 : wo.frozen? ⟨w4.heap.size + 1, i, none⟩ = false := by have := hwr2.free i hlt; rwa [Nat.zero_add] at this
        obtain ⟨y1, hy1⟩ : ∃ y, wo.cell? ⟨w4.heap.size, i, none⟩ = some y := ⟨_, by have := hwr1.cell i hlt; rwa [Nat.zero_add] at this⟩
        obtain ⟨y2, hy2⟩ : ∃ y, wo.cell? ⟨w4.heap.size + 1, i, none⟩ = some y := ⟨_, by have := hwr2.cell i hlt; rwa [Nat.zero_add] at this⟩
        have v16 := HVW.out.1.bd i
        have w16 := HVW.out.2.bd i
        have HW1 := hide hwr1
        have HW2 := hide hwr2
        have HB := hide hbl
        have nv1 : bv ≠ w4.heap.size := by omega
        have nv2 : bw ≠ w4.heap.size := by omega
        have nv3 : bv ≠ w4.heap.size + 1 := by omega
        have nv4 : bw ≠ w4.heap.size + 1 := by omega
        clear hwr1 hwr2 hbl hcv hcw hbv hbw hmk
        go_wp2_with fail
        refine wp_region_still_tail 13 (by kernel_rfl) (by kernel_rfl) ?_
        simp only [List.take_succ_cons, List.take_zero, List.drop_succ_cons, List.drop_zero]
        repeat still_step
        still_call (add_any _ _ _ _ (by omega) (by omega))
        repeat still_step
        refine wpStill_nil ?_
        go_wp2_with fail
        have ho1 := (Only.setCell w4.heap.size i wo (.int .u16 (xI (V i) (W i)))).drew
        have hA1 : Wr ((wo.setCell ⟨w4.heap.size, i, none⟩ (.int .u16 (xI (V i) (W i)))).drew) w4.heap.size 0 N (fun j => if j < i + 1 then xI (V j) (W j) else 0) := by
          have h9 := HW1.out.set i hlt (xI (V i) (W i))
          rw [Nat.zero_add] at h9
          refine Wr.drew1 (h9.congr (fun j hj => ?_))
          by_cases e : j = i
          · rw [if_pos e, if_pos (by omega), e]
          · by_cases e2 : j < i
            · rw [if_neg e, if_pos e2, if_pos (by omega)]
            · rw [if_neg e, if_neg e2, if_neg (by omega)]
        have hA2 := ho1.wr HW2.out (by omega)
        have hbA := HB.out.trans (ho1.below (Nat.le_refl _))
        have hvA := (ho1.cell (p := ⟨bv, ov + i, none⟩) nv1).trans hv
        have hwA := (ho1.cell (p := ⟨bw, ow + i, none⟩) nv2).trans hw
        clear ho1 hv hw hf1 hf2 hy1 hy2 HW1 HW2 HB y1 y2
        obtain ⟨wA, hwo⟩ : ∃ v, v = (wo.setCell ⟨w4.heap.size, i, none⟩ (.int .u16 (xI (V i) (W i)))).drew := ⟨_, rfl⟩
        rw [← hwo] at hA1 hA2 hbA hvA hwA ⊢
        clear hwo
        have hf2 : wA.frozen? ⟨w4.heap.size + 1, i, none⟩ = false := by have := hA2.free i hlt; rwa [Nat.zero_add] at this
        obtain ⟨y2, hy2⟩ : ∃ y, wA.cell? ⟨w4.heap.size + 1, i, none⟩ = some y := ⟨_, by have := hA2.cell i hlt; rwa [Nat.zero_add] at this⟩
        have ho2 := Only.setCell (w4.heap.size + 1) i wA (.int .u16 (gI (V i) x))
        have hA3 : Wr (wA.setCell ⟨w4.heap.size + 1, i, none⟩ (.int .u16 (gI (V i) x))) (w4.heap.size + 1) 0 N (fun j => if j < i + 1 then gI (V j) x else 0) := by
          have h9 := hA2.set i hlt (gI (V i) x)
          rw [Nat.zero_add] at h9
          refine h9.congr (fun j hj => ?_)
          by_cases e : j = i
          · rw [if_pos e, if_pos (by omega), e]
          · by_cases e2 : j < i
            · rw [if_neg e, if_pos e2, if_pos (by omega)]
            · rw [if_neg e, if_neg e2, if_neg (by omega)]
        have HA1 := hide (ho2.wr hA1 (by omega))
        have HA3 := hide hA3
        have HBA := hide (hbA.trans (ho2.below (by omega)))
        clear ho2 hA1 hA2 hA3 hbA
        refine (mul_any _ _ _ _ (by omega) (by omega)).mono ?_
        rintro e w8 ⟨rfl, hw8⟩
        obtain rfl := hw8.symm
        by_cases hd : V i = W i
        · have qd := bne_no hd
          have hcnt : cnt (i + 1) (addp V W) = cnt i (addp V W) := by
            show cnt i (addp V W) + (if addp V W i = 0 then 0 else 1) = _
            rw [if_pos ((diff_zero HVW.out.1.bd HVW.out.2.bd i).2 hd), Nat.add_zero]
          have HC := hide hcnt
          clear hcnt hd
          go_wp2_with fail
          go_quiet (fail)
          go_wp2
          go_roundw
          case rel => exact ⟨i + 1, by go_num, by omega, by rw [HC.out], HA1.out.drew nq, HA3.out.drew nq, below_drewN HBA.out nq⟩
          case measure => simp [intOf]; omega
        · have qd := bne_yes hd
          have hcnt : cnt (i + 1) (addp V W) = cnt i (addp V W) + 1 := by
            show cnt i (addp V W) + (if addp V W i = 0 then 0 else 1) = _
            rw [if_neg (fun h => hd ((diff_zero HVW.out.1.bd HVW.out.2.bd i).1 h))]
          have hct := cnt_top i (addp V W)
          have HC := hide hcnt
          clear hcnt hd
          go_wp2_with fail
          go_quiet (fail)
          go_wp2
          go_roundw
          case rel => exact ⟨i + 1, by go_num, by omega, by rw [HC.out]; go_num, HA1.out.drew nq, HA3.out.drew nq, below_drewN HBA.out nq⟩
          case measure => simp [intOf]; omega
      · obtain rfl : i = N := by omega
        have hS1 : Sl wo (some ⟨w4.heap.size, 0, none⟩) i i (tk i (addp V W)) := hwr1.sl i (Nat.le_refl _) (fun j => by
          show 0 ≤ (if j < i then xI (V j) (W j) else 0) ∧ (if j < i then xI (V j) (W j) else 0) ≤ 65535
          split
          · exact x16 (HVW.out.1.bd j) (HVW.out.2.bd j)
          · exact z16) (fun j hj => if_neg (by omega))
        have hS2 : Sl wo (some ⟨w4.heap.size + 1, 0, none⟩) i i (tk i (sc x V)) := hwr2.sl i (Nat.le_refl _) (fun j => by
          show 0 ≤ (if j < i then gI (V j) x else 0) ∧ (if j < i then gI (V j) x else 0) ≤ 65535
          split
          · exact g16 (HVW.out.1.bd j)
          · exact z16) (fun j hj => if_neg (by omega))
        have r1 : Rt i (tk i (addp V W)) R := (RV.out.1.add HVW.out.1.bd HVW.out.2.bd RW.out.1).congr (fun j hj => by unfold tk; rw [if_pos hj])
        have r2 : Rt i (tk i (sc x V)) R := (RV.out.1.sc HVW.out.1.bd hx).congr (fun j hj => by unfold tk; rw [if_pos hj])
        have hT := HT.out.trans (hbl.mono HT.out.size)
        have hA := HAC.out.1.below hbl
        have hC := HAC.out.2.below hbl
        have hcnt : cnt i (addp V W) = 0 ∧ tk n0 p0 = tk n0 p1 ∨ R < cnt i (addp V W) := by
          by_cases hc : cnt i (addp V W) ≤ R
          · have he := words_apart hNb HVW.out.1.bd HVW.out.2.bd RV.out.1 RW.out.1 hc
            refine .inl ⟨cnt_none fun j hj => (diff_zero HVW.out.1.bd HVW.out.2.bd j).2 (he j hj), funext fun j => ?_⟩
            by_cases hj : j < n0
            · rw [← RV.out.2 j hj, ← RW.out.2 j hj]
              exact he j (by omega)
            · rw [tk_out _ _ j (by omega), tk_out _ _ j (by omega)]
          · exact .inr (by omega)
        have hct := cnt_top i (addp V W)
        obtain ⟨C, hC'⟩ : ∃ C, C = cnt i (addp V W) := ⟨_, rfl⟩
        rw [← hC'] at hcnt hct ⊢
        clear hC'
        obtain ⟨wd, hwd⟩ : ∃ v, v = wo.drew := ⟨_, rfl⟩
        have hbd : Below wo.heap.size wo wo.drew := ⟨rfl, rfl, rfl, Nat.le_refl _, fun _ _ => rfl⟩
        have HX := hide (And.intro (hS1.below hbd) (And.intro (hS2.below hbd) (And.intro (hA.below hbd) (And.intro (hC.below hbd) (And.intro (hT.trans (hbd.mono hT.size)) (And.intro r1 r2))))))
        clear hwd wd hbd hS1 hS2 hA hC hT r1 r2 hwr1 hwr2 hbl
        rcases hcnt with ⟨rfl, he⟩ | hgt
        · have HE := hide he
          clear he
          go_wp2_with fail
          refine wp_region_held_drew (S := fun _ => True) (by kernel_rfl) trivial (fun _ => ?_)
          refine wpAnyH_take (i := 0) (oi := ⟨some 111, _, _, _, _, _⟩) (v := .slice (some ⟨w4.heap.size, 0, none⟩) i i) rfl (by kernel_rfl) (by kernel_rfl) (by kernel_rfl) (fun _ _ _ h => h) (Or.inl ⟨by kernel_rfl, fun w9 _ => by go_simp⟩) trivial ?_
          simp only [Act.put, List.setIfInBounds_toArray, List.set_cons_zero, List.set_cons_succ]
          refine wpAnyH_take (i := 1) (oi := ⟨some 112, _, _, _, _, _⟩) (v := .int .i64 (R : Int)) rfl (by kernel_rfl) (by kernel_rfl) (by kernel_rfl) (fun _ _ _ h => h) (Or.inl ⟨by kernel_rfl, fun w9 _ => by go_simp⟩) trivial ?_
          simp only [Act.put, List.setIfInBounds_toArray, List.set_cons_zero, List.set_cons_succ]
          refine wpAnyH_ready (rs := [2]) (by kernel_rfl) (by simp) ?_
          refine AllReadyH.cons rfl (fun K hK => ?_) AllReadyH.nil
          go_simp
          go_wp2_with fail
          refine (right_yes HX.out.1 R (by omega) (by omega) HX.out.2.2.2.2.2.1).mono ?_
          rintro e w30 ⟨rfl, b30⟩
          dsimp only
          refine hK.out _ _ trivial (fun _ => ?_)
          clear hK K
          refine wpAnyH_take (i := 3) (oi := ⟨some 114, _, _, _, _, _⟩) (v := .bool true) rfl (by kernel_rfl) (by kernel_rfl) (by kernel_rfl) (fun _ _ _ h => h) (Or.inl ⟨by kernel_rfl, fun w9 _ => by go_simp⟩) trivial ?_
          simp only [Act.put, List.setIfInBounds_toArray, List.set_cons_zero, List.set_cons_succ]
          refine wpAnyH_take (i := 4) (oi := ⟨some 115, _, _, _, _, _⟩) (v := .slice (some ⟨w4.heap.size + 1, 0, none⟩) i i) rfl (by kernel_rfl) (by kernel_rfl) (by kernel_rfl) (fun _ _ _ h => h) (Or.inl ⟨by kernel_rfl, fun w9 _ => by go_simp⟩) trivial ?_
          simp only [Act.put, List.setIfInBounds_toArray, List.set_cons_zero, List.set_cons_succ]
          refine wpAnyH_take (i := 5) (oi := ⟨some 116, _, _, _, _, _⟩) (v := .int .i64 (R : Int)) rfl (by kernel_rfl) (by kernel_rfl) (by kernel_rfl) (fun _ _ _ h => h) (Or.inl ⟨by kernel_rfl, fun w9 _ => by go_simp⟩) trivial ?_
          simp only [Act.put, List.setIfInBounds_toArray, List.set_cons_zero, List.set_cons_succ]
          refine wpAnyH_ready (rs := [6]) (by kernel_rfl) (by simp) ?_
          refine AllReadyH.cons rfl (fun K hK => ?_) AllReadyH.nil
          go_simp
          go_wp2_with fail
          refine (right_yes (HX.out.2.1.below b30) R (by omega) (by omega) HX.out.2.2.2.2.2.2).mono ?_
          rintro e w31 ⟨rfl, b31⟩
          dsimp only
          refine hK.out _ _ trivial (fun _ => ?_)
          clear hK K
          refine wpAnyH_take (i := 7) (oi := ⟨some 118, _, _, _, _, _⟩) (v := .bool true) rfl (by kernel_rfl) (by kernel_rfl) (by kernel_rfl) (fun _ _ _ h => h) (Or.inl ⟨by kernel_rfl, fun w9 _ => by go_simp⟩) trivial ?_
          simp only [Act.put, List.setIfInBounds_toArray, List.set_cons_zero, List.set_cons_succ]
          refine wpAnyH_take (i := 8) (oi := ⟨some 119, _, _, _, _, _⟩) (v := .bool true) rfl (by kernel_rfl) (by kernel_rfl) (by kernel_rfl) (fun _ _ _ h => h) (Or.inl ⟨by kernel_rfl, fun w9 _ => by go_simp⟩) trivial ?_
          simp only [Act.put, List.setIfInBounds_toArray, List.set_cons_zero, List.set_cons_succ]
          have hT := HX.out.2.2.2.2.1
          replace hT := hT.trans (b30.mono hT.size)
          replace hT := hT.trans (b31.mono hT.size)
          refine wpAnyH_take (i := 9) (oi := ⟨some 120, _, _, _, _, _⟩) (v := .int .i64 0) rfl (by kernel_rfl) (by kernel_rfl) (by kernel_rfl) (fun _ _ _ h => h) (Or.inl ⟨by kernel_rfl, fun w9 _ => by go_simp⟩) trivial ?_
          simp only [Act.put, List.setIfInBounds_toArray, List.set_cons_zero, List.set_cons_succ]
          refine wpAnyH_take (i := 10) (oi := ⟨some 121, _, _, _, _, _⟩) (v := .bool true) rfl (by kernel_rfl) (by kernel_rfl) (by kernel_rfl) (fun _ _ _ h => h) (Or.inl ⟨by kernel_rfl, fun w9 _ => by go_simp⟩) trivial ?_
          simp only [Act.put, List.setIfInBounds_toArray, List.set_cons_zero, List.set_cons_succ]
          refine wpAnyH_take (i := 11) (oi := ⟨some 122, _, _, _, _, _⟩) (v := .bool true) rfl (by kernel_rfl) (by kernel_rfl) (by kernel_rfl) (fun _ _ _ h => h) (Or.inl ⟨by kernel_rfl, fun w9 _ => by go_simp⟩) trivial ?_
          simp only [Act.put, List.setIfInBounds_toArray, List.set_cons_zero, List.set_cons_succ]
          refine wpAnyH_take (i := 12) (oi := ⟨some 123, _, _, _, _, _⟩) (v := .slice a0 n0 c0) rfl (by kernel_rfl) (by kernel_rfl) (by kernel_rfl) (fun _ _ _ h => h) (Or.inl ⟨by kernel_rfl, fun w9 _ => by go_simp⟩) trivial ?_
          simp only [Act.put, List.setIfInBounds_toArray, List.set_cons_zero, List.set_cons_succ]
          refine wpAnyH_take (i := 13) (oi := ⟨some 124, _, _, _, _, _⟩) (v := .int .i64 (n0 : Int)) rfl (by kernel_rfl) (by kernel_rfl) (by kernel_rfl) (fun _ _ _ h => h) (Or.inl ⟨by kernel_rfl, fun w9 _ => by go_simp⟩) trivial ?_
          simp only [Act.put, List.setIfInBounds_toArray, List.set_cons_zero, List.set_cons_succ]
          refine wpAnyH_take (i := 14) (oi := ⟨some 125, _, _, _, _, _⟩) (v := .slice a0 n0 c0) rfl (by kernel_rfl) (by kernel_rfl) (by kernel_rfl) (fun _ _ _ h => h) (Or.inl ⟨by kernel_rfl, fun w9 _ => by go_simp⟩) trivial ?_
          simp only [Act.put, List.setIfInBounds_toArray, List.set_cons_zero, List.set_cons_succ]
          refine wpAnyH_take (i := 15) (oi := ⟨some 126, _, _, _, _, _⟩) (v := .slice a1 n1 c1) rfl (by kernel_rfl) (by kernel_rfl) (by kernel_rfl) (fun _ _ _ h => h) (Or.inl ⟨by kernel_rfl, fun w9 _ => by go_simp⟩) trivial ?_
          simp only [Act.put, List.setIfInBounds_toArray, List.set_cons_zero, List.set_cons_succ]
          refine wpAnyH_take (i := 16) (oi := ⟨some 127, _, _, _, _, _⟩) (v := .int .i64 (n0 : Int)) rfl (by kernel_rfl) (by kernel_rfl) (by kernel_rfl) (fun _ _ _ h => h) (Or.inl ⟨by kernel_rfl, fun w9 _ => by go_simp⟩) trivial ?_
          simp only [Act.put, List.setIfInBounds_toArray, List.set_cons_zero, List.set_cons_succ]
          refine wpAnyH_take (i := 17) (oi := ⟨some 128, _, _, _, _, _⟩) (v := .slice a1 n0 c1) rfl (by kernel_rfl) (by kernel_rfl) (by kernel_rfl) (fun _ _ _ h => h) (Or.inl ⟨by kernel_rfl, fun w9 _ => by go_simp⟩) trivial ?_
          simp only [Act.put, List.setIfInBounds_toArray, List.set_cons_zero, List.set_cons_succ]
          refine wpAnyH_ready (rs := [18]) (by kernel_rfl) (by simp) ?_
          refine AllReadyH.cons rfl (fun K hK => ?_) AllReadyH.nil
          go_simp
          go_wp2_with fail
          refine (same_any ((HX.out.2.2.1.below b30).below b31) ((HX.out.2.2.2.1.below b30).below b31) (by omega) rfl HE.out).mono ?_
          rintro e w32 ⟨rfl, b32⟩
          dsimp only
          refine hK.out _ _ trivial (fun _ => ?_)
          clear hK K
          refine wpAnyH_take (i := 19) (oi := ⟨some 130, _, _, _, _, _⟩) (v := .bool true) rfl (by kernel_rfl) (by kernel_rfl) (by kernel_rfl) (fun _ _ _ h => h) (Or.inl ⟨by kernel_rfl, fun w9 _ => by go_simp⟩) trivial ?_
          simp only [Act.put, List.setIfInBounds_toArray, List.set_cons_zero, List.set_cons_succ]
          refine wpAnyH_take (i := 20) (oi := ⟨some 131, _, _, _, _, _⟩) (v := .bool true) rfl (by kernel_rfl) (by kernel_rfl) (by kernel_rfl) (fun _ _ _ h => h) (Or.inl ⟨by kernel_rfl, fun w9 _ => by go_simp⟩) trivial ?_
          simp only [Act.put, List.setIfInBounds_toArray, List.set_cons_zero, List.set_cons_succ]
          refine wpAnyH_take (i := 21) (oi := ⟨some 132, _, _, _, _, _⟩) (v := undef) rfl (by kernel_rfl) (by kernel_rfl) (by kernel_rfl) (fun _ _ _ h => h) (Or.inr ⟨by kernel_rfl, rfl⟩) trivial ?_
          simp only [Act.put, List.setIfInBounds_toArray, List.set_cons_zero, List.set_cons_succ]
          refine wpAnyH_take (i := 22) (oi := ⟨some 133, _, _, _, _, _⟩) (v := undef) rfl (by kernel_rfl) (by kernel_rfl) (by kernel_rfl) (fun _ _ _ h => h) (Or.inr ⟨by kernel_rfl, rfl⟩) trivial ?_
          simp only [Act.put, List.setIfInBounds_toArray, List.set_cons_zero, List.set_cons_succ]
          refine wpAnyH_take (i := 23) (oi := ⟨some 134, _, _, _, _, _⟩) (v := undef) rfl (by kernel_rfl) (by kernel_rfl) (by kernel_rfl) (fun _ _ _ h => h) (Or.inr ⟨by kernel_rfl, rfl⟩) trivial ?_
          simp only [Act.put, List.setIfInBounds_toArray, List.set_cons_zero, List.set_cons_succ]
          refine wpAnyH_take (i := 24) (oi := ⟨some 135, _, _, _, _, _⟩) (v := .bool true) rfl (by kernel_rfl) (by kernel_rfl) (by kernel_rfl) (fun _ _ _ h => h) (Or.inl ⟨by kernel_rfl, fun w9 _ => by go_simp⟩) trivial ?_
          simp only [Act.put, List.setIfInBounds_toArray, List.set_cons_zero, List.set_cons_succ]
          refine wpAnyH_take (i := 25) (oi := ⟨some 136, _, _, _, _, _⟩) (v := .bool true) rfl (by kernel_rfl) (by kernel_rfl) (by kernel_rfl) (fun _ _ _ h => h) (Or.inl ⟨by kernel_rfl, fun w9 _ => by go_simp⟩) trivial ?_
          simp only [Act.put, List.setIfInBounds_toArray, List.set_cons_zero, List.set_cons_succ]
          refine wpAnyH_take (i := 26) (oi := ⟨some 8, _, _, _, _, _⟩) (v := .bool true) rfl (by kernel_rfl) (by kernel_rfl) (by kernel_rfl) (fun _ _ _ h => h) (Or.inl ⟨by kernel_rfl, fun w9 _ => by go_simp⟩) trivial ?_
          simp only [Act.put, List.setIfInBounds_toArray, List.set_cons_zero, List.set_cons_succ]
          refine wpAnyH_done (by kernel_rfl) ?_ _
          go_wp2
          go_ret
          exact ⟨rfl, hT.trans (b32.mono hT.size)⟩
        · have q1 : ((C : Int) == 0) = false := beq_no (by omega)
          have q2 : (R : Int) < (C : Int) := by omega
          go_wp2_with fail
          refine wp_region_held_drew (S := fun _ => True) (by kernel_rfl) trivial (fun _ => ?_)
          refine wpAnyH_take (i := 0) (oi := ⟨some 111, _, _, _, _, _⟩) (v := .slice (some ⟨w4.heap.size, 0, none⟩) i i) rfl (by kernel_rfl) (by kernel_rfl) (by kernel_rfl) (fun _ _ _ h => h) (Or.inl ⟨by kernel_rfl, fun w9 _ => by go_simp⟩) trivial ?_
          simp only [Act.put, List.setIfInBounds_toArray, List.set_cons_zero, List.set_cons_succ]
          refine wpAnyH_take (i := 1) (oi := ⟨some 112, _, _, _, _, _⟩) (v := .int .i64 (R : Int)) rfl (by kernel_rfl) (by kernel_rfl) (by kernel_rfl) (fun _ _ _ h => h) (Or.inl ⟨by kernel_rfl, fun w9 _ => by go_simp⟩) trivial ?_
          simp only [Act.put, List.setIfInBounds_toArray, List.set_cons_zero, List.set_cons_succ]
          refine wpAnyH_ready (rs := [2]) (by kernel_rfl) (by simp) ?_
          refine AllReadyH.cons rfl (fun K hK => ?_) AllReadyH.nil
          go_simp
          go_wp2_with fail
          refine (right_yes HX.out.1 R (by omega) (by omega) HX.out.2.2.2.2.2.1).mono ?_
          rintro e w30 ⟨rfl, b30⟩
          dsimp only
          refine hK.out _ _ trivial (fun _ => ?_)
          clear hK K
          refine wpAnyH_take (i := 3) (oi := ⟨some 114, _, _, _, _, _⟩) (v := .bool true) rfl (by kernel_rfl) (by kernel_rfl) (by kernel_rfl) (fun _ _ _ h => h) (Or.inl ⟨by kernel_rfl, fun w9 _ => by go_simp⟩) trivial ?_
          simp only [Act.put, List.setIfInBounds_toArray, List.set_cons_zero, List.set_cons_succ]
          refine wpAnyH_take (i := 4) (oi := ⟨some 115, _, _, _, _, _⟩) (v := .slice (some ⟨w4.heap.size + 1, 0, none⟩) i i) rfl (by kernel_rfl) (by kernel_rfl) (by kernel_rfl) (fun _ _ _ h => h) (Or.inl ⟨by kernel_rfl, fun w9 _ => by go_simp⟩) trivial ?_
          simp only [Act.put, List.setIfInBounds_toArray, List.set_cons_zero, List.set_cons_succ]
          refine wpAnyH_take (i := 5) (oi := ⟨some 116, _, _, _, _, _⟩) (v := .int .i64 (R : Int)) rfl (by kernel_rfl) (by kernel_rfl) (by kernel_rfl) (fun _ _ _ h => h) (Or.inl ⟨by kernel_rfl, fun w9 _ => by go_simp⟩) trivial ?_
          simp only [Act.put, List.setIfInBounds_toArray, List.set_cons_zero, List.set_cons_succ]
          refine wpAnyH_ready (rs := [6]) (by kernel_rfl) (by simp) ?_
          refine AllReadyH.cons rfl (fun K hK => ?_) AllReadyH.nil
          go_simp
          go_wp2_with fail
          refine (right_yes (HX.out.2.1.below b30) R (by omega) (by omega) HX.out.2.2.2.2.2.2).mono ?_
          rintro e w31 ⟨rfl, b31⟩
          dsimp only
          refine hK.out _ _ trivial (fun _ => ?_)
          clear hK K
          refine wpAnyH_take (i := 7) (oi := ⟨some 118, _, _, _, _, _⟩) (v := .bool true) rfl (by kernel_rfl) (by kernel_rfl) (by kernel_rfl) (fun _ _ _ h => h) (Or.inl ⟨by kernel_rfl, fun w9 _ => by go_simp⟩) trivial ?_
          simp only [Act.put, List.setIfInBounds_toArray, List.set_cons_zero, List.set_cons_succ]
          refine wpAnyH_take (i := 8) (oi := ⟨some 119, _, _, _, _, _⟩) (v := .bool true) rfl (by kernel_rfl) (by kernel_rfl) (by kernel_rfl) (fun _ _ _ h => h) (Or.inl ⟨by kernel_rfl, fun w9 _ => by go_simp⟩) trivial ?_
          simp only [Act.put, List.setIfInBounds_toArray, List.set_cons_zero, List.set_cons_succ]
          have hT := HX.out.2.2.2.2.1
          replace hT := hT.trans (b30.mono hT.size)
          replace hT := hT.trans (b31.mono hT.size)
          refine wpAnyH_take (i := 9) (oi := ⟨some 120, _, _, _, _, _⟩) (v := .int .i64 (C : Int)) rfl (by kernel_rfl) (by kernel_rfl) (by kernel_rfl) (fun _ _ _ h => h) (Or.inl ⟨by kernel_rfl, fun w9 _ => by go_simp⟩) trivial ?_
          simp only [Act.put, List.setIfInBounds_toArray, List.set_cons_zero, List.set_cons_succ]
          refine wpAnyH_take (i := 10) (oi := ⟨some 121, _, _, _, _, _⟩) (v := .bool false) rfl (by kernel_rfl) (by kernel_rfl) (by kernel_rfl) (fun _ _ _ h => h) (Or.inl ⟨by kernel_rfl, fun w9 _ => by go_simp⟩) trivial ?_
          simp only [Act.put, List.setIfInBounds_toArray, List.set_cons_zero, List.set_cons_succ]
          refine wpAnyH_take (i := 11) (oi := ⟨some 122, _, _, _, _, _⟩) (v := .bool false) rfl (by kernel_rfl) (by kernel_rfl) (by kernel_rfl) (fun _ _ _ h => h) (Or.inl ⟨by kernel_rfl, fun w9 _ => by go_simp⟩) trivial ?_
          simp only [Act.put, List.setIfInBounds_toArray, List.set_cons_zero, List.set_cons_succ]
          refine wpAnyH_take (i := 12) (oi := ⟨some 123, _, _, _, _, _⟩) (v := undef) rfl (by kernel_rfl) (by kernel_rfl) (by kernel_rfl) (fun _ _ _ h => h) (Or.inr ⟨by kernel_rfl, rfl⟩) trivial ?_
          simp only [Act.put, List.setIfInBounds_toArray, List.set_cons_zero, List.set_cons_succ]
          refine wpAnyH_take (i := 13) (oi := ⟨some 124, _, _, _, _, _⟩) (v := undef) rfl (by kernel_rfl) (by kernel_rfl) (by kernel_rfl) (fun _ _ _ h => h) (Or.inr ⟨by kernel_rfl, rfl⟩) trivial ?_
          simp only [Act.put, List.setIfInBounds_toArray, List.set_cons_zero, List.set_cons_succ]
          refine wpAnyH_take (i := 14) (oi := ⟨some 125, _, _, _, _, _⟩) (v := undef) rfl (by kernel_rfl) (by kernel_rfl) (by kernel_rfl) (fun _ _ _ h => h) (Or.inr ⟨by kernel_rfl, rfl⟩) trivial ?_
          simp only [Act.put, List.setIfInBounds_toArray, List.set_cons_zero, List.set_cons_succ]
          refine wpAnyH_take (i := 15) (oi := ⟨some 126, _, _, _, _, _⟩) (v := undef) rfl (by kernel_rfl) (by kernel_rfl) (by kernel_rfl) (fun _ _ _ h => h) (Or.inr ⟨by kernel_rfl, rfl⟩) trivial ?_
          simp only [Act.put, List.setIfInBounds_toArray, List.set_cons_zero, List.set_cons_succ]
          refine wpAnyH_take (i := 16) (oi := ⟨some 127, _, _, _, _, _⟩) (v := undef) rfl (by kernel_rfl) (by kernel_rfl) (by kernel_rfl) (fun _ _ _ h => h) (Or.inr ⟨by kernel_rfl, rfl⟩) trivial ?_
          simp only [Act.put, List.setIfInBounds_toArray, List.set_cons_zero, List.set_cons_succ]
          refine wpAnyH_take (i := 17) (oi := ⟨some 128, _, _, _, _, _⟩) (v := undef) rfl (by kernel_rfl) (by kernel_rfl) (by kernel_rfl) (fun _ _ _ h => h) (Or.inr ⟨by kernel_rfl, rfl⟩) trivial ?_
          simp only [Act.put, List.setIfInBounds_toArray, List.set_cons_zero, List.set_cons_succ]
          refine wpAnyH_take (i := 18) (oi := ⟨some 129, _, _, _, _, _⟩) (v := undef) rfl (by kernel_rfl) (by kernel_rfl) (by kernel_rfl) (fun _ _ _ h => h) (Or.inr ⟨by kernel_rfl, rfl⟩) trivial ?_
          simp only [Act.put, List.setIfInBounds_toArray, List.set_cons_zero, List.set_cons_succ]
          refine wpAnyH_take (i := 19) (oi := ⟨some 130, _, _, _, _, _⟩) (v := .bool false) rfl (by kernel_rfl) (by kernel_rfl) (by kernel_rfl) (fun _ _ _ h => h) (Or.inl ⟨by kernel_rfl, fun w9 _ => by go_simp⟩) trivial ?_
          simp only [Act.put, List.setIfInBounds_toArray, List.set_cons_zero, List.set_cons_succ]
          refine wpAnyH_take (i := 20) (oi := ⟨some 131, _, _, _, _, _⟩) (v := .bool false) rfl (by kernel_rfl) (by kernel_rfl) (by kernel_rfl) (fun _ _ _ h => h) (Or.inl ⟨by kernel_rfl, fun w9 _ => by go_simp⟩) trivial ?_
          simp only [Act.put, List.setIfInBounds_toArray, List.set_cons_zero, List.set_cons_succ]
          refine wpAnyH_take (i := 21) (oi := ⟨some 132, _, _, _, _, _⟩) (v := .int .i64 (C : Int)) rfl (by kernel_rfl) (by kernel_rfl) (by kernel_rfl) (fun _ _ _ h => h) (Or.inl ⟨by kernel_rfl, fun w9 _ => by go_simp⟩) trivial ?_
          simp only [Act.put, List.setIfInBounds_toArray, List.set_cons_zero, List.set_cons_succ]
          refine wpAnyH_take (i := 22) (oi := ⟨some 133, _, _, _, _, _⟩) (v := .int .i64 (R : Int)) rfl (by kernel_rfl) (by kernel_rfl) (by kernel_rfl) (fun _ _ _ h => h) (Or.inl ⟨by kernel_rfl, fun w9 _ => by go_simp⟩) trivial ?_
          simp only [Act.put, List.setIfInBounds_toArray, List.set_cons_zero, List.set_cons_succ]
          refine wpAnyH_take (i := 23) (oi := ⟨some 134, _, _, _, _, _⟩) (v := .bool true) rfl (by kernel_rfl) (by kernel_rfl) (by kernel_rfl) (fun _ _ _ h => h) (Or.inl ⟨by kernel_rfl, fun w9 _ => by go_simp⟩) trivial ?_
          simp only [Act.put, List.setIfInBounds_toArray, List.set_cons_zero, List.set_cons_succ]
          refine wpAnyH_take (i := 24) (oi := ⟨some 135, _, _, _, _, _⟩) (v := .bool true) rfl (by kernel_rfl) (by kernel_rfl) (by kernel_rfl) (fun _ _ _ h => h) (Or.inl ⟨by kernel_rfl, fun w9 _ => by go_simp⟩) trivial ?_
          simp only [Act.put, List.setIfInBounds_toArray, List.set_cons_zero, List.set_cons_succ]
          refine wpAnyH_take (i := 25) (oi := ⟨some 136, _, _, _, _, _⟩) (v := .bool true) rfl (by kernel_rfl) (by kernel_rfl) (by kernel_rfl) (fun _ _ _ h => h) (Or.inl ⟨by kernel_rfl, fun w9 _ => by go_simp⟩) trivial ?_
          simp only [Act.put, List.setIfInBounds_toArray, List.set_cons_zero, List.set_cons_succ]
          refine wpAnyH_take (i := 26) (oi := ⟨some 8, _, _, _, _, _⟩) (v := .bool true) rfl (by kernel_rfl) (by kernel_rfl) (by kernel_rfl) (fun _ _ _ h => h) (Or.inl ⟨by kernel_rfl, fun w9 _ => by go_simp⟩) trivial ?_
          simp only [Act.put, List.setIfInBounds_toArray, List.set_cons_zero, List.set_cons_succ]
          refine wpAnyH_done (by kernel_rfl) ?_ _
          go_wp2
          go_ret
          exact ⟨rfl, hT⟩

theorem rsApart_own : ownKnob Try.prog.godebug = none := by kernel_rfl
theorem rsApart_laidOut : laidOutB Try.prog = true := by kernel_rfl

set_option maxRecDepth 100000 in
theorem rsApart_lifted (os : Os) (started : os.Started) (H : Type) (enc : TypeId × Value → H) :
    ReturnsInHanded {} Try.checked os 6 .any (Rows.rsApartSpec.pre6 enc Try.prog Try.f6 Rows.rsApartRow.domain false) (Rows.rsApartSpec.post enc Try.prog Try.f6 false true false false) := by
  refine returnsInHanded_of_change (C := Try.checked) rsApart_own started (by kernel_rfl) Try.func6
    (ChangeSpec.witness6 (enc := enc) (C := Try.checked) false ⟨#[], #[.slice none 0 0, .slice none 0 0, .int .i64 0, .int .u16 0], []⟩ 8 (by kernel_rfl) (by kernel_rfl) (by kernel_rfl) (by kernel_rfl)) ?_
  intro W base args ds gs before hval0 hW hcnd _
  have hval : ∀ (j : Nat) t v, Try.f6.params[j]? = some t → args[j]? = some v → Value.okWide Try.prog W .any base t v := hval0
  have hW' := hW
  obtain ⟨p, q, hA0, hV, rfl, hfz, hnd⟩ := hW
  have hA : DataW.TrodAll enc Try.prog W 0 (fun _ => true) true Try.f6.params.toList args.toList ds p := hA0
  rw [Try.params6] at hA hval
  obtain ⟨v0, vs0, d0, ds0, p0, q0, hargs, rfl, rfl, h0, r0⟩ := trodAll_cons hA
  obtain ⟨v1, vs1, d1, ds1, p1, q1, rfl, rfl, rfl, h1, r1⟩ := trodAll_cons r0
  obtain ⟨v2, vs2, d2, ds2, p2, q2, rfl, rfl, rfl, h2, r2⟩ := trodAll_cons r1
  obtain ⟨v3, vs3, d3, ds3, p3, q3, rfl, rfl, rfl, h3, r3⟩ := trodAll_cons r2
  obtain ⟨rfl, rfl, rfl⟩ := trodAll_nil r3
  obtain rfl : args = #[v0, v1, v2, v3] := by cases args; simp_all
  obtain ⟨rfl, rfl⟩ := trodVars_none hV
  obtain ⟨a0, len0, cap0, rfl⟩ := okWide_slice Try.underlying23 (hval 0 23 v0 rfl rfl)
  have k0 := h0
  have lt0 : ∀ x ∈ p0, x.block < W.heap.size := by obtain ⟨m, hm⟩ := k0; exact DataW.trod_lt m _ _ _ hm
  obtain ⟨z0, w0⟩ : ∃ zs, IsRow .u16 W a0 len0 cap0 zs := by
    obtain ⟨fuel, hf⟩ := h0
    rcases open_ints Try.underlying23 Try.underlying27 (by kernel_rfl) hf with ⟨hcs, _⟩ | ⟨x, l, c, zs, hcs, _, hl, hm, hz, _, hcell, hwz⟩
    · simp [Value.cells] at hcs
      obtain ⟨rfl, rfl, rfl⟩ := hcs
      exact ⟨[], .inl ⟨rfl, rfl, rfl, rfl⟩⟩
    · simp [Value.cells] at hcs
      obtain ⟨rfl, rfl, rfl⟩ := hcs
      exact ⟨zs, .inr ⟨_, rfl, hl, hm, by simpa using hz, hcell, hwz⟩⟩
  obtain ⟨a1, len1, cap1, rfl⟩ := okWide_slice Try.underlying23 (hval 1 23 v1 rfl rfl)
  have k1 := h1
  have lt1 : ∀ x ∈ p1, x.block < W.heap.size := by obtain ⟨m, hm⟩ := k1; exact DataW.trod_lt m _ _ _ hm
  obtain ⟨z1, w1⟩ : ∃ zs, IsRow .u16 W a1 len1 cap1 zs := by
    obtain ⟨fuel, hf⟩ := h1
    rcases open_ints Try.underlying23 Try.underlying27 (by kernel_rfl) hf with ⟨hcs, _⟩ | ⟨x, l, c, zs, hcs, _, hl, hm, hz, _, hcell, hwz⟩
    · simp [Value.cells] at hcs
      obtain ⟨rfl, rfl, rfl⟩ := hcs
      exact ⟨[], .inl ⟨rfl, rfl, rfl, rfl⟩⟩
    · simp [Value.cells] at hcs
      obtain ⟨rfl, rfl, rfl⟩ := hcs
      exact ⟨zs, .inr ⟨_, rfl, hl, hm, by simpa using hz, hcell, hwz⟩⟩
  obtain ⟨a2, rfl, rfl, rfl, w2⟩ := open_int Try.underlying3 (hval 2 3 v2 rfl rfl) h2
  obtain ⟨a3, rfl, rfl, rfl, w3⟩ := open_int Try.underlying27 (hval 3 27 v3 rfl rfl) h3
  clear hA0 hval0
  simp only [List.append_nil] at hW'
  refine (rsApart_any (isRow_sl w0) (isRow_max w0) (isRow_sl w1) (isRow_max w1) (bounds_i64 w2) (bounds_u16 w3)).mono fun e W' ⟨he, bel⟩ => ?_
  subst he
  exact ⟨_, rfl, _, _, _, [], _, [], hW', trodAll_mk1 (shut_bool Try.underlying4 _), (trodAll_cons_mk (Below.trod rsApart_laidOut (by kernel_rfl) (of_decide_eq_true (by kernel_rfl)) k0 bel lt0) (trodAll_cons_mk (Below.trod rsApart_laidOut (by kernel_rfl) (of_decide_eq_true (by kernel_rfl)) k1 bel lt1) (trodAll_cons_mk (shut_int Try.underlying3 w2) (trodAll_cons_mk (shut_int Try.underlying27 w3) trodAll_mk0)))), rfl, bel.frame _, fun h => by cases h⟩

theorem rsApart_holds : Rows.RsApartSaid :=
  OpenClaim.holds_of_wide 6 Try.f6 rfl rfl rfl rfl rfl rfl rfl ⟨rfl, rfl, rfl, rfl, rfl⟩ rfl rfl rfl rfl rfl (by kernel_rfl) Try.func6 (by kernel_rfl)
    (of_decide_eq_true (by kernel_rfl)) (by unfold Func.isWrapper; first | (rw [if_pos (by decide +kernel)]; kernel_rfl) | (rw [if_neg (by decide +kernel)]; exact ⟨rfl, rfl⟩))
    (fun os started H enc _ => rsApart_lifted os started H enc)

#print axioms rsApart_holds

end Go.Proofs.Ytfinicoipoleaaa
