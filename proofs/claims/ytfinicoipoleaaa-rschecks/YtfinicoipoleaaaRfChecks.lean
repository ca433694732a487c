/- The document's own checks: it divides the data, shifted, by the product of the first r powers of x; what is left is the one row of checks that there is. -/
import Derived.Test.YtfinicoipoleaaaRfMath
import Derived.Test.YtfinicoipoleaaaRefsP
import Derived.StillTailTactics
namespace Go.Proofs.Ytfinicoipoleaaa
open Go.RowKit Gf
set_option linter.unusedVariables false

theorem two_places {w : World} {b n m : Nat} {f : Nat → Int} (h : Wr w b 0 n f) (hm : m + 1 < n) (y z : Int) :
    Wr (((w.setCell ⟨b, m + 1, none⟩ (.int .u16 y)).setCell ⟨b, m, none⟩ (.int .u16 z))) b 0 n (fun p => if p = m then z else if p = m + 1 then y else f p) := by
  have h1 := h.set (m + 1) hm y
  rw [Nat.zero_add] at h1
  have h2 := h1.set m (by omega) z
  rw [Nat.zero_add] at h2
  exact h2

set_option maxRecDepth 100000 in
set_option maxHeartbeats 8000000 in
theorem rfcheck_any {w : World} {a : Option Addr} {n c : Nat} {f : Nat → Int} (h : Sl w a n c f) (r : Nat) (hr : n + r ≤ 255) :
    Calls Try.prog 13 #[.slice a n c, .int .i64 (r : Int)] w fun e w' => ∃ a' c' ck, e = .returned (.tuple #[.slice a' r c', .int .i64 0]) ∧ New w w' a' r c' ck ∧ Chk n f r ck := by
  have q0 : ¬ (r : Int) < 0 := by omega
  have q1 : ¬ (1000 : Int) < (r : Int) := by omega
  have q2 : ¬ (255 : Int) < (n : Int) + (r : Int) := by omega
  have HS := hide h
  have l1 : Sl (w.alloc (.cells #[.int .u16 1] 27)) (some ⟨w.heap.size, 0, none⟩) 1 1 (ofp al 0) := (sl_lit w [1] (by decide)).congr (funext fun j => by
    cases j with
    | zero => rfl
    | succ j => exact lf_out [1] (j + 1) (by simp))
  have HL := hide l1
  have HB := hide (bel_lit w (.cells #[.int .u16 1] 27))
  clear h l1
  go_enter Try.func13, Try.ntmps13
  go_wp2_with fail
  go_loopw [6, 7, 8, 9, 10] (fun g p t _ _ wr => ∃ (k : Nat) (b : Nat), t = .int .i64 k ∧ k ≤ r ∧ p = .int .u16 (al k) ∧ g = .slice (some ⟨b, 0, none⟩) (k + 1) (k + 1) ∧ Sl wr (some ⟨b, 0, none⟩) (k + 1) (k + 1) (ofp al k) ∧ Below w.heap.size w wr) (fun _ _ t _ _ _ => r - (intOf t).toNat)
  case atStart => exact ⟨0, _, rfl, Nat.zero_le _, rfl, rfl, HL.out, HB.out⟩
  case round =>
    obtain ⟨k, b, rfl, hk, rfl, rfl, hG, hbl⟩ := hrel
    obtain ⟨wo, hwo⟩ : ∃ v, v = wr := ⟨_, rfl⟩
    subst hwo
    have a16 := al16 k
    have hbz := hbl.size
    have HG := hide hG
    have HBL := hide hbl
    clear hG hbl
    by_cases hlt : k < r
    · have hmk := mk_int (k + 1 + 1) ((k : Int) + 1 + 1) (by omega) (by omega)
      have HW0 := hide (Wr.made wo (k + 1 + 1))
      have HB0 := hide ((Below.refl wo.heap.size wo).alloc (Nat.le_refl _) (.cells (madeCells #[.int .u16 0] (k + 1 + 1)) 27))
      go_wp2_with fail
      go_loopw [10] (fun t wr => ∃ m : Nat, t = .int .i64 m ∧ m ≤ k + 1 ∧ Wr wr wo.heap.size 0 (k + 1 + 1) (nm k m) ∧ Below wo.heap.size wo wr) (fun t _ => k + 1 - (intOf t).toNat)
      case atStart => exact ⟨0, rfl, Nat.zero_le _, HW0.out.congr (fun j _ => (nm_zero k j).symm), HB0.out⟩
      case round =>
        obtain ⟨m, rfl, hm, hwr, hbl⟩ := hrel
        obtain ⟨wi, hwi⟩ : ∃ v, v = wr := ⟨_, rfl⟩
        subst hwi
        by_cases hlt2 : m < k + 1
        · obtain ⟨b', o', e', hb', hc'⟩ := HG.out.at'.resolve_left (by omega)
          cases e'
          have hcg : wi.cell? ⟨b, m, none⟩ = some (.int .u16 (ofp al k m)) := by
            have := (hbl.cell (p := ⟨b, 0 + m, none⟩) hb').trans (hc' m hlt2)
            rwa [Nat.zero_add] at this
          have hc1 : wi.cell? ⟨wo.heap.size, m + 1, none⟩ = some (.int .u16 0) := by
            have := hwr.cell (m + 1) (by omega)
            rwa [Nat.zero_add, nm_hi] at this
          have hc2 : wi.cell? ⟨wo.heap.size, m, none⟩ = some (.int .u16 (up1 k m)) := by
            have := hwr.cell m (by omega)
            rwa [Nat.zero_add, nm_lo] at this
          have hf1 : wi.frozen? ⟨wo.heap.size, m + 1, none⟩ = false := by have := hwr.free (m + 1) (by omega); rwa [Nat.zero_add] at this
          have hf2 : wi.frozen? ⟨wo.heap.size, m, none⟩ = false := by have := hwr.free m (by omega); rwa [Nat.zero_add] at this
          have hne : b ≠ wo.heap.size := by omega
          have g16' := ofp16 al k m
          have u16' := up16 k m
          have m16 := g16 (b := al k) g16'
          have x1 : bits BinOp.xor IntKind.u16 0 (ofp al k m) = ofp al k m := by rw [xI_bits _ _ (by decide) (by omega), x0 g16']
          have hlt3 : (m : Int) < (k : Int) + 1 := by omega
          have HW := hide hwr
          have HBI := hide hbl
          have X2 := hide (xI_bits (up1 k m) (gI (ofp al k m) (al k)) (by omega) (by omega))
          clear hwr hbl hc' hmk
          go_wp2_with fail
          go_region
          have ho1 := (Only.setCell wo.heap.size (m + 1) wi (.int .u16 (ofp al k m))).drew
          have hgA := (ho1.cell (p := ⟨b, m, none⟩) hne).trans hcg
          have hA1 : Wr ((wi.setCell ⟨wo.heap.size, m + 1, none⟩ (.int .u16 (ofp al k m))).drew) wo.heap.size 0 (k + 1 + 1) (fun p => if p = m + 1 then ofp al k m else nm k m p) := by
            have h9 := HW.out.set (m + 1) (by omega) (ofp al k m)
            rw [Nat.zero_add] at h9
            exact h9.drew1
          have hbA := HBI.out.trans (ho1.below (Nat.le_refl _))
          clear ho1 hcg hc1 hc2 hf1 hf2 x1 HW HBI
          obtain ⟨wA, hwA⟩ : ∃ v, v = (wi.setCell ⟨wo.heap.size, m + 1, none⟩ (.int .u16 (ofp al k m))).drew := ⟨_, rfl⟩
          rw [← hwA] at hgA hA1 hbA ⊢
          clear hwA
          have hc2 : wA.cell? ⟨wo.heap.size, m, none⟩ = some (.int .u16 (up1 k m)) := by
            have := hA1.cell m (by omega)
            rwa [Nat.zero_add, if_neg (by omega), nm_lo] at this
          have hf2 : wA.frozen? ⟨wo.heap.size, m, none⟩ = false := by have := hA1.free m (by omega); rwa [Nat.zero_add] at this
          have hmk1 : m < k + 1 + 1 := by omega
          have hmI : (m : Int) < (k : Int) + 1 + 1 := by omega
          have HA1 := hide hA1
          have HBA := hide hbA
          clear hA1 hbA
          go_wp2_with fail
          refine wp_region_still_tail 14 (by kernel_rfl) (by kernel_rfl) ?_
          simp only [List.take_succ_cons, List.take_zero, List.drop_succ_cons, List.drop_zero]
          repeat still_step
          still_call (refMul_any _ _ _ (by omega) (by omega))
          repeat still_step
          refine wpStill_nil ?_
          go_wp2
          go_roundw
          case rel =>
            refine ⟨m + 1, by go_num, by omega, ?_, (HBA.out.trans ((Only.setCell wo.heap.size m _ _).drew.below (Nat.le_refl _)))⟩
            rw [X2.out]
            have h9 := HA1.out.set m hmk1 (xI (up1 k m) (gI (ofp al k m) (al k)))
            rw [Nat.zero_add] at h9
            refine Wr.drew1 (h9.congr (fun p hp => nm_step k m p))
          case measure => (simp [intOf]; try omega)
        · obtain rfl : m = k + 1 := by omega
          have hG2 : Sl wi (some ⟨wo.heap.size, 0, none⟩) (k + 1 + 1) (k + 1 + 1) (ofp al (k + 1)) := (hwr.congr (fun p hp => nm_full k p hp)).sl _ (Nat.le_refl _) (ofp16 al (k + 1)) (ofp_out al (k + 1))
          have HG2 := hide hG2
          have HB2 := hide (HBL.out.trans (hbl.mono hbz))
          clear hG2 hwr hbl
          go_wp2_with fail
          refine (refMul_any _ _ _ (by omega) (by decide)).mono ?_
          rintro e w2 ⟨rfl, hw2⟩
          obtain rfl := hw2.symm
          go_wp2_with fail
          go_roundw
          case rel => exact ⟨k + 1, wo.heap.size, by go_num, by omega, rfl, rfl, HG2.out, HB2.out⟩
          case measure => (simp [intOf]; try omega)
    · obtain rfl : k = r := by omega
      obtain ⟨N, hN, hNb, hnN, hkN⟩ : ∃ N, Hid (N = n + k) ∧ N ≤ 255 ∧ n ≤ N ∧ k ≤ N := ⟨n + k, hide rfl, hr, by omega, by omega⟩
      have hmk := mk_int N ((n : Int) + (k : Int)) (by have := hN.out; omega) (by omega)
      have HW0 := hide (Wr.made wo N)
      have HB0 := hide ((Below.refl wo.heap.size wo).alloc (Nat.le_refl _) (.cells (madeCells #[.int .u16 0] N) 27))
      have HSO := hide (HS.out.below HBL.out)
      clear HL HB
      go_wp2_with fail
      go_loopw [12] (fun t wr => ∃ i : Nat, t = .int .i64 i ∧ i ≤ n ∧ Wr wr wo.heap.size 0 N (ld f N i) ∧ Below wo.heap.size wo wr) (fun t _ => n - (intOf t).toNat)
      case atStart => exact ⟨0, rfl, Nat.zero_le _, HW0.out.congr (fun p hp => by unfold ld; rw [if_neg (by omega)]), HB0.out⟩
      case round =>
        obtain ⟨i, rfl, hi, hwr, hbl⟩ := hrel
        obtain ⟨wi, hwi⟩ : ∃ v, v = wr := ⟨_, rfl⟩
        subst hwi
        by_cases hlt2 : i < n
        · obtain ⟨b0, o0, rfl, hb0, hc0⟩ := HSO.out.at'.resolve_left (by omega)
          have hcx : wi.cell? ⟨b0, o0 + i, none⟩ = some (.int .u16 (f i)) := (hbl.cell (p := ⟨b0, o0 + i, none⟩) hb0).trans (hc0 i hlt2)
          obtain ⟨I, hI, hIe, hIN⟩ : ∃ I : Nat, (N : Int) - 1 - (i : Int) = (I : Int) ∧ Hid (I = N - 1 - i) ∧ I < N := ⟨N - 1 - i, by omega, hide rfl, by omega⟩
          have hf1 : wi.frozen? ⟨wo.heap.size, I, none⟩ = false := by have := hwr.free I hIN; rwa [Nat.zero_add] at this
          obtain ⟨y1, hy1⟩ : ∃ y, wi.cell? ⟨wo.heap.size, I, none⟩ = some y := ⟨_, by have := hwr.cell I hIN; rwa [Nat.zero_add] at this⟩
          have HW := hide hwr
          have HBI := hide hbl
          clear hwr hbl hc0 hmk
          go_wp2_with fail
          go_roundw
          case rel =>
            refine ⟨i + 1, by go_num, by omega, ?_, HBI.out.trans ((Only.setCell wo.heap.size I _ _).below (Nat.le_refl _))⟩
            have h9 := HW.out.set I hIN (f i)
            rw [Nat.zero_add] at h9
            refine h9.congr (fun p hp => ?_)
            have he := hIe.out
            rw [he]
            exact ld_step f N i p (by omega)
          case measure => (simp [intOf]; try omega)
        · obtain rfl : i = n := by omega
          have HW := hide hwr
          have HBI := hide hbl
          clear hwr hbl hmk
          go_wp2_with fail
          go_loopw [13, 14, 15] (fun hgh _ _ wr => ∃ (t : Nat) (L : Nat → Int), t ≤ i ∧ hgh = .int .i64 ((N : Int) - 1 - (t : Int)) ∧ Hid (P16 L ∧ (∀ p, N - t ≤ p → p < N → L p = 0) ∧ (∀ j, j < k → vh (al j) N (rv N L) = vh (al j) N f)) ∧ Wr wr wo.heap.size 0 N L ∧ Below wo.heap.size wo wr) (fun hgh _ _ _ => (intOf hgh + 1).toNat)
          case atStart => exact ⟨0, ld f N i, Nat.zero_le _, by go_num, hide ⟨ld16 HS.out.bd N i, fun p h1 h2 => by omega, fun j _ => ld_val HS.out.out hnN (al j)⟩, HW.out, HBI.out⟩
          case round =>
            obtain ⟨t, L, ht, rfl, HX, hwr, hbl⟩ := hrel
            obtain ⟨wj, hwj⟩ : ∃ v, v = wr := ⟨_, rfl⟩
            subst hwj
            by_cases hlt3 : t < i
            · obtain ⟨s, hs⟩ : ∃ s : Nat, Hid (N = s + k + 1 + t) := ⟨i - 1 - t, hide (by have := hN.out; omega)⟩
              obtain ⟨H, hH, hHe, hHN, hHk⟩ : ∃ H : Nat, (N : Int) - 1 - (t : Int) = (H : Int) ∧ Hid (H = s + k) ∧ H < N ∧ (k : Int) ≤ (H : Int) := ⟨s + k, by have := hs.out; omega, hide rfl, by have := hs.out; omega, by omega⟩
              rw [hH]
              have hcH : wj.cell? ⟨wo.heap.size, H, none⟩ = some (.int .u16 (L H)) := by have := hwr.cell H hHN; rwa [Nat.zero_add] at this
              have c16 := HX.out.1 H
              obtain ⟨cc, hcc⟩ : ∃ cc, cc = L H := ⟨_, rfl⟩
              rw [← hcc] at hcH c16
              have HCC := hide hcc
              clear hcc hH
              have HWJ := hide hwr
              have HBJ := hide hbl
              clear hwr hbl
              go_wp2_with fail
              go_loopw [15] (fun u wr => ∃ m : Nat, u = .int .i64 m ∧ m ≤ k + 1 ∧ Wr wr wo.heap.size 0 N (ad1 L cc k s m) ∧ Below wo.heap.size wo wr) (fun u _ => k + 1 - (intOf u).toNat)
              case atStart => exact ⟨0, rfl, Nat.zero_le _, HWJ.out.congr (fun p hp => by unfold ad1; rw [if_neg (by omega)]), HBJ.out⟩
              case round =>
                obtain ⟨m, rfl, hm, hwr, hbl⟩ := hrel
                obtain ⟨wl, hwl⟩ : ∃ v, v = wr := ⟨_, rfl⟩
                subst hwl
                by_cases hlt4 : m < k + 1
                · have hle : (m : Int) ≤ (k : Int) := by omega
                  have hle1 : (m : Int) < (k : Int) + 1 := by omega
                  obtain ⟨b', o', e', hb', hc'⟩ := HG.out.at'.resolve_left (by omega)
                  cases e'
                  have hcg : wl.cell? ⟨b, m, none⟩ = some (.int .u16 (ofp al k m)) := by
                    have := (hbl.cell (p := ⟨b, 0 + m, none⟩) hb').trans (hc' m hlt4)
                    rwa [Nat.zero_add] at this
                  obtain ⟨I, hI, hIe, hIN, hIN'⟩ : ∃ I : Nat, (H : Int) - (k : Int) + (m : Int) = (I : Int) ∧ Hid (I = s + m) ∧ I < N ∧ (I : Int) < (N : Int) := ⟨s + m, by have := hHe.out; omega, hide rfl, by have := hs.out; omega, by have := hs.out; omega⟩
                  have hcI : wl.cell? ⟨wo.heap.size, I, none⟩ = some (.int .u16 (L I)) := by
                    have := hwr.cell I hIN
                    rw [Nat.zero_add] at this
                    rw [this, hIe.out, ad_at]
                  have hfI : wl.frozen? ⟨wo.heap.size, I, none⟩ = false := by have := hwr.free I hIN; rwa [Nat.zero_add] at this
                  have hIw : IntKind.i64.wrap (IntKind.i64.wrap ((H : Int) - (k : Int)) + (m : Int)) = (I : Int) := by
                    rw [IntWalk.i64_in ((H : Int) - (k : Int)) (by omega), hI, IntWalk.i64_in _ (by omega)]
                  have g16' := ofp16 al k m
                  have L16 := HX.out.1 I
                  have m16 := g16 (b := ofp al k m) c16
                  have X2 := hide (xI_bits (L I) (gI cc (ofp al k m)) (by omega) (by omega))
                  have HWL := hide hwr
                  have HBL2 := hide hbl
                  clear hwr hbl hc'
                  go_wp2_with fail
                  refine wp_region_still_tail 22 (by kernel_rfl) (by kernel_rfl) ?_
                  simp only [List.take_succ_cons, List.take_zero, List.drop_succ_cons, List.drop_zero]
                  repeat still_step
                  still_call (refMul_any _ _ _ (by omega) (by omega))
                  repeat still_step
                  refine wpStill_nil ?_
                  go_wp2
                  go_roundw
                  case rel =>
                    refine ⟨m + 1, by go_num, by omega, ?_, (HBL2.out.trans ((Only.setCell wo.heap.size I _ _).drew.below (Nat.le_refl _)))⟩
                    rw [X2.out]
                    have h9 := HWL.out.set I hIN (xI (L I) (gI cc (ofp al k m)))
                    rw [Nat.zero_add] at h9
                    refine Wr.drew1 (h9.congr (fun p hp => ?_))
                    rw [hIe.out]
                    exact ad_step L cc k s m p
                  case measure => (simp [intOf]; try omega)
                · obtain rfl : m = k + 1 := by omega
                  have hle : ¬ (k : Int) + 1 ≤ (k : Int) := by omega
                  have HWL := hide hwr
                  have HBL2 := hide hbl
                  clear hwr hbl
                  go_wp2_with fail
                  go_roundw
                  case rel =>
                    have e1 := hs.out
                    have e2 := hHe.out
                    refine ⟨t + 1, ad1 L cc k s (k + 1), by omega, by go_num, hide ⟨ad16 HX.out.1 c16 k s (k + 1), fun p h1 h2 => ?_, fun j hj => ?_⟩, HWL.out, HBL2.out⟩
                    · by_cases e : p = s + k
                      · rw [e, HCC.out, e2]
                        exact ad_top k s HX.out.1
                      · unfold ad1
                        rw [if_neg (by omega)]
                        exact HX.out.2.1 p (by omega) h2
                    · rw [ad_val HX.out.1 c16 e1 hj]
                      exact HX.out.2.2 j hj
                  case measure => (simp [intOf]; try omega)
            · obtain rfl : t = i := by omega
              have hge : ¬ (k : Int) ≤ (N : Int) - 1 - (t : Int) := by have := hN.out; omega
              have HWJ := hide hwr
              have HBJ := hide hbl
              have HO := hide (owns_nil wj (ot L k 0))
              have HBZ := hide (bel_lit wj (.cells #[] 27))
              clear hwr hbl
              go_wp2_with fail
              go_loopw [16, 17] (fun l u wr => ∃ q : Nat, q ≤ k ∧ u = .int .i64 ((k : Int) - 1 - (q : Int)) ∧ wr.ownsRow wj.heap.size 27 1 l q (vals (ot L k q) q) ∧ Below wj.heap.size wj wr) (fun _ u _ => (intOf u + 1).toNat)
              case atStart => exact ⟨0, Nat.zero_le _, by go_num, HO.out, HBZ.out⟩
              case round =>
                obtain ⟨q, hq, rfl, hown, hbl⟩ := hrel
                obtain ⟨wl, hwl⟩ : ∃ v, v = wr := ⟨_, rfl⟩
                subst hwl
                have HOW := hide hown
                have HBQ := hide hbl
                clear hown hbl
                by_cases hlt4 : q < k
                · obtain ⟨I, hI, hIe, hIN, hIp⟩ : ∃ I : Nat, (k : Int) - 1 - (q : Int) = (I : Int) ∧ Hid (I = k - 1 - q) ∧ I < N ∧ (0 : Int) ≤ (I : Int) := ⟨k - 1 - q, by omega, hide rfl, by omega, by omega⟩
                  rw [hI]
                  have hcI : wl.cell? ⟨wo.heap.size, I, none⟩ = some (.int .u16 (L I)) := by
                    have h1 := (HBQ.out.cell (p := ⟨wo.heap.size, 0 + I, none⟩) HWJ.out.lt).trans (HWJ.out.cell I hIN)
                    rwa [Nat.zero_add] at h1
                  have hsz := HBQ.out.size
                  have l1 : Sl (wl.alloc (.cells #[.int .u16 (L I)] 27)) (some ⟨wl.heap.size, 0, none⟩) 1 1 (lf [L I]) := sl_lit wl [L I] (by
                    intro y hy
                    have : y = L I := by simpa using hy
                    rw [this]
                    exact HX.out.1 I)
                  have HL1 := hide l1
                  have HB2 := hide (HBQ.out.alloc hsz (.cells #[.int .u16 (L I)] 27))
                  have HI := hide hI
                  clear l1 hI
                  go_wp2_with (refine append_sl rfl (.tmp 143) (.tmp 148) rfl wj.heap.size _ q (ot L k q) rfl (HOW.out.alloc _) (some ⟨wl.heap.size, 0, none⟩) 1 1 (lf [L I]) rfl HL1.out (by omega) (by simp; omega) wj HB2.out ?_; intro v3 w3 hown3 hb3)
                  go_roundw
                  case rel =>
                    have e9 := HI.out
                    refine ⟨q + 1, by omega, by go_num, ?_, hb3⟩
                    rw [vals_congr (g := ot L k (q + 1)) (fun j hj => ?_)] at hown3
                    · exact hown3
                    · unfold cat ot
                      by_cases h2 : j < q
                      · rw [if_pos h2, if_pos h2, if_pos (by omega)]
                      · obtain rfl : j = q := by omega
                        rw [if_neg (by omega), if_pos (by omega), Nat.sub_self, ← hIe.out]
                        rfl
                  case measure => (simp [intOf]; try omega)
                · obtain rfl : q = k := by omega
                  have hge2 : ¬ (0 : Int) ≤ (q : Int) - 1 - (q : Int) := by omega
                  have hBB := HBL.out.trans (HBJ.out.mono HBL.out.size)
                  obtain ⟨a', c', rfl, hnew⟩ := new_of_owns HOW.out HBQ.out (ot16 HX.out.1 q q) (ot_out L q q)
                  have HN := hide (hnew.from hBB)
                  clear hnew hBB HOW HBQ
                  go_wp2
                  go_ret2
                  have e1 := hN.out
                  subst e1
                  exact ⟨a', c', rfl, _, HN.out, chk_of HS.out.bd (ot16 HX.out.1 q q) HS.out.out (ot_out L q q) (fun j hj => by
                    rw [← HX.out.2.2 j hj]
                    exact ot_val (fun p h1 h2 => HX.out.2.1 p (by omega) h2) (al j))⟩

end Go.Proofs.Ytfinicoipoleaaa
