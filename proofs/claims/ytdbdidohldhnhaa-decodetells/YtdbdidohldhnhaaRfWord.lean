/- The document's own Word: for words of at most 255 symbols it tells the right word that is near enough, or that there is none. -/
import Derived.Test.YtdbdidohldhnhaaPetW
import Derived.Deep.RegionHeld
namespace Go.Proofs.Ytdbdidohldhnhaa
open Go.RowKit Gf
set_option linter.unusedVariables false

set_option maxRecDepth 100000 in
set_option maxHeartbeats 2000000 in
theorem rfword_bad {w : World} {a ag : Option Addr} {n c m cg : Nat} {gl : Nat → Int} (r : Int) (hn : n ≤ maxLen) (hg : Il w ag m cg gl) (hm : m ≤ 1000) (hbad : n = 0 ∨ 255 < n ∨ r < 0 ∨ (n : Int) < r ∨ ¬ Gn gl m n) :
    Calls Try.prog 11 #[.slice a n c, .int .i64 r, .slice ag m cg] w fun e w' => e = .returned (.tuple #[.slice none 0 0, .int .i64 1]) ∧ Below w.heap.size w w' := by
  have cM := may_no r hg hm hn hbad
  clear hg hbad
  go_enter Try.func11, Try.ntmps11
  go_wp2_with fail
  refine cM.mono ?_
  rintro e w1 ⟨rfl, hB⟩
  go_wp2
  go_ret2
  exact ⟨rfl, hB⟩

theorem pet_less {n r m E : Nat} {f gl : Nat → Int} (h : ∀ cw, Near n f r m gl cw → cnt n (off gl m f cw) < E + 1) (hne : ∀ cw, Near n f r m gl cw → cnt n (off gl m f cw) = E → False) : ∀ cw, Near n f r m gl cw → cnt n (off gl m f cw) < E := fun cw hc => by
  have h1 := h cw hc
  have h2 : cnt n (off gl m f cw) ≠ E := hne cw hc
  omega
theorem alle_zero (n : Nat) (gl : Nat → Int) (m e : Nat) (y : Nat → Int) : alle n gl m e y 0 = gone gl m := by
  unfold alle fnd
  simp
theorem gone_ivs {gl : Nat → Int} {m n : Nat} (hG : Gn gl m n) (ho : ∀ j, m ≤ j → gl j = 0) : ivs gl m = ivals (gone gl m) := by
  rw [ivals_ivs, gone_len]
  show _ = ivs (lg (gone gl m)) m
  rw [gone_lg hG ho]
theorem alle_le {n : Nat} {gl : Nat → Int} {m e : Nat} {y : Nat → Int} {k : Nat} : (alle n gl m e y k).length ≤ m + k := by
  rw [alle_len]
  have : (fnd n gl m e y k).length ≤ k := filter_le k _
  omega
/-- A piece of a row. -/
theorem Sl.sub {w : World} {b o n c : Nat} {f : Nat → Int} (h : Sl w (some ⟨b, o, none⟩) n c f) (j l : Nat) (hj : j + l ≤ n) : Sl w (some ⟨b, o + j, none⟩) l (c - j) (fun k => if k < l then f (j + k) else 0) := by
  have hc := h.cap
  refine ⟨fun k => ?_, fun k hk => if_neg (by omega), by omega, fun e => (by cases e), ?_⟩
  · show 0 ≤ (if k < l then f (j + k) else 0) ∧ (if k < l then f (j + k) else 0) ≤ 65535
    split
    · exact h.bd _
    · exact z16
  · by_cases hl : l = 0
    · exact .inl hl
    · obtain ⟨b', o', e, hb, hcell⟩ := h.at'.resolve_left (by omega)
      cases e
      refine .inr ⟨b, o + j, rfl, hb, fun k hk => ?_⟩
      rw [Nat.add_assoc, hcell (j + k) (by omega), if_pos hk]

set_option maxRecDepth 100000 in
set_option maxHeartbeats 8000000 in
theorem rfword_any {w : World} {a ag : Option Addr} {n c m cg r : Nat} {f gl : Nat → Int} (h : Sl w a n c f) (hg : Il w ag m cg gl) (hm : m ≤ 1000) (hn0 : 0 < n) (hn : n ≤ 255) (hr : r ≤ n) (hG : Gn gl m n) :
    Calls Try.prog 11 #[.slice a n c, .int .i64 (r : Int), .slice ag m cg] w fun e w' => Below w.heap.size w w' ∧
      ((e = .returned (.tuple #[.slice none 0 0, .int .i64 54]) ∧ ∀ cw, ¬ Near n f r m gl cw) ∨ ∃ a' c' cw, e = .returned (.tuple #[.slice a' n c', .int .i64 0]) ∧ Sl w' a' n c' cw ∧ Near n f r m gl cw) := by
  have HS0 := hide (And.intro h hg)
  have HG := hide hG
  have HGO := hide hg.out
  have HF := hide h.bd
  clear h hg hG
  go_enter Try.func11, Try.ntmps11
  go_wp2_with fail
  refine (may_yes HS0.out.2 hm hn0 hn hr HG.out).mono ?_
  rintro e w1 ⟨rfl, hb1⟩
  have HB1 := hide hb1
  have HS := hide (And.intro (HS0.out.1.below hb1) (HS0.out.2.below hb1))
  have HO1 := hide (owns_nil w1 nul)
  have HBL1 := hide (bel_lit w1 (.cells #[] 29))
  have HL1 := hide (HS.out.1.alloc (.cells #[] 29))
  clear hb1
  go_wp2_with (
    refine append_sl rfl (.tmp 36) (.tmp 37) rfl w1.heap.size _ 0 nul rfl HO1.out _ n c f rfl HL1.out (by omega) (by simp) w1 HBL1.out ?_
    intro v2 w2 hown2 hb2
    rw [Nat.zero_add, cat_nil] at hown2
    obtain ⟨bo, co, hv2, hbo, hco, hw2⟩ := owns_at hown2 hn0
    subst hv2
    have HW2 := hide hw2
    have HB2 := hide hb2
    clear hown2 hb2 hw2)
  obtain ⟨Z, hZ⟩ : ∃ Z, cln gl m f = Z := ⟨_, rfl⟩
  have HZ := hide hZ
  have z16' : P16 Z := hZ ▸ cln16 HF.out
  have HZ16 := hide z16'
  clear hZ z16'
  go_loopg [10] m (fun g t wr => ∃ k : Nat, k + g = m ∧ t = .int .i64 k ∧ Wr wr bo 0 n (zat ((gone gl m).take k) f) ∧ Below w1.heap.size w1 wr)
  case atStart => exact ⟨0, by omega, rfl, HW2.out.congr (fun j hj => by unfold zat; simp), HB2.out⟩
  case round =>
    obtain ⟨k, hkg, rfl, hwk, hbk⟩ := hrel
    have HWk := hide hwk
    have HBk := hide hbk
    clear hwk hbk
    by_cases hk : k < m
    · have hk' : (k : Int) < (m : Int) := by omega
      have hkA : k < (gone gl m).length := by rw [gone_len]; exact hk
      obtain ⟨bg, og, eg, hbg, hcg⟩ := HS.out.2.at'.resolve_left (by omega)
      subst eg
      have hgn := gl_nat HG.out hk
      obtain ⟨p, hp⟩ : ∃ p, (gl k).toNat = p := ⟨_, rfl⟩
      rw [hp] at hgn
      obtain ⟨hgn1, hpn⟩ := hgn
      have x1 : wr.cell? ⟨bg, og + k, none⟩ = some (.int .i64 (p : Int)) := by
        have := c_be HBk.out hbg (hcg k hk)
        rwa [← hgn1] at this
      have x2 := HWk.out.cell p hpn
      have x3 := HWk.out.free p hpn
      rw [Nat.zero_add] at x2 x3
      have hst := fun j => zat_step hkA (f := f) j
      rw [gone_get hk, hp] at hst
      have HST := hide hst
      obtain ⟨g3, rfl⟩ : ∃ g3, gk = g3 + 1 := ⟨gk - 1, by omega⟩
      clear hcg hp hst hgn1
      go_wp2_with fail
      go_roundg g3
      case measure => omega
      case rel =>
        have h9 := HWk.out.set p hpn 0
        rw [Nat.zero_add] at h9
        exact ⟨k + 1, by omega, by go_num, h9.congr (fun j hj => HST.out j), HBk.out.trans ((Only.setCell bo p _ _).below hbo)⟩
    · have hk' : ¬ (k : Int) < (m : Int) := by omega
      obtain rfl : k = m := by omega
      obtain ⟨wo, hwo⟩ : ∃ v, v = wr := ⟨_, rfl⟩
      subst hwo
      have hz : (gone gl k).take k = gone gl k := by
        have := List.take_length (l := gone gl k)
        rwa [gone_len] at this
      rw [hz, zat_cln HG.out HGO.out, HZ.out] at HWk
      have hSz : Sl wo (some ⟨bo, 0, none⟩) n co Z := HWk.out.sl co hco HZ16.out (by
        rw [← HZ.out, ← zat_cln HG.out HGO.out]
        exact zat_out HS.out.1.out)
      have HSz := hide hSz
      clear hz hSz
      go_wp2_with fail
      refine (rfdsums_any HSz.out r (by omega) hn).mono ?_
      rintro e w4 ⟨a4, c4, rfl, h4⟩
      have H4 := hide (h4.sl.congr (sgc_vs n gl Z r))
      have HT4 := hide (HBk.out.trans (h4.bel.mono HBk.out.size))
      clear h4
      go_wp2_with fail
      go_loopg [11, 12, 13, 14, 15] k (fun g s t _ _ _ wr => ∃ (q L : Nat) (aS : Option Addr) (cS : Nat), q + g = k ∧ t = .int .i64 q ∧ s = .slice aS L cS ∧ Hid (L = r - q) ∧ L ≤ r ∧ Sl wr aS L cS (sgc n gl Z q L) ∧ Below w1.heap.size w1 wr)
      case atStart => exact ⟨0, r, a4, c4, by omega, rfl, rfl, hide rfl, Nat.le_refl _, H4.out, HT4.out⟩
      case round =>
        obtain ⟨q, L, aS, cS, hqg, rfl, rfl, HLq, hLr, hSq, hbq⟩ := hrel
        have HSq := hide hSq
        have HBq := hide hbq
        clear hSq hbq
        obtain ⟨wq, hwq⟩ : ∃ v, v = wr := ⟨_, rfl⟩
        subst hwq
        by_cases hq : q < k
        · have hq' : (q : Int) < (k : Int) := by omega
          by_cases hL0 : 0 < L
          · have hL0' : (0 : Int) < (L : Int) := by omega
            obtain ⟨bg, og, eg, hbg, hcg⟩ := HS.out.2.at'.resolve_left (by omega)
            subst eg
            have hgn := gl_nat HG.out hq
            obtain ⟨p, hp⟩ : ∃ p, (gl q).toNat = p := ⟨_, rfl⟩
            rw [hp] at hgn
            obtain ⟨hgn1, hpn⟩ := hgn
            have x1 : wq.cell? ⟨bg, og + q, none⟩ = some (.int .i64 (p : Int)) := by
              have := c_be HBq.out hbg (hcg q hq)
              rwa [← hgn1] at this
            have HP := hide hp
            have X16 := al16 (n - 1 - p)
            obtain ⟨gg, rfl⟩ : ∃ gg, gk = gg + 1 := ⟨gk - 1, by omega⟩
            clear hcg hp hgn1
            go_wp2_with fail
            refine (rfpoint_any n p _ rfl _ hpn hn).mono ?_
            rintro e w5 ⟨rfl, hw5⟩
            obtain rfl := hw5.symm
            obtain ⟨X, hX⟩ : ∃ X, xa n p = X := ⟨_, rfl⟩
            have X16' : 0 ≤ X ∧ X ≤ 65535 := hX ▸ al16 (n - 1 - p)
            have HX := hide hX
            rw [hX]
            clear hX X16
            go_wp2_with fail
            go_loopg [14, 15] (L - 1) (fun g l t wr => ∃ j : Nat, Hid (j + g = L - 1) ∧ j < L ∧ t = .int .i64 j ∧ wr.ownsRow wq.heap.size 29 1 l j (vals (sgc n gl Z (q + 1) (L - 1)) j) ∧ Below wq.heap.size wq wr)
            case atStart => exact ⟨0, hide (by omega), hL0, rfl, World.ownsRow_nil _ _ _ _, Below.refl _ _⟩
            case round =>
              obtain ⟨j, HJG, hjL, rfl, hown, hbj⟩ := hrel
              have HOj := hide hown
              have HBj := hide hbj
              clear hown hbj
              by_cases hj : j + 1 < L
              · have hj' : (j : Int) + 1 < (L : Int) := by omega
                have hj'' : (j : Int) < (L : Int) := by omega
                obtain ⟨bs, os, es, hbs, hcs⟩ := HSq.out.at'.resolve_left (by omega)
                subst es
                obtain ⟨ya, hya⟩ : ∃ y, sgc n gl Z q L (j + 1) = y := ⟨_, rfl⟩
                obtain ⟨yb, hyb⟩ : ∃ y, sgc n gl Z q L j = y := ⟨_, rfl⟩
                have y1 : wr.cell? ⟨bs, os + (j + 1), none⟩ = some (.int .u16 ya) := by
                  have := c_be HBj.out hbs (hcs (j + 1) hj)
                  rwa [hya] at this
                have y2 : wr.cell? ⟨bs, os + j, none⟩ = some (.int .u16 yb) := by
                  have := c_be HBj.out hbs (hcs j (by omega))
                  rwa [hyb] at this
                have ya16 : 0 ≤ ya ∧ ya ≤ 65535 := hya ▸ sgc16 HZ16.out q L (j + 1)
                have yb16 : 0 ≤ yb ∧ yb ≤ 65535 := hyb ▸ sgc16 HZ16.out q L j
                have hst := sgc_step (n := n) (gl := gl) (f := Z) (i := q) (L := L) (j := j) hj
                rw [hya, hyb, HP.out, HX.out] at hst
                have HST := hide hst
                obtain ⟨g3, rfl⟩ : ∃ g3, gk = g3 + 1 := ⟨gk - 1, by have := HJG.out; omega⟩
                have hwj : IntKind.i64.wrap ((j : Int) + 1) = (j : Int) + 1 := IntWalk.i64_in _ (by omega)
                have hng : ¬ (j : Int) + 1 < 0 := by omega
                have hsz := HBj.out.size
                have z1 : wq.cell? ⟨bs, os + (j + 1), none⟩ = some (.int .u16 ya) := by have := hcs (j + 1) hj; rwa [hya] at this
                have z2 : wq.cell? ⟨bs, os + j, none⟩ = some (.int .u16 yb) := by have := hcs j (by omega); rwa [hyb] at this
                have m16 : 0 ≤ gI X yb ∧ gI X yb ≤ 65535 := g16 X16'
                have hxor := xI_bits ya (gI X yb) (by omega) (by omega)
                have l7 : Sl (wr.drew.alloc (.cells #[.int .u16 (xI ya (gI X yb))] 29)) (some ⟨wr.heap.size, 0, none⟩) 1 1 (lf [xI ya (gI X yb)]) := sl_lit wr.drew [xI ya (gI X yb)] (by
                  intro z hz
                  have : z = xI ya (gI X yb) := by simpa using hz
                  rw [this]
                  exact x16 ya16 m16)
                have HL7 := hide l7
                have HB6 := hide (HBj.out.drew.alloc hsz (.cells #[.int .u16 (xI ya (gI X yb))] 29))
                clear hcs hya hyb hst l7
                go_wp2_with fail
                refine wp_region_held_drew (S := fun w' => w'.cell? ⟨bs, os + (j + 1), none⟩ = some (.int .u16 ya) ∧ w'.cell? ⟨bs, os + j, none⟩ = some (.int .u16 yb)) (by kernel_rfl) ⟨y1, y2⟩ (fun hSS => ?_)
                refine wpAnyH_take (i := 0) (oi := ⟨some 78, _, _, _, _, _⟩) (v := u14) rfl (by kernel_rfl) (by kernel_rfl) (by kernel_rfl) (fun _ _ _ h => h) (Or.inl ⟨by kernel_rfl, fun w9 h9 => by go_simp⟩) hSS ?_
                simp only [Act.put, List.setIfInBounds_toArray, List.set_cons_zero, List.set_cons_succ]
                refine wpAnyH_take (i := 1) (oi := ⟨some 79, _, _, _, _, _⟩) (v := .slice (some ⟨bs, os, none⟩) L cS) rfl (by kernel_rfl) (by kernel_rfl) (by kernel_rfl) (fun _ _ _ h => h) (Or.inl ⟨by kernel_rfl, fun w9 h9 => by go_simp⟩) hSS ?_
                simp only [Act.put, List.setIfInBounds_toArray, List.set_cons_zero, List.set_cons_succ]
                refine wpAnyH_take (i := 2) (oi := ⟨some 80, _, _, _, _, _⟩) (v := .int .i64 (j : Int)) rfl (by kernel_rfl) (by kernel_rfl) (by kernel_rfl) (fun _ _ _ h => h) (Or.inl ⟨by kernel_rfl, fun w9 h9 => by go_simp⟩) hSS ?_
                simp only [Act.put, List.setIfInBounds_toArray, List.set_cons_zero, List.set_cons_succ]
                refine wpAnyH_take (i := 3) (oi := ⟨some 81, _, _, _, _, _⟩) (v := .int .i64 ((j : Int) + 1)) rfl (by kernel_rfl) (by kernel_rfl) (by kernel_rfl) (fun _ _ _ h => h) (Or.inl ⟨by kernel_rfl, fun w9 h9 => by go_simp⟩) hSS ?_
                simp only [Act.put, List.setIfInBounds_toArray, List.set_cons_zero, List.set_cons_succ]
                refine wpAnyH_take (i := 4) (oi := ⟨some 82, _, _, _, _, _⟩) (v := .pointer (some ⟨bs, os + (j + 1), none⟩)) rfl (by kernel_rfl) (by kernel_rfl) (by kernel_rfl) (fun _ _ _ h => h) (Or.inl ⟨by kernel_rfl, fun w9 h9 => by go_simp⟩) hSS ?_
                simp only [Act.put, List.setIfInBounds_toArray, List.set_cons_zero, List.set_cons_succ]
                refine wpAnyH_take (i := 5) (oi := ⟨some 83, _, _, _, _, _⟩) (v := .int .u16 ya) rfl (by kernel_rfl) (by kernel_rfl) (by kernel_rfl) (fun _ _ _ h => h) (Or.inl ⟨by kernel_rfl, fun w9 h9 => by obtain ⟨k1, k2⟩ := h9; go_simp⟩) hSS ?_
                simp only [Act.put, List.setIfInBounds_toArray, List.set_cons_zero, List.set_cons_succ]
                refine wpAnyH_take (i := 6) (oi := ⟨some 84, _, _, _, _, _⟩) (v := .int .u16 X) rfl (by kernel_rfl) (by kernel_rfl) (by kernel_rfl) (fun _ _ _ h => h) (Or.inl ⟨by kernel_rfl, fun w9 h9 => by go_simp⟩) hSS ?_
                simp only [Act.put, List.setIfInBounds_toArray, List.set_cons_zero, List.set_cons_succ]
                refine wpAnyH_take (i := 7) (oi := ⟨some 85, _, _, _, _, _⟩) (v := .slice (some ⟨bs, os, none⟩) L cS) rfl (by kernel_rfl) (by kernel_rfl) (by kernel_rfl) (fun _ _ _ h => h) (Or.inl ⟨by kernel_rfl, fun w9 h9 => by go_simp⟩) hSS ?_
                simp only [Act.put, List.setIfInBounds_toArray, List.set_cons_zero, List.set_cons_succ]
                refine wpAnyH_take (i := 8) (oi := ⟨some 86, _, _, _, _, _⟩) (v := .int .i64 (j : Int)) rfl (by kernel_rfl) (by kernel_rfl) (by kernel_rfl) (fun _ _ _ h => h) (Or.inl ⟨by kernel_rfl, fun w9 h9 => by go_simp⟩) hSS ?_
                simp only [Act.put, List.setIfInBounds_toArray, List.set_cons_zero, List.set_cons_succ]
                refine wpAnyH_take (i := 9) (oi := ⟨some 87, _, _, _, _, _⟩) (v := .pointer (some ⟨bs, os + j, none⟩)) rfl (by kernel_rfl) (by kernel_rfl) (by kernel_rfl) (fun _ _ _ h => h) (Or.inl ⟨by kernel_rfl, fun w9 h9 => by go_simp⟩) hSS ?_
                simp only [Act.put, List.setIfInBounds_toArray, List.set_cons_zero, List.set_cons_succ]
                refine wpAnyH_take (i := 10) (oi := ⟨some 88, _, _, _, _, _⟩) (v := .int .u16 yb) rfl (by kernel_rfl) (by kernel_rfl) (by kernel_rfl) (fun _ _ _ h => h) (Or.inl ⟨by kernel_rfl, fun w9 h9 => by obtain ⟨k1, k2⟩ := h9; go_simp⟩) hSS ?_
                simp only [Act.put, List.setIfInBounds_toArray, List.set_cons_zero, List.set_cons_succ]
                refine wpAnyH_ready (rs := [11]) (by kernel_rfl) (by simp) ?_
                refine AllReadyH.cons rfl (fun K hK => ?_) AllReadyH.nil
                go_simp
                go_wp2_with fail
                refine (refMul_any _ _ _ (by omega) (by omega)).mono ?_
                rintro e w6 ⟨rfl, hw6⟩
                obtain rfl := hw6.symm
                dsimp only
                refine hK.out _ _ hSS (fun _ => ?_)
                clear hK K
                refine wpAnyH_take (i := 12) (oi := ⟨some 90, _, _, _, _, _⟩) (v := .int .u16 (xI ya (gI X yb))) rfl (by kernel_rfl) (by kernel_rfl) (by kernel_rfl) (fun _ _ _ h => h) (Or.inl ⟨by kernel_rfl, fun w9 h9 => by go_simp⟩) hSS ?_
                simp only [Act.put, List.setIfInBounds_toArray, List.set_cons_zero, List.set_cons_succ]
                refine wpAnyH_ready (rs := [13]) (by kernel_rfl) (by simp) ?_
                refine AllReadyH.cons rfl (fun K hK => ?_) AllReadyH.nil
                go_simp
                refine hK.out _ _ ⟨c_be HB6.out hbs z1, c_be HB6.out hbs z2⟩ (fun hS6 => ?_)
                clear hK K
                refine wpAnyH_ready (rs := [14]) (by kernel_rfl) (by simp) ?_
                refine AllReadyH.cons rfl (fun K hK => ?_) AllReadyH.nil
                refine (if_pos (by kernel_rfl)).mpr ?_
                refine append_op (.tmp 78) (.tmp 91) rfl wq.heap.size _ j (sgc n gl Z (q + 1) (L - 1)) rfl (HOj.out.alloc _) ⟨wr.heap.size, 0, none⟩ 1 1 (lf [xI ya (gI X yb)]) rfl HL7.out (by omega) (by simp; omega) wq HB6.out ?_
                intro v7 w7 hown7 hb7
                have HO7 := hide hown7
                have HB7 := hide hb7
                clear hown7 hb7
                refine hK.out _ _ ⟨c_be HB7.out hbs z1, c_be HB7.out hbs z2⟩ (fun hS7 => ?_)
                clear hK K
                simp only [Act.put, List.setIfInBounds_toArray]
                refine wpAnyH_take (i := 15) (oi := ⟨some 14, _, _, _, _, _⟩) (v := v7) rfl (by kernel_rfl) (by kernel_rfl) (by kernel_rfl) (fun _ _ _ h => h) (Or.inl ⟨by kernel_rfl, fun w9 h9 => by go_simp⟩) hS7 ?_
                simp only [Act.put]
                refine wpAnyH_done (by kernel_rfl) ?_ _
                go_wp2_with fail
                go_roundg g3
                case measure => omega
                case rel =>
                  refine ⟨j + 1, hide (by have := HJG.out; omega), by omega, by go_num, ?_, HB7.out⟩
                  have h9 := HO7.out
                  have e : vals (cat j (sgc n gl Z (q + 1) (L - 1)) (lf [xI ya (gI X yb)])) (j + 1) = vals (sgc n gl Z (q + 1) (L - 1)) (j + 1) := by
                    unfold vals
                    refine List.map_congr_left fun y hy => ?_
                    have hy' : y < j + 1 := by simpa using hy
                    congr 1
                    unfold cat
                    by_cases h2 : y < j
                    · rw [if_pos h2]
                    · obtain rfl : y = j := by omega
                      rw [if_neg (by omega), Nat.sub_self]
                      show xI ya (gI X yb) = if y < L - 1 then sg n gl Z (q + 1) y else 0
                      rw [if_pos (by omega), HST.out]
                  rw [e] at h9
                  exact h9
              · have hj' : ¬ (j : Int) + 1 < (L : Int) := by omega
                obtain rfl : L = j + 1 := by omega
                have hO := HOj.out
                rw [Nat.add_sub_cancel] at hO
                obtain ⟨a8, c8, rfl, h8⟩ := new_of_owns hO HBj.out (sgc16 HZ16.out (q + 1) j) (sgc_out n gl Z (q + 1) j)
                have H8 := hide h8.sl
                have HB8 := hide (HBq.out.trans (HBj.out.mono HBq.out.size))
                clear hO h8
                go_wp2_with fail
                go_roundg gg
                case measure => omega
                case rel => exact ⟨q + 1, j, a8, c8, by omega, by go_num, rfl, hide (by have := HLq.out; omega), by omega, H8.out, HB8.out⟩
          · have hL0' : ¬ (0 : Int) < (L : Int) := by omega
            have hrk : r < k := by have := HLq.out; omega
            have HRK := hide hrk
            have HT := hide (HB1.out.trans (HBq.out.mono HB1.out.size))
            go_wp2_with fail
            refine (rfmost_no _ _ _ (by omega)).mono ?_
            rintro e w5 ⟨rfl, hw5⟩
            obtain rfl := hw5.symm
            go_wp2_with fail
            refine wp_loop_rounds 1 ?_
            rw [rounds_succ]
            go_wp2_with fail
            go_ret2
            exact ⟨HT.out, .inl ⟨rfl, fun cw => lost_many HRK.out⟩⟩
        · have hq' : ¬ (q : Int) < (k : Int) := by omega
          obtain rfl : q = k := by omega
          by_cases hqr : q ≤ r
          · obtain ⟨E0, HE0, hE⟩ : ∃ E0, Hid (E0 = (r - q) / 2) ∧ 2 * E0 + q ≤ r := ⟨(r - q) / 2, hide rfl, by omega⟩
            have HLr := hide (show L + q = r by have := HLq.out; omega)
            have hEL : 2 * E0 ≤ L := by have := HLr.out; omega
            have HT := hide (HB1.out.trans (HBq.out.mono HB1.out.size))
            have HSW := hide (And.intro (HS.out.1.below HBq.out) (HS.out.2.below HBq.out))
            go_wp2_with fail
            refine (rfmost_yes r q _ hqr (by omega)).mono ?_
            rintro e w5 ⟨rfl, hw5⟩
            obtain rfl := hw5.symm
            rw [← HE0.out]
            go_wp2_with fail
            go_loopg [16, 17, 18, 19, 20, 21, 22, 23, 24, 25, 26, 27, 28] (E0 + 1) (fun g te _ _ _ _ _ _ _ _ _ _ _ _ wr => te = .int .i64 ((g : Int) - 1) ∧ g ≤ E0 + 1 ∧ Hid (∀ cw, Near n f r q gl cw → cnt n (off gl q f cw) < g) ∧ Below wq.heap.size wq wr)
            case atStart => exact ⟨congrArg (Value.int .i64) (by omega), Nat.le_refl _, hide (fun cw h => by have := h.few; have := HE0.out; omega), Below.refl _ _⟩
            case round =>
              obtain ⟨rfl, hgE, HNL, hbe⟩ := hrel
              have HBe := hide hbe
              clear hbe
              obtain ⟨we, hwe⟩ : ∃ v, v = wr := ⟨_, rfl⟩
              subst hwe
              by_cases hg0 : gk = 0
              · subst hg0
                go_wp2_with fail
                go_ret2
                exact ⟨HT.out.trans (HBe.out.mono HT.out.size), .inl ⟨rfl, fun cw h => by have := HNL.out cw h; omega⟩⟩
              · obtain ⟨E, rfl⟩ : ∃ E, gk = E + 1 := ⟨gk - 1, by omega⟩
                have hEe : (((E + 1 : Nat) : Int) - 1) = (E : Int) := by omega
                rw [hEe]
                clear hEe hg0
                have hE2 : 2 * E + q ≤ r := by omega
                obtain ⟨R, HR0, hR1, hR2⟩ : ∃ R, Hid (R + E = L) ∧ E ≤ R ∧ R ≤ 255 := ⟨L - E, hide (by omega), by omega, by omega⟩
                have hEn : E ≤ 255 := by omega
                go_wp2_with fail
                go_loopg [17, 18] R (fun g l t wr => ∃ (j : Nat) (bl cp : Nat → Nat) (M : Nat → Nat → Int), j + g = R ∧ t = .int .i64 j ∧ Rws we.heap.size wr l j (E + 1) bl cp M ∧ (∀ i, i < j → M i = fun k => if k < E + 1 then sgc n gl Z q L (i + k) else 0) ∧ Below we.heap.size we wr)
                case atStart => exact ⟨0, fun _ => 0, fun _ => 0, fun _ => nul, by omega, rfl, Rws.nil _ _ _ _ _ _, fun i hi => by omega, Below.refl _ _⟩
                case round =>
                  obtain ⟨j, bl, cp, M, hjg, rfl, hrw, hMe, hbj⟩ := hrel
                  have HR := hide hrw
                  have HMe := hide hMe
                  have HBj := hide hbj
                  clear hrw hMe hbj
                  obtain ⟨wj, hwj⟩ : ∃ v, v = wr := ⟨_, rfl⟩
                  subst hwj
                  by_cases hj : j < R
                  · have hj' : (j : Int) + (E : Int) < (L : Int) := by have := HR0.out; omega
                    have hSj := (HSq.out.below HBe.out).below HBj.out
                    obtain ⟨bs, os, es, hbs, hcs⟩ := hSj.at'.resolve_left (by omega)
                    subst es
                    have hcp := hSj.cap
                    have hsub := hSj.sub j (E + 1) (by have := HR0.out; omega)
                    have HL := hide (hsub.alloc (.cells #[] 29))
                    have HO := hide (owns_nil wj nul)
                    have HBL := hide (bel_lit wj (.cells #[] 29))
                    have k1 : ¬ (j : Int) + (E : Int) + 1 < 0 := by omega
                    have k2 : (j : Int) + (E : Int) + 1 ≤ (cS : Int) := by omega
                    have k3 : (j : Int) ≤ (j : Int) + (E : Int) + 1 := by omega
                    obtain ⟨g3, rfl⟩ : ∃ g3, gk = g3 + 1 := ⟨gk - 1, by omega⟩
                    have k4 : j + E + 1 - j = E + 1 := by omega
                    have hszj := HBj.out.size
                    clear hSj hcs hsub hcp
                    go_wp2_with (first
                      | (refine append_sl rfl (.tmp 111) (.tmp 118) rfl wj.heap.size _ 0 nul rfl HO.out (some ⟨bs, os + j, none⟩) (E + 1) (cS - j) (fun k => if k < E + 1 then sgc n gl Z q L (j + k) else 0) (by first | rfl | (show Value.slice _ (j + E + 1 - j) _ = _; rw [k4])) HL.out (by omega) (by simp) wj HBL.out ?_
                         intro v7 w7 hown7 hb7
                         rw [Nat.zero_add, cat_nil] at hown7
                         obtain ⟨gb, gc, hv7, hgb, hgc, hgw⟩ := owns_at hown7 (by omega)
                         subst hv7
                         have HO7 := hide (owns_mono hown7 HBj.out.size)
                         have HB7 := hide hb7
                         have hs7 := hb7.size
                         have HR7 := hide (HR.out.below hb7)
                         have hfr : ∀ i, i < j → bl i ≠ gb := fun i hi e => by
                           have := ((HR.out.row i hi).lt (bl i) rfl).2
                           omega
                         have HFR := hide hfr
                         clear hown7 hb7 hgw hfr)
                      | (refine append_row rfl (.tmp 110) (.tmp 120) rfl we.heap.size _ j (E + 1) gb gc bl cp M (fun k => if k < E + 1 then sgc n gl Z q L (j + k) else 0) rfl (HR7.out.below (bel_lit w7 _)) ⟨w7.heap.size, 0, none⟩ rfl (new_cell w7 _ _ 0 _ rfl) (HO7.out.alloc _) HFR.out (by omega) (by omega) (by simp; omega) we ((HBj.out.trans (HB7.out.mono HBj.out.size)).alloc (by omega) _) ?_
                         intro v8 w8 bl8 cp8 M8 hR8 hM8 hM8' hb8
                         have HR8 := hide hR8
                         have HM8 := hide (And.intro hM8 hM8')
                         have HB8 := hide hb8
                         clear hR8 hM8 hM8' hb8))
                    go_roundg g3
                    case measure => omega
                    case rel =>
                      refine ⟨j + 1, bl8, cp8, M8, by omega, by go_num, HR8.out, fun i hi => ?_, HB8.out⟩
                      by_cases e : i = j
                      · rw [e]; exact HM8.out.2
                      · rw [HM8.out.1 i (by omega)]; exact HMe.out i (by omega)
                  · have hj' : ¬ (j : Int) + (E : Int) < (L : Int) := by have := HR0.out; omega
                    obtain rfl : j = R := by omega
                    have hM16 : ∀ i, P16 (fun k => if k < E + 1 then sgc n gl Z q L (i + k) else 0) := fun i k => by
                      show 0 ≤ (if k < E + 1 then sgc n gl Z q L (i + k) else 0) ∧ (if k < E + 1 then sgc n gl Z q L (i + k) else 0) ≤ 65535
                      split
                      · exact sgc16 HZ16.out _ _ _
                      · exact z16
                    have cSv := solve_rws (HR.out.congr HMe.out) hR2 hEn (by omega) hM16 HBj.out.size
                    have HCS := hide cSv
                    have hUQ : ∀ cw, Near n f r q gl cw → cnt n (off gl q f cw) = E → Uq (fun i k => if k < E + 1 then sgc n gl Z q L (i + k) else 0) j E (lam n gl q f cw) := fun cw hcw hce => by
                      have hx1 := HR0.out
                      have hx2 := HLr.out
                      have h1 := pet_uq' (M := fun i k => if k < E + 1 then sgc n gl Z q L (i + k) else 0) HF.out hn HG.out hcw (fun i hi k hk => by
                        rw [hce] at hi hk
                        show _ = if k < E + 1 then sgc n gl Z q L (i + k) else 0
                        rw [if_pos (by omega), HZ.out]
                        unfold sgc
                        rw [if_pos (by omega)])
                      rw [hce, show r - q - E = j from by omega] at h1
                      exact h1
                    have HUQ := hide hUQ
                    clear cSv hUQ hM16
                    go_wp2_with fail
                    refine HCS.out.mono ?_
                    rintro e w5 ⟨hb5, hr5⟩
                    have HB5 := hide (HBe.out.trans ((HBj.out.trans hb5).mono HBe.out.size))
                    clear hb5
                    rcases hr5 with ⟨rfl, hno⟩ | ⟨a5, c5, y, rfl, h5, hnb, hy⟩
                    · have HNO := hide hno
                      clear hno
                      go_wp2_with fail
                      go_roundg E
                      case measure => omega
                      case rel => exact ⟨rfl, by omega, hide (pet_less HNL.out (fun cw hcw hce => HNO.out _ (HUQ.out cw hcw hce))), HB5.out⟩
                    · have HY := hide (fun cw hcw hce => hy _ (HUQ.out cw hcw hce))
                      have H5 := hide h5
                      have y16 : P16 y := h5.bd
                      have HY16 := hide y16
                      have HOI := hide (owns_nilI w5 nul)
                      have HBI := hide (bel_lit w5 (.cells #[] 3))
                      have HGI := hide ((HSW.out.2.below HB5.out).alloc (.cells #[] 3))
                      clear hy h5 hnb y16
                      go_wp2_with (
                        refine append_il rfl (.tmp 130) (.tmp 131) rfl w5.heap.size _ 0 nul rfl HOI.out _ q cg gl rfl HGI.out (by omega) (by simp) w5 HBI.out ?_
                        intro v6 w6 hown6 hb6
                        rw [Nat.zero_add, cat_nil, gone_ivs HG.out HGO.out] at hown6
                        have HO6 := hide hown6
                        have HB6 := hide hb6
                        clear hown6 hb6)
                      go_loopg [21, 22, 23, 24, 25, 26, 27] n (fun g l t _ _ _ _ _ wr => ∃ i : Nat, i + g = n ∧ t = .int .i64 i ∧ wr.ownsRow w5.heap.size 3 1 l (alle n gl q E y i).length (ivals (alle n gl q E y i)) ∧ Below w5.heap.size w5 wr)
                      case atStart =>
                        refine ⟨0, by omega, rfl, ?_, HB6.out⟩
                        rw [alle_zero, gone_len]
                        exact HO6.out
                      case round =>
                        obtain ⟨i, hig, rfl, hown, hbi⟩ := hrel
                        have hok := alle_ok (e := E) (y := y) HG.out HGO.out i (by omega)
                        have hAl := alle_le (n := n) (gl := gl) (m := q) (e := E) (y := y) (k := i)
                        obtain ⟨A, hA⟩ : ∃ A, alle n gl q E y i = A := ⟨_, rfl⟩
                        rw [hA] at hown hok hAl
                        obtain ⟨a21, c21, rfl, hI⟩ := il_lst hown (fun i hi => by have := hok.2 i hi; omega)
                        have HOA := hide hown
                        have HBi := hide hbi
                        have HI := hide hI
                        have HA := hide hA
                        have HOK := hide hok
                        clear hown hbi hI hA hok
                        obtain ⟨wi, hwi⟩ : ∃ v, v = wr := ⟨_, rfl⟩
                        subst hwi
                        by_cases hi : i < n
                        · have hi' : (i : Int) < (n : Int) := by omega
                          obtain ⟨g3, rfl⟩ : ∃ g3, gk = g3 + 1 := ⟨gk - 1, by omega⟩
                          go_wp2_with fail
                          refine (rfpoint_any n i _ rfl _ hi hn).mono ?_
                          rintro e w7 ⟨rfl, hw7⟩
                          obtain rfl := hw7.symm
                          have hfz : fz n gl q E y i = (decide (hnr (xa n i) (mon E y) E E = 0) && !gon gl q i) := rfl
                          obtain ⟨X, hX⟩ : ∃ X, xa n i = X := ⟨_, rfl⟩
                          have X16' : 0 ≤ X ∧ X ≤ 65535 := hX ▸ al16 (n - 1 - i)
                          rw [hX] at hfz ⊢
                          have HFZ := hide hfz
                          clear hX hfz
                          go_wp2_with fail
                          go_loopg [24, 25] E (fun g v t wx => ∃ s : Nat, s + g = E ∧ t = .int .i64 ((g : Int) - 1) ∧ v = .int .u16 (hnr X (mon E y) E s) ∧ wx.ownsRow w5.heap.size 3 1 (.slice a21 A.length c21) A.length (ivals A) ∧ Below w5.heap.size w5 wx)
                          case atStart =>
                            refine ⟨0, by omega, rfl, ?_, HOA.out, HBi.out⟩
                            show _ = Value.int .u16 (mon E y E)
                            unfold mon
                            rw [if_neg (Nat.lt_irrefl _), if_pos rfl]
                          case round =>
                            obtain ⟨s, hsg, rfl, rfl, hox, hbx⟩ := hrel
                            have HOx := hide hox
                            have HBx := hide hbx
                            clear hox hbx
                            have v16 := hnr16 (x := X) (mon16 (e := E) HY16.out) E s
                            by_cases hg0 : gk = 0
                            · subst hg0
                              obtain rfl : s = E := by omega
                              obtain ⟨V, hV⟩ : ∃ V, hnr X (mon s y) s s = V := ⟨_, rfl⟩
                              rw [hV] at HFZ v16 ⊢
                              clear hV
                              have HGx := hide (HSW.out.2.below (HB5.out.trans (HBx.out.mono HB5.out.size)))
                              obtain ⟨wx, hwx⟩ : ∃ v, v = wr := ⟨_, rfl⟩
                              subst hwx
                              go_wp2_with fail
                              go_loopg [26, 27] q (fun g b t wz => ∃ j : Nat, j + g = q ∧ t = .int .i64 j ∧ b = .bool (gon gl j i) ∧ wz = wx)
                              case atStart => exact ⟨0, by omega, rfl, rfl, rfl⟩
                              case round =>
                                obtain ⟨j, hjg, rfl, rfl, hwz⟩ := hrel
                                obtain rfl := hwz.symm
                                obtain ⟨bb, hbb⟩ : ∃ bb, gon gl j i = bb := ⟨_, rfl⟩
                                by_cases hj : j < q
                                · have hj' : (j : Int) < (q : Int) := by omega
                                  obtain ⟨by', oy, ey, hby, hcy⟩ := HGx.out.at'.resolve_left (by omega)
                                  subst ey
                                  have y1 := hcy j hj
                                  have hsu := gon_succ gl j i
                                  obtain ⟨g4, rfl⟩ : ∃ g4, gk = g4 + 1 := ⟨gk - 1, by omega⟩
                                  rw [hbb] at hsu ⊢
                                  have HSU := hide hsu
                                  clear hcy hsu hbb
                                  cases bb with
                                  | true =>
                                    go_wp2_with fail
                                    go_roundg g4
                                    case measure => omega
                                    case rel => exact ⟨j + 1, by omega, by go_num, by rw [HSU.out]; rfl, rfl⟩
                                  | false =>
                                    by_cases heq : gl j = (i : Int)
                                    · have hq2 : (gl j == (i : Int)) = true := beq_yes heq
                                      have HQ := hide hq2
                                      rw [heq] at y1
                                      clear heq hq2
                                      go_wp2_with fail
                                      go_roundg g4
                                      case measure => omega
                                      case rel => exact ⟨j + 1, by omega, by go_num, by rw [HSU.out, HQ.out]; rfl, rfl⟩
                                    · have hq2 : (gl j == (i : Int)) = false := beq_no heq
                                      have HQ := hide hq2
                                      clear heq
                                      go_wp2_with fail
                                      go_roundg g4
                                      case measure => omega
                                      case rel => exact ⟨j + 1, by omega, by go_num, by rw [HSU.out, HQ.out]; rfl, rfl⟩
                                · have hj' : ¬ (j : Int) < (q : Int) := by omega
                                  obtain rfl : j = q := by omega
                                  have hsu := alle_succ n gl j s y i
                                  rw [HFZ.out, HA.out] at hsu
                                  rw [hbb] at hsu ⊢
                                  clear hbb
                                  by_cases hv0 : V = 0
                                  · have hv1 : (V == 0) = true := beq_yes hv0
                                    rw [decide_eq_true hv0, Bool.true_and] at hsu
                                    subst hv0
                                    cases bb with
                                    | true =>
                                      have HSU := hide hsu
                                      clear hsu
                                      go_wp2_with fail
                                      go_roundg g3
                                      case measure => omega
                                      case rel => exact ⟨i + 1, by omega, by go_num, by rw [HSU.out]; exact HOx.out, HBx.out⟩
                                    | false =>
                                      have HSU := hide hsu
                                      have hszx := HBx.out.size
                                      have HLi := hide (il_lit wx [(i : Int)] (by
                                        intro z hz
                                        have : z = (i : Int) := by simpa using hz
                                        rw [this]
                                        unfold I64
                                        omega))
                                      have hown7 := HOx.out
                                      rw [ivals_ivs] at hown7
                                      have HO7 := hide hown7
                                      have HB7 := hide (HBx.out.alloc hszx (.cells #[.int .i64 (i : Int)] 3))
                                      clear hsu hown7
                                      go_wp2_with (
                                        refine append_il rfl (.tmp 176) (.tmp 178) rfl w5.heap.size _ A.length (fun j => ((A.getD j 0 : Nat) : Int)) rfl (HO7.out.alloc _) (some ⟨wx.heap.size, 0, none⟩) 1 1 (lf [(i : Int)]) rfl HLi.out (by omega) (by simp; omega) w5 HB7.out ?_
                                        intro v8 w8 hown8 hb8
                                        have HO8 := hide hown8
                                        have HB8 := hide hb8
                                        clear hown8 hb8)
                                      go_roundg g3
                                      case measure => omega
                                      case rel =>
                                        refine ⟨i + 1, by omega, by go_num, ?_, HB8.out⟩
                                        have h9 := HO8.out
                                        have e1 : alle n gl j s y (i + 1) = A ++ [i] := HSU.out
                                        rw [e1, ivals_ivs, List.length_append]
                                        have e2 : ivs (cat A.length (fun j => ((A.getD j 0 : Nat) : Int)) (lf [(i : Int)])) (A.length + 1) = ivs (fun j => (((A ++ [i]).getD j 0 : Nat) : Int)) (A.length + 1) := by
                                          unfold ivs
                                          refine List.map_congr_left fun z hz => ?_
                                          have hz' : z < A.length + 1 := by simpa using hz
                                          congr 1
                                          show (if z < A.length then ((A.getD z 0 : Nat) : Int) else lf [(i : Int)] (z - A.length)) = (((A ++ [i]).getD z 0 : Nat) : Int)
                                          rw [List.getD_eq_getElem?_getD, List.getD_eq_getElem?_getD]
                                          by_cases h2 : z < A.length
                                          · rw [if_pos h2, List.getElem?_append_left h2]
                                          · obtain rfl : z = A.length := by omega
                                            rw [if_neg (by omega), Nat.sub_self, List.getElem?_append_right (Nat.le_refl _), Nat.sub_self]
                                            rfl
                                        rw [e2] at h9
                                        exact h9
                                  · have hv1 : (V == 0) = false := beq_no hv0
                                    rw [decide_eq_false hv0, Bool.false_and] at hsu
                                    have HSU := hide hsu
                                    clear hsu hv0
                                    go_wp2_with fail
                                    go_roundg g3
                                    case measure => omega
                                    case rel => exact ⟨i + 1, by omega, by go_num, by rw [HSU.out]; exact HOx.out, HBx.out⟩
                            · obtain ⟨d, rfl⟩ : ∃ d, gk = d + 1 := ⟨gk - 1, by omega⟩
                              have hde : (((d + 1 : Nat) : Int) - 1) = (d : Int) := by omega
                              rw [hde]
                              have hdE : d < E := by omega
                              obtain ⟨b5, o5, e5, hb5, hc5⟩ := H5.out.at'.resolve_left (by omega)
                              subst e5
                              have x1 := c_be HBx.out hb5 (hc5 d hdE)
                              have yd16 := HY16.out d
                              have m16 : 0 ≤ gI (hnr X (mon E y) E s) X ∧ gI (hnr X (mon E y) E s) X ≤ 65535 := g16 v16
                              have hxor := xI_bits (gI (hnr X (mon E y) E s) X) (y d) (by omega) (by omega)
                              have hnx : hnr X (mon E y) E (s + 1) = xI (gI (hnr X (mon E y) E s) X) (y d) := by
                                show xI (gI (hnr X (mon E y) E s) X) (mon E y (E - 1 - s)) = _
                                rw [show E - 1 - s = d from by omega]
                                unfold mon
                                rw [if_pos hdE]
                              have HXR := hide hxor
                              have HNX := hide hnx
                              clear hc5 hxor hnx hde hg0
                              go_wp2_with fail
                              go_quiet ((go_at_call 27; exact Calls.quiet_of_same (refMul_any _ _ _ (by omega) (by omega))))
                              go_wp2_with fail
                              go_roundg d
                              case measure => omega
                              case rel => exact ⟨s + 1, by omega, rfl, by rw [HNX.out, HXR.out], HOx.out, below_drewN HBx.out nq⟩
                        · have hi' : ¬ (i : Int) < (n : Int) := by omega
                          obtain rfl : i = n := by omega
                          have hpf : ∀ cw, Near i f r q gl cw → cnt i (off gl q f cw) = E → A.length = q + E ∧ Er i f r A cw := fun cw hcw hce => by
                            have h1 := pet_found HF.out hn HG.out HGO.out hcw (y := y) (fun k hk => HY.out cw hcw hce k (by omega))
                            rw [hce, HA.out] at h1
                            exact h1
                          have HPF := hide hpf
                          have HBt := hide (HB5.out.trans (HBi.out.mono HB5.out.size))
                          clear hpf
                          by_cases hlen : q + E < A.length
                          · have hlen' : (q : Int) + (E : Int) < (A.length : Int) := by omega
                            go_wp2_with fail
                            go_roundg E
                            case measure => omega
                            case rel => exact ⟨rfl, by omega, hide (pet_less HNL.out (fun cw hcw hce => by have := (HPF.out cw hcw hce).1; omega)), HBt.out⟩
                          · have hlen' : ¬ (q : Int) + (E : Int) < (A.length : Int) := by omega
                            have cEr := erased_any (HSW.out.1.below HBt.out) HI.out hn0 hn hr HOK.out.1 HOK.out.2 (by omega)
                            have HCE := hide cEr
                            clear cEr
                            go_wp2_with fail
                            refine HCE.out.mono ?_
                            rintro e w7 ⟨hb7, hr7⟩
                            have HB7 := hide (HBt.out.trans (hb7.mono HBt.out.size))
                            clear hb7
                            rcases hr7 with ⟨rfl, hno⟩ | ⟨a7, c7, rfl, F, h7, hsame, huq⟩
                            · have HNO := hide hno
                              clear hno
                              go_wp2_with fail
                              go_roundg E
                              case measure => omega
                              case rel => exact ⟨rfl, by omega, hide (pet_less HNL.out (fun cw hcw hce => HNO.out cw (HPF.out cw hcw hce).2)), HB7.out⟩
                            · have H7 := hide h7
                              have HSM := hide hsame
                              have HUF := hide huq
                              clear h7 hsame huq
                              by_cases hRt : Rt i F r
                              · have HRt := hide hRt
                                clear hRt
                                go_wp2_with fail
                                refine (rfright_yes H7.out r hr hn HRt.out).mono ?_
                                rintro e w8 ⟨rfl, hb8⟩
                                have HB8 := hide hb8
                                clear hb8
                                go_wp2_with fail
                                go_ret2
                                refine ⟨HT.out.trans ((HB7.out.trans (HB8.out.mono HB7.out.size)).mono HT.out.size), .inr ⟨a7, c7, F, rfl, H7.out.below HB8.out, pet_near (e := E) (y := y) HF.out HG.out HGO.out H7.out.bd H7.out.out HRt.out hE2 (by rw [HA.out]; omega) (fun p hp hnp => HSM.out p hp (by rw [HA.out] at hnp; exact hnp))⟩⟩
                              · have HRt := hide hRt
                                clear hRt
                                go_wp2_with fail
                                refine (rfright_no H7.out r hr hn HRt.out).mono ?_
                                rintro e w8 ⟨rfl, hb8⟩
                                have HB8 := hide hb8
                                clear hb8
                                go_wp2_with fail
                                go_roundg E
                                case measure => omega
                                case rel => exact ⟨rfl, by omega, hide (pet_less HNL.out (fun cw hcw hce => HRt.out (by rw [HUF.out cw (HPF.out cw hcw hce).2]; exact hcw.rt))), HB7.out.trans (HB8.out.mono HB7.out.size)⟩
          · have HT := hide (HB1.out.trans (HBq.out.mono HB1.out.size))
            go_wp2_with fail
            refine (rfmost_no _ _ _ (by omega)).mono ?_
            rintro e w5 ⟨rfl, hw5⟩
            obtain rfl := hw5.symm
            go_wp2_with fail
            refine wp_loop_rounds 1 ?_
            rw [rounds_succ]
            go_wp2_with fail
            go_ret2
            exact ⟨HT.out, .inl ⟨rfl, fun cw => lost_many (by omega)⟩⟩

end Go.Proofs.Ytdbdidohldhnhaa
