/- For any two slices of numbers of 16 bits, any two slices of ints and any integer the statement DecodeMakes returns true and its arguments read as before. No condition. -/
import Derived.Test.YtdbdidohldhnhaaPlaces
namespace Go.Proofs.Ytdbdidohldhnhaa
open Go.ChangeShapes Go.WideShapes Go.ChangeAt Go.RowKit Gf
open Go.ChangeMaps (open_string shut_string)
set_option linter.unusedVariables false

/-- A list of places as a row of ints. -/
def lg (L : List Nat) : Nat → Int := fun j => ((L.getD j 0 : Nat) : Int)
theorem lg_mem {L : List Nat} {i : Nat} : gon (lg L) L.length i = true ↔ i ∈ L := by
  rw [gon_iff]
  unfold lg
  constructor
  · rintro ⟨k, hk, e⟩
    rw [List.getD_eq_getElem?_getD, List.getElem?_eq_getElem hk] at e
    have e' : ((L[k] : Nat) : Int) = (i : Int) := by simpa using e
    have : L[k] = i := by omega
    rw [← this]
    exact List.getElem_mem hk
  · intro h
    obtain ⟨k, hk, e⟩ := List.mem_iff_getElem.1 h
    exact ⟨k, hk, by rw [List.getD_eq_getElem?_getD, List.getElem?_eq_getElem hk]; show ((L[k] : Nat) : Int) = (i : Int); rw [e]⟩
theorem lg_gn {L : List Nat} {n : Nat} (hd : L.Nodup) (hl : ∀ i ∈ L, i < n) : Gn (lg L) L.length n := by
  refine ⟨fun k hk => ?_, fun i j hi hj e => ?_⟩
  · unfold lg
    have := hl (L.getD k 0) (by rw [List.getD_eq_getElem?_getD, List.getElem?_eq_getElem hk]; exact List.getElem_mem hk)
    omega
  · unfold lg at e
    rw [List.getD_eq_getElem?_getD, List.getElem?_eq_getElem hi, List.getD_eq_getElem?_getD, List.getElem?_eq_getElem hj] at e
    have e' : ((L[i] : Nat) : Int) = ((L[j] : Nat) : Int) := by simpa using e
    exact (List.getElem_inj hd).1 (by omega)
theorem cnt_list {n : Nat} {d : Nat → Int} {T : List Nat} (h : ∀ i, i < n → d i ≠ 0 → i ∈ T) : cnt n d ≤ T.length := by
  have h1 := cnt_three (n := n) (d := d) (a := fun _ => 0) (b := fun _ => 0) (p := gon (lg T) T.length) (fun i hi hp _ _ => by
    refine Classical.byContradiction fun hne => ?_
    have := lg_mem.2 (h i hi hne)
    rw [hp] at this
    cases this)
  have h2 := cb_gon (lg T) T.length n
  have h0 := cnt_none (n := n) (d := fun _ => (0 : Int)) (fun _ _ => rfl)
  rw [h0] at h1
  omega
/-- A right word that was spoilt at few places is near enough. -/
theorem near_spoilt {n r : Nat} {W F : Nat → Int} {G T : List Nat} (hW : P16 W) (hF : P16 F) (ho : ∀ j, n ≤ j → W j = 0) (hR : Rt n W r) (hG : G.length ≤ r) (hT : T.length ≤ (r - G.length) / 2) (h : ∀ j, j < n → j ∉ G ++ T → F j = W j) : Near n F r G.length (lg G) W := by
  refine ⟨hW, ho, hR, ?_⟩
  have := cnt_list (n := n) (d := off (lg G) G.length F W) (T := T) (fun i hi hne => by
    refine Classical.byContradiction fun hnt => hne ?_
    unfold off
    split
    · rfl
    · rename_i hg
      rw [h i hi (fun hm => (List.mem_append.1 hm).elim (fun h1 => hg (lg_mem.2 h1)) hnt), f7])
  omega

set_option maxRecDepth 100000 in
set_option maxHeartbeats 4000000 in
theorem decodeMakes_any {w : World} {a0 a1 a2 a3 : Option Addr} {n0 c0 n1 c1 n2 c2 n3 c3 : Nat} {p0 gl wl p3 : Nat → Int} {r : Int} (h0 : Sl w a0 n0 c0 p0) (m0 : n0 ≤ maxLen) (br : -9223372036854775808 ≤ r ∧ r ≤ 9223372036854775807) (h1 : Il w a1 n1 c1 gl) (m1 : n1 ≤ maxLen) (h2 : Il w a2 n2 c2 wl) (m2 : n2 ≤ maxLen) (h3 : Sl w a3 n3 c3 p3) (m3 : n3 ≤ maxLen) :
    Calls Try.prog 5 #[.slice a0 n0 c0, .int .i64 r, .slice a1 n1 c1, .slice a2 n2 c2, .slice a3 n3 c3] w fun e w' => e = .returned (.bool true) ∧ Below w.heap.size w w' := by
  unfold maxLen at m0 m1 m2 m3
  by_cases g0 : (60 : Int) < (n0 : Int)
  · go_enter Try.func5, Try.ntmps5
    go_wp2_with fail
    refine (dawake_any _).mono ?_
    rintro e w1 ⟨rfl, hB⟩
    go_wp2
    go_ret
    exact ⟨rfl, hB⟩
  by_cases g1 : r < 0
  · go_enter Try.func5, Try.ntmps5
    go_wp2_with fail
    refine (dawake_any _).mono ?_
    rintro e w1 ⟨rfl, hB⟩
    go_wp2
    go_ret
    exact ⟨rfl, hB⟩
  by_cases g2 : 40 < r
  · go_enter Try.func5, Try.ntmps5
    go_wp2_with fail
    refine (dawake_any _).mono ?_
    rintro e w1 ⟨rfl, hB⟩
    go_wp2
    go_ret
    exact ⟨rfl, hB⟩
  by_cases g3 : (100 : Int) < (n1 : Int)
  · go_enter Try.func5, Try.ntmps5
    go_wp2_with fail
    refine (dawake_any _).mono ?_
    rintro e w1 ⟨rfl, hB⟩
    go_wp2
    go_ret
    exact ⟨rfl, hB⟩
  by_cases g4 : (100 : Int) < (n2 : Int)
  · go_enter Try.func5, Try.ntmps5
    go_wp2_with fail
    refine (dawake_any _).mono ?_
    rintro e w1 ⟨rfl, hB⟩
    go_wp2
    go_ret
    exact ⟨rfl, hB⟩
  by_cases g5 : (100 : Int) < (n3 : Int)
  · go_enter Try.func5, Try.ntmps5
    go_wp2_with fail
    refine (dawake_any _).mono ?_
    rintro e w1 ⟨rfl, hB⟩
    go_wp2
    go_ret
    exact ⟨rfl, hB⟩
  obtain ⟨R, rfl⟩ := Int.eq_ofNat_of_zero_le (show 0 ≤ r by omega)
  have HS := hide (And.intro h0 (And.intro h1 (And.intro h2 h3)))
  clear h0 h1 h2 h3
  go_enter Try.func5, Try.ntmps5
  go_wp2_with fail
  refine (dawake_any _).mono ?_
  rintro e w1 ⟨rfl, b1⟩
  have HB1 := hide b1
  clear b1
  go_wp2_with fail
  refine (check_any (HS.out.1.below HB1.out) R (by omega)).mono ?_
  rintro e w2 ⟨a4, c4, ck, rfl, h4, hk⟩
  have HK := hide hk
  have HB2 := hide (HB1.out.trans (h4.bel.mono HB1.out.size))
  have HC2 := hide h4.sl
  have HO2 := hide (owns_nil w2 nul)
  have HBL2 := hide (bel_lit w2 (.cells #[] 29))
  have HL2 := hide ((HS.out.1.below HB2.out).alloc (.cells #[] 29))
  clear h4 hk
  by_cases hz : n0 + R = 0
  · have hz' : ((n0 : Int) + (R : Int) == 0) = true := beq_yes (by omega)
    go_wp2_with fail
    go_ret
    exact ⟨rfl, HB2.out⟩
  have hz' : ((n0 : Int) + (R : Int) == 0) = false := beq_no (by omega)
  go_wp2_with (first
    | (refine append_sl rfl (.tmp 66) (.tmp 67) rfl w2.heap.size _ 0 nul rfl HO2.out _ n0 c0 p0 rfl HL2.out (by omega) (by simp) w2 HBL2.out ?_
       intro v3 w3 hown3 hb3
       rw [Nat.zero_add, cat_nil] at hown3
       have HO3 := hide hown3
       have HB3 := hide hb3
       clear hown3 hb3)
    | (refine append_sl rfl (.tmp 68) (.tmp 69) rfl w2.heap.size _ n0 p0 rfl HO3.out _ R c4 ck rfl (HC2.out.below HB3.out) (by omega) HB3.out.size w2 HB3.out ?_
       intro v4 w4 hown4 hb4
       obtain ⟨a5, c5, hv4, h5⟩ := new_of_owns hown4 hb4 (cat16 HS.out.1.bd HK.out.bd) (cat_out HK.out.out)
       subst hv4
       obtain ⟨W, hW⟩ : ∃ W, cat n0 p0 ck = W := ⟨_, rfl⟩
       obtain ⟨N, hN⟩ : ∃ N, n0 + R = N := ⟨_, rfl⟩
       have hR : Rt N W R := by rw [← hW, ← hN]; exact HK.out.rt
       rw [hW, hN] at h5
       have hN0 : 0 < N := by omega
       have hN1 : N ≤ 100 := by omega
       have hRN : R ≤ N := by omega
       have hNI : (n0 : Int) + (R : Int) = (N : Int) := by omega
       have HR := hide hR
       have HN5 := hide h5
       have HB4 := hide (HB2.out.trans (h5.bel.mono HB2.out.size))
       rw [hN]
       clear hown4 hb4 h5 hW hR hN))
  refine (places_any (HS.out.2.1.below HB4.out) (by omega) hN0 (by omega) (by omega)).mono ?_
  rintro e w5 ⟨v5, rfl, hown5, b5⟩
  have hok := pls_ok (most := R) hN0 (by omega : N ≤ 1000) gl n1
  have hlen := pls_len N R gl n1
  obtain ⟨G, hG⟩ : ∃ G, pls N R gl n1 = G := ⟨_, rfl⟩
  rw [hG] at hown5 hok hlen
  obtain ⟨a6, c6, rfl, hI6⟩ := il_lst hown5 (fun i hi => by have := hok.2 i hi; omega)
  have HOK := hide hok
  have HB5 := hide b5
  have HI6 : Hid (Il w5 a6 G.length c6 (lg G)) := hide hI6
  have HT5 := hide (HB4.out.trans (b5.mono HB4.out.size))
  obtain ⟨M, hM⟩ : ∃ M, G.length = M := ⟨_, rfl⟩
  rw [hM] at HI6 hlen ⊢
  have HGM := hide hM
  have hMR : M ≤ R := hlen.1
  clear hown5 hok hI6 b5 hM hlen hG
  have HO6 := hide (owns_nilI w5 nul)
  have HBL6 := hide (bel_lit w5 (.cells #[] 3))
  have HL6 := hide (HI6.out.alloc (.cells #[] 3))
  go_wp2_with (first
    | (refine append_il rfl (.tmp 77) (.tmp 78) rfl w5.heap.size _ 0 nul rfl HO6.out _ M c6 (lg G) rfl HL6.out (by omega) (by simp) w5 HBL6.out ?_
       intro v7 w7 hown7 hb7
       rw [Nat.zero_add, cat_nil] at hown7
       have HO7 := hide hown7
       have HB7 := hide hb7
       clear hown7 hb7)
    | (refine append_il rfl (.tmp 79) (.tmp 80) rfl w5.heap.size _ M (lg G) rfl HO7.out _ n2 c2 wl rfl ((HS.out.2.2.1.below HT5.out).below HB7.out) (by omega) HB7.out.size w5 HB7.out ?_
       intro v8 w8 hown8 hb8
       obtain ⟨a8, c8, hv8, hI8⟩ := il_owned hown8 (fun j => by
         unfold cat
         split
         · exact HI6.out.bd j
         · exact HS.out.2.2.1.bd _) (cat_out HS.out.2.2.1.out)
       subst hv8
       have HI8 := hide hI8
       have HB8 := hide hb8
       clear hown8 hb8 hI8))
  obtain ⟨t, ht⟩ : ∃ t, (R - M) / 2 = t := ⟨_, rfl⟩
  have hIt : (M : Int) + ((R : Int) - (M : Int)) / 2 = ((M + t : Nat) : Int) := by omega
  have HTt := hide ht
  have htR : t ≤ R := by omega
  rw [hIt]
  clear hIt ht
  refine (places_any HI8.out (by omega) hN0 (by omega) (by omega)).mono ?_
  rintro e w9 ⟨v9, rfl, hown9, b9⟩
  have hok9 := pls_ok (most := M + t) hN0 (by omega : N ≤ 1000) (cat M (lg G) wl) (M + n2)
  have hlen9 := pls_len N (M + t) (cat M (lg G) wl) (M + n2)
  have hself : pls N (M + t) (cat M (lg G) wl) M = G := by
    have := HGM.out
    have h1 := pls_self (n := N) (most := M + t) (gl := cat M (lg G) wl) (G := G) (by omega) HOK.out.1 HOK.out.2 (by omega) (fun j hj => by unfold cat; rw [if_pos (by omega)]; rfl)
    rw [this] at h1
    exact h1
  obtain ⟨T, hT⟩ := pls_more (n := N) (most := M + t) (gl := cat M (lg G) wl) (k := M) (M + n2) (by omega)
  rw [hself] at hT
  obtain ⟨L, hL⟩ : ∃ L, pls N (M + t) (cat M (lg G) wl) (M + n2) = L := ⟨_, rfl⟩
  rw [hL] at hown9 hok9 hlen9 hT
  obtain ⟨a9, c9, rfl, hI9⟩ := il_lst hown9 (fun i hi => by have := hok9.2 i hi; omega)
  have HL9 := hide hT
  have HOK9 := hide hok9
  have HI9 : Hid (Il w9 a9 L.length c9 (lg L)) := hide hI9
  have HB89 := hide (HB8.out.trans (b9.mono HB8.out.size))
  have HT9 := hide (HT5.out.trans ((HB8.out.trans (b9.mono HB8.out.size)).mono HT5.out.size))
  have HG9 := hide (HI6.out.below HB89.out)
  have HW9 := hide ((HN5.out.sl.below HB5.out).below HB89.out)
  clear hself hown9 hok9 hI9 b9 hT hL
  have HO10 := hide (owns_nil w9 nul)
  have HBL10 := hide (bel_lit w9 (.cells #[] 29))
  have HL10 := hide (HW9.out.alloc (.cells #[] 29))
  go_wp2_with (
    refine append_sl rfl (.tmp 92) (.tmp 93) rfl w9.heap.size _ 0 nul rfl HO10.out _ N c5 W rfl HL10.out (by omega) (by simp) w9 HBL10.out ?_
    intro v10 w10 hown10 hb10
    rw [Nat.zero_add, cat_nil] at hown10
    obtain ⟨a10, c10, hv10, h10⟩ := new_of_owns hown10 hb10 HN5.out.sl.bd HN5.out.sl.out
    subst hv10
    obtain ⟨b10, o10, e10, hb10', hw10⟩ := h10.own.resolve_left (by omega)
    subst e10
    have hc10 := h10.sl.cap
    have HW10 := hide hw10
    have HB10 := hide h10.bel
    clear hown10 hb10 h10 hw10)
  go_loopw [18] (fun t wr => ∃ (k : Nat) (F : Nat → Int), t = .int .i64 k ∧ k ≤ L.length ∧ k ≤ n3 ∧ Wr wr b10 o10 N F ∧ P16 F ∧ (∀ j, N ≤ j → F j = 0) ∧ (∀ j, j < N → j ∉ L → F j = W j) ∧ Below w9.heap.size w9 wr) (fun t _ => L.length - (intOf t).toNat)
  case atStart => exact ⟨0, W, rfl, Nat.zero_le _, Nat.zero_le _, HW10.out, HN5.out.sl.bd, HN5.out.sl.out, fun _ _ _ => rfl, HB10.out⟩
  case round =>
    obtain ⟨k, F, rfl, hk1, hk2, hw, hF16, hFo, hFW, hbl⟩ := hrel
    have HW' := hide hw
    have HF := hide (And.intro hF16 (And.intro hFo hFW))
    have HB := hide hbl
    clear hw hF16 hFo hFW hbl
    by_cases hlt : k < L.length ∧ k < n3
    · obtain ⟨b1, o1, e1, hb1, hc1⟩ := HI9.out.at'.resolve_left (by omega)
      have hI3 := HS.out.2.2.2.below HT9.out
      obtain ⟨b2, o2, e2, hb2, hc2⟩ := hI3.at'.resolve_left (by omega)
      subst e1 e2
      obtain ⟨i, hi⟩ : ∃ i, L.getD k 0 = i := ⟨_, rfl⟩
      have hiL : i ∈ L := by rw [← hi, List.getD_eq_getElem?_getD, List.getElem?_eq_getElem hlt.1]; exact List.getElem_mem hlt.1
      have hin : i < N := HOK9.out.2 i hiL
      have x1 : wr.cell? ⟨b1, o1 + k, none⟩ = some (.int .i64 (i : Int)) := by
        have := c_be HB.out hb1 (hc1 k hlt.1)
        unfold lg at this
        rwa [hi] at this
      have x2 := c_be HB.out hb2 (hc2 k hlt.2)
      have hl1 : (k : Int) < (L.length : Int) := by omega
      have hl2 : (k : Int) < (n3 : Int) := by omega
      have g16 := hI3.bd k
      have y1 := HW'.out.cell i hin
      have y2 := HW'.out.free i hin
      have HIL := hide hiL
      clear hc1 hc2 hi hI3 hiL
      go_wp2_with fail
      go_region
      all_goals (
        go_wp2_with fail
        go_roundw
        case rel =>
          refine ⟨k + 1, fun j => if j = i then p3 k else F j, by go_num, by omega, by omega, (HW'.out.set i hin (p3 k)).drew1, fun j => ?_, fun j hj => ?_, fun j hj hg => ?_, (HB.out.trans ((Only.setCell b10 (o10 + i) _ _).below hb10')).drew⟩
          · show 0 ≤ (if j = i then p3 k else F j) ∧ (if j = i then p3 k else F j) ≤ 65535
            split
            · exact g16
            · exact HF.out.1 j
          · show (if j = i then p3 k else F j) = 0
            rw [if_neg (by omega)]
            exact HF.out.2.1 j hj
          · show (if j = i then p3 k else F j) = W j
            rw [if_neg (fun (e : j = i) => hg (e ▸ HIL.out))]
            exact HF.out.2.2 j hj hg
        case measure => simp [intOf]; omega)
    · obtain ⟨wo, hwo⟩ : ∃ v, v = wr := ⟨_, rfl⟩
      subst hwo
      have hS := HW'.out.sl c10 hc10 HF.out.1 HF.out.2.1
      have hnear : Near N F R M (lg G) W := by
        have hGM := HGM.out
        have hTt := HTt.out
        have hL9 := HL9.out
        have h1 := near_spoilt (n := N) (r := R) (W := W) (F := F) (G := G) (T := T) HN5.out.sl.bd HF.out.1 HN5.out.sl.out HR.out (by omega) (by
          have : L.length = G.length + T.length := by rw [hL9, List.length_append]
          rw [hGM]
          omega) (fun j hj hnm => HF.out.2.2 j hj (by rw [hL9]; exact hnm))
        rw [hGM] at h1
        exact h1
      have hgn : Gn (lg G) M N := by
        have := lg_gn HOK.out.1 HOK.out.2
        rw [HGM.out] at this
        exact this
      have HX := hide (And.intro hS (And.intro hnear (And.intro hgn (And.intro (HG9.out.below HB.out) (HW9.out.below HB.out)))))
      have HT10 := hide (HT9.out.trans (HB.out.mono HT9.out.size))
      clear hS hnear hgn
      have hor : (¬ (k : Int) < (L.length : Int)) ∨ ((k : Int) < (L.length : Int) ∧ ¬ (k : Int) < (n3 : Int)) := by omega
      rcases hor with hl | ⟨hl, hl2⟩
      all_goals (
        clear hlt
        go_wp2_with fail
        refine (dword_ok HX.out.1 HX.out.2.2.2.1 (by omega) hN0 (by omega) hRN HX.out.2.2.1 HX.out.2.1).mono ?_
        rintro e w11 ⟨a11, c11, rfl, h11⟩
        have HX2 := hide (And.intro h11.sl (HX.out.2.2.2.2.below h11.bel))
        have HT11 := hide (HT10.out.trans (h11.bel.mono HT10.out.size))
        clear h11
        go_wp2_with fail
        refine (same_any HX2.out.1 HX2.out.2 (by omega) rfl rfl).mono ?_
        rintro e w12 ⟨rfl, b12⟩
        have HT12 := hide (HT11.out.trans (b12.mono HT11.out.size))
        clear b12
        go_wp2_with fail
        go_ret
        exact ⟨rfl, HT12.out⟩)

theorem decodeMakes_own : ownKnob Try.prog.godebug = none := by kernel_rfl
theorem decodeMakes_laidOut : laidOutB Try.prog = true := by kernel_rfl

set_option maxRecDepth 100000 in
theorem decodeMakes_lifted (os : Os) (started : os.Started) (H : Type) (enc : TypeId × Value → H) :
    ReturnsInHanded {} Try.checked os 5 .any (Rows.decodeMakesSpec.pre6 enc Try.prog Try.f5 Rows.decodeMakesRow.domain false) (Rows.decodeMakesSpec.post enc Try.prog Try.f5 false true false false) := by
  refine returnsInHanded_of_change (C := Try.checked) decodeMakes_own started (by kernel_rfl) Try.func5
    (ChangeSpec.witness6 (enc := enc) (C := Try.checked) false ⟨#[], #[.slice none 0 0, .int .i64 0, .slice none 0 0, .slice none 0 0, .slice none 0 0], []⟩ 8 (by kernel_rfl) (by kernel_rfl) (by kernel_rfl) (by kernel_rfl)) ?_
  intro W base args ds gs before hval0 hW hcnd _
  have hval : ∀ (j : Nat) t v, Try.f5.params[j]? = some t → args[j]? = some v → Value.okWide Try.prog W .any base t v := hval0
  have hW' := hW
  obtain ⟨p, q, hA0, hV, rfl, hfz, hnd⟩ := hW
  have hA : DataW.TrodAll enc Try.prog W 0 (fun _ => true) true Try.f5.params.toList args.toList ds p := hA0
  rw [Try.params5] at hA hval
  obtain ⟨v0, vs0, d0, ds0, p0, q0, hargs, rfl, rfl, h0, r0⟩ := trodAll_cons hA
  obtain ⟨v1, vs1, d1, ds1, p1, q1, rfl, rfl, rfl, h1, r1⟩ := trodAll_cons r0
  obtain ⟨v2, vs2, d2, ds2, p2, q2, rfl, rfl, rfl, h2, r2⟩ := trodAll_cons r1
  obtain ⟨v3, vs3, d3, ds3, p3, q3, rfl, rfl, rfl, h3, r3⟩ := trodAll_cons r2
  obtain ⟨v4, vs4, d4, ds4, p4, q4, rfl, rfl, rfl, h4, r4⟩ := trodAll_cons r3
  obtain ⟨rfl, rfl, rfl⟩ := trodAll_nil r4
  obtain rfl : args = #[v0, v1, v2, v3, v4] := by cases args; simp_all
  obtain ⟨rfl, rfl⟩ := trodVars_none hV
  obtain ⟨a0, len0, cap0, rfl⟩ := okWide_slice Try.underlying22 (hval 0 22 v0 rfl rfl)
  have k0 := h0
  have lt0 : ∀ x ∈ p0, x.block < W.heap.size := by obtain ⟨m, hm⟩ := k0; exact DataW.trod_lt m _ _ _ hm
  obtain ⟨z0, w0⟩ : ∃ zs, IsRow .u16 W a0 len0 cap0 zs := by
    obtain ⟨fuel, hf⟩ := h0
    rcases open_ints Try.underlying22 Try.underlying29 (by kernel_rfl) hf with ⟨hcs, _⟩ | ⟨x, l, c, zs, hcs, _, hl, hm, hz, _, hcell, hwz⟩
    · simp [Value.cells] at hcs
      obtain ⟨rfl, rfl, rfl⟩ := hcs
      exact ⟨[], .inl ⟨rfl, rfl, rfl, rfl⟩⟩
    · simp [Value.cells] at hcs
      obtain ⟨rfl, rfl, rfl⟩ := hcs
      exact ⟨zs, .inr ⟨_, rfl, hl, hm, by simpa using hz, hcell, hwz⟩⟩
  obtain ⟨a1, rfl, rfl, rfl, w1⟩ := open_int Try.underlying3 (hval 1 3 v1 rfl rfl) h1
  obtain ⟨a2, len2, cap2, rfl⟩ := okWide_slice Try.underlying23 (hval 2 23 v2 rfl rfl)
  have k2 := h2
  have lt2 : ∀ x ∈ p2, x.block < W.heap.size := by obtain ⟨m, hm⟩ := k2; exact DataW.trod_lt m _ _ _ hm
  obtain ⟨z2, w2⟩ : ∃ zs, IsRow .i64 W a2 len2 cap2 zs := by
    obtain ⟨fuel, hf⟩ := h2
    rcases open_ints Try.underlying23 Try.underlying3 (by kernel_rfl) hf with ⟨hcs, _⟩ | ⟨x, l, c, zs, hcs, _, hl, hm, hz, _, hcell, hwz⟩
    · simp [Value.cells] at hcs
      obtain ⟨rfl, rfl, rfl⟩ := hcs
      exact ⟨[], .inl ⟨rfl, rfl, rfl, rfl⟩⟩
    · simp [Value.cells] at hcs
      obtain ⟨rfl, rfl, rfl⟩ := hcs
      exact ⟨zs, .inr ⟨_, rfl, hl, hm, by simpa using hz, hcell, hwz⟩⟩
  obtain ⟨a3, len3, cap3, rfl⟩ := okWide_slice Try.underlying23 (hval 3 23 v3 rfl rfl)
  have k3 := h3
  have lt3 : ∀ x ∈ p3, x.block < W.heap.size := by obtain ⟨m, hm⟩ := k3; exact DataW.trod_lt m _ _ _ hm
  obtain ⟨z3, w3⟩ : ∃ zs, IsRow .i64 W a3 len3 cap3 zs := by
    obtain ⟨fuel, hf⟩ := h3
    rcases open_ints Try.underlying23 Try.underlying3 (by kernel_rfl) hf with ⟨hcs, _⟩ | ⟨x, l, c, zs, hcs, _, hl, hm, hz, _, hcell, hwz⟩
    · simp [Value.cells] at hcs
      obtain ⟨rfl, rfl, rfl⟩ := hcs
      exact ⟨[], .inl ⟨rfl, rfl, rfl, rfl⟩⟩
    · simp [Value.cells] at hcs
      obtain ⟨rfl, rfl, rfl⟩ := hcs
      exact ⟨zs, .inr ⟨_, rfl, hl, hm, by simpa using hz, hcell, hwz⟩⟩
  obtain ⟨a4, len4, cap4, rfl⟩ := okWide_slice Try.underlying22 (hval 4 22 v4 rfl rfl)
  have k4 := h4
  have lt4 : ∀ x ∈ p4, x.block < W.heap.size := by obtain ⟨m, hm⟩ := k4; exact DataW.trod_lt m _ _ _ hm
  obtain ⟨z4, w4⟩ : ∃ zs, IsRow .u16 W a4 len4 cap4 zs := by
    obtain ⟨fuel, hf⟩ := h4
    rcases open_ints Try.underlying22 Try.underlying29 (by kernel_rfl) hf with ⟨hcs, _⟩ | ⟨x, l, c, zs, hcs, _, hl, hm, hz, _, hcell, hwz⟩
    · simp [Value.cells] at hcs
      obtain ⟨rfl, rfl, rfl⟩ := hcs
      exact ⟨[], .inl ⟨rfl, rfl, rfl, rfl⟩⟩
    · simp [Value.cells] at hcs
      obtain ⟨rfl, rfl, rfl⟩ := hcs
      exact ⟨zs, .inr ⟨_, rfl, hl, hm, by simpa using hz, hcell, hwz⟩⟩
  clear hA0 hval0
  simp only [List.append_nil] at hW'
  refine (decodeMakes_any (isRow_sl w0) (isRow_max w0) (bounds_i64 w1) (isRow_il w2) (isRow_maxI w2) (isRow_il w3) (isRow_maxI w3) (isRow_sl w4) (isRow_max w4)).mono fun e W' ⟨he, bel⟩ => ?_
  subst he
  exact ⟨_, rfl, _, _, _, [], _, [], hW', trodAll_mk1 (shut_bool Try.underlying4 _), (trodAll_cons_mk (Below.trod decodeMakes_laidOut (by kernel_rfl) (of_decide_eq_true (by kernel_rfl)) k0 bel lt0) (trodAll_cons_mk (shut_int Try.underlying3 w1) (trodAll_cons_mk (Below.trod decodeMakes_laidOut (by kernel_rfl) (of_decide_eq_true (by kernel_rfl)) k2 bel lt2) (trodAll_cons_mk (Below.trod decodeMakes_laidOut (by kernel_rfl) (of_decide_eq_true (by kernel_rfl)) k3 bel lt3) (trodAll_cons_mk (Below.trod decodeMakes_laidOut (by kernel_rfl) (of_decide_eq_true (by kernel_rfl)) k4 bel lt4) trodAll_mk0))))), rfl, bel.frame _, fun h => by cases h⟩

theorem decodeMakes_holds : Rows.DecodeMakesSaid :=
  OpenClaim.holds_of_wide 5 Try.f5 rfl rfl rfl rfl rfl rfl rfl ⟨rfl, rfl, rfl, rfl, rfl⟩ rfl rfl rfl rfl rfl (by kernel_rfl) Try.func5 (by kernel_rfl)
    (of_decide_eq_true (by kernel_rfl)) (by unfold Func.isWrapper; first | (rw [if_pos (by decide +kernel)]; kernel_rfl) | (rw [if_neg (by decide +kernel)]; exact ⟨rfl, rfl⟩))
    (fun os started H enc _ => decodeMakes_lifted os started H enc)

#print axioms decodeMakes_holds

end Go.Proofs.Ytdbdidohldhnhaa
