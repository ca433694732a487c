/- decode's mend: the word with other symbols at the chosen places. For words of at most 255 symbols. -/
import Derived.Test.YtdbdidohldhnhaaChoose
namespace Go.Proofs.Ytdbdidohldhnhaa
open Go.RowKit Gf
set_option linter.unusedVariables false

/-- What mend makes. -/
def md (n : Nat) (f b l s : Nat → Int) (pz : Nat → Bool) : Nat → Int := fun p => if p < n ∧ chb n pz b p = true then put n f b l s p else f p

/-- What mend has been handed, and what it has laid first. -/
structure Cm (w w' : World) (a : Option Addr) (n c : Nat) (f : Nat → Int) (sa : Option Addr) (r cs : Nat) (ag : Option Addr) (m cg : Nat) (gl : Nat → Int) (ba : Nat) : Prop where
  wd : Sl w' a n c f
  sm : Sl w' sa r cs (vs n f r)
  gn : Il w' ag m cg gl
  bl : Bl w' ba 0 n n (gon gl m)
  B : Below w.heap.size w w'
  c0 : w'.cell? ⟨w.heap.size, 0, none⟩ = some (.slice (some ⟨ba, 0, none⟩) n n)
  l0 : w.heap.size < w'.heap.size
theorem Cm.below {w w' w'' : World} {a : Option Addr} {n c : Nat} {f : Nat → Int} {sa : Option Addr} {r cs : Nat} {ag : Option Addr} {m cg : Nat} {gl : Nat → Int} {ba : Nat} (h : Cm w w' a n c f sa r cs ag m cg gl ba) (hB : Below w'.heap.size w' w'') : Cm w w'' a n c f sa r cs ag m cg gl ba :=
  ⟨h.wd.below hB, h.sm.below hB, h.gn.below hB, h.bl.below hB, h.B.trans (hB.mono h.B.size), c_be hB h.l0 h.c0, Nat.lt_of_lt_of_le h.l0 hB.size⟩
/-- The roots, as they lie. -/
structure Rm (w : World) (n br rb : Nat) : Prop where
  c : w.cell? ⟨br, 0, none⟩ = some (.slice (some ⟨rb, 0, none⟩) n n)
  l : br < w.heap.size
  rl : rb < w.heap.size
  rc : ∀ j, j < n → w.cell? ⟨rb, j, none⟩ = some (.int .u16 (ro n j))
theorem Rm.below {w w' : World} {n br rb : Nat} (h : Rm w n br rb) (hB : Below w.heap.size w w') : Rm w' n br rb :=
  ⟨c_be hB h.l h.c, Nat.lt_of_lt_of_le h.l hB.size, Nat.lt_of_lt_of_le h.rl hB.size, fun j hj => c_be hB h.rl (h.rc j hj)⟩
/-- What was found, as it lies. -/
structure Fm (w : World) (bf : Nat) (al : Option Addr) (nl cl : Nat) (ab : Option Addr) (nb cb : Nat) (l1 b1 : Nat → Int) : Prop where
  c0 : w.cell? ⟨bf, 0, none⟩ = some (.slice al nl cl)
  c1 : w.cell? ⟨bf, 1, none⟩ = some (.slice ab nb cb)
  l : bf < w.heap.size
  s0 : Sl w al nl cl l1
  s1 : Sl w ab nb cb b1
theorem Fm.below {w w' : World} {bf : Nat} {al : Option Addr} {nl cl : Nat} {ab : Option Addr} {nb cb : Nat} {l1 b1 : Nat → Int} (h : Fm w bf al nl cl ab nb cb l1 b1) (hB : Below w.heap.size w w') : Fm w' bf al nl cl ab nb cb l1 b1 :=
  ⟨c_be hB h.l h.c0, c_be hB h.l h.c1, Nat.lt_of_lt_of_le h.l hB.size, h.s0.below hB, h.s1.below hB⟩

theorem inv_iv (fa : Addr) (y : Int) (w : World) (hy : 0 ≤ y ∧ y ≤ 65535) : Calls Try.prog 45 #[.pointer (some fa), .int .u16 y] w fun e w' => e = .returned (.tuple #[.int .u16 (iv y), .bool (y != 0)]) ∧ w' = w := by
  by_cases h0 : y = 0
  · subst h0
    exact inv_zero fa w
  · refine (inv_any fa y w (by omega) (beq_no h0)).mono ?_
    rintro e w' ⟨rfl, rfl⟩
    refine ⟨?_, rfl⟩
    unfold iv
    rw [if_neg h0, bne_yes h0]
theorem il_of_owns {w : World} {base : Nat} {v : Value} {L : List Nat} (h : w.ownsRow base 3 1 v L.length (ivals L)) (hb : ∀ i ∈ L, i < 100000) : ∃ a c, v = .slice a L.length c ∧ Il w a L.length c (fun j => ((L.getD j 0 : Nat) : Int)) := by
  have hbd : ∀ j, I64 ((L.getD j 0 : Nat) : Int) := fun j => by
    unfold I64
    by_cases hj : j < L.length
    · have h1 := hb (L.getD j 0) (by rw [List.getD_eq_getElem?_getD, List.getElem?_eq_getElem hj]; exact List.getElem_mem hj)
      omega
    · rw [List.getD_eq_getElem?_getD, List.getElem?_eq_none (by omega)]
      decide
  have hout : ∀ j, L.length ≤ j → ((L.getD j 0 : Nat) : Int) = 0 := fun j hj => by
    rw [List.getD_eq_getElem?_getD, List.getElem?_eq_none (by omega)]
    rfl
  rcases h.2 with ⟨rfl, h0⟩ | ⟨g, cap, cur, rfl, hg, hgb, hnc, _, _, ht⟩
  · have hl : L.length = 0 := h0
    exact ⟨none, 0, by rw [hl], hbd, hout, by omega, fun _ => rfl, .inl hl⟩
  · refine ⟨_, cap, rfl, hbd, hout, hnc, fun e => (by cases e), .inr ⟨g, 0, rfl, (Array.getElem?_eq_some_iff.1 hgb).1, fun j hj => ?_⟩⟩
    have h1 : (ivals L)[j]? = some (.int .i64 ((L.getD j 0 : Nat) : Int)) := by
      unfold ivals
      rw [List.getElem?_map, List.getElem?_eq_getElem hj, List.getD_eq_getElem?_getD, List.getElem?_eq_getElem hj]
      rfl
    rw [← ht, List.getElem?_take, if_pos (by omega)] at h1
    rw [Nat.zero_add]
    simp only [World.cell?, hgb]
    rw [← h1]
    simp
theorem take_mem_step {L : List Nat} {k : Nat} (hk : k < L.length) (j : Nat) : j ∈ L.take (k + 1) ↔ j ∈ L.take k ∨ j = L.getD k 0 := by
  rw [List.take_succ_eq_append_getElem hk, List.mem_append, List.getD_eq_getElem?_getD, List.getElem?_eq_getElem hk]
  simp
theorem nodup_take {L : List Nat} (h : L.Nodup) {k : Nat} (hk : k < L.length) : L.getD k 0 ∉ L.take k := by
  rw [List.getD_eq_getElem?_getD, List.getElem?_eq_getElem hk]
  intro hm
  obtain ⟨i, hi, e⟩ := List.mem_iff_getElem.1 hm
  rw [List.length_take] at hi
  rw [List.getElem_take] at e
  have := (List.getElem_inj h).1 e
  omega
theorem put16 {n : Nat} {f b l s : Nat → Int} (hf : P16 f) (hl : P16 l) (p : Nat) : 0 ≤ put n f b l s p ∧ put n f b l s p ≤ 65535 := x16 (hf p) (g16 (ev16 _ hl))
theorem md16 {n : Nat} {f b l s : Nat → Int} {pz : Nat → Bool} (hf : P16 f) (hl : P16 l) : P16 (md n f b l s pz) := fun p => by
  unfold md
  split
  · exact put16 hf hl p
  · exact hf p

set_option maxRecDepth 100000 in
set_option maxHeartbeats 4000000 in
theorem mend_any {w : World} {a sa ag : Option Addr} {n c r cs m cg ba : Nat} {f gl : Nat → Int} (hf : Sl w a n c f) (hs : Sl w sa r cs (vs n f r)) (hg : Il w ag m cg gl) (hG : Gn gl m n) (hb : Bl w ba 0 n n (gon gl m)) (hn : n ≤ 255) (hr : r ≤ n) (hr0 : 0 < r) (hm : m ≤ r) :
    Calls Try.prog 23 #[.slice a n c, .slice sa r cs, .slice ag m cg, .slice (some ⟨ba, 0, none⟩) n n] w fun e w' => ∃ a' c' l0 b0 l1 b1 a0 nl k1, e = .returned (.slice a' n c') ∧
      Eu r (cutT r (mulp (vs n f r) (ofp (gr n gl) m))) l0 b0 l1 b1 a0 nl k1 ∧ nl ≤ r - (r - m) / 2 ∧ r - (r - m) / 2 ≤ a0 ∧ New w w' a' n c' (md n f b1 l1 (slp (mulp b1 (ofp (gr n gl) m))) (gon gl m)) := by
  have hg0 := new_cell w #[.slice (some ⟨ba, 0, none⟩) n n] 41 0 _ rfl
  have B1 := (Below.refl w.heap.size w).alloc (Nat.le_refl _) (.cells #[.slice (some ⟨ba, 0, none⟩) n n] 41)
  have B2 := B1.alloc (by simp) (.cells #[] 73)
  have hg1 := c_al hg0 (by simp) (.cells #[] 73)
  have H0 : Hid (Cm w ((w.alloc (.cells #[.slice (some ⟨ba, 0, none⟩) n n] 41)).alloc (.cells #[] 73)) a n c f sa r cs ag m cg gl ba) := ⟨hf.below B2, hs.below B2, hg.below B2, hb.below B2, B2, hg1, by simp; omega⟩
  have H16 := hide hf.bd
  clear hg0 hg1 B1 B2 hf hs hg hb
  have HG := hide hG
  clear hG
  go_enter Try.func23, Try.ntmps23
  go_wp2_with fail
  refine (new_any _).mono ?_
  rintro e w1 ⟨rfl, hw1⟩
  have HC := H0
  rw [← hw1] at HC
  clear hw1 H0
  go_wp2_with fail
  refine (rootsOf_any n _ hn).mono ?_
  rintro e w2 ⟨rfl, hb2, hw2⟩
  -- the roots lie
  have b3 := (Below.refl w2.heap.size w2).alloc (Nat.le_refl _) (.cells #[.slice (some ⟨w1.heap.size + 1, 0, none⟩) n n] 22)
  have HR : Hid (Rm (w2.alloc (.cells #[.slice (some ⟨w1.heap.size + 1, 0, none⟩) n n] 22)) n w2.heap.size (w1.heap.size + 1)) :=
    ⟨new_cell w2 _ _ 0 _ rfl, by simp, by have := hw2.lt; simp; omega, fun j hj => c_be b3 hw2.lt (by have := hw2.cell j hj; rwa [Nat.zero_add] at this)⟩
  have HC := hide ((HC.out.below hb2).below b3)
  obtain ⟨w3, hw3⟩ : ∃ w3, w2.alloc (.cells #[.slice (some ⟨w1.heap.size + 1, 0, none⟩) n n] 22) = w3 := ⟨_, rfl⟩
  rw [hw3] at HR HC
  have hR1 := HR.out.c
  clear hb2 hw2 b3
  go_wp2_with fail
  refine (taken_any (gl := gl) (R := ro n) HC.out.gn (by omega) (fun j => ro16 n j) HR.out.rl HR.out.rc HG.out.1 hn).mono ?_
  rintro e w4 ⟨rfl, h4⟩
  have HC := hide (HC.out.below h4.bel)
  have HR := hide (HR.out.below h4.bel)
  have H4 := hide h4.sl
  clear h4 hw3 hR1
  go_wp2_with fail
  refine (of_any H4.out (by omega)).mono ?_
  rintro e w5 ⟨a5, c5, rfl, h5⟩
  have HC := hide (HC.out.below h5.bel)
  have HR := hide (HR.out.below h5.bel)
  have h5' := h5.sl.congr (ofp_congr (r' := gr n gl) (fun j hj => if_pos hj))
  have H5 := hide h5'
  obtain ⟨t, ht⟩ : ∃ t, (r - m) / 2 = t := ⟨_, rfl⟩
  have htr : t ≤ r := by omega
  have htr2 : 0 < r - t := by omega
  have cM := most_yes r m w5 hm (by omega)
  rw [ht] at cM
  have HT := hide ht
  clear h5 h5' H4 ht
  go_wp2_with fail
  refine cM.mono ?_
  rintro e w5' ⟨rfl, hw5'⟩
  obtain rfl := hw5'.symm
  clear cM
  go_wp2_with fail
  rw [show (r : Int) - (t : Int) = ((r - t : Nat) : Int) from by omega]
  refine (descend_any HC.out.sm H5.out (by omega) (by omega) (by omega) (by omega)).mono ?_
  rintro e w6 ⟨al, nl, cl, ab, cb, l0, b0, l1, b1, a0, k1, rfl, h6, s6, t6, hE, hnl, hqa⟩
  have HC := hide (HC.out.below h6)
  have HR := hide (HR.out.below h6)
  have H5 := hide (H5.out.below h6)
  have HE := hide hE
  have hsum := hE.sum
  have hk255 : k1 ≤ 255 := by omega
  have hnl2 : nl ≤ 255 := by omega
  have b7 := (Below.refl w6.heap.size w6).alloc (Nat.le_refl _) (.cells #[.slice al nl cl, .slice ab (k1 + 1) cb] 62)
  have HF : Hid (Fm (w6.alloc (.cells #[.slice al nl cl, .slice ab (k1 + 1) cb] 62)) w6.heap.size al nl cl ab (k1 + 1) cb l1 b1) :=
    ⟨new_cell w6 _ _ 0 _ rfl, new_cell w6 _ _ 1 _ rfl, by simp, s6.below b7, t6.below b7⟩
  have HC := hide (HC.out.below b7)
  have HR := hide (HR.out.below b7)
  have H5 := hide (H5.out.below b7)
  obtain ⟨w7, hw7⟩ : ∃ w7, w6.alloc (.cells #[.slice al nl cl, .slice ab (k1 + 1) cb] 62) = w7 := ⟨_, rfl⟩
  rw [hw7] at HF HC HR H5
  have HK : Hid (Look w7 n w.heap.size w6.heap.size w2.heap.size ba ab (k1 + 1) cb (w1.heap.size + 1) (gon gl m) b1) :=
    ⟨HC.out.c0, HC.out.l0, HC.out.bl, HF.out.c1, HF.out.l, HF.out.s1, HR.out.c, HR.out.l, HR.out.rl, HR.out.rc⟩
  clear h6 s6 t6 b7 hE hsum
  go_wp2_with fail
  refine (chosen_any HK.out hn (by omega)).mono ?_
  rintro e w8 ⟨v8, rfl, hown8, h8⟩
  have HC := hide (HC.out.below h8)
  have HR := hide (HR.out.below h8)
  have H5 := hide (H5.out.below h8)
  have HF := hide (HF.out.below h8)
  have HO := hide hown8
  have hf1 := HF.out.c1
  clear HK hown8 h8 hw7
  go_wp2_with fail
  refine (pmul_any HF.out.s1 H5.out (by omega) (by omega)).mono ?_
  rintro e w9 ⟨a9, n9, c9, rfl, hn9, s9, h9⟩
  have HC := hide (HC.out.below h9.bel)
  have HR := hide (HR.out.below h9.bel)
  have HF := hide (HF.out.below h9.bel)
  have HO := hide (owns_below HO.out h9.bel)
  have H9 := hide h9.sl
  clear s9 h9 hf1 H5
  go_wp2_with fail
  refine (slope_any H9.out (by omega)).mono ?_
  rintro e w10 ⟨a10, n10, c10, rfl, hn10, s10, h10⟩
  have HC := hide (HC.out.below h10.bel)
  have HR := hide (HR.out.below h10.bel)
  have HF := hide (HF.out.below h10.bel)
  have HO := hide (owns_below HO.out h10.bel)
  have H10 := hide h10.sl
  clear s10 h10 H9
  go_wp2_with fail
  obtain ⟨L, hL⟩ : ∃ L, (List.range n).filter (chb n (gon gl m) b1) = L := ⟨_, rfl⟩
  have hO := HO.out
  rw [hL] at hO
  have hLm : ∀ i, i ∈ L ↔ i < n ∧ chb n (gon gl m) b1 i = true := fun i => by rw [← hL, List.mem_filter, List.mem_range]
  have hLnd : L.Nodup := by rw [← hL]; exact List.nodup_range.filter _
  have hLl : L.length ≤ n := by rw [← hL]; exact filter_le _ _
  obtain ⟨a8, c8, rfl, hI8⟩ := il_of_owns hO (fun i hi => by have := ((hLm i).1 hi).1; omega)
  have HLm := hide hLm
  have HLd := hide hLnd
  have HI := hide hI8
  clear hO hLm hLnd hI8 HO hL
  refine (clone_any HC.out.wd (by omega)).mono ?_
  rintro e w11 ⟨a11, c11, rfl, h11⟩
  have hcap := h11.sl.cap
  have hB11 := h11.bel
  obtain ⟨bm, om, rfl, hbm, hw11⟩ := h11.own.resolve_left (by omega)
  have HW11 := hide hw11
  have HB11 := hide hB11
  clear h11 hw11 hB11
  go_wp2_with fail
  go_loopg [17, 18, 19, 20, 53] L.length (fun g _ _ _ _ t wr => ∃ k : Nat, k + g = L.length ∧ t = .int .i64 k ∧ Wr wr bm om n (fun j => if j ∈ L.take k then put n f b1 l1 (slp (mulp b1 (ofp (gr n gl) m))) j else f j) ∧ Below w10.heap.size w10 wr)
  case atStart => exact ⟨0, by omega, rfl, HW11.out.congr (fun j hj => by simp), HB11.out⟩
  case round =>
    obtain ⟨k, hkg, rfl, hwr, hbl⟩ := hrel
    have HW := hide hwr
    have HB := hide hbl
    clear hwr hbl
    by_cases hlt : k < L.length
    · obtain ⟨g8, o8, rfl, hg8, hc8⟩ := HI.out.at'.resolve_left (by omega)
      obtain ⟨p, hp⟩ : ∃ p, L.getD k 0 = p := ⟨_, rfl⟩
      have hpL : p ∈ L := by rw [← hp, List.getD_eq_getElem?_getD, List.getElem?_eq_getElem hlt]; exact List.getElem_mem hlt
      have hpn : p < n := ((HLm.out p).1 hpL).1
      have hpt : p ∉ L.take k := hp ▸ nodup_take HLd.out hlt
      have hx8 : wr.cell? ⟨g8, o8 + k, none⟩ = some (.int .i64 (p : Int)) := c_be HB.out hg8 (by have := hc8 k hlt; rw [hp] at this; exact this)
      have hr1 := c_be HB.out HR.out.l HR.out.c
      have hr2 := c_be HB.out HR.out.rl (HR.out.rc p hpn)
      have h16 := ro16 n p
      have hls : P16 (slp (mulp b1 (ofp (gr n gl) m))) := H10.out.bd
      have hevS := ev_at (ro n p) (by omega : n10 ≤ 1000) H10.out.out
      have hevL := ev_at (ro n p) (by omega : nl ≤ 1000) HF.out.s0.out
      obtain ⟨S, hS⟩ : ∃ S, ev (ro n p) (slp (mulp b1 (ofp (gr n gl) m))) = S := ⟨_, rfl⟩
      obtain ⟨E, hE⟩ : ∃ E, ev (ro n p) l1 = E := ⟨_, rfl⟩
      have s16 : 0 ≤ S ∧ S ≤ 65535 := hS ▸ ev16 _ hls
      have e16 : 0 ≤ E ∧ E ≤ 65535 := hE ▸ ev16 _ HF.out.s0.bd
      have y16 : 0 ≤ gI (ro n p) S ∧ gI (ro n p) S ≤ 65535 := g16 h16
      have i16 := iv16 y16
      have m16 : 0 ≤ gI E (iv (gI (ro n p) S)) ∧ gI E (iv (gI (ro n p) S)) ≤ 65535 := g16 e16
      have f16 := H16.out p
      have cA := at_any (H10.out.below HB.out) (by omega) h16
      rw [hevS, hS] at cA
      have HSp := hide hS
      have HEp := hide hE
      have HPp := hide hp
      have hlt' : (k : Int) < (L.length : Int) := by omega
      clear hc8 hp hevS hS hE hls
      go_wp2_with fail
      refine cA.mono ?_
      rintro e w12 ⟨rfl, h12⟩
      have hW12 := HW.out.below h12 HW.out.lt
      have HB12 := hide (HB.out.trans (h12.mono HB.out.size))
      have HW12 := hide hW12
      clear h12 hW12 cA hx8 hr1 hr2
      go_wp2_with fail
      refine (mul_any _ _ _ _ (by omega) (by omega)).mono ?_
      rintro e w12' ⟨rfl, hw12'⟩
      obtain rfl := hw12'.symm
      go_wp2_with fail
      refine (inv_iv _ _ _ y16).mono ?_
      rintro e w12' ⟨rfl, hw12'⟩
      obtain rfl := hw12'.symm
      go_wp2_with fail
      have k1 : w12.cell? ⟨bm, om + p, none⟩ = some (.int .u16 (f p)) := by rw [HW12.out.cell p hpn, if_neg hpt]
      have k2 : w12.frozen? ⟨bm, om + p, none⟩ = false := HW12.out.free p hpn
      have k3 := c_be HB12.out HF.out.l HF.out.c0
      have lf12 : w6.heap.size < w12.heap.size := Nat.lt_of_lt_of_le HF.out.l HB12.out.size
      have lm12 := HW12.out.lt
      have cB := at_any (HF.out.s0.below HB12.out).drew (by omega) h16
      rw [hevL, HEp.out] at cB
      have HCB := hide cB
      have HPT := hide hpt
      clear cB hevL hpt
      obtain ⟨g, rfl⟩ : ∃ g, gk = g + 1 := ⟨gk - 1, by omega⟩
      go_region_with ((first
        | (go_at_call 42
           refine HCB.out.mono ?_
           rintro e w13 ⟨rfl, h13⟩
           have q1 := c_be h13 lm12 k1
           have q2 : w13.frozen? ⟨bm, om + p, none⟩ = false := (h13.frozen (p := ⟨bm, om + p, none⟩) lm12).trans k2
           have HB13 := hide (HB12.out.drew.trans (h13.mono HB12.out.size))
           have HW13 := hide (HW12.out.drew1.below h13 lm12)
           clear h13)
        | (go_at_call 46
           refine (mul_any _ _ _ _ (by omega) (by omega)).mono ?_
           rintro e w14 ⟨rfl, hw14⟩
           obtain rfl := hw14.symm)
        | (go_at_call 47
           refine (add_any _ _ _ _ (by omega) (by omega)).mono ?_
           rintro e w14 ⟨rfl, hw14⟩
           obtain rfl := hw14.symm)))
      all_goals (
        go_wp2_with fail
        go_roundg g
        case measure => omega
        case rel =>
          refine ⟨k + 1, by omega, by go_num, (HW13.out.set p hpn _).congr (fun j hj => ?_), HB13.out.trans ((Only.setCell bm (om + p) _ _).below hbm)⟩
          have hm := take_mem_step hlt j
          rw [HPp.out] at hm
          by_cases e : j = p
          · rw [if_pos e, if_pos (hm.2 (.inr e)), e]
            unfold put
            rw [HEp.out, HSp.out]
          · rw [if_neg e]
            by_cases e2 : j ∈ L.take k
            · rw [if_pos e2, if_pos (hm.2 (.inl e2))]
            · rw [if_neg e2, if_neg (fun h => (hm.1 h).elim e2 e)])
    · obtain rfl : k = L.length := by omega
      go_wp2_with fail
      go_ret
      have ht := HT.out
      refine ⟨_, c11, l0, b0, l1, b1, a0, nl, k1, rfl, HE.out, by omega, by omega, New.of_wr (HW.out.congr fun j hj => ?_) (Nat.le_trans HC.out.B.size hbm) (HC.out.B.trans (HB.out.mono HC.out.B.size)) hcap (md16 H16.out HF.out.s0.bd) (fun j hj => ?_)⟩
      · unfold md
        rw [List.take_length]
        by_cases e : j ∈ L
        · rw [if_pos e, if_pos ((HLm.out j).1 e)]
        · rw [if_neg e, if_neg (fun h => e ((HLm.out j).2 h))]
      · unfold md
        rw [if_neg (by omega)]
        exact HC.out.wd.out j hj

end Go.Proofs.Ytdbdidohldhnhaa
