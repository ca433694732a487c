/- The document's own erased: the word with some places made such that it is right. For words of at most 255 symbols. -/
import Derived.Test.YtdbdidohldhnhaaRowsM
import Derived.Test.YtdbdidohldhnhaaDecodeLg
namespace Go.Proofs.Ytdbdidohldhnhaa
open Go.RowKit Gf
set_option linter.unusedVariables false

theorem Uq.congr {M M' : Nat → Nat → Int} {R n : Nat} {x : Nat → Int} (h : Uq M R n x) (e : ∀ i, i < R → ∀ k, k ≤ n → M i k = M' i k) : Uq M' R n x :=
  h.of fun v _ => by
    have hd : ∀ i, i < R → dot n (M i) v = dot n (M' i) v := fun i hi => sm_congr fun k hk => by
      show gI (M i k) (v k) = gI (M' i k) (v k)
      rw [e i hi k (by omega)]
    exact ⟨fun h i hi => by rw [← hd i hi]; exact h i hi, fun h i hi => by rw [hd i hi]; exact h i hi⟩
/-- A row of the equations for what stands at the places A. -/
def ew (n : Nat) (A : List Nat) (s : Nat → Int) (j : Nat) : Nat → Int := cat A.length (fun k => if k < A.length then al (j * (n - 1 - A.getD k 0)) else 0) (lf [s j])
theorem ea16 (n : Nat) (A : List Nat) (j : Nat) : P16 (fun k => if k < A.length then al (j * (n - 1 - A.getD k 0)) else 0) := fun k => by
  show 0 ≤ (if k < A.length then al (j * (n - 1 - A.getD k 0)) else 0) ∧ (if k < A.length then al (j * (n - 1 - A.getD k 0)) else 0) ≤ 65535
  split
  · exact al16 _
  · exact z16
theorem ew16 {n : Nat} {A : List Nat} {s : Nat → Int} (hs : P16 s) (j : Nat) : P16 (ew n A s j) := cat16 (ea16 n A j) (lf16 (by
  intro x hx
  have : x = s j := by simpa using hx
  rw [this]
  exact hs j))
theorem ew_em {n : Nat} {A : List Nat} {s : Nat → Int} {j k : Nat} (hk : k ≤ A.length) : ew n A s j k = em n A s j k := by
  unfold ew em cat
  by_cases h : k < A.length
  · rw [if_pos h, if_pos h]
    show (if k < A.length then al (j * (n - 1 - A.getD k 0)) else 0) = _
    rw [if_pos h]
  · rw [if_neg h, if_neg h, show k - A.length = 0 from by omega]
    rfl
theorem zat_out {A : List Nat} {f : Nat → Int} {n : Nat} (h : ∀ j, n ≤ j → f j = 0) : ∀ j, n ≤ j → zat A f j = 0 := fun j hj => by
  unfold zat
  split
  · rfl
  · exact h j hj
theorem zat_step {A : List Nat} {k : Nat} (hk : k < A.length) {f : Nat → Int} (j : Nat) : (if j = A.getD k 0 then 0 else zat (A.take k) f j) = zat (A.take (k + 1)) f j := by
  have hm := take_mem_step hk j
  unfold zat
  by_cases e : j = A.getD k 0
  · rw [if_pos e, if_pos (hm.2 (.inr e))]
  · rw [if_neg e]
    by_cases e2 : j ∈ A.take k
    · rw [if_pos e2, if_pos (hm.2 (.inl e2))]
    · rw [if_neg e2, if_neg (fun h => (hm.1 h).elim e2 e)]
theorem getD_mem {A : List Nat} {k : Nat} (hk : k < A.length) : A.getD k 0 ∈ A := by rw [List.getD_eq_getElem?_getD, List.getElem?_eq_getElem hk]; exact List.getElem_mem hk
theorem getD_inj {A : List Nat} (hd : A.Nodup) {i j : Nat} (hi : i < A.length) (hj : j < A.length) (e : A.getD i 0 = A.getD j 0) : i = j := by
  rw [List.getD_eq_getElem?_getD, List.getElem?_eq_getElem hi, List.getD_eq_getElem?_getD, List.getElem?_eq_getElem hj] at e
  exact (List.getElem_inj hd).1 e

set_option maxRecDepth 100000 in
set_option maxHeartbeats 4000000 in
theorem erased_any {w : World} {a ag : Option Addr} {n c cg r : Nat} {f : Nat → Int} {A : List Nat} (h : Sl w a n c f) (hg : Il w ag A.length cg (lg A)) (hn0 : 0 < n) (hn : n ≤ 255) (hr : r ≤ n) (hd : A.Nodup) (hl : ∀ p ∈ A, p < n) (hA : A.length ≤ r) :
    Calls Try.prog 29 #[.slice a n c, .int .i64 (r : Int), .slice ag A.length cg] w fun e w' => Below w.heap.size w w' ∧
      ((e = .returned (.tuple #[.slice none 0 0, .bool false]) ∧ ∀ cw, ¬ Er n f r A cw) ∨ ∃ a' c', e = .returned (.tuple #[.slice a' n c', .bool true]) ∧ ∃ F, Sl w' a' n c' F ∧ (∀ p, p < n → p ∉ A → F p = f p) ∧ ∀ cw, Er n f r A cw → F = cw) := by
  have HS := hide (And.intro h hg)
  have HD := hide hd
  have HLt := hide hl
  have HO1 := hide (owns_nil w nul)
  have HBL1 := hide (bel_lit w (.cells #[] 29))
  have HL1 := hide (h.alloc (.cells #[] 29))
  clear h hg hd hl
  obtain ⟨K, hK⟩ : ∃ K, A.length = K := ⟨_, rfl⟩
  have HK := hide hK
  rw [hK] at HS hA ⊢
  clear hK
  go_enter Try.func29, Try.ntmps29
  go_wp2_with (
    refine append_sl rfl (.tmp 18) (.tmp 19) rfl w.heap.size _ 0 nul rfl HO1.out _ n c f rfl HL1.out (by omega) (by simp) w HBL1.out ?_
    intro v2 w2 hown2 hb2
    rw [Nat.zero_add, cat_nil] at hown2
    obtain ⟨bo, co, hv2, hbo, hco, hw2⟩ := owns_at hown2 hn0
    subst hv2
    have HW2 := hide hw2
    have HB2 := hide hb2
    clear hown2 hb2 hw2)
  go_loopg [9] K (fun g t wr => ∃ k : Nat, k + g = K ∧ t = .int .i64 k ∧ Wr wr bo 0 n (zat (A.take k) f) ∧ Below w.heap.size w wr)
  case atStart => exact ⟨0, by omega, rfl, HW2.out.congr (fun j hj => by unfold zat; simp), HB2.out⟩
  case round =>
    obtain ⟨k, hkg, rfl, hwk, hbk⟩ := hrel
    have HWk := hide hwk
    have HBk := hide hbk
    clear hwk hbk
    by_cases hk : k < K
    · have hk' : (k : Int) < (K : Int) := by omega
      have hkA : k < A.length := by rw [HK.out]; exact hk
      obtain ⟨bg, og, eg, hbg, hcg⟩ := HS.out.2.at'.resolve_left (by omega)
      subst eg
      obtain ⟨p, hp⟩ : ∃ p, A.getD k 0 = p := ⟨_, rfl⟩
      have hpn : p < n := HLt.out p (hp ▸ getD_mem hkA)
      have x1 : wr.cell? ⟨bg, og + k, none⟩ = some (.int .i64 (p : Int)) := by
        have := c_be HBk.out hbg (hcg k hk)
        unfold lg at this
        rwa [hp] at this
      have x2 := HWk.out.cell p hpn
      have x3 := HWk.out.free p hpn
      rw [Nat.zero_add] at x2 x3
      have hst := fun j => zat_step hkA (f := f) j
      rw [hp] at hst
      have HST := hide hst
      obtain ⟨g3, rfl⟩ : ∃ g3, gk = g3 + 1 := ⟨gk - 1, by omega⟩
      clear hcg hp hst
      go_wp2_with fail
      go_roundg g3
      case measure => omega
      case rel =>
        have h9 := HWk.out.set p hpn 0
        rw [Nat.zero_add] at h9
        exact ⟨k + 1, by omega, by go_num, h9.congr (fun j hj => HST.out j), HBk.out.trans ((Only.setCell bo p _ _).below hbo)⟩
    · have hk' : ¬ (k : Int) < (K : Int) := by omega
      obtain rfl : k = K := by omega
      obtain ⟨wo, hwo⟩ : ∃ v, v = wr := ⟨_, rfl⟩
      subst hwo
      have hz : A.take k = A := by rw [← HK.out, List.take_length]
      rw [hz] at HWk
      have f16 := HS.out.1.bd
      have hSz : Sl wo (some ⟨bo, 0, none⟩) n co (zat A f) := HWk.out.sl co hco (zat16 f16) (zat_out HS.out.1.out)
      have HSz := hide hSz
      clear hz f16 hSz
      go_wp2_with fail
      refine (rfdsums_any HSz.out r (by omega) hn).mono ?_
      rintro e w4 ⟨a4, c4, rfl, h4⟩
      have H4 := hide h4.sl
      have HB4 := hide h4.bel
      have HT4 := hide (HBk.out.trans (h4.bel.mono HBk.out.size))
      have HG4 := hide (HS.out.2.below HT4.out)
      have s16 : P16 (vs n (zat A f) r) := h4.sl.bd
      have HS16 := hide s16
      clear h4 s16
      go_wp2_with fail
      go_loopg [11, 12, 13, 14] r (fun g l t _ _ wr => ∃ (j : Nat) (bl cp : Nat → Nat) (M : Nat → Nat → Int), j + g = r ∧ t = .int .i64 j ∧ Rws w4.heap.size wr l j (k + 1) bl cp M ∧ (∀ i, i < j → M i = ew n A (vs n (zat A f) r) i) ∧ Below w4.heap.size w4 wr)
      case atStart => exact ⟨0, fun _ => 0, fun _ => 0, fun _ => nul, by omega, rfl, Rws.nil _ _ _ _ _ _, fun i hi => by omega, Below.refl _ _⟩
      case round =>
        obtain ⟨j, bl, cp, M, hjg, rfl, hrw, hMe, hbj⟩ := hrel
        have HR := hide hrw
        have HMe := hide hMe
        have HBj := hide hbj
        clear hrw hMe hbj
        obtain ⟨wj, hwj⟩ : ∃ v, v = wr := ⟨_, rfl⟩
        subst hwj
        by_cases hj : j < r
        · have hj' : (j : Int) < (r : Int) := by omega
          obtain ⟨gg, rfl⟩ : ∃ gg, gk = gg + 1 := ⟨gk - 1, by omega⟩
          go_wp2_with fail
          go_loopg [13, 14] k (fun g l t wr => ∃ i : Nat, i + g = k ∧ t = .int .i64 i ∧ wr.ownsRow wj.heap.size 29 1 l i (vals (fun q => if q < A.length then al (j * (n - 1 - A.getD q 0)) else 0) i) ∧ Below wj.heap.size wj wr)
          case atStart => exact ⟨0, by omega, rfl, World.ownsRow_nil _ _ _ _, Below.refl _ _⟩
          case round =>
            obtain ⟨i, hig, rfl, hown, hbi⟩ := hrel
            have HOi := hide hown
            have HBi := hide hbi
            clear hown hbi
            obtain ⟨wi, hwi⟩ : ∃ v, v = wr := ⟨_, rfl⟩
            subst hwi
            by_cases hi : i < k
            · have hi' : (i : Int) < (k : Int) := by omega
              have hiA : i < A.length := by rw [HK.out]; exact hi
              obtain ⟨bg, og, eg, hbg, hcg⟩ := HG4.out.at'.resolve_left (by omega)
              subst eg
              obtain ⟨p, hp⟩ : ∃ p, A.getD i 0 = p := ⟨_, rfl⟩
              have hpn : p < n := HLt.out p (hp ▸ getD_mem hiA)
              have x1 : wi.cell? ⟨bg, og + i, none⟩ = some (.int .i64 (p : Int)) := by
                have := c_be HBi.out (Nat.lt_of_lt_of_le hbg HBj.out.size) (c_be HBj.out hbg (hcg i hi))
                unfold lg at this
                rwa [hp] at this
              obtain ⟨q, hq⟩ : ∃ q, j * (n - 1 - p) = q := ⟨_, rfl⟩
              have hqI : (j : Int) * ((n : Int) - 1 - (p : Int)) = (q : Int) := by
                rw [← hq, Int.natCast_mul, show ((n - 1 - p : Nat) : Int) = (n : Int) - 1 - (p : Int) from by omega]
              have hqb : q ≤ 255 * 255 := by rw [← hq]; exact Nat.mul_le_mul (by omega) (by omega)
              have HQ := hide hq
              have HP := hide hp
              have hsz := HBi.out.size
              have l1 : Sl (wi.alloc (.cells #[.int .u16 (al q)] 29)) (some ⟨wi.heap.size, 0, none⟩) 1 1 (lf [al q]) := sl_lit wi [al q] (by
                intro y hy
                have : y = al q := by simpa using hy
                rw [this]
                exact al16 q)
              have HL := hide l1
              have HB5 := hide (HBi.out.alloc hsz (.cells #[.int .u16 (al q)] 29))
              obtain ⟨g3, rfl⟩ : ∃ g3, gk = g3 + 1 := ⟨gk - 1, by omega⟩
              clear hcg hp hq l1
              go_wp2_with fail
              refine (refExp_al q _ _ rfl (by omega)).mono ?_
              rintro e w5 ⟨rfl, hw5⟩
              obtain rfl := hw5.symm
              go_wp2_with (refine append_sl rfl (.tmp 47) (.tmp 59) rfl wj.heap.size _ i (fun q => if q < A.length then al (j * (n - 1 - A.getD q 0)) else 0) rfl (HOi.out.alloc _) (some ⟨wi.heap.size, 0, none⟩) 1 1 (lf [al q]) rfl HL.out (by omega) (by simp; omega) wj HB5.out ?_; intro v6 w6 hown6 hb6)
              have HO6 := hide hown6
              have HB6 := hide hb6
              clear hown6 hb6
              go_wp2_with fail
              go_roundg g3
              case measure => omega
              case rel =>
                refine ⟨i + 1, by omega, by go_num, ?_, HB6.out⟩
                have h9 := HO6.out
                have e : vals (cat i (fun q => if q < A.length then al (j * (n - 1 - A.getD q 0)) else 0) (lf [al q])) (i + 1) = vals (fun q => if q < A.length then al (j * (n - 1 - A.getD q 0)) else 0) (i + 1) := by
                  unfold vals
                  refine List.map_congr_left fun y hy => ?_
                  have hy' : y < i + 1 := by simpa using hy
                  congr 1
                  unfold cat
                  by_cases h2 : y < i
                  · rw [if_pos h2]
                  · obtain rfl : y = i := by omega
                    rw [if_neg (by omega), Nat.sub_self]
                    show al q = if y < A.length then al (j * (n - 1 - A.getD y 0)) else 0
                    rw [if_pos hiA, HP.out, HQ.out]
                rw [e] at h9
                exact h9
            · have hi' : ¬ (i : Int) < (k : Int) := by omega
              obtain rfl : i = k := by omega
              obtain ⟨bs, os, es, hbs, hcs⟩ := H4.out.at'.resolve_left (by omega)
              subst es
              obtain ⟨y, hy⟩ : ∃ y, vs n (zat A f) r j = y := ⟨_, rfl⟩
              have y16 : 0 ≤ y ∧ y ≤ 65535 := hy ▸ HS16.out j
              have x1 : wi.cell? ⟨bs, os + j, none⟩ = some (.int .u16 y) := by
                have := c_be HBi.out (Nat.lt_of_lt_of_le hbs HBj.out.size) (c_be HBj.out hbs (hcs j hj))
                rwa [hy] at this
              have HY := hide hy
              have hsz := HBi.out.size
              have hszj := HBj.out.size
              have l1 : Sl (wi.alloc (.cells #[.int .u16 y] 29)) (some ⟨wi.heap.size, 0, none⟩) 1 1 (lf [y]) := sl_lit wi [y] (by
                intro z hz
                have : z = y := by simpa using hz
                rw [this]
                exact y16)
              have HL := hide l1
              have HB5 := hide (HBi.out.alloc hsz (.cells #[.int .u16 y] 29))
              clear hcs hy l1
              go_wp2_with (first
                | (refine append_sl rfl (.tmp 62) (.tmp 67) rfl wj.heap.size _ i (fun q => if q < A.length then al (j * (n - 1 - A.getD q 0)) else 0) rfl (HOi.out.alloc _) (some ⟨wi.heap.size, 0, none⟩) 1 1 (lf [y]) rfl HL.out (by omega) (by simp; omega) wj HB5.out ?_
                   intro v7 w7 hown7 hb7
                   obtain ⟨gb, gc, hv7, hgb, hgc, hgw⟩ := owns_at hown7 (by omega)
                   subst hv7
                   have e7 : vals (cat i (fun q => if q < A.length then al (j * (n - 1 - A.getD q 0)) else 0) (lf [y])) (i + 1) = vals (ew n A (vs n (zat A f) r) j) (i + 1) := by
                     unfold ew
                     rw [HK.out, HY.out]
                   rw [e7] at hown7
                   have HO7 := hide (owns_mono hown7 HBj.out.size)
                   have HB7 := hide hb7
                   have hs7 := hb7.size
                   have HR7 := hide (HR.out.below hb7)
                   have hfr : ∀ q, q < j → bl q ≠ gb := fun q hq e => by
                     have := ((HR.out.row q hq).lt (bl q) rfl).2
                     omega
                   have HFR := hide hfr
                   clear hown7 hb7 hgw e7 hfr)
                | (refine append_row rfl (.tmp 61) (.tmp 69) rfl w4.heap.size _ j (i + 1) gb gc bl cp M (ew n A (vs n (zat A f) r) j) rfl (HR7.out.below (bel_lit w7 _)) ⟨w7.heap.size, 0, none⟩ rfl (new_cell w7 _ _ 0 _ rfl) (HO7.out.alloc _) HFR.out (by omega) (by omega) (by simp; omega) w4 ((HBj.out.trans (HB7.out.mono HBj.out.size)).alloc (by omega) _) ?_
                   intro v8 w8 bl8 cp8 M8 hR8 hM8 hM8' hb8
                   have HR8 := hide hR8
                   have HM8 := hide (And.intro hM8 hM8')
                   have HB8 := hide hb8
                   clear hR8 hM8 hM8' hb8))
              go_roundg gg
              case measure => omega
              case rel =>
                refine ⟨j + 1, bl8, cp8, M8, by omega, by go_num, HR8.out, fun q hq => ?_, HB8.out⟩
                by_cases e : q = j
                · rw [e]; exact HM8.out.2
                · rw [HM8.out.1 q (by omega)]; exact HMe.out q (by omega)
        · have hj' : ¬ (j : Int) < (r : Int) := by omega
          obtain rfl : j = r := by omega
          have cS := solve_rws (HR.out.congr HMe.out) (by omega) (by omega) (by omega) (ew16 HS16.out) HBj.out.size
          have HCS := hide cS
          have hEU : ∀ cw, Er n f j A cw → Uq (fun i => ew n A (vs n (zat A f) j) i) j k (fun q => if q < A.length then cw (A.getD q 0) else 1) := fun cw hcw => by
            have h1 := er_uq HS.out.1.bd hn HD.out HLt.out (by rw [HK.out]; exact hA) hcw
            rw [HK.out] at h1 ⊢
            refine h1.congr fun i hi q hq => ?_
            show em n A (fun j => vh (al j) n (zat A f)) i q = ew n A (vs n (zat A f) j) i q
            rw [ew_em (by rw [HK.out]; exact hq)]
            unfold em
            split
            · rfl
            · show vh (al i) n (zat A f) = if i < j then vh (al i) n (zat A f) else 0
              rw [if_pos hi]
          have HEU := hide hEU
          clear cS hEU
          go_wp2_with fail
          refine HCS.out.mono ?_
          rintro e w5 ⟨hb5, hr5⟩
          have HB5 := hide (HBj.out.trans hb5)
          have HT5 := hide (HT4.out.trans ((HBj.out.trans hb5).mono HT4.out.size))
          clear hb5
          rcases hr5 with ⟨rfl, hno⟩ | ⟨a5, c5, y, rfl, h5, hnb, hy⟩
          · have HNO := hide hno
            clear hno
            go_wp2_with fail
            go_ret2
            exact ⟨HT5.out, .inl ⟨rfl, fun cw hcw => HNO.out _ (HEU.out cw hcw)⟩⟩
          · have H5 := hide h5
            have HY := hide hy
            have hbow : bo < wj.heap.size := Nat.lt_of_lt_of_le (Nat.lt_of_lt_of_le HWk.out.lt HB4.out.size) HBj.out.size
            have HNB := hide hnb
            have hw5 := (HWk.out.below HB4.out HWk.out.lt).below HB5.out (Nat.lt_of_lt_of_le HWk.out.lt HB4.out.size)
            have HW5 := hide hw5
            clear h5 hy hw5 hnb
            go_wp2_with fail
            go_loopg [17] k (fun g t wr => ∃ (i : Nat) (F : Nat → Int), i + g = k ∧ t = .int .i64 i ∧ Wr wr bo 0 n F ∧ P16 F ∧ (∀ p, n ≤ p → F p = 0) ∧ (∀ q, q < i → F (A.getD q 0) = y q) ∧ (∀ p, p ∉ A → F p = f p) ∧ Sl wr a5 k c5 y ∧ Below w.heap.size w wr)
            case atStart => exact ⟨0, zat A f, by omega, rfl, HW5.out, zat16 HS.out.1.bd, zat_out HS.out.1.out, fun q hq => by omega, fun p hp => if_neg hp, H5.out, HT5.out⟩
            case round =>
              obtain ⟨i, F, hig, rfl, hw, hF16, hFo, hFy, hFf, hS, hb⟩ := hrel
              have HW := hide hw
              have HF := hide (And.intro hF16 (And.intro hFo (And.intro hFy hFf)))
              have HSy := hide hS
              have HB := hide hb
              clear hw hF16 hFo hFy hFf hS hb
              by_cases hi : i < k
              · have hi' : (i : Int) < (k : Int) := by omega
                have hiA : i < A.length := by rw [HK.out]; exact hi
                obtain ⟨bg, og, eg, hbg, hcg⟩ := HS.out.2.at'.resolve_left (by omega)
                obtain ⟨by', oy, ey, hby, hcy⟩ := HSy.out.at'.resolve_left (by omega)
                subst eg
                obtain ⟨p, hp⟩ : ∃ p, A.getD i 0 = p := ⟨_, rfl⟩
                have hpn : p < n := HLt.out p (hp ▸ getD_mem hiA)
                have x1 : wr.cell? ⟨bg, og + i, none⟩ = some (.int .i64 (p : Int)) := by
                  have := c_be HB.out hbg (hcg i hi)
                  unfold lg at this
                  rwa [hp] at this
                have x2 : wr.cell? ⟨by', oy + i, none⟩ = some (.int .u16 (y i)) := hcy i hi
                have hyb : by' ≠ bo := by
                  rcases HNB.out with h0 | h1
                  · omega
                  · intro e
                    exact h1 _ ey (by show by' < wj.heap.size; omega)
                have x3 := HW.out.cell p hpn
                have x4 := HW.out.free p hpn
                rw [Nat.zero_add] at x3 x4
                have y16 := HSy.out.bd i
                have HP := hide hp
                have hpA : p ∈ A := hp ▸ getD_mem hiA
                have HPA := hide hpA
                have HYB := hide hyb
                have HEY := hide ey
                obtain ⟨g3, rfl⟩ : ∃ g3, gk = g3 + 1 := ⟨gk - 1, by omega⟩
                subst ey
                clear hcg hcy hp hpA
                go_wp2_with fail
                go_region
                all_goals (
                  go_wp2_with fail
                  go_roundg g3
                  case measure => omega
                  case rel =>
                    have h9 := HW.out.set p hpn (y i)
                    rw [Nat.zero_add] at h9
                    have ho := Only.setCell bo p wr (.int .u16 (y i))
                    refine ⟨i + 1, fun j => if j = p then y i else F j, by omega, by go_num, h9.drew1, fun j => ?_, fun j hj => ?_, fun q hq => ?_, fun j hj => ?_, (ho.sl HSy.out (fun x e => by cases e; exact HYB.out)).drew, (HB.out.trans (ho.below hbo)).drew⟩
                    · show 0 ≤ (if j = p then y i else F j) ∧ (if j = p then y i else F j) ≤ 65535
                      split
                      · exact y16
                      · exact HF.out.1 j
                    · show (if j = p then y i else F j) = 0
                      rw [if_neg (by omega)]
                      exact HF.out.2.1 j hj
                    · show (if A.getD q 0 = p then y i else F (A.getD q 0)) = y q
                      by_cases e : q = i
                      · rw [e, if_pos HP.out]
                      · rw [if_neg (fun h => e (getD_inj HD.out (by rw [HK.out]; omega) hiA (by rw [h, HP.out])))]
                        exact HF.out.2.2.1 q (by omega)
                    · show (if j = p then y i else F j) = f j
                      rw [if_neg (fun (h : j = p) => hj (h ▸ HPA.out))]
                      exact HF.out.2.2.2 j hj)
              · have hi' : ¬ (i : Int) < (k : Int) := by omega
                obtain rfl : i = k := by omega
                go_wp2_with fail
                go_ret2
                refine ⟨HB.out, .inr ⟨_, co, rfl, F, HW.out.sl co hco HF.out.1 HF.out.2.1, fun p _ hp => HF.out.2.2.2 p hp, fun cw hcw => ?_⟩⟩
                have hyq := HY.out _ (HEU.out cw hcw)
                funext p
                by_cases hpn : p < n
                · by_cases hpA : p ∈ A
                  · obtain ⟨q, hq, e⟩ := List.mem_iff_getElem.1 hpA
                    have e' : A.getD q 0 = p := by rw [List.getD_eq_getElem?_getD, List.getElem?_eq_getElem hq]; exact e
                    have hqk : q < i := by rw [← HK.out]; exact hq
                    have h1 := HF.out.2.2.1 q hqk
                    have h2 : y q = if q < A.length then cw (A.getD q 0) else 1 := hyq q hqk
                    rw [e'] at h1 h2
                    rw [h1, h2, if_pos hq]
                  · rw [HF.out.2.2.2 p hpA, hcw.same p hpn hpA]
                · rw [HF.out.2.1 p (by omega), hcw.out p (by omega)]

end Go.Proofs.Ytdbdidohldhnhaa
