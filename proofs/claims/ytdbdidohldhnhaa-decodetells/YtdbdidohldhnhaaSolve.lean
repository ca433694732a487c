/- The document's own solving of equations, in memory: rows of rows. For at most 255 rows of at most 256 numbers. -/
import Derived.Test.YtdbdidohldhnhaaDRef1
namespace Go.Proofs.Ytdbdidohldhnhaa
open Go.RowKit Gf
set_option linter.unusedVariables false

/-- Rows of N numbers, R of them, each in a block of its own that may be written; the blocks lie from B on. -/
structure Mat (B : Nat) (w : World) (bm om R N : Nat) (bl of cp : Nat → Nat) (M : Nat → Nat → Int) : Prop where
  lt : bm < w.heap.size
  ge : B ≤ bm
  ptr : ∀ i, i < R → w.cell? ⟨bm, om + i, none⟩ = some (.slice (some ⟨bl i, of i, none⟩) N (cp i))
  fz : ∀ i, i < R → w.frozen? ⟨bm, om + i, none⟩ = false
  row : ∀ i, i < R → Wr w (bl i) (of i) N (M i)
  bge : ∀ i, i < R → B ≤ bl i
  ne : ∀ i, i < R → bl i ≠ bm
  inj : ∀ i j, i < R → j < R → bl i = bl j → i = j
  bd : ∀ i, P16 (M i)
theorem Mat.below {B : Nat} {w w' : World} {bm om R N : Nat} {bl of cp : Nat → Nat} {M : Nat → Nat → Int} (h : Mat B w bm om R N bl of cp M) (hb : Below w.heap.size w w') : Mat B w' bm om R N bl of cp M :=
  ⟨Nat.lt_of_lt_of_le h.lt hb.size, h.ge, fun i hi => c_be hb h.lt (h.ptr i hi), fun i hi => (hb.frozen (p := ⟨bm, om + i, none⟩) h.lt).trans (h.fz i hi), fun i hi => (h.row i hi).below hb (h.row i hi).lt, h.bge, h.ne, h.inj, h.bd⟩
theorem Mat.drew {B : Nat} {w : World} {bm om R N : Nat} {bl of cp : Nat → Nat} {M : Nat → Nat → Int} (h : Mat B w bm om R N bl of cp M) : Mat B w.drew bm om R N bl of cp M :=
  ⟨h.lt, h.ge, h.ptr, h.fz, fun i hi => (h.row i hi).drew1, h.bge, h.ne, h.inj, h.bd⟩
theorem Mat.drewN {B : Nat} {w : World} {bm om R N : Nat} {bl of cp : Nat → Nat} {M : Nat → Nat → Int} (h : Mat B w bm om R N bl of cp M) (q : Nat) : Mat B (w.drewN q) bm om R N bl of cp M :=
  ⟨h.lt, h.ge, h.ptr, h.fz, fun i hi => (h.row i hi).drew q, h.bge, h.ne, h.inj, h.bd⟩
theorem Mat.congr {B : Nat} {w : World} {bm om R N : Nat} {bl of cp : Nat → Nat} {M M' : Nat → Nat → Int} (h : Mat B w bm om R N bl of cp M) (bd : ∀ i, P16 (M' i)) (e : ∀ i, i < R → ∀ k, k < N → M i k = M' i k) : Mat B w bm om R N bl of cp M' :=
  ⟨h.lt, h.ge, h.ptr, h.fz, fun i hi => (h.row i hi).congr (e i hi), h.bge, h.ne, h.inj, bd⟩
theorem Mat.set {B : Nat} {w : World} {bm om R N : Nat} {bl of cp : Nat → Nat} {M : Nat → Nat → Int} (h : Mat B w bm om R N bl of cp M) {i k : Nat} (hi : i < R) (hk : k < N) {y : Int} (hy : 0 ≤ y ∧ y ≤ 65535) :
    Mat B (w.setCell ⟨bl i, of i + k, none⟩ (.int .u16 y)) bm om R N bl of cp (fun a b => if a = i ∧ b = k then y else M a b) := by
  have ho := Only.setCell (bl i) (of i + k) w (.int .u16 y)
  refine ⟨by rw [ho.size]; exact h.lt, h.ge, fun a ha => ?_, fun a ha => ?_, fun a ha => ?_, h.bge, h.ne, h.inj, fun a b => ?_⟩
  · exact (ho.cell (p := ⟨bm, om + a, none⟩) (fun e => h.ne i hi e.symm)).trans (h.ptr a ha)
  · exact (ho.frozen (p := ⟨bm, om + a, none⟩) (fun e => h.ne i hi e.symm)).trans (h.fz a ha)
  · by_cases e : a = i
    · subst e
      exact ((h.row a ha).set k hk y).congr (fun b hb => by
        by_cases e2 : b = k
        · rw [if_pos e2, if_pos ⟨rfl, e2⟩]
        · rw [if_neg e2, if_neg (fun hh => e2 hh.2)])
    · exact (ho.wr (h.row a ha) (fun e2 => e (h.inj a i ha hi e2))).congr (fun b hb => by rw [if_neg (fun hh => e hh.1)])
  · show 0 ≤ (if a = i ∧ b = k then y else M a b) ∧ (if a = i ∧ b = k then y else M a b) ≤ 65535
    split
    · exact hy
    · exact h.bd a b
/-- What stands at one place stands at the other. -/
def sw (f : Nat → Nat) (a d : Nat) : Nat → Nat := fun i => if i = a then f d else if i = d then f a else f i
theorem Mat.swap {B : Nat} {w : World} {bm om R N : Nat} {bl of cp : Nat → Nat} {M : Nat → Nat → Int} (h : Mat B w bm om R N bl of cp M) {a d : Nat} (ha : a < R) (hd : d < R) :
    Mat B ((w.setCell ⟨bm, om + a, none⟩ (.slice (some ⟨bl d, of d, none⟩) N (cp d))).setCell ⟨bm, om + d, none⟩ (.slice (some ⟨bl a, of a, none⟩) N (cp a))) bm om R N (sw bl a d) (sw of a d) (sw cp a d) (swp M a d) := by
  have o1 := Only.setCell bm (om + a) w (.slice (some ⟨bl d, of d, none⟩) N (cp d))
  have o2 := o1.trans (Only.setCell bm (om + d) _ (.slice (some ⟨bl a, of a, none⟩) N (cp a)))
  have hs : ∀ i, i < R → ∃ j, j < R ∧ sw bl a d i = bl j ∧ sw of a d i = of j ∧ sw cp a d i = cp j ∧ swp M a d i = M j ∧ (i = a ∧ j = d ∨ i ≠ a ∧ i = d ∧ j = a ∨ i ≠ a ∧ i ≠ d ∧ j = i) := fun i hi => by
    unfold sw swp
    by_cases e : i = a
    · exact ⟨d, hd, by rw [if_pos e], by rw [if_pos e], by rw [if_pos e], by rw [if_pos e], .inl ⟨e, rfl⟩⟩
    · by_cases e2 : i = d
      · exact ⟨a, ha, by rw [if_neg e, if_pos e2], by rw [if_neg e, if_pos e2], by rw [if_neg e, if_pos e2], by rw [if_neg e, if_pos e2], .inr (.inl ⟨e, e2, rfl⟩)⟩
      · exact ⟨i, hi, by rw [if_neg e, if_neg e2], by rw [if_neg e, if_neg e2], by rw [if_neg e, if_neg e2], by rw [if_neg e, if_neg e2], .inr (.inr ⟨e, e2, rfl⟩)⟩
  refine ⟨by rw [o2.size]; exact h.lt, h.ge, fun i hi => ?_, fun i hi => ?_, fun i hi => ?_, fun i hi => ?_, fun i hi => ?_, fun i j hi hj e => ?_, swp16 h.bd a d⟩
  · obtain ⟨j, hj, e1, e2, e3, _, hc⟩ := hs i hi
    rw [e1, e2, e3]
    have c1 : (w.setCell ⟨bm, om + a, none⟩ (.slice (some ⟨bl d, of d, none⟩) N (cp d))).cell? ⟨bm, om + a, none⟩ = some (.slice (some ⟨bl d, of d, none⟩) N (cp d)) := World.cell?_setCell_same' _ _ _ (by rw [h.ptr a ha]; rfl)
    have c2 : ((w.setCell ⟨bm, om + a, none⟩ (.slice (some ⟨bl d, of d, none⟩) N (cp d))).cell? ⟨bm, om + d, none⟩).isSome = true := by
      by_cases e : a = d
      · subst e; rw [c1]; rfl
      · rw [World.cell?_setCell_other _ _ _ _ (by intro h'; injection h' with _ h'; omega), h.ptr d hd]
        rfl
    rcases hc with ⟨rfl, rfl⟩ | ⟨hne, rfl, rfl⟩ | ⟨hne, hne2, rfl⟩
    · by_cases e : i = j
      · subst e
        exact World.cell?_setCell_same' _ _ _ c2
      · rw [World.cell?_setCell_other _ _ _ _ (by intro h'; injection h' with _ h'; omega)]
        exact c1
    · exact World.cell?_setCell_same' _ _ _ c2
    · rw [World.cell?_setCell_other _ _ _ _ (by intro h'; injection h' with _ h'; omega), World.cell?_setCell_other _ _ _ _ (by intro h'; injection h' with _ h'; omega)]
      exact h.ptr j hi
  · rw [World.frozen?_setCell, World.frozen?_setCell]; exact h.fz i hi
  · obtain ⟨j, hj, e1, e2, e3, e4, _⟩ := hs i hi
    rw [e1, e2, e4]
    exact o2.wr (h.row j hj) (h.ne j hj)
  · obtain ⟨j, hj, e1, _⟩ := hs i hi
    rw [e1]; exact h.bge j hj
  · obtain ⟨j, hj, e1, _⟩ := hs i hi
    rw [e1]; exact h.ne j hj
  · obtain ⟨p, hp, e1, _, _, _, c1⟩ := hs i hi
    obtain ⟨q, hq, e2, _, _, _, c2⟩ := hs j hj
    rw [e1, e2] at e
    have := h.inj p q hp hq e
    omega

set_option maxRecDepth 100000 in
theorem solve_nil (a : Option Addr) (c n : Nat) (hn : n = 0) (w : World) : Calls Try.prog 28 #[.slice a 0 c, .int .i64 (n : Int)] w fun e w' => e = .returned (.tuple #[.slice none 0 0, .bool true]) ∧ Below w.heap.size w w' := by
  subst hn
  go_enter Try.func28, Try.ntmps28
  go_wp2_with fail
  refine wp_loop_rounds 1 ?_
  rw [rounds_succ]
  go_wp2_with fail
  refine wp_loop_rounds 1 ?_
  rw [rounds_succ]
  go_wp2_with fail
  refine wp_loop_rounds 1 ?_
  rw [rounds_succ]
  go_wp2_with fail
  go_ret2
  exact ⟨rfl, Below.refl _ _⟩

theorem refInv_iv (y : Int) (w : World) (hy : 0 ≤ y ∧ y ≤ 65535) : Calls Try.prog 49 #[.int .u16 y] w fun e w' => e = .returned (.tuple #[.int .u16 (iv y), .bool (y != 0)]) ∧ w' = w := by
  by_cases h0 : y = 0
  · subst h0
    exact refInv_zero w
  · refine (refInv_any y w (by omega) (beq_no h0)).mono ?_
    rintro e w' ⟨rfl, rfl⟩
    refine ⟨?_, rfl⟩
    unfold iv
    rw [if_neg h0, bne_yes h0]

/-- What is known when c columns are done. -/
structure Sv (M0 M : Nat → Nat → Int) (R n c : Nat) : Prop where
  kr : ∀ v, P16 v → (Kr M0 R n v ↔ Kr M R n v)
  pv : Pv M R c

/-- In the midst of a row: s places of row i are done. -/
def el5 (M : Nat → Nat → Int) (d c i s : Nat) : Nat → Nat → Int := fun a k => if (a < i ∧ a ≠ d) ∨ (a = i ∧ k < s) then xI (M a k) (gI (M a c) (M d k)) else M a k
theorem el516 {M : Nat → Nat → Int} (h : ∀ i, P16 (M i)) (d c i s : Nat) : ∀ a, P16 (el5 M d c i s a) := fun a k => by
  unfold el5
  split
  · exact x16 (h a k) (g16 (h a c))
  · exact h a k
theorem sv_fail {M0 M : Nat → Nat → Int} {R n c : Nat} (hM : ∀ i, P16 (M i)) (h : Sv M0 M R n c) (hc : c < n) (hz : ∀ i, c ≤ i → i < R → M i c = 0) : ∀ x, ¬ Uq M0 R n x := fun x hx => by
  obtain ⟨i, h1, h2, h3⟩ := pivot_ex hM h.pv hc (hx.of h.kr)
  exact h3 (hz i h1 h2)
theorem sv_step {M0 M : Nat → Nat → Int} {R n c a : Nat} (hM : ∀ i, P16 (M i)) (h : Sv M0 M R n c) (hc : c < n) (ha : c ≤ a) (haR : a < R) (hne : M a c ≠ 0) : Sv M0 (elm (nrm (swp M a c) c (iv (M a c)) (n + 1)) c c R) R n (c + 1) := by
  have hcR : c < R := by omega
  have e : iv (M a c) = pI (M a c) 65534 := by unfold iv; rw [if_neg hne]
  have hp := pI_bd (M a c) 65534 (by have := hM a c; omega)
  rw [e]
  refine ⟨fun v hv => ?_, pv_step hM h.pv ha haR hne (by omega)⟩
  rw [h.kr v hv, swp_kr haR hcR v, nrm_kr (swp16 hM a c) hcR (by omega) (f19 _ (hM a c) hne) v hv]
  exact elm_kr (nrm16 (swp16 hM a c) c _ _) hcR v hv

set_option maxRecDepth 100000 in
set_option maxHeartbeats 4000000 in
theorem solve_any {B : Nat} {w : World} {bm om R n cm : Nat} {bl of cp : Nat → Nat} {M0 : Nat → Nat → Int} (h : Mat B w bm om R (n + 1) bl of cp M0) (hR : R ≤ 255) (hn : n ≤ 255) :
    Calls Try.prog 28 #[.slice (some ⟨bm, om, none⟩) R cm, .int .i64 (n : Int)] w fun e w' => Below B w w' ∧
      ((e = .returned (.tuple #[.slice none 0 0, .bool false]) ∧ ∀ x, ¬ Uq M0 R n x) ∨ ∃ a c y, e = .returned (.tuple #[.slice a n c, .bool true]) ∧ Sl w' a n c y ∧ Nb (fun b => b < w.heap.size) a n ∧ ∀ x, Uq M0 R n x → ∀ k, k < n → y k = x k) := by
  have HM := hide h
  clear h
  go_enter Try.func28, Try.ntmps28
  go_wp2_with fail
  go_loopg [6, 7, 8, 9, 10, 11, 12, 13, 14] n (fun g d t _ _ _ _ _ _ _ wr => ∃ (c : Nat) (bl of cp : Nat → Nat) (M : Nat → Nat → Int), c + g = n ∧ d = .int .i64 c ∧ t = .int .i64 c ∧ Mat B wr bm om R (n + 1) bl of cp M ∧ Sv M0 M R n c ∧ Below B w wr)
  case atStart => exact ⟨0, bl, of, cp, M0, by omega, rfl, rfl, HM.out, ⟨fun _ _ => Iff.rfl, pv_zero _ _⟩, Below.refl _ _⟩
  case round =>
    clear HM
    obtain ⟨c, bl, of, cp, M, hcg, rfl, rfl, hm, hsv, hbl⟩ := hrel
    have HM := hide hm
    have HV := hide hsv
    have HB := hide hbl
    have hcR := hsv.pv.le
    clear hm hsv hbl
    by_cases hlt : c < n
    · have hlt' : (c : Int) < (n : Int) := by omega
      obtain ⟨gg, rfl⟩ : ∃ gg, gk = gg + 1 := ⟨gk - 1, by omega⟩
      go_wp2_with fail
      go_loopg [8] (R - c) (fun g t wx => ∃ j : Nat, j + g = R ∧ c ≤ j ∧ t = .int .i64 j ∧ (∀ i, c ≤ i → i < j → M i c = 0) ∧ wx = wr)
      case atStart => exact ⟨c, by omega, Nat.le_refl _, rfl, fun i h1 h2 => by omega, rfl⟩
      case round =>
        obtain ⟨a, hag, hca, rfl, hz, hwx⟩ := hrel
        obtain rfl := hwx.symm
        have HZ := hide hz
        clear hz
        by_cases haR : a < R
        · have haR' : (a : Int) < (R : Int) := by omega
          have x1 := HM.out.ptr a haR
          have x2 := (HM.out.row a haR).cell c (by omega)
          by_cases hz0 : M a c = 0
          · have HZ0 := hide hz0
            rw [hz0] at x2
            clear hz0
            obtain ⟨g3, rfl⟩ : ∃ g3, gk = g3 + 1 := ⟨gk - 1, by omega⟩
            go_wp2_with fail
            go_roundg g3
            case measure => omega
            case rel => exact ⟨a + 1, by omega, by omega, by go_num, fun i h1 h2 => by
              by_cases e : i = a
              · rw [e]; exact HZ0.out
              · exact HZ.out i h1 (by omega), rfl⟩
          · have hq : (M a c == 0) = false := beq_no hz0
            have haN : ((a : Int) == (R : Int)) = false := beq_no (by omega)
            have hcR2 : c < R := by omega
            have HNE := hide hz0
            have x3 := HM.out.ptr c hcR2
            have z1 := HM.out.fz a haR
            have z2 := HM.out.fz c hcR2
            clear hz0
            obtain ⟨W2, hW2, bl2, of2, cp2, M2, hm2, hM2, hb2⟩ : ∃ W2, ((wr.setCell ⟨bm, om + a, none⟩ (.slice (some ⟨bl c, of c, none⟩) (n + 1) (cp c))).setCell ⟨bm, om + c, none⟩ (.slice (some ⟨bl a, of a, none⟩) (n + 1) (cp a))).drew = W2 ∧ ∃ bl2 of2 cp2 M2, Mat B W2 bm om R (n + 1) bl2 of2 cp2 M2 ∧ M2 = swp M a c ∧ Below B w W2 :=
              ⟨_, rfl, _, _, _, _, (HM.out.swap haR hcR2).drew, rfl, (HB.out.trans (((Only.setCell bm (om + a) _ _).trans (Only.setCell bm (om + c) _ _)).below HM.out.ge)).drew⟩
            obtain ⟨uu, huu⟩ : ∃ uu, (wr.setCell ⟨bm, om + a, none⟩ (.slice (some ⟨bl c, of c, none⟩) (n + 1) (cp c))).cell? ⟨bm, om + c, none⟩ = some uu := by
              by_cases e : a = c
              · subst e
                exact ⟨_, World.cell?_setCell_same' _ _ _ (by rw [x3]; rfl)⟩
              · exact ⟨_, (World.cell?_setCell_other _ _ _ _ (by intro h'; injection h' with _ h'; omega)).trans x3⟩
            have HM2 := hide hm2
            have HB2 := hide hb2
            have y16 : 0 ≤ M2 c c ∧ M2 c c ≤ 65535 := hm2.bd c c
            have hy : M2 c c = M a c := by
              rw [hM2]
              unfold swp
              by_cases e : c = a
              · rw [if_pos e, e]
              · rw [if_neg e, if_pos rfl]
            have p1 := hm2.ptr c hcR2
            have p2 := (hm2.row c hcR2).cell c (by omega)
            obtain ⟨Y, hY⟩ : ∃ Y, M2 c c = Y := ⟨_, rfl⟩
            rw [hY] at p2 y16 hy
            have HY := hide hy
            have HM2e := hide hM2
            have i16 := iv16 y16
            clear hm2 hb2 hy hM2 hY
            go_wp2_with fail
            go_region
            clear x1 x2 x3 z1 z2 hW2 hq huu
            go_wp2_with fail
            refine (refInv_iv _ _ y16).mono ?_
            rintro e w3 ⟨rfl, hw3⟩
            obtain rfl := hw3.symm
            clear p1 p2
            go_wp2_with fail
            go_loopg [11] (n + 1) (fun g t wx => ∃ k : Nat, k + g = n + 1 ∧ t = .int .i64 k ∧ Mat B wx bm om R (n + 1) bl2 of2 cp2 (nrm M2 c (iv Y) k) ∧ Below B w wx)
            case atStart => exact ⟨0, by omega, rfl, HM2.out.congr (nrm16 HM2.out.bd _ _ _) (fun i hi k hk => by unfold nrm; rw [if_neg (by omega)]), HB2.out⟩
            case round =>
              obtain ⟨k, hkg, rfl, hmk, hbk⟩ := hrel
              have HMk := hide hmk
              have HBk := hide hbk
              clear hmk hbk
              by_cases hk : k < n + 1
              · have hk' : (k : Int) ≤ (n : Int) := by omega
                have p1 := HMk.out.ptr c hcR2
                have p2 : wr.cell? ⟨bl2 c, of2 c + k, none⟩ = some (.int .u16 (M2 c k)) := by
                  rw [(HMk.out.row c hcR2).cell k hk]
                  unfold nrm
                  rw [if_neg (by omega)]
                have p3 := (HMk.out.row c hcR2).free k hk
                have m16 := HM2.out.bd c k
                have hkn : k < n + 1 := hk
                have hkn' : (k : Int) < (n : Int) + 1 := by omega
                have hcR' : (c : Int) < (R : Int) := by omega
                obtain ⟨g3, rfl⟩ : ∃ g3, gk = g3 + 1 := ⟨gk - 1, by omega⟩
                go_wp2_with fail
                refine wp_region_still_tail 14 (by kernel_rfl) (by kernel_rfl) ?_
                simp only [List.take_succ_cons, List.take_zero, List.drop_succ_cons, List.drop_zero]
                repeat still_step
                still_call (refMul_any _ _ _ (by omega) (by omega))
                refine wpStill_nil ?_
                go_wp2_with fail
                go_roundg g3
                case measure => omega
                case rel =>
                  refine ⟨k + 1, by omega, by go_num, ((HMk.out.set hcR2 hk (g16 m16)).drew).congr (nrm16 HM2.out.bd _ _ _) (fun i hi b hb => ?_), (HBk.out.trans ((Only.setCell (bl2 c) (of2 c + k) _ _).below (HMk.out.bge c hcR2))).drew⟩
                  show (if i = c ∧ b = k then gI (M2 c k) (iv Y) else nrm M2 c (iv Y) k i b) = nrm M2 c (iv Y) (k + 1) i b
                  unfold nrm
                  by_cases e1 : i = c
                  · by_cases e2 : b = k
                    · rw [if_pos ⟨e1, e2⟩, if_pos ⟨e1, by omega⟩, e2]
                    · rw [if_neg (fun h => e2 h.2)]
                      by_cases e3 : b < k
                      · rw [if_pos ⟨e1, e3⟩, if_pos ⟨e1, by omega⟩]
                      · rw [if_neg (fun h => e3 h.2), if_neg (fun h => by omega)]
                  · rw [if_neg (fun h => e1 h.1), if_neg (fun h => e1 h.1), if_neg (fun h => e1 h.1)]
              · have hk' : ¬ (k : Int) ≤ (n : Int) := by omega
                obtain rfl : k = n + 1 := by omega
                obtain ⟨M3, hM3⟩ : ∃ M3, nrm M2 c (iv Y) (n + 1) = M3 := ⟨_, rfl⟩
                rw [hM3] at HMk
                have HM3e := hide hM3
                have b16 := HMk.out.bd
                have HB3 := hide b16
                clear hM3 b16
                go_wp2_with fail
                go_loopg [12, 13, 14] R (fun g t _ _ wx => ∃ i : Nat, i + g = R ∧ t = .int .i64 i ∧ Mat B wx bm om R (n + 1) bl2 of2 cp2 (elm M3 c c i) ∧ Below B w wx)
                case atStart => exact ⟨0, by omega, rfl, HMk.out.congr (elm16 HB3.out _ _ _) (fun i hi k hk => by unfold elm; rw [if_neg (by omega)]), HBk.out⟩
                case round =>
                  obtain ⟨i, hig, rfl, hmi, hbi⟩ := hrel
                  have HMi := hide hmi
                  have HBi := hide hbi
                  clear hmi hbi
                  by_cases hi : i < R
                  · have hi' : (i : Int) < (R : Int) := by omega
                    have p1 := HMi.out.ptr i hi
                    have p2 : wr.cell? ⟨bl2 i, of2 i + c, none⟩ = some (.int .u16 (M3 i c)) := by
                      rw [(HMi.out.row i hi).cell c (by omega)]
                      unfold elm
                      rw [if_neg (by omega)]
                    have hcn1 : c < n + 1 := by omega
                    obtain ⟨g4, rfl⟩ : ∃ g4, gk = g4 + 1 := ⟨gk - 1, by omega⟩
                    by_cases hskip : i = c ∨ M3 i c = 0
                    · have hrel' : ∀ b, b < R → ∀ k, k < n + 1 → elm M3 c c i b k = elm M3 c c (i + 1) b k := fun b hb k hk => by
                        unfold elm
                        by_cases e1 : b = i
                        · rw [if_neg (fun h => by omega)]
                          by_cases e2 : b = c
                          · rw [if_neg (fun h => h.2 e2)]
                          · rcases hskip with h | h
                            · exact (e2 (by omega)).elim
                            · rw [if_pos ⟨by omega, e2⟩, e1, h, f12, f6 _ (HB3.out i k).1]
                        · by_cases e2 : b < i ∧ b ≠ c
                          · rw [if_pos e2, if_pos ⟨by omega, e2.2⟩]
                          · rw [if_neg e2, if_neg (fun h => e2 ⟨by omega, h.2⟩)]
                      have HRL := hide hrel'
                      clear hrel'
                      rcases hskip with hsk | hsk
                      · have hne : ((i : Int) != (c : Int)) = false := bne_no (by omega)
                        clear hsk
                        go_wp2_with fail
                        refine wp_loop_rounds 1 ?_
                        rw [rounds_succ]
                        go_wp2_with fail
                        go_roundg g4
                        case measure => omega
                        case rel => exact ⟨i + 1, by omega, by go_num, HMi.out.congr (elm16 HB3.out _ _ _) HRL.out, HBi.out⟩
                      · rw [hsk] at p2
                        clear hsk
                        by_cases hic : i = c
                        · have hne : ((i : Int) != (c : Int)) = false := bne_no (by omega)
                          clear hic
                          go_wp2_with fail
                          refine wp_loop_rounds 1 ?_
                          rw [rounds_succ]
                          go_wp2_with fail
                          go_roundg g4
                          case measure => omega
                          case rel => exact ⟨i + 1, by omega, by go_num, HMi.out.congr (elm16 HB3.out _ _ _) HRL.out, HBi.out⟩
                        · have hne : ((i : Int) != (c : Int)) = true := bne_yes (by omega)
                          go_wp2_with fail
                          refine wp_loop_rounds 1 ?_
                          rw [rounds_succ]
                          go_wp2_with fail
                          go_roundg g4
                          case measure => omega
                          case rel => exact ⟨i + 1, by omega, by go_num, HMi.out.congr (elm16 HB3.out _ _ _) HRL.out, HBi.out⟩
                    · have hic : i ≠ c := fun e => hskip (.inl e)
                      have hby : (M3 i c != 0) = true := bne_yes (fun e => hskip (.inr e))
                      have hne : ((i : Int) != (c : Int)) = true := bne_yes (by omega)
                      clear hskip
                      go_wp2_with fail
                      go_loopg [14] (n + 1) (fun g t wx => ∃ k : Nat, k + g = n + 1 ∧ t = .int .i64 k ∧ Mat B wx bm om R (n + 1) bl2 of2 cp2 (el5 M3 c c i k) ∧ Below B w wx)
                      case atStart => exact ⟨0, by omega, rfl, HMi.out.congr (el516 HB3.out _ _ _ _) (fun b hb k hk => by
                        unfold elm el5
                        by_cases e : b < i ∧ b ≠ c
                        · rw [if_pos e, if_pos (.inl e)]
                        · rw [if_neg e, if_neg (fun h => h.elim e (fun h2 => by omega))]), HBi.out⟩
                      case round =>
                        obtain ⟨k, hkg, rfl, hmk, hbk⟩ := hrel
                        have HMk5 := hide hmk
                        have HBk5 := hide hbk
                        clear hmk hbk
                        by_cases hk : k < n + 1
                        · have hk' : (k : Int) ≤ (n : Int) := by omega
                          have hkn' : (k : Int) < (n : Int) + 1 := by omega
                          have hcR' : (c : Int) < (R : Int) := by omega
                          have s1 := HMk5.out.ptr i hi
                          have s2 := HMk5.out.ptr c hcR2
                          have s3 : wr.cell? ⟨bl2 i, of2 i + k, none⟩ = some (.int .u16 (M3 i k)) := by
                            rw [(HMk5.out.row i hi).cell k hk]
                            unfold el5
                            rw [if_neg (fun h => by omega)]
                          have s4 : wr.cell? ⟨bl2 c, of2 c + k, none⟩ = some (.int .u16 (M3 c k)) := by
                            rw [(HMk5.out.row c hcR2).cell k hk]
                            unfold el5
                            rw [if_neg (fun h => by omega)]
                          have s5 := (HMk5.out.row i hi).free k hk
                          have r16 := HB3.out i k
                          have t16 := HB3.out c k
                          have v16 := HB3.out i c
                          have m16 : 0 ≤ gI (M3 i c) (M3 c k) ∧ gI (M3 i c) (M3 c k) ≤ 65535 := g16 v16
                          have hxor := xI_bits (M3 i k) (gI (M3 i c) (M3 c k)) (by omega) (by omega)
                          obtain ⟨g5, rfl⟩ : ∃ g5, gk = g5 + 1 := ⟨gk - 1, by omega⟩
                          go_wp2_with fail
                          refine wp_region_still_tail 22 (by kernel_rfl) (by kernel_rfl) ?_
                          simp only [List.take_succ_cons, List.take_zero, List.drop_succ_cons, List.drop_zero]
                          repeat still_step
                          still_call (refMul_any _ _ _ (by omega) (by omega))
                          repeat still_step
                          refine wpStill_nil ?_
                          go_wp2_with fail
                          go_roundg g5
                          case measure => omega
                          case rel =>
                            refine ⟨k + 1, by omega, by go_num, ?_, (HBk5.out.trans ((Only.setCell (bl2 i) (of2 i + k) _ _).below (HMk5.out.bge i hi))).drew⟩
                            refine ((HMk5.out.set hi hk (x16 r16 m16)).drew).congr (el516 HB3.out _ _ _ _) (fun a hha b hb => ?_)
                            show (if a = i ∧ b = k then xI (M3 i k) (gI (M3 i c) (M3 c k)) else el5 M3 c c i k a b) = el5 M3 c c i (k + 1) a b
                            unfold el5
                            by_cases e1 : a = i
                            · by_cases e2 : b = k
                              · rw [if_pos ⟨e1, e2⟩, if_pos (.inr ⟨e1, by omega⟩), e1, e2]
                              · rw [if_neg (fun h => e2 h.2)]
                                by_cases e3 : b < k
                                · rw [if_pos (.inr ⟨e1, e3⟩), if_pos (.inr ⟨e1, by omega⟩)]
                                · rw [if_neg (fun h => by omega), if_neg (fun h => by omega)]
                            · rw [if_neg (fun h => e1 h.1)]
                              by_cases e2 : a < i ∧ a ≠ c
                              · rw [if_pos (.inl e2), if_pos (.inl e2)]
                              · rw [if_neg (fun h => h.elim e2 (fun h2 => e1 h2.1)), if_neg (fun h => h.elim e2 (fun h2 => e1 h2.1))]
                        · have hk' : ¬ (k : Int) ≤ (n : Int) := by omega
                          obtain rfl : k = n + 1 := by omega
                          go_wp2_with fail
                          go_roundg g4
                          case measure => omega
                          case rel => exact ⟨i + 1, by omega, by go_num, HMk5.out.congr (elm16 HB3.out _ _ _) (fun a hha b hb => by
                            unfold el5 elm
                            by_cases e1 : a = i
                            · rw [if_pos (.inr ⟨e1, hb⟩), if_pos ⟨by omega, by omega⟩]
                            · by_cases e2 : a < i ∧ a ≠ c
                              · rw [if_pos (.inl e2), if_pos ⟨by omega, e2.2⟩]
                              · rw [if_neg (fun h => h.elim e2 (fun h2 => e1 h2.1)), if_neg (fun h => e2 ⟨by omega, h.2⟩)]), HBk5.out⟩
                  · have hi' : ¬ (i : Int) < (R : Int) := by omega
                    obtain rfl : i = R := by omega
                    go_wp2_with fail
                    go_roundg gg
                    case measure => omega
                    case rel =>
                      refine ⟨c + 1, bl2, of2, cp2, elm M3 c c i, by omega, by go_num, by go_num, HMi.out, ?_, HBi.out⟩
                      rw [← HM3e.out, HM2e.out, HY.out]
                      exact sv_step HM.out.bd HV.out hlt hca haR HNE.out
        · have haR' : ¬ (a : Int) < (R : Int) := by omega
          obtain rfl : a = R := by omega
          have haN : ((a : Int) == (a : Int)) = true := by simp
          go_wp2_with fail
          go_ret2
          exact ⟨HB.out, .inl ⟨rfl, sv_fail HM.out.bd HV.out hlt (fun i h1 h2 => HZ.out i h1 h2)⟩⟩
    · have hlt' : ¬ (c : Int) < (n : Int) := by omega
      obtain rfl : c = n := by omega
      go_wp2_with fail
      go_loopg [15] (R - c) (fun g t wx => ∃ i : Nat, i + g = R ∧ c ≤ i ∧ t = .int .i64 i ∧ wx = wr)
      case atStart => exact ⟨c, by omega, Nat.le_refl _, rfl, rfl⟩
      case round =>
        obtain ⟨i, hig, hci, rfl, hwx⟩ := hrel
        obtain rfl := hwx.symm
        by_cases hi : i < R
        · have hi' : (i : Int) < (R : Int) := by omega
          have p1 := HM.out.ptr i hi
          have p2 := (HM.out.row i hi).cell c (by omega)
          by_cases hz0 : M i c = 0
          · rw [hz0] at p2
            clear hz0
            obtain ⟨g3, rfl⟩ : ∃ g3, gk = g3 + 1 := ⟨gk - 1, by omega⟩
            go_wp2_with fail
            go_roundg g3
            case measure => omega
            case rel => exact ⟨i + 1, by omega, by omega, by go_num, rfl⟩
          · have hq : (M i c != 0) = true := bne_yes hz0
            have HNE := hide hz0
            clear hz0
            go_wp2_with fail
            go_ret2
            exact ⟨HB.out, .inl ⟨rfl, fun x hx => HNE.out ((pv_sol HM.out.bd HV.out.pv (hx.of HV.out.kr)).2 i hci hi)⟩⟩
        · have hi' : ¬ (i : Int) < (R : Int) := by omega
          obtain ⟨wz, hwz⟩ : ∃ v, v = wr := ⟨_, rfl⟩
          subst hwz
          go_wp2_with fail
          go_loopg [16, 17] c (fun g l t wx => ∃ i : Nat, i + g = c ∧ t = .int .i64 i ∧ wx.ownsRow wz.heap.size 29 1 l i (vals (fun j => if j < c then M j c else 0) i) ∧ Below wz.heap.size wz wx)
          case atStart => exact ⟨0, by omega, rfl, World.ownsRow_nil _ _ _ _, Below.refl _ _⟩
          case round =>
            obtain ⟨j, hjg, rfl, hown, hbx⟩ := hrel
            have HOj := hide hown
            have HBj := hide hbx
            clear hown hbx
            by_cases hj : j < c
            · have hj' : (j : Int) < (c : Int) := by omega
              have hjR : j < R := by omega
              have hMj := HM.out.below HBj.out
              have p1 := hMj.ptr j hjR
              have p2 := (hMj.row j hjR).cell c (by omega)
              have m16 := HM.out.bd j c
              obtain ⟨wo, hwo⟩ : ∃ v, v = wr := ⟨_, rfl⟩
              subst hwo
              have hsz := HBj.out.size
              have l1 : Sl (wo.alloc (.cells #[.int .u16 (M j c)] 29)) (some ⟨wo.heap.size, 0, none⟩) 1 1 (lf [M j c]) := sl_lit wo [M j c] (by
                intro y hy
                have : y = M j c := by simpa using hy
                rw [this]
                exact m16)
              have HL := hide l1
              have HB2 := hide (HBj.out.alloc hsz (.cells #[.int .u16 (M j c)] 29))
              obtain ⟨g3, rfl⟩ : ∃ g3, gk = g3 + 1 := ⟨gk - 1, by omega⟩
              clear l1 hMj
              go_wp2_with (refine append_sl rfl (.tmp 161) (.tmp 169) rfl wz.heap.size _ j (fun j => if j < c then M j c else 0) rfl (HOj.out.alloc _) (some ⟨wo.heap.size, 0, none⟩) 1 1 (lf [M j c]) rfl HL.out (by omega) (by simp; omega) wz HB2.out ?_; intro v3 w3 hown3 hb3)
              have HO3 := hide hown3
              have HB3 := hide hb3
              clear hown3 hb3
              go_wp2_with fail
              go_roundg g3
              case measure => omega
              case rel =>
                refine ⟨j + 1, by omega, by go_num, ?_, HB3.out⟩
                have h9 := HO3.out
                have e : vals (cat j (fun j => if j < c then M j c else 0) (lf [M j c])) (j + 1) = vals (fun j => if j < c then M j c else 0) (j + 1) := by
                  unfold vals
                  refine List.map_congr_left fun q hq => ?_
                  have hq' : q < j + 1 := by simpa using hq
                  congr 1
                  unfold cat
                  by_cases h2 : q < j
                  · rw [if_pos h2]
                  · obtain rfl : q = j := by omega
                    rw [if_neg (by omega), Nat.sub_self]
                    show M q c = if q < c then M q c else 0
                    rw [if_pos hj]
                rw [e] at h9
                exact h9
            · have hj' : ¬ (j : Int) < (c : Int) := by omega
              obtain rfl : j = c := by omega
              obtain ⟨a', c', rfl, hnew⟩ := new_of_owns HOj.out HBj.out (fun q => by
                show 0 ≤ (if q < j then M q j else 0) ∧ (if q < j then M q j else 0) ≤ 65535
                split
                · exact HM.out.bd q j
                · exact z16) (fun q hq => if_neg (by omega))
              have HN := hide hnew
              have hge := HM.out.ge
              have hlt2 := HM.out.lt
              clear hnew HOj
              go_wp2_with fail
              go_ret2
              exact ⟨HB.out.trans (HBj.out.mono (by omega)), .inr ⟨a', c', rfl, _, HN.out.sl, HN.out.nb (fun b hb => Nat.lt_of_lt_of_le hb HB.out.size), fun x hx k hk => by
                show (if k < j then M k j else 0) = x k
                rw [if_pos hk]
                exact (pv_sol HM.out.bd HV.out.pv (hx.of HV.out.kr)).1 k hk⟩⟩

end Go.Proofs.Ytdbdidohldhnhaa
