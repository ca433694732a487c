/- A block's columns put together anew, walked. For any block and any four factors: the call returns what ATab says, and leaves what was there. -/
import Derived.Test.YtllhnbnddcghoaaAWord
namespace Go.Proofs.Ytllhnbnddcghoaa
open Go.RowKit Bk
set_option linter.unusedVariables false
set_option linter.unusedSimpArgs false

theorem product_u8 (a b : UInt8) (w : World) : Calls Try.prog 33 #[.int .u8 (a.toNat : Int), .int .u8 (b.toNat : Int)] w fun e w' => e = .returned (.int .u8 ((mu a b).toNat : Int)) ∧ w' = w := by
  rw [mu_nat]
  exact aproduct_any a.toNat b.toNat w (UInt8.toNat_lt a) (UInt8.toNat_lt b)
/-- What lies in memory while columns are put together: the factors, the result's cells, what is made. -/
structure Mc (w wr : World) (f V : List UInt8) : Prop where
  f : Row wr (w.heap.size + 1) 0 (bs f)
  z : Row wr (w.heap.size + 1 + 1) 0 (bs (zr 16))
  v : Row wr (w.heap.size + 1 + 1 + 1) 0 (bs V)
  be : Below w.heap.size w wr
theorem Mc.made {w wr : World} {f V : List UInt8} (h : Mc w wr f V) (z : Array Value) (vs : List Value) (t : TypeId) : Mc w ((wr.alloc (.cells z t)).setCells wr.heap.size 0 vs) f V :=
  ⟨h.f.keep _ _ _, h.z.keep _ _ _, h.v.keep _ _ _, below_made h.be (by have := h.f.lt; omega) _ _ _⟩
theorem Mc.drew {w wr : World} {f V : List UInt8} (h : Mc w wr f V) : Mc w wr.drew f V := ⟨h.f.drew, h.z.drew, h.v.drew, h.be.drew⟩
theorem Mc.set {w wr : World} {f V : List UInt8} (h : Mc w wr f V) {j : Nat} (hj : j < V.length) (x : UInt8) : Mc w (wr.setCell ⟨w.heap.size + 1 + 1 + 1, j, none⟩ (.int .u8 (x.toNat : Int))) f (V.set j x) :=
  ⟨h.f.other _ _ _ (.inl (by omega)), h.z.other _ _ _ (.inl (by omega)), h.v.sety hj x, h.be.setCell (p := ⟨w.heap.size + 1 + 1 + 1, j, none⟩) (by show w.heap.size ≤ w.heap.size + 1 + 1 + 1; omega) _⟩
/-- What stands there behind n products of byte j. -/
def mixv (f s : List UInt8) (k r n : Nat) : List UInt8 := (mixd (mixS f s) (zr 16) (k * 4 + r)).set (k * 4 + r) (mixP f s k r n)
theorem mixv_length (f s : List UInt8) (k r n : Nat) (h : k * 4 + r ≤ 16) : (mixv f s k r n).length = 16 := by unfold mixv; rw [List.length_set, mixd_length (mixS_length f s) (zr_length 16) _ h]
theorem mixv_zero (f s : List UInt8) (k r : Nat) (h : k * 4 + r < 16) : mixv f s k r 0 = mixd (mixS f s) (zr 16) (k * 4 + r) := by
  unfold mixv
  have hl := mixd_length (mixS_length f s) (zr_length 16) (k * 4 + r) (by omega)
  refine gy_ext (n := 16) (by rw [List.length_set, hl]) hl fun j hj => ?_
  rw [gy_set _ _ _ _ (by omega)]
  by_cases e : j = k * 4 + r
  · rw [if_pos e, gy_mixd (mixS_length f s) (zr_length 16) (by omega), if_neg (by omega)]
    exact (gy_zero 16 j).symm
  · rw [if_neg e]
theorem mixv_all (f s : List UInt8) (k r : Nat) (hk : k < 4) (hr : r < 4) : mixv f s k r 4 = mixd (mixS f s) (zr 16) (k * 4 + r + 1) := by
  unfold mixv
  rw [show mixP f s k r 4 = gy (mixS f s) (k * 4 + r) by rw [gy_mixS _ _ (by omega), show (k * 4 + r) / 4 = k by omega, show (k * 4 + r) % 4 = r by omega]]
  exact mixd_set (mixS_length f s) (zr_length 16) (by omega)
theorem mixv_at (f s : List UInt8) (k r n : Nat) (h : k * 4 + r < 16) : gy (mixv f s k r n) (k * 4 + r) = mixP f s k r n := by
  unfold mixv
  rw [gy_set _ _ _ _ (by rw [mixd_length (mixS_length f s) (zr_length 16) _ (by omega)]; exact h), if_pos rfl]
theorem mixv_set (f s : List UInt8) (k r n : Nat) (x : UInt8) (hx : x = mixP f s k r (n + 1)) : (mixv f s k r n).set (k * 4 + r) x = mixv f s k r (n + 1) := by
  subst hx
  unfold mixv
  rw [List.set_set]

set_option maxRecDepth 100000 in
set_option maxHeartbeats 8000000 in
theorem sqMix_any (s f : List UInt8) (w : World) (hs : s.length = 16) (hf : f.length = 4) :
    Calls Try.prog 23 #[.agg (bs s).toArray, .agg (bs f).toArray] w fun e w' => e = .returned (.agg (bs (mixS f s)).toArray) ∧ Below w.heap.size w w' := by
  obtain ⟨W0, hW0, r0, m0⟩ : ∃ W0, (((w.alloc (.cells (bs s).toArray 40)).alloc (.cells (bs f).toArray 38)).alloc (.cells #[.int .u8 0, .int .u8 0, .int .u8 0, .int .u8 0, .int .u8 0, .int .u8 0, .int .u8 0, .int .u8 0, .int .u8 0, .int .u8 0, .int .u8 0, .int .u8 0, .int .u8 0, .int .u8 0, .int .u8 0, .int .u8 0] 40)).alloc (.cells #[.int .u8 0, .int .u8 0, .int .u8 0, .int .u8 0, .int .u8 0, .int .u8 0, .int .u8 0, .int .u8 0, .int .u8 0, .int .u8 0, .int .u8 0, .int .u8 0, .int .u8 0, .int .u8 0, .int .u8 0, .int .u8 0] 40) = W0 ∧ Row W0 w.heap.size 0 (bs s) ∧ Mc w W0 f (mixd (mixS f s) (zr 16) (0 * 4)) :=
    ⟨_, rfl, (((Row.newL w (bs s) _).alloc _).alloc _).alloc _, ⟨((row2 w _ (bs f) _).alloc _).alloc _, (row3 w _ _ (bs (zr 16)) _).alloc _, by rw [Nat.zero_mul, mixd_zero]; exact row4 w _ _ _ (bs (zr 16)) _, below4 w _ _ _ _⟩⟩
  have lR : (mixS f s).length = 16 := mixS_length _ _
  have HX := hide (And.intro hs (And.intro hf lR))
  have HR0 := hide r0
  have H0 := hide m0
  clear r0 m0 hs hf lR
  go_enter Try.func23, Try.ntmps23
  go_wp2_with (refine wpList_loadR (op := ⟨some 11, _, _, _, _, _⟩) rfl 40 (.tmp 2) rfl rfl _ HR0.out Try.underlying40 rfl (by rw [bs_length, HX.out.1]; kernel_rfl) ?_)
  clear HR0 hW0
  go_loopg [6, 7, 8, 9, 10, 12] 4 (fun g _ _ _ _ _ q wr => ∃ k : Nat, k + g = 4 ∧ q = .int .i64 k ∧ Mc w wr f (mixd (mixS f s) (zr 16) (k * 4)))
  case atStart => exact ⟨0, rfl, rfl, H0.out⟩
  case round =>
    clear H0
    obtain ⟨wo, hwo⟩ : ∃ z, z = wr := ⟨_, rfl⟩
    subst hwo
    obtain ⟨k, hkg, rfl, hA⟩ := hrel
    by_cases hlt : k < 4
    · have hlt' : (k : Int) < 4 := by omega
      obtain ⟨g3, rfl⟩ : ∃ g3, gk = g3 + 1 := ⟨gk - 1, by omega⟩
      have hix : ∀ w, (Instr.index 40 (.agg (bs s).toArray) (.int .i64 (k : Int))).run Try.prog w = .ok (.agg (bs (wat s k)).toArray) w := idx_word s k Try.underlying40 hlt (by kernel_rfl) Try.underlying38 rfl
      obtain ⟨x, hx⟩ : ∃ x, wat s k = x := ⟨_, rfl⟩
      have lx : x.length = 4 := by rw [← hx]; exact wat_length (by rw [HX.out.1]; omega)
      rw [hx] at hix
      obtain ⟨W1, hW1, h1a, h1c, h1d⟩ : ∃ W1, (wo.alloc (.cells #[.int .u8 0, .int .u8 0, .int .u8 0, .int .u8 0] 38)).setCells wo.heap.size 0 (bs x) = W1 ∧ Mc w W1 f (mixd (mixS f s) (zr 16) (k * 4 + 0)) ∧ Row W1 wo.heap.size 0 (bs x) ∧ w.heap.size + 1 + 1 + 1 < wo.heap.size :=
        ⟨_, rfl, hA.made _ _ _, Row.made wo (bs (zr 4)) _ _ (by rw [bs_length, bs_length, lx]; rfl), hA.v.lt⟩
      have HZ := hide (Row.newL wo (bs (zr 4)) 38)
      have HA := hide (And.intro h1a (And.intro h1c h1d))
      have HL := hide (And.intro lx hx)
      clear hA h1a h1c h1d lx hx
      go_wp2_with (refine wpList_storeR (op := ⟨none, _, _, _, _, _⟩) rfl 38 (.tmp 7) (.tmp 15) rfl rfl (vs := bs x) rfl HZ.out (by rw [bs_length, bs_length, HL.out.1, zr_length]) (by rw [bs_length, HL.out.1]; kernel_rfl) (fun v hv => bs_one hv) ?_; rw [hW1])
      clear hix hW1 HZ
      go_loopg [8, 9, 10, 16] 4 (fun g _ _ _ q wr => ∃ r : Nat, r + g = 4 ∧ q = .int .i64 r ∧ Mc w wr f (mixd (mixS f s) (zr 16) (k * 4 + r)) ∧ Row wr wo.heap.size 0 (bs x) ∧ w.heap.size + 1 + 1 + 1 < wo.heap.size)
      case atStart => exact ⟨0, rfl, rfl, HA.out⟩
      case round =>
        clear HA
        obtain ⟨wx, hwx⟩ : ∃ z, z = wr := ⟨_, rfl⟩
        subst hwx
        obtain ⟨r, hrg, rfl, hA⟩ := hrel
        by_cases hr : r < 4
        · have hr' : (r : Int) < 4 := by omega
          obtain ⟨g4, rfl⟩ : ∃ g4, gk = g4 + 1 := ⟨gk - 1, by omega⟩
          have hj : k * 4 + r < 16 := by omega
          have HC := hide hA.2.1
          have HA := hide (show Mc w wx f (mixv f s k r 0) ∧ Row wx wo.heap.size 0 (bs x) ∧ w.heap.size + 1 + 1 + 1 < wo.heap.size from ⟨by rw [mixv_zero f s k r hj]; exact hA.1, hA.2⟩)
          clear hA
          go_wp2_with (refine wpList_loadR (op := ⟨some 19, _, _, _, _, _⟩) rfl 38 (.tmp 7) rfl rfl _ HC.out Try.underlying38 rfl (by rw [bs_length, HL.out.1]; kernel_rfl) ?_)
          clear HC
          go_loopg [9, 10, 20] 4 (fun g _ _ q wr => ∃ n : Nat, n + g = 4 ∧ q = .int .i64 n ∧ Mc w wr f (mixv f s k r n) ∧ Row wr wo.heap.size 0 (bs x) ∧ w.heap.size + 1 + 1 + 1 < wo.heap.size)
          case atStart => exact ⟨0, rfl, rfl, HA.out⟩
          case round =>
            clear HA
            obtain ⟨wy, hwy⟩ : ∃ z, z = wr := ⟨_, rfl⟩
            subst hwy
            obtain ⟨n, hng, rfl, hM, hC, hlow⟩ := hrel
            by_cases hn : n < 4
            · have hn' : (n : Int) < 4 := by omega
              obtain ⟨g5, rfl⟩ : ∃ g5, gk = g5 + 1 := ⟨gk - 1, by omega⟩
              have hix : ∀ w, (Instr.index 38 (.agg (bs x).toArray) (.int .i64 (n : Int))).run Try.prog w = .ok (.int .u8 ((gy x n).toNat : Int)) w := idx_arr x n Try.underlying38 hn HL.out.1 (by kernel_rfl) Try.underlying5
              obtain ⟨p, hp⟩ : ∃ p, (n + 4 - r) % 4 = p := ⟨_, rfl⟩
              have lp : p < 4 := by omega
              have lp' : (p : Int) < 4 := by omega
              have v1 := IntWalk.i64_in ((n : Int) - (r : Int)) (by omega)
              have v2 := IntWalk.i64_in ((n : Int) - (r : Int) + 4) (by omega)
              have v3 : ((n : Int) - (r : Int) + 4).tmod 4 = (p : Int) := by
                rw [Int.tmod_eq_emod_of_nonneg (by omega)]
                omega
              have v4 := IntWalk.i64_in (p : Int) (by omega)
              have hD := hM.drew
              have lmv := mixv_length f s k r n (by omega)
              have c1 := hD.v.g0 (k * 4 + r) (by rw [lmv]; exact hj)
              rw [mixv_at f s k r n hj] at c1
              have c2 := hD.f.g0 p (by rw [HX.out.2.1]; exact lp)
              have f1 := hD.v.fy0 (k * 4 + r) (by rw [lmv]; exact hj)
              have eb : gy x n = gy s (4 * k + n) := by rw [← HL.out.2]; unfold wat; rw [gy_take _ _ _ hn, gy_drop]
              have es : mixP f s k r n ^^^ mu (gy x n) (gy f p) = mixP f s k r (n + 1) := by
                rw [eb, ← hp]; rfl
              have hxo := x8_int (mixP f s k r n) (mu (gy x n) (gy f p))
              rw [es] at hxo
              have h3 := hD.set (j := k * 4 + r) (by rw [lmv]; exact hj) (mixP f s k r (n + 1))
              rw [mixv_set f s k r n _ rfl] at h3
              have H3 := hide (And.intro h3 (And.intro (hC.drew.other (w.heap.size + 1 + 1 + 1) (k * 4 + r) (.int .u8 ((mixP f s k r (n + 1)).toNat : Int)) (.inl (by omega))) hlow))
              have hcS : wy.drew.cell? ⟨w.heap.size + 1 + 1 + 1, k * 4 + r, none⟩ = some (.int .u8 ((mixP f s k r n).toNat : Int)) ∧ wy.drew.cell? ⟨w.heap.size + 1, p, none⟩ = some (.int .u8 ((gy f p).toNat : Int)) := ⟨c1, c2⟩
              have HS := hide hcS
              obtain ⟨ya, eya⟩ : ∃ y, gy x n = y := ⟨_, rfl⟩
              obtain ⟨yb, eyb⟩ : ∃ y, gy f p = y := ⟨_, rfl⟩
              obtain ⟨yc, eyc⟩ : ∃ y, mixP f s k r n = y := ⟨_, rfl⟩
              obtain ⟨yd, eyd⟩ : ∃ y, mixP f s k r (n + 1) = y := ⟨_, rfl⟩
              rw [eya] at hix
              rw [eya, eyb, eyc, eyd] at hxo
              rw [eyc, eyb] at HS
              rw [eyd] at H3
              clear hM hC hD h3 c1 c2 hcS lmv eb es hp eya eyb eyc eyd
              have c1 := HS.out.1
              go_wp2_with fail
              refine wp_region_ord (fun w9 => w9.cell? ⟨w.heap.size + 1 + 1 + 1, k * 4 + r, none⟩ = some (.int .u8 (yc.toNat : Int)) ∧ w9.cell? ⟨w.heap.size + 1, p, none⟩ = some (.int .u8 (yb.toNat : Int))) 17 [(0, some true), (1, some true), (2, some true), (3, some true), (4, some false), (5, some true), (6, some true), (7, some true), (8, some true), (9, some true), (10, some true), (11, some true), (12, some false), (15, some true), (13, none), (14, some true), (16, some true), (17, none)] (by kernel_rfl) (by kernel_rfl) (fun _ _ _ _ h => h) HS.out ?_
              refine ord_pureE (o := ⟨some 24, _, _, _, _, _⟩) rfl (by kernel_rfl) ⟨_, fun w9 => by (go_simp; try rfl), ?_⟩
              simp only [Act.put, List.setIfInBounds_toArray, List.set_cons_zero, List.set_cons_succ]
              refine ord_pureE (o := ⟨some 25, _, _, _, _, _⟩) rfl (by kernel_rfl) ⟨_, fun w9 => by (go_simp; try rfl), ?_⟩
              simp only [Act.put, List.setIfInBounds_toArray, List.set_cons_zero, List.set_cons_succ]
              refine ord_pureE (o := ⟨some 26, _, _, _, _, _⟩) rfl (by kernel_rfl) ⟨_, fun w9 => by (go_simp; try rfl), ?_⟩
              simp only [Act.put, List.setIfInBounds_toArray, List.set_cons_zero, List.set_cons_succ]
              refine ord_pureE (o := ⟨some 27, _, _, _, _, _⟩) rfl (by kernel_rfl) ⟨_, fun w9 => by (go_simp; try rfl), ?_⟩
              simp only [Act.put, List.setIfInBounds_toArray, List.set_cons_zero, List.set_cons_succ]
              refine ord_heldE (o := ⟨some 28, _, _, _, _, _⟩) rfl (by kernel_rfl) ⟨_, fun w9 h9 => by (obtain ⟨q1, q2⟩ := h9; go_simp; try rfl), ?_⟩
              simp only [Act.put, List.setIfInBounds_toArray, List.set_cons_zero, List.set_cons_succ]
              refine ord_pureE (o := ⟨some 29, _, _, _, _, _⟩) rfl (by kernel_rfl) ⟨_, fun w9 => by (go_simp; try rfl), ?_⟩
              simp only [Act.put, List.setIfInBounds_toArray, List.set_cons_zero, List.set_cons_succ]
              refine ord_pureE (o := ⟨some 30, _, _, _, _, _⟩) rfl (by kernel_rfl) ⟨_, fun w9 => by (go_simp; try rfl), ?_⟩
              simp only [Act.put, List.setIfInBounds_toArray, List.set_cons_zero, List.set_cons_succ]
              refine ord_pureE (o := ⟨some 31, _, _, _, _, _⟩) rfl (by kernel_rfl) ⟨_, fun w9 => by (go_simp; try rfl), ?_⟩
              simp only [Act.put, List.setIfInBounds_toArray, List.set_cons_zero, List.set_cons_succ]
              refine ord_pureE (o := ⟨some 32, _, _, _, _, _⟩) rfl (by kernel_rfl) ⟨_, fun w9 => by (go_simp; try rfl), ?_⟩
              simp only [Act.put, List.setIfInBounds_toArray, List.set_cons_zero, List.set_cons_succ]
              refine ord_pureE (o := ⟨some 33, _, _, _, _, _⟩) rfl (by kernel_rfl) ⟨_, fun w9 => by (go_simp; try rfl), ?_⟩
              simp only [Act.put, List.setIfInBounds_toArray, List.set_cons_zero, List.set_cons_succ]
              refine ord_pureE (o := ⟨some 34, _, _, _, _, _⟩) rfl (by kernel_rfl) ⟨_, fun w9 => by (go_simp; try rfl), ?_⟩
              simp only [Act.put, List.setIfInBounds_toArray, List.set_cons_zero, List.set_cons_succ]
              refine ord_pureE (o := ⟨some 35, _, _, _, _, _⟩) rfl (by kernel_rfl) ⟨_, fun w9 => by (go_simp; try rfl), ?_⟩
              simp only [Act.put, List.setIfInBounds_toArray, List.set_cons_zero, List.set_cons_succ]
              refine ord_heldE (o := ⟨some 36, _, _, _, _, _⟩) rfl (by kernel_rfl) ⟨_, fun w9 h9 => by (obtain ⟨q1, q2⟩ := h9; go_simp; try rfl), ?_⟩
              simp only [Act.put, List.setIfInBounds_toArray, List.set_cons_zero, List.set_cons_succ]
              refine ord_pureE (o := ⟨some 39, _, _, _, _, _⟩) rfl (by kernel_rfl) ⟨_, fun w9 => by (go_simp; try rfl), ?_⟩
              simp only [Act.put, List.setIfInBounds_toArray, List.set_cons_zero, List.set_cons_succ]
              refine ord_go rfl (fun K9 hK => ?_)
              go_simp
              go_wp2_with fail
              refine (product_u8 ya yb _).mono ?_
              rintro e w2 ⟨rfl, hw2⟩
              obtain rfl := hw2.symm
              dsimp only
              refine hK.out _ _ (fun _ => HS.out) ?_
              clear hK K9
              refine ord_pureE (o := ⟨some 38, _, _, _, _, _⟩) rfl (by kernel_rfl) ⟨_, fun w9 => by (go_simp; try rfl), ?_⟩
              simp only [Act.put, List.setIfInBounds_toArray, List.set_cons_zero, List.set_cons_succ]
              refine ord_pureE (o := ⟨some 40, _, _, _, _, _⟩) rfl (by kernel_rfl) ⟨_, fun w9 => by (go_simp; try rfl), ?_⟩
              simp only [Act.put, List.setIfInBounds_toArray, List.set_cons_zero, List.set_cons_succ]
              refine ord_go rfl (fun K9 hK => ?_)
              go_simp
              skip
              refine hK.out _ _ (fun h => by cases h) ?_
              clear hK K9
              refine ord_end ?_
              clear hix HS hxo v1 v2 v3 v4 f1 c1
              go_wp2_with fail
              go_roundg g5
              case measure => omega
              case rel => exact ⟨n + 1, by omega, by go_num, H3.out⟩
            · obtain rfl : n = 4 := by omega
              rw [mixv_all f s k r hlt hr] at hM
              have HA := hide (And.intro hM (And.intro hC hlow))
              clear hM hC hlow
              go_wp2_with fail
              go_roundg g4
              case measure => omega
              case rel => exact ⟨r + 1, by omega, by go_num, by rw [show k * 4 + (r + 1) = k * 4 + r + 1 by omega]; exact HA.out⟩
        · obtain rfl : r = 4 := by omega
          have HA := hide hA
          clear hA
          go_wp2_with fail
          go_roundg g3
          case measure => omega
          case rel => exact ⟨k + 1, by omega, by go_num, by rw [show (k + 1) * 4 = k * 4 + 4 by omega]; exact HA.out.1⟩
    · obtain rfl : k = 4 := by omega
      obtain ⟨_, h1, h2, hB⟩ := hA
      rw [show 4 * 4 = 16 from rfl, mixd_all HX.out.2.2 (zr_length 16)] at h2
      have H0 := hide h2
      have H1 := hide h1
      have HB := hide hB
      clear h1 h2 hB
      go_wp2_with (first | (refine wpList_loadR (op := ⟨some 44, _, _, _, _, _⟩) rfl 40 (.tmp 5) rfl rfl _ H0.out Try.underlying40 rfl (by rw [bs_length, HX.out.2.2]; kernel_rfl) ?_) | (refine wpList_storeR (op := ⟨none, _, _, _, _, _⟩) rfl 40 (.tmp 4) (.tmp 44) rfl rfl (vs := bs (mixS f s)) rfl H1.out (by rw [bs_length, bs_length, HX.out.2.2, zr_length]) (by rw [bs_length, HX.out.2.2]; kernel_rfl) (fun v hv => bs_one hv) ?_))
      exact post_row (cs := bs (mixS f s)) _ ((H1.out).put (bs (mixS f s)) (by rw [bs_length, bs_length, HX.out.2.2, zr_length])) rfl rfl Try.underlying40 rfl (by rw [bs_length, HX.out.2.2]; kernel_rfl) rfl ⟨rfl, HB.out.trans (below_setCells (by omega) _ _ _)⟩
end Go.Proofs.Ytllhnbnddcghoaa
