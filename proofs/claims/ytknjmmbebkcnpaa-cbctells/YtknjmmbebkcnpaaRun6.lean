/- Several texts of ours, one behind the other; what each is for stands ahead of it. -/
import Derived.Test.YtknjmmbebkcnpaaRun4

/- A block's columns put together anew, walked. For any block and any four factors: the call returns what ATab says, and leaves what was there. -/
namespace Go.Proofs.Ytknjmmbebkcnpaa
open Go.RowKit Bk
set_option linter.unusedVariables false
set_option linter.unusedSimpArgs false

theorem product_u8 (a b : UInt8) (w : World) : Calls Try.prog 57 #[.int .u8 (a.toNat : Int), .int .u8 (b.toNat : Int)] w fun e w' => e = .returned (.int .u8 ((mu a b).toNat : Int)) ∧ w' = w := by
  rw [mu_nat]
  exact aproduct_any a.toNat b.toNat w (UInt8.toNat_lt a) (UInt8.toNat_lt b)
/-- What lies in memory while columns are put together: the factors, the result's cells, what is made. -/
structure Mc (w wr : World) (f V : List UInt8) : Prop where
  f : Row wr (w.heap.size + 1) 0 (bs f)
  z : Row wr (w.heap.size + 1 + 1) 0 (bs (zr 16))
  v : Row wr (w.heap.size + 1 + 1 + 1) 0 (bs V)
  be : Below w.heap.size w wr
theorem Mc.made {w wr : World} {f V : List UInt8} (h : Mc w wr f V) (z : Array Value) (vs : List Value) (t : TypeId) : Mc w ((wr.alloc (.cells z t)).setCells wr.heap.size 0 vs) f V :=
  ⟨h.f.keep _ _ _, h.z.keep _ _ _, h.v.keep _ _ _, below_made h.be (by have := h.f.lt; omega) _ _ _⟩
theorem Mc.drew {w wr : World} {f V : List UInt8} (h : Mc w wr f V) : Mc w wr.drew f V := ⟨h.f.drew, h.z.drew, h.v.drew, h.be.drew⟩
theorem Mc.set {w wr : World} {f V : List UInt8} (h : Mc w wr f V) {j : Nat} (hj : j < V.length) (x : UInt8) : Mc w (wr.setCell ⟨w.heap.size + 1 + 1 + 1, j, none⟩ (.int .u8 (x.toNat : Int))) f (V.set j x) :=
  ⟨h.f.other _ _ _ (.inl (by omega)), h.z.other _ _ _ (.inl (by omega)), h.v.sety hj x, h.be.setCell (p := ⟨w.heap.size + 1 + 1 + 1, j, none⟩) (by show w.heap.size ≤ w.heap.size + 1 + 1 + 1; omega) _⟩
/-- What stands there behind n products of byte j. -/
def mixv (f s : List UInt8) (k r n : Nat) : List UInt8 := (mixd (mixS f s) (zr 16) (k * 4 + r)).set (k * 4 + r) (mixP f s k r n)
theorem mixv_length (f s : List UInt8) (k r n : Nat) (h : k * 4 + r ≤ 16) : (mixv f s k r n).length = 16 := by unfold mixv; rw [List.length_set, mixd_length (mixS_length f s) (zr_length 16) _ h]
theorem mixv_zero (f s : List UInt8) (k r : Nat) (h : k * 4 + r < 16) : mixv f s k r 0 = mixd (mixS f s) (zr 16) (k * 4 + r) := by
  unfold mixv
  have hl := mixd_length (mixS_length f s) (zr_length 16) (k * 4 + r) (by omega)
  refine gy_ext (n := 16) (by rw [List.length_set, hl]) hl fun j hj => ?_
  rw [gy_set _ _ _ _ (by omega)]
  by_cases e : j = k * 4 + r
  · rw [if_pos e, gy_mixd (mixS_length f s) (zr_length 16) (by omega), if_neg (by omega)]
    exact (gy_zero 16 j).symm
  · rw [if_neg e]
theorem mixv_all (f s : List UInt8) (k r : Nat) (hk : k < 4) (hr : r < 4) : mixv f s k r 4 = mixd (mixS f s) (zr 16) (k * 4 + r + 1) := by
  unfold mixv
  rw [show mixP f s k r 4 = gy (mixS f s) (k * 4 + r) by rw [gy_mixS _ _ (by omega), show (k * 4 + r) / 4 = k by omega, show (k * 4 + r) % 4 = r by omega]]
  exact mixd_set (mixS_length f s) (zr_length 16) (by omega)
theorem mixv_at (f s : List UInt8) (k r n : Nat) (h : k * 4 + r < 16) : gy (mixv f s k r n) (k * 4 + r) = mixP f s k r n := by
  unfold mixv
  rw [gy_set _ _ _ _ (by rw [mixd_length (mixS_length f s) (zr_length 16) _ (by omega)]; exact h), if_pos rfl]
theorem mixv_set (f s : List UInt8) (k r n : Nat) (x : UInt8) (hx : x = mixP f s k r (n + 1)) : (mixv f s k r n).set (k * 4 + r) x = mixv f s k r (n + 1) := by
  subst hx
  unfold mixv
  rw [List.set_set]

set_option maxRecDepth 100000 in
set_option maxHeartbeats 8000000 in
theorem sqMix_any (s f : List UInt8) (w : World) (hs : s.length = 16) (hf : f.length = 4) :
    Calls Try.prog 43 #[.agg (bs s).toArray, .agg (bs f).toArray] w fun e w' => e = .returned (.agg (bs (mixS f s)).toArray) ∧ Below w.heap.size w w' := by
  obtain ⟨W0, hW0, r0, m0⟩ : ∃ W0, (((w.alloc (.cells (bs s).toArray 67)).alloc (.cells (bs f).toArray 59)).alloc (.cells #[.int .u8 0, .int .u8 0, .int .u8 0, .int .u8 0, .int .u8 0, .int .u8 0, .int .u8 0, .int .u8 0, .int .u8 0, .int .u8 0, .int .u8 0, .int .u8 0, .int .u8 0, .int .u8 0, .int .u8 0, .int .u8 0] 67)).alloc (.cells #[.int .u8 0, .int .u8 0, .int .u8 0, .int .u8 0, .int .u8 0, .int .u8 0, .int .u8 0, .int .u8 0, .int .u8 0, .int .u8 0, .int .u8 0, .int .u8 0, .int .u8 0, .int .u8 0, .int .u8 0, .int .u8 0] 67) = W0 ∧ Row W0 w.heap.size 0 (bs s) ∧ Mc w W0 f (mixd (mixS f s) (zr 16) (0 * 4)) :=
    ⟨_, rfl, (((Row.newL w (bs s) _).alloc _).alloc _).alloc _, ⟨((row2 w _ (bs f) _).alloc _).alloc _, (row3 w _ _ (bs (zr 16)) _).alloc _, by rw [Nat.zero_mul, mixd_zero]; exact row4 w _ _ _ (bs (zr 16)) _, below4 w _ _ _ _⟩⟩
  have lR : (mixS f s).length = 16 := mixS_length _ _
  have HX := hide (And.intro hs (And.intro hf lR))
  have HR0 := hide r0
  have H0 := hide m0
  clear r0 m0 hs hf lR
  go_enter Try.func43, Try.ntmps43
  go_wp2_with (refine wpList_loadR (op := ⟨some 11, _, _, _, _, _⟩) rfl 67 (.tmp 2) rfl rfl _ HR0.out Try.underlying67 rfl (by rw [bs_length, HX.out.1]; kernel_rfl) ?_)
  clear HR0 hW0
  go_loopg [6, 7, 8, 9, 10, 12] 4 (fun g _ _ _ _ _ q wr => ∃ k : Nat, k + g = 4 ∧ q = .int .i64 k ∧ Mc w wr f (mixd (mixS f s) (zr 16) (k * 4)))
  case atStart => exact ⟨0, rfl, rfl, H0.out⟩
  case round =>
    clear H0
    obtain ⟨wo, hwo⟩ : ∃ z, z = wr := ⟨_, rfl⟩
    subst hwo
    obtain ⟨k, hkg, rfl, hA⟩ := hrel
    by_cases hlt : k < 4
    · have hlt' : (k : Int) < 4 := by omega
      obtain ⟨g3, rfl⟩ : ∃ g3, gk = g3 + 1 := ⟨gk - 1, by omega⟩
      have hix : ∀ w, (Instr.index 67 (.agg (bs s).toArray) (.int .i64 (k : Int))).run Try.prog w = .ok (.agg (bs (wat s k)).toArray) w := idx_word s k Try.underlying67 hlt (by kernel_rfl) Try.underlying59 rfl
      obtain ⟨x, hx⟩ : ∃ x, wat s k = x := ⟨_, rfl⟩
      have lx : x.length = 4 := by rw [← hx]; exact wat_length (by rw [HX.out.1]; omega)
      rw [hx] at hix
      obtain ⟨W1, hW1, h1a, h1c, h1d⟩ : ∃ W1, (wo.alloc (.cells #[.int .u8 0, .int .u8 0, .int .u8 0, .int .u8 0] 59)).setCells wo.heap.size 0 (bs x) = W1 ∧ Mc w W1 f (mixd (mixS f s) (zr 16) (k * 4 + 0)) ∧ Row W1 wo.heap.size 0 (bs x) ∧ w.heap.size + 1 + 1 + 1 < wo.heap.size :=
        ⟨_, rfl, hA.made _ _ _, Row.made wo (bs (zr 4)) _ _ (by rw [bs_length, bs_length, lx]; rfl), hA.v.lt⟩
      have HZ := hide (Row.newL wo (bs (zr 4)) 59)
      have HA := hide (And.intro h1a (And.intro h1c h1d))
      have HL := hide (And.intro lx hx)
      clear hA h1a h1c h1d lx hx
      go_wp2_with (refine wpList_storeR (op := ⟨none, _, _, _, _, _⟩) rfl 59 (.tmp 7) (.tmp 15) rfl rfl (vs := bs x) rfl HZ.out (by rw [bs_length, bs_length, HL.out.1, zr_length]) (by rw [bs_length, HL.out.1]; kernel_rfl) (fun v hv => bs_one hv) ?_; rw [hW1])
      clear hix hW1 HZ
      go_loopg [8, 9, 10, 16] 4 (fun g _ _ _ q wr => ∃ r : Nat, r + g = 4 ∧ q = .int .i64 r ∧ Mc w wr f (mixd (mixS f s) (zr 16) (k * 4 + r)) ∧ Row wr wo.heap.size 0 (bs x) ∧ w.heap.size + 1 + 1 + 1 < wo.heap.size)
      case atStart => exact ⟨0, rfl, rfl, HA.out⟩
      case round =>
        clear HA
        obtain ⟨wx, hwx⟩ : ∃ z, z = wr := ⟨_, rfl⟩
        subst hwx
        obtain ⟨r, hrg, rfl, hA⟩ := hrel
        by_cases hr : r < 4
        · have hr' : (r : Int) < 4 := by omega
          obtain ⟨g4, rfl⟩ : ∃ g4, gk = g4 + 1 := ⟨gk - 1, by omega⟩
          have hj : k * 4 + r < 16 := by omega
          have HC := hide hA.2.1
          have HA := hide (show Mc w wx f (mixv f s k r 0) ∧ Row wx wo.heap.size 0 (bs x) ∧ w.heap.size + 1 + 1 + 1 < wo.heap.size from ⟨by rw [mixv_zero f s k r hj]; exact hA.1, hA.2⟩)
          clear hA
          go_wp2_with (refine wpList_loadR (op := ⟨some 19, _, _, _, _, _⟩) rfl 59 (.tmp 7) rfl rfl _ HC.out Try.underlying59 rfl (by rw [bs_length, HL.out.1]; kernel_rfl) ?_)
          clear HC
          go_loopg [9, 10, 20] 4 (fun g _ _ q wr => ∃ n : Nat, n + g = 4 ∧ q = .int .i64 n ∧ Mc w wr f (mixv f s k r n) ∧ Row wr wo.heap.size 0 (bs x) ∧ w.heap.size + 1 + 1 + 1 < wo.heap.size)
          case atStart => exact ⟨0, rfl, rfl, HA.out⟩
          case round =>
            clear HA
            obtain ⟨wy, hwy⟩ : ∃ z, z = wr := ⟨_, rfl⟩
            subst hwy
            obtain ⟨n, hng, rfl, hM, hC, hlow⟩ := hrel
            by_cases hn : n < 4
            · have hn' : (n : Int) < 4 := by omega
              obtain ⟨g5, rfl⟩ : ∃ g5, gk = g5 + 1 := ⟨gk - 1, by omega⟩
              have hix : ∀ w, (Instr.index 59 (.agg (bs x).toArray) (.int .i64 (n : Int))).run Try.prog w = .ok (.int .u8 ((gy x n).toNat : Int)) w := idx_arr x n Try.underlying59 hn HL.out.1 (by kernel_rfl) Try.underlying5
              obtain ⟨p, hp⟩ : ∃ p, (n + 4 - r) % 4 = p := ⟨_, rfl⟩
              have lp : p < 4 := by omega
              have lp' : (p : Int) < 4 := by omega
              have v1 := IntWalk.i64_in ((n : Int) - (r : Int)) (by omega)
              have v2 := IntWalk.i64_in ((n : Int) - (r : Int) + 4) (by omega)
              have v3 : ((n : Int) - (r : Int) + 4).tmod 4 = (p : Int) := by
                rw [Int.tmod_eq_emod_of_nonneg (by omega)]
                omega
              have v4 := IntWalk.i64_in (p : Int) (by omega)
              have hD := hM.drew
              have lmv := mixv_length f s k r n (by omega)
              have c1 := hD.v.g0 (k * 4 + r) (by rw [lmv]; exact hj)
              rw [mixv_at f s k r n hj] at c1
              have c2 := hD.f.g0 p (by rw [HX.out.2.1]; exact lp)
              have f1 := hD.v.fy0 (k * 4 + r) (by rw [lmv]; exact hj)
              have eb : gy x n = gy s (4 * k + n) := by rw [← HL.out.2]; unfold wat; rw [gy_take _ _ _ hn, gy_drop]
              have es : mixP f s k r n ^^^ mu (gy x n) (gy f p) = mixP f s k r (n + 1) := by
                rw [eb, ← hp]; rfl
              have hxo := x8_int (mixP f s k r n) (mu (gy x n) (gy f p))
              rw [es] at hxo
              have h3 := hD.set (j := k * 4 + r) (by rw [lmv]; exact hj) (mixP f s k r (n + 1))
              rw [mixv_set f s k r n _ rfl] at h3
              have H3 := hide (And.intro h3 (And.intro (hC.drew.other (w.heap.size + 1 + 1 + 1) (k * 4 + r) (.int .u8 ((mixP f s k r (n + 1)).toNat : Int)) (.inl (by omega))) hlow))
              have hcS : wy.drew.cell? ⟨w.heap.size + 1 + 1 + 1, k * 4 + r, none⟩ = some (.int .u8 ((mixP f s k r n).toNat : Int)) ∧ wy.drew.cell? ⟨w.heap.size + 1, p, none⟩ = some (.int .u8 ((gy f p).toNat : Int)) := ⟨c1, c2⟩
              have HS := hide hcS
              obtain ⟨ya, eya⟩ : ∃ y, gy x n = y := ⟨_, rfl⟩
              obtain ⟨yb, eyb⟩ : ∃ y, gy f p = y := ⟨_, rfl⟩
              obtain ⟨yc, eyc⟩ : ∃ y, mixP f s k r n = y := ⟨_, rfl⟩
              obtain ⟨yd, eyd⟩ : ∃ y, mixP f s k r (n + 1) = y := ⟨_, rfl⟩
              rw [eya] at hix
              rw [eya, eyb, eyc, eyd] at hxo
              rw [eyc, eyb] at HS
              rw [eyd] at H3
              clear hM hC hD h3 c1 c2 hcS lmv eb es hp eya eyb eyc eyd
              have c1 := HS.out.1
              go_wp2_with fail
              refine wp_region_ord (fun w9 => w9.cell? ⟨w.heap.size + 1 + 1 + 1, k * 4 + r, none⟩ = some (.int .u8 (yc.toNat : Int)) ∧ w9.cell? ⟨w.heap.size + 1, p, none⟩ = some (.int .u8 (yb.toNat : Int))) 17 [(0, some true), (1, some true), (2, some true), (3, some true), (4, some false), (5, some true), (6, some true), (7, some true), (8, some true), (9, some true), (10, some true), (11, some true), (12, some false), (15, some true), (13, none), (14, some true), (16, some true), (17, none)] (by kernel_rfl) (by kernel_rfl) (fun _ _ _ _ h => h) HS.out ?_
              refine ord_pureE (o := ⟨some 24, _, _, _, _, _⟩) rfl (by kernel_rfl) ⟨_, fun w9 => by (go_simp; try rfl), ?_⟩
              simp only [Act.put, List.setIfInBounds_toArray, List.set_cons_zero, List.set_cons_succ]
              refine ord_pureE (o := ⟨some 25, _, _, _, _, _⟩) rfl (by kernel_rfl) ⟨_, fun w9 => by (go_simp; try rfl), ?_⟩
              simp only [Act.put, List.setIfInBounds_toArray, List.set_cons_zero, List.set_cons_succ]
              refine ord_pureE (o := ⟨some 26, _, _, _, _, _⟩) rfl (by kernel_rfl) ⟨_, fun w9 => by (go_simp; try rfl), ?_⟩
              simp only [Act.put, List.setIfInBounds_toArray, List.set_cons_zero, List.set_cons_succ]
              refine ord_pureE (o := ⟨some 27, _, _, _, _, _⟩) rfl (by kernel_rfl) ⟨_, fun w9 => by (go_simp; try rfl), ?_⟩
              simp only [Act.put, List.setIfInBounds_toArray, List.set_cons_zero, List.set_cons_succ]
              refine ord_heldE (o := ⟨some 28, _, _, _, _, _⟩) rfl (by kernel_rfl) ⟨_, fun w9 h9 => by (obtain ⟨q1, q2⟩ := h9; go_simp; try rfl), ?_⟩
              simp only [Act.put, List.setIfInBounds_toArray, List.set_cons_zero, List.set_cons_succ]
              refine ord_pureE (o := ⟨some 29, _, _, _, _, _⟩) rfl (by kernel_rfl) ⟨_, fun w9 => by (go_simp; try rfl), ?_⟩
              simp only [Act.put, List.setIfInBounds_toArray, List.set_cons_zero, List.set_cons_succ]
              refine ord_pureE (o := ⟨some 30, _, _, _, _, _⟩) rfl (by kernel_rfl) ⟨_, fun w9 => by (go_simp; try rfl), ?_⟩
              simp only [Act.put, List.setIfInBounds_toArray, List.set_cons_zero, List.set_cons_succ]
              refine ord_pureE (o := ⟨some 31, _, _, _, _, _⟩) rfl (by kernel_rfl) ⟨_, fun w9 => by (go_simp; try rfl), ?_⟩
              simp only [Act.put, List.setIfInBounds_toArray, List.set_cons_zero, List.set_cons_succ]
              refine ord_pureE (o := ⟨some 32, _, _, _, _, _⟩) rfl (by kernel_rfl) ⟨_, fun w9 => by (go_simp; try rfl), ?_⟩
              simp only [Act.put, List.setIfInBounds_toArray, List.set_cons_zero, List.set_cons_succ]
              refine ord_pureE (o := ⟨some 33, _, _, _, _, _⟩) rfl (by kernel_rfl) ⟨_, fun w9 => by (go_simp; try rfl), ?_⟩
              simp only [Act.put, List.setIfInBounds_toArray, List.set_cons_zero, List.set_cons_succ]
              refine ord_pureE (o := ⟨some 34, _, _, _, _, _⟩) rfl (by kernel_rfl) ⟨_, fun w9 => by (go_simp; try rfl), ?_⟩
              simp only [Act.put, List.setIfInBounds_toArray, List.set_cons_zero, List.set_cons_succ]
              refine ord_pureE (o := ⟨some 35, _, _, _, _, _⟩) rfl (by kernel_rfl) ⟨_, fun w9 => by (go_simp; try rfl), ?_⟩
              simp only [Act.put, List.setIfInBounds_toArray, List.set_cons_zero, List.set_cons_succ]
              refine ord_heldE (o := ⟨some 36, _, _, _, _, _⟩) rfl (by kernel_rfl) ⟨_, fun w9 h9 => by (obtain ⟨q1, q2⟩ := h9; go_simp; try rfl), ?_⟩
              simp only [Act.put, List.setIfInBounds_toArray, List.set_cons_zero, List.set_cons_succ]
              refine ord_pureE (o := ⟨some 39, _, _, _, _, _⟩) rfl (by kernel_rfl) ⟨_, fun w9 => by (go_simp; try rfl), ?_⟩
              simp only [Act.put, List.setIfInBounds_toArray, List.set_cons_zero, List.set_cons_succ]
              refine ord_go rfl (fun K9 hK => ?_)
              go_simp
              go_wp2_with fail
              refine (product_u8 ya yb _).mono ?_
              rintro e w2 ⟨rfl, hw2⟩
              obtain rfl := hw2.symm
              dsimp only
              refine hK.out _ _ (fun _ => HS.out) ?_
              clear hK K9
              refine ord_pureE (o := ⟨some 38, _, _, _, _, _⟩) rfl (by kernel_rfl) ⟨_, fun w9 => by (go_simp; try rfl), ?_⟩
              simp only [Act.put, List.setIfInBounds_toArray, List.set_cons_zero, List.set_cons_succ]
              refine ord_pureE (o := ⟨some 40, _, _, _, _, _⟩) rfl (by kernel_rfl) ⟨_, fun w9 => by (go_simp; try rfl), ?_⟩
              simp only [Act.put, List.setIfInBounds_toArray, List.set_cons_zero, List.set_cons_succ]
              refine ord_go rfl (fun K9 hK => ?_)
              go_simp
              skip
              refine hK.out _ _ (fun h => by cases h) ?_
              clear hK K9
              refine ord_end ?_
              clear hix HS hxo v1 v2 v3 v4 f1 c1
              go_wp2_with fail
              go_roundg g5
              case measure => omega
              case rel => exact ⟨n + 1, by omega, by go_num, H3.out⟩
            · obtain rfl : n = 4 := by omega
              rw [mixv_all f s k r hlt hr] at hM
              have HA := hide (And.intro hM (And.intro hC hlow))
              clear hM hC hlow
              go_wp2_with fail
              go_roundg g4
              case measure => omega
              case rel => exact ⟨r + 1, by omega, by go_num, by rw [show k * 4 + (r + 1) = k * 4 + r + 1 by omega]; exact HA.out⟩
        · obtain rfl : r = 4 := by omega
          have HA := hide hA
          clear hA
          go_wp2_with fail
          go_roundg g3
          case measure => omega
          case rel => exact ⟨k + 1, by omega, by go_num, by rw [show (k + 1) * 4 = k * 4 + 4 by omega]; exact HA.out.1⟩
    · obtain rfl : k = 4 := by omega
      obtain ⟨_, h1, h2, hB⟩ := hA
      rw [show 4 * 4 = 16 from rfl, mixd_all HX.out.2.2 (zr_length 16)] at h2
      have H0 := hide h2
      have H1 := hide h1
      have HB := hide hB
      clear h1 h2 hB
      go_wp2_with (first | (refine wpList_loadR (op := ⟨some 44, _, _, _, _, _⟩) rfl 67 (.tmp 5) rfl rfl _ H0.out Try.underlying67 rfl (by rw [bs_length, HX.out.2.2]; kernel_rfl) ?_) | (refine wpList_storeR (op := ⟨none, _, _, _, _, _⟩) rfl 67 (.tmp 4) (.tmp 44) rfl rfl (vs := bs (mixS f s)) rfl H1.out (by rw [bs_length, bs_length, HX.out.2.2, zr_length]) (by rw [bs_length, HX.out.2.2]; kernel_rfl) (fun v hv => bs_one hv) ?_))
      exact post_row (cs := bs (mixS f s)) _ ((H1.out).put (bs (mixS f s)) (by rw [bs_length, bs_length, HX.out.2.2, zr_length])) rfl rfl Try.underlying67 rfl (by rw [bs_length, HX.out.2.2]; kernel_rfl) rfl ⟨rfl, HB.out.trans (below_setCells (by omega) _ _ _)⟩
end Go.Proofs.Ytknjmmbebkcnpaa

/- All bytes' inverses, walked: the call returns what ATab says, and leaves what was there. No condition. -/
namespace Go.Proofs.Ytknjmmbebkcnpaa
open Go.RowKit Bk
set_option linter.unusedVariables false
set_option linter.unusedSimpArgs false

set_option maxRecDepth 100000 in
set_option maxHeartbeats 8000000 in
theorem inverses_any (w : World) :
    Calls Try.prog 53 #[] w fun e w' => e = .returned (.agg (bs IV).toArray) ∧ Below w.heap.size w w' := by
  have HX := hide (show IV.length = 256 from ivs_length 255)
  have H0 := hide (show Row ((w.alloc (.cells (bs (zr 256)).toArray 56)).alloc (.cells (bs (zr 256)).toArray 56)) w.heap.size 0 (bs (zr 256)) ∧ Row ((w.alloc (.cells (bs (zr 256)).toArray 56)).alloc (.cells (bs (zr 256)).toArray 56)) (w.heap.size + 1) 0 (bs (ivs 0).1) ∧ Below w.heap.size w ((w.alloc (.cells (bs (zr 256)).toArray 56)).alloc (.cells (bs (zr 256)).toArray 56)) from
    ⟨(Row.newL w (bs (zr 256)) _).alloc _, row2 w _ (bs (zr 256)) _, below2 w _ _⟩)
  go_enter Try.func53, Try.ntmps53
  go_wp2_with (first | (refine wpList_allocL (op := ⟨some 0, _, _, _, _, _⟩) rfl 56 rfl (bs (zr 256)) 256 (by kernel_rfl) ?_) | (refine wpList_allocL (op := ⟨some 1, _, _, _, _, _⟩) rfl 56 rfl (bs (zr 256)) 256 (by kernel_rfl) ?_))

  go_loopg [2, 3, 4] 255 (fun g x y q wr => ∃ k : Nat, k + g = 255 ∧ q = .int .i64 k ∧ x = .int .u8 ((ivs k).2.1.toNat : Int) ∧ y = .int .u8 ((ivs k).2.2.toNat : Int) ∧ Row wr w.heap.size 0 (bs (zr 256)) ∧ Row wr (w.heap.size + 1) 0 (bs (ivs k).1) ∧ Below w.heap.size w wr)
  case atStart => exact ⟨0, rfl, rfl, rfl, rfl, H0.out⟩
  case round =>
    clear H0
    obtain ⟨k, hkg, rfl, rfl, rfl, h1, h2, hB⟩ := hrel
    by_cases hlt : k < 255
    · have hlt' : (k : Int) < 255 := by omega
      obtain ⟨g3, rfl⟩ : ∃ g3, gk = g3 + 1 := ⟨gk - 1, by omega⟩
      have hst : ivs (k + 1) = ((ivs k).1.set (ivs k).2.1.toNat (ivs k).2.2, mu (ivs k).2.1 3, mu (ivs k).2.2 246) := rfl
      obtain ⟨T, eT⟩ : ∃ T, (ivs k).1 = T := ⟨_, rfl⟩
      obtain ⟨p, ep⟩ : ∃ p, (ivs k).2.1 = p := ⟨_, rfl⟩
      obtain ⟨i, ei⟩ : ∃ i, (ivs k).2.2 = i := ⟨_, rfl⟩
      have lT : T.length = 256 := eT ▸ ivs_length k
      rw [eT, ep, ei] at hst
      rw [eT] at h2
      have HS := hide hst
      obtain ⟨n, en⟩ : ∃ n, p.toNat = n := ⟨_, rfl⟩
      have ln : n < 256 := en ▸ UInt8.toNat_lt p
      have ln' : (n : Int) < 256 := by omega
      have c1 := h2.g0 n (by rw [lT]; exact ln)
      have f1 := h2.fy0 n (by rw [lT]; exact ln)
      have h3 := h2.sety (i := n) (by rw [lT]; exact ln) i
      have H3 := hide (And.intro (h1.other (w.heap.size + 1) n (.int .u8 (i.toNat : Int)) (.inl (by omega))) (And.intro h3 (hB.setCell (p := ⟨w.heap.size + 1, n, none⟩) (by show w.heap.size ≤ w.heap.size + 1; omega) (.int .u8 (i.toNat : Int)))))
      have HP := hide en
      rw [ep, ei, en]
      clear h1 h2 h3 hB hst eT lT ep ei en
      go_wp2_with fail
      rw [← HP.out]
      refine (product_u8 p 3 _).mono ?_
      rintro e w2 ⟨rfl, hw⟩
      obtain rfl := hw.symm
      go_wp2_with fail
      refine (product_u8 i 246 _).mono ?_
      rintro e w3 ⟨rfl, hw⟩
      obtain rfl := hw.symm
      go_wp2_with fail
      go_roundg g3
      case measure => omega
      case rel => exact ⟨k + 1, by omega, by go_num, by rw [HS.out], by rw [HS.out], by rw [HP.out]; exact H3.out.1, by rw [HS.out, HP.out]; exact H3.out.2.1, by rw [HP.out]; exact H3.out.2.2⟩
    · obtain rfl : k = 255 := by omega
      have H0 := hide (show Row wr (w.heap.size + 1) 0 (bs IV) from h2)
      have H1 := hide h1
      have HB := hide hB
      clear h1 h2 hB
      go_wp2_with (first | (refine wpList_loadR (op := ⟨some 14, _, _, _, _, _⟩) rfl 56 (.tmp 1) rfl rfl _ H0.out Try.underlying56 rfl (by rw [bs_length, HX.out]; kernel_rfl) ?_) | (refine wpList_storeR (op := ⟨none, _, _, _, _, _⟩) rfl 56 (.tmp 0) (.tmp 14) rfl rfl (vs := bs IV) rfl H1.out (by rw [bs_length, bs_length, HX.out, zr_length]) (by rw [bs_length, HX.out]; kernel_rfl) (fun v hv => bs_one hv) ?_))
      exact post_row (cs := bs IV) _ ((H1.out).put (bs IV) (by rw [bs_length, bs_length, HX.out, zr_length])) rfl rfl Try.underlying56 rfl (by rw [bs_length, HX.out]; kernel_rfl) rfl ⟨rfl, HB.out.trans (below_setCells (by omega) _ _ _)⟩
end Go.Proofs.Ytknjmmbebkcnpaa

/- All bytes' stand-ins, walked: the call returns what ATab says, and leaves what was there. No condition. -/
namespace Go.Proofs.Ytknjmmbebkcnpaa
open Go.RowKit Bk
set_option linter.unusedVariables false
set_option linter.unusedSimpArgs false

theorem rotl8u_1 (x : UInt8) (w : World) : Calls Try.prog 54 #[.int .u8 (x.toNat : Int), .int .i64 1] w fun e w' => e = .returned (.int .u8 ((rot 1 x).toNat : Int)) ∧ w' = w := by
  have h := rotl8_1 x.toNat w (UInt8.toNat_lt x)
  rwa [u8_of] at h
theorem rotl8u_2 (x : UInt8) (w : World) : Calls Try.prog 54 #[.int .u8 (x.toNat : Int), .int .i64 2] w fun e w' => e = .returned (.int .u8 ((rot 2 x).toNat : Int)) ∧ w' = w := by
  have h := rotl8_2 x.toNat w (UInt8.toNat_lt x)
  rwa [u8_of] at h
theorem rotl8u_3 (x : UInt8) (w : World) : Calls Try.prog 54 #[.int .u8 (x.toNat : Int), .int .i64 3] w fun e w' => e = .returned (.int .u8 ((rot 3 x).toNat : Int)) ∧ w' = w := by
  have h := rotl8_3 x.toNat w (UInt8.toNat_lt x)
  rwa [u8_of] at h
theorem rotl8u_4 (x : UInt8) (w : World) : Calls Try.prog 54 #[.int .u8 (x.toNat : Int), .int .i64 4] w fun e w' => e = .returned (.int .u8 ((rot 4 x).toNat : Int)) ∧ w' = w := by
  have h := rotl8_4 x.toNat w (UInt8.toNat_lt x)
  rwa [u8_of] at h
set_option maxRecDepth 100000 in
set_option maxHeartbeats 8000000 in
theorem standIns_any (w : World) :
    Calls Try.prog 35 #[] w fun e w' => e = .returned (.agg (bs SB).toArray) ∧ Below w.heap.size w w' := by
  have HI := hide (show IV.length = 256 from ivs_length 255)
  have HX := hide SB_length
  have HS := hide (show SB = IV.map sbf from rfl)
  have HZ := hide (show Row (w.alloc (.cells (bs (zr 256)).toArray 56)) w.heap.size 0 (bs (zr 256)) ∧ Below w.heap.size w (w.alloc (.cells (bs (zr 256)).toArray 56)) from ⟨Row.newL w _ _, (Below.refl _ w).alloc (Nat.le_refl _) _⟩)
  go_enter Try.func35, Try.ntmps35
  go_wp2_with (refine wpList_allocL (op := ⟨some 0, _, _, _, _, _⟩) rfl 56 rfl (bs (zr 256)) 256 (by kernel_rfl) ?_)
  refine (inverses_any _).mono ?_
  rintro e w1 ⟨rfl, hB1⟩
  have H0 := hide (show Row w1 w.heap.size 0 (bs (zr 256)) ∧ Below w.heap.size w w1 from ⟨HZ.out.1.below hB1 HZ.out.1.lt, HZ.out.2.trans (hB1.mono HZ.out.2.size)⟩)
  have HN := hide (Row.newL w1 (bs (zr 256)) 56)
  obtain ⟨W2, hW2, k0, k1, k2, k3⟩ : ∃ W2, (w1.alloc (.cells (bs (zr 256)).toArray 56)).setCells w1.heap.size 0 (bs IV) = W2 ∧ Row W2 w.heap.size 0 (bs (zr 256)) ∧ Row W2 w1.heap.size 0 (bs IV) ∧ Below w.heap.size w W2 ∧ w.heap.size < w1.heap.size :=
    ⟨_, rfl, H0.out.1.keep _ _ _, Row.made w1 (bs (zr 256)) _ _ (by rw [bs_length, bs_length, HI.out, zr_length]), below_made H0.out.2 H0.out.2.size _ _ _, H0.out.1.lt⟩
  have HR0 := hide k1
  have H0 := hide (show Row W2 w.heap.size 0 (bs (zr 256)) ∧ Row W2 w1.heap.size 0 (bs (mixd SB IV 0)) ∧ Below w.heap.size w W2 from ⟨k0, by rw [mixd_zero]; exact k1, k2⟩)
  have HLo := hide k3
  clear HZ hB1 k0 k1 k2 k3
  go_wp2_with (first | (refine wpList_allocL (op := ⟨some 1, _, _, _, _, _⟩) rfl 56 rfl (bs (zr 256)) 256 (by kernel_rfl) ?_) | (refine wpList_storeR (op := ⟨none, _, _, _, _, _⟩) rfl 56 (.tmp 1) (.tmp 4) rfl rfl (vs := bs IV) rfl HN.out (by rw [bs_length, bs_length, HI.out, zr_length]) (by rw [bs_length, HI.out]; kernel_rfl) (fun v hv => bs_one hv) ?_; rw [hW2]) | (refine wpList_loadR (op := ⟨some 5, _, _, _, _, _⟩) rfl 56 (.tmp 1) rfl rfl _ HR0.out Try.underlying56 rfl (by rw [bs_length, HI.out]; kernel_rfl) ?_))
  clear HN hW2 HR0
  go_loopg [2, 3, 6] 256 (fun g _ _ q wr => ∃ k : Nat, k + g = 256 ∧ q = .int .i64 k ∧ Row wr w.heap.size 0 (bs (zr 256)) ∧ Row wr w1.heap.size 0 (bs (mixd SB IV k)) ∧ Below w.heap.size w wr)
  case atStart => exact ⟨0, rfl, rfl, H0.out⟩
  case round =>
    clear H0
    obtain ⟨k, hkg, rfl, h1, h2, hB⟩ := hrel
    by_cases hlt : k < 256
    · have hlt' : (k : Int) < 256 := by omega
      obtain ⟨g3, rfl⟩ : ∃ g3, gk = g3 + 1 := ⟨gk - 1, by omega⟩
      have hix : ∀ w, (Instr.index 56 (.agg (bs IV).toArray) (.int .i64 (k : Int))).run Try.prog w = .ok (.int .u8 ((gy IV k).toNat : Int)) w := idx_arr IV k Try.underlying56 hlt HI.out (by kernel_rfl) Try.underlying5
      have e1 : sbf (gy IV k) = gy SB k := by rw [HS.out, gy_map (by rw [HI.out]; exact hlt)]
      obtain ⟨x, ex⟩ : ∃ x, gy IV k = x := ⟨_, rfl⟩
      rw [ex] at hix e1
      have e2 : ((((x ^^^ rot 1 x) ^^^ rot 2 x) ^^^ rot 3 x) ^^^ rot 4 x) ^^^ 99 = gy SB k := e1
      have lm : (mixd SB IV k).length = 256 := mixd_length HX.out HI.out k (by omega)
      have c1 := h2.g0 k (by rw [lm]; exact hlt)
      have f1 := h2.fy0 k (by rw [lm]; exact hlt)
      have h3 := h2.mixd1 HX.out HI.out hlt e2
      have H3 := hide (And.intro (h1.other w1.heap.size k (.int .u8 ((((((x ^^^ rot 1 x) ^^^ rot 2 x) ^^^ rot 3 x) ^^^ rot 4 x) ^^^ 99).toNat : Int)) (.inl (Nat.ne_of_lt HLo.out))) (And.intro h3 (hB.setCell (p := ⟨w1.heap.size, k, none⟩) (Nat.le_of_lt HLo.out) (.int .u8 ((((((x ^^^ rot 1 x) ^^^ rot 2 x) ^^^ rot 3 x) ^^^ rot 4 x) ^^^ 99).toNat : Int)))))
      have q5 := x8_int ((((x ^^^ rot 1 x) ^^^ rot 2 x) ^^^ rot 3 x) ^^^ rot 4 x) 99
      rw [show ((99 : UInt8).toNat : Int) = 99 from rfl] at q5
      have HQ := hide q5
      clear h1 h2 h3 hB lm ex e1 e2 q5
      have q1 := x8_int x (rot 1 x)
      have q2 := x8_int (x ^^^ rot 1 x) (rot 2 x)
      have q3 := x8_int ((x ^^^ rot 1 x) ^^^ rot 2 x) (rot 3 x)
      have q4 := x8_int (((x ^^^ rot 1 x) ^^^ rot 2 x) ^^^ rot 3 x) (rot 4 x)
      obtain ⟨y1, f01⟩ : ∃ y, x ^^^ rot 1 x = y := ⟨_, rfl⟩
      rw [f01] at q1 q2 q3 q4 HQ H3
      obtain ⟨y2, f02⟩ : ∃ y, y1 ^^^ rot 2 x = y := ⟨_, rfl⟩
      rw [f02] at q2 q3 q4 HQ H3
      obtain ⟨y3, f03⟩ : ∃ y, y2 ^^^ rot 3 x = y := ⟨_, rfl⟩
      rw [f03] at q3 q4 HQ H3
      obtain ⟨y4, f04⟩ : ∃ y, y3 ^^^ rot 4 x = y := ⟨_, rfl⟩
      rw [f04] at q4 HQ H3
      have q5 := HQ.out
      obtain ⟨y5, f05⟩ : ∃ y, y4 ^^^ 99 = y := ⟨_, rfl⟩
      rw [f05] at q5 H3
      clear HQ f01 f02 f03 f04 f05
      go_wp2_with fail
      refine (rotl8u_1 x _).mono ?_
      rintro e w2 ⟨rfl, hw⟩
      obtain rfl := hw.symm
      go_wp2_with fail
      refine (rotl8u_2 x _).mono ?_
      rintro e w3 ⟨rfl, hw⟩
      obtain rfl := hw.symm
      go_wp2_with fail
      refine (rotl8u_3 x _).mono ?_
      rintro e w4 ⟨rfl, hw⟩
      obtain rfl := hw.symm
      go_wp2_with fail
      refine (rotl8u_4 x _).mono ?_
      rintro e w5 ⟨rfl, hw⟩
      obtain rfl := hw.symm
      go_wp2_with fail
      go_roundg g3
      case measure => omega
      case rel => exact ⟨k + 1, by omega, by go_num, H3.out⟩
    · obtain rfl : k = 256 := by omega
      rw [mixd_all HX.out HI.out] at h2
      have H0 := hide h2
      have H1 := hide h1
      have HB := hide hB
      clear h1 h2 hB
      go_wp2_with (first | (refine wpList_loadR (op := ⟨some 27, _, _, _, _, _⟩) rfl 56 (.tmp 1) rfl rfl _ H0.out Try.underlying56 rfl (by rw [bs_length, HX.out]; kernel_rfl) ?_) | (refine wpList_storeR (op := ⟨none, _, _, _, _, _⟩) rfl 56 (.tmp 0) (.tmp 27) rfl rfl (vs := bs SB) rfl H1.out (by rw [bs_length, bs_length, HX.out, zr_length]) (by rw [bs_length, HX.out]; kernel_rfl) (fun v hv => bs_one hv) ?_))
      exact post_row (cs := bs SB) _ ((H1.out).put (bs SB) (by rw [bs_length, bs_length, HX.out, zr_length])) rfl rfl Try.underlying56 rfl (by rw [bs_length, HX.out]; kernel_rfl) rfl ⟨rfl, HB.out.trans (below_setCells (by omega) _ _ _)⟩
end Go.Proofs.Ytknjmmbebkcnpaa
