/- Several texts of ours, one behind the other; what each is for stands ahead of it. -/
import Derived.Test.YtknjmmbebkcnpaaRun6
import Derived.Test.YtknjmmbebkcnpaaRun4
import Derived.Laws.Cover3

/- All rounds' keys, walked. For any key of 32 bytes, and any table that lies in memory: the call returns what ATab says, and leaves what was there. -/
namespace Go.Proofs.Ytknjmmbebkcnpaa
open Go.RowKit Bk
set_option linter.unusedVariables false
set_option linter.unusedSimpArgs false

theorem spr_take (T K : List UInt8) (hK : K.length = 32) (k : Nat) : ∀ m, k ≤ m → (spr T K m).take (4 * k) = spr T K k
  | 0, h => by
    obtain rfl : k = 0 := by omega
    rfl
  | m + 1, h => by
    by_cases e : k = m + 1
    · subst e
      rw [List.take_of_length_le (by rw [spr_length T K hK]; exact Nat.le_refl _)]
    · have ih := spr_take T K hK k m (by omega)
      show (spr T K m ++ nxt T K (spr T K m) m).take (4 * k) = _
      rw [List.take_append_of_le_length (by rw [spr_length T K hK]; omega)]
      exact ih
theorem take_wat {l : List UInt8} {a k : Nat} (h : 4 * k + 4 ≤ a) : wat (l.take a) k = wat l k := by
  unfold wat
  rw [List.drop_take, List.take_take, Nat.min_eq_left (by omega)]
theorem spr_wat (T K : List UInt8) (hK : K.length = 32) (k : Nat) (h : k < 60) : wat (spr T K 60) k = nxt T K (spr T K k) k := by
  have h1 := spr_take T K hK (k + 1) 60 (by omega)
  have h2 := spr_length T K hK k
  rw [← take_wat (l := spr T K 60) (a := 4 * (k + 1)) (by omega), h1]
  show wat (spr T K k ++ nxt T K (spr T K k) k) k = _
  unfold wat
  rw [← h2, List.drop_left, List.take_of_length_le (by rw [nxt_length T K hK]; exact Nat.le_refl _)]
theorem spr_old (T K : List UInt8) (hK : K.length = 32) (k j : Nat) (h : k ≤ 60) (hj : j < k) : wat (spr T K k) j = wat (spr T K 60) j := by
  rw [← spr_take T K hK k 60 h, take_wat (by omega)]
theorem mixd_wat {R s : List UInt8} {m k j : Nat} (hR : R.length = m) (hs : s.length = m) (h : k * 4 ≤ m) (hj : j < k) : wat (mixd R s (k * 4)) j = wat R j := by
  have h1 : (R.take (k * 4)).length = k * 4 := by rw [List.length_take]; omega
  unfold mixd
  rw [← take_wat (l := R.take (k * 4) ++ s.drop (k * 4)) (a := k * 4) (by omega), List.take_append_of_le_length (by omega), List.take_take, Nat.min_self, take_wat (by omega)]
/-- What lies in memory while words are made. -/
structure Sp (w wr : World) (V : List UInt8) : Prop where
  z : Row wr w.heap.size 0 (bs (zr 240))
  v : Row wr (w.heap.size + 1) 0 (bs V)
  be : Below w.heap.size w wr
theorem Sp.below {w wr w2 : World} {V : List UInt8} (h : Sp w wr V) (k : Below wr.heap.size wr w2) : Sp w w2 V := ⟨h.z.below k h.z.lt, h.v.below k h.v.lt, h.be.trans (k.mono h.be.size)⟩
theorem Sp.made {w wr : World} {V : List UInt8} (h : Sp w wr V) (z : Array Value) (vs : List Value) (t : TypeId) : Sp w ((wr.alloc (.cells z t)).setCells wr.heap.size 0 vs) V :=
  ⟨h.z.keep _ _ _, h.v.keep _ _ _, below_made h.be h.be.size _ _ _⟩
theorem Sp.drew {w wr : World} {V : List UInt8} (h : Sp w wr V) : Sp w wr.drew V := ⟨h.z.drew, h.v.drew, h.be.drew⟩
theorem Sp.far {w wr : World} {V : List UInt8} (h : Sp w wr V) (b o : Nat) (vs : List Value) (hb : w.heap.size + 1 < b) : Sp w (wr.setCells b o vs) V :=
  ⟨h.z.apart _ _ _ (.inl (by omega)), h.v.apart _ _ _ (.inl (by omega)), h.be.trans (below_setCells (by omega) _ _ _)⟩
theorem Sp.far1 {w wr : World} {V : List UInt8} (h : Sp w wr V) (b o : Nat) (v : Value) (hb : w.heap.size + 1 < b) : Sp w (wr.setCell ⟨b, o, none⟩ v) V :=
  ⟨h.z.other _ _ _ (.inl (by omega)), h.v.other _ _ _ (.inl (by omega)), h.be.setCell (p := ⟨b, o, none⟩) (by show w.heap.size ≤ b; omega) _⟩
theorem Sp.next {w wr : World} {R : List UInt8} {k : Nat} (h : Sp w wr (mixd R (zr 240) (k * 4))) (hR : R.length = 240) (hk : k < 60) (v : List UInt8) (hv : v = wat R k) : Sp w (wr.setCells (w.heap.size + 1) (k * 4) (bs v)) (mixd R (zr 240) ((k + 1) * 4)) := by
  refine ⟨h.z.apart _ _ _ (.inl (by omega)), ?_, h.be.trans (below_setCells (by omega) _ _ _)⟩
  rw [show (k + 1) * 4 = k * 4 + 4 by omega]
  exact h.v.mixd hR (zr_length 240) 4 (by omega) v (by rw [hv]; exact wat_eq _ _)

set_option maxRecDepth 100000 in
set_option maxHeartbeats 16000000 in
theorem spread_any (T : List UInt8) (key : ByteArray) (w : World) (b : Nat) (hk : key.size = 32) (hT : T.length = 256) (hR : Row w b 0 (bs T)) :
    Calls Try.prog 36 #[.string key, .pointer (some ⟨b, 0, none⟩)] w fun e w' => e = .returned (.agg (bs (spr T (sb key) 60)).toArray) ∧ Below w.heap.size w w' := by
  have hmx : Try.prog.follows .mixedOrders = true := by kernel_rfl
  obtain ⟨K, eK⟩ : ∃ K, sb key = K := ⟨_, rfl⟩
  have lK : K.length = 32 := by rw [← eK, sb_length, hk]
  obtain ⟨R, eR'⟩ : ∃ R, spr T K 60 = R := ⟨_, rfl⟩
  have lR : R.length = 240 := by rw [← eR', spr_length T K lK]
  have hw0 : ∀ k, k < 60 → wat R k = nxt T K (spr T K k) k := fun k h => eR' ▸ spr_wat T K lK k h
  have hw1 : ∀ k j, k ≤ 60 → j < k → wat (spr T K k) j = wat R j := fun k j h h2 => eR' ▸ spr_old T K lK k j h h2
  have HW := hide (And.intro hw0 hw1)
  have HX := hide (And.intro hk (And.intro eK lR))
  have HK := hide lK
  have HT := hide (And.intro hT hR)
  have H0 := hide (show Sp w ((w.alloc (.cells (bs (zr 240)).toArray 60)).alloc (.cells (bs (zr 240)).toArray 60)) (mixd R (zr 240) (0 * 4)) from
    ⟨(Row.newL w (bs (zr 240)) _).alloc _, by rw [Nat.zero_mul, mixd_zero]; exact row2 w _ (bs (zr 240)) _, below2 w _ _⟩)
  rw [eK, eR']
  clear lK eK eR' lR hw0 hw1 hT hR hk
  go_enter Try.func36, Try.ntmps36
  go_wp2_with (first | (refine wpList_allocL (op := ⟨some 4, _, _, _, _, _⟩) rfl 60 rfl (bs (zr 240)) 240 (by kernel_rfl) ?_) | (refine wpList_allocL (op := ⟨some 5, _, _, _, _, _⟩) rfl 60 rfl (bs (zr 240)) 240 (by kernel_rfl) ?_))
  go_loopg [6, 7, 8] 60 (fun g _ _ q wr => ∃ k : Nat, k + g = 60 ∧ q = .int .i64 k ∧ Sp w wr (mixd R (zr 240) (k * 4)))
  case atStart => exact ⟨0, rfl, rfl, H0.out⟩
  case round =>
    clear H0
    obtain ⟨wo, hwo⟩ : ∃ z, z = wr := ⟨_, rfl⟩
    subst hwo
    obtain ⟨k, hkg, rfl, hA⟩ := hrel
    have lm : (mixd R (zr 240) (k * 4)).length = 240 := mixd_length HX.out.2.2 (zr_length 240) _ (by omega)
    by_cases hlt : k < 60
    · have hlt' : (k : Int) < 60 := by omega
      obtain ⟨g3, rfl⟩ : ∃ g3, gk = g3 + 1 := ⟨gk - 1, by omega⟩
      by_cases h8 : k < 8
      · have h8' : (k : Int) < 8 := by omega
        have v1 := IntWalk.i64_in ((k : Int) * 4) (by omega)
        have v2 : (0 : Int) ≤ (k : Int) * 4 := by omega
        have v3 : (k : Int) * 4 ≤ (key.size : Int) := by rw [HX.out.1]; omega
        have v4 : ((k : Int) * 4).toNat = k * 4 := by omega
        obtain ⟨y, hy⟩ : ∃ y, key.extract (k * 4) key.size = y := ⟨_, rfl⟩
        have zy : y.size = 32 - k * 4 := by rw [← hy, ByteArray.size_extract, HX.out.1]; omega
        have sy : (sb y).take 4 = wat R k := by
          rw [HW.out.1 k hlt]
          unfold nxt
          rw [if_pos h8, ← hy, sb_extract, HX.out.2.1, List.take_take, HX.out.1, Nat.min_eq_left (by omega), wat_eq]
        have hD := hA.drew
        have hp := hD.v.part0 (k * 4) 4 (by omega)
        have h3 := hD.next HX.out.2.2 hlt ((sb y).take 4) sy
        have HP := hide (And.intro hp (show (bs (((mixd R (zr 240) (k * 4)).drop (k * 4)).take 4)).length = 4 by rw [bs_length, ← wat_eq]; exact wat_length (by omega)))
        have HY := hide (show Nat.min y.size 4 = 4 by rw [zy]; exact Nat.min_eq_right (by omega))
        have H3 := hide h3
        have hsl : ∀ w, (Instr.slice 9 (.string key) (some (.int .i64 ((k : Int) * 4))) none none).run Try.prog w = .ok (.string y) w := fun w => by
          rw [run_slice_string_from_if (h := Try.underlying9), if_pos (And.intro v2 v3), v4, hy]
        clear hA hD hp h3 lm sy zy hy v3 v4
        go_wp2_with fail
        go_still_tail 7, hmx
        go_wp2_with (refine wpList_copyS (op := ⟨some 20, _, _, _, _, _⟩) rfl (.tmp 15) (.tmp 19) 28 9 rfl 5 Try.underlying28 (by kernel_rfl) rfl rfl HY.out HP.out.1 HP.out.2 ?_)
        go_roundg g3
        case measure => omega
        case rel => exact ⟨k + 1, by omega, by go_num, H3.out⟩
      · have h8' : ¬ ((k : Int) < 8) := by omega
        obtain ⟨q1, e1⟩ : ∃ q, k - 1 = q := ⟨_, rfl⟩
        obtain ⟨q8, e8⟩ : ∃ q, k - 8 = q := ⟨_, rfl⟩
        have i1 : (k : Int) - 1 = (q1 : Int) := by omega
        have i8 : (k : Int) - 8 = (q8 : Int) := by omega
        have b1 : (q1 : Int) < 60 := by omega
        have b8 : (q8 : Int) < 60 := by omega
        have v1 := IntWalk.i64_in (q1 : Int) (by omega)
        have v8 := IntWalk.i64_in (q8 : Int) (by omega)
        obtain ⟨x, ex⟩ : ∃ x, wat R q1 = x := ⟨_, rfl⟩
        have lx : x.length = 4 := by rw [← ex]; exact wat_length (by rw [HX.out.2.2]; omega)
        obtain ⟨x8, ex8⟩ : ∃ x, wat R q8 = x := ⟨_, rfl⟩
        have lx8 : x8.length = 4 := by rw [← ex8]; exact wat_length (by rw [HX.out.2.2]; omega)
        obtain ⟨Y, eY⟩ : ∃ y, ahd T k x = y := ⟨_, rfl⟩
        have lY : Y.length = 4 := eY ▸ ahd_length _ _ _ lx
        have hn : wat R k = comb x8 (ahd T k x) := by
          rw [HW.out.1 k hlt]
          unfold nxt
          rw [if_neg h8, HW.out.2 k (k - 8) (by omega) (by omega), HW.out.2 k (k - 1) (by omega) (by omega), e8, e1, ex, ex8]
        have HE := hide (And.intro ex8 hn)
        have HL8 := hide lx8
        have HY := hide (And.intro eY lY)
        have hr1 := hA.v.part0 (q1 * 4) 4 (by omega)
        rw [← wat_eq, mixd_wat HX.out.2.2 (zr_length 240) (by omega) (by omega), ex] at hr1
        obtain ⟨W1, hW1, m1, m2, m3⟩ : ∃ W1, (wo.alloc (.cells #[.int .u8 0, .int .u8 0, .int .u8 0, .int .u8 0] 59)).setCells wo.heap.size 0 (bs x) = W1 ∧ Sp w W1 (mixd R (zr 240) (k * 4)) ∧ Row W1 wo.heap.size 0 (bs x) ∧ w.heap.size + 1 < wo.heap.size :=
          ⟨_, rfl, hA.made _ _ _, Row.made wo (bs (zr 4)) _ _ (by rw [bs_length, bs_length, lx]; rfl), hA.v.lt⟩
        have HZ := hide (Row.newL wo (bs (zr 4)) 59)
        have HR1 := hide hr1
        have HM := hide (And.intro m1 (And.intro m2 m3))
        have HLx := hide lx
        have hq : q8 < k ∧ q1 < k := by omega
        have HQ := hide (And.intro hq (And.intro e1 e8))
        clear hA hr1 m1 m2 m3 lx lx8 eY lY hn ex ex8 lm hq e1 e8
        by_cases c0 : k % 8 = 0
        · have n0 : (k : Int).tmod 8 = 0 := by rw [Int.tmod_eq_emod_of_nonneg (by omega)]; omega
          have r0 := HM.out.2.1.g0 0 (by rw [HLx.out]; decide)
          have r1 := HM.out.2.1.g0 1 (by rw [HLx.out]; decide)
          have r2 := HM.out.2.1.g0 2 (by rw [HLx.out]; decide)
          have r3 := HM.out.2.1.g0 3 (by rw [HLx.out]; decide)
          obtain ⟨X4, eX4⟩ : ∃ z, repl T [gy x 1, gy x 2, gy x 3, gy x 0] = z := ⟨_, rfl⟩
          have lX4 : X4.length = 4 := by rw [← eX4, repl_length]; rfl
          have hYX : X4.set 0 (gy X4 0 ^^^ UInt8.ofNat (2 ^ (k / 8 - 1))) = Y := by
            rw [← HY.out.1, ← eX4]
            unfold ahd
            rw [if_pos c0]
          obtain ⟨y0, e0⟩ : ∃ z, gy x 0 = z := ⟨_, rfl⟩
          obtain ⟨y1, e1⟩ : ∃ z, gy x 1 = z := ⟨_, rfl⟩
          obtain ⟨y2, e2⟩ : ∃ z, gy x 2 = z := ⟨_, rfl⟩
          obtain ⟨y3, e3⟩ : ∃ z, gy x 3 = z := ⟨_, rfl⟩
          rw [e0] at r0
          rw [e1] at r1
          rw [e2] at r2
          rw [e3] at r3
          rw [e0, e1, e2, e3] at eX4
          have H4 := hide (And.intro eX4 (And.intro lX4 hYX))
          clear eX4 lX4 hYX e0 e1 e2 e3
          go_wp2_with (first | (refine wpList_loadR (op := ⟨some 24, _, _, _, _, _⟩) rfl 59 (.tmp 23) rfl rfl _ HR1.out Try.underlying59 rfl (by rw [bs_length, HLx.out]; kernel_rfl) ?_) | (refine wpList_storeR (op := ⟨none, _, _, _, _, _⟩) rfl 59 (.tmp 7) (.tmp 24) rfl rfl (vs := bs x) rfl HZ.out (by rw [bs_length, bs_length, HLx.out, zr_length]) (by rw [bs_length, HLx.out]; kernel_rfl) (fun v hv => bs_one hv) ?_; rw [hW1]) | (refine wpList_buildL (op := ⟨some 37, _, _, _, _, _⟩) rfl 59 _ rfl (bs [y1, y2, y3, y0]) (by kernel_rfl) ?_))
          refine (wRepl_any T [y1, y2, y3, y0] _ b 0 rfl HT.out.1 ((HT.out.2.below HM.out.1.be HT.out.2.lt))).mono ?_
          rintro e w5 ⟨rfl, hB⟩
          rw [H4.out.1]
          have HM5 := hide (show Sp w w5 (mixd R (zr 240) (k * 4)) ∧ Row w5 wo.heap.size 0 (bs x) from ⟨HM.out.1.below hB, HM.out.2.1.below hB HM.out.2.1.lt⟩)
          clear hB r0 r1 r2 r3 hW1 HR1 HZ
          go_wp2_with (refine wpList_storeR (op := ⟨none, _, _, _, _, _⟩) rfl 59 (.tmp 7) (.tmp 39) rfl rfl (vs := bs X4) rfl HM5.out.2 (by rw [bs_length, bs_length, H4.out.2.1, HLx.out]) (by rw [bs_length, H4.out.2.1]; kernel_rfl) (fun v hv => bs_one hv) ?_)
          obtain ⟨W6, hW6, m1, m2⟩ : ∃ W, w5.setCells wo.heap.size 0 (bs X4) = W ∧ Sp w W (mixd R (zr 240) (k * 4)) ∧ Row W wo.heap.size 0 (bs X4) :=
            ⟨_, rfl, HM5.out.1.far _ _ _ HM.out.2.2, HM5.out.2.put (bs X4) (by rw [bs_length, bs_length, H4.out.2.1, HLx.out])⟩
          rw [hW6]
          have HM6 := hide (And.intro m1 m2)
          clear hW6 m1 m2 HM5
          have r0 := HM6.out.2.drew.g0 0 (by rw [H4.out.2.1]; decide)
          have f0 := HM6.out.2.drew.fy0 0 (by rw [H4.out.2.1]; decide)
          obtain ⟨d, ed⟩ : ∃ z, k / 8 - 1 = z := ⟨_, rfl⟩
          have j1 : (k : Int).tdiv 8 = (d : Int) + 1 := by rw [Int.tdiv_eq_ediv_of_nonneg (by omega)]; omega
          have j2 := IntWalk.i64_in ((d : Int) + 1) (by omega)
          have j3 : (d : Int) + 1 - 1 = (d : Int) := by omega
          have j4 := IntWalk.i64_in (d : Int) (by omega)
          obtain ⟨p, ep⟩ : ∃ p, UInt8.ofNat (2 ^ d) = p := ⟨_, rfl⟩
          have j5 : IntKind.u8.wrap ((2 : Int) ^ d) = ((p.toNat : Nat) : Int) := by
            rw [← ep]
            have h7 : d = 0 ∨ d = 1 ∨ d = 2 ∨ d = 3 ∨ d = 4 ∨ d = 5 ∨ d = 6 := by omega
            rcases h7 with e | e | e | e | e | e | e <;> rw [e] <;> decide
          have j5b : (2 : Int) ^ d % 256 = ((p.toNat : Nat) : Int) := by rw [← j5, IntKind.wrap_u8]
          have hmn : min d 8 = d := by omega
          have j6 := x8_int (gy X4 0) p
          obtain ⟨y5, e5⟩ : ∃ y, gy X4 0 ^^^ p = y := ⟨_, rfl⟩
          rw [e5] at j6
          have HD := hide (show (gy X4 0 ^^^ UInt8.ofNat (2 ^ (k / 8 - 1)) = gy X4 0 ^^^ p) ∧ gy X4 0 ^^^ p = y5 from ⟨by rw [ed, ep], e5⟩)
          clear ed ep e5
          go_wp2_with fail
          go_still_tail 8, hmx
          go_wp2_with fail
          obtain ⟨WZ, hWZ⟩ : ∃ W, (W6.setCell ⟨wo.heap.size, 0, none⟩ (.int .u8 (y5.toNat : Int))).drew = W := ⟨_, rfl⟩
          have HM7 := hide (show Sp w WZ (mixd R (zr 240) (k * 4)) ∧ Row WZ wo.heap.size 0 (bs Y) from hWZ ▸ ⟨(HM6.out.1.far1 _ _ _ HM.out.2.2).drew, by rw [← H4.out.2.2, HD.out.1, HD.out.2]; exact (HM6.out.2.sety (i := 0) (by rw [H4.out.2.1]; decide) y5).drew⟩)
          clear HM6 r0 f0 j1 j2 j3 j4 j5 j5b hmn j6 n0 H4 HD
          rw [hWZ]
          clear hWZ
          have HM8 := hide (show Sp w WZ.drew (mixd R (zr 240) (k * 4)) ∧ Row WZ.drew (w.heap.size + 1) (q8 * 4) (bs x8) ∧ Row WZ.drew wo.heap.size 0 (bs Y) from ⟨HM7.out.1.drew, by
            have h := HM7.out.1.drew.v.part0 (q8 * 4) 4 (by rw [mixd_length HX.out.2.2 (zr_length 240) _ (by omega)]; omega)
            rwa [← wat_eq, mixd_wat HX.out.2.2 (zr_length 240) (by omega) (by omega), HE.out.1] at h, HM7.out.2.drew⟩)
          clear HM7
          refine wp_region_ord (fun q9 => Row q9 (w.heap.size + 1) (q8 * 4) (bs x8) ∧ Row q9 wo.heap.size 0 (bs Y)) 6 [(0, some true), (1, some true), (2, some true), (3, some true), (4, some false), (5, some false), (6, none), (7, some true), (8, none)] (by kernel_rfl) (by kernel_rfl) (fun _ _ _ _ h => h) HM8.out.2 ?_
          refine ord_pureE (o := ⟨some 53, _, _, _, _, _⟩) rfl (by kernel_rfl) ⟨_, fun w9 => by (go_simp; try rfl), ?_⟩
          simp only [Act.put, List.setIfInBounds_toArray, List.set_cons_zero, List.set_cons_succ]
          refine ord_pureE (o := ⟨some 54, _, _, _, _, _⟩) rfl (by kernel_rfl) ⟨_, fun w9 => by (go_simp; try rfl), ?_⟩
          simp only [Act.put, List.setIfInBounds_toArray, List.set_cons_zero, List.set_cons_succ]
          refine ord_pureE (o := ⟨some 55, _, _, _, _, _⟩) rfl (by kernel_rfl) ⟨_, fun w9 => by (go_simp; try rfl), ?_⟩
          simp only [Act.put, List.setIfInBounds_toArray, List.set_cons_zero, List.set_cons_succ]
          refine ord_pureE (o := ⟨some 56, _, _, _, _, _⟩) rfl (by kernel_rfl) ⟨_, fun w9 => by (go_simp; try rfl), ?_⟩
          simp only [Act.put, List.setIfInBounds_toArray, List.set_cons_zero, List.set_cons_succ]
          refine ord_load (o := ⟨some 57, _, _, _, _, _⟩) 59 (.tmp 56) rfl rfl (by kernel_rfl) rfl _ (fun w9 h9 => h9.1.cell) Try.underlying59 rfl (by rw [bs_length, HL8.out]; kernel_rfl) ?_
          simp only [Act.put, List.setIfInBounds_toArray, List.set_cons_zero, List.set_cons_succ]
          refine ord_load (o := ⟨some 58, _, _, _, _, _⟩) 59 (.tmp 7) rfl rfl (by kernel_rfl) rfl _ (fun w9 h9 => h9.2.cell) Try.underlying59 rfl (by rw [bs_length, HY.out.2]; kernel_rfl) ?_
          simp only [Act.put, List.setIfInBounds_toArray, List.set_cons_zero, List.set_cons_succ]
          refine ord_go rfl (fun K9 hK => ?_)
          go_simp
          go_wp2_with fail
          refine (wComb_any x8 Y _ HL8.out HY.out.2).mono ?_
          rintro e w9 ⟨rfl, hB⟩
          have HM9 := hide (HM8.out.1.below hB)
          have HP := hide (And.intro (HM9.out.v.part0 (k * 4) 4 (by rw [mixd_length HX.out.2.2 (zr_length 240) _ (by omega)]; omega)) (show (comb x8 Y).length = 4 from comb_length HL8.out HY.out.2))
          clear hB
          dsimp only
          refine hK.out _ _ (fun h => by cases h) ?_
          clear hK K9
          refine ord_pureE (o := ⟨some 60, _, _, _, _, _⟩) rfl (by kernel_rfl) ⟨_, fun w9 => by (go_simp; try rfl), ?_⟩
          simp only [Act.put, List.setIfInBounds_toArray, List.set_cons_zero, List.set_cons_succ]
          refine ord_storeR (o := ⟨none, _, _, _, _, _⟩) rfl rfl rfl 59 (.tmp 60) (.tmp 59) rfl rfl (vs := bs (comb x8 Y)) rfl HP.out.1 (by rw [bs_length, bs_length, HP.out.2, ← wat_eq, wat_length (by rw [mixd_length HX.out.2.2 (zr_length 240) _ (by omega)]; omega)]) (by rw [bs_length, HP.out.2]; kernel_rfl) (fun v hv => bs_one hv) (fun h => by cases h) ?_
          refine ord_end ?_
          have HM10 := hide (HM9.out.next HX.out.2.2 hlt (comb x8 Y) (by rw [HE.out.2, HY.out.1]))
          clear HM8 HM9 HP
          go_wp2_with fail
          go_roundg g3
          case measure => omega
          case rel => exact ⟨k + 1, by omega, by go_num, HM10.out⟩
        · by_cases c4 : k % 8 = 4
          · have n0 : (k : Int).tmod 8 = 4 := by rw [Int.tmod_eq_emod_of_nonneg (by omega)]; omega
            have hYX : repl T x = Y := by
              rw [← HY.out.1]
              unfold ahd
              rw [if_neg c0, if_pos c4]
            have H4 := hide hYX
            have HC := hide HM.out.2.1
            clear hYX
            go_wp2_with (first | (refine wpList_loadR (op := ⟨some 24, _, _, _, _, _⟩) rfl 59 (.tmp 23) rfl rfl _ HR1.out Try.underlying59 rfl (by rw [bs_length, HLx.out]; kernel_rfl) ?_) | (refine wpList_storeR (op := ⟨none, _, _, _, _, _⟩) rfl 59 (.tmp 7) (.tmp 24) rfl rfl (vs := bs x) rfl HZ.out (by rw [bs_length, bs_length, HLx.out, zr_length]) (by rw [bs_length, HLx.out]; kernel_rfl) (fun v hv => bs_one hv) ?_; rw [hW1]) | (refine wpList_loadR (op := ⟨some 50, _, _, _, _, _⟩) rfl 59 (.tmp 7) rfl rfl _ HC.out Try.underlying59 rfl (by rw [bs_length, HLx.out]; kernel_rfl) ?_))
            refine (wRepl_any T x _ b 0 HLx.out HT.out.1 ((HT.out.2.below HM.out.1.be HT.out.2.lt))).mono ?_
            rintro e w5 ⟨rfl, hB⟩
            rw [H4.out]
            have HM5 := hide (show Sp w w5 (mixd R (zr 240) (k * 4)) ∧ Row w5 wo.heap.size 0 (bs x) from ⟨HM.out.1.below hB, HM.out.2.1.below hB HM.out.2.1.lt⟩)
            clear hB hW1 HR1 HZ n0 HC
            go_wp2_with (refine wpList_storeR (op := ⟨none, _, _, _, _, _⟩) rfl 59 (.tmp 7) (.tmp 52) rfl rfl (vs := bs Y) rfl HM5.out.2 (by rw [bs_length, bs_length, HY.out.2, HLx.out]) (by rw [bs_length, HY.out.2]; kernel_rfl) (fun v hv => bs_one hv) ?_)
            obtain ⟨WZ, hWZ⟩ : ∃ W, w5.setCells wo.heap.size 0 (bs Y) = W := ⟨_, rfl⟩
            have HM7 := hide (show Sp w WZ (mixd R (zr 240) (k * 4)) ∧ Row WZ wo.heap.size 0 (bs Y) from hWZ ▸ ⟨HM5.out.1.far _ _ _ HM.out.2.2, HM5.out.2.put (bs Y) (by rw [bs_length, bs_length, HY.out.2, HLx.out])⟩)
            clear HM5 H4
            rw [hWZ]
            clear hWZ
            go_wp2_with fail
            have HM8 := hide (show Sp w WZ.drew (mixd R (zr 240) (k * 4)) ∧ Row WZ.drew (w.heap.size + 1) (q8 * 4) (bs x8) ∧ Row WZ.drew wo.heap.size 0 (bs Y) from ⟨HM7.out.1.drew, by
              have h := HM7.out.1.drew.v.part0 (q8 * 4) 4 (by rw [mixd_length HX.out.2.2 (zr_length 240) _ (by omega)]; omega)
              rwa [← wat_eq, mixd_wat HX.out.2.2 (zr_length 240) (by omega) (by omega), HE.out.1] at h, HM7.out.2.drew⟩)
            clear HM7
            refine wp_region_ord (fun q9 => Row q9 (w.heap.size + 1) (q8 * 4) (bs x8) ∧ Row q9 wo.heap.size 0 (bs Y)) 6 [(0, some true), (1, some true), (2, some true), (3, some true), (4, some false), (5, some false), (6, none), (7, some true), (8, none)] (by kernel_rfl) (by kernel_rfl) (fun _ _ _ _ h => h) HM8.out.2 ?_
            refine ord_pureE (o := ⟨some 53, _, _, _, _, _⟩) rfl (by kernel_rfl) ⟨_, fun w9 => by (go_simp; try rfl), ?_⟩
            simp only [Act.put, List.setIfInBounds_toArray, List.set_cons_zero, List.set_cons_succ]
            refine ord_pureE (o := ⟨some 54, _, _, _, _, _⟩) rfl (by kernel_rfl) ⟨_, fun w9 => by (go_simp; try rfl), ?_⟩
            simp only [Act.put, List.setIfInBounds_toArray, List.set_cons_zero, List.set_cons_succ]
            refine ord_pureE (o := ⟨some 55, _, _, _, _, _⟩) rfl (by kernel_rfl) ⟨_, fun w9 => by (go_simp; try rfl), ?_⟩
            simp only [Act.put, List.setIfInBounds_toArray, List.set_cons_zero, List.set_cons_succ]
            refine ord_pureE (o := ⟨some 56, _, _, _, _, _⟩) rfl (by kernel_rfl) ⟨_, fun w9 => by (go_simp; try rfl), ?_⟩
            simp only [Act.put, List.setIfInBounds_toArray, List.set_cons_zero, List.set_cons_succ]
            refine ord_load (o := ⟨some 57, _, _, _, _, _⟩) 59 (.tmp 56) rfl rfl (by kernel_rfl) rfl _ (fun w9 h9 => h9.1.cell) Try.underlying59 rfl (by rw [bs_length, HL8.out]; kernel_rfl) ?_
            simp only [Act.put, List.setIfInBounds_toArray, List.set_cons_zero, List.set_cons_succ]
            refine ord_load (o := ⟨some 58, _, _, _, _, _⟩) 59 (.tmp 7) rfl rfl (by kernel_rfl) rfl _ (fun w9 h9 => h9.2.cell) Try.underlying59 rfl (by rw [bs_length, HY.out.2]; kernel_rfl) ?_
            simp only [Act.put, List.setIfInBounds_toArray, List.set_cons_zero, List.set_cons_succ]
            refine ord_go rfl (fun K9 hK => ?_)
            go_simp
            go_wp2_with fail
            refine (wComb_any x8 Y _ HL8.out HY.out.2).mono ?_
            rintro e w9 ⟨rfl, hB⟩
            have HM9 := hide (HM8.out.1.below hB)
            have HP := hide (And.intro (HM9.out.v.part0 (k * 4) 4 (by rw [mixd_length HX.out.2.2 (zr_length 240) _ (by omega)]; omega)) (show (comb x8 Y).length = 4 from comb_length HL8.out HY.out.2))
            clear hB
            dsimp only
            refine hK.out _ _ (fun h => by cases h) ?_
            clear hK K9
            refine ord_pureE (o := ⟨some 60, _, _, _, _, _⟩) rfl (by kernel_rfl) ⟨_, fun w9 => by (go_simp; try rfl), ?_⟩
            simp only [Act.put, List.setIfInBounds_toArray, List.set_cons_zero, List.set_cons_succ]
            refine ord_storeR (o := ⟨none, _, _, _, _, _⟩) rfl rfl rfl 59 (.tmp 60) (.tmp 59) rfl rfl (vs := bs (comb x8 Y)) rfl HP.out.1 (by rw [bs_length, bs_length, HP.out.2, ← wat_eq, wat_length (by rw [mixd_length HX.out.2.2 (zr_length 240) _ (by omega)]; omega)]) (by rw [bs_length, HP.out.2]; kernel_rfl) (fun v hv => bs_one hv) (fun h => by cases h) ?_
            refine ord_end ?_
            have HM10 := hide (HM9.out.next HX.out.2.2 hlt (comb x8 Y) (by rw [HE.out.2, HY.out.1]))
            clear HM8 HM9 HP
            go_wp2_with fail
            go_roundg g3
            case measure => omega
            case rel => exact ⟨k + 1, by omega, by go_num, HM10.out⟩
          · obtain ⟨m, em⟩ : ∃ m, k % 8 = m := ⟨_, rfl⟩
            have n0 : (k : Int).tmod 8 = (m : Int) := by rw [Int.tmod_eq_emod_of_nonneg (by omega)]; omega
            have n1 := IntWalk.i64_in (m : Int) (by omega)
            have t0 : ((m : Int) == 0) = false := by rw [beq_eq_false_iff_ne]; omega
            have t4 : ((m : Int) == 4) = false := by rw [beq_eq_false_iff_ne]; omega
            have hYX : x = Y := by
              rw [← HY.out.1]
              unfold ahd
              rw [if_neg c0, if_neg c4]
            rw [hYX] at HM
            have HM7 := hide (And.intro HM.out.1 HM.out.2.1)
            clear hYX em
            go_wp2_with (first | (refine wpList_loadR (op := ⟨some 24, _, _, _, _, _⟩) rfl 59 (.tmp 23) rfl rfl _ HR1.out Try.underlying59 rfl (by rw [bs_length, HLx.out]; kernel_rfl) ?_) | (refine wpList_storeR (op := ⟨none, _, _, _, _, _⟩) rfl 59 (.tmp 7) (.tmp 24) rfl rfl (vs := bs x) rfl HZ.out (by rw [bs_length, bs_length, HLx.out, zr_length]) (by rw [bs_length, HLx.out]; kernel_rfl) (fun v hv => bs_one hv) ?_; rw [hW1]))
            clear hW1 HR1 HZ n0 n1 t0 t4
            have HM8 := hide (show Sp w W1.drew (mixd R (zr 240) (k * 4)) ∧ Row W1.drew (w.heap.size + 1) (q8 * 4) (bs x8) ∧ Row W1.drew wo.heap.size 0 (bs Y) from ⟨HM7.out.1.drew, by
              have h := HM7.out.1.drew.v.part0 (q8 * 4) 4 (by rw [mixd_length HX.out.2.2 (zr_length 240) _ (by omega)]; omega)
              rwa [← wat_eq, mixd_wat HX.out.2.2 (zr_length 240) (by omega) (by omega), HE.out.1] at h, HM7.out.2.drew⟩)
            clear HM7
            refine wp_region_ord (fun q9 => Row q9 (w.heap.size + 1) (q8 * 4) (bs x8) ∧ Row q9 wo.heap.size 0 (bs Y)) 6 [(0, some true), (1, some true), (2, some true), (3, some true), (4, some false), (5, some false), (6, none), (7, some true), (8, none)] (by kernel_rfl) (by kernel_rfl) (fun _ _ _ _ h => h) HM8.out.2 ?_
            refine ord_pureE (o := ⟨some 53, _, _, _, _, _⟩) rfl (by kernel_rfl) ⟨_, fun w9 => by (go_simp; try rfl), ?_⟩
            simp only [Act.put, List.setIfInBounds_toArray, List.set_cons_zero, List.set_cons_succ]
            refine ord_pureE (o := ⟨some 54, _, _, _, _, _⟩) rfl (by kernel_rfl) ⟨_, fun w9 => by (go_simp; try rfl), ?_⟩
            simp only [Act.put, List.setIfInBounds_toArray, List.set_cons_zero, List.set_cons_succ]
            refine ord_pureE (o := ⟨some 55, _, _, _, _, _⟩) rfl (by kernel_rfl) ⟨_, fun w9 => by (go_simp; try rfl), ?_⟩
            simp only [Act.put, List.setIfInBounds_toArray, List.set_cons_zero, List.set_cons_succ]
            refine ord_pureE (o := ⟨some 56, _, _, _, _, _⟩) rfl (by kernel_rfl) ⟨_, fun w9 => by (go_simp; try rfl), ?_⟩
            simp only [Act.put, List.setIfInBounds_toArray, List.set_cons_zero, List.set_cons_succ]
            refine ord_load (o := ⟨some 57, _, _, _, _, _⟩) 59 (.tmp 56) rfl rfl (by kernel_rfl) rfl _ (fun w9 h9 => h9.1.cell) Try.underlying59 rfl (by rw [bs_length, HL8.out]; kernel_rfl) ?_
            simp only [Act.put, List.setIfInBounds_toArray, List.set_cons_zero, List.set_cons_succ]
            refine ord_load (o := ⟨some 58, _, _, _, _, _⟩) 59 (.tmp 7) rfl rfl (by kernel_rfl) rfl _ (fun w9 h9 => h9.2.cell) Try.underlying59 rfl (by rw [bs_length, HY.out.2]; kernel_rfl) ?_
            simp only [Act.put, List.setIfInBounds_toArray, List.set_cons_zero, List.set_cons_succ]
            refine ord_go rfl (fun K9 hK => ?_)
            go_simp
            go_wp2_with fail
            refine (wComb_any x8 Y _ HL8.out HY.out.2).mono ?_
            rintro e w9 ⟨rfl, hB⟩
            have HM9 := hide (HM8.out.1.below hB)
            have HP := hide (And.intro (HM9.out.v.part0 (k * 4) 4 (by rw [mixd_length HX.out.2.2 (zr_length 240) _ (by omega)]; omega)) (show (comb x8 Y).length = 4 from comb_length HL8.out HY.out.2))
            clear hB
            dsimp only
            refine hK.out _ _ (fun h => by cases h) ?_
            clear hK K9
            refine ord_pureE (o := ⟨some 60, _, _, _, _, _⟩) rfl (by kernel_rfl) ⟨_, fun w9 => by (go_simp; try rfl), ?_⟩
            simp only [Act.put, List.setIfInBounds_toArray, List.set_cons_zero, List.set_cons_succ]
            refine ord_storeR (o := ⟨none, _, _, _, _, _⟩) rfl rfl rfl 59 (.tmp 60) (.tmp 59) rfl rfl (vs := bs (comb x8 Y)) rfl HP.out.1 (by rw [bs_length, bs_length, HP.out.2, ← wat_eq, wat_length (by rw [mixd_length HX.out.2.2 (zr_length 240) _ (by omega)]; omega)]) (by rw [bs_length, HP.out.2]; kernel_rfl) (fun v hv => bs_one hv) (fun h => by cases h) ?_
            refine ord_end ?_
            have HM10 := hide (HM9.out.next HX.out.2.2 hlt (comb x8 Y) (by rw [HE.out.2, HY.out.1]))
            clear HM8 HM9 HP
            go_wp2_with fail
            go_roundg g3
            case measure => omega
            case rel => exact ⟨k + 1, by omega, by go_num, HM10.out⟩
    · obtain rfl : k = 60 := by omega
      rw [show 60 * 4 = 240 from rfl, mixd_all HX.out.2.2 (zr_length 240)] at hA
      have HA := hide hA
      have HLR := hide HX.out.2.2
      clear hA lm
      go_wp2_with (first | (refine wpList_loadR (op := ⟨some 62, _, _, _, _, _⟩) rfl 60 (.tmp 5) rfl rfl _ HA.out.v Try.underlying60 rfl (by rw [bs_length, HLR.out]; kernel_rfl) ?_) | (refine wpList_storeR (op := ⟨none, _, _, _, _, _⟩) rfl 60 (.tmp 4) (.tmp 62) rfl rfl (vs := bs R) rfl HA.out.z (by rw [bs_length, bs_length, HLR.out, zr_length]) (by rw [bs_length, HLR.out]; kernel_rfl) (fun v hv => bs_one hv) ?_))
      exact post_row (cs := bs R) _ ((HA.out.z).put (bs R) (by rw [bs_length, bs_length, HLR.out, zr_length])) rfl rfl Try.underlying60 rfl (by rw [bs_length, HLR.out]; kernel_rfl) rfl ⟨rfl, HA.out.be.trans (below_setCells (by omega) _ _ _)⟩
end Go.Proofs.Ytknjmmbebkcnpaa

/- A round's key, walked. For any cipher that lies in memory, and any round: the call returns it, and leaves what was there. -/
namespace Go.Proofs.Ytknjmmbebkcnpaa
open Go.RowKit Bk
set_option linter.unusedVariables false
set_option linter.unusedSimpArgs false

/-- A cipher's bytes: stand-ins, the other way about, the words. -/
def ciB (W : List UInt8) : List UInt8 := SB ++ (OB ++ W)
theorem ciB_length {W : List UInt8} (h : W.length = 240) : (ciB W).length = 752 := by unfold ciB; rw [List.length_append, List.length_append, SB_length, OB_length, h]
theorem ciB_sb {w : World} {b : Nat} {W : List UInt8} (h : Row w b 0 (bs (ciB W))) : Row w b 0 (bs SB) := by
  unfold ciB at h
  rw [bs_app] at h
  exact h.left
theorem ciB_ob {w : World} {b : Nat} {W : List UInt8} (h : Row w b 0 (bs (ciB W))) : Row w b 256 (bs OB) := by
  unfold ciB at h
  rw [bs_app] at h
  have k := h.right
  rw [bs_length, SB_length, bs_app] at k
  exact k.left
theorem ciB_w {w : World} {b : Nat} {W : List UInt8} (h : Row w b 0 (bs (ciB W))) : Row w b 512 (bs W) := by
  unfold ciB at h
  rw [bs_app] at h
  have k := h.right
  rw [bs_length, SB_length, bs_app] at k
  have k2 := k.right
  rw [bs_length, OB_length] at k2
  exact k2

set_option maxRecDepth 100000 in
set_option maxHeartbeats 4000000 in
theorem aKey_any (W : List UInt8) (n : Nat) (w : World) (b : Nat) (hW : W.length = 240) (hn : n ≤ 14) (hR : Row w b 0 (bs (ciB W))) :
    Calls Try.prog 42 #[.pointer (some ⟨b, 0, none⟩), .int .i64 (n : Int)] w fun e w' => e = .returned (.agg (bs (kR W n)).toArray) ∧ Below w.heap.size w w' := by
  have lR : (kR W n).length = 16 := kR_length (by omega)
  have hK : Row w b (512 + n * 16) (bs (kR W n)) := by
    unfold kR
    rw [Nat.mul_comm 16 n]
    exact (ciB_w hR).part (n * 16) 16 (by omega)
  obtain ⟨W0, hW0, r1, r2, b0⟩ : ∃ W0, w.alloc (.cells Z16 67) = W0 ∧ Row W0 w.heap.size 0 (bs (zr 16)) ∧ Row W0 b (512 + n * 16) (bs (kR W n)) ∧ Below w.heap.size w W0 :=
    ⟨_, rfl, Row.newL w (bs (zr 16)) _, hK.alloc _, (Below.refl _ w).alloc (Nat.le_refl _) _⟩
  have HX := hide lR
  have H1 := hide r1
  have H0 := hide r2
  have HB := hide b0
  have v1 := IntWalk.i64_in (4 * (n : Int)) (by omega)
  have v2 : (0 : Int) ≤ 4 * (n : Int) := by omega
  have v3 : 4 * (n : Int) ≤ 60 := by omega
  have v4 : (4 * (n : Int)).toNat = 4 * n := by omega
  clear r1 r2 b0 lR hR hK
  subst hW0
  have harr : ∀ w, (Instr.arrayAt 67 (.slice (some ⟨b, 512 + 4 * n * 4, none⟩) (60 - 4 * n) (60 - 4 * n))).run Try.prog w = .ok (.pointer (some ⟨b, 512 + n * 16, none⟩)) w := fun w => by
    rw [run_arrayAt (h := Try.underlying67) (hn := by omega), show 512 + 4 * n * 4 = 512 + n * 16 by omega]
  go_enter Try.func42, Try.ntmps42
  go_wp2_with (first | (refine wpList_loadR (op := ⟨some 12, _, _, _, _, _⟩) rfl 67 (.tmp 11) rfl rfl _ H0.out Try.underlying67 rfl (by rw [bs_length, HX.out]; kernel_rfl) ?_) | (refine wpList_storeR (op := ⟨none, _, _, _, _, _⟩) rfl 67 (.tmp 4) (.tmp 12) rfl rfl (vs := bs (kR W n)) rfl H1.out (by rw [bs_length, bs_length, HX.out, zr_length]) (by rw [bs_length, HX.out]; kernel_rfl) (fun v hv => bs_one hv) ?_))
  exact post_row (cs := bs (kR W n)) _ (H1.out.put (bs (kR W n)) (by rw [bs_length, bs_length, HX.out, zr_length])) rfl rfl Try.underlying67 rfl (by rw [bs_length, HX.out]; kernel_rfl) rfl ⟨rfl, HB.out.trans (below_setCells (by omega) _ _ _)⟩
end Go.Proofs.Ytknjmmbebkcnpaa

/- A block's bytes replaced, walked. For any block, and any table that lies in memory: the call returns what ATab says, and leaves what was there. -/
namespace Go.Proofs.Ytknjmmbebkcnpaa
open Go.RowKit Bk
set_option linter.unusedVariables false
set_option linter.unusedSimpArgs false

set_option maxRecDepth 100000 in
set_option maxHeartbeats 2000000 in
theorem sqRepl_any (T s : List UInt8) (w : World) (b o : Nat) (hs : s.length = 16) (hT : T.length = 256) (hR : Row w b o (bs T)) :
    Calls Try.prog 45 #[.agg (bs s).toArray, .pointer (some ⟨b, o, none⟩)] w fun e w' => e = .returned (.agg (bs (repl T s)).toArray) ∧ Below w.heap.size w w' := by
  obtain ⟨W0, hW0, r0, r1, b0⟩ : ∃ W0, (w.alloc (.cells (bs s).toArray 67)).alloc (.cells #[.int .u8 0, .int .u8 0, .int .u8 0, .int .u8 0, .int .u8 0, .int .u8 0, .int .u8 0, .int .u8 0, .int .u8 0, .int .u8 0, .int .u8 0, .int .u8 0, .int .u8 0, .int .u8 0, .int .u8 0, .int .u8 0] 67) = W0 ∧ Row W0 w.heap.size 0 (bs (mixd (repl T s) s 0)) ∧ Row W0 (w.heap.size + 1) 0 (bs (zr 16)) ∧ Below w.heap.size w W0 :=
    ⟨_, rfl, by rw [mixd_zero]; exact (Row.newL w (bs s) _).alloc _, row2 w _ (bs (zr 16)) _, below2 w _ _⟩
  have lR : (repl T s).length = 16 := by rw [repl_length, hs]
  have HX := hide (And.intro hs (And.intro hT lR))
  have HR := hide hR
  have H0 := hide r0
  have H1 := hide r1
  have HB := hide b0
  have hr0 : Row W0 w.heap.size 0 (bs s) := by rw [mixd_zero] at r0; exact r0
  have HR0 := hide hr0
  clear hr0 r0 r1 b0 hs hT lR hR
  go_enter Try.func45, Try.ntmps45
  go_wp2_with (refine wpList_loadR (op := ⟨some 7, _, _, _, _, _⟩) rfl 67 (.tmp 2) rfl rfl _ HR0.out Try.underlying67 rfl (by rw [bs_length, HX.out.1]; kernel_rfl) ?_)
  clear HR0 hW0
  go_loopg [5, 6, 8] 4 (fun g _ _ q wr => ∃ k : Nat, k + g = 4 ∧ q = .int .i64 k ∧ Row wr w.heap.size 0 (bs (mixd (repl T s) s (k * 4))) ∧ Row wr (w.heap.size + 1) 0 (bs (zr 16)) ∧ Below w.heap.size w wr)
  case atStart => exact ⟨0, rfl, rfl, H0.out, H1.out, HB.out⟩
  case round =>
    clear H0 H1 HB
    obtain ⟨wo, hwo⟩ : ∃ z, z = wr := ⟨_, rfl⟩
    subst hwo
    obtain ⟨k, hkg, rfl, h0, h1, hB⟩ := hrel
    by_cases hlt : k < 4
    · have hlt' : (k : Int) < 4 := by omega
      obtain ⟨g3, rfl⟩ : ∃ g3, gk = g3 + 1 := ⟨gk - 1, by omega⟩
      have hix : ∀ w, (Instr.index 67 (.agg (bs s).toArray) (.int .i64 (k : Int))).run Try.prog w = .ok (.agg (bs (wat s k)).toArray) w := idx_word s k Try.underlying67 hlt (by kernel_rfl) Try.underlying59 rfl
      obtain ⟨x, hx⟩ : ∃ x, wat s k = x := ⟨_, rfl⟩
      have lx : x.length = 4 := by rw [← hx]; exact wat_length (by rw [HX.out.1]; omega)
      rw [hx] at hix
      obtain ⟨W1, hW1, h1a, h1b, h1c, h1d, h1e⟩ : ∃ W1, (wo.alloc (.cells #[.int .u8 0, .int .u8 0, .int .u8 0, .int .u8 0] 59)).setCells wo.heap.size 0 (bs x) = W1 ∧ Row W1 w.heap.size 0 (bs (mixd (repl T s) s (k * 4))) ∧ Row W1 (w.heap.size + 1) 0 (bs (zr 16)) ∧ Row W1 wo.heap.size 0 (bs x) ∧ Below w.heap.size w W1 ∧ w.heap.size + 1 < wo.heap.size :=
        ⟨_, rfl, h0.keep _ _ _, h1.keep _ _ _, Row.made wo (bs (zr 4)) _ _ (by rw [bs_length, bs_length, lx]; rfl), below_made hB (Nat.le_of_lt h0.lt) _ _ _, h1.lt⟩
      have HZ := hide (Row.newL wo (bs (zr 4)) 59)
      have H1a := hide h1a
      have H1b := hide h1b
      have H1c := hide h1c
      have H1d := hide h1d
      have HTr := hide (HR.out.below h1d HR.out.lt)
      have HLX := hide lx
      have HWX := hide hx
      clear h0 h1 hB h1a h1b h1c h1d lx hx
      go_wp2_with (first | (refine wpList_storeR (op := ⟨none, _, _, _, _, _⟩) rfl 59 (.tmp 6) (.tmp 11) rfl rfl (vs := bs x) rfl HZ.out (by rw [bs_length, bs_length, HLX.out, zr_length]) (by rw [bs_length, HLX.out]; kernel_rfl) (fun v hv => bs_one hv) ?_; rw [hW1]) | (refine wpList_loadR (op := ⟨some 13, _, _, _, _, _⟩) rfl 59 (.tmp 6) rfl rfl _ H1c.out Try.underlying59 rfl (by rw [bs_length, HLX.out]; kernel_rfl) ?_))
      refine (wRepl_any T x _ b o HLX.out HX.out.2.1 HTr.out).mono ?_
      rintro e w2 ⟨rfl, hB2⟩
      have h0 := H1a.out.below hB2 H1a.out.lt
      have h1 := H1b.out.below hB2 H1b.out.lt
      have hB := H1d.out.trans (hB2.mono H1d.out.size)
      have hk4 : k * 4 + 4 ≤ 16 := by omega
      have lm : (mixd (repl T s) s (k * 4)).length = 16 := mixd_length HX.out.2.2 HX.out.1 _ (by omega)
      have hp := h0.part0 (k * 4) 4 (by omega)
      have hv : repl T x = ((repl T s).drop (k * 4)).take 4 := by rw [← HWX.out]; rw [← wat_repl]; exact wat_eq _ _
      have lv : (repl T x).length = 4 := by rw [repl_length, HLX.out]
      have h3 := h0.mixd HX.out.2.2 HX.out.1 4 hk4 (repl T x) hv
      have HP := hide (And.intro hp (show ((( mixd (repl T s) s (k * 4)).drop (k * 4)).take 4).length = 4 from by rw [← wat_eq]; exact wat_length (by omega)))
      have HLV := hide lv
      have H3 := hide (And.intro h3 (And.intro (h1.apart w.heap.size (k * 4) (bs (repl T x)) (.inl (by omega))) (hB.trans (below_setCells (b := w.heap.size) (Nat.le_refl _) (bs (repl T x)) (k * 4) w2))))
      clear h0 h1 hB hp h3 hv lv lm hix H1a H1b H1c H1d HTr HZ hW1 HWX hB2
      go_wp2_with (refine wpList_storeR (op := ⟨none, _, _, _, _, _⟩) rfl 59 (.tmp 16) (.tmp 15) rfl rfl (vs := bs (repl T x)) rfl HP.out.1 (by rw [bs_length, bs_length, HLV.out, HP.out.2]) (by rw [bs_length, HLV.out]; kernel_rfl) (fun v hv => bs_one hv) ?_)
      go_roundg g3
      case measure => omega
      case rel => exact ⟨k + 1, by omega, by go_num, by rw [show (k + 1) * 4 = k * 4 + 4 by omega]; exact H3.out.1, H3.out.2.1, H3.out.2.2⟩
    · obtain rfl : k = 4 := by omega
      rw [show 4 * 4 = 16 from rfl, mixd_all HX.out.2.2 HX.out.1] at h0
      have H0 := hide h0
      have H1 := hide h1
      have HB := hide hB
      clear h0 h1 hB
      go_wp2_with (first | (refine wpList_loadR (op := ⟨some 18, _, _, _, _, _⟩) rfl 67 (.tmp 2) rfl rfl _ H0.out Try.underlying67 rfl (by rw [bs_length, HX.out.2.2]; kernel_rfl) ?_) | (refine wpList_storeR (op := ⟨none, _, _, _, _, _⟩) rfl 67 (.tmp 4) (.tmp 18) rfl rfl (vs := bs (repl T s)) rfl H1.out (by rw [bs_length, bs_length, HX.out.2.2, zr_length]) (by rw [bs_length, HX.out.2.2]; kernel_rfl) (fun v hv => bs_one hv) ?_))
      exact post_row (cs := bs (repl T s)) _ ((H1.out).put (bs (repl T s)) (by rw [bs_length, bs_length, HX.out.2.2, zr_length])) rfl rfl Try.underlying67 rfl (by rw [bs_length, HX.out.2.2]; kernel_rfl) rfl ⟨rfl, HB.out.trans (below_setCells (by omega) _ _ _)⟩
end Go.Proofs.Ytknjmmbebkcnpaa

/- A block combined with a key, walked. For any two blocks: the call returns what ATab says, and leaves what was there. -/
namespace Go.Proofs.Ytknjmmbebkcnpaa
open Go.RowKit Bk
set_option linter.unusedVariables false
set_option linter.unusedSimpArgs false

set_option maxRecDepth 100000 in
set_option maxHeartbeats 4000000 in
theorem sqComb_any (s t : List UInt8) (w : World) (hs : s.length = 16) (ht : t.length = 16) :
    Calls Try.prog 41 #[.agg (bs s).toArray, .agg (bs t).toArray] w fun e w' => e = .returned (.agg (bs (comb s t)).toArray) ∧ Below w.heap.size w w' := by
  obtain ⟨W0, hW0, r0, r1, r2, b0⟩ : ∃ W0, ((w.alloc (.cells (bs s).toArray 67)).alloc (.cells (bs t).toArray 67)).alloc (.cells #[.int .u8 0, .int .u8 0, .int .u8 0, .int .u8 0, .int .u8 0, .int .u8 0, .int .u8 0, .int .u8 0, .int .u8 0, .int .u8 0, .int .u8 0, .int .u8 0, .int .u8 0, .int .u8 0, .int .u8 0, .int .u8 0] 67) = W0 ∧ Row W0 w.heap.size 0 (bs (mixd (comb s t) s 0)) ∧ Row W0 (w.heap.size + 1) 0 (bs t) ∧ Row W0 (w.heap.size + 1 + 1) 0 (bs (zr 16)) ∧ Below w.heap.size w W0 :=
    ⟨_, rfl, by rw [mixd_zero]; exact ((Row.newL w (bs s) _).alloc _).alloc _, (row2 w _ (bs t) _).alloc _, row3 w _ _ (bs (zr 16)) _, below3 w _ _ _⟩
  have lR : (comb s t).length = 16 := comb_length hs ht
  have HX := hide (And.intro hs (And.intro ht lR))
  have H0 := hide r0
  have H1 := hide r2
  have HB := hide b0
  have HR0 := hide r1
  clear r0 r1 r2 b0 hs ht lR
  go_enter Try.func41, Try.ntmps41
  go_wp2_with (refine wpList_loadR (op := ⟨some 7, _, _, _, _, _⟩) rfl 67 (.tmp 3) rfl rfl _ HR0.out Try.underlying67 rfl (by rw [bs_length, HX.out.2.1]; kernel_rfl) ?_)
  clear HR0 hW0
  go_loopg [5, 6, 8] 4 (fun g _ _ q wr => ∃ k : Nat, k + g = 4 ∧ q = .int .i64 k ∧ Row wr w.heap.size 0 (bs (mixd (comb s t) s (k * 4))) ∧ Row wr (w.heap.size + 1 + 1) 0 (bs (zr 16)) ∧ Below w.heap.size w wr)
  case atStart => exact ⟨0, rfl, rfl, H0.out, H1.out, HB.out⟩
  case round =>
    clear H0 H1 HB
    obtain ⟨wo, hwo⟩ : ∃ z, z = wr := ⟨_, rfl⟩
    subst hwo
    obtain ⟨k, hkg, rfl, h0, h1, hB⟩ := hrel
    by_cases hlt : k < 4
    · have hlt' : (k : Int) < 4 := by omega
      obtain ⟨g3, rfl⟩ : ∃ g3, gk = g3 + 1 := ⟨gk - 1, by omega⟩
      have hix : ∀ w, (Instr.index 67 (.agg (bs t).toArray) (.int .i64 (k : Int))).run Try.prog w = .ok (.agg (bs (wat t k)).toArray) w := idx_word t k Try.underlying67 hlt (by kernel_rfl) Try.underlying59 rfl
      have hk4 : k * 4 + 4 ≤ 16 := by omega
      have lm : (mixd (comb s t) s (k * 4)).length = 16 := mixd_length HX.out.2.2 HX.out.1 _ (by omega)
      obtain ⟨y, hy⟩ : ∃ y, wat t k = y := ⟨_, rfl⟩
      have ly : y.length = 4 := by rw [← hy]; exact wat_length (by rw [HX.out.2.1]; omega)
      obtain ⟨x, hx⟩ : ∃ x, wat s k = x := ⟨_, rfl⟩
      have lx : x.length = 4 := by rw [← hx]; exact wat_length (by rw [HX.out.1]; omega)
      have hxm : ((mixd (comb s t) s (k * 4)).drop (k * 4)).take 4 = x := by
        rw [← wat_eq, Nat.mul_comm k 4, wat_mixd HX.out.2.2 HX.out.1 (by omega), hx]
      have hv : comb x y = ((comb s t).drop (k * 4)).take 4 := by rw [← hx, ← hy, ← wat_comb]; exact wat_eq _ _
      rw [hy] at hix
      obtain ⟨W1, hW1, h1a, h1b, h1c, h1d, h1e, h1f⟩ : ∃ W1, (wo.alloc (.cells #[.int .u8 0, .int .u8 0, .int .u8 0, .int .u8 0] 59)).setCells wo.heap.size 0 (bs y) = W1 ∧ Row W1 w.heap.size 0 (bs (mixd (comb s t) s (k * 4))) ∧ Row W1 (w.heap.size + 1 + 1) 0 (bs (zr 16)) ∧ Row W1 wo.heap.size 0 (bs y) ∧ Row W1 w.heap.size (k * 4) (bs x) ∧ Below w.heap.size w W1 ∧ w.heap.size + 1 + 1 < wo.heap.size := by
        have hh := h0.keep #[.int .u8 0, .int .u8 0, .int .u8 0, .int .u8 0] (bs y) 59
        have hp := hh.part0 (k * 4) 4 (by omega)
        rw [hxm] at hp
        exact ⟨_, rfl, hh, h1.keep _ _ _, Row.made wo (bs (zr 4)) _ _ (by rw [bs_length, bs_length, ly]; rfl), hp, below_made hB (Nat.le_of_lt h0.lt) _ _ _, h1.lt⟩
      have HZ := hide (Row.newL wo (bs (zr 4)) 59)
      have H1 := hide (And.intro h1a.drew (And.intro h1b.drew (And.intro h1c.drew (And.intro h1d.drew (Below.drew h1e)))))
      have HL := hide (And.intro lx (And.intro ly lm))
      have HV := hide hv
      clear h0 h1 hB h1a h1b h1c h1d h1e lx ly hx hy hxm hv lm
      go_wp2_with (refine wpList_storeR (op := ⟨none, _, _, _, _, _⟩) rfl 59 (.tmp 6) (.tmp 11) rfl rfl (vs := bs y) rfl HZ.out (by rw [bs_length, bs_length, HL.out.2.1, zr_length]) (by rw [bs_length, HL.out.2.1]; kernel_rfl) (fun v hv => bs_one hv) ?_; rw [hW1])
      refine wp_region_ord (fun w9 => Row w9 w.heap.size (k * 4) (bs x) ∧ Row w9 wo.heap.size 0 (bs y)) 5 [(0, some true), (1, some true), (2, some true), (3, some false), (4, some false), (5, none), (6, some true), (7, none)] (by kernel_rfl) (by kernel_rfl) (fun _ _ _ _ h => h) ⟨H1.out.2.2.2.1, H1.out.2.2.1⟩ ?_
      refine ord_pureE (o := ⟨some 12, _, _, _, _, _⟩) rfl (by kernel_rfl) ⟨_, fun w9 => by (go_simp; try rfl), ?_⟩
      simp only [Act.put, List.setIfInBounds_toArray, List.set_cons_zero, List.set_cons_succ]
      refine ord_pureE (o := ⟨some 13, _, _, _, _, _⟩) rfl (by kernel_rfl) ⟨_, fun w9 => by (go_simp; try rfl), ?_⟩
      simp only [Act.put, List.setIfInBounds_toArray, List.set_cons_zero, List.set_cons_succ]
      refine ord_pureE (o := ⟨some 14, _, _, _, _, _⟩) rfl (by kernel_rfl) ⟨_, fun w9 => by (go_simp; try rfl), ?_⟩
      simp only [Act.put, List.setIfInBounds_toArray, List.set_cons_zero, List.set_cons_succ]
      refine ord_load (o := ⟨some 15, _, _, _, _, _⟩) 59 (.tmp 14) rfl rfl (by kernel_rfl) rfl _ (fun w9 h9 => h9.1.cell) Try.underlying59 rfl (by rw [bs_length, HL.out.1]; kernel_rfl) ?_
      simp only [Act.put, List.setIfInBounds_toArray, List.set_cons_zero, List.set_cons_succ]
      refine ord_load (o := ⟨some 16, _, _, _, _, _⟩) 59 (.tmp 6) rfl rfl (by kernel_rfl) rfl _ (fun w9 h9 => h9.2.cell) Try.underlying59 rfl (by rw [bs_length, HL.out.2.1]; kernel_rfl) ?_
      simp only [Act.put, List.setIfInBounds_toArray, List.set_cons_zero, List.set_cons_succ]
      refine ord_go rfl (fun K9 hK => ?_)
      go_simp
      go_wp2_with fail
      refine (wComb_any x y _ HL.out.1 HL.out.2.1).mono ?_
      rintro e w2 ⟨rfl, hB2⟩
      obtain ⟨a1, a2, a3, a4, a5⟩ := H1.out
      have h0 := a1.below hB2 a1.lt
      have h1 := a2.below hB2 a2.lt
      have h4 := a4.below hB2 a4.lt
      have hB := a5.trans (hB2.mono a5.size)
      have lv : (comb x y).length = 4 := comb_length HL.out.1 HL.out.2.1
      have h3 := h0.mixd HX.out.2.2 HX.out.1 4 hk4 (comb x y) HV.out
      have HP := hide (And.intro h4 lv)
      have H3 := hide (And.intro h3 (And.intro (h1.apart w.heap.size (k * 4) (bs (comb x y)) (.inl (by omega))) (hB.trans (below_setCells (b := w.heap.size) (Nat.le_refl _) (bs (comb x y)) (k * 4) w2))))
      clear h0 h1 h4 hB h3 lv a1 a2 a3 a4 a5 hB2
      dsimp only
      refine hK.out _ _ (fun h => by cases h) ?_
      clear hK K9
      refine ord_pureE (o := ⟨some 18, _, _, _, _, _⟩) rfl (by kernel_rfl) ⟨_, fun w9 => by (go_simp; try rfl), ?_⟩
      simp only [Act.put, List.setIfInBounds_toArray, List.set_cons_zero, List.set_cons_succ]
      refine ord_storeR (o := ⟨none, _, _, _, _, _⟩) rfl rfl rfl 59 (.tmp 18) (.tmp 17) rfl rfl (vs := bs (comb x y)) rfl HP.out.1 (by rw [bs_length, bs_length, HP.out.2, HL.out.1]) (by rw [bs_length, HP.out.2]; kernel_rfl) (fun v hv => bs_one hv) (fun h => by cases h) ?_
      refine ord_end ?_
      clear hix hW1 HZ H1 HV HP HL
      go_wp2_with fail
      go_roundg g3
      case measure => omega
      case rel => exact ⟨k + 1, by omega, by go_num, by rw [show (k + 1) * 4 = k * 4 + 4 by omega]; exact H3.out.1, H3.out.2.1, H3.out.2.2⟩
    · obtain rfl : k = 4 := by omega
      rw [show 4 * 4 = 16 from rfl, mixd_all HX.out.2.2 HX.out.1] at h0
      have H0 := hide h0
      have H1 := hide h1
      have HB := hide hB
      clear h0 h1 hB
      go_wp2_with (first | (refine wpList_loadR (op := ⟨some 20, _, _, _, _, _⟩) rfl 67 (.tmp 2) rfl rfl _ H0.out Try.underlying67 rfl (by rw [bs_length, HX.out.2.2]; kernel_rfl) ?_) | (refine wpList_storeR (op := ⟨none, _, _, _, _, _⟩) rfl 67 (.tmp 4) (.tmp 20) rfl rfl (vs := bs (comb s t)) rfl H1.out (by rw [bs_length, bs_length, HX.out.2.2, zr_length]) (by rw [bs_length, HX.out.2.2]; kernel_rfl) (fun v hv => bs_one hv) ?_))
      exact post_row (cs := bs (comb s t)) _ ((H1.out).put (bs (comb s t)) (by rw [bs_length, bs_length, HX.out.2.2, zr_length])) rfl rfl Try.underlying67 rfl (by rw [bs_length, HX.out.2.2]; kernel_rfl) rfl ⟨rfl, HB.out.trans (below_setCells (by omega) _ _ _)⟩
end Go.Proofs.Ytknjmmbebkcnpaa
