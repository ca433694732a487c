/- Several texts of ours, one behind the other; what each is for stands ahead of it. -/
import Derived.Test.YtknjmmbebkcnpaaRun4
import Derived.Test.YtknjmmbebkcnpaaRun7
import Derived.Test.YtknjmmbebkcnpaaRun6

/- A block's rows taken to the left, walked. For any block, and a number of times of at most 3: the call returns what ATab says, and leaves what was there. -/
namespace Go.Proofs.Ytknjmmbebkcnpaa
open Go.RowKit Bk
set_option linter.unusedVariables false
set_option linter.unusedSimpArgs false

theorem shf_at (t : Nat) (s : List UInt8) (i r : Nat) (hi : i < 4) (hr : r < 4) : gy s ((i + t * r) % 4 * 4 + r) = gy (shf t s) (i * 4 + r) := by
  rw [gy_shf _ _ (by omega), show (i * 4 + r) / 4 = i by omega, show (i * 4 + r) % 4 = r by omega, Nat.mul_comm 4]

set_option maxRecDepth 100000 in
set_option maxHeartbeats 4000000 in
theorem sqShift_any (t : Nat) (s : List UInt8) (w : World) (hs : s.length = 16) (ht : t ≤ 3) :
    Calls Try.prog 44 #[.agg (bs s).toArray, .int .i64 (t : Int)] w fun e w' => e = .returned (.agg (bs (shf t s)).toArray) ∧ Below w.heap.size w w' := by
  have hmx : Try.prog.follows .mixedOrders = true := by kernel_rfl
  obtain ⟨W0, hW0, r0, r1, r2, b0⟩ : ∃ W0, ((w.alloc (.cells (bs s).toArray 67)).alloc (.cells #[.int .u8 0, .int .u8 0, .int .u8 0, .int .u8 0, .int .u8 0, .int .u8 0, .int .u8 0, .int .u8 0, .int .u8 0, .int .u8 0, .int .u8 0, .int .u8 0, .int .u8 0, .int .u8 0, .int .u8 0, .int .u8 0] 67)).alloc (.cells #[.int .u8 0, .int .u8 0, .int .u8 0, .int .u8 0, .int .u8 0, .int .u8 0, .int .u8 0, .int .u8 0, .int .u8 0, .int .u8 0, .int .u8 0, .int .u8 0, .int .u8 0, .int .u8 0, .int .u8 0, .int .u8 0] 67) = W0 ∧ Row W0 w.heap.size 0 (bs s) ∧ Row W0 (w.heap.size + 1) 0 (bs (zr 16)) ∧ Row W0 (w.heap.size + 1 + 1) 0 (bs (mixd (shf t s) (zr 16) (0 * 4))) ∧ Below w.heap.size w W0 :=
    ⟨_, rfl, ((Row.newL w (bs s) _).alloc _).alloc _, (row2 w _ (bs (zr 16)) _).alloc _, by rw [Nat.zero_mul, mixd_zero]; exact row3 w _ _ (bs (zr 16)) _, below3 w _ _ _⟩
  have lR : (shf t s).length = 16 := shf_length _ _
  have HX := hide (And.intro hs (And.intro ht lR))
  have H0 := hide (And.intro r0 (And.intro r1 (And.intro r2 b0)))
  clear r0 r1 r2 b0 hs ht lR
  go_enter Try.func44, Try.ntmps44
  go_wp2_with fail
  clear hW0
  go_loopg [6, 7, 8, 11] 4 (fun g _ _ q _ wr => ∃ k : Nat, k + g = 4 ∧ q = .int .i64 k ∧ Row wr w.heap.size 0 (bs s) ∧ Row wr (w.heap.size + 1) 0 (bs (zr 16)) ∧ Row wr (w.heap.size + 1 + 1) 0 (bs (mixd (shf t s) (zr 16) (k * 4))) ∧ Below w.heap.size w wr)
  case atStart => exact ⟨0, rfl, rfl, H0.out⟩
  case round =>
    clear H0
    obtain ⟨wo, hwo⟩ : ∃ z, z = wr := ⟨_, rfl⟩
    subst hwo
    obtain ⟨k, hkg, rfl, hA⟩ := hrel
    by_cases hlt : k < 4
    · have hlt' : (k : Int) < 4 := by omega
      obtain ⟨g3, rfl⟩ : ∃ g3, gk = g3 + 1 := ⟨gk - 1, by omega⟩
      have HA := hide hA
      clear hA
      go_wp2_with fail
      go_loopg [7, 11] 4 (fun g _ q wr => ∃ r : Nat, r + g = 4 ∧ q = .int .i64 r ∧ Row wr w.heap.size 0 (bs s) ∧ Row wr (w.heap.size + 1) 0 (bs (zr 16)) ∧ Row wr (w.heap.size + 1 + 1) 0 (bs (mixd (shf t s) (zr 16) (k * 4 + r))) ∧ Below w.heap.size w wr)
      case atStart => exact ⟨0, rfl, rfl, HA.out⟩
      case round =>
        clear HA
        obtain ⟨wx, hwx⟩ : ∃ z, z = wr := ⟨_, rfl⟩
        subst hwx
        obtain ⟨r, hrg, rfl, hA⟩ := hrel
        by_cases hr : r < 4
        · have hr' : (r : Int) < 4 := by omega
          obtain ⟨g4, rfl⟩ : ∃ g4, gk = g4 + 1 := ⟨gk - 1, by omega⟩
          obtain ⟨h0, h1, h2, hB⟩ := hA
          have hj : k * 4 + r < 16 := by omega
          obtain ⟨m, hm⟩ : ∃ m, t * r = m := ⟨_, rfl⟩
          have lm : m ≤ 9 := by
            rw [← hm]
            exact Nat.mul_le_mul (show t ≤ 3 from HX.out.2.1) (show r ≤ 3 by omega)
          obtain ⟨p, hp⟩ : ∃ p, (k + m) % 4 = p := ⟨_, rfl⟩
          have lp : p < 4 := by omega
          have v1 : IntKind.i64.wrap ((t : Int) * (r : Int)) = (m : Int) := by rw [← Int.natCast_mul, hm]; exact IntWalk.i64_in _ (by omega)
          have v2 := IntWalk.i64_in ((k : Int) + (m : Int)) (by omega)
          have v3 : ((k : Int) + (m : Int)).tmod 4 = (p : Int) := by
            rw [Int.tmod_eq_emod_of_nonneg (by omega)]
            omega
          have v4 := IntWalk.i64_in (p : Int) (by omega)
          have lp' : (p : Int) < 4 := by omega
          have e1 : gy s (p * 4 + r) = gy (shf t s) (k * 4 + r) := by rw [← hp, ← hm]; exact shf_at t s k r hlt hr
          have c1 := h0.drew.g0 (p * 4 + r) (by rw [HX.out.1]; omega)
          rw [e1] at c1
          have lm2 : (mixd (shf t s) (zr 16) (k * 4 + r)).length = 16 := mixd_length HX.out.2.2 (zr_length 16) _ (by omega)
          have f2 := h2.drew.fy0 (k * 4 + r) (by rw [lm2]; exact hj)
          have c2 := h2.drew.g0 (k * 4 + r) (by rw [lm2]; exact hj)
          have h3 := h2.drew.mixd1 HX.out.2.2 (zr_length 16) hj (x := gy (shf t s) (k * 4 + r)) rfl
          have H3 := hide (And.intro (h0.drew.other (w.heap.size + 1 + 1) (k * 4 + r) (.int .u8 ((gy (shf t s) (k * 4 + r)).toNat : Int)) (.inl (by omega))) (And.intro (h1.drew.other (w.heap.size + 1 + 1) (k * 4 + r) (.int .u8 ((gy (shf t s) (k * 4 + r)).toNat : Int)) (.inl (by omega))) (And.intro h3 ((Below.drew hB).setCell (p := ⟨w.heap.size + 1 + 1, k * 4 + r, none⟩) (by show w.heap.size ≤ w.heap.size + 1 + 1; omega) (.int .u8 ((gy (shf t s) (k * 4 + r)).toNat : Int))))))
          clear h0 h1 h2 h3 hB e1 hm hp
          go_wp2_with fail
          go_still_tail 14, hmx
          go_wp2_with fail
          go_roundg g4
          case measure => omega
          case rel => exact ⟨r + 1, by omega, by go_num, by rw [show k * 4 + (r + 1) = k * 4 + r + 1 by omega]; exact H3.out⟩
        · obtain rfl : r = 4 := by omega
          have HA := hide hA
          clear hA
          go_wp2_with fail
          go_roundg g3
          case measure => omega
          case rel => exact ⟨k + 1, by omega, by go_num, by rw [show (k + 1) * 4 = k * 4 + 4 by omega]; exact HA.out⟩
    · obtain rfl : k = 4 := by omega
      obtain ⟨h0, h1, h2, hB⟩ := hA
      rw [show 4 * 4 = 16 from rfl, mixd_all HX.out.2.2 (zr_length 16)] at h2
      have H0 := hide h2
      have H1 := hide h1
      have HB := hide hB
      clear h0 h1 h2 hB
      go_wp2_with (first | (refine wpList_loadR (op := ⟨some 30, _, _, _, _, _⟩) rfl 67 (.tmp 5) rfl rfl _ H0.out Try.underlying67 rfl (by rw [bs_length, HX.out.2.2]; kernel_rfl) ?_) | (refine wpList_storeR (op := ⟨none, _, _, _, _, _⟩) rfl 67 (.tmp 4) (.tmp 30) rfl rfl (vs := bs (shf t s)) rfl H1.out (by rw [bs_length, bs_length, HX.out.2.2, zr_length]) (by rw [bs_length, HX.out.2.2]; kernel_rfl) (fun v hv => bs_one hv) ?_))
      exact post_row (cs := bs (shf t s)) _ ((H1.out).put (bs (shf t s)) (by rw [bs_length, bs_length, HX.out.2.2, zr_length])) rfl rfl Try.underlying67 rfl (by rw [bs_length, HX.out.2.2]; kernel_rfl) rfl ⟨rfl, HB.out.trans (below_setCells (by omega) _ _ _)⟩
end Go.Proofs.Ytknjmmbebkcnpaa

/- What lies in memory in a round: a cipher, its pointer in a cell, the block. No call is walked here. -/
namespace Go.Proofs.Ytknjmmbebkcnpaa
open Go.RowKit Bk
set_option linter.unusedVariables false
set_option linter.unusedSimpArgs false

/-- A cipher of the words W in block b, its pointer in block bp. -/
structure Cw (w : World) (bp b : Nat) (W : List UInt8) : Prop where
  ptr : w.cell? ⟨bp, 0, none⟩ = some (.pointer (some ⟨b, 0, none⟩))
  lt : bp < w.heap.size
  row : Row w b 0 (bs (ciB W))
  len : W.length = 240
theorem Cw.below {w w' : World} {bp b : Nat} {W : List UInt8} (h : Cw w bp b W) (k : Below w.heap.size w w') : Cw w' bp b W :=
  ⟨(k.cell (p := ⟨bp, 0, none⟩) h.lt).trans h.ptr, Nat.lt_of_lt_of_le h.lt k.size, h.row.below k h.row.lt, h.len⟩
/-- A round's block, its result's cells. -/
structure Rn (w wr : World) (s : List UInt8) : Prop where
  s : Row wr w.heap.size 0 (bs s)
  z : Row wr (w.heap.size + 1) 0 (bs (zr 16))
  be : Below w.heap.size w wr
theorem Rn.below {w wr w2 : World} {s : List UInt8} (h : Rn w wr s) (k : Below wr.heap.size wr w2) : Rn w w2 s := ⟨h.s.below k h.s.lt, h.z.below k h.z.lt, h.be.trans (k.mono h.be.size)⟩
theorem Rn.drew {w wr : World} {s : List UInt8} (h : Rn w wr s) : Rn w wr.drew s := ⟨h.s.drew, h.z.drew, h.be.drew⟩
theorem Rn.put {w wr : World} {s : List UInt8} (h : Rn w wr s) (v : List UInt8) (hs : s.length = 16) (hv : v.length = 16) : Rn w (wr.setCells w.heap.size 0 (bs v)) v :=
  ⟨h.s.put (bs v) (by rw [bs_length, bs_length, hs, hv]), h.z.apart _ _ _ (.inl (by omega)), h.be.trans (below_setCells (Nat.le_refl _) _ _ _)⟩
theorem Rn.start (w : World) (s : List UInt8) : Rn w ((w.alloc (.cells (bs s).toArray 67)).alloc (.cells #[.int .u8 0, .int .u8 0, .int .u8 0, .int .u8 0, .int .u8 0, .int .u8 0, .int .u8 0, .int .u8 0, .int .u8 0, .int .u8 0, .int .u8 0, .int .u8 0, .int .u8 0, .int .u8 0, .int .u8 0, .int .u8 0] 67)) s :=
  ⟨(Row.newL w (bs s) _).alloc _, row2 w _ (bs (zr 16)) _, below2 w _ _⟩
theorem sqShift_1 (s : List UInt8) (w : World) (hs : s.length = 16) : Calls Try.prog 44 #[.agg (bs s).toArray, .int .i64 1] w fun e w' => e = .returned (.agg (bs (shf 1 s)).toArray) ∧ Below w.heap.size w w' := sqShift_any 1 s w hs (by decide)
theorem sqShift_3 (s : List UInt8) (w : World) (hs : s.length = 16) : Calls Try.prog 44 #[.agg (bs s).toArray, .int .i64 3] w fun e w' => e = .returned (.agg (bs (shf 3 s)).toArray) ∧ Below w.heap.size w w' := sqShift_any 3 s w hs (by decide)
end Go.Proofs.Ytknjmmbebkcnpaa

/- A cipher made, walked. For any key: of 32 bytes the call returns a cipher in memory of its own, of another length none and an error; what was there is left. -/
namespace Go.Proofs.Ytknjmmbebkcnpaa
open Go.RowKit Bk
set_option linter.unusedVariables false
set_option linter.unusedSimpArgs false

theorem fold_set : ∀ (l : List Value) (k : Nat) (cs : List Value), k + l.length ≤ cs.length → (l.zipIdx k).foldl (fun cs p => cs.setIfInBounds (0 + p.2) p.1) cs.toArray = (cs.take k ++ (l ++ cs.drop (k + l.length))).toArray
  | [], k, cs, _ => by simp
  | v :: l, k, cs, h => by
    rw [List.zipIdx_cons, List.foldl_cons]
    have e : cs.toArray.setIfInBounds (0 + k) v = (cs.set k v).toArray := by rw [Nat.zero_add, List.setIfInBounds_toArray]
    show (l.zipIdx (k + 1)).foldl _ (cs.toArray.setIfInBounds (0 + k) v) = _
    have hk : k < cs.length := by rw [List.length_cons] at h; omega
    rw [e, fold_set l (k + 1) (cs.set k v) (by rw [List.length_set]; rw [List.length_cons] at h; omega)]
    congr 1
    have h1 : (cs.set k v).take (k + 1) = cs.take k ++ [v] := by
      rw [List.take_add_one, List.getElem?_set_self hk, List.take_set_of_le (by omega)]
      rfl
    have h2 : (cs.set k v).drop (k + 1 + l.length) = cs.drop (k + (l.length + 1)) := by
      rw [List.drop_set_of_lt (by omega)]
      congr 1
      omega
    rw [h1, h2, List.length_cons, List.append_assoc]
    rfl
theorem built_first {P : Program} {t : TypeId} {fs : Array Field} {z : List Value} {pl : List (Nat × Nat)} {n : Nat} (T : List Value) (hu : P.underlying t = some (.struct fs)) (hz : (P.info? t).map (·.zero) = some (some (.agg z.toArray)))
    (hp : fs.toList.mapM (fun f => (P.info? f.type).map fun i => (f.offset, i.size)) = some ((0, n) :: pl)) (hT : T.length = n) (hn : n ≤ z.length) : P.built t [(0, .agg T.toArray)] = some (T ++ z.drop n).toArray := by
  cases hq : P.info? t with
  | none => simp [hq] at hz
  | some it =>
    have hz' : it.zero = some (.agg z.toArray) := by simpa [hq] using hz
    unfold Program.built
    rw [hq, hu]
    simp only [hz', hp]
    have hf := fold_set T 0 z (by omega)
    rw [Nat.zero_add, hT, List.take_zero, List.nil_append] at hf
    unfold Instr.fill
    simp only [List.getElem?_toArray, List.getElem?_cons_zero, Value.cells, List.size_toArray, hT]
    rw [if_neg (by simp; omega)]
    unfold Instr.fill
    rw [← hf]
    simp
theorem zr_drop (n k : Nat) : (zr n).drop k = zr (n - k) := List.drop_replicate
theorem zr_app (n k : Nat) : zr n ++ zr k = zr (n + k) := List.replicate_append_replicate
theorem bs_drop (l : List UInt8) (k : Nat) : (bs l).drop k = bs (l.drop k) := by unfold bs; rw [List.map_drop]
theorem obs_zero : obs 0 = zr 256 := by unfold obs zr; rfl
theorem ci_zero : bs SB ++ (bs (zr 752)).drop 256 = bs (SB ++ (obs 0 ++ zr 240)) := by
  rw [bs_app, bs_drop, zr_drop, obs_zero, zr_app]
theorem ci_set (O Z : List UInt8) (n : Nat) (x : UInt8) (hO : O.length = 256) (hn : n < 256) : (SB ++ (O ++ Z)).set (256 + n) x = SB ++ (O.set n x ++ Z) := by
  rw [List.set_append_right _ _ (by rw [SB_length]; omega), SB_length, Nat.add_sub_cancel_left, List.set_append_left _ _ (by omega)]
theorem ci_put {w : World} {b : Nat} {O Z V : List UInt8} (h : Row w b 0 (bs (SB ++ (O ++ Z)))) (hO : O.length = 256) (hZ : Z.length = 240) (hV : V.length = 240) : Row (w.setCells b 512 (bs V)) b 0 (bs (SB ++ (O ++ V))) := by
  have h1 := h.over 512 V (by rw [List.length_append, List.length_append, SB_length, hO, hZ, hV]; decide)
  have e : (SB ++ (O ++ Z)).take 512 ++ (V ++ (SB ++ (O ++ Z)).drop (512 + V.length)) = SB ++ (O ++ V) := by
    have l1 : (SB ++ O).length = 512 := by rw [List.length_append, SB_length, hO]
    rw [← List.append_assoc SB O Z, List.take_append_of_le_length (by omega), List.take_of_length_le (by omega), List.drop_eq_nil_of_le (by rw [List.length_append, l1, hZ, hV]; exact Nat.le_refl _), List.append_nil, List.append_assoc]
  rwa [e] at h1

set_option maxRecDepth 100000 in
set_option maxHeartbeats 4000000 in
theorem aNew_bad (key : ByteArray) (w : World) (hk : key.size ≠ 32) :
    Calls Try.prog 16 #[.string key] w fun e w' => e = .returned (.tuple #[.pointer none, .int .i64 1]) ∧ w' = w := by
  have hk' : ((key.size : Int) != 32) = true := by rw [bne_iff_ne]; omega
  go_enter Try.func16, Try.ntmps16
  go_wp2_with fail
  exact bodyPost_ret (v := .tuple #[.pointer none, .int .i64 1]) (by simp [results, Try.results16, go_sem]) rfl ⟨rfl, rfl⟩

set_option maxRecDepth 100000 in
set_option maxHeartbeats 8000000 in
theorem aNew_any (key : ByteArray) (w : World) (hk : key.size = 32) :
    Calls Try.prog 16 #[.string key] w fun e w' => ∃ b, e = .returned (.tuple #[.pointer (some ⟨b, 0, none⟩), .int .i64 0]) ∧ w.heap.size ≤ b ∧ Row w' b 0 (bs (ciB (spr SB (sb key) 60))) ∧ Below w.heap.size w w' := by
  have hk' : ((key.size : Int) != 32) = false := by rw [hk]; rfl
  obtain ⟨V, eV⟩ : ∃ V, spr SB (sb key) 60 = V := ⟨_, rfl⟩
  have lV : V.length = 240 := by rw [← eV, spr_length SB (sb key) (by rw [sb_length, hk])]
  have HX := hide (And.intro hk (And.intro eV (And.intro lV SB_length)))
  have HZz := hide (show ∀ w, (zeroValue 62).run Try.prog w = .ok (.agg (bs (zr 752)).toArray) w from (zero_of_info (n := 752) (by kernel_rfl)).1)
  have HFo := hide (show List.foldl (fun (cs : Array Value) (x : Value × Nat) => cs.setIfInBounds x.snd x.fst) (bs (zr 752)).toArray (bs SB).zipIdx = (bs (SB ++ (obs 0 ++ zr 240))).toArray by
    have h := fold_set (bs SB) 0 (bs (zr 752)) (by rw [bs_length, bs_length, SB_length, zr_length]; decide)
    rw [Nat.zero_add, bs_length, SB_length, List.take_zero, List.nil_append, ci_zero] at h
    simp only [Nat.zero_add] at h
    exact h)
  have HLe := hide (show (bs SB).length = 256 ∧ (bs (zr 752)).length = 752 from ⟨by rw [bs_length, SB_length], by rw [bs_length, zr_length]⟩)
  have HO := hide (show ∀ k, (obs k).length = 256 ∧ obs (k + 1) = (obs k).set (gy SB k).toNat (UInt8.ofNat k) from fun k => ⟨obs_length k, rfl⟩)
  have HL := hide (show ∀ k, (SB ++ (obs k ++ zr 240)).length = 752 from fun k => by rw [List.length_append, List.length_append, SB_length, obs_length, zr_length])
  rw [eV]
  clear eV lV hk
  go_enter Try.func16, Try.ntmps16
  go_wp2_with fail
  refine (standIns_any _).mono ?_
  rintro e w1 ⟨rfl, hB1⟩
  have HB1 := hide hB1
  clear hB1
  have HR := hide (Row.newL w1 (bs (SB ++ (obs 0 ++ zr 240))) 62)
  have HRS := hide (show Row (w1.alloc (.cells (bs (SB ++ (obs 0 ++ zr 240))).toArray 62)) w1.heap.size 0 (bs SB) by
    have h := HR.out
    rw [bs_app] at h
    exact h.left)
  have hz := HZz.out
  have hf := HFo.out
  have hl := HLe.out.1
  have hl2 := HLe.out.2
  go_wp2_with (first | (refine wpList_loadR (op := ⟨some 16, _, _, _, _, _⟩) rfl 56 (.tmp 15) rfl rfl _ HRS.out Try.underlying56 rfl (by rw [bs_length, HX.out.2.2.2]; kernel_rfl) ?_))
  have H0 := hide (show Row (w1.alloc (.cells (bs (SB ++ (obs 0 ++ zr 240))).toArray 62)) w1.heap.size 0 (bs (SB ++ (obs 0 ++ zr 240))) ∧ Below w.heap.size w (w1.alloc (.cells (bs (SB ++ (obs 0 ++ zr 240))).toArray 62)) from ⟨HR.out, HB1.out.alloc HB1.out.size _⟩)
  have HS1 := hide HB1.out.size
  clear HR HRS HB1 hz hf hl hl2 HZz HFo HLe
  go_loopg [5, 6, 17] 256 (fun g _ _ q wr => ∃ k : Nat, k + g = 256 ∧ q = .int .i64 k ∧ Row wr w1.heap.size 0 (bs (SB ++ (obs k ++ zr 240))) ∧ Below w.heap.size w wr)
  case atStart => exact ⟨0, rfl, rfl, H0.out⟩
  case round =>
    clear H0
    obtain ⟨k, hkg, rfl, h1, hB⟩ := hrel
    by_cases hlt : k < 256
    · have hlt' : (k : Int) < 256 := by omega
      obtain ⟨g3, rfl⟩ : ∃ g3, gk = g3 + 1 := ⟨gk - 1, by omega⟩
      have hix : ∀ w, (Instr.index 56 (.agg (bs SB).toArray) (.int .i64 (k : Int))).run Try.prog w = .ok (.int .u8 ((gy SB k).toNat : Int)) w := idx_arr SB k Try.underlying56 hlt HX.out.2.2.2 (by kernel_rfl) Try.underlying5
      obtain ⟨n, hn⟩ : ∃ n, (gy SB k).toNat = n := ⟨_, rfl⟩
      have ln : n < 256 := hn ▸ UInt8.toNat_lt _
      have ln' : (n : Int) < 256 := by omega
      rw [hn] at hix
      have hcv : ∀ w, (convert 3 5 (.int .i64 (k : Int))).run Try.prog w = .ok (.int .u8 ((UInt8.ofNat k).toNat : Int)) w := fun w => by
        have h := run_convert_int (P := Try.prog) w 3 5 .i64 (k : Int) (by rw [Try.underlying3]; rfl) Try.underlying5
        have e : Try.prog.intKind 5 = .u8 := by kernel_rfl
        rw [e] at h
        rw [h, UInt8.toNat_ofNat_of_lt' hlt, IntWalk.u8_in _ (by omega)]
      have c1 := h1.g0 (256 + n) (by rw [HL.out]; omega)
      have f1 := h1.fy0 (256 + n) (by rw [HL.out]; omega)
      have h3 := h1.sety (i := 256 + n) (by rw [HL.out]; omega) (UInt8.ofNat k)
      rw [ci_set _ _ _ _ (HO.out k).1 ln, ← hn, ← (HO.out k).2, hn] at h3
      have H3 := hide (And.intro h3 (hB.setCell (p := ⟨w1.heap.size, 256 + n, none⟩) HS1.out (.int .u8 ((UInt8.ofNat k).toNat : Int))))
      clear h1 h3 hB hn
      go_wp2_with fail
      go_roundg g3
      case measure => omega
      case rel => exact ⟨k + 1, by omega, by go_num, H3.out⟩
    · obtain rfl : k = 256 := by omega
      have H0 := hide (show Row wr w1.heap.size 0 (bs (SB ++ (OB ++ zr 240))) ∧ Below w.heap.size w wr from ⟨h1, hB⟩)
      have HRS := hide (show Row wr w1.heap.size 0 (bs SB) by
        have h := h1
        rw [bs_app] at h
        exact h.left)
      clear h1 hB
      go_wp2_with fail
      refine (spread_any SB key _ w1.heap.size HX.out.1 HX.out.2.2.2 HRS.out).mono ?_
      rintro e w3 ⟨rfl, hB3⟩
      rw [HX.out.2.1]
      have H5 := hide (show Row w3 w1.heap.size 0 (bs (SB ++ (OB ++ zr 240))) ∧ Below w.heap.size w w3 from ⟨H0.out.1.below hB3 H0.out.1.lt, H0.out.2.trans (hB3.mono H0.out.2.size)⟩)
      have H6 := hide (show Row w3 w1.heap.size 512 (bs (zr 240)) by
        have h := H5.out.1
        rw [bs_app] at h
        have k := h.right
        rw [bs_length, SB_length, bs_app] at k
        have k2 := k.right
        rw [bs_length, OB_length] at k2
        exact k2)
      have H7 := hide (show Row (w3.setCells w1.heap.size 512 (bs V)) w1.heap.size 0 (bs (ciB V)) from ci_put H5.out.1 OB_length (zr_length 240) HX.out.2.2.1)
      clear H0 HRS hB3
      go_wp2_with (refine wpList_storeR (op := ⟨none, _, _, _, _, _⟩) rfl 60 (.tmp 36) (.tmp 34) rfl rfl (vs := bs V) rfl H6.out (by rw [bs_length, bs_length, HX.out.2.2.1, zr_length]) (by rw [bs_length, HX.out.2.2.1]; kernel_rfl) (fun v hv => bs_one hv) ?_)
      go_wp2_with fail
      exact bodyPost_ret (v := .tuple #[.pointer (some ⟨w1.heap.size, 0, none⟩), .int .i64 0]) (by simp [results, Try.results16, go_sem]) rfl ⟨w1.heap.size, rfl, HS1.out, H7.out, H5.out.2.trans (below_setCells HS1.out _ _ _)⟩
end Go.Proofs.Ytknjmmbebkcnpaa

/- Why a cipher does not take a block, walked; a cipher's memory, as the callers see it. No condition. -/
namespace Go.Proofs.Ytknjmmbebkcnpaa
open Go.RowKit Bk
set_option linter.unusedVariables false
set_option linter.unusedSimpArgs false

theorem takes_nil (x : ByteArray) (w : World) : Calls Try.prog 37 #[.pointer none, .string x] w fun e w' => e = .returned (.int .i64 2) ∧ w' = w := by
  go_enter Try.func37, Try.ntmps37
  go_wp2_with fail
  go_ret
  exact ⟨rfl, rfl⟩
theorem takes_bad (a : Addr) (x : ByteArray) (w : World) (hx : x.size ≠ 16) : Calls Try.prog 37 #[.pointer (some a), .string x] w fun e w' => e = .returned (.int .i64 1) ∧ w' = w := by
  have h : ((x.size : Int) != 16) = true := by rw [bne_iff_ne]; omega
  go_enter Try.func37, Try.ntmps37
  go_wp2_with fail
  go_ret
  exact ⟨rfl, rfl⟩
theorem takes_ok (a : Addr) (x : ByteArray) (w : World) (hx : x.size = 16) : Calls Try.prog 37 #[.pointer (some a), .string x] w fun e w' => e = .returned (.int .i64 0) ∧ w' = w := by
  have h : ((x.size : Int) != 16) = false := by rw [hx]; rfl
  go_enter Try.func37, Try.ntmps37
  go_wp2_with fail
  go_ret
  exact ⟨rfl, rfl⟩
end Go.Proofs.Ytknjmmbebkcnpaa

/- A round, there, walked. For any cipher that lies in memory, any block, any round: the call returns what ATab says, and leaves what was there. -/
namespace Go.Proofs.Ytknjmmbebkcnpaa
open Go.RowKit Bk
set_option linter.unusedVariables false
set_option linter.unusedSimpArgs false

set_option maxRecDepth 100000 in
set_option maxHeartbeats 8000000 in
theorem encRound_any (W s : List UInt8) (n : Nat) (w : World) (bp b : Nat) (h1 : 1 ≤ n) (hn : n ≤ 14) (hs : s.length = 16) (hC : Cw w bp b W) :
    Calls Try.prog 47 #[.int .i64 (n : Int), .agg (bs s).toArray, .pointer (some ⟨bp, 0, none⟩)] w fun e w' => e = .returned (.agg (bs (eR W n s)).toArray) ∧ Below w.heap.size w w' := by
  obtain ⟨X1, eX1⟩ : ∃ x, repl SB s = x := ⟨_, rfl⟩
  have l1 : X1.length = 16 := by rw [← eX1, repl_length]; exact hs
  obtain ⟨X2, eX2⟩ : ∃ x, shf 1 X1 = x := ⟨_, rfl⟩
  have l2 : X2.length = 16 := eX2 ▸ shf_length _ _
  obtain ⟨X3, eX3⟩ : ∃ x, (if n < 14 then mixS fE X2 else X2) = x := ⟨_, rfl⟩
  have l3 : X3.length = 16 := by
    rw [← eX3]
    split
    · exact mixS_length _ _
    · exact l2
  obtain ⟨K, eK⟩ : ∃ x, kR W n = x := ⟨_, rfl⟩
  have lK : K.length = 16 := eK ▸ kR_length (by have := hC.len; omega)
  obtain ⟨R, eR'⟩ : ∃ x, comb X3 K = x := ⟨_, rfl⟩
  have lR : R.length = 16 := eR' ▸ comb_length l3 lK
  have hres : eR W n s = R := by unfold eR; rw [eX1, eX2, eX3, eK, eR']
  rw [hres]
  have HL := hide (And.intro hs (And.intro l1 (And.intro l2 (And.intro l3 (And.intro lK lR)))))
  have HE := hide (And.intro eX1 (And.intro eX2 (And.intro eX3 (And.intro eK eR'))))
  have HN := hide (And.intro h1 hn)
  have HC := hide hC
  have HM0 := hide (Rn.start w s)
  clear l1 l2 l3 lK lR hs eX1 eX2 eX3 eK eR' hres hC h1 hn
  go_enter Try.func47, Try.ntmps47
  go_wp2_with fail
  have HM1 := hide HM0.out.drew
  have HC1 := hide (HC.out.below HM1.out.be)
  clear HM0
  refine wp_region_ord (fun w9 => Row w9 w.heap.size 0 (bs s) ∧ w9.cell? ⟨bp, 0, none⟩ = some (.pointer (some ⟨b, 0, none⟩))) 6 [(0, some false), (1, some false), (2, some true), (3, some true), (4, none), (5, none), (6, none)] (by kernel_rfl) (by kernel_rfl) (fun _ _ _ _ h => h) ⟨HM1.out.s, HC1.out.ptr⟩ ?_
  refine ord_load (o := ⟨some 6, _, _, _, _, _⟩) 67 (.tmp 4) rfl rfl (by kernel_rfl) rfl _ (fun w9 h9 => h9.1.cell) Try.underlying67 rfl (by rw [bs_length, HL.out.1]; kernel_rfl) ?_
  simp only [Act.put, List.setIfInBounds_toArray, List.set_cons_zero, List.set_cons_succ]
  refine ord_heldE (o := ⟨some 7, _, _, _, _, _⟩) rfl (by kernel_rfl) ⟨_, fun w9 h9 => by (obtain ⟨q1, q2⟩ := h9; go_simp; try rfl), ?_⟩
  simp only [Act.put, List.setIfInBounds_toArray, List.set_cons_zero, List.set_cons_succ]
  refine ord_pureE (o := ⟨some 8, _, _, _, _, _⟩) rfl (by kernel_rfl) ⟨_, fun w9 => by (go_simp; try rfl), ?_⟩
  simp only [Act.put, List.setIfInBounds_toArray, List.set_cons_zero, List.set_cons_succ]
  refine ord_pureE (o := ⟨some 9, _, _, _, _, _⟩) rfl (by kernel_rfl) ⟨_, fun w9 => by (go_simp; try rfl), ?_⟩
  simp only [Act.put, List.setIfInBounds_toArray, List.set_cons_zero, List.set_cons_succ]
  refine ord_go rfl (fun K9 hK => ?_)
  go_simp
  go_wp2_with fail
  refine (sqRepl_any SB s _ b 0 HL.out.1 SB_length (ciB_sb HC1.out.row)).mono ?_
  rintro e w2 ⟨rfl, hB⟩
  have HM2 := hide (HM1.out.below hB)
  have HC2 := hide (HC.out.below HM2.out.be)
  clear hB
  dsimp only
  rw [HE.out.1]
  refine hK.out _ _ (fun _ => ⟨HM2.out.s, HC2.out.ptr⟩) ?_
  clear hK K9
  refine ord_go rfl (fun K9 hK => ?_)
  go_simp
  go_wp2_with fail
  refine (sqShift_1 X1 _ HL.out.2.1).mono ?_
  rintro e w3 ⟨rfl, hB⟩
  have HM3 := hide (HM2.out.below hB)
  have HC3 := hide (HC.out.below HM3.out.be)
  clear hB
  dsimp only
  rw [HE.out.2.1]
  refine hK.out _ _ (fun _ => ⟨HM3.out.s, HC3.out.ptr⟩) ?_
  clear hK K9
  refine ord_storeR (o := ⟨none, _, _, _, _, _⟩) rfl rfl rfl 67 (.tmp 4) (.tmp 11) rfl rfl (vs := bs X2) rfl HM3.out.s (by rw [bs_length, bs_length, HL.out.2.2.1, HL.out.1]) (by rw [bs_length, HL.out.2.2.1]; kernel_rfl) (fun v hv => bs_one hv) (fun h => by cases h) ?_
  refine ord_end ?_
  have HM4 := hide (HM3.out.put X2 HL.out.1 HL.out.2.2.1)
  have HC4 := hide (HC.out.below HM4.out.be)
  clear HM1 HM2 HM3 HC1 HC2 HC3
  obtain ⟨W4, hW4⟩ : ∃ x, w3.setCells w.heap.size 0 (bs X2) = x := ⟨_, rfl⟩
  rw [hW4] at HM4 HC4 ⊢
  clear hW4
  by_cases c : n < 14
  · have c' : (n : Int) < 14 := by omega
    have e3 : mixS fE X2 = X3 := by have := HE.out.2.2.1; rwa [if_pos c] at this
    have H3 := hide e3
    clear e3
    go_wp2_with (first | (refine wpList_loadR (op := ⟨some 14, _, _, _, _, _⟩) rfl 67 (.tmp 4) rfl rfl _ HM4.out.s Try.underlying67 rfl (by rw [bs_length, HL.out.2.2.1]; kernel_rfl) ?_) | (refine wpList_buildL (op := ⟨some 15, _, _, _, _, _⟩) rfl 59 _ rfl (bs fE) (by kernel_rfl) ?_))
    refine (sqMix_any X2 fE _ HL.out.2.2.1 rfl).mono ?_
    rintro e w4 ⟨rfl, hB⟩
    rw [H3.out]
    have HM9 := hide (HM4.out.below hB)
    clear hB HM4 HC4
    go_wp2_with (refine wpList_storeR (op := ⟨none, _, _, _, _, _⟩) rfl 67 (.tmp 4) (.tmp 16) rfl rfl (vs := bs X3) rfl HM9.out.s (by rw [bs_length, bs_length, HL.out.2.2.2.1, HL.out.2.2.1]) (by rw [bs_length, HL.out.2.2.2.1]; kernel_rfl) (fun v hv => bs_one hv) ?_)
    have HM5 := hide (HM9.out.put X3 HL.out.2.2.1 HL.out.2.2.2.1)
    obtain ⟨W5, hW5⟩ : ∃ x, w4.setCells w.heap.size 0 (bs X3) = x := ⟨_, rfl⟩
    rw [hW5] at HM5 ⊢
    clear hW5 HM9 c'
    have HM6 := hide HM5.out.drew
    have HC6 := hide (HC.out.below HM6.out.be)
    clear HM5
    refine wp_region_ord (fun w9 => Row w9 w.heap.size 0 (bs X3) ∧ w9.cell? ⟨bp, 0, none⟩ = some (.pointer (some ⟨b, 0, none⟩))) 5 [(0, some false), (1, some false), (2, some true), (3, none), (4, none), (5, none)] (by kernel_rfl) (by kernel_rfl) (fun _ _ _ _ h => h) ⟨HM6.out.s, HC6.out.ptr⟩ ?_
    refine ord_load (o := ⟨some 17, _, _, _, _, _⟩) 67 (.tmp 4) rfl rfl (by kernel_rfl) rfl _ (fun w9 h9 => h9.1.cell) Try.underlying67 rfl (by rw [bs_length, HL.out.2.2.2.1]; kernel_rfl) ?_
    simp only [Act.put, List.setIfInBounds_toArray, List.set_cons_zero, List.set_cons_succ]
    refine ord_heldE (o := ⟨some 18, _, _, _, _, _⟩) rfl (by kernel_rfl) ⟨_, fun w9 h9 => by (obtain ⟨q1, q2⟩ := h9; go_simp; try rfl), ?_⟩
    simp only [Act.put, List.setIfInBounds_toArray, List.set_cons_zero, List.set_cons_succ]
    refine ord_pureE (o := ⟨some 19, _, _, _, _, _⟩) rfl (by kernel_rfl) ⟨_, fun w9 => by (go_simp; try rfl), ?_⟩
    simp only [Act.put, List.setIfInBounds_toArray, List.set_cons_zero, List.set_cons_succ]
    refine ord_go rfl (fun K9 hK => ?_)
    go_simp
    go_wp2_with fail
    refine (aKey_any W n _ b HC.out.len HN.out.2 HC6.out.row).mono ?_
    rintro e w7 ⟨rfl, hB⟩
    have HM7 := hide (HM6.out.below hB)
    have HC7 := hide (HC.out.below HM7.out.be)
    clear hB
    dsimp only
    rw [HE.out.2.2.2.1]
    refine hK.out _ _ (fun _ => ⟨HM7.out.s, HC7.out.ptr⟩) ?_
    clear hK K9
    refine ord_go rfl (fun K9 hK => ?_)
    go_simp
    go_wp2_with fail
    refine (sqComb_any X3 K _ HL.out.2.2.2.1 HL.out.2.2.2.2.1).mono ?_
    rintro e w8 ⟨rfl, hB⟩
    have HM8 := hide (HM7.out.below hB)
    have HC8 := hide (HC.out.below HM8.out.be)
    clear hB
    dsimp only
    rw [HE.out.2.2.2.2]
    refine hK.out _ _ (fun _ => ⟨HM8.out.s, HC8.out.ptr⟩) ?_
    clear hK K9
    refine ord_storeR (o := ⟨none, _, _, _, _, _⟩) rfl rfl rfl 67 (.tmp 5) (.tmp 21) rfl rfl (vs := bs R) rfl HM8.out.z (by rw [bs_length, bs_length, HL.out.2.2.2.2.2, zr_length]) (by rw [bs_length, HL.out.2.2.2.2.2]; kernel_rfl) (fun v hv => bs_one hv) (fun h => by cases h) ?_
    refine ord_end ?_
    clear HM6 HM7 HC6 HC7 HC8
    go_wp2_with fail
    exact post_row (cs := bs R) _ (HM8.out.z.put (bs R) (by rw [bs_length, bs_length, HL.out.2.2.2.2.2, zr_length])) rfl rfl Try.underlying67 rfl (by rw [bs_length, HL.out.2.2.2.2.2]; kernel_rfl) rfl ⟨rfl, HM8.out.be.trans (below_setCells (by omega) _ _ _)⟩
  · have c' : ¬ ((n : Int) < 14) := by omega
    have e3 : X2 = X3 := by have := HE.out.2.2.1; rwa [if_neg c] at this
    rw [e3] at HM4
    have HM5 := hide HM4.out
    clear HM4 HC4 e3
    go_wp2_with fail
    clear c'
    have HM6 := hide HM5.out.drew
    have HC6 := hide (HC.out.below HM6.out.be)
    clear HM5
    refine wp_region_ord (fun w9 => Row w9 w.heap.size 0 (bs X3) ∧ w9.cell? ⟨bp, 0, none⟩ = some (.pointer (some ⟨b, 0, none⟩))) 5 [(0, some false), (1, some false), (2, some true), (3, none), (4, none), (5, none)] (by kernel_rfl) (by kernel_rfl) (fun _ _ _ _ h => h) ⟨HM6.out.s, HC6.out.ptr⟩ ?_
    refine ord_load (o := ⟨some 17, _, _, _, _, _⟩) 67 (.tmp 4) rfl rfl (by kernel_rfl) rfl _ (fun w9 h9 => h9.1.cell) Try.underlying67 rfl (by rw [bs_length, HL.out.2.2.2.1]; kernel_rfl) ?_
    simp only [Act.put, List.setIfInBounds_toArray, List.set_cons_zero, List.set_cons_succ]
    refine ord_heldE (o := ⟨some 18, _, _, _, _, _⟩) rfl (by kernel_rfl) ⟨_, fun w9 h9 => by (obtain ⟨q1, q2⟩ := h9; go_simp; try rfl), ?_⟩
    simp only [Act.put, List.setIfInBounds_toArray, List.set_cons_zero, List.set_cons_succ]
    refine ord_pureE (o := ⟨some 19, _, _, _, _, _⟩) rfl (by kernel_rfl) ⟨_, fun w9 => by (go_simp; try rfl), ?_⟩
    simp only [Act.put, List.setIfInBounds_toArray, List.set_cons_zero, List.set_cons_succ]
    refine ord_go rfl (fun K9 hK => ?_)
    go_simp
    go_wp2_with fail
    refine (aKey_any W n _ b HC.out.len HN.out.2 HC6.out.row).mono ?_
    rintro e w7 ⟨rfl, hB⟩
    have HM7 := hide (HM6.out.below hB)
    have HC7 := hide (HC.out.below HM7.out.be)
    clear hB
    dsimp only
    rw [HE.out.2.2.2.1]
    refine hK.out _ _ (fun _ => ⟨HM7.out.s, HC7.out.ptr⟩) ?_
    clear hK K9
    refine ord_go rfl (fun K9 hK => ?_)
    go_simp
    go_wp2_with fail
    refine (sqComb_any X3 K _ HL.out.2.2.2.1 HL.out.2.2.2.2.1).mono ?_
    rintro e w8 ⟨rfl, hB⟩
    have HM8 := hide (HM7.out.below hB)
    have HC8 := hide (HC.out.below HM8.out.be)
    clear hB
    dsimp only
    rw [HE.out.2.2.2.2]
    refine hK.out _ _ (fun _ => ⟨HM8.out.s, HC8.out.ptr⟩) ?_
    clear hK K9
    refine ord_storeR (o := ⟨none, _, _, _, _, _⟩) rfl rfl rfl 67 (.tmp 5) (.tmp 21) rfl rfl (vs := bs R) rfl HM8.out.z (by rw [bs_length, bs_length, HL.out.2.2.2.2.2, zr_length]) (by rw [bs_length, HL.out.2.2.2.2.2]; kernel_rfl) (fun v hv => bs_one hv) (fun h => by cases h) ?_
    refine ord_end ?_
    clear HM6 HM7 HC6 HC7 HC8
    go_wp2_with fail
    exact post_row (cs := bs R) _ (HM8.out.z.put (bs R) (by rw [bs_length, bs_length, HL.out.2.2.2.2.2, zr_length])) rfl rfl Try.underlying67 rfl (by rw [bs_length, HL.out.2.2.2.2.2]; kernel_rfl) rfl ⟨rfl, HM8.out.be.trans (below_setCells (by omega) _ _ _)⟩
end Go.Proofs.Ytknjmmbebkcnpaa

/- Through all rounds, walked. For any cipher that lies in memory, and any block: the call returns what ATab says, and leaves what was there. -/
namespace Go.Proofs.Ytknjmmbebkcnpaa
open Go.RowKit Bk
set_option linter.unusedVariables false
set_option linter.unusedSimpArgs false

set_option maxRecDepth 100000 in
set_option maxHeartbeats 8000000 in
theorem through_eN (W s : List UInt8) (w : World) (bp b : Nat) (hs : s.length = 16) (hC : Cw w bp b W) :
    Calls Try.prog 38 #[.agg (bs s).toArray, .func (.func 47) #[] #[.pointer (some ⟨bp, 0, none⟩)]] w fun e w' => e = .returned (.agg (bs (eN W s 14)).toArray) ∧ Below w.heap.size w w' := by
  have HX := hide hs
  have HC := hide hC
  have HM0 := hide (Rn.start w s)
  clear hs hC
  go_enter Try.func38, Try.ntmps38
  go_wp2_with fail
  go_loopg [5] 15 (fun g q wr => ∃ k : Nat, k + 1 + g = 16 ∧ q = .int .i64 ((k + 1 : Nat) : Int) ∧ k ≤ 14 ∧ Rn w wr (eN W s k))
  case atStart => exact ⟨0, rfl, rfl, by decide, HM0.out⟩
  case round =>
    clear HM0
    obtain ⟨wo, hwo⟩ : ∃ z, z = wr := ⟨_, rfl⟩
    subst hwo
    obtain ⟨k, hkg, rfl, hk14, hM⟩ := hrel
    by_cases hlt : k < 14
    · have hlt' : ((k + 1 : Nat) : Int) ≤ 14 := by omega
      obtain ⟨g3, rfl⟩ : ∃ g3, gk = g3 + 1 := ⟨gk - 1, by omega⟩
      obtain ⟨j, hj⟩ : ∃ j, k + 1 = j := ⟨_, rfl⟩
      obtain ⟨X, eX⟩ : ∃ x, eN W s k = x := ⟨_, rfl⟩
      have lX : X.length = 16 := eX ▸ eN_length HC.out.len HX.out k (by omega)
      obtain ⟨Y, eY⟩ : ∃ x, eN W s (k + 1) = x := ⟨_, rfl⟩
      have lY : Y.length = 16 := eY ▸ eN_length HC.out.len HX.out (k + 1) (by omega)
      have hst : eR W j X = Y := by rw [← eY, ← eX, ← hj]; rfl
      rw [hj] at hlt' eY ⊢
      rw [eX] at hM
      have HM := hide hM
      have HL := hide (And.intro lX lY)
      have HS := hide (And.intro hst (And.intro eY (show 1 ≤ j ∧ j ≤ 14 by omega)))
      have HJ := hide hj
      clear hM lX lY hst eX eY hj
      go_wp2_with (refine wpList_loadR (op := ⟨some 12, _, _, _, _, _⟩) rfl 67 (.tmp 2) rfl rfl _ HM.out.s Try.underlying67 rfl (by rw [bs_length, HL.out.1]; kernel_rfl) ?_)
      refine (encRound_any W X j _ bp b HS.out.2.2.1 HS.out.2.2.2 HL.out.1 (HC.out.below HM.out.be)).mono ?_
      rintro e w2 ⟨rfl, hB⟩
      rw [HS.out.1]
      have HM2 := hide (HM.out.below hB)
      clear hB HM
      go_wp2_with (refine wpList_storeR (op := ⟨none, _, _, _, _, _⟩) rfl 67 (.tmp 2) (.tmp 13) rfl rfl (vs := bs Y) rfl HM2.out.s (by rw [bs_length, bs_length, HL.out.2, HL.out.1]) (by rw [bs_length, HL.out.2]; kernel_rfl) (fun v hv => bs_one hv) ?_)
      have HM3 := hide (HM2.out.put Y HL.out.1 HL.out.2)
      obtain ⟨W5, hW5⟩ : ∃ x, w2.setCells w.heap.size 0 (bs Y) = x := ⟨_, rfl⟩
      rw [hW5] at HM3 ⊢
      clear hW5 HM2
      go_wp2_with fail
      go_roundg g3
      case measure => omega
      case rel => exact ⟨j, by have := HJ.out; omega, by go_num, HS.out.2.2.2, by rw [HS.out.2.1]; exact HM3.out⟩
    · obtain rfl : k = 14 := by omega
      have H0 := hide hM
      have HX2 := hide (show (eN W s 14).length = 16 from eN_length HC.out.len HX.out 14 (by omega))
      clear hM
      go_wp2_with (first | (refine wpList_loadR (op := ⟨some 14, _, _, _, _, _⟩) rfl 67 (.tmp 2) rfl rfl _ H0.out.s Try.underlying67 rfl (by rw [bs_length, HX2.out]; kernel_rfl) ?_) | (refine wpList_storeR (op := ⟨none, _, _, _, _, _⟩) rfl 67 (.tmp 4) (.tmp 14) rfl rfl (vs := bs (eN W s 14)) rfl H0.out.z (by rw [bs_length, bs_length, HX2.out, zr_length]) (by rw [bs_length, HX2.out]; kernel_rfl) (fun v hv => bs_one hv) ?_))
      exact post_row (cs := bs (eN W s 14)) _ ((H0.out.z).put (bs (eN W s 14)) (by rw [bs_length, bs_length, HX2.out, zr_length])) rfl rfl Try.underlying67 rfl (by rw [bs_length, HX2.out]; kernel_rfl) rfl ⟨rfl, H0.out.be.trans (below_setCells (by omega) _ _ _)⟩
end Go.Proofs.Ytknjmmbebkcnpaa

/- A block of its bytes, walked. For any text of 16 bytes: the call returns them, and leaves what was there. -/
namespace Go.Proofs.Ytknjmmbebkcnpaa
open Go.RowKit Bk
set_option linter.unusedVariables false
set_option linter.unusedSimpArgs false

set_option maxRecDepth 100000 in
set_option maxHeartbeats 4000000 in
theorem squareOf_any (x : ByteArray) (w : World) (hs : x.size = 16) :
    Calls Try.prog 39 #[.string x] w fun e w' => e = .returned (.agg (bs (sb x)).toArray) ∧ Below w.heap.size w w' := by
  have hmx : Try.prog.follows .mixedOrders = true := by kernel_rfl
  obtain ⟨R, hR⟩ : ∃ R, sb x = R := ⟨_, rfl⟩
  have lR : R.length = 16 := by rw [← hR, sb_length, hs]
  obtain ⟨W0, hW0, r1, r2, b0⟩ : ∃ W0, (w.alloc (.cells #[.int .u8 0, .int .u8 0, .int .u8 0, .int .u8 0, .int .u8 0, .int .u8 0, .int .u8 0, .int .u8 0, .int .u8 0, .int .u8 0, .int .u8 0, .int .u8 0, .int .u8 0, .int .u8 0, .int .u8 0, .int .u8 0] 67)).alloc (.cells #[.int .u8 0, .int .u8 0, .int .u8 0, .int .u8 0, .int .u8 0, .int .u8 0, .int .u8 0, .int .u8 0, .int .u8 0, .int .u8 0, .int .u8 0, .int .u8 0, .int .u8 0, .int .u8 0, .int .u8 0, .int .u8 0] 67) = W0 ∧ Row W0 w.heap.size 0 (bs (zr 16)) ∧ Row W0 (w.heap.size + 1) 0 (bs (mixd R (zr 16) (0 * 4))) ∧ Below w.heap.size w W0 :=
    ⟨_, rfl, (Row.newL w (bs (zr 16)) _).alloc _, by rw [Nat.zero_mul, mixd_zero]; exact row2 w _ (bs (zr 16)) _, below2 w _ _⟩
  have HX := hide (And.intro hs (And.intro hR lR))
  have H0 := hide (And.intro r1 (And.intro r2 b0))
  rw [hR]
  clear r1 r2 b0 lR hR
  go_enter Try.func39, Try.ntmps39
  go_wp2_with fail
  clear hW0
  go_loopg [4, 5] 4 (fun g _ q wr => ∃ k : Nat, k + g = 4 ∧ q = .int .i64 k ∧ Row wr w.heap.size 0 (bs (zr 16)) ∧ Row wr (w.heap.size + 1) 0 (bs (mixd R (zr 16) (k * 4))) ∧ Below w.heap.size w wr)
  case atStart => exact ⟨0, rfl, rfl, H0.out⟩
  case round =>
    clear H0
    obtain ⟨wo, hwo⟩ : ∃ z, z = wr := ⟨_, rfl⟩
    subst hwo
    obtain ⟨k, hkg, rfl, h1, h2, hB⟩ := hrel
    by_cases hlt : k < 4
    · have hlt' : (k : Int) < 4 := by omega
      obtain ⟨g3, rfl⟩ : ∃ g3, gk = g3 + 1 := ⟨gk - 1, by omega⟩
      have hk4 : k * 4 + 4 ≤ 16 := by omega
      have v1 := IntWalk.i64_in ((k : Int) * 4) (by omega)
      have v2 : (0 : Int) ≤ (k : Int) * 4 := by omega
      have v3 : (k : Int) * 4 ≤ (x.size : Int) := by rw [hs]; omega
      have v4 : ((k : Int) * 4).toNat = k * 4 := by omega
      obtain ⟨y, hy⟩ : ∃ y, x.extract (k * 4) x.size = y := ⟨_, rfl⟩
      have zy : y.size = 16 - k * 4 := by rw [← hy, ByteArray.size_extract, hs]; omega
      have sy : (sb y).take 4 = (R.drop (k * 4)).take 4 := by
        rw [← hy, sb_extract, HX.out.2.1, List.take_take, hs, Nat.min_eq_left (by omega)]
      have lm : (mixd R (zr 16) (k * 4)).length = 16 := mixd_length HX.out.2.2 (zr_length 16) _ (by omega)
      have hD := h2.drew
      have hp := hD.part0 (k * 4) 4 (by omega)
      have h3 := hD.mixd HX.out.2.2 (zr_length 16) 4 hk4 ((sb y).take 4) sy
      have HP := hide (And.intro hp (show (bs (((mixd R (zr 16) (k * 4)).drop (k * 4)).take 4)).length = 4 by rw [bs_length, ← wat_eq]; exact wat_length (by omega)))
      have HY := hide (show Nat.min y.size 4 = 4 by rw [zy]; exact Nat.min_eq_right (by omega))
      have H3 := hide (And.intro (h1.drew.apart (w.heap.size + 1) (k * 4) (bs ((sb y).take 4)) (.inl (by omega))) (And.intro h3 ((Below.drew hB).trans (below_setCells (B := w.heap.size) (b := w.heap.size + 1) (by omega) (bs ((sb y).take 4)) (k * 4) _))))
      have hmin : min x.size x.size = x.size := Nat.min_self _
      have hsl : ∀ w, (Instr.slice 9 (.string x) (some (.int .i64 ((k : Int) * 4))) none none).run Try.prog w = .ok (.string y) w := fun w => by
        rw [run_slice_string_from_if (h := Try.underlying9), if_pos (And.intro v2 v3), v4, hy]
      clear h1 h2 hB hD hp h3 lm sy zy hy v3 v4
      go_wp2_with fail
      go_still_tail 7, hmx
      go_wp2_with (refine wpList_copyS (op := ⟨some 15, _, _, _, _, _⟩) rfl (.tmp 10) (.tmp 14) 28 9 rfl 5 Try.underlying28 (by kernel_rfl) rfl rfl HY.out HP.out.1 HP.out.2 ?_)
      go_roundg g3
      case measure => omega
      case rel => exact ⟨k + 1, by omega, by go_num, by rw [show (k + 1) * 4 = k * 4 + 4 by omega]; exact H3.out⟩
    · obtain rfl : k = 4 := by omega
      rw [show 4 * 4 = 16 from rfl, mixd_all HX.out.2.2 (zr_length 16)] at h2
      have H0 := hide h2
      have H1 := hide h1
      have HB := hide hB
      clear h1 h2 hB
      go_wp2_with (first | (refine wpList_loadR (op := ⟨some 17, _, _, _, _, _⟩) rfl 67 (.tmp 3) rfl rfl _ H0.out Try.underlying67 rfl (by rw [bs_length, HX.out.2.2]; kernel_rfl) ?_) | (refine wpList_storeR (op := ⟨none, _, _, _, _, _⟩) rfl 67 (.tmp 2) (.tmp 17) rfl rfl (vs := bs R) rfl H1.out (by rw [bs_length, bs_length, HX.out.2.2, zr_length]) (by rw [bs_length, HX.out.2.2]; kernel_rfl) (fun v hv => bs_one hv) ?_))
      exact post_row (cs := bs R) _ ((H1.out).put (bs R) (by rw [bs_length, bs_length, HX.out.2.2, zr_length])) rfl rfl Try.underlying67 rfl (by rw [bs_length, HX.out.2.2]; kernel_rfl) rfl ⟨rfl, HB.out.trans (below_setCells (by omega) _ _ _)⟩
end Go.Proofs.Ytknjmmbebkcnpaa

/- A block's bytes as a text, walked. For any block: the call returns them, and leaves what was there. -/
namespace Go.Proofs.Ytknjmmbebkcnpaa
open Go.RowKit Bk
set_option linter.unusedVariables false
set_option linter.unusedSimpArgs false

set_option maxRecDepth 100000 in
set_option maxHeartbeats 4000000 in
theorem sqText_any (s : List UInt8) (w : World) (hs : s.length = 16) :
    Calls Try.prog 46 #[.agg (bs s).toArray] w fun e w' => e = .returned (.string ⟨s.toArray⟩) ∧ Below w.heap.size w w' := by
  have hmk : ∀ w : World, (Instr.makeSlice 28 (.int .i64 0) (.int .i64 16)).run Try.prog w = .ok (.slice (some ⟨w.heap.size, 0, none⟩) 0 16) (w.alloc (.cells (bs (zr 16)).toArray 5)) := fun w => by kernel_rfl
  obtain ⟨W0, hW0, r1, r2, b0⟩ : ∃ W0, (w.alloc (.cells (bs s).toArray 67)).alloc (.cells (bs (zr 16)).toArray 5) = W0 ∧ Row W0 w.heap.size 0 (bs s) ∧ Row W0 (w.heap.size + 1) 0 (bs (mixd s (zr 16) (0 * 4))) ∧ Below w.heap.size w W0 :=
    ⟨_, rfl, (Row.newL w (bs s) _).alloc _, by rw [Nat.zero_mul, mixd_zero]; exact row2 w _ (bs (zr 16)) _, below2 w _ _⟩
  have HX := hide hs
  have H0 := hide (And.intro r2 b0)
  have HR0 := hide r1
  clear r1 r2 b0 hs
  go_enter Try.func46, Try.ntmps46
  go_wp2_with (refine wpList_loadR (op := ⟨some 7, _, _, _, _, _⟩) rfl 67 (.tmp 1) rfl rfl _ HR0.out Try.underlying67 rfl (by rw [bs_length, HX.out]; kernel_rfl) ?_)
  clear hW0 HR0 hmk
  go_loopg [3, 5, 8] 4 (fun g v _ q wr => ∃ k : Nat, k + g = 4 ∧ q = .int .i64 k ∧ v = .slice (some ⟨w.heap.size + 1, 0, none⟩) (k * 4) 16 ∧ Row wr (w.heap.size + 1) 0 (bs (mixd s (zr 16) (k * 4))) ∧ Below w.heap.size w wr)
  case atStart => exact ⟨0, rfl, rfl, rfl, H0.out⟩
  case round =>
    clear H0
    obtain ⟨wo, hwo⟩ : ∃ z, z = wr := ⟨_, rfl⟩
    subst hwo
    obtain ⟨k, hkg, rfl, rfl, h2, hB⟩ := hrel
    by_cases hlt : k < 4
    · have hlt' : (k : Int) < 4 := by omega
      obtain ⟨g3, rfl⟩ : ∃ g3, gk = g3 + 1 := ⟨gk - 1, by omega⟩
      have hk4 : k * 4 + 4 ≤ 16 := by omega
      have hix : ∀ w, (Instr.index 67 (.agg (bs s).toArray) (.int .i64 (k : Int))).run Try.prog w = .ok (.agg (bs (wat s k)).toArray) w := idx_word s k Try.underlying67 hlt (by kernel_rfl) Try.underlying59 rfl
      obtain ⟨x, hx⟩ : ∃ x, wat s k = x := ⟨_, rfl⟩
      have lx : x.length = 4 := by rw [← hx]; exact wat_length (by rw [HX.out]; omega)
      rw [hx] at hix
      obtain ⟨W1, hW1, h1a, h1c, h1d, h1e⟩ : ∃ W1, (wo.alloc (.cells #[.int .u8 0, .int .u8 0, .int .u8 0, .int .u8 0] 59)).setCells wo.heap.size 0 (bs x) = W1 ∧ Row W1 (w.heap.size + 1) 0 (bs (mixd s (zr 16) (k * 4))) ∧ Row W1 wo.heap.size 0 (bs x) ∧ Below w.heap.size w W1 ∧ w.heap.size + 1 < wo.heap.size :=
        ⟨_, rfl, h2.keep _ _ _, Row.made wo (bs (zr 4)) _ _ (by rw [bs_length, bs_length, lx]; rfl), below_made hB hB.size _ _ _, h2.lt⟩
      have HZ := hide (Row.newL wo (bs (zr 4)) 59)
      have lm : (mixd s (zr 16) (k * 4)).length = 16 := mixd_length HX.out (zr_length 16) _ (by omega)
      have hp := h1a.part0 (k * 4) 4 (by omega)
      have h3 := h1a.mixd HX.out (zr_length 16) 4 hk4 x (by rw [← hx]; exact wat_eq _ _)
      have hsrc : Src Try.prog 1 28 (.slice (some ⟨wo.heap.size, 0, none⟩) 4 4) 4 (bs x) W1 := h1c.src (by rw [bs_length, lx]) Try.underlying28 (fun u hu => bs_one hu)
      have HP := hide (show Row W1 (w.heap.size + 1) (0 + k * 4) (bs (((mixd s (zr 16) (k * 4)).drop (k * 4)).take 4)) ∧ (bs x).length = (bs (((mixd s (zr 16) (k * 4)).drop (k * 4)).take 4)).length ∧ k * 4 + 4 ≤ 16 from ⟨by rw [Nat.zero_add]; exact hp, by rw [bs_length, bs_length, lx, ← wat_eq]; exact (wat_length (by omega)).symm, hk4⟩)
      have HS := hide hsrc
      have H3 := hide (show Row (W1.setCells (w.heap.size + 1) (k * 4) (bs x)) (w.heap.size + 1) 0 (bs (mixd s (zr 16) (k * 4 + 4))) ∧ Below w.heap.size w (W1.setCells (w.heap.size + 1) (k * 4) (bs x)) from ⟨h3, h1d.trans (below_setCells (by omega) _ _ _)⟩)
      have HL := hide lx
      clear h2 hB h1a h1c h1d h1e hp h3 lm hx lx hsrc
      go_wp2_with (first | (refine wpList_storeR (op := ⟨none, _, _, _, _, _⟩) rfl 59 (.tmp 5) (.tmp 10) rfl rfl (vs := bs x) rfl HZ.out (by rw [bs_length, bs_length, HL.out, zr_length]) (by rw [bs_length, HL.out]; kernel_rfl) (fun v hv => bs_one hv) ?_; rw [hW1]) | (refine wpList_appendR (op := ⟨some 13, _, _, _, _, _⟩) rfl (.tmp 11) (.tmp 12) 28 28 rfl 5 Try.underlying28 (by kernel_rfl) rfl rfl HS.out HP.out.2.2 HP.out.1 HP.out.2.1 ?_))
      go_roundg g3
      case measure => omega
      case rel => exact ⟨k + 1, by omega, by go_num, by rw [show (k + 1) * 4 = k * 4 + 4 by omega], by rw [show (k + 1) * 4 = k * 4 + 4 by omega]; exact H3.out.1, H3.out.2⟩
    · obtain rfl : k = 4 := by omega
      rw [show 4 * 4 = 16 from rfl, mixd_all HX.out (zr_length 16)] at h2
      have hx := run_textR (P := Try.prog) wo 28 9 5 (c := 16) Try.underlying28 Try.underlying5 Try.underlying9 (w.heap.size + 1) 0 rfl HX.out h2.cell
      have HB := hide hB
      clear h2 hB
      go_wp2_with fail
      go_ret
      exact ⟨rfl, HB.out⟩
end Go.Proofs.Ytknjmmbebkcnpaa
