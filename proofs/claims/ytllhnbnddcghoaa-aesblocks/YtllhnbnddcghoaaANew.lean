/- A cipher made, walked. For any key: of 32 bytes the call returns a cipher in memory of its own, of another length none and an error; what was there is left. -/
import Derived.Test.YtllhnbnddcghoaaASbx
import Derived.Test.YtllhnbnddcghoaaASpr
import Derived.Test.YtllhnbnddcghoaaARnd
namespace Go.Proofs.Ytllhnbnddcghoaa
open Go.RowKit Bk
set_option linter.unusedVariables false
set_option linter.unusedSimpArgs false

theorem fold_set : ∀ (l : List Value) (k : Nat) (cs : List Value), k + l.length ≤ cs.length → (l.zipIdx k).foldl (fun cs p => cs.setIfInBounds (0 + p.2) p.1) cs.toArray = (cs.take k ++ (l ++ cs.drop (k + l.length))).toArray
  | [], k, cs, _ => by simp
  | v :: l, k, cs, h => by
    rw [List.zipIdx_cons, List.foldl_cons]
    have e : cs.toArray.setIfInBounds (0 + k) v = (cs.set k v).toArray := by rw [Nat.zero_add, List.setIfInBounds_toArray]
    show (l.zipIdx (k + 1)).foldl _ (cs.toArray.setIfInBounds (0 + k) v) = _
    have hk : k < cs.length := by rw [List.length_cons] at h; omega
    rw [e, fold_set l (k + 1) (cs.set k v) (by rw [List.length_set]; rw [List.length_cons] at h; omega)]
    congr 1
    have h1 : (cs.set k v).take (k + 1) = cs.take k ++ [v] := by
      rw [List.take_add_one, List.getElem?_set_self hk, List.take_set_of_le (by omega)]
      rfl
    have h2 : (cs.set k v).drop (k + 1 + l.length) = cs.drop (k + (l.length + 1)) := by
      rw [List.drop_set_of_lt (by omega)]
      congr 1
      omega
    rw [h1, h2, List.length_cons, List.append_assoc]
    rfl
theorem built_first {P : Program} {t : TypeId} {fs : Array Field} {z : List Value} {pl : List (Nat × Nat)} {n : Nat} (T : List Value) (hu : P.underlying t = some (.struct fs)) (hz : (P.info? t).map (·.zero) = some (some (.agg z.toArray)))
    (hp : fs.toList.mapM (fun f => (P.info? f.type).map fun i => (f.offset, i.size)) = some ((0, n) :: pl)) (hT : T.length = n) (hn : n ≤ z.length) : P.built t [(0, .agg T.toArray)] = some (T ++ z.drop n).toArray := by
  cases hq : P.info? t with
  | none => simp [hq] at hz
  | some it =>
    have hz' : it.zero = some (.agg z.toArray) := by simpa [hq] using hz
    unfold Program.built
    rw [hq, hu]
    simp only [hz', hp]
    have hf := fold_set T 0 z (by omega)
    rw [Nat.zero_add, hT, List.take_zero, List.nil_append] at hf
    unfold Instr.fill
    simp only [List.getElem?_toArray, List.getElem?_cons_zero, Value.cells, List.size_toArray, hT]
    rw [if_neg (by simp; omega)]
    unfold Instr.fill
    rw [← hf]
    simp
theorem zr_drop (n k : Nat) : (zr n).drop k = zr (n - k) := List.drop_replicate
theorem zr_app (n k : Nat) : zr n ++ zr k = zr (n + k) := List.replicate_append_replicate
theorem bs_drop (l : List UInt8) (k : Nat) : (bs l).drop k = bs (l.drop k) := by unfold bs; rw [List.map_drop]
theorem obs_zero : obs 0 = zr 256 := by unfold obs zr; rfl
theorem ci_zero : bs SB ++ (bs (zr 752)).drop 256 = bs (SB ++ (obs 0 ++ zr 240)) := by
  rw [bs_app, bs_drop, zr_drop, obs_zero, zr_app]
theorem ci_set (O Z : List UInt8) (n : Nat) (x : UInt8) (hO : O.length = 256) (hn : n < 256) : (SB ++ (O ++ Z)).set (256 + n) x = SB ++ (O.set n x ++ Z) := by
  rw [List.set_append_right _ _ (by rw [SB_length]; omega), SB_length, Nat.add_sub_cancel_left, List.set_append_left _ _ (by omega)]
theorem ci_put {w : World} {b : Nat} {O Z V : List UInt8} (h : Row w b 0 (bs (SB ++ (O ++ Z)))) (hO : O.length = 256) (hZ : Z.length = 240) (hV : V.length = 240) : Row (w.setCells b 512 (bs V)) b 0 (bs (SB ++ (O ++ V))) := by
  have h1 := h.over 512 V (by rw [List.length_append, List.length_append, SB_length, hO, hZ, hV]; decide)
  have e : (SB ++ (O ++ Z)).take 512 ++ (V ++ (SB ++ (O ++ Z)).drop (512 + V.length)) = SB ++ (O ++ V) := by
    have l1 : (SB ++ O).length = 512 := by rw [List.length_append, SB_length, hO]
    rw [← List.append_assoc SB O Z, List.take_append_of_le_length (by omega), List.take_of_length_le (by omega), List.drop_eq_nil_of_le (by rw [List.length_append, l1, hZ, hV]; exact Nat.le_refl _), List.append_nil, List.append_assoc]
  rwa [e] at h1

set_option maxRecDepth 100000 in
set_option maxHeartbeats 4000000 in
theorem aNew_bad (key : ByteArray) (w : World) (hk : key.size ≠ 32) :
    Calls Try.prog 11 #[.string key] w fun e w' => e = .returned (.tuple #[.pointer none, .int .i64 1]) ∧ w' = w := by
  have hk' : ((key.size : Int) != 32) = true := by rw [bne_iff_ne]; omega
  go_enter Try.func11, Try.ntmps11
  go_wp2_with fail
  exact bodyPost_ret (v := .tuple #[.pointer none, .int .i64 1]) (by simp [results, Try.results11, go_sem]) rfl ⟨rfl, rfl⟩

set_option maxRecDepth 100000 in
set_option maxHeartbeats 8000000 in
theorem aNew_any (key : ByteArray) (w : World) (hk : key.size = 32) :
    Calls Try.prog 11 #[.string key] w fun e w' => ∃ b, e = .returned (.tuple #[.pointer (some ⟨b, 0, none⟩), .int .i64 0]) ∧ w.heap.size ≤ b ∧ Row w' b 0 (bs (ciB (spr SB (sb key) 60))) ∧ Below w.heap.size w w' := by
  have hk' : ((key.size : Int) != 32) = false := by rw [hk]; rfl
  obtain ⟨V, eV⟩ : ∃ V, spr SB (sb key) 60 = V := ⟨_, rfl⟩
  have lV : V.length = 240 := by rw [← eV, spr_length SB (sb key) (by rw [sb_length, hk])]
  have HX := hide (And.intro hk (And.intro eV (And.intro lV SB_length)))
  have HZz := hide (show ∀ w, (zeroValue 51).run Try.prog w = .ok (.agg (bs (zr 752)).toArray) w from (zero_of_info (n := 752) (by kernel_rfl)).1)
  have HFo := hide (show List.foldl (fun (cs : Array Value) (x : Value × Nat) => cs.setIfInBounds x.snd x.fst) (bs (zr 752)).toArray (bs SB).zipIdx = (bs (SB ++ (obs 0 ++ zr 240))).toArray by
    have h := fold_set (bs SB) 0 (bs (zr 752)) (by rw [bs_length, bs_length, SB_length, zr_length]; decide)
    rw [Nat.zero_add, bs_length, SB_length, List.take_zero, List.nil_append, ci_zero] at h
    simp only [Nat.zero_add] at h
    exact h)
  have HLe := hide (show (bs SB).length = 256 ∧ (bs (zr 752)).length = 752 from ⟨by rw [bs_length, SB_length], by rw [bs_length, zr_length]⟩)
  have HO := hide (show ∀ k, (obs k).length = 256 ∧ obs (k + 1) = (obs k).set (gy SB k).toNat (UInt8.ofNat k) from fun k => ⟨obs_length k, rfl⟩)
  have HL := hide (show ∀ k, (SB ++ (obs k ++ zr 240)).length = 752 from fun k => by rw [List.length_append, List.length_append, SB_length, obs_length, zr_length])
  rw [eV]
  clear eV lV hk
  go_enter Try.func11, Try.ntmps11
  go_wp2_with fail
  refine (standIns_any _).mono ?_
  rintro e w1 ⟨rfl, hB1⟩
  have HB1 := hide hB1
  clear hB1
  have HR := hide (Row.newL w1 (bs (SB ++ (obs 0 ++ zr 240))) 51)
  have HRS := hide (show Row (w1.alloc (.cells (bs (SB ++ (obs 0 ++ zr 240))).toArray 51)) w1.heap.size 0 (bs SB) by
    have h := HR.out
    rw [bs_app] at h
    exact h.left)
  have hz := HZz.out
  have hf := HFo.out
  have hl := HLe.out.1
  have hl2 := HLe.out.2
  go_wp2_with (first | (refine wpList_loadR (op := ⟨some 16, _, _, _, _, _⟩) rfl 48 (.tmp 15) rfl rfl _ HRS.out Try.underlying48 rfl (by rw [bs_length, HX.out.2.2.2]; kernel_rfl) ?_))
  have H0 := hide (show Row (w1.alloc (.cells (bs (SB ++ (obs 0 ++ zr 240))).toArray 51)) w1.heap.size 0 (bs (SB ++ (obs 0 ++ zr 240))) ∧ Below w.heap.size w (w1.alloc (.cells (bs (SB ++ (obs 0 ++ zr 240))).toArray 51)) from ⟨HR.out, HB1.out.alloc HB1.out.size _⟩)
  have HS1 := hide HB1.out.size
  clear HR HRS HB1 hz hf hl hl2 HZz HFo HLe
  go_loopg [5, 6, 17] 256 (fun g _ _ q wr => ∃ k : Nat, k + g = 256 ∧ q = .int .i64 k ∧ Row wr w1.heap.size 0 (bs (SB ++ (obs k ++ zr 240))) ∧ Below w.heap.size w wr)
  case atStart => exact ⟨0, rfl, rfl, H0.out⟩
  case round =>
    clear H0
    obtain ⟨k, hkg, rfl, h1, hB⟩ := hrel
    by_cases hlt : k < 256
    · have hlt' : (k : Int) < 256 := by omega
      obtain ⟨g3, rfl⟩ : ∃ g3, gk = g3 + 1 := ⟨gk - 1, by omega⟩
      have hix : ∀ w, (Instr.index 48 (.agg (bs SB).toArray) (.int .i64 (k : Int))).run Try.prog w = .ok (.int .u8 ((gy SB k).toNat : Int)) w := idx_arr SB k Try.underlying48 hlt HX.out.2.2.2 (by kernel_rfl) Try.underlying5
      obtain ⟨n, hn⟩ : ∃ n, (gy SB k).toNat = n := ⟨_, rfl⟩
      have ln : n < 256 := hn ▸ UInt8.toNat_lt _
      have ln' : (n : Int) < 256 := by omega
      rw [hn] at hix
      have hcv : ∀ w, (convert 3 5 (.int .i64 (k : Int))).run Try.prog w = .ok (.int .u8 ((UInt8.ofNat k).toNat : Int)) w := fun w => by
        have h := run_convert_int (P := Try.prog) w 3 5 .i64 (k : Int) (by rw [Try.underlying3]; rfl) Try.underlying5
        have e : Try.prog.intKind 5 = .u8 := by kernel_rfl
        rw [e] at h
        rw [h, UInt8.toNat_ofNat_of_lt' hlt, IntWalk.u8_in _ (by omega)]
      have c1 := h1.g0 (256 + n) (by rw [HL.out]; omega)
      have f1 := h1.fy0 (256 + n) (by rw [HL.out]; omega)
      have h3 := h1.sety (i := 256 + n) (by rw [HL.out]; omega) (UInt8.ofNat k)
      rw [ci_set _ _ _ _ (HO.out k).1 ln, ← hn, ← (HO.out k).2, hn] at h3
      have H3 := hide (And.intro h3 (hB.setCell (p := ⟨w1.heap.size, 256 + n, none⟩) HS1.out (.int .u8 ((UInt8.ofNat k).toNat : Int))))
      clear h1 h3 hB hn
      go_wp2_with fail
      go_roundg g3
      case measure => omega
      case rel => exact ⟨k + 1, by omega, by go_num, H3.out⟩
    · obtain rfl : k = 256 := by omega
      have H0 := hide (show Row wr w1.heap.size 0 (bs (SB ++ (OB ++ zr 240))) ∧ Below w.heap.size w wr from ⟨h1, hB⟩)
      have HRS := hide (show Row wr w1.heap.size 0 (bs SB) by
        have h := h1
        rw [bs_app] at h
        exact h.left)
      clear h1 hB
      go_wp2_with fail
      refine (spread_any SB key _ w1.heap.size HX.out.1 HX.out.2.2.2 HRS.out).mono ?_
      rintro e w3 ⟨rfl, hB3⟩
      rw [HX.out.2.1]
      have H5 := hide (show Row w3 w1.heap.size 0 (bs (SB ++ (OB ++ zr 240))) ∧ Below w.heap.size w w3 from ⟨H0.out.1.below hB3 H0.out.1.lt, H0.out.2.trans (hB3.mono H0.out.2.size)⟩)
      have H6 := hide (show Row w3 w1.heap.size 512 (bs (zr 240)) by
        have h := H5.out.1
        rw [bs_app] at h
        have k := h.right
        rw [bs_length, SB_length, bs_app] at k
        have k2 := k.right
        rw [bs_length, OB_length] at k2
        exact k2)
      have H7 := hide (show Row (w3.setCells w1.heap.size 512 (bs V)) w1.heap.size 0 (bs (ciB V)) from ci_put H5.out.1 OB_length (zr_length 240) HX.out.2.2.1)
      clear H0 HRS hB3
      go_wp2_with (refine wpList_storeR (op := ⟨none, _, _, _, _, _⟩) rfl 49 (.tmp 36) (.tmp 34) rfl rfl (vs := bs V) rfl H6.out (by rw [bs_length, bs_length, HX.out.2.2.1, zr_length]) (by rw [bs_length, HX.out.2.2.1]; kernel_rfl) (fun v hv => bs_one hv) ?_)
      go_wp2_with fail
      exact bodyPost_ret (v := .tuple #[.pointer (some ⟨w1.heap.size, 0, none⟩), .int .i64 0]) (by simp [results, Try.results11, go_sem]) rfl ⟨w1.heap.size, rfl, HS1.out, H7.out, H5.out.2.trans (below_setCells HS1.out _ _ _)⟩
end Go.Proofs.Ytllhnbnddcghoaa
