/- For any two strings, any slice of ints and any integer the statement ShaPieces returns true and its arguments read as before. No condition. -/
import Derived.Test.YtgcgflmgppplmaaSArgs
namespace Go.Proofs.Ytgcgflmgppplmaa
open Go.ChangeShapes Go.WideShapes Go.ChangeAt Go.RowKit Bk
open Go.ChangeMaps (open_string shut_string)
set_option linter.unusedVariables false
set_option linter.unusedSimpArgs false

/-- By a key with noughts behind it bytes have the same digest. -/
theorem scmb_noughts (k : List UInt8) (m : Nat) (h : k.length + m ≤ 64) (c : UInt8) : scmb (k ++ List.replicate m 0) c = scmb k c := by
  unfold scmb
  rw [List.append_assoc, List.replicate_append_replicate]
  congr 3
  simp
  omega
theorem shm_noughts (key s : ByteArray) (m : Nat) (h : key.size + m ≤ 64) (k2 : ByteArray) (h2 : sb k2 = sb key ++ List.replicate m 0) : shm k2 s = shm key s := by
  unfold shm shmac skey
  have l1 : (sb key).length = key.size := sb_length key
  rw [h2, if_neg (by simp; omega), if_neg (by omega), scmb_noughts _ _ (by omega), scmb_noughts _ _ (by omega)]
theorem shm_long (key s : ByteArray) (h : 64 < key.size) : shm (sdg (sb key)) s = shm key s := by
  unfold shm shmac
  have e : skey (sb (sdg (sb key))) = skey (sb key) := by
    unfold skey
    rw [sb_sdg, if_neg (by rw [ssum_length]; decide), if_pos (by rw [sb_length]; exact h)]
  rw [e]

set_option maxRecDepth 100000 in
set_option maxHeartbeats 8000000 in
theorem shaPieces_big0 (s : ByteArray) (a : Option Addr) (n c : Nat) (key : ByteArray) (z : Int) (w : World) (h : 20000 < s.size) : Calls Try.prog 6 #[.string s, .slice a n c, .string key, .int .i64 z] w fun e w' => e = .returned (.bool true) ∧ Below w.heap.size w w' := by
  have f0 : (20000 : Int) < (s.size : Int) := by omega
  clear h
  go_enter Try.func6, Try.ntmps6
  have HB0 := hide (Below.refl w.heap.size w)
  go_wp2_with fail
  refine (works_any _).mono ?_
  rintro e w1 ⟨rfl, hw1⟩
  have HBw1 := hide (HB0.out.trans (hw1.mono HB0.out.size))
  clear hw1 HB0
  go_wp2_with fail
  refine (works_any _).mono ?_
  rintro e w2 ⟨rfl, hw2⟩
  have HBw2 := hide (HBw1.out.trans (hw2.mono HBw1.out.size))
  clear hw2 HBw1
  go_wp2_with fail
  go_ret
  exact ⟨rfl, HBw2.out⟩

set_option maxRecDepth 100000 in
set_option maxHeartbeats 8000000 in
theorem shaPieces_big1 (s : ByteArray) (a : Option Addr) (n c : Nat) (key : ByteArray) (z : Int) (w : World) (h : s.size ≤ 20000 ∧ 200 < n) : Calls Try.prog 6 #[.string s, .slice a n c, .string key, .int .i64 z] w fun e w' => e = .returned (.bool true) ∧ Below w.heap.size w w' := by
  have f0 : ¬ ((20000 : Int) < (s.size : Int)) := by omega
  have f1 : (200 : Int) < (n : Int) := by omega
  clear h
  go_enter Try.func6, Try.ntmps6
  have HB0 := hide (Below.refl w.heap.size w)
  go_wp2_with fail
  refine (works_any _).mono ?_
  rintro e w1 ⟨rfl, hw1⟩
  have HBw1 := hide (HB0.out.trans (hw1.mono HB0.out.size))
  clear hw1 HB0
  go_wp2_with fail
  refine (works_any _).mono ?_
  rintro e w2 ⟨rfl, hw2⟩
  have HBw2 := hide (HBw1.out.trans (hw2.mono HBw1.out.size))
  clear hw2 HBw1
  go_wp2_with fail
  go_ret
  exact ⟨rfl, HBw2.out⟩

set_option maxRecDepth 100000 in
set_option maxHeartbeats 8000000 in
theorem shaPieces_big2 (s : ByteArray) (a : Option Addr) (n c : Nat) (key : ByteArray) (z : Int) (w : World) (h : s.size ≤ 20000 ∧ n ≤ 200 ∧ 20000 < key.size) : Calls Try.prog 6 #[.string s, .slice a n c, .string key, .int .i64 z] w fun e w' => e = .returned (.bool true) ∧ Below w.heap.size w w' := by
  have f0 : ¬ ((20000 : Int) < (s.size : Int)) := by omega
  have f1 : ¬ ((200 : Int) < (n : Int)) := by omega
  have f2 : (20000 : Int) < (key.size : Int) := by omega
  clear h
  go_enter Try.func6, Try.ntmps6
  have HB0 := hide (Below.refl w.heap.size w)
  go_wp2_with fail
  refine (works_any _).mono ?_
  rintro e w1 ⟨rfl, hw1⟩
  have HBw1 := hide (HB0.out.trans (hw1.mono HB0.out.size))
  clear hw1 HB0
  go_wp2_with fail
  refine (works_any _).mono ?_
  rintro e w2 ⟨rfl, hw2⟩
  have HBw2 := hide (HBw1.out.trans (hw2.mono HBw1.out.size))
  clear hw2 HBw1
  go_wp2_with fail
  go_ret
  exact ⟨rfl, HBw2.out⟩

set_option maxRecDepth 100000 in
set_option maxHeartbeats 8000000 in
theorem shaPieces_main (s : ByteArray) (a : Option Addr) (n c : Nat) (key : ByteArray) (z : Int) (w : World) (hzi : Zi w a n) (b0 : s.size ≤ 20000) (b1 : n ≤ 200) (b2 : key.size ≤ 20000) (bz : -9223372036854775808 ≤ z ∧ z ≤ 9223372036854775807) : Calls Try.prog 6 #[.string s, .slice a n c, .string key, .int .i64 z] w fun e w' => e = .returned (.bool true) ∧ Below w.heap.size w w' := by
  have f0 : ¬ ((20000 : Int) < (s.size : Int)) := by omega
  have f1 : ¬ ((200 : Int) < (n : Int)) := by omega
  have f2 : ¬ ((20000 : Int) < (key.size : Int)) := by omega
  obtain ⟨ls, hls⟩ : ∃ ls, ls = sb s := ⟨_, rfl⟩
  have nls : ls.length ≤ 20000 := by rw [hls, sb_length]; exact b0
  have HLS := hide hls
  have HZ := hide hzi
  have HK := hide b2
  have HBZ := hide bz
  clear hls hzi b2 bz
  go_enter Try.func6, Try.ntmps6
  have HB0 := hide (Below.refl w.heap.size w)
  go_wp2_with fail
  refine (works_any _).mono ?_
  rintro e w1 ⟨rfl, hw1⟩
  have HBw1 := hide (HB0.out.trans (hw1.mono HB0.out.size))
  clear hw1 HB0
  go_wp2_with fail
  refine (snew_any _).mono ?_
  rintro e w2 ⟨bh, rfl, hbw2, hHw2, hw2⟩
  have Lh := hide (Nat.le_trans HBw1.out.size hbw2)
  have Kw2 := hide hHw2
  clear hbw2 hHw2
  have HBw2 := hide (HBw1.out.trans (hw2.mono HBw1.out.size))
  clear hw2 HBw1
  go_wp2_with fail
  go_loopg [10, 11, 12] n (fun g v t _ wr => ∃ (k p : Nat) (x : ByteArray), k + g = n ∧ v = .string x ∧ t = .int .i64 k ∧ p ≤ ls.length ∧ sb x = ls.drop p ∧ Ss wr bh (ls.take p) ∧ Below w.heap.size w wr)
  case atStart => exact ⟨0, 0, s, by omega, rfl, rfl, Nat.zero_le _, HLS.out.symm, Kw2.out, HBw2.out⟩
  case round =>
    clear Kw2 HBw2
    obtain ⟨k, p, x, hkg, rfl, rfl, hp, hx, hHh, hHB⟩ := hrel
    have xs : x.size = ls.length - p := by rw [← sb_length, hx, List.length_drop]
    have xI : (x.size : Int) ≤ 20000 := by omega
    have Hh0 := hide hHh
    have HB0 := hide hHB
    have HX := hide hx
    clear hHh hHB hx
    by_cases hlt : k < n
    · have hlt' : (k : Int) < (n : Int) := by omega
      obtain ⟨g3, rfl⟩ : ∃ g3, gk = g3 + 1 := ⟨gk - 1, by omega⟩
      obtain ⟨z1, hc⟩ : ∃ z1 : Int, (∃ b off, a = some ⟨b, off, none⟩ ∧ wr.cell? ⟨b, off + k, none⟩ = some (.int .i64 z1)) := by
        rcases (HZ.out.below HB0.out) with hz | ⟨b, off, ha, _, hc⟩
        · omega
        · obtain ⟨z1, _, hcz⟩ := hc k hlt
          exact ⟨z1, b, off, ha, hcz⟩
      obtain ⟨b, off, rfl, hc⟩ := hc
      obtain ⟨m, hm, hm5⟩ := u64_rest z1 ((x.size : Int) + 1) (by omega) (by omega)
      have hu : IntKind.u64.wrap ((x.size : Int) + 1) = (x.size : Int) + 1 := IntWalk.u64_in _ (by omega)
      have hmx : m ≤ x.size := by omega
      have hmI : (m : Int) ≤ (x.size : Int) := by omega
      have hL := hide (show ls.take p ++ sb (x.extract 0 m) = ls.take (p + m) by
        rw [sb_extract, HX.out, List.drop_zero, Nat.sub_zero, ← List.take_add])
      have hR := hide (show sb (x.extract m x.size) = ls.drop (p + m) by
        rw [sb_extract, HX.out, List.drop_drop, xs]
        exact List.take_of_length_le (by rw [List.length_drop]; omega))
      have hpm := hide (show p + m ≤ ls.length by omega)
      have hes := hide (size_extract x 0 m hmx)
      clear xs hp hm5
      go_wp2_with fail
      refine (sadd_any (x.extract 0 m) Hh0.out (by rw [hes.out, List.length_take]; omega)).mono ?_
      rintro e v1 ⟨rfl, hHv1, hv1⟩
      rw [hL.out] at hHv1
      have Hhv1 := hide hHv1
      have HBv1 := hide (HB0.out.trans (hv1.below Lh.out HB0.out.size))
      clear hHv1 hv1 Hh0 HB0
      go_wp2_with fail
      go_roundg g3
      case measure => omega
      case rel => exact ⟨k + 1, p + m, x.extract m x.size, by omega, rfl, by go_num, hpm.out, hR.out, Hhv1.out, HBv1.out⟩
    · obtain rfl : k = n := by omega
      have hL := hide (show ls.take p ++ sb x = ls by rw [HX.out, List.take_append_drop])
      have hsz := hide (show (ls.take p).length + x.size ≤ 40000 by rw [List.length_take]; omega)
      clear xs hp
      obtain ⟨D, eD⟩ : ∃ D, sdg ls = D := ⟨_, rfl⟩
      have lD : D.size = 32 := by rw [← eD, sdg_size]
      have HD := hide eD
      obtain ⟨V, eV⟩ : ∃ V, shm key s = V := ⟨_, rfl⟩
      have HV := hide eV
      clear eD eV
      by_cases hkc : 64 < key.size
      · skip
        have hkI : (64 : Int) < (key.size : Int) := by omega
        have hKD := hide (shm_long key s hkc)
        obtain ⟨KD, eKD⟩ : ∃ KD, sdg (sb key) = KD := ⟨_, rfl⟩
        have lKD : KD.size = 32 := by rw [← eKD, sdg_size]
        have HKD := hide eKD
        clear eKD
        go_wp2_with fail
        refine (sadd_any x Hh0.out (by have := hsz.out; omega)).mono ?_
        rintro e v1 ⟨rfl, hHv1, hv1⟩
        rw [hL.out] at hHv1
        have Hhv1 := hide hHv1
        have HBv1 := hide (HB0.out.trans (hv1.below Lh.out HB0.out.size))
        clear hHv1 hv1 Hh0 HB0
        go_wp2_with fail
        refine (shsum_any Hhv1.out (by omega)).mono ?_
        rintro e v2 ⟨rfl, hv2⟩
        rw [HD.out]
        have Hhv2 := hide (Hhv1.out.below hv2)
        have HBv2 := hide (HBv1.out.trans (hv2.mono HBv1.out.size))
        clear hv2 Hhv1 HBv1
        go_wp2_with fail
        refine (ssum_any s _ (by omega)).mono ?_
        rintro e v3 ⟨rfl, hv3⟩
        rw [← HLS.out, HD.out]
        have Hhv3 := hide (Hhv2.out.below hv3)
        have HBv3 := hide (HBv2.out.trans (hv3.mono HBv2.out.size))
        clear hv3 Hhv2 HBv2
        go_wp2_with fail
        refine (shsum_any Hhv3.out (by omega)).mono ?_
        rintro e v4 ⟨rfl, hv4⟩
        rw [HD.out]
        have Hhv4 := hide (Hhv3.out.below hv4)
        have HBv4 := hide (HBv3.out.trans (hv4.mono HBv3.out.size))
        clear hv4 Hhv3 HBv3
        go_wp2_with fail
        refine (ssum_any s _ (by omega)).mono ?_
        rintro e v5 ⟨rfl, hv5⟩
        rw [← HLS.out, HD.out]
        have Hhv5 := hide (Hhv4.out.below hv5)
        have HBv5 := hide (HBv4.out.trans (hv5.mono HBv4.out.size))
        clear hv5 Hhv4 HBv4
        go_wp2_with fail
        refine (shsum_any Hhv5.out (by omega)).mono ?_
        rintro e v6 ⟨rfl, hv6⟩
        rw [HD.out]
        have Hhv6 := hide (Hhv5.out.below hv6)
        have HBv6 := hide (HBv5.out.trans (hv6.mono HBv5.out.size))
        clear hv6 Hhv5 HBv5
        go_wp2_with fail
        refine (shmac_any key s _ (by have := HK.out; omega) (by omega)).mono ?_
        rintro e v7 ⟨rfl, hv7⟩
        rw [HV.out]
        have Hhv7 := hide (Hhv6.out.below hv7)
        have HBv7 := hide (HBv6.out.trans (hv7.mono HBv6.out.size))
        clear hv7 Hhv6 HBv6
        go_wp2_with fail
        refine (ssum_any key _ (by have := HK.out; omega)).mono ?_
        rintro e v8 ⟨rfl, hv8⟩
        rw [HKD.out]
        have Hhv8 := hide (Hhv7.out.below hv8)
        have HBv8 := hide (HBv7.out.trans (hv8.mono HBv7.out.size))
        clear hv8 Hhv7 HBv7
        go_wp2_with fail
        refine (shmac_any KD s _ (by omega) (by omega)).mono ?_
        rintro e v9 ⟨rfl, hv9⟩
        rw [← HKD.out, hKD.out, HV.out]
        have Hhv9 := hide (Hhv8.out.below hv9)
        have HBv9 := hide (HBv8.out.trans (hv9.mono HBv8.out.size))
        clear hv9 Hhv8 HBv8
        go_wp2_with fail
        go_ret
        exact ⟨rfl, HBv9.out⟩
      · skip
        have hkI : ¬ ((64 : Int) < (key.size : Int)) := by omega
        obtain ⟨q, eq⟩ : ∃ q : Nat, 65 - key.size = q := ⟨_, rfl⟩
        have hq1 : IntKind.i64.wrap (65 - (key.size : Int)) = (q : Int) := by rw [IntWalk.i64_in _ (by omega)]; omega
        have hq2 : (65 : Int) - (key.size : Int) = (q : Int) := by omega
        have hq3 : IntKind.u64.wrap (q : Int) = (q : Int) := IntWalk.u64_in _ (by omega)
        have hq4 : IntKind.i64.wrap (q : Int) = (q : Int) := IntWalk.i64_in _ (by omega)
        have hq5 : ¬ ((q : Int) = 0) := by omega
        have hq6 : ¬ (q = 0) := by omega
        obtain ⟨m, hm, hm5⟩ := u64_rest z (q : Int) (by omega) (by omega)
        have hm' : IntKind.i64.wrap ((IntKind.u64.wrap z).tmod (q : Int)) = (m : Int) := by
          have h := hm
          unfold wrap64 at h
          rw [IntKind.wrap_i64]
          omega
        have hnb := hide (show ¬ (9223372036854775807 < key.size + m) by omega)
        obtain ⟨Zs, eZs⟩ : ∃ Zs, ByteArray.mk (List.replicate m (0 : UInt8)).toArray = Zs := ⟨_, rfl⟩
        have lZs : Zs.size = m := by rw [← eZs, ← sb_length, sb_mk, List.length_replicate]
        have hK2 := hide (shm_noughts key s m (by omega) (key ++ Zs) (by rw [sb_app, ← eZs]; rfl))
        have lK2 := hide (show (key ++ Zs).size = key.size + m by rw [← sb_length, sb_app, List.length_append, sb_length, sb_length, lZs])
        have hmq := hide (show m ≤ 64 ∧ key.size ≤ 64 by omega)
        have HZs := hide eZs
        clear eZs eq hm5
        go_wp2_with fail
        refine (sadd_any x Hh0.out (by have := hsz.out; omega)).mono ?_
        rintro e v1 ⟨rfl, hHv1, hv1⟩
        rw [hL.out] at hHv1
        have Hhv1 := hide hHv1
        have HBv1 := hide (HB0.out.trans (hv1.below Lh.out HB0.out.size))
        clear hHv1 hv1 Hh0 HB0
        go_wp2_with fail
        refine (shsum_any Hhv1.out (by omega)).mono ?_
        rintro e v2 ⟨rfl, hv2⟩
        rw [HD.out]
        have Hhv2 := hide (Hhv1.out.below hv2)
        have HBv2 := hide (HBv1.out.trans (hv2.mono HBv1.out.size))
        clear hv2 Hhv1 HBv1
        go_wp2_with fail
        refine (ssum_any s _ (by omega)).mono ?_
        rintro e v3 ⟨rfl, hv3⟩
        rw [← HLS.out, HD.out]
        have Hhv3 := hide (Hhv2.out.below hv3)
        have HBv3 := hide (HBv2.out.trans (hv3.mono HBv2.out.size))
        clear hv3 Hhv2 HBv2
        go_wp2_with fail
        refine (shsum_any Hhv3.out (by omega)).mono ?_
        rintro e v4 ⟨rfl, hv4⟩
        rw [HD.out]
        have Hhv4 := hide (Hhv3.out.below hv4)
        have HBv4 := hide (HBv3.out.trans (hv4.mono HBv3.out.size))
        clear hv4 Hhv3 HBv3
        go_wp2_with fail
        refine (ssum_any s _ (by omega)).mono ?_
        rintro e v5 ⟨rfl, hv5⟩
        rw [← HLS.out, HD.out]
        have Hhv5 := hide (Hhv4.out.below hv5)
        have HBv5 := hide (HBv4.out.trans (hv5.mono HBv4.out.size))
        clear hv5 Hhv4 HBv4
        go_wp2_with fail
        refine (shsum_any Hhv5.out (by omega)).mono ?_
        rintro e v6 ⟨rfl, hv6⟩
        rw [HD.out]
        have Hhv6 := hide (Hhv5.out.below hv6)
        have HBv6 := hide (HBv5.out.trans (hv6.mono HBv5.out.size))
        clear hv6 Hhv5 HBv5
        go_wp2_with fail
        refine wp_region_ord (fun _ => True) 17 [(0, some true), (1, some true), (3, some true), (4, some true), (5, some true), (6, some true), (7, some true), (8, some true), (9, some true), (10, some true), (11, some true), (14, some true), (2, none), (12, none), (13, some true), (15, none), (16, some true), (17, none)] (by kernel_rfl) (by kernel_rfl) (fun _ _ _ _ h => h) trivial ?_
        refine ord_pureE (o := ⟨some 94, _, _, _, _, _⟩) rfl (by kernel_rfl) ⟨_, fun w9 => by (go_simp; try rfl), ?_⟩
        simp only [Act.put, List.setIfInBounds_toArray, List.set_cons_zero, List.set_cons_succ]
        refine ord_pureE (o := ⟨some 95, _, _, _, _, _⟩) rfl (by kernel_rfl) ⟨_, fun w9 => by (go_simp; try rfl), ?_⟩
        simp only [Act.put, List.setIfInBounds_toArray, List.set_cons_zero, List.set_cons_succ]
        refine ord_pureE (o := ⟨some 97, _, _, _, _, _⟩) rfl (by kernel_rfl) ⟨_, fun w9 => by (go_simp; try rfl), ?_⟩
        simp only [Act.put, List.setIfInBounds_toArray, List.set_cons_zero, List.set_cons_succ]
        refine ord_pureE (o := ⟨some 98, _, _, _, _, _⟩) rfl (by kernel_rfl) ⟨_, fun w9 => by (go_simp; try rfl), ?_⟩
        simp only [Act.put, List.setIfInBounds_toArray, List.set_cons_zero, List.set_cons_succ]
        refine ord_pureE (o := ⟨some 99, _, _, _, _, _⟩) rfl (by kernel_rfl) ⟨_, fun w9 => by (go_simp; try rfl), ?_⟩
        simp only [Act.put, List.setIfInBounds_toArray, List.set_cons_zero, List.set_cons_succ]
        refine ord_pureE (o := ⟨some 100, _, _, _, _, _⟩) rfl (by kernel_rfl) ⟨_, fun w9 => by (go_simp; try rfl), ?_⟩
        simp only [Act.put, List.setIfInBounds_toArray, List.set_cons_zero, List.set_cons_succ]
        refine ord_pureE (o := ⟨some 101, _, _, _, _, _⟩) rfl (by kernel_rfl) ⟨_, fun w9 => by (go_simp; try rfl), ?_⟩
        simp only [Act.put, List.setIfInBounds_toArray, List.set_cons_zero, List.set_cons_succ]
        refine ord_pureE (o := ⟨some 102, _, _, _, _, _⟩) rfl (by kernel_rfl) ⟨_, fun w9 => by (go_simp; try rfl), ?_⟩
        simp only [Act.put, List.setIfInBounds_toArray, List.set_cons_zero, List.set_cons_succ]
        refine ord_pureE (o := ⟨some 103, _, _, _, _, _⟩) rfl (by kernel_rfl) ⟨_, fun w9 => by (go_simp; try rfl), ?_⟩
        simp only [Act.put, List.setIfInBounds_toArray, List.set_cons_zero, List.set_cons_succ]
        refine ord_pureE (o := ⟨some 104, _, _, _, _, _⟩) rfl (by kernel_rfl) ⟨_, fun w9 => by (go_simp; try rfl), ?_⟩
        simp only [Act.put, List.setIfInBounds_toArray, List.set_cons_zero, List.set_cons_succ]
        refine ord_pureE (o := ⟨some 105, _, _, _, _, _⟩) rfl (by kernel_rfl) ⟨_, fun w9 => by (go_simp; try rfl), ?_⟩
        simp only [Act.put, List.setIfInBounds_toArray, List.set_cons_zero, List.set_cons_succ]
        refine ord_pureE (o := ⟨some 108, _, _, _, _, _⟩) rfl (by kernel_rfl) ⟨_, fun w9 => by (go_simp; try rfl), ?_⟩
        simp only [Act.put, List.setIfInBounds_toArray, List.set_cons_zero, List.set_cons_succ]
        refine ord_go rfl (fun K9 hK => ?_)
        go_simp
        go_wp2_with fail
        refine (shmac_any key s _ (by have := HK.out; omega) (by omega)).mono ?_
        rintro e y1 ⟨rfl, k1⟩
        rw [HV.out]
        dsimp only
        replace k1 : Below v6.heap.size v6 y1 := (Below.refl _ v6).drew.trans k1
        have Y1 := hide (HBv6.out.trans (k1.mono HBv6.out.size))
        clear k1 HBv6
        refine hK.out _ _ (fun _ => trivial) ?_
        clear hK K9
        refine ord_go rfl (fun K9 hK => ?_)
        go_simp
        go_wp2_with fail
        refine (many_any m 0 _ (by have := hmq.out; omega)).mono ?_
        rintro e y2 ⟨rfl, k2⟩
        rw [HZs.out]
        dsimp only
        have Y2 := hide (Y1.out.trans (k2.mono Y1.out.size))
        clear k2 Y1
        refine hK.out _ _ (fun _ => trivial) ?_
        clear hK K9
        refine ord_pureE (o := ⟨some 107, _, _, _, _, _⟩) rfl (by kernel_rfl) ⟨.string (key ++ Zs), fun w9 => by (go_simp; exact Nat.le_of_not_lt hnb.out), ?_⟩
        simp only [Act.put, List.setIfInBounds_toArray, List.set_cons_zero, List.set_cons_succ]
        refine ord_go rfl (fun K9 hK => ?_)
        go_simp
        go_wp2_with fail
        refine (shmac_any (key ++ Zs) s _ (by rw [lK2.out]; have := HK.out; have := hmq.out; omega) (by omega)).mono ?_
        rintro e y3 ⟨rfl, k3⟩
        rw [hK2.out, HV.out]
        dsimp only
        have Y3 := hide (Y2.out.trans (k3.mono Y2.out.size))
        clear k3 Y2
        refine hK.out _ _ (fun _ => trivial) ?_
        clear hK K9
        refine ord_pureE (o := ⟨some 110, _, _, _, _, _⟩) rfl (by kernel_rfl) ⟨_, fun w9 => by (go_simp; try rfl), ?_⟩
        simp only [Act.put, List.setIfInBounds_toArray, List.set_cons_zero, List.set_cons_succ]
        refine ord_go rfl (fun K9 hK => ?_)
        go_simp
        refine hK.out _ _ (fun h => by cases h) ?_
        clear hK K9
        refine ord_end ?_
        go_wp2_with fail
        go_ret
        exact ⟨rfl, Y3.out⟩

theorem shaPieces_any (w : World) (s : ByteArray) (m0 : s.size ≤ 140737488351232) (a : Option Addr) (n c : Nat) (hz : Zi w a n) (hn : n ≤ maxLen) (key : ByteArray) (m1 : key.size ≤ 140737488351232) (z : Int) (bz : -9223372036854775808 ≤ z ∧ z ≤ 9223372036854775807) :
    Calls Try.prog 6 #[.string s, .slice a n c, .string key, .int .i64 z] w fun e w' => e = .returned (.bool true) ∧ Below w.heap.size w w' := by
  by_cases h : 20000 < s.size
  · exact shaPieces_big0 s a n c key z w h
  · by_cases h' : 200 < n
    · exact shaPieces_big1 s a n c key z w ⟨by omega, h'⟩
    · by_cases h'' : 20000 < key.size
      · exact shaPieces_big2 s a n c key z w ⟨by omega, by omega, h''⟩
      · exact shaPieces_main s a n c key z w hz (by omega) (by omega) (by omega) bz

theorem shaPieces_own : ownKnob Try.prog.godebug = none := by kernel_rfl
theorem shaPieces_laidOut : laidOutB Try.prog = true := by kernel_rfl

set_option maxRecDepth 100000 in
theorem shaPieces_lifted (os : Os) (started : os.Started) (H : Type) (enc : TypeId × Value → H) :
    ReturnsInHanded {} Try.checked os 6 .any (Rows.shaPiecesSpec.pre6 enc Try.prog Try.f6 Rows.shaPiecesRow.domain false) (Rows.shaPiecesSpec.post enc Try.prog Try.f6 false true false false) := by
  refine returnsInHanded_of_change_sized (C := Try.checked) shaPieces_own started (by kernel_rfl) Try.func6
    (ChangeSpec.witness6 (enc := enc) (C := Try.checked) false ⟨#[], #[.string ⟨#[]⟩, .slice none 0 0, .string ⟨#[]⟩, .int .i64 0], []⟩ 8 (by kernel_rfl) (by kernel_rfl) (by kernel_rfl) (by kernel_rfl)) ?_
  intro W base args ds gs before hval0 hW hcnd hsz0 _
  have hval : ∀ (j : Nat) t v, Try.f6.params[j]? = some t → args[j]? = some v → Value.okWide Try.prog W .any base t v := hval0
  have hW' := hW
  obtain ⟨p, q, hA0, hV, rfl, hfz, hnd⟩ := hW
  have hA : DataW.TrodAll enc Try.prog W 0 (fun _ => true) true Try.f6.params.toList args.toList ds p := hA0
  rw [Try.params6] at hA hval
  obtain ⟨v0, vs0, d0, ds0, p0, q0, hargs, rfl, rfl, h0, r0⟩ := trodAll_cons hA
  obtain ⟨v1, vs1, d1, ds1, p1, q1, rfl, rfl, rfl, h1, r1⟩ := trodAll_cons r0
  obtain ⟨v2, vs2, d2, ds2, p2, q2, rfl, rfl, rfl, h2, r2⟩ := trodAll_cons r1
  obtain ⟨v3, vs3, d3, ds3, p3, q3, rfl, rfl, rfl, h3, r3⟩ := trodAll_cons r2
  obtain ⟨rfl, rfl, rfl⟩ := trodAll_nil r3
  obtain rfl : args = #[v0, v1, v2, v3] := by cases args; simp_all
  obtain ⟨rfl, rfl⟩ := trodVars_none hV
  obtain ⟨a0, rfl, rfl, rfl, w0⟩ := open_string Try.underlying9 (hval 0 9 v0 rfl rfl) h0
  have s0 : a0.size ≤ 140737488351232 := sized_string hsz0 (j := 0) (t := 9) rfl rfl
  obtain ⟨a1, len1, cap1, rfl⟩ := okWide_slice Try.underlying34 (hval 1 34 v1 rfl rfl)
  have k1 := h1
  have lt1 : ∀ x ∈ p1, x.block < W.heap.size := by obtain ⟨m, hm⟩ := k1; exact DataW.trod_lt m _ _ _ hm
  obtain ⟨z1, w1⟩ : ∃ zs, IsRow .i64 W a1 len1 cap1 zs := by
    obtain ⟨fuel, hf⟩ := h1
    rcases open_ints Try.underlying34 Try.underlying3 (by kernel_rfl) hf with ⟨hcs, _⟩ | ⟨x, l, c, zs, hcs, _, hl, hm, hz, _, hcell, hwz⟩
    · simp [Value.cells] at hcs
      obtain ⟨rfl, rfl, rfl⟩ := hcs
      exact ⟨[], .inl ⟨rfl, rfl, rfl, rfl⟩⟩
    · simp [Value.cells] at hcs
      obtain ⟨rfl, rfl, rfl⟩ := hcs
      exact ⟨zs, .inr ⟨_, rfl, hl, hm, by simpa using hz, hcell, hwz⟩⟩
  obtain ⟨a2, rfl, rfl, rfl, w2⟩ := open_string Try.underlying9 (hval 2 9 v2 rfl rfl) h2
  have s2 : a2.size ≤ 140737488351232 := sized_string hsz0 (j := 2) (t := 9) rfl rfl
  obtain ⟨a3, rfl, rfl, rfl, w3⟩ := open_int Try.underlying3 (hval 3 3 v3 rfl rfl) h3
  clear hA0 hval0 hsz0
  simp only [List.append_nil] at hW'
  refine (shaPieces_any W a0 s0 a1 len1 cap1 (isRow_zi w1) (isRow_len w1) a2 s2 a3 (bounds_i64 w3)).mono fun e W' ⟨he, bel⟩ => ?_
  subst he
  exact ⟨_, rfl, _, _, _, [], _, [], hW', trodAll_mk1 (shut_bool Try.underlying4 _), (trodAll_cons_mk (shut_string Try.underlying9 w0) (trodAll_cons_mk (Below.trod shaPieces_laidOut (by kernel_rfl) (of_decide_eq_true (by kernel_rfl)) k1 bel lt1) (trodAll_cons_mk (shut_string Try.underlying9 w2) (trodAll_cons_mk (shut_int Try.underlying3 w3) trodAll_mk0)))), rfl, bel.frame _, fun h => by cases h⟩

theorem shaPieces_holds : Rows.ShaPiecesSaid :=
  OpenClaim.holds_of_wide 6 Try.f6 rfl rfl rfl rfl rfl rfl rfl ⟨rfl, rfl, rfl, rfl, rfl⟩ rfl rfl rfl rfl rfl (by kernel_rfl) Try.func6 (by kernel_rfl)
    (of_decide_eq_true (by kernel_rfl)) (by unfold Func.isWrapper; first | (rw [if_pos (by decide +kernel)]; kernel_rfl) | (rw [if_neg (by decide +kernel)]; exact ⟨rfl, rfl⟩))
    (fun os started H enc _ => shaPieces_lifted os started H enc)

#print axioms shaPieces_holds

end Go.Proofs.Ytgcgflmgppplmaa
