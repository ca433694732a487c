/- For any two strings and any slice of ints the statement BlakePieces returns true and its arguments read as before. No condition. -/
import Derived.Test.YtlpnneghlomakaaBArgs
import Derived.SizedLaws
namespace Go.Proofs.Ytlpnneghlomakaa
open Go.ChangeShapes Go.WideShapes Go.ChangeAt Go.RowKit Bk
open Go.ChangeMaps (open_string shut_string)
set_option linter.unusedVariables false
set_option linter.unusedSimpArgs false

set_option maxRecDepth 100000 in
set_option maxHeartbeats 8000000 in
theorem blakePieces_big0 (s : ByteArray) (a : Option Addr) (n c : Nat) (key : ByteArray) (w : World) (h : 20000 < s.size) : Calls Try.prog 6 #[.string s, .slice a n c, .string key] w fun e w' => e = .returned (.bool true) ∧ Below w.heap.size w w' := by
  have f0 : (20000 : Int) < (s.size : Int) := by omega
  clear h
  go_enter Try.func6, Try.ntmps6
  have HB0 := hide (Below.refl w.heap.size w)
  go_wp2_with fail
  refine (works_any _).mono ?_
  rintro e w1 ⟨rfl, hw1⟩
  have HBw1 := hide (HB0.out.trans (hw1.mono HB0.out.size))
  clear hw1 HB0
  go_wp2_with fail
  refine (works_any _).mono ?_
  rintro e w2 ⟨rfl, hw2⟩
  have HBw2 := hide (HBw1.out.trans (hw2.mono HBw1.out.size))
  clear hw2 HBw1
  go_wp2_with fail
  go_ret
  exact ⟨rfl, HBw2.out⟩

set_option maxRecDepth 100000 in
set_option maxHeartbeats 8000000 in
theorem blakePieces_big1 (s : ByteArray) (a : Option Addr) (n c : Nat) (key : ByteArray) (w : World) (h : s.size ≤ 20000 ∧ 200 < n) : Calls Try.prog 6 #[.string s, .slice a n c, .string key] w fun e w' => e = .returned (.bool true) ∧ Below w.heap.size w w' := by
  have f0 : ¬ ((20000 : Int) < (s.size : Int)) := by omega
  have f1 : (200 : Int) < (n : Int) := by omega
  clear h
  go_enter Try.func6, Try.ntmps6
  have HB0 := hide (Below.refl w.heap.size w)
  go_wp2_with fail
  refine (works_any _).mono ?_
  rintro e w1 ⟨rfl, hw1⟩
  have HBw1 := hide (HB0.out.trans (hw1.mono HB0.out.size))
  clear hw1 HB0
  go_wp2_with fail
  refine (works_any _).mono ?_
  rintro e w2 ⟨rfl, hw2⟩
  have HBw2 := hide (HBw1.out.trans (hw2.mono HBw1.out.size))
  clear hw2 HBw1
  go_wp2_with fail
  go_ret
  exact ⟨rfl, HBw2.out⟩

set_option maxRecDepth 100000 in
set_option maxHeartbeats 8000000 in
theorem blakePieces_big2 (s : ByteArray) (a : Option Addr) (n c : Nat) (key : ByteArray) (w : World) (h : s.size ≤ 20000 ∧ n ≤ 200 ∧ 20000 < key.size) : Calls Try.prog 6 #[.string s, .slice a n c, .string key] w fun e w' => e = .returned (.bool true) ∧ Below w.heap.size w w' := by
  have f0 : ¬ ((20000 : Int) < (s.size : Int)) := by omega
  have f1 : ¬ ((200 : Int) < (n : Int)) := by omega
  have f2 : (20000 : Int) < (key.size : Int) := by omega
  clear h
  go_enter Try.func6, Try.ntmps6
  have HB0 := hide (Below.refl w.heap.size w)
  go_wp2_with fail
  refine (works_any _).mono ?_
  rintro e w1 ⟨rfl, hw1⟩
  have HBw1 := hide (HB0.out.trans (hw1.mono HB0.out.size))
  clear hw1 HB0
  go_wp2_with fail
  refine (works_any _).mono ?_
  rintro e w2 ⟨rfl, hw2⟩
  have HBw2 := hide (HBw1.out.trans (hw2.mono HBw1.out.size))
  clear hw2 HBw1
  go_wp2_with fail
  go_ret
  exact ⟨rfl, HBw2.out⟩

set_option maxRecDepth 100000 in
set_option maxHeartbeats 8000000 in
theorem blakePieces_main (s : ByteArray) (a : Option Addr) (n c : Nat) (key : ByteArray) (w : World) (hz : Zi w a n) (b0 : s.size ≤ 20000) (b1 : n ≤ 200) (b2 : key.size ≤ 20000) : Calls Try.prog 6 #[.string s, .slice a n c, .string key] w fun e w' => e = .returned (.bool true) ∧ Below w.heap.size w w' := by
  have f0 : ¬ ((20000 : Int) < (s.size : Int)) := by omega
  have f1 : ¬ ((200 : Int) < (n : Int)) := by omega
  have f2 : ¬ ((20000 : Int) < (key.size : Int)) := by omega
  obtain ⟨ls, hls⟩ : ∃ ls, ls = sb s := ⟨_, rfl⟩
  have nls : ls.length ≤ 20000 := by rw [hls, sb_length]; exact b0
  have HLS := hide hls
  have HZ := hide hz
  have HK := hide b2
  clear hls hz b2
  go_enter Try.func6, Try.ntmps6
  have HB0 := hide (Below.refl w.heap.size w)
  go_wp2_with fail
  refine (works_any _).mono ?_
  rintro e w1 ⟨rfl, hw1⟩
  have HBw1 := hide (HB0.out.trans (hw1.mono HB0.out.size))
  clear hw1 HB0
  go_wp2_with fail
  refine (new_any _).mono ?_
  rintro e w2 ⟨bh, rfl, hbw2, hHw2, hw2⟩
  have Lh := hide (Nat.le_trans HBw1.out.size hbw2)
  have Kw2 := hide hHw2
  clear hbw2 hHw2
  have HBw2 := hide (HBw1.out.trans (hw2.mono HBw1.out.size))
  clear hw2 HBw1
  go_wp2_with fail
  go_loopg [8, 9, 10] n (fun g v t _ wr => ∃ (k p : Nat) (x : ByteArray), k + g = n ∧ v = .string x ∧ t = .int .i64 k ∧ p ≤ ls.length ∧ sb x = ls.drop p ∧ Hs wr bh (h0 0) (ls.take p) ∧ Below w.heap.size w wr)
  case atStart => exact ⟨0, 0, s, by omega, rfl, rfl, Nat.zero_le _, HLS.out.symm, Kw2.out, HBw2.out⟩
  case round =>
    clear Kw2 HBw2
    obtain ⟨k, p, x, hkg, rfl, rfl, hp, hx, hHh, hHB⟩ := hrel
    have xs : x.size = ls.length - p := by rw [← sb_length, hx, List.length_drop]
    have xI : (x.size : Int) ≤ 20000 := by omega
    have Hh0 := hide hHh
    have HB0 := hide hHB
    have HX := hide hx
    clear hHh hHB hx
    by_cases hlt : k < n
    · have hlt' : (k : Int) < (n : Int) := by omega
      obtain ⟨g3, rfl⟩ : ∃ g3, gk = g3 + 1 := ⟨gk - 1, by omega⟩
      obtain ⟨z, hc⟩ : ∃ z : Int, (∃ b off, a = some ⟨b, off, none⟩ ∧ wr.cell? ⟨b, off + k, none⟩ = some (.int .i64 z)) := by
        rcases (HZ.out.below HB0.out) with hz | ⟨b, off, ha, _, hc⟩
        · omega
        · obtain ⟨z, _, hcz⟩ := hc k hlt
          exact ⟨z, b, off, ha, hcz⟩
      obtain ⟨b, off, rfl, hc⟩ := hc
      obtain ⟨m, hm, hm5⟩ := u64_rest z ((x.size : Int) + 1) (by omega) (by omega)
      have hu : IntKind.u64.wrap ((x.size : Int) + 1) = (x.size : Int) + 1 := IntWalk.u64_in _ (by omega)
      have hmx : m ≤ x.size := by omega
      have hmI : (m : Int) ≤ (x.size : Int) := by omega
      have hL := hide (show ls.take p ++ sb (x.extract 0 m) = ls.take (p + m) by
        rw [sb_extract, HX.out, List.drop_zero, Nat.sub_zero, ← List.take_add])
      have hR := hide (show sb (x.extract m x.size) = ls.drop (p + m) by
        rw [sb_extract, HX.out, List.drop_drop, xs]
        exact List.take_of_length_le (by rw [List.length_drop]; omega))
      have hpm := hide (show p + m ≤ ls.length by omega)
      have hes := hide (size_extract x 0 m hmx)
      clear xs hp hm5
      go_wp2_with fail
      refine (hadd_any (x.extract 0 m) Hh0.out (h0_length 0) (h0_lt 0 (by decide)) (by rw [hes.out, List.length_take]; omega)).mono ?_
      rintro e v1 ⟨rfl, hHv1, hv1⟩
      rw [hL.out] at hHv1
      have Hhv1 := hide hHv1
      have HBv1 := hide (HB0.out.trans (hv1.below Lh.out HB0.out.size))
      clear hHv1 hv1 Hh0 HB0
      go_wp2_with fail
      go_roundg g3
      case measure => omega
      case rel => exact ⟨k + 1, p + m, x.extract m x.size, by omega, rfl, by go_num, hpm.out, hR.out, Hhv1.out, HBv1.out⟩
    · obtain rfl : k = n := by omega
      have hL := hide (show ls.take p ++ sb x = ls by rw [HX.out, List.take_append_drop])
      have hsz := hide (show (ls.take p).length + x.size ≤ 40000 by rw [List.length_take]; omega)
      clear xs hp
      obtain ⟨D, eD⟩ : ∃ D, dg 0 ls = D := ⟨_, rfl⟩
      have lD : D.size = 32 := by rw [← eD, dg_size]
      have HD := hide eD
      clear eD
      have hkc : key = ⟨#[]⟩ ∨ (key ≠ ⟨#[]⟩ ∧ key.size ≤ 32) ∨ (key ≠ ⟨#[]⟩ ∧ 32 < key.size) := by
        by_cases e : key = ⟨#[]⟩
        · exact .inl e
        · rcases Nat.lt_or_ge 32 key.size with h | h
          · exact .inr (.inr ⟨e, h⟩)
          · exact .inr (.inl ⟨e, h⟩)
      rcases hkc with rfl | ⟨kn, hk⟩ | ⟨kn, hk⟩
      · skip
        have hV := hide (show kyv ⟨#[]⟩ s = D by rw [kyv_none, ← HLS.out, HD.out])
        have hE : kye ⟨#[]⟩ = 0 := by unfold kye; rw [if_neg (by decide)]
        have hk0 : (ByteArray.mk #[]).size = 0 := rfl
        go_wp2_with fail
        refine (hadd_any x Hh0.out (h0_length 0) (h0_lt 0 (by decide)) (by have := hsz.out; omega)).mono ?_
        rintro e v1 ⟨rfl, hHv1, hv1⟩
        rw [hL.out] at hHv1
        have Hhv1 := hide hHv1
        have HBv1 := hide (HB0.out.trans (hv1.below Lh.out HB0.out.size))
        clear hHv1 hv1 Hh0 HB0
        go_wp2_with fail
        refine (hsum0_any Hhv1.out (by omega)).mono ?_
        rintro e v2 ⟨rfl, hv2⟩
        rw [HD.out]
        have Hhv2 := hide (Hhv1.out.below hv2)
        have HBv2 := hide (HBv1.out.trans (hv2.mono HBv1.out.size))
        clear hv2 Hhv1 HBv1
        go_wp2_with fail
        refine (bsum_any s _ (by omega)).mono ?_
        rintro e v3 ⟨rfl, hv3⟩
        rw [← HLS.out, HD.out]
        have Hhv3 := hide (Hhv2.out.below hv3)
        have HBv3 := hide (HBv2.out.trans (hv3.mono HBv2.out.size))
        clear hv3 Hhv2 HBv2
        go_wp2_with fail
        refine (hsum0_any Hhv3.out (by omega)).mono ?_
        rintro e v4 ⟨rfl, hv4⟩
        rw [HD.out]
        have Hhv4 := hide (Hhv3.out.below hv4)
        have HBv4 := hide (HBv3.out.trans (hv4.mono HBv3.out.size))
        clear hv4 Hhv3 HBv3
        go_wp2_with fail
        refine (bsum_any s _ (by omega)).mono ?_
        rintro e v5 ⟨rfl, hv5⟩
        rw [← HLS.out, HD.out]
        have Hhv5 := hide (Hhv4.out.below hv5)
        have HBv5 := hide (HBv4.out.trans (hv5.mono HBv4.out.size))
        clear hv5 Hhv4 HBv4
        go_wp2_with fail
        refine (hsum0_any Hhv5.out (by omega)).mono ?_
        rintro e v6 ⟨rfl, hv6⟩
        rw [HD.out]
        have Hhv6 := hide (Hhv5.out.below hv6)
        have HBv6 := hide (HBv5.out.trans (hv6.mono HBv5.out.size))
        clear hv6 Hhv5 HBv5
        go_wp2_with fail
        refine (keyed_any ⟨#[]⟩ s _ (by decide) (by omega)).mono ?_
        rintro e v7 ⟨rfl, hv7⟩
        rw [hV.out, hE]
        have Hhv7 := hide (Hhv6.out.below hv7)
        have HBv7 := hide (HBv6.out.trans (hv7.mono HBv6.out.size))
        clear hv7 Hhv6 HBv6
        go_wp2_with fail
        refine (keyed_any ⟨#[]⟩ s _ (by decide) (by omega)).mono ?_
        rintro e v8 ⟨rfl, hv8⟩
        rw [hV.out, hE]
        have Hhv8 := hide (Hhv7.out.below hv8)
        have HBv8 := hide (HBv7.out.trans (hv8.mono HBv7.out.size))
        clear hv8 Hhv7 HBv7
        go_wp2_with fail
        refine (bsum_any s _ (by omega)).mono ?_
        rintro e v9 ⟨rfl, hv9⟩
        rw [← HLS.out, HD.out]
        have Hhv9 := hide (Hhv8.out.below hv9)
        have HBv9 := hide (HBv8.out.trans (hv9.mono HBv8.out.size))
        clear hv9 Hhv8 HBv8
        go_wp2_with fail
        go_ret
        exact ⟨rfl, HBv9.out⟩
      · skip
        obtain ⟨V, eV⟩ : ∃ V, kyv key s = V := ⟨_, rfl⟩
        have lV : V.size = 32 := by rw [← eV]; unfold kyv; rw [if_neg (by omega), dg_size]
        have hV := hide eV
        have hE : kye key = 0 := by unfold kye; rw [if_neg (by omega)]
        have hkI : (key.size : Int) ≤ 32 := by omega
        have kb : ¬ key.toList = [] := fun h => kn (sb_inj (show sb key = sb ⟨#[]⟩ by rw [ByteArray.toList_eq] at h; exact h))
        clear eV
        go_wp2_with fail
        refine (hadd_any x Hh0.out (h0_length 0) (h0_lt 0 (by decide)) (by have := hsz.out; omega)).mono ?_
        rintro e v1 ⟨rfl, hHv1, hv1⟩
        rw [hL.out] at hHv1
        have Hhv1 := hide hHv1
        have HBv1 := hide (HB0.out.trans (hv1.below Lh.out HB0.out.size))
        clear hHv1 hv1 Hh0 HB0
        go_wp2_with fail
        refine (hsum0_any Hhv1.out (by omega)).mono ?_
        rintro e v2 ⟨rfl, hv2⟩
        rw [HD.out]
        have Hhv2 := hide (Hhv1.out.below hv2)
        have HBv2 := hide (HBv1.out.trans (hv2.mono HBv1.out.size))
        clear hv2 Hhv1 HBv1
        go_wp2_with fail
        refine (bsum_any s _ (by omega)).mono ?_
        rintro e v3 ⟨rfl, hv3⟩
        rw [← HLS.out, HD.out]
        have Hhv3 := hide (Hhv2.out.below hv3)
        have HBv3 := hide (HBv2.out.trans (hv3.mono HBv2.out.size))
        clear hv3 Hhv2 HBv2
        go_wp2_with fail
        refine (hsum0_any Hhv3.out (by omega)).mono ?_
        rintro e v4 ⟨rfl, hv4⟩
        rw [HD.out]
        have Hhv4 := hide (Hhv3.out.below hv4)
        have HBv4 := hide (HBv3.out.trans (hv4.mono HBv3.out.size))
        clear hv4 Hhv3 HBv3
        go_wp2_with fail
        refine (bsum_any s _ (by omega)).mono ?_
        rintro e v5 ⟨rfl, hv5⟩
        rw [← HLS.out, HD.out]
        have Hhv5 := hide (Hhv4.out.below hv5)
        have HBv5 := hide (HBv4.out.trans (hv5.mono HBv4.out.size))
        clear hv5 Hhv4 HBv4
        go_wp2_with fail
        refine (hsum0_any Hhv5.out (by omega)).mono ?_
        rintro e v6 ⟨rfl, hv6⟩
        rw [HD.out]
        have Hhv6 := hide (Hhv5.out.below hv6)
        have HBv6 := hide (HBv5.out.trans (hv6.mono HBv5.out.size))
        clear hv6 Hhv5 HBv5
        go_wp2_with fail
        refine (keyed_any key s _ (by have := HK.out; omega) (by omega)).mono ?_
        rintro e v7 ⟨rfl, hv7⟩
        rw [hV.out, hE]
        have Hhv7 := hide (Hhv6.out.below hv7)
        have HBv7 := hide (HBv6.out.trans (hv7.mono HBv6.out.size))
        clear hv7 Hhv6 HBv6
        go_wp2_with fail
        refine (keyed_any key s _ (by have := HK.out; omega) (by omega)).mono ?_
        rintro e v8 ⟨rfl, hv8⟩
        rw [hV.out, hE]
        have Hhv8 := hide (Hhv7.out.below hv8)
        have HBv8 := hide (HBv7.out.trans (hv8.mono HBv7.out.size))
        clear hv8 Hhv7 HBv7
        go_wp2_with fail
        go_ret
        exact ⟨rfl, HBv8.out⟩
      · skip
        have hV := hide (show kyv key s = ⟨#[]⟩ by unfold kyv; rw [if_pos hk])
        have hE : kye key = 1 := by unfold kye; rw [if_pos hk]
        have hkI : ¬ ((key.size : Int) ≤ 32) := by omega
        have hkd : decide ((key.size : Int) ≤ 32) = false := decide_eq_false hkI
        have kb : ¬ key.toList = [] := fun h => kn (sb_inj (show sb key = sb ⟨#[]⟩ by rw [ByteArray.toList_eq] at h; exact h))
        go_wp2_with fail
        refine (hadd_any x Hh0.out (h0_length 0) (h0_lt 0 (by decide)) (by have := hsz.out; omega)).mono ?_
        rintro e v1 ⟨rfl, hHv1, hv1⟩
        rw [hL.out] at hHv1
        have Hhv1 := hide hHv1
        have HBv1 := hide (HB0.out.trans (hv1.below Lh.out HB0.out.size))
        clear hHv1 hv1 Hh0 HB0
        go_wp2_with fail
        refine (hsum0_any Hhv1.out (by omega)).mono ?_
        rintro e v2 ⟨rfl, hv2⟩
        rw [HD.out]
        have Hhv2 := hide (Hhv1.out.below hv2)
        have HBv2 := hide (HBv1.out.trans (hv2.mono HBv1.out.size))
        clear hv2 Hhv1 HBv1
        go_wp2_with fail
        refine (bsum_any s _ (by omega)).mono ?_
        rintro e v3 ⟨rfl, hv3⟩
        rw [← HLS.out, HD.out]
        have Hhv3 := hide (Hhv2.out.below hv3)
        have HBv3 := hide (HBv2.out.trans (hv3.mono HBv2.out.size))
        clear hv3 Hhv2 HBv2
        go_wp2_with fail
        refine (hsum0_any Hhv3.out (by omega)).mono ?_
        rintro e v4 ⟨rfl, hv4⟩
        rw [HD.out]
        have Hhv4 := hide (Hhv3.out.below hv4)
        have HBv4 := hide (HBv3.out.trans (hv4.mono HBv3.out.size))
        clear hv4 Hhv3 HBv3
        go_wp2_with fail
        refine (bsum_any s _ (by omega)).mono ?_
        rintro e v5 ⟨rfl, hv5⟩
        rw [← HLS.out, HD.out]
        have Hhv5 := hide (Hhv4.out.below hv5)
        have HBv5 := hide (HBv4.out.trans (hv5.mono HBv4.out.size))
        clear hv5 Hhv4 HBv4
        go_wp2_with fail
        refine (hsum0_any Hhv5.out (by omega)).mono ?_
        rintro e v6 ⟨rfl, hv6⟩
        rw [HD.out]
        have Hhv6 := hide (Hhv5.out.below hv6)
        have HBv6 := hide (HBv5.out.trans (hv6.mono HBv5.out.size))
        clear hv6 Hhv5 HBv5
        go_wp2_with fail
        refine (keyed_any key s _ (by have := HK.out; omega) (by omega)).mono ?_
        rintro e v7 ⟨rfl, hv7⟩
        rw [hV.out, hE]
        have Hhv7 := hide (Hhv6.out.below hv7)
        have HBv7 := hide (HBv6.out.trans (hv7.mono HBv6.out.size))
        clear hv7 Hhv6 HBv6
        go_wp2_with fail
        refine (keyed_any key s _ (by have := HK.out; omega) (by omega)).mono ?_
        rintro e v8 ⟨rfl, hv8⟩
        rw [hV.out, hE]
        have Hhv8 := hide (Hhv7.out.below hv8)
        have HBv8 := hide (HBv7.out.trans (hv8.mono HBv7.out.size))
        clear hv8 Hhv7 HBv7
        go_wp2_with fail
        go_ret
        exact ⟨rfl, HBv8.out⟩

theorem blakePieces_any (w : World) (s : ByteArray) (m0 : s.size ≤ 140737488351232) (a : Option Addr) (n c : Nat) (hz : Zi w a n) (hn : n ≤ maxLen) (key : ByteArray) (m1 : key.size ≤ 140737488351232) :
    Calls Try.prog 6 #[.string s, .slice a n c, .string key] w fun e w' => e = .returned (.bool true) ∧ Below w.heap.size w w' := by
  by_cases h : 20000 < s.size
  · exact blakePieces_big0 s a n c key w h
  · by_cases h' : 200 < n
    · exact blakePieces_big1 s a n c key w ⟨by omega, h'⟩
    · by_cases h'' : 20000 < key.size
      · exact blakePieces_big2 s a n c key w ⟨by omega, by omega, h''⟩
      · exact blakePieces_main s a n c key w hz (by omega) (by omega) (by omega)

theorem blakePieces_own : ownKnob Try.prog.godebug = none := by kernel_rfl
theorem blakePieces_laidOut : laidOutB Try.prog = true := by kernel_rfl

set_option maxRecDepth 100000 in
theorem blakePieces_lifted (os : Os) (started : os.Started) (H : Type) (enc : TypeId × Value → H) :
    ReturnsInHanded {} Try.checked os 6 .any (Rows.blakePiecesSpec.pre6 enc Try.prog Try.f6 Rows.blakePiecesRow.domain false) (Rows.blakePiecesSpec.post enc Try.prog Try.f6 false true false false) := by
  refine returnsInHanded_of_change_sized (C := Try.checked) blakePieces_own started (by kernel_rfl) Try.func6
    (ChangeSpec.witness6 (enc := enc) (C := Try.checked) false ⟨#[], #[.string ⟨#[]⟩, .slice none 0 0, .string ⟨#[]⟩], []⟩ 8 (by kernel_rfl) (by kernel_rfl) (by kernel_rfl) (by kernel_rfl)) ?_
  intro W base args ds gs before hval0 hW hcnd hsz0 _
  have hval : ∀ (j : Nat) t v, Try.f6.params[j]? = some t → args[j]? = some v → Value.okWide Try.prog W .any base t v := hval0
  have hW' := hW
  obtain ⟨p, q, hA0, hV, rfl, hfz, hnd⟩ := hW
  have hA : DataW.TrodAll enc Try.prog W 0 (fun _ => true) true Try.f6.params.toList args.toList ds p := hA0
  rw [Try.params6] at hA hval
  obtain ⟨v0, vs0, d0, ds0, p0, q0, hargs, rfl, rfl, h0, r0⟩ := trodAll_cons hA
  obtain ⟨v1, vs1, d1, ds1, p1, q1, rfl, rfl, rfl, h1, r1⟩ := trodAll_cons r0
  obtain ⟨v2, vs2, d2, ds2, p2, q2, rfl, rfl, rfl, h2, r2⟩ := trodAll_cons r1
  obtain ⟨rfl, rfl, rfl⟩ := trodAll_nil r2
  obtain rfl : args = #[v0, v1, v2] := by cases args; simp_all
  obtain ⟨rfl, rfl⟩ := trodVars_none hV
  obtain ⟨a0, rfl, rfl, rfl, w0⟩ := open_string Try.underlying9 (hval 0 9 v0 rfl rfl) h0
  have s0 : a0.size ≤ 140737488351232 := sized_string hsz0 (j := 0) (t := 9) rfl rfl
  obtain ⟨a1, len1, cap1, rfl⟩ := okWide_slice Try.underlying35 (hval 1 35 v1 rfl rfl)
  have k1 := h1
  have lt1 : ∀ x ∈ p1, x.block < W.heap.size := by obtain ⟨m, hm⟩ := k1; exact DataW.trod_lt m _ _ _ hm
  obtain ⟨z1, w1⟩ : ∃ zs, IsRow .i64 W a1 len1 cap1 zs := by
    obtain ⟨fuel, hf⟩ := h1
    rcases open_ints Try.underlying35 Try.underlying3 (by kernel_rfl) hf with ⟨hcs, _⟩ | ⟨x, l, c, zs, hcs, _, hl, hm, hz, _, hcell, hwz⟩
    · simp [Value.cells] at hcs
      obtain ⟨rfl, rfl, rfl⟩ := hcs
      exact ⟨[], .inl ⟨rfl, rfl, rfl, rfl⟩⟩
    · simp [Value.cells] at hcs
      obtain ⟨rfl, rfl, rfl⟩ := hcs
      exact ⟨zs, .inr ⟨_, rfl, hl, hm, by simpa using hz, hcell, hwz⟩⟩
  obtain ⟨a2, rfl, rfl, rfl, w2⟩ := open_string Try.underlying9 (hval 2 9 v2 rfl rfl) h2
  have s2 : a2.size ≤ 140737488351232 := sized_string hsz0 (j := 2) (t := 9) rfl rfl
  clear hA0 hval0 hsz0
  simp only [List.append_nil] at hW'
  refine (blakePieces_any W a0 s0 a1 len1 cap1 (isRow_zi w1) (isRow_len w1) a2 s2).mono fun e W' ⟨he, bel⟩ => ?_
  subst he
  exact ⟨_, rfl, _, _, _, [], _, [], hW', trodAll_mk1 (shut_bool Try.underlying4 _), (trodAll_cons_mk (shut_string Try.underlying9 w0) (trodAll_cons_mk (Below.trod blakePieces_laidOut (by kernel_rfl) (of_decide_eq_true (by kernel_rfl)) k1 bel lt1) (trodAll_cons_mk (shut_string Try.underlying9 w2) trodAll_mk0))), rfl, bel.frame _, fun h => by cases h⟩

theorem blakePieces_holds : Rows.BlakePiecesSaid :=
  OpenClaim.holds_of_wide 6 Try.f6 rfl rfl rfl rfl rfl rfl rfl ⟨rfl, rfl, rfl, rfl, rfl⟩ rfl rfl rfl rfl rfl (by kernel_rfl) Try.func6 (by kernel_rfl)
    (of_decide_eq_true (by kernel_rfl)) (by unfold Func.isWrapper; first | (rw [if_pos (by decide +kernel)]; kernel_rfl) | (rw [if_neg (by decide +kernel)]; exact ⟨rfl, rfl⟩))
    (fun os started H enc _ => blakePieces_lifted os started H enc)

#print axioms blakePieces_holds

end Go.Proofs.Ytlpnneghlomakaa
