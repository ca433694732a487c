/- The document's Keyed, walked, by a key that is not empty. For at most 100000 bytes. -/
import Derived.Test.YtjdgaolailfplaaRfPre
namespace Go.Proofs.Ytjdgaolailfplaa
open Go.RowKit Bk
set_option linter.unusedVariables false
set_option linter.unusedSimpArgs false

set_option maxRecDepth 100000 in
set_option maxHeartbeats 16000000 in
theorem rfkeyed_N (key s : ByteArray) (w : World) (hk0 : 0 < key.size) (hk : key.size ≤ 32) (hs : s.size ≤ 100000) :
    Calls Try.prog 23 #[.string key, .string s] w fun e w' => e = .returned (.tuple #[.string (dg key.size (kd (sb key) (sb s))), .int .i64 0]) ∧ Below w.heap.size w w' := by
  obtain ⟨n, en⟩ : ∃ n, key.size = n := ⟨_, rfl⟩
  obtain ⟨l, el⟩ : ∃ l, kd (sb key) (sb s) = l := ⟨_, rfl⟩
  have hl : l.length ≤ 100064 := by
    rw [← el]; unfold kd; split
    · rw [sb_length]; omega
    · rw [List.length_append, List.length_append, List.length_replicate, sb_length, sb_length]; omega
  have hknI : (key.size : Int) = (n : Int) := by omega
  have hk1 : ¬ ((32 : Int) < (n : Int)) := by omega
  rw [en] at hk hk0 ⊢
  rw [el]
  have HEN := hide en
  have HEL := hide el
  have nsb : (sb key).length = n := by rw [sb_length, en]
  have HNS := hide nsb
  clear en el nsb
  have x1 : bits .xor .u32 1779033703 16842784 = ((1779033703 ^^^ 16842784 : Nat) : Int) := u32_xor_nat 1779033703 16842784 (by decide) (by decide)
  obtain ⟨c0, ec0⟩ : ∃ c, 1779033703 ^^^ 16842784 = c := ⟨_, rfl⟩
  have lc0 : c0 < 4294967296 := by rw [← ec0]; decide
  rw [ec0] at x1
  obtain ⟨c1, ec1⟩ : ∃ c, c0 ^^^ (n * 256) = c := ⟨_, rfl⟩
  have x2 : bits .xor .u32 (c0 : Int) ((n : Int) * 256) = (c1 : Int) := by
    have h9 := u32_xor_nat c0 (n * 256) lc0 (by omega)
    rw [ec1] at h9
    rw [show (n : Int) * 256 = ((n * 256 : Nat) : Int) by omega]
    exact h9
  have x3 : bits .xor .u32 (c0 : Int) (256 * (n : Int)) = (c1 : Int) := by rw [Int.mul_comm]; exact x2
  have hH0 : iv.set 0 c1 = h0 n := by rw [← h0_again n, ec0, ec1]
  have HH0 := hide hH0
  clear hH0 ec0 ec1 lc0
  go_enter Try.func23, Try.ntmps23
  go_wp2_with fail
  refine (rffirst_any _).mono ?_
  rintro e w1 ⟨v1, rfl, hO1, hB1⟩
  obtain ⟨g6, c6, rfl, hg6, hc6, hR6⟩ := own_row hO1 (by decide)
  have h6lt := hR6.lt
  have HR6 := hide hR6
  have HB1 := hide hB1
  clear hO1 hR6 hB1
  go_wp2_with (refine wpList_appendO rfl (.tmp 26) (.tmp 27) 65 65 rfl 54 Try.underlying65 infoU (by decide) rfl (B := w1.heap.size) (n := 0) (m := 8) (xs := []) (news := us iv) rfl rfl (Ow.made w1 w1.heap.size (Nat.le_refl _) [] 54) ((HR6.out.alloc _).src rfl Try.underlying65 (fun u hu => us_one hu)) (by decide) (by simp) (fun u hu => by cases hu) ?_
               intro v7 w2 hO7 hB7
               obtain ⟨g7, c7, rfl, hg7, hc7, hR7⟩ := hO7.row (by decide)
               have hc70 : w2.cell? ⟨g7, 0, none⟩ = some (.int .u32 1779033703) := hR7.u0 0 (by decide)
               have hf70 : w2.frozen? ⟨g7, 0, none⟩ = false := hR7.f0 0 (by rw [List.nil_append, us_length]; decide)
               have k6 := (HR6.out.alloc (.cells #[] 54)).below hB7 h6lt
               have kB := HB1.out.trans ((Below.alloc (Below.refl w1.heap.size w1) (Nat.le_refl _) _).trans hB7 |>.mono HB1.out.size)
               have h7lt := hR7.lt
               have kR7 := hR7.set0 (i := 0) (by rw [List.nil_append, us_length]; decide) (.int .u32 (c1 : Int))
               rw [List.nil_append, ← us_set, HH0.out] at kR7
               obtain ⟨w3, hw3, HR63, HR73, HB3⟩ : ∃ W, w2.setCell ⟨g7, 0, none⟩ (.int .u32 (c1 : Int)) = W ∧ Hid (Row W g6 0 (us iv)) ∧ Hid (Row W g7 0 (us (h0 n))) ∧ Hid (Below w.heap.size w W) :=
                 ⟨_, rfl, k6.other _ _ _ (.inl (by omega)), kR7, kB.setCell (show w.heap.size ≤ g7 by have := HB1.out.size; omega) _⟩
               have hc7I : (8 : Int) ≤ (c7 : Int) := by omega
               obtain ⟨v8, w4, hcv, hO8, hB8⟩ := run_bytesO (P := Try.prog) w3 9 31 5 key Try.underlying9 Try.underlying31 Try.underlying5
               rw [HEN.out] at hO8
               have h63 : g6 < w3.heap.size := HR63.out.lt
               have h73 : g7 < w3.heap.size := HR73.out.lt
               have HR64 := hide (HR63.out.below hB8 h63)
               have HR74 := hide (HR73.out.below hB8 h73)
               have HB4 := hide (HB3.out.trans (hB8.mono HB3.out.size))
               have HO8 := hide hO8
               have HBB := hide hB8.size
               have HB4S := hide HB3.out.size
               clear hO7 hB7 hR7 k6 kB kR7 HR63 HR73 HB3 hO8 hB8 HR6 HB1)
  clear hcv hw3 x1 x2 x3 hc70 hf70
  go_loopg [8] (64 - n) (fun g v wr => ∃ j : Nat, (j + g = 64 - n ∧ (n = 0 → j = 0)) ∧ Ow wr w3.heap.size v (n + j) (bs (sb key ++ List.replicate j 0)) ∧ Row wr g6 0 (us iv) ∧ Row wr g7 0 (us (h0 n)) ∧ Below w.heap.size w wr ∧ w3.heap.size ≤ wr.heap.size)
  case atStart => exact ⟨0, ⟨by omega, fun _ => rfl⟩, by simpa using HO8.out, HR64.out, HR74.out, HB4.out, HBB.out⟩
  case round =>
    clear HO8 HR64 HR74 HB4 HBB
    obtain ⟨j, hj, hO, hR6, hR7, hB, hBB⟩ := hrel
    have HO := hide hO
    have HR6 := hide hR6
    have HR7 := hide hR7
    have HB := hide hB
    have HBB := hide hBB
    obtain ⟨a8, c8, rfl, hc8⟩ := hO.shape
    clear hO hR6 hR7 hB hBB
    obtain ⟨nj, enj⟩ : ∃ nj, n + j = nj := ⟨_, rfl⟩
    rw [enj] at HO hc8 ⊢
    by_cases hcond : nj < 64
    · have hn0 : (0 : Int) < (n : Int) := by omega
      have hnj : (nj : Int) < 64 := by omega
      obtain ⟨g3, rfl⟩ : ∃ g3, gk = g3 + 1 := ⟨gk - 1, by omega⟩
      have HJ := hide (show (j + 1 + g3 = 64 - n ∧ (n = 0 → j + 1 = 0)) ∧ n + (j + 1) = nj + 1 from ⟨⟨by omega, fun h => by omega⟩, by omega⟩)
      clear hj enj hcond
      go_wp2_with (refine append_zero rfl (.tmp 50) (.tmp 51) rfl rfl rfl HO.out (by omega) HBB.out ?_
                   intro v9 w9 hO9 hB10)
      have HO9 := hide hO9
      have HR69 := hide (HR6.out.below hB10 h63)
      have HR79 := hide (HR7.out.below hB10 h73)
      have HB9 := hide (HB.out.trans (hB10.mono HB4S.out))
      have HBB9 := hide (Nat.le_trans HBB.out hB10.size)
      clear hO9 hB10
      go_roundg g3
      case measure => omega
      case rel =>
        refine ⟨j + 1, HJ.out.1, ?_, HR69.out, HR79.out, HB9.out, HBB9.out⟩
        rw [HJ.out.2, List.replicate_succ', ← List.append_assoc]
        exact HO9.out
    · have hnj : nj = 64 := by omega
      have hpl : Hid ((bs (sb key ++ List.replicate j 0) ++ bs (sb s)) = bs l ∧ nj + s.size = l.length) := by
        rw [← bs_app]
        have e1 : (sb key ++ List.replicate j 0) ++ sb s = l := by
          rw [← HEL.out]
          have := kd_pad key s (by rw [HEN.out]; exact hk0) (by rw [HEN.out]; omega)
          rw [HEN.out] at this
          rw [← this, show j = 64 - n by omega]
        refine hide ⟨by rw [e1], ?_⟩
        have := congrArg List.length e1
        rw [List.length_append, List.length_append, List.length_replicate, HNS.out, sb_length] at this
        omega
      have hn0 : (0 : Int) < (n : Int) := by omega
      have hnjI : ¬ ((nj : Int) < 64) := by omega
      clear hj enj hcond hnj
      go_wp2_with (refine wpList_appendO rfl (.tmp 53) (.tmp 54) 31 9 rfl 5 Try.underlying31 info8' (by decide) rfl rfl rfl HO.out (str_src Try.underlying9 s) (by have := hpl.out.2; omega) HBB.out (fun u hu => bs_one hu) ?_
                   intro v9 w9 hO9 hB9
                   rw [hpl.out.1, hpl.out.2] at hO9
                   obtain ⟨a9, c9, rfl, hc9⟩ := hO9.shape
                   have HO9 := hide hO9
                   have HR69 := hide (HR6.out.below hB9 h63)
                   have HR79 := hide (HR7.out.below hB9 h73)
                   have HB9 := hide (HB.out.trans (hB9.mono HB4S.out))
                   have HBB9 := hide (Nat.le_trans HBB.out hB9.size)
                   clear hO9 hB9 HO HR6 HR7 HB HBB)
      obtain ⟨t, et⟩ : ∃ t, l.length = t := ⟨_, rfl⟩
      obtain ⟨qt, eqt⟩ : ∃ qt, qn t = qt := ⟨_, rfl⟩
      have HT := hide (show l.length = t ∧ qn t = qt ∧ 64 * qt ≤ t ∧ t ≤ 64 * qt + 64 ∧ (t ≤ 64 ∨ 64 * qt < t) ∧ (t = 0 ∨ 64 * qt < t) from ⟨et, eqt, by have := qn_le t; omega, by have := qn_le t; omega, by rw [← eqt]; unfold qn; omega, by rw [← eqt]; unfold qn; omega⟩)
      have htI : (t : Int) ≤ 100064 := by omega
      rw [et] at HO9 hc9 ⊢
      clear hpl et eqt hl
      go_loopg [8] (64 * qt + 64 - t) (fun g v wr => ∃ j : Nat, t + j + g = 64 * qt + 64 ∧ Ow wr w3.heap.size v (t + j) (bs (l ++ List.replicate j 0)) ∧ Row wr g6 0 (us iv) ∧ Row wr g7 0 (us (h0 n)) ∧ Below w.heap.size w wr ∧ w3.heap.size ≤ wr.heap.size)
      case atStart => exact ⟨0, by have := HT.out.2.2.2.1; omega, by simpa using HO9.out, HR69.out, HR79.out, HB9.out, HBB9.out⟩
      case round =>
        clear HO9 HR69 HR79 HB9 HBB9
        obtain ⟨j2, hj, hO, hR6, hR7, hB, hBB⟩ := hrel
        have HO := hide hO
        have HR6 := hide hR6
        have HR7 := hide hR7
        have HB := hide hB
        have HBB := hide hBB
        obtain ⟨ap, cp, rfl, hcp⟩ := hO.shape
        clear hO hR6 hR7 hB hBB
        obtain ⟨N, eN⟩ : ∃ N, t + j2 = N := ⟨_, rfl⟩
        rw [eN] at HO hcp ⊢
        have hrem : (N : Int).tmod 64 = ((N % 64 : Nat) : Int) := by rw [Int.tmod_eq_emod_of_nonneg (by omega)]; omega
        obtain ⟨r, er⟩ : ∃ r, N % 64 = r := ⟨_, rfl⟩
        rw [er] at hrem
        by_cases hcond : N < 64 * qt + 64
        · obtain ⟨g3, rfl⟩ : ∃ g3, gk = g3 + 1 := ⟨gk - 1, by omega⟩
          have hne : N = 0 ∨ r ≠ 0 := by have := HT.out.2.2.2.2; have := HT.out.2.2.1; omega
          have hcc : N = 0 ∨ (N ≠ 0 ∧ r ≠ 0) := by omega
          have HJ := hide (show t + (j2 + 1) + g3 = 64 * qt + 64 ∧ t + (j2 + 1) = N + 1 ∧ N + 1 ≤ 1000000 from ⟨by omega, by omega, by have := HT.out.2.2.1; omega⟩)
          clear hj eN er hcond hne
          have goon : True := trivial
          rcases hcc with hN | ⟨hN, hr⟩
          · have hNI : (N : Int) = 0 := by omega
            go_wp2_with (refine append_zero rfl (.tmp 67) (.tmp 68) rfl rfl rfl HO.out HJ.out.2.2 HBB.out ?_
                         intro v9 w9 hO9 hB10)
            have HO9 := hide hO9
            have HR69 := hide (HR6.out.below hB10 h63)
            have HR79 := hide (HR7.out.below hB10 h73)
            have HB9 := hide (HB.out.trans (hB10.mono HB4S.out))
            have HBB9 := hide (Nat.le_trans HBB.out hB10.size)
            clear hO9 hB10
            go_roundg g3
            case measure => omega
            case rel =>
              refine ⟨j2 + 1, HJ.out.1, ?_, HR69.out, HR79.out, HB9.out, HBB9.out⟩
              rw [HJ.out.2.1, List.replicate_succ', ← List.append_assoc]
              exact HO9.out
          · have hNI : ¬ ((N : Int) = 0) := by omega
            have hrI : ¬ ((r : Int) = 0) := by omega
            have hNb : ((N : Int) == 0) = false := beq_eq_false_iff_ne.2 hNI
            have hrb : ((r : Int) != 0) = true := bne_iff_ne.2 hrI
            go_wp2_with (refine append_zero rfl (.tmp 67) (.tmp 68) rfl rfl rfl HO.out HJ.out.2.2 HBB.out ?_
                         intro v9 w9 hO9 hB10)
            have HO9 := hide hO9
            have HR69 := hide (HR6.out.below hB10 h63)
            have HR79 := hide (HR7.out.below hB10 h73)
            have HB9 := hide (HB.out.trans (hB10.mono HB4S.out))
            have HBB9 := hide (Nat.le_trans HBB.out hB10.size)
            clear hO9 hB10
            go_roundg g3
            case measure => omega
            case rel =>
              refine ⟨j2 + 1, HJ.out.1, ?_, HR69.out, HR79.out, HB9.out, HBB9.out⟩
              rw [HJ.out.2.1, List.replicate_succ', ← List.append_assoc]
              exact HO9.out
        · have hNe : N = 64 * qt + 64 := by omega
          have hN0 : ¬ ((N : Int) = 0) := by omega
          have hr0 : r = 0 := by omega
          have hrI : (r : Int) = 0 := by omega
          have hNb : ((N : Int) == 0) = false := beq_eq_false_iff_ne.2 hN0
          have hN64 : (N : Int) ≤ 100200 := by have := HT.out.2.2.1; omega
          obtain ⟨g8, c8', hv8, hg8, hc8', hR8⟩ := HO.out.row (by omega)
          obtain ⟨P, eP⟩ : ∃ P, l ++ List.replicate j2 0 = P := ⟨_, rfl⟩
          rw [eP] at hR8
          have lP : P.length = N := by have := HO.out.1; rw [eP, bs_length] at this; exact this
          have HR8 := hide hR8
          have HP := hide eP
          have HLP := hide lP
          have HN := hide (And.intro hNe eN)
          clear hR8 lP HO eP hNe eN hj hcond er hc8'
          obtain ⟨rfl, rfl⟩ : ap = some ⟨g8, 0, none⟩ ∧ cp = c8' := by simpa using hv8
          clear hv8
          go_wp2_with fail
          go_loopg [10, 11, 12, 13, 14, 15, 16, 17, 18, 19] (qt + 1) (fun g fr _ _ _ _ _ _ _ _ _ wr => ∃ q : Nat, q + g = qt + 1 ∧ fr = .int .i64 ((64 * q : Nat) : Int) ∧ Row wr g6 0 (us iv) ∧ Row wr g7 0 (us (hq (h0 n) l q)) ∧ Row wr g8 0 (bs P) ∧ Below w.heap.size w wr)
          case atStart => exact ⟨0, by omega, rfl, HR6.out, by rw [hq_zero]; exact HR7.out, HR8.out, HB.out⟩
          case round =>
            clear HR6 HR7 HR8 HB HBB
            obtain ⟨q, hqg, rfl, hR6, hR7, hR8, hB⟩ := hrel
            have HR6 := hide hR6
            have HR7 := hide hR7
            have HR8 := hide hR8
            have HB := hide hB
            have hl8 := hR8.lt
            clear hR6 hR7 hR8 hB
            obtain ⟨f, ef⟩ : ∃ f, 64 * q = f := ⟨_, rfl⟩
            rw [ef]
            obtain ⟨H, eH⟩ : ∃ H, hq (h0 n) l q = H := ⟨_, rfl⟩
            rw [eH] at HR7
            have nH : H.length = 8 := by rw [← eH]; exact hq_length (h0_length n) _ _
            have lH : Lt H := by rw [← eH]; exact hq_lt (h0_lt n hk) _ _
            obtain ⟨M, eM⟩ : ∃ M, nums (P.drop f) = M := ⟨_, rfl⟩
            have nM : M.length = 16 := by rw [← eM]; exact nums_length _
            have HLH := hide lH
            have HEM := hide eM
            have HEH := hide eH
            have HML := hide nM
            clear lH eM eH nM
            by_cases hlt : q < qt + 1
            · obtain ⟨g3, rfl⟩ : ∃ g3, gk = g3 + 1 := ⟨gk - 1, by omega⟩
              have hfN : (f : Int) < (N : Int) := by have := HN.out.1; omega
              have hf0 : (f : Int) ≤ 100200 := by omega
              have HQ := hide (show q + 1 + g3 = qt + 1 ∧ 64 * (q + 1) = f + 64 from ⟨by omega, by omega⟩)
              by_cases hlast : q = qt
              · have h1 : (N : Int) ≤ (f : Int) + 64 := by have := HN.out.1; omega
                have h2 : (t : Int) ≤ (f : Int) + 64 := by have := HN.out.1; have := HT.out.2.2.2.1; omega
                have hminf : (if (t : Int) < (f : Int) + 64 then (t : Int) else (f : Int) + 64) = (t : Int) := by split <;> omega
                have HQE := hide (show q = qn l.length by rw [HT.out.1, HT.out.2.1]; omega)
                have HEF := hide ef
                have HB0S := hide hg6
                have HNF := hide (show f + 64 ≤ N by have := HN.out.1; omega)
                clear hlt hqg ef hlast
                go_wp2_with fail
                obtain ⟨G, eG⟩ : ∃ G, t = G := ⟨_, rfl⟩
                have gq0 : IntKind.u64.wrap ((t : Int)) = (t : Int) := IntWalk.u64_in _ (by omega)
                have gq1 : ((t : Int)) % 4294967296 = (t : Int) := by omega
                have gq2 : ((t : Int)) / 4294967296 = 0 := by omega
                have gq3 : IntKind.u32.wrap ((t : Int)) = (t : Int) := IntWalk.u32_in _ (by omega)
                obtain ⟨b12, eb12⟩ : ∃ b, at' iv 4 ^^^ (G % 4294967296) = b := ⟨_, rfl⟩
                obtain ⟨b13, eb13⟩ : ∃ b, at' iv 5 ^^^ (G / 4294967296 % 4294967296) = b := ⟨_, rfl⟩
                have gx12 : bits .xor .u32 1359893119 ((t : Int)) = (b12 : Int) := by
                  have h9 := u32_xor_nat 1359893119 G (by decide) (by omega)
                  rw [← eb12, Nat.mod_eq_of_lt (by omega : G < 4294967296)]
                  rw [show (t : Int) = (G : Int) by omega]
                  exact h9
                have gx13 : bits .xor .u32 2600822924 0 = (b13 : Int) := by
                  have h9 := u32_xor_nat 2600822924 0 (by decide) (by decide)
                  rw [← eb13, show G / 4294967296 % 4294967296 = 0 by omega]
                  exact h9
                obtain ⟨b14, eb14⟩ : ∃ b, at' iv 6 ^^^ 4294967295 = b := ⟨_, rfl⟩
                have gx14 : bits .xor .u32 528734635 4294967295 = (b14 : Int) := by
                  have h9 := u32_xor_nat 528734635 4294967295 (by decide) (by decide)
                  rw [← eb14]
                  exact h9
                have HXX := hide (And.intro eb12 (And.intro eb13 eb14))
                clear eb14
                have HG := hide eG
                clear eb12 eb13 eG
                have HB0 := hide (Below.refl wr.heap.size wr)
                have wbs := hide (Nat.le_of_lt hl8)
                have g6l := HR6.out.lt
                have g7l := HR7.out.lt
                obtain ⟨wb, ewb⟩ : ∃ v, v = wr := ⟨_, rfl⟩
                subst ewb
                go_loopg [13, 14] 16 (fun g v tt wr => ∃ i : Nat, i + g = 16 ∧ tt = .int .i64 ((f + 4 * i : Nat) : Int) ∧ Ow wr wb.heap.size v i (us (tab i (num (P.drop f)))) ∧ Below wb.heap.size wb wr)
                case atStart => exact ⟨0, rfl, rfl, Ow.nil _ _, Below.refl _ _⟩
                case round =>
                  as_aux_lemma =>
                  obtain ⟨i, hig, rfl, hO, hBl⟩ := hrel
                  have HO := hide hO
                  have HBL := hide hBl
                  obtain ⟨am, cm, rfl, hcm⟩ := hO.shape
                  clear hO hBl
                  by_cases hi16 : i < 16
                  · obtain ⟨g5, rfl⟩ : ∃ g5, gk = g5 + 1 := ⟨gk - 1, by omega⟩
                    obtain ⟨f4, ef4⟩ : ∃ f4, f + 4 * i = f4 := ⟨_, rfl⟩
                    have hf4 : f4 + 3 < P.length := by have := HNF.out; have := HLP.out; omega
                    have R8 := HR8.out.below HBL.out (by have := hl8; omega)
                    have hy0 := R8.y0 f4 (by omega)
                    have hy1 := R8.y0 (f4 + 1) (by omega)
                    have hy2 := R8.y0 (f4 + 2) (by omega)
                    have hy3 := R8.y0 (f4 + 3) (by omega)
                    obtain ⟨y0, ey0⟩ : ∃ y, by' P f4 = y := ⟨_, rfl⟩
                    obtain ⟨y1, ey1⟩ : ∃ y, by' P (f4 + 1) = y := ⟨_, rfl⟩
                    obtain ⟨y2, ey2⟩ : ∃ y, by' P (f4 + 2) = y := ⟨_, rfl⟩
                    obtain ⟨y3, ey3⟩ : ∃ y, by' P (f4 + 3) = y := ⟨_, rfl⟩
                    have ly0 : y0 < 256 := ey0 ▸ by_lt _ _
                    have ly1 : y1 < 256 := ey1 ▸ by_lt _ _
                    have ly2 : y2 < 256 := ey2 ▸ by_lt _ _
                    have ly3 : y3 < 256 := ey3 ▸ by_lt _ _
                    obtain ⟨nu, enu⟩ : ∃ nu, num (P.drop f) i = nu := ⟨_, rfl⟩
                    have hnu : nu = y0 + 256 * y1 + 65536 * y2 + 16777216 * y3 := by
                      rw [← enu, ← ey0, ← ey1, ← ey2, ← ey3]
                      unfold num
                      rw [by_drop, by_drop, by_drop, by_drop, show f + 4 * i = f4 from ef4, show f + (4 * i + 1) = f4 + 1 by omega, show f + (4 * i + 2) = f4 + 2 by omega, show f + (4 * i + 3) = f4 + 3 by omega]
                    rw [ey0] at hy0
                    rw [ey1] at hy1
                    rw [ey2] at hy2
                    rw [ey3] at hy3
                    obtain ⟨s1, es1⟩ : ∃ s1, y0 + 256 * y1 = s1 := ⟨_, rfl⟩
                    obtain ⟨s2, es2⟩ : ∃ s2, s1 + 65536 * y2 = s2 := ⟨_, rfl⟩
                    have u0 : IntKind.u32.wrap (y0 : Int) = (y0 : Int) := IntWalk.u32_in _ (by omega)
                    have u1 : IntKind.u32.wrap (y1 : Int) = (y1 : Int) := IntWalk.u32_in _ (by omega)
                    have u2 : IntKind.u32.wrap (y2 : Int) = (y2 : Int) := IntWalk.u32_in _ (by omega)
                    have u3 : IntKind.u32.wrap (y3 : Int) = (y3 : Int) := IntWalk.u32_in _ (by omega)
                    have m1 : IntKind.u32.wrap ((y1 : Int) * 256) = (y1 : Int) * 256 := IntWalk.u32_in _ (by omega)
                    have m2 : IntKind.u32.wrap ((y2 : Int) * 65536) = (y2 : Int) * 65536 := IntWalk.u32_in _ (by omega)
                    have m3 : IntKind.u32.wrap ((y3 : Int) * 16777216) = (y3 : Int) * 16777216 := IntWalk.u32_in _ (by omega)
                    have a1 : IntKind.u32.wrap ((y0 : Int) + (y1 : Int) * 256) = (s1 : Int) := by rw [IntWalk.u32_in _ (by omega)]; omega
                    have a2 : IntKind.u32.wrap ((s1 : Int) + (y2 : Int) * 65536) = (s2 : Int) := by rw [IntWalk.u32_in _ (by omega)]; omega
                    have a3 : IntKind.u32.wrap ((s2 : Int) + (y3 : Int) * 16777216) = (nu : Int) := by rw [IntWalk.u32_in _ (by omega)]; omega
                    have b4 : (f4 : Int) < (f : Int) + 64 := by omega
                    have b5 : (f4 : Int) + 3 < (N : Int) := by have := HLP.out; omega
                    have b51 : (f4 : Int) + 1 < (N : Int) := by omega
                    have b52 : (f4 : Int) + 2 < (N : Int) := by omega
                    have b50 : (f4 : Int) < (N : Int) := by omega
                    have b61 : (0 : Int) ≤ (f4 : Int) + 1 := by omega
                    have b62 : (0 : Int) ≤ (f4 : Int) + 2 := by omega
                    have b63 : (0 : Int) ≤ (f4 : Int) + 3 := by omega
                    have hf4N : f4 + 3 < P.length := hf4
                    have HF4 := hide hf4N
                    clear hf4N
                    have w1 : IntKind.i64.wrap ((f4 : Int) + 1) = (f4 : Int) + 1 := IntWalk.i64_in _ (by omega)
                    have w2 : IntKind.i64.wrap ((f4 : Int) + 2) = (f4 : Int) + 2 := IntWalk.i64_in _ (by omega)
                    have w3 : IntKind.i64.wrap ((f4 : Int) + 3) = (f4 : Int) + 3 := IntWalk.i64_in _ (by omega)
                    have n1 : ((f4 : Int) + 1).toNat = f4 + 1 := by omega
                    have n2 : ((f4 : Int) + 2).toNat = f4 + 2 := by omega
                    have n3 : ((f4 : Int) + 3).toNat = f4 + 3 := by omega
                    have HI := hide (show i + 1 + g5 = 16 ∧ f + 4 * (i + 1) = f4 + 4 ∧ i < 16 from ⟨by omega, by omega, hi16⟩)
                    have HNU := hide enu
                    have EY := hide (And.intro ey0 (And.intro ey1 (And.intro ey2 ey3)))
                    rw [ef4]
                    clear ey0 ey1 ey2 ey3 enu hnu es1 es2 hf4 R8 hig hi16 ef4 ly0 ly1 ly2 ly3
                    go_wp2_with fail
                    refine wp_region_ord (fun w9 => w9.cell? ⟨g8, f4, none⟩ = some (.int .u8 (y0 : Int)) ∧ w9.cell? ⟨g8, f4 + 1, none⟩ = some (.int .u8 (y1 : Int)) ∧ w9.cell? ⟨g8, f4 + 2, none⟩ = some (.int .u8 (y2 : Int)) ∧ w9.cell? ⟨g8, f4 + 3, none⟩ = some (.int .u8 (y3 : Int))) 32 [(0, some true), (1, some true), (2, some true), (3, some true), (4, some false), (5, some true), (6, some true), (7, some true), (8, some true), (9, some true), (10, some false), (11, some true), (12, some true), (13, some true), (14, some true), (15, some true), (16, some true), (17, some true), (18, some false), (19, some true), (20, some true), (21, some true), (22, some true), (23, some true), (24, some true), (25, some true), (26, some false), (27, some true), (28, some true), (29, some true), (30, none), (31, none), (32, none)] (by kernel_rfl) (by kernel_rfl) (fun _ _ _ _ h => h) ⟨hy0, hy1, hy2, hy3⟩ ?_
                    refine ord_pure (o := ⟨some 93, _, _, _, _, _⟩) (.slice am i cm) rfl (by kernel_rfl) (fun w9 => by go_simp) ?_
                    simp only [Act.put, List.setIfInBounds_toArray, List.set_cons_zero, List.set_cons_succ]
                    refine ord_pure (o := ⟨some 94, _, _, _, _, _⟩) (.slice (some ⟨g8, 0, none⟩) N cp) rfl (by kernel_rfl) (fun w9 => by go_simp) ?_
                    simp only [Act.put, List.setIfInBounds_toArray, List.set_cons_zero, List.set_cons_succ]
                    refine ord_pure (o := ⟨some 95, _, _, _, _, _⟩) (.int .i64 (f4 : Int)) rfl (by kernel_rfl) (fun w9 => by go_simp) ?_
                    simp only [Act.put, List.setIfInBounds_toArray, List.set_cons_zero, List.set_cons_succ]
                    refine ord_pure (o := ⟨some 96, _, _, _, _, _⟩) (.pointer (some ⟨g8, f4, none⟩)) rfl (by kernel_rfl) (fun w9 => by go_simp) ?_
                    simp only [Act.put, List.setIfInBounds_toArray, List.set_cons_zero, List.set_cons_succ]
                    refine ord_held (o := ⟨some 97, _, _, _, _, _⟩) (.int .u8 (y0 : Int)) rfl (by kernel_rfl) (fun w9 h9 => by have h8 := h9.1; go_simp) ?_
                    simp only [Act.put, List.setIfInBounds_toArray, List.set_cons_zero, List.set_cons_succ]
                    refine ord_pure (o := ⟨some 98, _, _, _, _, _⟩) (.int .u32 (y0 : Int)) rfl (by kernel_rfl) (fun w9 => by go_simp) ?_
                    simp only [Act.put, List.setIfInBounds_toArray, List.set_cons_zero, List.set_cons_succ]
                    refine ord_pure (o := ⟨some 99, _, _, _, _, _⟩) (.slice (some ⟨g8, 0, none⟩) N cp) rfl (by kernel_rfl) (fun w9 => by go_simp) ?_
                    simp only [Act.put, List.setIfInBounds_toArray, List.set_cons_zero, List.set_cons_succ]
                    refine ord_pure (o := ⟨some 100, _, _, _, _, _⟩) (.int .i64 (f4 : Int)) rfl (by kernel_rfl) (fun w9 => by go_simp) ?_
                    simp only [Act.put, List.setIfInBounds_toArray, List.set_cons_zero, List.set_cons_succ]
                    refine ord_pure (o := ⟨some 101, _, _, _, _, _⟩) (.int .i64 ((f4 : Int) + 1)) rfl (by kernel_rfl) (fun w9 => by go_simp) ?_
                    simp only [Act.put, List.setIfInBounds_toArray, List.set_cons_zero, List.set_cons_succ]
                    refine ord_pure (o := ⟨some 102, _, _, _, _, _⟩) (.pointer (some ⟨g8, f4 + 1, none⟩)) rfl (by kernel_rfl) (fun w9 => by go_simp) ?_
                    simp only [Act.put, List.setIfInBounds_toArray, List.set_cons_zero, List.set_cons_succ]
                    refine ord_held (o := ⟨some 103, _, _, _, _, _⟩) (.int .u8 (y1 : Int)) rfl (by kernel_rfl) (fun w9 h9 => by have h8 := h9.2.1; go_simp) ?_
                    simp only [Act.put, List.setIfInBounds_toArray, List.set_cons_zero, List.set_cons_succ]
                    refine ord_pure (o := ⟨some 104, _, _, _, _, _⟩) (.int .u32 (y1 : Int)) rfl (by kernel_rfl) (fun w9 => by go_simp) ?_
                    simp only [Act.put, List.setIfInBounds_toArray, List.set_cons_zero, List.set_cons_succ]
                    refine ord_pure (o := ⟨some 105, _, _, _, _, _⟩) (.int .u32 ((y1 : Int) * 256)) rfl (by kernel_rfl) (fun w9 => by go_simp) ?_
                    simp only [Act.put, List.setIfInBounds_toArray, List.set_cons_zero, List.set_cons_succ]
                    refine ord_pure (o := ⟨some 106, _, _, _, _, _⟩) (.int .u32 (s1 : Int)) rfl (by kernel_rfl) (fun w9 => by go_simp) ?_
                    simp only [Act.put, List.setIfInBounds_toArray, List.set_cons_zero, List.set_cons_succ]
                    refine ord_pure (o := ⟨some 107, _, _, _, _, _⟩) (.slice (some ⟨g8, 0, none⟩) N cp) rfl (by kernel_rfl) (fun w9 => by go_simp) ?_
                    simp only [Act.put, List.setIfInBounds_toArray, List.set_cons_zero, List.set_cons_succ]
                    refine ord_pure (o := ⟨some 108, _, _, _, _, _⟩) (.int .i64 (f4 : Int)) rfl (by kernel_rfl) (fun w9 => by go_simp) ?_
                    simp only [Act.put, List.setIfInBounds_toArray, List.set_cons_zero, List.set_cons_succ]
                    refine ord_pure (o := ⟨some 109, _, _, _, _, _⟩) (.int .i64 ((f4 : Int) + 2)) rfl (by kernel_rfl) (fun w9 => by go_simp) ?_
                    simp only [Act.put, List.setIfInBounds_toArray, List.set_cons_zero, List.set_cons_succ]
                    refine ord_pure (o := ⟨some 110, _, _, _, _, _⟩) (.pointer (some ⟨g8, f4 + 2, none⟩)) rfl (by kernel_rfl) (fun w9 => by go_simp) ?_
                    simp only [Act.put, List.setIfInBounds_toArray, List.set_cons_zero, List.set_cons_succ]
                    refine ord_held (o := ⟨some 111, _, _, _, _, _⟩) (.int .u8 (y2 : Int)) rfl (by kernel_rfl) (fun w9 h9 => by have h8 := h9.2.2.1; go_simp) ?_
                    simp only [Act.put, List.setIfInBounds_toArray, List.set_cons_zero, List.set_cons_succ]
                    refine ord_pure (o := ⟨some 112, _, _, _, _, _⟩) (.int .u32 (y2 : Int)) rfl (by kernel_rfl) (fun w9 => by go_simp) ?_
                    simp only [Act.put, List.setIfInBounds_toArray, List.set_cons_zero, List.set_cons_succ]
                    refine ord_pure (o := ⟨some 113, _, _, _, _, _⟩) (.int .u32 ((y2 : Int) * 65536)) rfl (by kernel_rfl) (fun w9 => by go_simp) ?_
                    simp only [Act.put, List.setIfInBounds_toArray, List.set_cons_zero, List.set_cons_succ]
                    refine ord_pure (o := ⟨some 114, _, _, _, _, _⟩) (.int .u32 (s2 : Int)) rfl (by kernel_rfl) (fun w9 => by go_simp) ?_
                    simp only [Act.put, List.setIfInBounds_toArray, List.set_cons_zero, List.set_cons_succ]
                    refine ord_pure (o := ⟨some 115, _, _, _, _, _⟩) (.slice (some ⟨g8, 0, none⟩) N cp) rfl (by kernel_rfl) (fun w9 => by go_simp) ?_
                    simp only [Act.put, List.setIfInBounds_toArray, List.set_cons_zero, List.set_cons_succ]
                    refine ord_pure (o := ⟨some 116, _, _, _, _, _⟩) (.int .i64 (f4 : Int)) rfl (by kernel_rfl) (fun w9 => by go_simp) ?_
                    simp only [Act.put, List.setIfInBounds_toArray, List.set_cons_zero, List.set_cons_succ]
                    refine ord_pure (o := ⟨some 117, _, _, _, _, _⟩) (.int .i64 ((f4 : Int) + 3)) rfl (by kernel_rfl) (fun w9 => by go_simp) ?_
                    simp only [Act.put, List.setIfInBounds_toArray, List.set_cons_zero, List.set_cons_succ]
                    refine ord_pure (o := ⟨some 118, _, _, _, _, _⟩) (.pointer (some ⟨g8, f4 + 3, none⟩)) rfl (by kernel_rfl) (fun w9 => by go_simp) ?_
                    simp only [Act.put, List.setIfInBounds_toArray, List.set_cons_zero, List.set_cons_succ]
                    refine ord_held (o := ⟨some 119, _, _, _, _, _⟩) (.int .u8 (y3 : Int)) rfl (by kernel_rfl) (fun w9 h9 => by have h8 := h9.2.2.2; go_simp) ?_
                    simp only [Act.put, List.setIfInBounds_toArray, List.set_cons_zero, List.set_cons_succ]
                    refine ord_pure (o := ⟨some 120, _, _, _, _, _⟩) (.int .u32 (y3 : Int)) rfl (by kernel_rfl) (fun w9 => by go_simp) ?_
                    simp only [Act.put, List.setIfInBounds_toArray, List.set_cons_zero, List.set_cons_succ]
                    refine ord_pure (o := ⟨some 121, _, _, _, _, _⟩) (.int .u32 ((y3 : Int) * 16777216)) rfl (by kernel_rfl) (fun w9 => by go_simp) ?_
                    simp only [Act.put, List.setIfInBounds_toArray, List.set_cons_zero, List.set_cons_succ]
                    refine ord_pure (o := ⟨some 122, _, _, _, _, _⟩) (.int .u32 (nu : Int)) rfl (by kernel_rfl) (fun w9 => by go_simp) ?_
                    simp only [Act.put, List.setIfInBounds_toArray, List.set_cons_zero, List.set_cons_succ]
                    have cellsOf : ∀ w9 : World, Row w9 g8 0 (bs P) → w9.cell? ⟨g8, f4, none⟩ = some (.int .u8 (y0 : Int)) ∧ w9.cell? ⟨g8, f4 + 1, none⟩ = some (.int .u8 (y1 : Int)) ∧ w9.cell? ⟨g8, f4 + 2, none⟩ = some (.int .u8 (y2 : Int)) ∧ w9.cell? ⟨g8, f4 + 3, none⟩ = some (.int .u8 (y3 : Int)) := fun w9 R9 =>
                      ⟨by have h9 := R9.y0 f4 (by have := HF4.out; omega); rw [EY.out.1] at h9; exact h9, by have h9 := R9.y0 (f4 + 1) (by have := HF4.out; omega); rw [EY.out.2.1] at h9; exact h9, by have h9 := R9.y0 (f4 + 2) (by have := HF4.out; omega); rw [EY.out.2.2.1] at h9; exact h9, by have h9 := R9.y0 (f4 + 3) (by have := HF4.out; omega); rw [EY.out.2.2.2] at h9; exact h9⟩
                    have HCO := hide cellsOf
                    clear cellsOf
                    refine ord_go rfl (fun K9 hK => ?_)
                    go_simp
                    refine hK.out _ _ (fun _ => HCO.out _ ((HR8.out.below HBL.out (by have := hl8; omega)).alloc (.cells #[.int .u32 ((nu : Nat) : Int)] 54)).drew) ?_
                    clear hK K9
                    have hsz9 : wb.heap.size ≤ wr.heap.size := HBL.out.size
                    refine ord_appendO (o := ⟨some 124, _, _, _, _, _⟩) rfl rfl (.tmp 93) (.tmp 123) 65 65 rfl 54 Try.underlying65 infoU (by decide) rfl rfl rfl (HO.out.keep ((Below.refl _ wr).alloc (Nat.le_refl _) (.cells #[.int .u32 ((nu : Nat) : Int)] 54))).drew ((Row.newL wr [.int .u32 ((nu : Nat) : Int)] 54).drew.src (n := 1) (cap := 1) rfl Try.underlying65 (fun u hu => by simp at hu; subst hu; rfl)) (by have := HI.out.2.2; omega) (Nat.le_trans hsz9 (by simp)) (fun u hu => us_one hu) ?_
                    intro v9 w9 hO9 hB9
                    have HO9 := hide hO9
                    have HB9 := hide ((HBL.out.alloc hsz9 _).drew.trans hB9)
                    have R9 := HR8.out.below HB9.out (by have := hl8; omega)
                    refine ⟨fun _ => HCO.out _ R9, ?_⟩
                    clear hO9 hB9 hsz9 R9
                    simp only [Act.put, List.setIfInBounds_toArray, List.set_cons_zero, List.set_cons_succ]
                    refine ord_go rfl (fun K9 hK => ?_)
                    go_simp
                    refine hK.out _ _ (fun h => by cases h) ?_
                    clear hK K9
                    refine ord_end ?_
                    go_wp2_with fail
                    go_roundg g5
                    case measure => omega
                    case rel => exact ⟨i + 1, HI.out.1, by rw [HI.out.2.1]; go_num, by rw [us_tab_succ, HNU.out]; exact HO9.out, HB9.out⟩
                  · obtain rfl : i = 16 := by omega
                    obtain ⟨gm, cm', hvm, hgm, hcm', hRm⟩ := HO.out.row (by decide)
                    obtain ⟨rfl, rfl⟩ : am = some ⟨gm, 0, none⟩ ∧ cm = cm' := by simpa using hvm
                    have eMM : tab 16 (num (P.drop f)) = M := HEM.out
                    rw [eMM] at hRm
                    have hmlt := hRm.lt
                    have HRm := hide hRm
                    have R6 := HR6.out.below HBL.out g6l
                    have R7 := HR7.out.below HBL.out g7l
                    have hH16 : (us H).length = 8 := by rw [us_length]; exact nH
                    have HR6m := hide R6
                    have HR7m := hide R7
                    have hml : HML.out = HML.out := rfl
                    clear hvm HO hRm R6 R7 hig hi16 eMM hml
                    obtain ⟨wm, ewm⟩ : ∃ v, v = wr := ⟨_, rfl⟩
                    subst ewm
                    have cmI : (16 : Int) ≤ (cm : Int) := by omega
                    go_wp2_with (first
                      | (refine wpList_appendO rfl (.tmp 125) (.tmp 126) 65 65 rfl 54 Try.underlying65 infoU (by decide) rfl rfl rfl (Ow.made wm wm.heap.size (Nat.le_refl _) [] 54) ((HR7m.out.alloc _).src (n := 8) (cap := c7) hH16 Try.underlying65 (fun u hu => us_one hu)) (by decide) (by simp) (fun u hu => by cases hu) ?_
                         intro v1 x1 hO1 hB1
                         rw [List.nil_append] at hO1
                         have HO1 := hide hO1
                         have HB1x := hide (((Below.refl wm.heap.size wm).alloc (Nat.le_refl _) _).trans hB1)
                         clear hO1 hB1)
                      | (refine wpList_appendO rfl (.tmp 127) (.tmp 128) 65 65 rfl 54 Try.underlying65 infoU (by decide) rfl rfl rfl HO1.out ((HR6m.out.below HB1x.out (by have := HBL.out.size; omega)).src (n := 8) (cap := c6) rfl Try.underlying65 (fun u hu => us_one hu)) (by decide) HB1x.out.size (fun u hu => us_one hu) ?_
                         intro v2 x2 hO2 hB2
                         rw [← us_app] at hO2
                         obtain ⟨gv, cv, rfl, hgv, hcv, hRv⟩ := hO2.row (by decide)
                         have hvlt := hRv.lt
                         have lHI : (H ++ iv).length = 16 := by rw [List.length_append, nH, iv_length]
                         have hv12 : x2.cell? ⟨gv, 12, none⟩ = some (.int .u32 1359893119) := by have h9 := hRv.u0 12 (by rw [lHI]; decide); rw [at_app, nH] at h9; exact h9
                         have hv13 : x2.cell? ⟨gv, 13, none⟩ = some (.int .u32 2600822924) := by have h9 := hRv.u0 13 (by rw [lHI]; decide); rw [at_app, nH] at h9; exact h9
                         have hv14 : x2.cell? ⟨gv, 14, none⟩ = some (.int .u32 528734635) := by have h9 := hRv.u0 14 (by rw [lHI]; decide); rw [at_app, nH] at h9; exact h9
                         have hf12 := hRv.f0 12 (by rw [us_length, lHI]; decide)
                         have hf13 := hRv.f0 13 (by rw [us_length, lHI]; decide)
                         have hf14 := hRv.f0 14 (by rw [us_length, lHI]; decide)
                         obtain ⟨y1, hy1, hRy1⟩ : ∃ W, x2.setCell ⟨gv, 12, none⟩ (.int .u32 (b12 : Int)) = W ∧ Row W gv 0 (us ((H ++ iv).set 12 b12)) := ⟨_, rfl, by rw [us_set]; exact hRv.set0 (by rw [us_length, lHI]; decide) _⟩
                         have hw13 : y1.cell? ⟨gv, 13, none⟩ = some (.int .u32 2600822924) := by have h9 := hRy1.u0 13 (by rw [List.length_set, lHI]; decide); rw [at_set _ _ _ _ (by rw [lHI]; decide), if_neg (by decide), at_app, nH] at h9; exact h9
                         have hg13 := hRy1.f0 13 (by rw [us_length, List.length_set, lHI]; decide)
                         obtain ⟨y2, hy2, hRy2⟩ : ∃ W, y1.setCell ⟨gv, 13, none⟩ (.int .u32 (b13 : Int)) = W ∧ Row W gv 0 (us (((H ++ iv).set 12 b12).set 13 b13)) := ⟨_, rfl, by rw [us_set]; exact hRy1.set0 (by rw [us_length, List.length_set, lHI]; decide) _⟩
                         have hB2y : Below wm.heap.size wm y2 := by rw [← hy2, ← hy1]; exact ((HB1x.out.trans (hB2.mono (Nat.le_refl _))).setCell (show wm.heap.size ≤ gv from hgv) _).setCell (show wm.heap.size ≤ gv from hgv) _
                         have hw14 : y2.cell? ⟨gv, 14, none⟩ = some (.int .u32 528734635) := by have h9 := hRy2.u0 14 (by rw [List.length_set, List.length_set, lHI]; decide); rw [at_set _ _ _ _ (by rw [List.length_set, lHI]; decide), if_neg (by decide), at_set _ _ _ _ (by rw [lHI]; decide), if_neg (by decide), at_app, nH] at h9; exact h9
                         have hg14 := hRy2.f0 14 (by rw [us_length, List.length_set, List.length_set, lHI]; decide)
                         obtain ⟨y3, hy3, hRy3⟩ : ∃ W, y2.setCell ⟨gv, 14, none⟩ (.int .u32 (b14 : Int)) = W ∧ Row W gv 0 (us ((((H ++ iv).set 12 b12).set 13 b13).set 14 b14)) := ⟨_, rfl, by rw [us_set]; exact hRy2.set0 (by rw [us_length, List.length_set, List.length_set, lHI]; decide) _⟩
                         have HBY := hide (show Below wm.heap.size wm y3 by rw [← hy3]; exact hB2y.setCell (show wm.heap.size ≤ gv from hgv) _)
                         have HRV : Hid (Row y3 gv 0 (us (ini H G true))) := by rw [← ini_yes H G nH, HXX.out.1, HXX.out.2.1, HXX.out.2.2]; exact hRy3
                         clear hRy3
                         clear hO2 hB2 HO1 HB1x hRv lHI hRy1 hRy2 hB2y))
                    refine (rfplaces_any _).mono ?_
                    rintro e z0 ⟨rfl, hRp, hBp⟩
                    obtain ⟨gl, egl⟩ : ∃ gl, y3.heap.size = gl := ⟨_, rfl⟩
                    rw [egl] at hRp ⊢
                    have hlv : gv < gl := by rw [← egl]; exact HRV.out.lt
                    have hmv : gm ≠ gv := by omega
                    have hvl : gl ≠ gv := by omega
                    have h7v : g7 ≠ gv := by have := HBL.out.size; omega
                    have h6v : g6 ≠ gv := by have := HBL.out.size; omega
                    have h8v : g8 ≠ gv := by have := HBL.out.size; omega
                    have hBz := HBY.out.trans (hBp.mono HBY.out.size)
                    have HMS := hide (HRm.out.below hBz hmlt)
                    have HR6z := hide (HR6m.out.below hBz (by have := HBL.out.size; omega))
                    have HR7z := hide (HR7m.out.below hBz (by have := HBL.out.size; omega))
                    have HR8z := hide ((HR8.out.below HBL.out (by have := hl8; omega)).below hBz (by have := HBL.out.size; have := hl8; omega))
                    have HRP := hide hRp
                    have HRVz := hide (HRV.out.below hBp HRV.out.lt)
                    have HBz := hide ((HB.out.trans (HBL.out.mono HB.out.size)).trans (hBz.mono ((HB.out.trans (HBL.out.mono HB.out.size)).size)))
                    obtain ⟨V0, eV0⟩ : ∃ Z, ini H G true = Z := ⟨_, rfl⟩
                    have hV0l : V0.length = 16 := by rw [← eV0]; exact ini_length _ _ _
                    have hV0t : Lt V0 := by rw [← eV0]; exact ini_lt HLH.out _ _
                    rw [eV0] at HRVz
                    have HV0 := hide (And.intro eV0 (And.intro hV0l hV0t))
                    obtain ⟨wz, ewz⟩ : ∃ v, v = z0 := ⟨_, rfl⟩
                    subst ewz
                    have cvI : (16 : Int) ≤ (cv : Int) := by omega
                    clear hRp hBp hBz eV0 hV0l hV0t HRm HR6m HR7m HBL HRV HBY egl
                    go_wp2_with fail
                    go_loopg [17, 18] 10 (fun g tt _ wr => ∃ r : Nat, r + g = 10 ∧ tt = .int .i64 r ∧ Row wr gv 0 (us (rds M V0 r)) ∧ Bt gv wz wr)
                    case atStart => exact ⟨0, rfl, rfl, HRVz.out, Bt.refl _ _⟩
                    case round =>
                      as_aux_lemma =>
                      clear HRVz
                      obtain ⟨r, hrg, rfl, hRV, hBt⟩ := hrel
                      have HBt := hide hBt
                      by_cases hr10 : r < 10
                      · obtain ⟨g5, rfl⟩ : ∃ g5, gk = g5 + 1 := ⟨gk - 1, by omega⟩
                        have hr10I : (r : Int) < 10 := by omega
                        obtain ⟨V, eV⟩ : ∃ Z, rds M V0 r = Z := ⟨_, rfl⟩
                        rw [eV] at hRV
                        have HV := hide hRV
                        have HVL0 : Hid (V.length = 16) := by rw [← eV, rds_length]; exact HV0.out.2.1
                        have HVT0 : Hid (Lt V) := by rw [← eV]; exact rds_lt HV0.out.2.2 _
                        have HEV := hide eV
                        obtain ⟨p, ep⟩ : ∃ p, pstr r = p := ⟨_, rfl⟩
                        have hcp : wr.cell? ⟨gl, r, none⟩ = some (.string p) := by
                          have h9 := (HRP.out.bt HBt.out hvl).cell r (.string p) (by rw [← ep]; simp [pstrs, hr10])
                          simpa using h9
                        obtain ⟨d0, ed0⟩ : ∃ d, at' rows (16 * r + 0) = d := ⟨_, rfl⟩
                        have e0 : Hid (d0 < 16) := by rw [← ed0]; exact rows_lt (by omega)
                        have P0 : Hid (∀ w, (Instr.index 9 (.string p) (.int .i64 0)).run Try.prog w = .ok (.int .u8 ((dch d0 : Nat) : Int)) w) := by rw [← ed0, ← ep]; exact fun w => pstr_idx r 0 (by decide) w
                        have D0 := hide ed0
                        clear ed0
                        obtain ⟨d1, ed1⟩ : ∃ d, at' rows (16 * r + 1) = d := ⟨_, rfl⟩
                        have e1 : Hid (d1 < 16) := by rw [← ed1]; exact rows_lt (by omega)
                        have P1 : Hid (∀ w, (Instr.index 9 (.string p) (.int .i64 1)).run Try.prog w = .ok (.int .u8 ((dch d1 : Nat) : Int)) w) := by rw [← ed1, ← ep]; exact fun w => pstr_idx r 1 (by decide) w
                        have D1 := hide ed1
                        clear ed1
                        obtain ⟨d2, ed2⟩ : ∃ d, at' rows (16 * r + 2) = d := ⟨_, rfl⟩
                        have e2 : Hid (d2 < 16) := by rw [← ed2]; exact rows_lt (by omega)
                        have P2 : Hid (∀ w, (Instr.index 9 (.string p) (.int .i64 2)).run Try.prog w = .ok (.int .u8 ((dch d2 : Nat) : Int)) w) := by rw [← ed2, ← ep]; exact fun w => pstr_idx r 2 (by decide) w
                        have D2 := hide ed2
                        clear ed2
                        obtain ⟨d3, ed3⟩ : ∃ d, at' rows (16 * r + 3) = d := ⟨_, rfl⟩
                        have e3 : Hid (d3 < 16) := by rw [← ed3]; exact rows_lt (by omega)
                        have P3 : Hid (∀ w, (Instr.index 9 (.string p) (.int .i64 3)).run Try.prog w = .ok (.int .u8 ((dch d3 : Nat) : Int)) w) := by rw [← ed3, ← ep]; exact fun w => pstr_idx r 3 (by decide) w
                        have D3 := hide ed3
                        clear ed3
                        obtain ⟨d4, ed4⟩ : ∃ d, at' rows (16 * r + 4) = d := ⟨_, rfl⟩
                        have e4 : Hid (d4 < 16) := by rw [← ed4]; exact rows_lt (by omega)
                        have P4 : Hid (∀ w, (Instr.index 9 (.string p) (.int .i64 4)).run Try.prog w = .ok (.int .u8 ((dch d4 : Nat) : Int)) w) := by rw [← ed4, ← ep]; exact fun w => pstr_idx r 4 (by decide) w
                        have D4 := hide ed4
                        clear ed4
                        obtain ⟨d5, ed5⟩ : ∃ d, at' rows (16 * r + 5) = d := ⟨_, rfl⟩
                        have e5 : Hid (d5 < 16) := by rw [← ed5]; exact rows_lt (by omega)
                        have P5 : Hid (∀ w, (Instr.index 9 (.string p) (.int .i64 5)).run Try.prog w = .ok (.int .u8 ((dch d5 : Nat) : Int)) w) := by rw [← ed5, ← ep]; exact fun w => pstr_idx r 5 (by decide) w
                        have D5 := hide ed5
                        clear ed5
                        obtain ⟨d6, ed6⟩ : ∃ d, at' rows (16 * r + 6) = d := ⟨_, rfl⟩
                        have e6 : Hid (d6 < 16) := by rw [← ed6]; exact rows_lt (by omega)
                        have P6 : Hid (∀ w, (Instr.index 9 (.string p) (.int .i64 6)).run Try.prog w = .ok (.int .u8 ((dch d6 : Nat) : Int)) w) := by rw [← ed6, ← ep]; exact fun w => pstr_idx r 6 (by decide) w
                        have D6 := hide ed6
                        clear ed6
                        obtain ⟨d7, ed7⟩ : ∃ d, at' rows (16 * r + 7) = d := ⟨_, rfl⟩
                        have e7 : Hid (d7 < 16) := by rw [← ed7]; exact rows_lt (by omega)
                        have P7 : Hid (∀ w, (Instr.index 9 (.string p) (.int .i64 7)).run Try.prog w = .ok (.int .u8 ((dch d7 : Nat) : Int)) w) := by rw [← ed7, ← ep]; exact fun w => pstr_idx r 7 (by decide) w
                        have D7 := hide ed7
                        clear ed7
                        obtain ⟨d8, ed8⟩ : ∃ d, at' rows (16 * r + 8) = d := ⟨_, rfl⟩
                        have e8 : Hid (d8 < 16) := by rw [← ed8]; exact rows_lt (by omega)
                        have P8 : Hid (∀ w, (Instr.index 9 (.string p) (.int .i64 8)).run Try.prog w = .ok (.int .u8 ((dch d8 : Nat) : Int)) w) := by rw [← ed8, ← ep]; exact fun w => pstr_idx r 8 (by decide) w
                        have D8 := hide ed8
                        clear ed8
                        obtain ⟨d9, ed9⟩ : ∃ d, at' rows (16 * r + 9) = d := ⟨_, rfl⟩
                        have e9 : Hid (d9 < 16) := by rw [← ed9]; exact rows_lt (by omega)
                        have P9 : Hid (∀ w, (Instr.index 9 (.string p) (.int .i64 9)).run Try.prog w = .ok (.int .u8 ((dch d9 : Nat) : Int)) w) := by rw [← ed9, ← ep]; exact fun w => pstr_idx r 9 (by decide) w
                        have D9 := hide ed9
                        clear ed9
                        obtain ⟨d10, ed10⟩ : ∃ d, at' rows (16 * r + 10) = d := ⟨_, rfl⟩
                        have e10 : Hid (d10 < 16) := by rw [← ed10]; exact rows_lt (by omega)
                        have P10 : Hid (∀ w, (Instr.index 9 (.string p) (.int .i64 10)).run Try.prog w = .ok (.int .u8 ((dch d10 : Nat) : Int)) w) := by rw [← ed10, ← ep]; exact fun w => pstr_idx r 10 (by decide) w
                        have D10 := hide ed10
                        clear ed10
                        obtain ⟨d11, ed11⟩ : ∃ d, at' rows (16 * r + 11) = d := ⟨_, rfl⟩
                        have e11 : Hid (d11 < 16) := by rw [← ed11]; exact rows_lt (by omega)
                        have P11 : Hid (∀ w, (Instr.index 9 (.string p) (.int .i64 11)).run Try.prog w = .ok (.int .u8 ((dch d11 : Nat) : Int)) w) := by rw [← ed11, ← ep]; exact fun w => pstr_idx r 11 (by decide) w
                        have D11 := hide ed11
                        clear ed11
                        obtain ⟨d12, ed12⟩ : ∃ d, at' rows (16 * r + 12) = d := ⟨_, rfl⟩
                        have e12 : Hid (d12 < 16) := by rw [← ed12]; exact rows_lt (by omega)
                        have P12 : Hid (∀ w, (Instr.index 9 (.string p) (.int .i64 12)).run Try.prog w = .ok (.int .u8 ((dch d12 : Nat) : Int)) w) := by rw [← ed12, ← ep]; exact fun w => pstr_idx r 12 (by decide) w
                        have D12 := hide ed12
                        clear ed12
                        obtain ⟨d13, ed13⟩ : ∃ d, at' rows (16 * r + 13) = d := ⟨_, rfl⟩
                        have e13 : Hid (d13 < 16) := by rw [← ed13]; exact rows_lt (by omega)
                        have P13 : Hid (∀ w, (Instr.index 9 (.string p) (.int .i64 13)).run Try.prog w = .ok (.int .u8 ((dch d13 : Nat) : Int)) w) := by rw [← ed13, ← ep]; exact fun w => pstr_idx r 13 (by decide) w
                        have D13 := hide ed13
                        clear ed13
                        obtain ⟨d14, ed14⟩ : ∃ d, at' rows (16 * r + 14) = d := ⟨_, rfl⟩
                        have e14 : Hid (d14 < 16) := by rw [← ed14]; exact rows_lt (by omega)
                        have P14 : Hid (∀ w, (Instr.index 9 (.string p) (.int .i64 14)).run Try.prog w = .ok (.int .u8 ((dch d14 : Nat) : Int)) w) := by rw [← ed14, ← ep]; exact fun w => pstr_idx r 14 (by decide) w
                        have D14 := hide ed14
                        clear ed14
                        obtain ⟨d15, ed15⟩ : ∃ d, at' rows (16 * r + 15) = d := ⟨_, rfl⟩
                        have e15 : Hid (d15 < 16) := by rw [← ed15]; exact rows_lt (by omega)
                        have P15 : Hid (∀ w, (Instr.index 9 (.string p) (.int .i64 15)).run Try.prog w = .ok (.int .u8 ((dch d15 : Nat) : Int)) w) := by rw [← ed15, ← ep]; exact fun w => pstr_idx r 15 (by decide) w
                        have D15 := hide ed15
                        clear ed15
                        have HG5 := hide (show r + 1 + g5 = 10 by omega)
                        clear hRV hBt eV ep hrg hr10
                        go_wp2_with fail
                        have hm0 := (HMS.out.bt (b := gm) HBt.out (by omega)).u0 d0 (by rw [HML.out]; exact e0.out)
                        have hm1 := (HMS.out.bt (b := gm) HBt.out (by omega)).u0 d1 (by rw [HML.out]; exact e1.out)
                        obtain ⟨X, eX⟩ : ∃ X, at' M d0 = X := ⟨_, rfl⟩
                        obtain ⟨Y, eY⟩ : ∃ Y, at' M d1 = Y := ⟨_, rfl⟩
                        rw [eX] at hm0
                        rw [eY] at hm1
                        have hX0 := hide eX
                        have hY0 := hide eY
                        have p0 := P0.out
                        have p1 := P1.out
                        have l0 := e0.out
                        have l1 := e1.out
                        have l0I : (d0 : Int) < 16 := by omega
                        have l1I : (d1 : Int) < 16 := by omega
                        clear eX eY
                        go_wp2_with fail
                        refine region_tail 13 (by kernel_rfl) (by kernel_rfl) ?_
                        simp only [List.take_succ_cons, List.take_zero, List.drop_succ_cons, List.drop_zero]
                        repeat still_step
                        still_call (place_any d0 _ l0)
                        repeat still_step
                        still_call (place_any d1 _ l1)
                        repeat still_step
                        refine wpStill_nil ?_
                        go_wp2_with fail
                        refine (rfmix_any 0 4 8 12 X Y HV.out.drew (by have := HVL0.out; exact this) HVT0.out (by decide) (by decide) (by decide) (by decide) (by decide) (by decide) (by decide) (by decide) (by decide) (by decide)).mono ?_
                        rintro e z1 ⟨rfl, hRz, hBz⟩
                        obtain ⟨V1, eV1⟩ : ∃ Z, mx V 0 4 8 12 X Y = Z := ⟨_, rfl⟩
                        rw [eV1] at hRz
                        have HV1 := hide hRz
                        have HBt1 := hide (HBt.out.drew.trans hBz)
                        have HVL1 : Hid (V1.length = 16) := by rw [← eV1, mx_length]; exact HVL0.out
                        have HVT1 : Hid (Lt V1) := by rw [← eV1]; exact mx_lt HVT0.out _ _ _ _ _ _
                        have EV1 := hide eV1
                        clear hRz hBz eV1 HV HBt HVL0 HVT0 hm0 hm1 p0 p1 l0 l1 l0I l1I
                        as_aux_lemma =>
                          have hm0 := (HMS.out.bt (b := gm) HBt1.out (by omega)).u0 d2 (by rw [HML.out]; exact e2.out)
                          have hm1 := (HMS.out.bt (b := gm) HBt1.out (by omega)).u0 d3 (by rw [HML.out]; exact e3.out)
                          obtain ⟨X, eX⟩ : ∃ X, at' M d2 = X := ⟨_, rfl⟩
                          obtain ⟨Y, eY⟩ : ∃ Y, at' M d3 = Y := ⟨_, rfl⟩
                          rw [eX] at hm0
                          rw [eY] at hm1
                          have hX1 := hide eX
                          have hY1 := hide eY
                          have p0 := P2.out
                          have p1 := P3.out
                          have l0 := e2.out
                          have l1 := e3.out
                          have l0I : (d2 : Int) < 16 := by omega
                          have l1I : (d3 : Int) < 16 := by omega
                          clear eX eY
                          go_wp2_with fail
                          refine region_tail 13 (by kernel_rfl) (by kernel_rfl) ?_
                          simp only [List.take_succ_cons, List.take_zero, List.drop_succ_cons, List.drop_zero]
                          repeat still_step
                          still_call (place_any d2 _ l0)
                          repeat still_step
                          still_call (place_any d3 _ l1)
                          repeat still_step
                          refine wpStill_nil ?_
                          go_wp2_with fail
                          refine (rfmix_any 1 5 9 13 X Y HV1.out.drew (by have := HVL1.out; exact this) HVT1.out (by decide) (by decide) (by decide) (by decide) (by decide) (by decide) (by decide) (by decide) (by decide) (by decide)).mono ?_
                          rintro e z2 ⟨rfl, hRz, hBz⟩
                          obtain ⟨V2, eV2⟩ : ∃ Z, mx V1 1 5 9 13 X Y = Z := ⟨_, rfl⟩
                          rw [eV2] at hRz
                          have HV2 := hide hRz
                          have HBt2 := hide (HBt1.out.drew.trans hBz)
                          have HVL2 : Hid (V2.length = 16) := by rw [← eV2, mx_length]; exact HVL1.out
                          have HVT2 : Hid (Lt V2) := by rw [← eV2]; exact mx_lt HVT1.out _ _ _ _ _ _
                          have EV2 := hide eV2
                          clear hRz hBz eV2 HV1 HBt1 HVL1 HVT1 hm0 hm1 p0 p1 l0 l1 l0I l1I
                          as_aux_lemma =>
                            have hm0 := (HMS.out.bt (b := gm) HBt2.out (by omega)).u0 d4 (by rw [HML.out]; exact e4.out)
                            have hm1 := (HMS.out.bt (b := gm) HBt2.out (by omega)).u0 d5 (by rw [HML.out]; exact e5.out)
                            obtain ⟨X, eX⟩ : ∃ X, at' M d4 = X := ⟨_, rfl⟩
                            obtain ⟨Y, eY⟩ : ∃ Y, at' M d5 = Y := ⟨_, rfl⟩
                            rw [eX] at hm0
                            rw [eY] at hm1
                            have hX2 := hide eX
                            have hY2 := hide eY
                            have p0 := P4.out
                            have p1 := P5.out
                            have l0 := e4.out
                            have l1 := e5.out
                            have l0I : (d4 : Int) < 16 := by omega
                            have l1I : (d5 : Int) < 16 := by omega
                            clear eX eY
                            go_wp2_with fail
                            refine region_tail 13 (by kernel_rfl) (by kernel_rfl) ?_
                            simp only [List.take_succ_cons, List.take_zero, List.drop_succ_cons, List.drop_zero]
                            repeat still_step
                            still_call (place_any d4 _ l0)
                            repeat still_step
                            still_call (place_any d5 _ l1)
                            repeat still_step
                            refine wpStill_nil ?_
                            go_wp2_with fail
                            refine (rfmix_any 2 6 10 14 X Y HV2.out.drew (by have := HVL2.out; exact this) HVT2.out (by decide) (by decide) (by decide) (by decide) (by decide) (by decide) (by decide) (by decide) (by decide) (by decide)).mono ?_
                            rintro e z3 ⟨rfl, hRz, hBz⟩
                            obtain ⟨V3, eV3⟩ : ∃ Z, mx V2 2 6 10 14 X Y = Z := ⟨_, rfl⟩
                            rw [eV3] at hRz
                            have HV3 := hide hRz
                            have HBt3 := hide (HBt2.out.drew.trans hBz)
                            have HVL3 : Hid (V3.length = 16) := by rw [← eV3, mx_length]; exact HVL2.out
                            have HVT3 : Hid (Lt V3) := by rw [← eV3]; exact mx_lt HVT2.out _ _ _ _ _ _
                            have EV3 := hide eV3
                            clear hRz hBz eV3 HV2 HBt2 HVL2 HVT2 hm0 hm1 p0 p1 l0 l1 l0I l1I
                            as_aux_lemma =>
                              have hm0 := (HMS.out.bt (b := gm) HBt3.out (by omega)).u0 d6 (by rw [HML.out]; exact e6.out)
                              have hm1 := (HMS.out.bt (b := gm) HBt3.out (by omega)).u0 d7 (by rw [HML.out]; exact e7.out)
                              obtain ⟨X, eX⟩ : ∃ X, at' M d6 = X := ⟨_, rfl⟩
                              obtain ⟨Y, eY⟩ : ∃ Y, at' M d7 = Y := ⟨_, rfl⟩
                              rw [eX] at hm0
                              rw [eY] at hm1
                              have hX3 := hide eX
                              have hY3 := hide eY
                              have p0 := P6.out
                              have p1 := P7.out
                              have l0 := e6.out
                              have l1 := e7.out
                              have l0I : (d6 : Int) < 16 := by omega
                              have l1I : (d7 : Int) < 16 := by omega
                              clear eX eY
                              go_wp2_with fail
                              refine region_tail 13 (by kernel_rfl) (by kernel_rfl) ?_
                              simp only [List.take_succ_cons, List.take_zero, List.drop_succ_cons, List.drop_zero]
                              repeat still_step
                              still_call (place_any d6 _ l0)
                              repeat still_step
                              still_call (place_any d7 _ l1)
                              repeat still_step
                              refine wpStill_nil ?_
                              go_wp2_with fail
                              refine (rfmix_any 3 7 11 15 X Y HV3.out.drew (by have := HVL3.out; exact this) HVT3.out (by decide) (by decide) (by decide) (by decide) (by decide) (by decide) (by decide) (by decide) (by decide) (by decide)).mono ?_
                              rintro e z4 ⟨rfl, hRz, hBz⟩
                              obtain ⟨V4, eV4⟩ : ∃ Z, mx V3 3 7 11 15 X Y = Z := ⟨_, rfl⟩
                              rw [eV4] at hRz
                              have HV4 := hide hRz
                              have HBt4 := hide (HBt3.out.drew.trans hBz)
                              have HVL4 : Hid (V4.length = 16) := by rw [← eV4, mx_length]; exact HVL3.out
                              have HVT4 : Hid (Lt V4) := by rw [← eV4]; exact mx_lt HVT3.out _ _ _ _ _ _
                              have EV4 := hide eV4
                              clear hRz hBz eV4 HV3 HBt3 HVL3 HVT3 hm0 hm1 p0 p1 l0 l1 l0I l1I
                              as_aux_lemma =>
                                have hm0 := (HMS.out.bt (b := gm) HBt4.out (by omega)).u0 d8 (by rw [HML.out]; exact e8.out)
                                have hm1 := (HMS.out.bt (b := gm) HBt4.out (by omega)).u0 d9 (by rw [HML.out]; exact e9.out)
                                obtain ⟨X, eX⟩ : ∃ X, at' M d8 = X := ⟨_, rfl⟩
                                obtain ⟨Y, eY⟩ : ∃ Y, at' M d9 = Y := ⟨_, rfl⟩
                                rw [eX] at hm0
                                rw [eY] at hm1
                                have hX4 := hide eX
                                have hY4 := hide eY
                                have p0 := P8.out
                                have p1 := P9.out
                                have l0 := e8.out
                                have l1 := e9.out
                                have l0I : (d8 : Int) < 16 := by omega
                                have l1I : (d9 : Int) < 16 := by omega
                                clear eX eY
                                go_wp2_with fail
                                refine region_tail 13 (by kernel_rfl) (by kernel_rfl) ?_
                                simp only [List.take_succ_cons, List.take_zero, List.drop_succ_cons, List.drop_zero]
                                repeat still_step
                                still_call (place_any d8 _ l0)
                                repeat still_step
                                still_call (place_any d9 _ l1)
                                repeat still_step
                                refine wpStill_nil ?_
                                go_wp2_with fail
                                refine (rfmix_any 0 5 10 15 X Y HV4.out.drew (by have := HVL4.out; exact this) HVT4.out (by decide) (by decide) (by decide) (by decide) (by decide) (by decide) (by decide) (by decide) (by decide) (by decide)).mono ?_
                                rintro e z5 ⟨rfl, hRz, hBz⟩
                                obtain ⟨V5, eV5⟩ : ∃ Z, mx V4 0 5 10 15 X Y = Z := ⟨_, rfl⟩
                                rw [eV5] at hRz
                                have HV5 := hide hRz
                                have HBt5 := hide (HBt4.out.drew.trans hBz)
                                have HVL5 : Hid (V5.length = 16) := by rw [← eV5, mx_length]; exact HVL4.out
                                have HVT5 : Hid (Lt V5) := by rw [← eV5]; exact mx_lt HVT4.out _ _ _ _ _ _
                                have EV5 := hide eV5
                                clear hRz hBz eV5 HV4 HBt4 HVL4 HVT4 hm0 hm1 p0 p1 l0 l1 l0I l1I
                                as_aux_lemma =>
                                  have hm0 := (HMS.out.bt (b := gm) HBt5.out (by omega)).u0 d10 (by rw [HML.out]; exact e10.out)
                                  have hm1 := (HMS.out.bt (b := gm) HBt5.out (by omega)).u0 d11 (by rw [HML.out]; exact e11.out)
                                  obtain ⟨X, eX⟩ : ∃ X, at' M d10 = X := ⟨_, rfl⟩
                                  obtain ⟨Y, eY⟩ : ∃ Y, at' M d11 = Y := ⟨_, rfl⟩
                                  rw [eX] at hm0
                                  rw [eY] at hm1
                                  have hX5 := hide eX
                                  have hY5 := hide eY
                                  have p0 := P10.out
                                  have p1 := P11.out
                                  have l0 := e10.out
                                  have l1 := e11.out
                                  have l0I : (d10 : Int) < 16 := by omega
                                  have l1I : (d11 : Int) < 16 := by omega
                                  clear eX eY
                                  go_wp2_with fail
                                  refine region_tail 13 (by kernel_rfl) (by kernel_rfl) ?_
                                  simp only [List.take_succ_cons, List.take_zero, List.drop_succ_cons, List.drop_zero]
                                  repeat still_step
                                  still_call (place_any d10 _ l0)
                                  repeat still_step
                                  still_call (place_any d11 _ l1)
                                  repeat still_step
                                  refine wpStill_nil ?_
                                  go_wp2_with fail
                                  refine (rfmix_any 1 6 11 12 X Y HV5.out.drew (by have := HVL5.out; exact this) HVT5.out (by decide) (by decide) (by decide) (by decide) (by decide) (by decide) (by decide) (by decide) (by decide) (by decide)).mono ?_
                                  rintro e z6 ⟨rfl, hRz, hBz⟩
                                  obtain ⟨V6, eV6⟩ : ∃ Z, mx V5 1 6 11 12 X Y = Z := ⟨_, rfl⟩
                                  rw [eV6] at hRz
                                  have HV6 := hide hRz
                                  have HBt6 := hide (HBt5.out.drew.trans hBz)
                                  have HVL6 : Hid (V6.length = 16) := by rw [← eV6, mx_length]; exact HVL5.out
                                  have HVT6 : Hid (Lt V6) := by rw [← eV6]; exact mx_lt HVT5.out _ _ _ _ _ _
                                  have EV6 := hide eV6
                                  clear hRz hBz eV6 HV5 HBt5 HVL5 HVT5 hm0 hm1 p0 p1 l0 l1 l0I l1I
                                  as_aux_lemma =>
                                    have hm0 := (HMS.out.bt (b := gm) HBt6.out (by omega)).u0 d12 (by rw [HML.out]; exact e12.out)
                                    have hm1 := (HMS.out.bt (b := gm) HBt6.out (by omega)).u0 d13 (by rw [HML.out]; exact e13.out)
                                    obtain ⟨X, eX⟩ : ∃ X, at' M d12 = X := ⟨_, rfl⟩
                                    obtain ⟨Y, eY⟩ : ∃ Y, at' M d13 = Y := ⟨_, rfl⟩
                                    rw [eX] at hm0
                                    rw [eY] at hm1
                                    have hX6 := hide eX
                                    have hY6 := hide eY
                                    have p0 := P12.out
                                    have p1 := P13.out
                                    have l0 := e12.out
                                    have l1 := e13.out
                                    have l0I : (d12 : Int) < 16 := by omega
                                    have l1I : (d13 : Int) < 16 := by omega
                                    clear eX eY
                                    go_wp2_with fail
                                    refine region_tail 13 (by kernel_rfl) (by kernel_rfl) ?_
                                    simp only [List.take_succ_cons, List.take_zero, List.drop_succ_cons, List.drop_zero]
                                    repeat still_step
                                    still_call (place_any d12 _ l0)
                                    repeat still_step
                                    still_call (place_any d13 _ l1)
                                    repeat still_step
                                    refine wpStill_nil ?_
                                    go_wp2_with fail
                                    refine (rfmix_any 2 7 8 13 X Y HV6.out.drew (by have := HVL6.out; exact this) HVT6.out (by decide) (by decide) (by decide) (by decide) (by decide) (by decide) (by decide) (by decide) (by decide) (by decide)).mono ?_
                                    rintro e z7 ⟨rfl, hRz, hBz⟩
                                    obtain ⟨V7, eV7⟩ : ∃ Z, mx V6 2 7 8 13 X Y = Z := ⟨_, rfl⟩
                                    rw [eV7] at hRz
                                    have HV7 := hide hRz
                                    have HBt7 := hide (HBt6.out.drew.trans hBz)
                                    have HVL7 : Hid (V7.length = 16) := by rw [← eV7, mx_length]; exact HVL6.out
                                    have HVT7 : Hid (Lt V7) := by rw [← eV7]; exact mx_lt HVT6.out _ _ _ _ _ _
                                    have EV7 := hide eV7
                                    clear hRz hBz eV7 HV6 HBt6 HVL6 HVT6 hm0 hm1 p0 p1 l0 l1 l0I l1I
                                    as_aux_lemma =>
                                      have hm0 := (HMS.out.bt (b := gm) HBt7.out (by omega)).u0 d14 (by rw [HML.out]; exact e14.out)
                                      have hm1 := (HMS.out.bt (b := gm) HBt7.out (by omega)).u0 d15 (by rw [HML.out]; exact e15.out)
                                      obtain ⟨X, eX⟩ : ∃ X, at' M d14 = X := ⟨_, rfl⟩
                                      obtain ⟨Y, eY⟩ : ∃ Y, at' M d15 = Y := ⟨_, rfl⟩
                                      rw [eX] at hm0
                                      rw [eY] at hm1
                                      have hX7 := hide eX
                                      have hY7 := hide eY
                                      have p0 := P14.out
                                      have p1 := P15.out
                                      have l0 := e14.out
                                      have l1 := e15.out
                                      have l0I : (d14 : Int) < 16 := by omega
                                      have l1I : (d15 : Int) < 16 := by omega
                                      clear eX eY
                                      go_wp2_with fail
                                      refine region_tail 13 (by kernel_rfl) (by kernel_rfl) ?_
                                      simp only [List.take_succ_cons, List.take_zero, List.drop_succ_cons, List.drop_zero]
                                      repeat still_step
                                      still_call (place_any d14 _ l0)
                                      repeat still_step
                                      still_call (place_any d15 _ l1)
                                      repeat still_step
                                      refine wpStill_nil ?_
                                      go_wp2_with fail
                                      refine (rfmix_any 3 4 9 14 X Y HV7.out.drew (by have := HVL7.out; exact this) HVT7.out (by decide) (by decide) (by decide) (by decide) (by decide) (by decide) (by decide) (by decide) (by decide) (by decide)).mono ?_
                                      rintro e z8 ⟨rfl, hRz, hBz⟩
                                      obtain ⟨V8, eV8⟩ : ∃ Z, mx V7 3 4 9 14 X Y = Z := ⟨_, rfl⟩
                                      rw [eV8] at hRz
                                      have HV8 := hide hRz
                                      have HBt8 := hide (HBt7.out.drew.trans hBz)
                                      have HVL8 : Hid (V8.length = 16) := by rw [← eV8, mx_length]; exact HVL7.out
                                      have HVT8 : Hid (Lt V8) := by rw [← eV8]; exact mx_lt HVT7.out _ _ _ _ _ _
                                      have EV8 := hide eV8
                                      clear hRz hBz eV8 HV7 HBt7 HVL7 HVT7 hm0 hm1 p0 p1 l0 l1 l0I l1I
                                      as_aux_lemma =>
                                        go_wp2_with fail
                                        go_roundg g5
                                        case measure => omega
                                        case rel =>
                                          refine ⟨r + 1, HG5.out, by go_num, ?_, HBt8.out⟩
                                          rw [rds_succ, HEV.out, rnd_eight, D0.out, D1.out, D2.out, D3.out, D4.out, D5.out, D6.out, D7.out, D8.out, D9.out, D10.out, D11.out, D12.out, D13.out, D14.out, D15.out, hX0.out, hY0.out, hX1.out, hY1.out, hX2.out, hY2.out, hX3.out, hY3.out, hX4.out, hY4.out, hX5.out, hY5.out, hX6.out, hY6.out, hX7.out, hY7.out, EV1.out, EV2.out, EV3.out, EV4.out, EV5.out, EV6.out, EV7.out, EV8.out]
                                          exact HV8.out
                      · obtain rfl : r = 10 := by omega
                        obtain ⟨R, eR⟩ : ∃ Z, rds M V0 10 = Z := ⟨_, rfl⟩
                        rw [eR] at hRV
                        have nR : R.length = 16 := by rw [← eR, rds_length]; exact HV0.out.2.1
                        have lR : Lt R := by rw [← eR]; exact rds_lt HV0.out.2.2 _
                        have HER := hide (And.intro eR (And.intro nR lR))
                        have HRV := hide hRV
                        obtain ⟨wy, ewy⟩ : ∃ v, v = wr := ⟨_, rfl⟩
                        subst ewy
                        have hv7 : gv ≠ g7 := fun h => h7v h.symm
                        have HR7y := hide (HR7z.out.bt hBt h7v)
                        have HBw := hide hBt
                        clear hRV hBt eR nR lR hrg hr10
                        go_wp2_with fail
                        go_loopg [19] 8 (fun g tt wr => ∃ i : Nat, i + g = 8 ∧ tt = .int .i64 i ∧ Row wr g7 0 (us (upd H R i)) ∧ Bt g7 wy wr)
                        case atStart => exact ⟨0, rfl, rfl, by rw [upd_zero nH]; exact HR7y.out, Bt.refl _ _⟩
                        case round =>
                          as_aux_lemma =>
                          clear HR7y
                          obtain ⟨i, hig, rfl, hRU, hBt⟩ := hrel
                          have HBu := hide hBt
                          have HRU := hide hRU
                          by_cases hi8 : i < 8
                          · obtain ⟨g9, rfl⟩ : ∃ g9, gk = g9 + 1 := ⟨gk - 1, by omega⟩
                            have hi8I : (i : Int) < 8 := by omega
                            have hi16I : (i : Int) < 16 := by omega
                            have hi88 : (i : Int) + 8 < 16 := by omega
                            have hi0 : (0 : Int) ≤ (i : Int) + 8 := by omega
                            have hiw : IntKind.i64.wrap ((i : Int) + 8) = (i : Int) + 8 := IntWalk.i64_in _ (by omega)
                            have hin : ((i : Int) + 8).toNat = i + 8 := by omega
                            have hch := hRU.u0 i (by rw [upd_length]; exact hi8)
                            rw [upd_at _ _ _ hi8] at hch
                            have hRvw := HRV.out.bt hBt hv7
                            have hc1 := hRvw.u0 i (by rw [HER.out.2.1]; omega)
                            have hc2 := hRvw.u0 (i + 8) (by rw [HER.out.2.1]; omega)
                            have hfr := hRU.f0 i (by rw [us_length, upd_length]; exact hi8)
                            have lh := HLH.out i
                            have lr := HER.out.2.2 i
                            have lr8 := HER.out.2.2 (i + 8)
                            obtain ⟨hh, eh⟩ : ∃ z, at' H i = z := ⟨_, rfl⟩
                            obtain ⟨ra, era⟩ : ∃ z, at' R i = z := ⟨_, rfl⟩
                            obtain ⟨rb, erb⟩ : ∃ z, at' R (i + 8) = z := ⟨_, rfl⟩
                            rw [eh] at hch lh
                            rw [era] at hc1 lr
                            rw [erb] at hc2 lr8
                            have q1 := xr_int lh lr
                            have q2 := xr_int (xr_lt lh lr) lr8
                            obtain ⟨w7, hw7, HRU2, HBu2⟩ : ∃ W, (wr.setCell ⟨g7, i, none⟩ (.int .u32 ((((hh ^^^ ra) ^^^ rb : Nat)) : Int))).drew = W ∧ Hid (Row W g7 0 (us (upd H R (i + 1)))) ∧ Hid (Bt g7 wy W) :=
                              ⟨_, rfl, by rw [← upd_set H R i hi8, eh, era, erb, us_set]; exact (hRU.set0 (by rw [us_length, upd_length]; exact hi8) _).drew, (hBt.setCell _ _).drew⟩
                            have HI8 := hide (show i + 1 + g9 = 8 by omega)
                            clear hRU hBt hRvw eh era erb lh lr lr8 hig hi8 HBu HRU
                            go_wp2_with fail
                            refine region_tail 17 (by kernel_rfl) (by kernel_rfl) ?_
                            simp only [List.take_succ_cons, List.take_zero, List.drop_succ_cons, List.drop_zero]
                            repeat still_step
                            refine wpStill_nil ?_
                            go_wp2_with fail
                            go_roundg g9
                            case measure => omega
                            case rel => exact ⟨i + 1, HI8.out, by go_num, HRU2.out, HBu2.out⟩
                          · obtain rfl : i = 8 := by omega
                            have hfin : upd H R 8 = hq (h0 n) l (q + 1) := by
                              rw [← HER.out.1, ← HV0.out.1, upd_all, ← HEH.out, ← HEM.out, ← HP.out, ← HG.out, ← HEF.out]
                              rw [← HT.out.1]
                              exact hq_last_at _ _ _ _ HQE.out
                            rw [hfin] at hRU
                            have h67 : g6 ≠ g7 := by omega
                            have h87 : g8 ≠ g7 := by omega
                            have z6 := (HR6z.out.bt HBw.out h6v).bt hBt h67
                            have z8 := (HR8z.out.bt HBw.out h8v).bt hBt h87
                            have zB := HBz.out.trans ((HBw.out.below (by have := HBz.out.size; have := HB0S.out; omega) HBz.out.size).trans (hBt.below (by have := HB.out.size; omega) (by have := HBz.out.size; have := HBw.out.size; omega)))
                            have Z6 := hide z6
                            have Z7 := hide hRU
                            have Z8 := hide z8
                            have ZB := hide zB
                            clear hRU hBt z6 z8 zB HBu HRU hig hi8 hfin
                            go_wp2_with fail
                            go_roundg g3
                            case measure => omega
                            case rel => exact ⟨q + 1, HQ.out.1, by rw [HQ.out.2]; go_num, Z6.out, Z7.out, Z8.out, ZB.out⟩
              · have h1 : ¬ ((N : Int) ≤ (f : Int) + 64) := by have := HN.out.1; omega
                have h2 : (f : Int) + 64 ≤ (t : Int) := by have := HN.out.1; have := HT.out.2.2.1; omega
                have HQE := hide (show q < qn l.length by rw [HT.out.1, HT.out.2.1]; omega)
                have HEF := hide ef
                have HB0S := hide hg6
                have HNF := hide (show f + 64 ≤ N by have := HN.out.1; omega)
                clear hlt hqg ef hlast
                go_wp2_with fail
                obtain ⟨G, eG⟩ : ∃ G, f + 64 = G := ⟨_, rfl⟩
                have gq0 : IntKind.u64.wrap ((f : Int) + 64) = (f : Int) + 64 := IntWalk.u64_in _ (by omega)
                have gq1 : ((f : Int) + 64) % 4294967296 = (f : Int) + 64 := by omega
                have gq2 : ((f : Int) + 64) / 4294967296 = 0 := by omega
                have gq3 : IntKind.u32.wrap ((f : Int) + 64) = (f : Int) + 64 := IntWalk.u32_in _ (by omega)
                obtain ⟨b12, eb12⟩ : ∃ b, at' iv 4 ^^^ (G % 4294967296) = b := ⟨_, rfl⟩
                obtain ⟨b13, eb13⟩ : ∃ b, at' iv 5 ^^^ (G / 4294967296 % 4294967296) = b := ⟨_, rfl⟩
                have gx12 : bits .xor .u32 1359893119 ((f : Int) + 64) = (b12 : Int) := by
                  have h9 := u32_xor_nat 1359893119 G (by decide) (by omega)
                  rw [← eb12, Nat.mod_eq_of_lt (by omega : G < 4294967296)]
                  rw [show (f : Int) + 64 = (G : Int) by omega]
                  exact h9
                have gx13 : bits .xor .u32 2600822924 0 = (b13 : Int) := by
                  have h9 := u32_xor_nat 2600822924 0 (by decide) (by decide)
                  rw [← eb13, show G / 4294967296 % 4294967296 = 0 by omega]
                  exact h9
                have HXX := hide (And.intro eb12 eb13)
                have HG := hide eG
                clear eb12 eb13 eG
                have HB0 := hide (Below.refl wr.heap.size wr)
                have wbs := hide (Nat.le_of_lt hl8)
                have g6l := HR6.out.lt
                have g7l := HR7.out.lt
                obtain ⟨wb, ewb⟩ : ∃ v, v = wr := ⟨_, rfl⟩
                subst ewb
                go_loopg [13, 14] 16 (fun g v tt wr => ∃ i : Nat, i + g = 16 ∧ tt = .int .i64 ((f + 4 * i : Nat) : Int) ∧ Ow wr wb.heap.size v i (us (tab i (num (P.drop f)))) ∧ Below wb.heap.size wb wr)
                case atStart => exact ⟨0, rfl, rfl, Ow.nil _ _, Below.refl _ _⟩
                case round =>
                  as_aux_lemma =>
                  obtain ⟨i, hig, rfl, hO, hBl⟩ := hrel
                  have HO := hide hO
                  have HBL := hide hBl
                  obtain ⟨am, cm, rfl, hcm⟩ := hO.shape
                  clear hO hBl
                  by_cases hi16 : i < 16
                  · obtain ⟨g5, rfl⟩ : ∃ g5, gk = g5 + 1 := ⟨gk - 1, by omega⟩
                    obtain ⟨f4, ef4⟩ : ∃ f4, f + 4 * i = f4 := ⟨_, rfl⟩
                    have hf4 : f4 + 3 < P.length := by have := HNF.out; have := HLP.out; omega
                    have R8 := HR8.out.below HBL.out (by have := hl8; omega)
                    have hy0 := R8.y0 f4 (by omega)
                    have hy1 := R8.y0 (f4 + 1) (by omega)
                    have hy2 := R8.y0 (f4 + 2) (by omega)
                    have hy3 := R8.y0 (f4 + 3) (by omega)
                    obtain ⟨y0, ey0⟩ : ∃ y, by' P f4 = y := ⟨_, rfl⟩
                    obtain ⟨y1, ey1⟩ : ∃ y, by' P (f4 + 1) = y := ⟨_, rfl⟩
                    obtain ⟨y2, ey2⟩ : ∃ y, by' P (f4 + 2) = y := ⟨_, rfl⟩
                    obtain ⟨y3, ey3⟩ : ∃ y, by' P (f4 + 3) = y := ⟨_, rfl⟩
                    have ly0 : y0 < 256 := ey0 ▸ by_lt _ _
                    have ly1 : y1 < 256 := ey1 ▸ by_lt _ _
                    have ly2 : y2 < 256 := ey2 ▸ by_lt _ _
                    have ly3 : y3 < 256 := ey3 ▸ by_lt _ _
                    obtain ⟨nu, enu⟩ : ∃ nu, num (P.drop f) i = nu := ⟨_, rfl⟩
                    have hnu : nu = y0 + 256 * y1 + 65536 * y2 + 16777216 * y3 := by
                      rw [← enu, ← ey0, ← ey1, ← ey2, ← ey3]
                      unfold num
                      rw [by_drop, by_drop, by_drop, by_drop, show f + 4 * i = f4 from ef4, show f + (4 * i + 1) = f4 + 1 by omega, show f + (4 * i + 2) = f4 + 2 by omega, show f + (4 * i + 3) = f4 + 3 by omega]
                    rw [ey0] at hy0
                    rw [ey1] at hy1
                    rw [ey2] at hy2
                    rw [ey3] at hy3
                    obtain ⟨s1, es1⟩ : ∃ s1, y0 + 256 * y1 = s1 := ⟨_, rfl⟩
                    obtain ⟨s2, es2⟩ : ∃ s2, s1 + 65536 * y2 = s2 := ⟨_, rfl⟩
                    have u0 : IntKind.u32.wrap (y0 : Int) = (y0 : Int) := IntWalk.u32_in _ (by omega)
                    have u1 : IntKind.u32.wrap (y1 : Int) = (y1 : Int) := IntWalk.u32_in _ (by omega)
                    have u2 : IntKind.u32.wrap (y2 : Int) = (y2 : Int) := IntWalk.u32_in _ (by omega)
                    have u3 : IntKind.u32.wrap (y3 : Int) = (y3 : Int) := IntWalk.u32_in _ (by omega)
                    have m1 : IntKind.u32.wrap ((y1 : Int) * 256) = (y1 : Int) * 256 := IntWalk.u32_in _ (by omega)
                    have m2 : IntKind.u32.wrap ((y2 : Int) * 65536) = (y2 : Int) * 65536 := IntWalk.u32_in _ (by omega)
                    have m3 : IntKind.u32.wrap ((y3 : Int) * 16777216) = (y3 : Int) * 16777216 := IntWalk.u32_in _ (by omega)
                    have a1 : IntKind.u32.wrap ((y0 : Int) + (y1 : Int) * 256) = (s1 : Int) := by rw [IntWalk.u32_in _ (by omega)]; omega
                    have a2 : IntKind.u32.wrap ((s1 : Int) + (y2 : Int) * 65536) = (s2 : Int) := by rw [IntWalk.u32_in _ (by omega)]; omega
                    have a3 : IntKind.u32.wrap ((s2 : Int) + (y3 : Int) * 16777216) = (nu : Int) := by rw [IntWalk.u32_in _ (by omega)]; omega
                    have b4 : (f4 : Int) < (f : Int) + 64 := by omega
                    have b5 : (f4 : Int) + 3 < (N : Int) := by have := HLP.out; omega
                    have b51 : (f4 : Int) + 1 < (N : Int) := by omega
                    have b52 : (f4 : Int) + 2 < (N : Int) := by omega
                    have b50 : (f4 : Int) < (N : Int) := by omega
                    have b61 : (0 : Int) ≤ (f4 : Int) + 1 := by omega
                    have b62 : (0 : Int) ≤ (f4 : Int) + 2 := by omega
                    have b63 : (0 : Int) ≤ (f4 : Int) + 3 := by omega
                    have hf4N : f4 + 3 < P.length := hf4
                    have HF4 := hide hf4N
                    clear hf4N
                    have w1 : IntKind.i64.wrap ((f4 : Int) + 1) = (f4 : Int) + 1 := IntWalk.i64_in _ (by omega)
                    have w2 : IntKind.i64.wrap ((f4 : Int) + 2) = (f4 : Int) + 2 := IntWalk.i64_in _ (by omega)
                    have w3 : IntKind.i64.wrap ((f4 : Int) + 3) = (f4 : Int) + 3 := IntWalk.i64_in _ (by omega)
                    have n1 : ((f4 : Int) + 1).toNat = f4 + 1 := by omega
                    have n2 : ((f4 : Int) + 2).toNat = f4 + 2 := by omega
                    have n3 : ((f4 : Int) + 3).toNat = f4 + 3 := by omega
                    have HI := hide (show i + 1 + g5 = 16 ∧ f + 4 * (i + 1) = f4 + 4 ∧ i < 16 from ⟨by omega, by omega, hi16⟩)
                    have HNU := hide enu
                    have EY := hide (And.intro ey0 (And.intro ey1 (And.intro ey2 ey3)))
                    rw [ef4]
                    clear ey0 ey1 ey2 ey3 enu hnu es1 es2 hf4 R8 hig hi16 ef4 ly0 ly1 ly2 ly3
                    go_wp2_with fail
                    refine wp_region_ord (fun w9 => w9.cell? ⟨g8, f4, none⟩ = some (.int .u8 (y0 : Int)) ∧ w9.cell? ⟨g8, f4 + 1, none⟩ = some (.int .u8 (y1 : Int)) ∧ w9.cell? ⟨g8, f4 + 2, none⟩ = some (.int .u8 (y2 : Int)) ∧ w9.cell? ⟨g8, f4 + 3, none⟩ = some (.int .u8 (y3 : Int))) 32 [(0, some true), (1, some true), (2, some true), (3, some true), (4, some false), (5, some true), (6, some true), (7, some true), (8, some true), (9, some true), (10, some false), (11, some true), (12, some true), (13, some true), (14, some true), (15, some true), (16, some true), (17, some true), (18, some false), (19, some true), (20, some true), (21, some true), (22, some true), (23, some true), (24, some true), (25, some true), (26, some false), (27, some true), (28, some true), (29, some true), (30, none), (31, none), (32, none)] (by kernel_rfl) (by kernel_rfl) (fun _ _ _ _ h => h) ⟨hy0, hy1, hy2, hy3⟩ ?_
                    refine ord_pure (o := ⟨some 93, _, _, _, _, _⟩) (.slice am i cm) rfl (by kernel_rfl) (fun w9 => by go_simp) ?_
                    simp only [Act.put, List.setIfInBounds_toArray, List.set_cons_zero, List.set_cons_succ]
                    refine ord_pure (o := ⟨some 94, _, _, _, _, _⟩) (.slice (some ⟨g8, 0, none⟩) N cp) rfl (by kernel_rfl) (fun w9 => by go_simp) ?_
                    simp only [Act.put, List.setIfInBounds_toArray, List.set_cons_zero, List.set_cons_succ]
                    refine ord_pure (o := ⟨some 95, _, _, _, _, _⟩) (.int .i64 (f4 : Int)) rfl (by kernel_rfl) (fun w9 => by go_simp) ?_
                    simp only [Act.put, List.setIfInBounds_toArray, List.set_cons_zero, List.set_cons_succ]
                    refine ord_pure (o := ⟨some 96, _, _, _, _, _⟩) (.pointer (some ⟨g8, f4, none⟩)) rfl (by kernel_rfl) (fun w9 => by go_simp) ?_
                    simp only [Act.put, List.setIfInBounds_toArray, List.set_cons_zero, List.set_cons_succ]
                    refine ord_held (o := ⟨some 97, _, _, _, _, _⟩) (.int .u8 (y0 : Int)) rfl (by kernel_rfl) (fun w9 h9 => by have h8 := h9.1; go_simp) ?_
                    simp only [Act.put, List.setIfInBounds_toArray, List.set_cons_zero, List.set_cons_succ]
                    refine ord_pure (o := ⟨some 98, _, _, _, _, _⟩) (.int .u32 (y0 : Int)) rfl (by kernel_rfl) (fun w9 => by go_simp) ?_
                    simp only [Act.put, List.setIfInBounds_toArray, List.set_cons_zero, List.set_cons_succ]
                    refine ord_pure (o := ⟨some 99, _, _, _, _, _⟩) (.slice (some ⟨g8, 0, none⟩) N cp) rfl (by kernel_rfl) (fun w9 => by go_simp) ?_
                    simp only [Act.put, List.setIfInBounds_toArray, List.set_cons_zero, List.set_cons_succ]
                    refine ord_pure (o := ⟨some 100, _, _, _, _, _⟩) (.int .i64 (f4 : Int)) rfl (by kernel_rfl) (fun w9 => by go_simp) ?_
                    simp only [Act.put, List.setIfInBounds_toArray, List.set_cons_zero, List.set_cons_succ]
                    refine ord_pure (o := ⟨some 101, _, _, _, _, _⟩) (.int .i64 ((f4 : Int) + 1)) rfl (by kernel_rfl) (fun w9 => by go_simp) ?_
                    simp only [Act.put, List.setIfInBounds_toArray, List.set_cons_zero, List.set_cons_succ]
                    refine ord_pure (o := ⟨some 102, _, _, _, _, _⟩) (.pointer (some ⟨g8, f4 + 1, none⟩)) rfl (by kernel_rfl) (fun w9 => by go_simp) ?_
                    simp only [Act.put, List.setIfInBounds_toArray, List.set_cons_zero, List.set_cons_succ]
                    refine ord_held (o := ⟨some 103, _, _, _, _, _⟩) (.int .u8 (y1 : Int)) rfl (by kernel_rfl) (fun w9 h9 => by have h8 := h9.2.1; go_simp) ?_
                    simp only [Act.put, List.setIfInBounds_toArray, List.set_cons_zero, List.set_cons_succ]
                    refine ord_pure (o := ⟨some 104, _, _, _, _, _⟩) (.int .u32 (y1 : Int)) rfl (by kernel_rfl) (fun w9 => by go_simp) ?_
                    simp only [Act.put, List.setIfInBounds_toArray, List.set_cons_zero, List.set_cons_succ]
                    refine ord_pure (o := ⟨some 105, _, _, _, _, _⟩) (.int .u32 ((y1 : Int) * 256)) rfl (by kernel_rfl) (fun w9 => by go_simp) ?_
                    simp only [Act.put, List.setIfInBounds_toArray, List.set_cons_zero, List.set_cons_succ]
                    refine ord_pure (o := ⟨some 106, _, _, _, _, _⟩) (.int .u32 (s1 : Int)) rfl (by kernel_rfl) (fun w9 => by go_simp) ?_
                    simp only [Act.put, List.setIfInBounds_toArray, List.set_cons_zero, List.set_cons_succ]
                    refine ord_pure (o := ⟨some 107, _, _, _, _, _⟩) (.slice (some ⟨g8, 0, none⟩) N cp) rfl (by kernel_rfl) (fun w9 => by go_simp) ?_
                    simp only [Act.put, List.setIfInBounds_toArray, List.set_cons_zero, List.set_cons_succ]
                    refine ord_pure (o := ⟨some 108, _, _, _, _, _⟩) (.int .i64 (f4 : Int)) rfl (by kernel_rfl) (fun w9 => by go_simp) ?_
                    simp only [Act.put, List.setIfInBounds_toArray, List.set_cons_zero, List.set_cons_succ]
                    refine ord_pure (o := ⟨some 109, _, _, _, _, _⟩) (.int .i64 ((f4 : Int) + 2)) rfl (by kernel_rfl) (fun w9 => by go_simp) ?_
                    simp only [Act.put, List.setIfInBounds_toArray, List.set_cons_zero, List.set_cons_succ]
                    refine ord_pure (o := ⟨some 110, _, _, _, _, _⟩) (.pointer (some ⟨g8, f4 + 2, none⟩)) rfl (by kernel_rfl) (fun w9 => by go_simp) ?_
                    simp only [Act.put, List.setIfInBounds_toArray, List.set_cons_zero, List.set_cons_succ]
                    refine ord_held (o := ⟨some 111, _, _, _, _, _⟩) (.int .u8 (y2 : Int)) rfl (by kernel_rfl) (fun w9 h9 => by have h8 := h9.2.2.1; go_simp) ?_
                    simp only [Act.put, List.setIfInBounds_toArray, List.set_cons_zero, List.set_cons_succ]
                    refine ord_pure (o := ⟨some 112, _, _, _, _, _⟩) (.int .u32 (y2 : Int)) rfl (by kernel_rfl) (fun w9 => by go_simp) ?_
                    simp only [Act.put, List.setIfInBounds_toArray, List.set_cons_zero, List.set_cons_succ]
                    refine ord_pure (o := ⟨some 113, _, _, _, _, _⟩) (.int .u32 ((y2 : Int) * 65536)) rfl (by kernel_rfl) (fun w9 => by go_simp) ?_
                    simp only [Act.put, List.setIfInBounds_toArray, List.set_cons_zero, List.set_cons_succ]
                    refine ord_pure (o := ⟨some 114, _, _, _, _, _⟩) (.int .u32 (s2 : Int)) rfl (by kernel_rfl) (fun w9 => by go_simp) ?_
                    simp only [Act.put, List.setIfInBounds_toArray, List.set_cons_zero, List.set_cons_succ]
                    refine ord_pure (o := ⟨some 115, _, _, _, _, _⟩) (.slice (some ⟨g8, 0, none⟩) N cp) rfl (by kernel_rfl) (fun w9 => by go_simp) ?_
                    simp only [Act.put, List.setIfInBounds_toArray, List.set_cons_zero, List.set_cons_succ]
                    refine ord_pure (o := ⟨some 116, _, _, _, _, _⟩) (.int .i64 (f4 : Int)) rfl (by kernel_rfl) (fun w9 => by go_simp) ?_
                    simp only [Act.put, List.setIfInBounds_toArray, List.set_cons_zero, List.set_cons_succ]
                    refine ord_pure (o := ⟨some 117, _, _, _, _, _⟩) (.int .i64 ((f4 : Int) + 3)) rfl (by kernel_rfl) (fun w9 => by go_simp) ?_
                    simp only [Act.put, List.setIfInBounds_toArray, List.set_cons_zero, List.set_cons_succ]
                    refine ord_pure (o := ⟨some 118, _, _, _, _, _⟩) (.pointer (some ⟨g8, f4 + 3, none⟩)) rfl (by kernel_rfl) (fun w9 => by go_simp) ?_
                    simp only [Act.put, List.setIfInBounds_toArray, List.set_cons_zero, List.set_cons_succ]
                    refine ord_held (o := ⟨some 119, _, _, _, _, _⟩) (.int .u8 (y3 : Int)) rfl (by kernel_rfl) (fun w9 h9 => by have h8 := h9.2.2.2; go_simp) ?_
                    simp only [Act.put, List.setIfInBounds_toArray, List.set_cons_zero, List.set_cons_succ]
                    refine ord_pure (o := ⟨some 120, _, _, _, _, _⟩) (.int .u32 (y3 : Int)) rfl (by kernel_rfl) (fun w9 => by go_simp) ?_
                    simp only [Act.put, List.setIfInBounds_toArray, List.set_cons_zero, List.set_cons_succ]
                    refine ord_pure (o := ⟨some 121, _, _, _, _, _⟩) (.int .u32 ((y3 : Int) * 16777216)) rfl (by kernel_rfl) (fun w9 => by go_simp) ?_
                    simp only [Act.put, List.setIfInBounds_toArray, List.set_cons_zero, List.set_cons_succ]
                    refine ord_pure (o := ⟨some 122, _, _, _, _, _⟩) (.int .u32 (nu : Int)) rfl (by kernel_rfl) (fun w9 => by go_simp) ?_
                    simp only [Act.put, List.setIfInBounds_toArray, List.set_cons_zero, List.set_cons_succ]
                    have cellsOf : ∀ w9 : World, Row w9 g8 0 (bs P) → w9.cell? ⟨g8, f4, none⟩ = some (.int .u8 (y0 : Int)) ∧ w9.cell? ⟨g8, f4 + 1, none⟩ = some (.int .u8 (y1 : Int)) ∧ w9.cell? ⟨g8, f4 + 2, none⟩ = some (.int .u8 (y2 : Int)) ∧ w9.cell? ⟨g8, f4 + 3, none⟩ = some (.int .u8 (y3 : Int)) := fun w9 R9 =>
                      ⟨by have h9 := R9.y0 f4 (by have := HF4.out; omega); rw [EY.out.1] at h9; exact h9, by have h9 := R9.y0 (f4 + 1) (by have := HF4.out; omega); rw [EY.out.2.1] at h9; exact h9, by have h9 := R9.y0 (f4 + 2) (by have := HF4.out; omega); rw [EY.out.2.2.1] at h9; exact h9, by have h9 := R9.y0 (f4 + 3) (by have := HF4.out; omega); rw [EY.out.2.2.2] at h9; exact h9⟩
                    have HCO := hide cellsOf
                    clear cellsOf
                    refine ord_go rfl (fun K9 hK => ?_)
                    go_simp
                    refine hK.out _ _ (fun _ => HCO.out _ ((HR8.out.below HBL.out (by have := hl8; omega)).alloc (.cells #[.int .u32 ((nu : Nat) : Int)] 54)).drew) ?_
                    clear hK K9
                    have hsz9 : wb.heap.size ≤ wr.heap.size := HBL.out.size
                    refine ord_appendO (o := ⟨some 124, _, _, _, _, _⟩) rfl rfl (.tmp 93) (.tmp 123) 65 65 rfl 54 Try.underlying65 infoU (by decide) rfl rfl rfl (HO.out.keep ((Below.refl _ wr).alloc (Nat.le_refl _) (.cells #[.int .u32 ((nu : Nat) : Int)] 54))).drew ((Row.newL wr [.int .u32 ((nu : Nat) : Int)] 54).drew.src (n := 1) (cap := 1) rfl Try.underlying65 (fun u hu => by simp at hu; subst hu; rfl)) (by have := HI.out.2.2; omega) (Nat.le_trans hsz9 (by simp)) (fun u hu => us_one hu) ?_
                    intro v9 w9 hO9 hB9
                    have HO9 := hide hO9
                    have HB9 := hide ((HBL.out.alloc hsz9 _).drew.trans hB9)
                    have R9 := HR8.out.below HB9.out (by have := hl8; omega)
                    refine ⟨fun _ => HCO.out _ R9, ?_⟩
                    clear hO9 hB9 hsz9 R9
                    simp only [Act.put, List.setIfInBounds_toArray, List.set_cons_zero, List.set_cons_succ]
                    refine ord_go rfl (fun K9 hK => ?_)
                    go_simp
                    refine hK.out _ _ (fun h => by cases h) ?_
                    clear hK K9
                    refine ord_end ?_
                    go_wp2_with fail
                    go_roundg g5
                    case measure => omega
                    case rel => exact ⟨i + 1, HI.out.1, by rw [HI.out.2.1]; go_num, by rw [us_tab_succ, HNU.out]; exact HO9.out, HB9.out⟩
                  · obtain rfl : i = 16 := by omega
                    obtain ⟨gm, cm', hvm, hgm, hcm', hRm⟩ := HO.out.row (by decide)
                    obtain ⟨rfl, rfl⟩ : am = some ⟨gm, 0, none⟩ ∧ cm = cm' := by simpa using hvm
                    have eMM : tab 16 (num (P.drop f)) = M := HEM.out
                    rw [eMM] at hRm
                    have hmlt := hRm.lt
                    have HRm := hide hRm
                    have R6 := HR6.out.below HBL.out g6l
                    have R7 := HR7.out.below HBL.out g7l
                    have hH16 : (us H).length = 8 := by rw [us_length]; exact nH
                    have HR6m := hide R6
                    have HR7m := hide R7
                    have hml : HML.out = HML.out := rfl
                    clear hvm HO hRm R6 R7 hig hi16 eMM hml
                    obtain ⟨wm, ewm⟩ : ∃ v, v = wr := ⟨_, rfl⟩
                    subst ewm
                    have cmI : (16 : Int) ≤ (cm : Int) := by omega
                    go_wp2_with (first
                      | (refine wpList_appendO rfl (.tmp 125) (.tmp 126) 65 65 rfl 54 Try.underlying65 infoU (by decide) rfl rfl rfl (Ow.made wm wm.heap.size (Nat.le_refl _) [] 54) ((HR7m.out.alloc _).src (n := 8) (cap := c7) hH16 Try.underlying65 (fun u hu => us_one hu)) (by decide) (by simp) (fun u hu => by cases hu) ?_
                         intro v1 x1 hO1 hB1
                         rw [List.nil_append] at hO1
                         have HO1 := hide hO1
                         have HB1x := hide (((Below.refl wm.heap.size wm).alloc (Nat.le_refl _) _).trans hB1)
                         clear hO1 hB1)
                      | (refine wpList_appendO rfl (.tmp 127) (.tmp 128) 65 65 rfl 54 Try.underlying65 infoU (by decide) rfl rfl rfl HO1.out ((HR6m.out.below HB1x.out (by have := HBL.out.size; omega)).src (n := 8) (cap := c6) rfl Try.underlying65 (fun u hu => us_one hu)) (by decide) HB1x.out.size (fun u hu => us_one hu) ?_
                         intro v2 x2 hO2 hB2
                         rw [← us_app] at hO2
                         obtain ⟨gv, cv, rfl, hgv, hcv, hRv⟩ := hO2.row (by decide)
                         have hvlt := hRv.lt
                         have lHI : (H ++ iv).length = 16 := by rw [List.length_append, nH, iv_length]
                         have hv12 : x2.cell? ⟨gv, 12, none⟩ = some (.int .u32 1359893119) := by have h9 := hRv.u0 12 (by rw [lHI]; decide); rw [at_app, nH] at h9; exact h9
                         have hv13 : x2.cell? ⟨gv, 13, none⟩ = some (.int .u32 2600822924) := by have h9 := hRv.u0 13 (by rw [lHI]; decide); rw [at_app, nH] at h9; exact h9
                         have hv14 : x2.cell? ⟨gv, 14, none⟩ = some (.int .u32 528734635) := by have h9 := hRv.u0 14 (by rw [lHI]; decide); rw [at_app, nH] at h9; exact h9
                         have hf12 := hRv.f0 12 (by rw [us_length, lHI]; decide)
                         have hf13 := hRv.f0 13 (by rw [us_length, lHI]; decide)
                         have hf14 := hRv.f0 14 (by rw [us_length, lHI]; decide)
                         obtain ⟨y1, hy1, hRy1⟩ : ∃ W, x2.setCell ⟨gv, 12, none⟩ (.int .u32 (b12 : Int)) = W ∧ Row W gv 0 (us ((H ++ iv).set 12 b12)) := ⟨_, rfl, by rw [us_set]; exact hRv.set0 (by rw [us_length, lHI]; decide) _⟩
                         have hw13 : y1.cell? ⟨gv, 13, none⟩ = some (.int .u32 2600822924) := by have h9 := hRy1.u0 13 (by rw [List.length_set, lHI]; decide); rw [at_set _ _ _ _ (by rw [lHI]; decide), if_neg (by decide), at_app, nH] at h9; exact h9
                         have hg13 := hRy1.f0 13 (by rw [us_length, List.length_set, lHI]; decide)
                         obtain ⟨y2, hy2, hRy2⟩ : ∃ W, y1.setCell ⟨gv, 13, none⟩ (.int .u32 (b13 : Int)) = W ∧ Row W gv 0 (us (((H ++ iv).set 12 b12).set 13 b13)) := ⟨_, rfl, by rw [us_set]; exact hRy1.set0 (by rw [us_length, List.length_set, lHI]; decide) _⟩
                         have hB2y : Below wm.heap.size wm y2 := by rw [← hy2, ← hy1]; exact ((HB1x.out.trans (hB2.mono (Nat.le_refl _))).setCell (show wm.heap.size ≤ gv from hgv) _).setCell (show wm.heap.size ≤ gv from hgv) _
                         have HBY := hide hB2y
                         have HRV : Hid (Row y2 gv 0 (us (ini H G false))) := by rw [← ini_no H G nH, HXX.out.1, HXX.out.2]; exact hRy2
                         clear hO2 hB2 HO1 HB1x hRv lHI hRy1 hRy2 hB2y))
                    refine (rfplaces_any _).mono ?_
                    rintro e z0 ⟨rfl, hRp, hBp⟩
                    obtain ⟨gl, egl⟩ : ∃ gl, y2.heap.size = gl := ⟨_, rfl⟩
                    rw [egl] at hRp ⊢
                    have hlv : gv < gl := by rw [← egl]; exact HRV.out.lt
                    have hmv : gm ≠ gv := by omega
                    have hvl : gl ≠ gv := by omega
                    have h7v : g7 ≠ gv := by have := HBL.out.size; omega
                    have h6v : g6 ≠ gv := by have := HBL.out.size; omega
                    have h8v : g8 ≠ gv := by have := HBL.out.size; omega
                    have hBz := HBY.out.trans (hBp.mono HBY.out.size)
                    have HMS := hide (HRm.out.below hBz hmlt)
                    have HR6z := hide (HR6m.out.below hBz (by have := HBL.out.size; omega))
                    have HR7z := hide (HR7m.out.below hBz (by have := HBL.out.size; omega))
                    have HR8z := hide ((HR8.out.below HBL.out (by have := hl8; omega)).below hBz (by have := HBL.out.size; have := hl8; omega))
                    have HRP := hide hRp
                    have HRVz := hide (HRV.out.below hBp HRV.out.lt)
                    have HBz := hide ((HB.out.trans (HBL.out.mono HB.out.size)).trans (hBz.mono ((HB.out.trans (HBL.out.mono HB.out.size)).size)))
                    obtain ⟨V0, eV0⟩ : ∃ Z, ini H G false = Z := ⟨_, rfl⟩
                    have hV0l : V0.length = 16 := by rw [← eV0]; exact ini_length _ _ _
                    have hV0t : Lt V0 := by rw [← eV0]; exact ini_lt HLH.out _ _
                    rw [eV0] at HRVz
                    have HV0 := hide (And.intro eV0 (And.intro hV0l hV0t))
                    obtain ⟨wz, ewz⟩ : ∃ v, v = z0 := ⟨_, rfl⟩
                    subst ewz
                    have cvI : (16 : Int) ≤ (cv : Int) := by omega
                    clear hRp hBp hBz eV0 hV0l hV0t HRm HR6m HR7m HBL HRV HBY egl
                    go_wp2_with fail
                    go_loopg [17, 18] 10 (fun g tt _ wr => ∃ r : Nat, r + g = 10 ∧ tt = .int .i64 r ∧ Row wr gv 0 (us (rds M V0 r)) ∧ Bt gv wz wr)
                    case atStart => exact ⟨0, rfl, rfl, HRVz.out, Bt.refl _ _⟩
                    case round =>
                      as_aux_lemma =>
                      clear HRVz
                      obtain ⟨r, hrg, rfl, hRV, hBt⟩ := hrel
                      have HBt := hide hBt
                      by_cases hr10 : r < 10
                      · obtain ⟨g5, rfl⟩ : ∃ g5, gk = g5 + 1 := ⟨gk - 1, by omega⟩
                        have hr10I : (r : Int) < 10 := by omega
                        obtain ⟨V, eV⟩ : ∃ Z, rds M V0 r = Z := ⟨_, rfl⟩
                        rw [eV] at hRV
                        have HV := hide hRV
                        have HVL0 : Hid (V.length = 16) := by rw [← eV, rds_length]; exact HV0.out.2.1
                        have HVT0 : Hid (Lt V) := by rw [← eV]; exact rds_lt HV0.out.2.2 _
                        have HEV := hide eV
                        obtain ⟨p, ep⟩ : ∃ p, pstr r = p := ⟨_, rfl⟩
                        have hcp : wr.cell? ⟨gl, r, none⟩ = some (.string p) := by
                          have h9 := (HRP.out.bt HBt.out hvl).cell r (.string p) (by rw [← ep]; simp [pstrs, hr10])
                          simpa using h9
                        obtain ⟨d0, ed0⟩ : ∃ d, at' rows (16 * r + 0) = d := ⟨_, rfl⟩
                        have e0 : Hid (d0 < 16) := by rw [← ed0]; exact rows_lt (by omega)
                        have P0 : Hid (∀ w, (Instr.index 9 (.string p) (.int .i64 0)).run Try.prog w = .ok (.int .u8 ((dch d0 : Nat) : Int)) w) := by rw [← ed0, ← ep]; exact fun w => pstr_idx r 0 (by decide) w
                        have D0 := hide ed0
                        clear ed0
                        obtain ⟨d1, ed1⟩ : ∃ d, at' rows (16 * r + 1) = d := ⟨_, rfl⟩
                        have e1 : Hid (d1 < 16) := by rw [← ed1]; exact rows_lt (by omega)
                        have P1 : Hid (∀ w, (Instr.index 9 (.string p) (.int .i64 1)).run Try.prog w = .ok (.int .u8 ((dch d1 : Nat) : Int)) w) := by rw [← ed1, ← ep]; exact fun w => pstr_idx r 1 (by decide) w
                        have D1 := hide ed1
                        clear ed1
                        obtain ⟨d2, ed2⟩ : ∃ d, at' rows (16 * r + 2) = d := ⟨_, rfl⟩
                        have e2 : Hid (d2 < 16) := by rw [← ed2]; exact rows_lt (by omega)
                        have P2 : Hid (∀ w, (Instr.index 9 (.string p) (.int .i64 2)).run Try.prog w = .ok (.int .u8 ((dch d2 : Nat) : Int)) w) := by rw [← ed2, ← ep]; exact fun w => pstr_idx r 2 (by decide) w
                        have D2 := hide ed2
                        clear ed2
                        obtain ⟨d3, ed3⟩ : ∃ d, at' rows (16 * r + 3) = d := ⟨_, rfl⟩
                        have e3 : Hid (d3 < 16) := by rw [← ed3]; exact rows_lt (by omega)
                        have P3 : Hid (∀ w, (Instr.index 9 (.string p) (.int .i64 3)).run Try.prog w = .ok (.int .u8 ((dch d3 : Nat) : Int)) w) := by rw [← ed3, ← ep]; exact fun w => pstr_idx r 3 (by decide) w
                        have D3 := hide ed3
                        clear ed3
                        obtain ⟨d4, ed4⟩ : ∃ d, at' rows (16 * r + 4) = d := ⟨_, rfl⟩
                        have e4 : Hid (d4 < 16) := by rw [← ed4]; exact rows_lt (by omega)
                        have P4 : Hid (∀ w, (Instr.index 9 (.string p) (.int .i64 4)).run Try.prog w = .ok (.int .u8 ((dch d4 : Nat) : Int)) w) := by rw [← ed4, ← ep]; exact fun w => pstr_idx r 4 (by decide) w
                        have D4 := hide ed4
                        clear ed4
                        obtain ⟨d5, ed5⟩ : ∃ d, at' rows (16 * r + 5) = d := ⟨_, rfl⟩
                        have e5 : Hid (d5 < 16) := by rw [← ed5]; exact rows_lt (by omega)
                        have P5 : Hid (∀ w, (Instr.index 9 (.string p) (.int .i64 5)).run Try.prog w = .ok (.int .u8 ((dch d5 : Nat) : Int)) w) := by rw [← ed5, ← ep]; exact fun w => pstr_idx r 5 (by decide) w
                        have D5 := hide ed5
                        clear ed5
                        obtain ⟨d6, ed6⟩ : ∃ d, at' rows (16 * r + 6) = d := ⟨_, rfl⟩
                        have e6 : Hid (d6 < 16) := by rw [← ed6]; exact rows_lt (by omega)
                        have P6 : Hid (∀ w, (Instr.index 9 (.string p) (.int .i64 6)).run Try.prog w = .ok (.int .u8 ((dch d6 : Nat) : Int)) w) := by rw [← ed6, ← ep]; exact fun w => pstr_idx r 6 (by decide) w
                        have D6 := hide ed6
                        clear ed6
                        obtain ⟨d7, ed7⟩ : ∃ d, at' rows (16 * r + 7) = d := ⟨_, rfl⟩
                        have e7 : Hid (d7 < 16) := by rw [← ed7]; exact rows_lt (by omega)
                        have P7 : Hid (∀ w, (Instr.index 9 (.string p) (.int .i64 7)).run Try.prog w = .ok (.int .u8 ((dch d7 : Nat) : Int)) w) := by rw [← ed7, ← ep]; exact fun w => pstr_idx r 7 (by decide) w
                        have D7 := hide ed7
                        clear ed7
                        obtain ⟨d8, ed8⟩ : ∃ d, at' rows (16 * r + 8) = d := ⟨_, rfl⟩
                        have e8 : Hid (d8 < 16) := by rw [← ed8]; exact rows_lt (by omega)
                        have P8 : Hid (∀ w, (Instr.index 9 (.string p) (.int .i64 8)).run Try.prog w = .ok (.int .u8 ((dch d8 : Nat) : Int)) w) := by rw [← ed8, ← ep]; exact fun w => pstr_idx r 8 (by decide) w
                        have D8 := hide ed8
                        clear ed8
                        obtain ⟨d9, ed9⟩ : ∃ d, at' rows (16 * r + 9) = d := ⟨_, rfl⟩
                        have e9 : Hid (d9 < 16) := by rw [← ed9]; exact rows_lt (by omega)
                        have P9 : Hid (∀ w, (Instr.index 9 (.string p) (.int .i64 9)).run Try.prog w = .ok (.int .u8 ((dch d9 : Nat) : Int)) w) := by rw [← ed9, ← ep]; exact fun w => pstr_idx r 9 (by decide) w
                        have D9 := hide ed9
                        clear ed9
                        obtain ⟨d10, ed10⟩ : ∃ d, at' rows (16 * r + 10) = d := ⟨_, rfl⟩
                        have e10 : Hid (d10 < 16) := by rw [← ed10]; exact rows_lt (by omega)
                        have P10 : Hid (∀ w, (Instr.index 9 (.string p) (.int .i64 10)).run Try.prog w = .ok (.int .u8 ((dch d10 : Nat) : Int)) w) := by rw [← ed10, ← ep]; exact fun w => pstr_idx r 10 (by decide) w
                        have D10 := hide ed10
                        clear ed10
                        obtain ⟨d11, ed11⟩ : ∃ d, at' rows (16 * r + 11) = d := ⟨_, rfl⟩
                        have e11 : Hid (d11 < 16) := by rw [← ed11]; exact rows_lt (by omega)
                        have P11 : Hid (∀ w, (Instr.index 9 (.string p) (.int .i64 11)).run Try.prog w = .ok (.int .u8 ((dch d11 : Nat) : Int)) w) := by rw [← ed11, ← ep]; exact fun w => pstr_idx r 11 (by decide) w
                        have D11 := hide ed11
                        clear ed11
                        obtain ⟨d12, ed12⟩ : ∃ d, at' rows (16 * r + 12) = d := ⟨_, rfl⟩
                        have e12 : Hid (d12 < 16) := by rw [← ed12]; exact rows_lt (by omega)
                        have P12 : Hid (∀ w, (Instr.index 9 (.string p) (.int .i64 12)).run Try.prog w = .ok (.int .u8 ((dch d12 : Nat) : Int)) w) := by rw [← ed12, ← ep]; exact fun w => pstr_idx r 12 (by decide) w
                        have D12 := hide ed12
                        clear ed12
                        obtain ⟨d13, ed13⟩ : ∃ d, at' rows (16 * r + 13) = d := ⟨_, rfl⟩
                        have e13 : Hid (d13 < 16) := by rw [← ed13]; exact rows_lt (by omega)
                        have P13 : Hid (∀ w, (Instr.index 9 (.string p) (.int .i64 13)).run Try.prog w = .ok (.int .u8 ((dch d13 : Nat) : Int)) w) := by rw [← ed13, ← ep]; exact fun w => pstr_idx r 13 (by decide) w
                        have D13 := hide ed13
                        clear ed13
                        obtain ⟨d14, ed14⟩ : ∃ d, at' rows (16 * r + 14) = d := ⟨_, rfl⟩
                        have e14 : Hid (d14 < 16) := by rw [← ed14]; exact rows_lt (by omega)
                        have P14 : Hid (∀ w, (Instr.index 9 (.string p) (.int .i64 14)).run Try.prog w = .ok (.int .u8 ((dch d14 : Nat) : Int)) w) := by rw [← ed14, ← ep]; exact fun w => pstr_idx r 14 (by decide) w
                        have D14 := hide ed14
                        clear ed14
                        obtain ⟨d15, ed15⟩ : ∃ d, at' rows (16 * r + 15) = d := ⟨_, rfl⟩
                        have e15 : Hid (d15 < 16) := by rw [← ed15]; exact rows_lt (by omega)
                        have P15 : Hid (∀ w, (Instr.index 9 (.string p) (.int .i64 15)).run Try.prog w = .ok (.int .u8 ((dch d15 : Nat) : Int)) w) := by rw [← ed15, ← ep]; exact fun w => pstr_idx r 15 (by decide) w
                        have D15 := hide ed15
                        clear ed15
                        have HG5 := hide (show r + 1 + g5 = 10 by omega)
                        clear hRV hBt eV ep hrg hr10
                        go_wp2_with fail
                        have hm0 := (HMS.out.bt (b := gm) HBt.out (by omega)).u0 d0 (by rw [HML.out]; exact e0.out)
                        have hm1 := (HMS.out.bt (b := gm) HBt.out (by omega)).u0 d1 (by rw [HML.out]; exact e1.out)
                        obtain ⟨X, eX⟩ : ∃ X, at' M d0 = X := ⟨_, rfl⟩
                        obtain ⟨Y, eY⟩ : ∃ Y, at' M d1 = Y := ⟨_, rfl⟩
                        rw [eX] at hm0
                        rw [eY] at hm1
                        have hX0 := hide eX
                        have hY0 := hide eY
                        have p0 := P0.out
                        have p1 := P1.out
                        have l0 := e0.out
                        have l1 := e1.out
                        have l0I : (d0 : Int) < 16 := by omega
                        have l1I : (d1 : Int) < 16 := by omega
                        clear eX eY
                        go_wp2_with fail
                        refine region_tail 13 (by kernel_rfl) (by kernel_rfl) ?_
                        simp only [List.take_succ_cons, List.take_zero, List.drop_succ_cons, List.drop_zero]
                        repeat still_step
                        still_call (place_any d0 _ l0)
                        repeat still_step
                        still_call (place_any d1 _ l1)
                        repeat still_step
                        refine wpStill_nil ?_
                        go_wp2_with fail
                        refine (rfmix_any 0 4 8 12 X Y HV.out.drew (by have := HVL0.out; exact this) HVT0.out (by decide) (by decide) (by decide) (by decide) (by decide) (by decide) (by decide) (by decide) (by decide) (by decide)).mono ?_
                        rintro e z1 ⟨rfl, hRz, hBz⟩
                        obtain ⟨V1, eV1⟩ : ∃ Z, mx V 0 4 8 12 X Y = Z := ⟨_, rfl⟩
                        rw [eV1] at hRz
                        have HV1 := hide hRz
                        have HBt1 := hide (HBt.out.drew.trans hBz)
                        have HVL1 : Hid (V1.length = 16) := by rw [← eV1, mx_length]; exact HVL0.out
                        have HVT1 : Hid (Lt V1) := by rw [← eV1]; exact mx_lt HVT0.out _ _ _ _ _ _
                        have EV1 := hide eV1
                        clear hRz hBz eV1 HV HBt HVL0 HVT0 hm0 hm1 p0 p1 l0 l1 l0I l1I
                        as_aux_lemma =>
                          have hm0 := (HMS.out.bt (b := gm) HBt1.out (by omega)).u0 d2 (by rw [HML.out]; exact e2.out)
                          have hm1 := (HMS.out.bt (b := gm) HBt1.out (by omega)).u0 d3 (by rw [HML.out]; exact e3.out)
                          obtain ⟨X, eX⟩ : ∃ X, at' M d2 = X := ⟨_, rfl⟩
                          obtain ⟨Y, eY⟩ : ∃ Y, at' M d3 = Y := ⟨_, rfl⟩
                          rw [eX] at hm0
                          rw [eY] at hm1
                          have hX1 := hide eX
                          have hY1 := hide eY
                          have p0 := P2.out
                          have p1 := P3.out
                          have l0 := e2.out
                          have l1 := e3.out
                          have l0I : (d2 : Int) < 16 := by omega
                          have l1I : (d3 : Int) < 16 := by omega
                          clear eX eY
                          go_wp2_with fail
                          refine region_tail 13 (by kernel_rfl) (by kernel_rfl) ?_
                          simp only [List.take_succ_cons, List.take_zero, List.drop_succ_cons, List.drop_zero]
                          repeat still_step
                          still_call (place_any d2 _ l0)
                          repeat still_step
                          still_call (place_any d3 _ l1)
                          repeat still_step
                          refine wpStill_nil ?_
                          go_wp2_with fail
                          refine (rfmix_any 1 5 9 13 X Y HV1.out.drew (by have := HVL1.out; exact this) HVT1.out (by decide) (by decide) (by decide) (by decide) (by decide) (by decide) (by decide) (by decide) (by decide) (by decide)).mono ?_
                          rintro e z2 ⟨rfl, hRz, hBz⟩
                          obtain ⟨V2, eV2⟩ : ∃ Z, mx V1 1 5 9 13 X Y = Z := ⟨_, rfl⟩
                          rw [eV2] at hRz
                          have HV2 := hide hRz
                          have HBt2 := hide (HBt1.out.drew.trans hBz)
                          have HVL2 : Hid (V2.length = 16) := by rw [← eV2, mx_length]; exact HVL1.out
                          have HVT2 : Hid (Lt V2) := by rw [← eV2]; exact mx_lt HVT1.out _ _ _ _ _ _
                          have EV2 := hide eV2
                          clear hRz hBz eV2 HV1 HBt1 HVL1 HVT1 hm0 hm1 p0 p1 l0 l1 l0I l1I
                          as_aux_lemma =>
                            have hm0 := (HMS.out.bt (b := gm) HBt2.out (by omega)).u0 d4 (by rw [HML.out]; exact e4.out)
                            have hm1 := (HMS.out.bt (b := gm) HBt2.out (by omega)).u0 d5 (by rw [HML.out]; exact e5.out)
                            obtain ⟨X, eX⟩ : ∃ X, at' M d4 = X := ⟨_, rfl⟩
                            obtain ⟨Y, eY⟩ : ∃ Y, at' M d5 = Y := ⟨_, rfl⟩
                            rw [eX] at hm0
                            rw [eY] at hm1
                            have hX2 := hide eX
                            have hY2 := hide eY
                            have p0 := P4.out
                            have p1 := P5.out
                            have l0 := e4.out
                            have l1 := e5.out
                            have l0I : (d4 : Int) < 16 := by omega
                            have l1I : (d5 : Int) < 16 := by omega
                            clear eX eY
                            go_wp2_with fail
                            refine region_tail 13 (by kernel_rfl) (by kernel_rfl) ?_
                            simp only [List.take_succ_cons, List.take_zero, List.drop_succ_cons, List.drop_zero]
                            repeat still_step
                            still_call (place_any d4 _ l0)
                            repeat still_step
                            still_call (place_any d5 _ l1)
                            repeat still_step
                            refine wpStill_nil ?_
                            go_wp2_with fail
                            refine (rfmix_any 2 6 10 14 X Y HV2.out.drew (by have := HVL2.out; exact this) HVT2.out (by decide) (by decide) (by decide) (by decide) (by decide) (by decide) (by decide) (by decide) (by decide) (by decide)).mono ?_
                            rintro e z3 ⟨rfl, hRz, hBz⟩
                            obtain ⟨V3, eV3⟩ : ∃ Z, mx V2 2 6 10 14 X Y = Z := ⟨_, rfl⟩
                            rw [eV3] at hRz
                            have HV3 := hide hRz
                            have HBt3 := hide (HBt2.out.drew.trans hBz)
                            have HVL3 : Hid (V3.length = 16) := by rw [← eV3, mx_length]; exact HVL2.out
                            have HVT3 : Hid (Lt V3) := by rw [← eV3]; exact mx_lt HVT2.out _ _ _ _ _ _
                            have EV3 := hide eV3
                            clear hRz hBz eV3 HV2 HBt2 HVL2 HVT2 hm0 hm1 p0 p1 l0 l1 l0I l1I
                            as_aux_lemma =>
                              have hm0 := (HMS.out.bt (b := gm) HBt3.out (by omega)).u0 d6 (by rw [HML.out]; exact e6.out)
                              have hm1 := (HMS.out.bt (b := gm) HBt3.out (by omega)).u0 d7 (by rw [HML.out]; exact e7.out)
                              obtain ⟨X, eX⟩ : ∃ X, at' M d6 = X := ⟨_, rfl⟩
                              obtain ⟨Y, eY⟩ : ∃ Y, at' M d7 = Y := ⟨_, rfl⟩
                              rw [eX] at hm0
                              rw [eY] at hm1
                              have hX3 := hide eX
                              have hY3 := hide eY
                              have p0 := P6.out
                              have p1 := P7.out
                              have l0 := e6.out
                              have l1 := e7.out
                              have l0I : (d6 : Int) < 16 := by omega
                              have l1I : (d7 : Int) < 16 := by omega
                              clear eX eY
                              go_wp2_with fail
                              refine region_tail 13 (by kernel_rfl) (by kernel_rfl) ?_
                              simp only [List.take_succ_cons, List.take_zero, List.drop_succ_cons, List.drop_zero]
                              repeat still_step
                              still_call (place_any d6 _ l0)
                              repeat still_step
                              still_call (place_any d7 _ l1)
                              repeat still_step
                              refine wpStill_nil ?_
                              go_wp2_with fail
                              refine (rfmix_any 3 7 11 15 X Y HV3.out.drew (by have := HVL3.out; exact this) HVT3.out (by decide) (by decide) (by decide) (by decide) (by decide) (by decide) (by decide) (by decide) (by decide) (by decide)).mono ?_
                              rintro e z4 ⟨rfl, hRz, hBz⟩
                              obtain ⟨V4, eV4⟩ : ∃ Z, mx V3 3 7 11 15 X Y = Z := ⟨_, rfl⟩
                              rw [eV4] at hRz
                              have HV4 := hide hRz
                              have HBt4 := hide (HBt3.out.drew.trans hBz)
                              have HVL4 : Hid (V4.length = 16) := by rw [← eV4, mx_length]; exact HVL3.out
                              have HVT4 : Hid (Lt V4) := by rw [← eV4]; exact mx_lt HVT3.out _ _ _ _ _ _
                              have EV4 := hide eV4
                              clear hRz hBz eV4 HV3 HBt3 HVL3 HVT3 hm0 hm1 p0 p1 l0 l1 l0I l1I
                              as_aux_lemma =>
                                have hm0 := (HMS.out.bt (b := gm) HBt4.out (by omega)).u0 d8 (by rw [HML.out]; exact e8.out)
                                have hm1 := (HMS.out.bt (b := gm) HBt4.out (by omega)).u0 d9 (by rw [HML.out]; exact e9.out)
                                obtain ⟨X, eX⟩ : ∃ X, at' M d8 = X := ⟨_, rfl⟩
                                obtain ⟨Y, eY⟩ : ∃ Y, at' M d9 = Y := ⟨_, rfl⟩
                                rw [eX] at hm0
                                rw [eY] at hm1
                                have hX4 := hide eX
                                have hY4 := hide eY
                                have p0 := P8.out
                                have p1 := P9.out
                                have l0 := e8.out
                                have l1 := e9.out
                                have l0I : (d8 : Int) < 16 := by omega
                                have l1I : (d9 : Int) < 16 := by omega
                                clear eX eY
                                go_wp2_with fail
                                refine region_tail 13 (by kernel_rfl) (by kernel_rfl) ?_
                                simp only [List.take_succ_cons, List.take_zero, List.drop_succ_cons, List.drop_zero]
                                repeat still_step
                                still_call (place_any d8 _ l0)
                                repeat still_step
                                still_call (place_any d9 _ l1)
                                repeat still_step
                                refine wpStill_nil ?_
                                go_wp2_with fail
                                refine (rfmix_any 0 5 10 15 X Y HV4.out.drew (by have := HVL4.out; exact this) HVT4.out (by decide) (by decide) (by decide) (by decide) (by decide) (by decide) (by decide) (by decide) (by decide) (by decide)).mono ?_
                                rintro e z5 ⟨rfl, hRz, hBz⟩
                                obtain ⟨V5, eV5⟩ : ∃ Z, mx V4 0 5 10 15 X Y = Z := ⟨_, rfl⟩
                                rw [eV5] at hRz
                                have HV5 := hide hRz
                                have HBt5 := hide (HBt4.out.drew.trans hBz)
                                have HVL5 : Hid (V5.length = 16) := by rw [← eV5, mx_length]; exact HVL4.out
                                have HVT5 : Hid (Lt V5) := by rw [← eV5]; exact mx_lt HVT4.out _ _ _ _ _ _
                                have EV5 := hide eV5
                                clear hRz hBz eV5 HV4 HBt4 HVL4 HVT4 hm0 hm1 p0 p1 l0 l1 l0I l1I
                                as_aux_lemma =>
                                  have hm0 := (HMS.out.bt (b := gm) HBt5.out (by omega)).u0 d10 (by rw [HML.out]; exact e10.out)
                                  have hm1 := (HMS.out.bt (b := gm) HBt5.out (by omega)).u0 d11 (by rw [HML.out]; exact e11.out)
                                  obtain ⟨X, eX⟩ : ∃ X, at' M d10 = X := ⟨_, rfl⟩
                                  obtain ⟨Y, eY⟩ : ∃ Y, at' M d11 = Y := ⟨_, rfl⟩
                                  rw [eX] at hm0
                                  rw [eY] at hm1
                                  have hX5 := hide eX
                                  have hY5 := hide eY
                                  have p0 := P10.out
                                  have p1 := P11.out
                                  have l0 := e10.out
                                  have l1 := e11.out
                                  have l0I : (d10 : Int) < 16 := by omega
                                  have l1I : (d11 : Int) < 16 := by omega
                                  clear eX eY
                                  go_wp2_with fail
                                  refine region_tail 13 (by kernel_rfl) (by kernel_rfl) ?_
                                  simp only [List.take_succ_cons, List.take_zero, List.drop_succ_cons, List.drop_zero]
                                  repeat still_step
                                  still_call (place_any d10 _ l0)
                                  repeat still_step
                                  still_call (place_any d11 _ l1)
                                  repeat still_step
                                  refine wpStill_nil ?_
                                  go_wp2_with fail
                                  refine (rfmix_any 1 6 11 12 X Y HV5.out.drew (by have := HVL5.out; exact this) HVT5.out (by decide) (by decide) (by decide) (by decide) (by decide) (by decide) (by decide) (by decide) (by decide) (by decide)).mono ?_
                                  rintro e z6 ⟨rfl, hRz, hBz⟩
                                  obtain ⟨V6, eV6⟩ : ∃ Z, mx V5 1 6 11 12 X Y = Z := ⟨_, rfl⟩
                                  rw [eV6] at hRz
                                  have HV6 := hide hRz
                                  have HBt6 := hide (HBt5.out.drew.trans hBz)
                                  have HVL6 : Hid (V6.length = 16) := by rw [← eV6, mx_length]; exact HVL5.out
                                  have HVT6 : Hid (Lt V6) := by rw [← eV6]; exact mx_lt HVT5.out _ _ _ _ _ _
                                  have EV6 := hide eV6
                                  clear hRz hBz eV6 HV5 HBt5 HVL5 HVT5 hm0 hm1 p0 p1 l0 l1 l0I l1I
                                  as_aux_lemma =>
                                    have hm0 := (HMS.out.bt (b := gm) HBt6.out (by omega)).u0 d12 (by rw [HML.out]; exact e12.out)
                                    have hm1 := (HMS.out.bt (b := gm) HBt6.out (by omega)).u0 d13 (by rw [HML.out]; exact e13.out)
                                    obtain ⟨X, eX⟩ : ∃ X, at' M d12 = X := ⟨_, rfl⟩
                                    obtain ⟨Y, eY⟩ : ∃ Y, at' M d13 = Y := ⟨_, rfl⟩
                                    rw [eX] at hm0
                                    rw [eY] at hm1
                                    have hX6 := hide eX
                                    have hY6 := hide eY
                                    have p0 := P12.out
                                    have p1 := P13.out
                                    have l0 := e12.out
                                    have l1 := e13.out
                                    have l0I : (d12 : Int) < 16 := by omega
                                    have l1I : (d13 : Int) < 16 := by omega
                                    clear eX eY
                                    go_wp2_with fail
                                    refine region_tail 13 (by kernel_rfl) (by kernel_rfl) ?_
                                    simp only [List.take_succ_cons, List.take_zero, List.drop_succ_cons, List.drop_zero]
                                    repeat still_step
                                    still_call (place_any d12 _ l0)
                                    repeat still_step
                                    still_call (place_any d13 _ l1)
                                    repeat still_step
                                    refine wpStill_nil ?_
                                    go_wp2_with fail
                                    refine (rfmix_any 2 7 8 13 X Y HV6.out.drew (by have := HVL6.out; exact this) HVT6.out (by decide) (by decide) (by decide) (by decide) (by decide) (by decide) (by decide) (by decide) (by decide) (by decide)).mono ?_
                                    rintro e z7 ⟨rfl, hRz, hBz⟩
                                    obtain ⟨V7, eV7⟩ : ∃ Z, mx V6 2 7 8 13 X Y = Z := ⟨_, rfl⟩
                                    rw [eV7] at hRz
                                    have HV7 := hide hRz
                                    have HBt7 := hide (HBt6.out.drew.trans hBz)
                                    have HVL7 : Hid (V7.length = 16) := by rw [← eV7, mx_length]; exact HVL6.out
                                    have HVT7 : Hid (Lt V7) := by rw [← eV7]; exact mx_lt HVT6.out _ _ _ _ _ _
                                    have EV7 := hide eV7
                                    clear hRz hBz eV7 HV6 HBt6 HVL6 HVT6 hm0 hm1 p0 p1 l0 l1 l0I l1I
                                    as_aux_lemma =>
                                      have hm0 := (HMS.out.bt (b := gm) HBt7.out (by omega)).u0 d14 (by rw [HML.out]; exact e14.out)
                                      have hm1 := (HMS.out.bt (b := gm) HBt7.out (by omega)).u0 d15 (by rw [HML.out]; exact e15.out)
                                      obtain ⟨X, eX⟩ : ∃ X, at' M d14 = X := ⟨_, rfl⟩
                                      obtain ⟨Y, eY⟩ : ∃ Y, at' M d15 = Y := ⟨_, rfl⟩
                                      rw [eX] at hm0
                                      rw [eY] at hm1
                                      have hX7 := hide eX
                                      have hY7 := hide eY
                                      have p0 := P14.out
                                      have p1 := P15.out
                                      have l0 := e14.out
                                      have l1 := e15.out
                                      have l0I : (d14 : Int) < 16 := by omega
                                      have l1I : (d15 : Int) < 16 := by omega
                                      clear eX eY
                                      go_wp2_with fail
                                      refine region_tail 13 (by kernel_rfl) (by kernel_rfl) ?_
                                      simp only [List.take_succ_cons, List.take_zero, List.drop_succ_cons, List.drop_zero]
                                      repeat still_step
                                      still_call (place_any d14 _ l0)
                                      repeat still_step
                                      still_call (place_any d15 _ l1)
                                      repeat still_step
                                      refine wpStill_nil ?_
                                      go_wp2_with fail
                                      refine (rfmix_any 3 4 9 14 X Y HV7.out.drew (by have := HVL7.out; exact this) HVT7.out (by decide) (by decide) (by decide) (by decide) (by decide) (by decide) (by decide) (by decide) (by decide) (by decide)).mono ?_
                                      rintro e z8 ⟨rfl, hRz, hBz⟩
                                      obtain ⟨V8, eV8⟩ : ∃ Z, mx V7 3 4 9 14 X Y = Z := ⟨_, rfl⟩
                                      rw [eV8] at hRz
                                      have HV8 := hide hRz
                                      have HBt8 := hide (HBt7.out.drew.trans hBz)
                                      have HVL8 : Hid (V8.length = 16) := by rw [← eV8, mx_length]; exact HVL7.out
                                      have HVT8 : Hid (Lt V8) := by rw [← eV8]; exact mx_lt HVT7.out _ _ _ _ _ _
                                      have EV8 := hide eV8
                                      clear hRz hBz eV8 HV7 HBt7 HVL7 HVT7 hm0 hm1 p0 p1 l0 l1 l0I l1I
                                      as_aux_lemma =>
                                        go_wp2_with fail
                                        go_roundg g5
                                        case measure => omega
                                        case rel =>
                                          refine ⟨r + 1, HG5.out, by go_num, ?_, HBt8.out⟩
                                          rw [rds_succ, HEV.out, rnd_eight, D0.out, D1.out, D2.out, D3.out, D4.out, D5.out, D6.out, D7.out, D8.out, D9.out, D10.out, D11.out, D12.out, D13.out, D14.out, D15.out, hX0.out, hY0.out, hX1.out, hY1.out, hX2.out, hY2.out, hX3.out, hY3.out, hX4.out, hY4.out, hX5.out, hY5.out, hX6.out, hY6.out, hX7.out, hY7.out, EV1.out, EV2.out, EV3.out, EV4.out, EV5.out, EV6.out, EV7.out, EV8.out]
                                          exact HV8.out
                      · obtain rfl : r = 10 := by omega
                        obtain ⟨R, eR⟩ : ∃ Z, rds M V0 10 = Z := ⟨_, rfl⟩
                        rw [eR] at hRV
                        have nR : R.length = 16 := by rw [← eR, rds_length]; exact HV0.out.2.1
                        have lR : Lt R := by rw [← eR]; exact rds_lt HV0.out.2.2 _
                        have HER := hide (And.intro eR (And.intro nR lR))
                        have HRV := hide hRV
                        obtain ⟨wy, ewy⟩ : ∃ v, v = wr := ⟨_, rfl⟩
                        subst ewy
                        have hv7 : gv ≠ g7 := fun h => h7v h.symm
                        have HR7y := hide (HR7z.out.bt hBt h7v)
                        have HBw := hide hBt
                        clear hRV hBt eR nR lR hrg hr10
                        go_wp2_with fail
                        go_loopg [19] 8 (fun g tt wr => ∃ i : Nat, i + g = 8 ∧ tt = .int .i64 i ∧ Row wr g7 0 (us (upd H R i)) ∧ Bt g7 wy wr)
                        case atStart => exact ⟨0, rfl, rfl, by rw [upd_zero nH]; exact HR7y.out, Bt.refl _ _⟩
                        case round =>
                          as_aux_lemma =>
                          clear HR7y
                          obtain ⟨i, hig, rfl, hRU, hBt⟩ := hrel
                          have HBu := hide hBt
                          have HRU := hide hRU
                          by_cases hi8 : i < 8
                          · obtain ⟨g9, rfl⟩ : ∃ g9, gk = g9 + 1 := ⟨gk - 1, by omega⟩
                            have hi8I : (i : Int) < 8 := by omega
                            have hi16I : (i : Int) < 16 := by omega
                            have hi88 : (i : Int) + 8 < 16 := by omega
                            have hi0 : (0 : Int) ≤ (i : Int) + 8 := by omega
                            have hiw : IntKind.i64.wrap ((i : Int) + 8) = (i : Int) + 8 := IntWalk.i64_in _ (by omega)
                            have hin : ((i : Int) + 8).toNat = i + 8 := by omega
                            have hch := hRU.u0 i (by rw [upd_length]; exact hi8)
                            rw [upd_at _ _ _ hi8] at hch
                            have hRvw := HRV.out.bt hBt hv7
                            have hc1 := hRvw.u0 i (by rw [HER.out.2.1]; omega)
                            have hc2 := hRvw.u0 (i + 8) (by rw [HER.out.2.1]; omega)
                            have hfr := hRU.f0 i (by rw [us_length, upd_length]; exact hi8)
                            have lh := HLH.out i
                            have lr := HER.out.2.2 i
                            have lr8 := HER.out.2.2 (i + 8)
                            obtain ⟨hh, eh⟩ : ∃ z, at' H i = z := ⟨_, rfl⟩
                            obtain ⟨ra, era⟩ : ∃ z, at' R i = z := ⟨_, rfl⟩
                            obtain ⟨rb, erb⟩ : ∃ z, at' R (i + 8) = z := ⟨_, rfl⟩
                            rw [eh] at hch lh
                            rw [era] at hc1 lr
                            rw [erb] at hc2 lr8
                            have q1 := xr_int lh lr
                            have q2 := xr_int (xr_lt lh lr) lr8
                            obtain ⟨w7, hw7, HRU2, HBu2⟩ : ∃ W, (wr.setCell ⟨g7, i, none⟩ (.int .u32 ((((hh ^^^ ra) ^^^ rb : Nat)) : Int))).drew = W ∧ Hid (Row W g7 0 (us (upd H R (i + 1)))) ∧ Hid (Bt g7 wy W) :=
                              ⟨_, rfl, by rw [← upd_set H R i hi8, eh, era, erb, us_set]; exact (hRU.set0 (by rw [us_length, upd_length]; exact hi8) _).drew, (hBt.setCell _ _).drew⟩
                            have HI8 := hide (show i + 1 + g9 = 8 by omega)
                            clear hRU hBt hRvw eh era erb lh lr lr8 hig hi8 HBu HRU
                            go_wp2_with fail
                            refine region_tail 17 (by kernel_rfl) (by kernel_rfl) ?_
                            simp only [List.take_succ_cons, List.take_zero, List.drop_succ_cons, List.drop_zero]
                            repeat still_step
                            refine wpStill_nil ?_
                            go_wp2_with fail
                            go_roundg g9
                            case measure => omega
                            case rel => exact ⟨i + 1, HI8.out, by go_num, HRU2.out, HBu2.out⟩
                          · obtain rfl : i = 8 := by omega
                            have hfin : upd H R 8 = hq (h0 n) l (q + 1) := by
                              rw [← HER.out.1, ← HV0.out.1, upd_all, ← HEH.out, ← HEM.out, ← HP.out, ← HG.out, ← HEF.out]
                              exact hq_more _ _ _ _ HQE.out
                            rw [hfin] at hRU
                            have h67 : g6 ≠ g7 := by omega
                            have h87 : g8 ≠ g7 := by omega
                            have z6 := (HR6z.out.bt HBw.out h6v).bt hBt h67
                            have z8 := (HR8z.out.bt HBw.out h8v).bt hBt h87
                            have zB := HBz.out.trans ((HBw.out.below (by have := HBz.out.size; have := HB0S.out; omega) HBz.out.size).trans (hBt.below (by have := HB.out.size; omega) (by have := HBz.out.size; have := HBw.out.size; omega)))
                            have Z6 := hide z6
                            have Z7 := hide hRU
                            have Z8 := hide z8
                            have ZB := hide zB
                            clear hRU hBt z6 z8 zB HBu HRU hig hi8 hfin
                            go_wp2_with fail
                            go_roundg g3
                            case measure => omega
                            case rel => exact ⟨q + 1, HQ.out.1, by rw [HQ.out.2]; go_num, Z6.out, Z7.out, Z8.out, ZB.out⟩
            · skip
              obtain rfl : q = qt + 1 := by omega
              have hfN : ¬ ((f : Int) < (N : Int)) := by have := HN.out.1; omega
              have hHF : H = fin (h0 n) l := by rw [← HEH.out, ← HT.out.2.1, ← HT.out.1, hq_all]
              have HHF := hide hHF
              have h7w := HR7.out.lt
              obtain ⟨wo, ewo⟩ : ∃ v, v = wr := ⟨_, rfl⟩
              subst ewo
              clear hHF hlt hqg ef
              go_wp2_with fail
              go_loopg [20, 21] 8 (fun g v tt wr => ∃ i : Nat, i + g = 8 ∧ tt = .int .i64 i ∧ Ow wr wo.heap.size v (4 * i) (bs (dig H i)) ∧ Below wo.heap.size wo wr)
              case atStart => exact ⟨0, rfl, rfl, Ow.nil _ _, Below.refl _ _⟩
              case round =>
                as_aux_lemma =>
                obtain ⟨i, hig, rfl, hO, hBl⟩ := hrel
                have HO := hide hO
                have HBL := hide hBl
                obtain ⟨ao, co, rfl, hco⟩ := hO.shape
                clear hO hBl
                by_cases hi8 : i < 8
                · obtain ⟨g5, rfl⟩ : ∃ g5, gk = g5 + 1 := ⟨gk - 1, by omega⟩
                  have hi8I : (i : Int) < 8 := by omega
                  have R7 := HR7.out.below HBL.out h7w
                  have hcx := R7.u0 i (by rw [nH]; exact hi8)
                  have lx := HLH.out i
                  obtain ⟨x, ex⟩ : ∃ x, at' H i = x := ⟨_, rfl⟩
                  rw [ex] at hcx lx
                  have k1 : IntKind.u8.wrap ((x : Int) % 256) = (x : Int) % 256 := IntWalk.u8_in _ (by omega)
                  have k2 : IntKind.u32.wrap ((x : Int) / 256) = (x : Int) / 256 := IntWalk.u32_in _ (by omega)
                  have k3 : IntKind.u32.wrap ((x : Int) / 65536) = (x : Int) / 65536 := IntWalk.u32_in _ (by omega)
                  have k4 : IntKind.u32.wrap ((x : Int) / 16777216) = (x : Int) / 16777216 := IntWalk.u32_in _ (by omega)
                  have k5 : IntKind.u8.wrap ((x : Int) / 256 % 256) = (x : Int) / 256 % 256 := IntWalk.u8_in _ (by omega)
                  have k6 : IntKind.u8.wrap ((x : Int) / 65536 % 256) = (x : Int) / 65536 % 256 := IntWalk.u8_in _ (by omega)
                  have k7 : IntKind.u8.wrap ((x : Int) / 16777216) = (x : Int) / 16777216 := IntWalk.u8_in _ (by omega)
                  have tm0 : (x : Int).tmod 256 = (x : Int) % 256 := Int.tmod_eq_emod_of_nonneg (by omega)
                  have tm1 : ((x : Int) / 256).tmod 256 = (x : Int) / 256 % 256 := Int.tmod_eq_emod_of_nonneg (by omega)
                  have tm2 : ((x : Int) / 65536).tmod 256 = (x : Int) / 65536 % 256 := Int.tmod_eq_emod_of_nonneg (by omega)
                  have k8 : IntKind.u32.wrap ((x : Int) % 256) = (x : Int) % 256 := IntWalk.u32_in _ (by omega)
                  have HX := hide (And.intro ex lx)
                  have HI := hide (show i + 1 + g5 = 8 ∧ 4 * (i + 1) = 4 * i + 4 ∧ 4 * i + 4 ≤ 1000000 ∧ i < 8 from ⟨by omega, by omega, by omega, hi8⟩)
                  clear R7 lx ex hig hi8
                  go_wp2_with fail
                  refine wp_region_ord (fun w9 => w9.cell? ⟨g7, i, none⟩ = some (.int .u32 (x : Int))) 29 [(0, some true), (1, some true), (2, some true), (3, some true), (4, some false), (5, some true), (6, some true), (7, some true), (8, some true), (9, some true), (10, some false), (11, some true), (12, some true), (13, some true), (14, some true), (15, some true), (16, some true), (17, some false), (18, some true), (19, some true), (20, some true), (21, some true), (22, some true), (23, some true), (24, some false), (25, some true), (26, some true), (27, none), (28, none), (29, none)] (by kernel_rfl) (by kernel_rfl) (fun _ _ _ _ h => h) hcx ?_
                  refine ord_pure (o := ⟨some 302, _, _, _, _, _⟩) (.slice ao (4 * i) co) rfl (by kernel_rfl) (fun w9 => by go_simp) ?_
                  simp only [Act.put, List.setIfInBounds_toArray, List.set_cons_zero, List.set_cons_succ]
                  refine ord_pure (o := ⟨some 303, _, _, _, _, _⟩) (.slice (some ⟨g7, 0, none⟩) 8 c7) rfl (by kernel_rfl) (fun w9 => by go_simp) ?_
                  simp only [Act.put, List.setIfInBounds_toArray, List.set_cons_zero, List.set_cons_succ]
                  refine ord_pure (o := ⟨some 304, _, _, _, _, _⟩) (.int .i64 (i : Int)) rfl (by kernel_rfl) (fun w9 => by go_simp) ?_
                  simp only [Act.put, List.setIfInBounds_toArray, List.set_cons_zero, List.set_cons_succ]
                  refine ord_pure (o := ⟨some 305, _, _, _, _, _⟩) (.pointer (some ⟨g7, i, none⟩)) rfl (by kernel_rfl) (fun w9 => by go_simp) ?_
                  simp only [Act.put, List.setIfInBounds_toArray, List.set_cons_zero, List.set_cons_succ]
                  refine ord_held (o := ⟨some 306, _, _, _, _, _⟩) (.int .u32 (x : Int)) rfl (by kernel_rfl) (fun w9 h9 => by go_simp) ?_
                  simp only [Act.put, List.setIfInBounds_toArray, List.set_cons_zero, List.set_cons_succ]
                  refine ord_pure (o := ⟨some 307, _, _, _, _, _⟩) (.int .u32 ((x : Int) % 256)) rfl (by kernel_rfl) (fun w9 => by go_simp) ?_
                  simp only [Act.put, List.setIfInBounds_toArray, List.set_cons_zero, List.set_cons_succ]
                  refine ord_pure (o := ⟨some 308, _, _, _, _, _⟩) (.int .u8 ((x : Int) % 256)) rfl (by kernel_rfl) (fun w9 => by go_simp) ?_
                  simp only [Act.put, List.setIfInBounds_toArray, List.set_cons_zero, List.set_cons_succ]
                  refine ord_pure (o := ⟨some 309, _, _, _, _, _⟩) (.slice (some ⟨g7, 0, none⟩) 8 c7) rfl (by kernel_rfl) (fun w9 => by go_simp) ?_
                  simp only [Act.put, List.setIfInBounds_toArray, List.set_cons_zero, List.set_cons_succ]
                  refine ord_pure (o := ⟨some 310, _, _, _, _, _⟩) (.int .i64 (i : Int)) rfl (by kernel_rfl) (fun w9 => by go_simp) ?_
                  simp only [Act.put, List.setIfInBounds_toArray, List.set_cons_zero, List.set_cons_succ]
                  refine ord_pure (o := ⟨some 311, _, _, _, _, _⟩) (.pointer (some ⟨g7, i, none⟩)) rfl (by kernel_rfl) (fun w9 => by go_simp) ?_
                  simp only [Act.put, List.setIfInBounds_toArray, List.set_cons_zero, List.set_cons_succ]
                  refine ord_held (o := ⟨some 312, _, _, _, _, _⟩) (.int .u32 (x : Int)) rfl (by kernel_rfl) (fun w9 h9 => by go_simp) ?_
                  simp only [Act.put, List.setIfInBounds_toArray, List.set_cons_zero, List.set_cons_succ]
                  refine ord_pure (o := ⟨some 313, _, _, _, _, _⟩) (.int .u32 ((x : Int) / 256)) rfl (by kernel_rfl) (fun w9 => by go_simp) ?_
                  simp only [Act.put, List.setIfInBounds_toArray, List.set_cons_zero, List.set_cons_succ]
                  refine ord_pure (o := ⟨some 314, _, _, _, _, _⟩) (.int .u32 ((x : Int) / 256 % 256)) rfl (by kernel_rfl) (fun w9 => by go_simp) ?_
                  simp only [Act.put, List.setIfInBounds_toArray, List.set_cons_zero, List.set_cons_succ]
                  refine ord_pure (o := ⟨some 315, _, _, _, _, _⟩) (.int .u8 ((x : Int) / 256 % 256)) rfl (by kernel_rfl) (fun w9 => by go_simp) ?_
                  simp only [Act.put, List.setIfInBounds_toArray, List.set_cons_zero, List.set_cons_succ]
                  refine ord_pure (o := ⟨some 316, _, _, _, _, _⟩) (.slice (some ⟨g7, 0, none⟩) 8 c7) rfl (by kernel_rfl) (fun w9 => by go_simp) ?_
                  simp only [Act.put, List.setIfInBounds_toArray, List.set_cons_zero, List.set_cons_succ]
                  refine ord_pure (o := ⟨some 317, _, _, _, _, _⟩) (.int .i64 (i : Int)) rfl (by kernel_rfl) (fun w9 => by go_simp) ?_
                  simp only [Act.put, List.setIfInBounds_toArray, List.set_cons_zero, List.set_cons_succ]
                  refine ord_pure (o := ⟨some 318, _, _, _, _, _⟩) (.pointer (some ⟨g7, i, none⟩)) rfl (by kernel_rfl) (fun w9 => by go_simp) ?_
                  simp only [Act.put, List.setIfInBounds_toArray, List.set_cons_zero, List.set_cons_succ]
                  refine ord_held (o := ⟨some 319, _, _, _, _, _⟩) (.int .u32 (x : Int)) rfl (by kernel_rfl) (fun w9 h9 => by go_simp) ?_
                  simp only [Act.put, List.setIfInBounds_toArray, List.set_cons_zero, List.set_cons_succ]
                  refine ord_pure (o := ⟨some 320, _, _, _, _, _⟩) (.int .u32 ((x : Int) / 65536)) rfl (by kernel_rfl) (fun w9 => by go_simp) ?_
                  simp only [Act.put, List.setIfInBounds_toArray, List.set_cons_zero, List.set_cons_succ]
                  refine ord_pure (o := ⟨some 321, _, _, _, _, _⟩) (.int .u32 ((x : Int) / 65536 % 256)) rfl (by kernel_rfl) (fun w9 => by go_simp) ?_
                  simp only [Act.put, List.setIfInBounds_toArray, List.set_cons_zero, List.set_cons_succ]
                  refine ord_pure (o := ⟨some 322, _, _, _, _, _⟩) (.int .u8 ((x : Int) / 65536 % 256)) rfl (by kernel_rfl) (fun w9 => by go_simp) ?_
                  simp only [Act.put, List.setIfInBounds_toArray, List.set_cons_zero, List.set_cons_succ]
                  refine ord_pure (o := ⟨some 323, _, _, _, _, _⟩) (.slice (some ⟨g7, 0, none⟩) 8 c7) rfl (by kernel_rfl) (fun w9 => by go_simp) ?_
                  simp only [Act.put, List.setIfInBounds_toArray, List.set_cons_zero, List.set_cons_succ]
                  refine ord_pure (o := ⟨some 324, _, _, _, _, _⟩) (.int .i64 (i : Int)) rfl (by kernel_rfl) (fun w9 => by go_simp) ?_
                  simp only [Act.put, List.setIfInBounds_toArray, List.set_cons_zero, List.set_cons_succ]
                  refine ord_pure (o := ⟨some 325, _, _, _, _, _⟩) (.pointer (some ⟨g7, i, none⟩)) rfl (by kernel_rfl) (fun w9 => by go_simp) ?_
                  simp only [Act.put, List.setIfInBounds_toArray, List.set_cons_zero, List.set_cons_succ]
                  refine ord_held (o := ⟨some 326, _, _, _, _, _⟩) (.int .u32 (x : Int)) rfl (by kernel_rfl) (fun w9 h9 => by go_simp) ?_
                  simp only [Act.put, List.setIfInBounds_toArray, List.set_cons_zero, List.set_cons_succ]
                  refine ord_pure (o := ⟨some 327, _, _, _, _, _⟩) (.int .u32 ((x : Int) / 16777216)) rfl (by kernel_rfl) (fun w9 => by go_simp) ?_
                  simp only [Act.put, List.setIfInBounds_toArray, List.set_cons_zero, List.set_cons_succ]
                  refine ord_pure (o := ⟨some 328, _, _, _, _, _⟩) (.int .u8 ((x : Int) / 16777216)) rfl (by kernel_rfl) (fun w9 => by go_simp) ?_
                  simp only [Act.put, List.setIfInBounds_toArray, List.set_cons_zero, List.set_cons_succ]
                  have hrow := hide (show Row (wr.alloc (.cells #[.int .u8 ((x : Int) % 256), .int .u8 ((x : Int) / 256 % 256), .int .u8 ((x : Int) / 65536 % 256), .int .u8 ((x : Int) / 16777216)] 5)) wr.heap.size 0 (bs (four x)) by rw [four_bsI x HX.out.2]; exact Row.newL wr _ _)
                  have H7w := hide (HR7.out.below HBL.out h7w)
                  refine ord_go rfl (fun K9 hK => ?_)
                  go_simp
                  refine hK.out _ _ (fun _ => by have h9 := (H7w.out.alloc (.cells #[.int .u8 ((x : Int) % 256), .int .u8 ((x : Int) / 256 % 256), .int .u8 ((x : Int) / 65536 % 256), .int .u8 ((x : Int) / 16777216)] 5)).drew.u0 i (by rw [nH]; exact HI.out.2.2.2); rw [HX.out.1] at h9; exact h9) ?_
                  clear hK K9
                  have hsz9 : wo.heap.size ≤ wr.heap.size := HBL.out.size
                  refine ord_appendO (o := ⟨some 330, _, _, _, _, _⟩) rfl rfl (.tmp 302) (.tmp 329) 31 31 rfl 5 Try.underlying31 info8' (by decide) rfl rfl rfl (HO.out.keep ((Below.refl _ wr).alloc (Nat.le_refl _) (.cells #[.int .u8 ((x : Int) % 256), .int .u8 ((x : Int) / 256 % 256), .int .u8 ((x : Int) / 65536 % 256), .int .u8 ((x : Int) / 16777216)] 5))).drew (hrow.out.drew.src (n := 4) (cap := 4) (by rw [bs_length]; rfl) Try.underlying31 (fun u hu => bs_one hu)) HI.out.2.2.1 (Nat.le_trans hsz9 (by simp)) (fun u hu => bs_one hu) ?_
                  intro v9 w9 hO9 hB9
                  have HO9 := hide hO9
                  have HB9 := hide ((HBL.out.alloc hsz9 _).drew.trans hB9)
                  refine ⟨fun _ => by have h9 := (HR7.out.below HB9.out h7w).u0 i (by rw [nH]; exact HI.out.2.2.2); rw [HX.out.1] at h9; exact h9, ?_⟩
                  clear hO9 hB9 hsz9
                  simp only [Act.put, List.setIfInBounds_toArray, List.set_cons_zero, List.set_cons_succ]
                  refine ord_go rfl (fun K9 hK => ?_)
                  go_simp
                  refine hK.out _ _ (fun h => by cases h) ?_
                  clear hK K9
                  refine ord_end ?_
                  go_wp2_with fail
                  go_roundg g5
                  case measure => omega
                  case rel => exact ⟨i + 1, HI.out.1, by go_num, by rw [HI.out.2.1, dig_succ, HX.out.1, bs_app]; exact HO9.out, HB9.out⟩
                · obtain rfl : i = 8 := by omega
                  obtain ⟨gd, cd, hvd, hgd, hcd, hRd⟩ := HO.out.row (by decide)
                  obtain ⟨rfl, rfl⟩ : ao = some ⟨gd, 0, none⟩ ∧ co = cd := by simpa using hvd
                  have hxx := run_textR (P := Try.prog) wr 31 9 5 (c := co) (n := 32) (l := dig H 8) Try.underlying31 Try.underlying5 Try.underlying9 gd 0 rfl (dig_length H 8) hRd.cell
                  have HBE := hide (HB.out.trans (HBL.out.mono HB.out.size))
                  clear hvd hRd HO hig hi8
                  go_wp2_with fail
                  go_ret2
                  refine ⟨?_, HBE.out⟩
                  have e9 : (ByteArray.mk (dig H 8).toArray) = dg n l := by rw [HHF.out]; rfl
                  rw [e9]
                  rfl
end Go.Proofs.Ytjdgaolailfplaa
