/- For any two strings the statement ShaHmac returns true and its arguments read as before. No condition. -/
import Derived.Test.YtgcgflmgppplmaaSArgs
namespace Go.Proofs.Ytgcgflmgppplmaa
open Go.ChangeShapes Go.WideShapes Go.ChangeAt Go.RowKit Bk
open Go.ChangeMaps (open_string shut_string)
set_option linter.unusedVariables false
set_option linter.unusedSimpArgs false

set_option maxRecDepth 100000 in
set_option maxHeartbeats 8000000 in
theorem shaHmac_big0 (key s : ByteArray) (w : World) (h : 2000 < key.size) : Calls Try.prog 7 #[.string key, .string s] w fun e w' => e = .returned (.bool true) ∧ Below w.heap.size w w' := by
  have f0 : (2000 : Int) < (key.size : Int) := by omega
  clear h
  go_enter Try.func7, Try.ntmps7
  have HB0 := hide (Below.refl w.heap.size w)
  go_wp2_with fail
  refine (works_any _).mono ?_
  rintro e w1 ⟨rfl, hw1⟩
  have HBw1 := hide (HB0.out.trans (hw1.mono HB0.out.size))
  clear hw1 HB0
  go_wp2_with fail
  refine (works_any _).mono ?_
  rintro e w2 ⟨rfl, hw2⟩
  have HBw2 := hide (HBw1.out.trans (hw2.mono HBw1.out.size))
  clear hw2 HBw1
  go_wp2_with fail
  go_ret
  exact ⟨rfl, HBw2.out⟩

set_option maxRecDepth 100000 in
set_option maxHeartbeats 8000000 in
theorem shaHmac_big1 (key s : ByteArray) (w : World) (h : key.size ≤ 2000 ∧ 5000 < s.size) : Calls Try.prog 7 #[.string key, .string s] w fun e w' => e = .returned (.bool true) ∧ Below w.heap.size w w' := by
  have f0 : ¬ ((2000 : Int) < (key.size : Int)) := by omega
  have f1 : (5000 : Int) < (s.size : Int) := by omega
  clear h
  go_enter Try.func7, Try.ntmps7
  have HB0 := hide (Below.refl w.heap.size w)
  go_wp2_with fail
  refine (works_any _).mono ?_
  rintro e w1 ⟨rfl, hw1⟩
  have HBw1 := hide (HB0.out.trans (hw1.mono HB0.out.size))
  clear hw1 HB0
  go_wp2_with fail
  refine (works_any _).mono ?_
  rintro e w2 ⟨rfl, hw2⟩
  have HBw2 := hide (HBw1.out.trans (hw2.mono HBw1.out.size))
  clear hw2 HBw1
  go_wp2_with fail
  go_ret
  exact ⟨rfl, HBw2.out⟩

set_option maxRecDepth 100000 in
set_option maxHeartbeats 8000000 in
theorem shaHmac_short (key s : ByteArray) (w : World) (b0 : key.size ≤ 2000) (b1 : s.size ≤ 5000) (hk : key.size ≤ 64) : Calls Try.prog 7 #[.string key, .string s] w fun e w' => e = .returned (.bool true) ∧ Below w.heap.size w w' := by
  have f0 : ¬ ((2000 : Int) < (key.size : Int)) := by omega
  have f1 : ¬ ((5000 : Int) < (s.size : Int)) := by omega
  have f2 : ¬ ((64 : Int) < (key.size : Int)) := by omega
  have HK := hide (And.intro b0 (And.intro b1 hk))
  clear b0 b1 hk
  go_enter Try.func7, Try.ntmps7
  have HB0 := hide (Below.refl w.heap.size w)
  go_wp2_with fail
  refine (works_any _).mono ?_
  rintro e w1 ⟨rfl, hw1⟩
  have HBw1 := hide (HB0.out.trans (hw1.mono HB0.out.size))
  clear hw1 HB0
  obtain ⟨v0, y0, hrun0, hO0, k0⟩ := run_bytesO (P := Try.prog) w1 9 37 5 key Try.underlying9 Try.underlying37 Try.underlying5
  have O0 := hide hO0
  have Y0 := hide (HBw1.out.trans (k0.mono HBw1.out.size))
  clear hO0 k0
  obtain ⟨n, en⟩ : ∃ n, key.size = n := ⟨_, rfl⟩
  have hn : n ≤ 64 := by have := HK.out; omega
  obtain ⟨P, eP⟩ : ∃ P, sb key ++ List.replicate (64 - n) 0 = P := ⟨_, rfl⟩
  have lP : P.length = 64 := by rw [← eP, List.length_append, sb_length, List.length_replicate, en]; omega
  obtain ⟨C1, e1⟩ : ∃ C, ByteArray.mk (P.map (· ^^^ 92)).toArray = C := ⟨_, rfl⟩
  obtain ⟨C2, e2⟩ : ∃ C, ByteArray.mk (P.map (· ^^^ 54)).toArray = C := ⟨_, rfl⟩
  have s1 : C1.size = 64 := by rw [← e1, ← sb_length, sb_mk, List.length_map, lP]
  have s2 : C2.size = 64 := by rw [← e2, ← sb_length, sb_mk, List.length_map, lP]
  obtain ⟨D, eD⟩ : ∃ D, sdg (sb (C2 ++ s)) = D := ⟨_, rfl⟩
  have sD : D.size = 32 := eD ▸ sdg_size _
  obtain ⟨V, eV⟩ : ∃ V, shm key s = V := ⟨_, rfl⟩
  have hF : sdg (sb (C1 ++ D)) = V := by
    have i0 : ∀ c, scmb (sb key) c = P.map (· ^^^ c) := fun c => by unfold scmb; rw [sb_length, en, eP]
    have i1 : sb C1 = scmb (sb key) 92 := by rw [← e1, i0]; rfl
    have i2 : sb C2 = scmb (sb key) 54 := by rw [← e2, i0]; rfl
    have i3 : sb D = ssum (sb (C2 ++ s)) := by rw [← eD]; rfl
    have i4 : skey (sb key) = sb key := by unfold skey; rw [if_neg (by rw [sb_length]; have := HK.out; omega)]
    rw [← eV]
    unfold shm shmac sdg
    rw [sb_append, i1, i3, sb_append, i2, i4]
  have z2 : (C2 ++ s).size = 64 + s.size := by rw [← sb_length, sb_append, List.length_append, sb_length, sb_length, s2]
  have z1 : (C1 ++ D).size = 96 := by rw [← sb_length, sb_append, List.length_append, sb_length, sb_length, s1, sD]
  obtain ⟨M, eM⟩ : ∃ M, madeCells #[.int .u8 0] 64 = M := ⟨_, rfl⟩
  have hm : ∀ w : World, (Instr.makeSlice 37 (.int .i64 64) (.int .i64 64)).run Try.prog w = .ok (.slice (some ⟨w.heap.size, 0, none⟩) 64 64) (w.alloc (.cells M 5)) := fun w => by rw [← eM]; exact mk_bytes 64 (by decide) w
  have hrm : ∀ w : World, Row (w.alloc (.cells M 5)) w.heap.size 0 (bs (List.replicate 64 0)) := fun w => by rw [← eM]; exact row_made w 64
  have o0 := O0.out
  rw [en] at o0
  obtain ⟨g1, A1, hg1, hA1, r1, o1, q1, gl1⟩ : ∃ g A, y0.heap.size = g ∧ y0.alloc (.cells M 5) = A ∧ Row A g 0 (bs (List.replicate 64 0)) ∧ Ow A w1.heap.size v0 n (bs (sb key)) ∧ Below w.heap.size w A ∧ w.heap.size ≤ g := by
    have q := (Below.refl y0.heap.size y0).alloc (Nat.le_refl _) (.cells M 5)
    exact ⟨_, _, rfl, rfl, hrm _, o0.keep q, Y0.out.trans (q.mono Y0.out.size), Y0.out.size⟩
  obtain ⟨g2, A2, hg2, hA2, r2, r12, o2, q2, gl2, gne⟩ : ∃ g A, A1.heap.size = g ∧ A1.alloc (.cells M 5) = A ∧ Row A g 0 (bs (List.replicate 64 0)) ∧ Row A g1 0 (bs (List.replicate 64 0)) ∧ Ow A w1.heap.size v0 n (bs (sb key)) ∧ Below w.heap.size w A ∧ w.heap.size ≤ g ∧ g1 ≠ g := by
    have q := (Below.refl A1.heap.size A1).alloc (Nat.le_refl _) (.cells M 5)
    exact ⟨_, _, rfl, rfl, hrm _, r1.alloc _, o1.keep q, q1.trans (q.mono q1.size), q1.size, Nat.ne_of_lt r1.lt⟩
  have hlb : (bs (sb key)).length = n := by rw [bs_length, sb_length, en]
  have hsp : List.replicate 64 (0 : UInt8) = List.replicate n 0 ++ List.replicate (64 - n) 0 := by rw [List.replicate_append_replicate, show n + (64 - n) = 64 by omega]
  rw [hsp, bs_app] at r2 r12
  have src2 := o2.src Try.underlying37 (fun u hu => bs_one hu)
  have t12 := r12.left
  obtain ⟨A3, hA3, p1, p2, src3, q3⟩ : ∃ A, A2.setCells g1 0 (bs (sb key)) = A ∧ Row A g1 0 (bs P) ∧ Row A g2 0 (bs (List.replicate n 0) ++ bs (List.replicate (64 - n) 0)) ∧ Src Try.prog 1 37 v0 n (bs (sb key)) A ∧ Below w.heap.size w A := by
    have o3 : Ow (A2.setCells g1 0 (bs (sb key))) w1.heap.size v0 n (bs (sb key)) := by
      refine ⟨o2.1, ?_⟩
      rcases o2.2 with h0 | ⟨g, cap, zs, hv, hg, hc, hz, hR⟩
      · exact .inl h0
      · refine .inr ⟨g, cap, zs, hv, hg, hc, hz, hR.apart _ _ _ (.inl ?_)⟩
        rintro rfl
        rcases o0.2 with ⟨h0, h1⟩ | ⟨g', cap', zs', hv', hg', hc', hz', hR'⟩
        · rw [hv] at h0; cases h0
        · rw [hv] at hv'
          injection hv' with e1 e2 e3
          injection e1 with e1
          injection e1 with e1 _ _
          have := hR'.lt
          omega
    refine ⟨_, rfl, ?_, r2.apart _ _ _ (.inl (Ne.symm gne)), o3.src Try.underlying37 (fun u hu => bs_one hu), q2.trans (below_setCells gl1 _ _ _)⟩
    rw [← eP, bs_app]
    refine (r12.left.put (bs (sb key)) (by rw [hlb, bs_length, List.length_replicate])).join ?_
    have k := r12.right
    rw [bs_length, List.length_replicate] at k
    rw [hlb]
    exact k.apart _ _ _ (.inr (.inr (by rw [hlb]; exact Nat.le_refl _)))
  have t2 := p2.left
  obtain ⟨A4, hA4, u1, u2, q4⟩ : ∃ A, A3.setCells g2 0 (bs (sb key)) = A ∧ Row A g1 0 (bs P) ∧ Row A g2 0 (bs P) ∧ Below w.heap.size w A := by
    refine ⟨_, rfl, p1.apart _ _ _ (.inl gne), ?_, q3.trans (below_setCells gl2 _ _ _)⟩
    rw [← eP, bs_app]
    refine (p2.left.put (bs (sb key)) (by rw [hlb, bs_length, List.length_replicate])).join ?_
    have k := p2.right
    rw [bs_length, List.length_replicate] at k
    rw [hlb]
    exact k.apart _ _ _ (.inr (.inr (by rw [hlb]; exact Nat.le_refl _)))
  have T12 := hide t12
  have T2 := hide t2
  have S2 := hide src2
  have S3 := hide src3
  have U := hide (And.intro u1 (And.intro u2 q4))
  have E1 := hide e1
  have E2 := hide e2
  have ED := hide eD
  have EV := hide eV
  have HF := hide hF
  have ZZ := hide (And.intro z1 z2)
  have HL := hide hlb
  have HN := hide hn
  have GN := hide gne
  clear e1 e2 eD eV hF z1 z2 eM hrm o0 r1 o1 q1 r2 r12 o2 q2 src2 t12 p1 p2 src3 q3 t2 u1 u2 q4 hlb hsp en eP O0 Y0 gne
  go_wp2_with (first
    | (refine wpList_copyR (op := ⟨some 34, _, _, _, _, _⟩) rfl (.tmp 32) (.tmp 33) 37 37 rfl 5 Try.underlying37 (by kernel_rfl) rfl rfl S2.out HN.out T12.out (by rw [HL.out, bs_length, List.length_replicate]) ?_; rw [hA3])
    | (refine wpList_copyR (op := ⟨some 37, _, _, _, _, _⟩) rfl (.tmp 35) (.tmp 36) 37 37 rfl 5 Try.underlying37 (by kernel_rfl) rfl rfl S3.out HN.out T2.out (by rw [HL.out, bs_length, List.length_replicate]) ?_; rw [hA4]))
  clear hA1 hA2 hA3 hA4 hg1 hg2 T12 T2 S2 S3 HL
  go_loopg [8] 64 (fun g9 q wr => ∃ k : Nat, k + g9 = 64 ∧ q = .int .i64 k ∧ Row wr g1 0 (bs (cmbTo P 54 k)) ∧ Row wr g2 0 (bs (cmbTo P 92 k)) ∧ Below w.heap.size w wr)
  case atStart => exact ⟨0, rfl, rfl, U.out.1, U.out.2.1, U.out.2.2⟩
  case round =>
    clear U
    obtain ⟨k, hkg, rfl, hR1, hR2, hB⟩ := hrel
    by_cases hlt : k < 64
    · have hlt' : (k : Int) < 64 := by omega
      obtain ⟨g3, rfl⟩ : ∃ g3, gk = g3 + 1 := ⟨gk - 1, by omega⟩
      have hkP : k < P.length := by omega
      have c1 : wr.cell? ⟨g1, k, none⟩ = some (.int .u8 ((P[k]).toNat : Int)) := by
        have := hR1.cell k _ (cmbTo_at P 54 k hkP)
        rwa [Nat.zero_add] at this
      have f1' := hR1.f0 k (by rw [bs_length, cmbTo_len]; exact hkP)
      have hx1 := x8_int P[k] 54
      have hx2 := x8_int P[k] 92
      obtain ⟨x, ex⟩ : ∃ x, (P[k]).toNat = x := ⟨_, rfl⟩
      obtain ⟨z1, ez1⟩ : ∃ z, (P[k] ^^^ 54).toNat = z := ⟨_, rfl⟩
      obtain ⟨z2, ez2⟩ : ∃ z, (P[k] ^^^ 92).toNat = z := ⟨_, rfl⟩
      rw [ex, ez1] at hx1
      rw [ex, ez2] at hx2
      replace hx1 : bits .xor .u8 (x : Int) 54 = (z1 : Int) := hx1
      replace hx2 : bits .xor .u8 (x : Int) 92 = (z2 : Int) := hx2
      rw [ex] at c1
      have h3 := hR1.set0 (i := k) (by rw [bs_length, cmbTo_len]; exact hkP) (.int .u8 (z1 : Int))
      rw [← ez1, ← cmbTo_succ P 54 k hkP, ez1] at h3
      obtain ⟨W5, hW5, v1', v2', v3'⟩ : ∃ W, wr.setCell ⟨g1, k, none⟩ (.int .u8 (z1 : Int)) = W ∧ Row W g1 0 (bs (cmbTo P 54 (k + 1))) ∧ Row W g2 0 (bs (cmbTo P 92 k)) ∧ Below w.heap.size w W :=
        ⟨_, rfl, h3, hR2.other _ _ _ (.inl (Ne.symm GN.out)), hB.setCell (p := ⟨g1, k, none⟩) gl1 _⟩
      have c2 : W5.cell? ⟨g2, k, none⟩ = some (.int .u8 (x : Int)) := by
        have := v2'.cell k _ (cmbTo_at P 92 k hkP)
        rw [Nat.zero_add, ex] at this
        exact this
      have f2' := v2'.f0 k (by rw [bs_length, cmbTo_len]; exact hkP)
      have h4 := v2'.set0 (i := k) (by rw [bs_length, cmbTo_len]; exact hkP) (.int .u8 (z2 : Int))
      rw [← ez2, ← cmbTo_succ P 92 k hkP, ez2] at h4
      have H3 := hide (And.intro (v1'.other g2 k (.int .u8 (z2 : Int)) (.inl GN.out)) (And.intro h4 (v3'.setCell (p := ⟨g2, k, none⟩) gl2 (.int .u8 (z2 : Int)))))
      clear hR1 hR2 hB h3 h4 ex ez1 ez2 v1' v2' v3'
      go_wp2_with fail
      go_roundg g3
      case measure => omega
      case rel => exact ⟨k + 1, by omega, by go_num, H3.out.1, H3.out.2.1, H3.out.2.2⟩
    · obtain rfl : k = 64 := by omega
      have e54 : cmbTo P 54 64 = P.map (· ^^^ 54) := by rw [← lP]; exact cmbTo_all P 54
      have e92 : cmbTo P 92 64 = P.map (· ^^^ 92) := by rw [← lP]; exact cmbTo_all P 92
      rw [e54] at hR1
      rw [e92] at hR2
      have l54 : (P.map (· ^^^ 54)).length = 64 := by rw [List.length_map, lP]
      have l92 : (P.map (· ^^^ 92)).length = 64 := by rw [List.length_map, lP]
      obtain ⟨Q1, eQ1⟩ : ∃ Q, P.map (· ^^^ 54) = Q := ⟨_, rfl⟩
      obtain ⟨Q2, eQ2⟩ : ∃ Q, P.map (· ^^^ 92) = Q := ⟨_, rfl⟩
      rw [eQ1] at hR1 l54
      rw [eQ2] at hR2 l92
      have EQ1 := hide (show ByteArray.mk Q1.toArray = C2 by rw [← eQ1]; exact E2.out)
      have EQ2 := hide (show ByteArray.mk Q2.toArray = C1 by rw [← eQ2]; exact E1.out)
      have HR := hide (And.intro hR2 hR1)
      have HB := hide hB
      clear hR1 hR2 hB e54 e92 eQ1 eQ2
      go_wp2_with fail
      have HR4 := hide (And.intro HR.out.1.drew HR.out.2.drew)
      have HB4 := hide HB.out.drew
      refine wp_region_ord (fun w9 => Row w9 g2 0 (bs Q2) ∧ Row w9 g1 0 (bs Q1)) 13 [(0, some true), (1, some true), (3, some true), (4, some false), (5, some true), (6, some false), (7, some true), (8, some true), (2, none), (9, none), (10, some true), (11, none), (12, some true), (13, none)] (by kernel_rfl) (by kernel_rfl) (fun _ _ _ _ h => h) HR4.out ?_
      refine ord_pureE (o := ⟨some 58, _, _, _, _, _⟩) rfl (by kernel_rfl) ⟨_, fun w9 => by (go_simp; try rfl), ?_⟩
      simp only [Act.put, List.setIfInBounds_toArray, List.set_cons_zero, List.set_cons_succ]
      refine ord_pureE (o := ⟨some 59, _, _, _, _, _⟩) rfl (by kernel_rfl) ⟨_, fun w9 => by (go_simp; try rfl), ?_⟩
      simp only [Act.put, List.setIfInBounds_toArray, List.set_cons_zero, List.set_cons_succ]
      refine ord_pureE (o := ⟨some 61, _, _, _, _, _⟩) rfl (by kernel_rfl) ⟨_, fun w9 => by (go_simp; try rfl), ?_⟩
      simp only [Act.put, List.setIfInBounds_toArray, List.set_cons_zero, List.set_cons_succ]
      refine ord_heldE (o := ⟨some 62, _, _, _, _, _⟩) rfl (by kernel_rfl) ⟨.string C1, fun w9 h9 => by (have hx := run_textR (P := Try.prog) w9 37 9 5 (c := 64) Try.underlying37 Try.underlying5 Try.underlying9 g2 0 rfl l92 h9.1.cell; rw [EQ2.out] at hx; go_simp), ?_⟩
      simp only [Act.put, List.setIfInBounds_toArray, List.set_cons_zero, List.set_cons_succ]
      refine ord_pureE (o := ⟨some 63, _, _, _, _, _⟩) rfl (by kernel_rfl) ⟨_, fun w9 => by (go_simp; try rfl), ?_⟩
      simp only [Act.put, List.setIfInBounds_toArray, List.set_cons_zero, List.set_cons_succ]
      refine ord_heldE (o := ⟨some 64, _, _, _, _, _⟩) rfl (by kernel_rfl) ⟨.string C2, fun w9 h9 => by (have hx := run_textR (P := Try.prog) w9 37 9 5 (c := 64) Try.underlying37 Try.underlying5 Try.underlying9 g1 0 rfl l54 h9.2.cell; rw [EQ1.out] at hx; go_simp), ?_⟩
      simp only [Act.put, List.setIfInBounds_toArray, List.set_cons_zero, List.set_cons_succ]
      refine ord_pureE (o := ⟨some 65, _, _, _, _, _⟩) rfl (by kernel_rfl) ⟨_, fun w9 => by (go_simp; try rfl), ?_⟩
      simp only [Act.put, List.setIfInBounds_toArray, List.set_cons_zero, List.set_cons_succ]
      refine ord_pureE (o := ⟨some 66, _, _, _, _, _⟩) rfl (by kernel_rfl) ⟨.string (C2 ++ s), fun w9 => by (go_simp; all_goals (have h1 := HK.out; omega)), ?_⟩
      simp only [Act.put, List.setIfInBounds_toArray, List.set_cons_zero, List.set_cons_succ]
      refine ord_go rfl (fun K9 hK => ?_)
      go_simp
      go_wp2_with fail
      refine (shmac_any key s _ (by have := HK.out; omega) (by have := HK.out; omega)).mono ?_
      rintro e y5 ⟨rfl, k5⟩
      rw [EV.out]
      dsimp only
      have R5 := hide (And.intro (HR4.out.1.below k5 HR4.out.1.lt) (HR4.out.2.below k5 HR4.out.2.lt))
      have HR5 := R5
      have HB5 := hide (HB4.out.trans (k5.mono HB4.out.size))
      clear k5 R5 HR4 HB4
      refine hK.out _ _ (fun _ => HR5.out) ?_
      clear hK K9
      refine ord_go rfl (fun K9 hK => ?_)
      go_simp
      go_wp2_with fail
      refine (ssum_any (C2 ++ s) _ (by rw [ZZ.out.2]; have := HK.out; omega)).mono ?_
      rintro e y6 ⟨rfl, k6⟩
      rw [ED.out]
      dsimp only
      have R6 := hide (And.intro (HR5.out.1.below k6 HR5.out.1.lt) (HR5.out.2.below k6 HR5.out.2.lt))
      have HR6 := R6
      have HB6 := hide (HB5.out.trans (k6.mono HB5.out.size))
      clear k6 R6 HR5 HB5
      refine hK.out _ _ (fun _ => HR6.out) ?_
      clear hK K9
      refine ord_pureE (o := ⟨some 68, _, _, _, _, _⟩) rfl (by kernel_rfl) ⟨.string (C1 ++ D), fun w9 => by (go_simp; all_goals (have h1 := HK.out; omega)), ?_⟩
      simp only [Act.put, List.setIfInBounds_toArray, List.set_cons_zero, List.set_cons_succ]
      refine ord_go rfl (fun K9 hK => ?_)
      go_simp
      go_wp2_with fail
      refine (ssum_any (C1 ++ D) _ (by rw [ZZ.out.1]; decide)).mono ?_
      rintro e y7 ⟨rfl, k7⟩
      rw [HF.out]
      dsimp only
      have R7 := hide (And.intro (HR6.out.1.below k7 HR6.out.1.lt) (HR6.out.2.below k7 HR6.out.2.lt))
      have HR7 := R7
      have HB7 := hide (HB6.out.trans (k7.mono HB6.out.size))
      clear k7 R7 HR6 HB6
      refine hK.out _ _ (fun _ => HR7.out) ?_
      clear hK K9
      refine ord_pureE (o := ⟨some 70, _, _, _, _, _⟩) rfl (by kernel_rfl) ⟨_, fun w9 => by (go_simp; try rfl), ?_⟩
      simp only [Act.put, List.setIfInBounds_toArray, List.set_cons_zero, List.set_cons_succ]
      refine ord_go rfl (fun K9 hK => ?_)
      go_simp
      refine hK.out _ _ (fun h => by cases h) ?_
      clear hK K9
      refine ord_end ?_
      go_wp2_with fail
      go_ret
      exact ⟨rfl, HB7.out⟩

set_option maxRecDepth 100000 in
set_option maxHeartbeats 8000000 in
theorem shaHmac_long (key s : ByteArray) (w : World) (b0 : key.size ≤ 2000) (b1 : s.size ≤ 5000) (hk : 64 < key.size) : Calls Try.prog 7 #[.string key, .string s] w fun e w' => e = .returned (.bool true) ∧ Below w.heap.size w w' := by
  have f0 : ¬ ((2000 : Int) < (key.size : Int)) := by omega
  have f1 : ¬ ((5000 : Int) < (s.size : Int)) := by omega
  have f2 : (64 : Int) < (key.size : Int) := by omega
  have HK := hide (And.intro b0 (And.intro b1 hk))
  clear b0 b1 hk
  go_enter Try.func7, Try.ntmps7
  have HB0 := hide (Below.refl w.heap.size w)
  go_wp2_with fail
  refine (works_any _).mono ?_
  rintro e w1 ⟨rfl, hw1⟩
  have HBw1 := hide (HB0.out.trans (hw1.mono HB0.out.size))
  clear hw1 HB0
  obtain ⟨v0, y0, hrun0, hO0, k0⟩ := run_bytesO (P := Try.prog) w1 9 37 5 key Try.underlying9 Try.underlying37 Try.underlying5
  have O0 := hide hO0
  have Y0 := hide (HBw1.out.trans (k0.mono HBw1.out.size))
  clear hO0 k0
  obtain ⟨KD, eKD⟩ : ∃ KD, sdg (sb key) = KD := ⟨_, rfl⟩
  have HKD := hide eKD
  clear eKD
  go_wp2_with fail
  refine (ssum_any key _ (by have := HK.out; omega)).mono ?_
  rintro e x1 ⟨rfl, k1⟩
  rw [HKD.out]
  have Y1 := hide (Y0.out.trans (k1.mono Y0.out.size))
  clear k1
  obtain ⟨v1, x2, hrun1, hO1, k2⟩ := run_bytesO (P := Try.prog) x1 9 37 5 KD Try.underlying9 Try.underlying37 Try.underlying5
  have O1 := hide hO1
  have Y2 := hide (Y1.out.trans (k2.mono Y1.out.size))
  clear hO1 k2
  obtain ⟨n, en⟩ : ∃ n, KD.size = n := ⟨_, rfl⟩
  have hn : n ≤ 64 := by rw [← en, ← HKD.out, sdg_size]; decide
  obtain ⟨P, eP⟩ : ∃ P, sb KD ++ List.replicate (64 - n) 0 = P := ⟨_, rfl⟩
  have lP : P.length = 64 := by rw [← eP, List.length_append, sb_length, List.length_replicate, en]; omega
  obtain ⟨C1, e1⟩ : ∃ C, ByteArray.mk (P.map (· ^^^ 92)).toArray = C := ⟨_, rfl⟩
  obtain ⟨C2, e2⟩ : ∃ C, ByteArray.mk (P.map (· ^^^ 54)).toArray = C := ⟨_, rfl⟩
  have s1 : C1.size = 64 := by rw [← e1, ← sb_length, sb_mk, List.length_map, lP]
  have s2 : C2.size = 64 := by rw [← e2, ← sb_length, sb_mk, List.length_map, lP]
  obtain ⟨D, eD⟩ : ∃ D, sdg (sb (C2 ++ s)) = D := ⟨_, rfl⟩
  have sD : D.size = 32 := eD ▸ sdg_size _
  obtain ⟨V, eV⟩ : ∃ V, shm key s = V := ⟨_, rfl⟩
  have hF : sdg (sb (C1 ++ D)) = V := by
    have i0 : ∀ c, scmb (sb KD) c = P.map (· ^^^ c) := fun c => by unfold scmb; rw [sb_length, en, eP]
    have i1 : sb C1 = scmb (sb KD) 92 := by rw [← e1, i0]; rfl
    have i2 : sb C2 = scmb (sb KD) 54 := by rw [← e2, i0]; rfl
    have i3 : sb D = ssum (sb (C2 ++ s)) := by rw [← eD]; rfl
    have i4 : skey (sb key) = sb KD := by unfold skey; rw [if_pos (by rw [sb_length]; have := HK.out; omega), ← HKD.out]; rfl
    rw [← eV]
    unfold shm shmac sdg
    rw [sb_append, i1, i3, sb_append, i2, i4]
  have z2 : (C2 ++ s).size = 64 + s.size := by rw [← sb_length, sb_append, List.length_append, sb_length, sb_length, s2]
  have z1 : (C1 ++ D).size = 96 := by rw [← sb_length, sb_append, List.length_append, sb_length, sb_length, s1, sD]
  obtain ⟨M, eM⟩ : ∃ M, madeCells #[.int .u8 0] 64 = M := ⟨_, rfl⟩
  have hm : ∀ w : World, (Instr.makeSlice 37 (.int .i64 64) (.int .i64 64)).run Try.prog w = .ok (.slice (some ⟨w.heap.size, 0, none⟩) 64 64) (w.alloc (.cells M 5)) := fun w => by rw [← eM]; exact mk_bytes 64 (by decide) w
  have hrm : ∀ w : World, Row (w.alloc (.cells M 5)) w.heap.size 0 (bs (List.replicate 64 0)) := fun w => by rw [← eM]; exact row_made w 64
  have o0 := O1.out
  rw [en] at o0
  obtain ⟨g1, A1, hg1, hA1, r1, o1, q1, gl1⟩ : ∃ g A, x2.heap.size = g ∧ x2.alloc (.cells M 5) = A ∧ Row A g 0 (bs (List.replicate 64 0)) ∧ Ow A x1.heap.size v1 n (bs (sb KD)) ∧ Below w.heap.size w A ∧ w.heap.size ≤ g := by
    have q := (Below.refl x2.heap.size x2).alloc (Nat.le_refl _) (.cells M 5)
    exact ⟨_, _, rfl, rfl, hrm _, o0.keep q, Y2.out.trans (q.mono Y2.out.size), Y2.out.size⟩
  obtain ⟨g2, A2, hg2, hA2, r2, r12, o2, q2, gl2, gne⟩ : ∃ g A, A1.heap.size = g ∧ A1.alloc (.cells M 5) = A ∧ Row A g 0 (bs (List.replicate 64 0)) ∧ Row A g1 0 (bs (List.replicate 64 0)) ∧ Ow A x1.heap.size v1 n (bs (sb KD)) ∧ Below w.heap.size w A ∧ w.heap.size ≤ g ∧ g1 ≠ g := by
    have q := (Below.refl A1.heap.size A1).alloc (Nat.le_refl _) (.cells M 5)
    exact ⟨_, _, rfl, rfl, hrm _, r1.alloc _, o1.keep q, q1.trans (q.mono q1.size), q1.size, Nat.ne_of_lt r1.lt⟩
  have hlb : (bs (sb KD)).length = n := by rw [bs_length, sb_length, en]
  have hsp : List.replicate 64 (0 : UInt8) = List.replicate n 0 ++ List.replicate (64 - n) 0 := by rw [List.replicate_append_replicate, show n + (64 - n) = 64 by omega]
  rw [hsp, bs_app] at r2 r12
  have src2 := o2.src Try.underlying37 (fun u hu => bs_one hu)
  have t12 := r12.left
  obtain ⟨A3, hA3, p1, p2, src3, q3⟩ : ∃ A, A2.setCells g1 0 (bs (sb KD)) = A ∧ Row A g1 0 (bs P) ∧ Row A g2 0 (bs (List.replicate n 0) ++ bs (List.replicate (64 - n) 0)) ∧ Src Try.prog 1 37 v1 n (bs (sb KD)) A ∧ Below w.heap.size w A := by
    have o3 : Ow (A2.setCells g1 0 (bs (sb KD))) x1.heap.size v1 n (bs (sb KD)) := by
      refine ⟨o2.1, ?_⟩
      rcases o2.2 with h0 | ⟨g, cap, zs, hv, hg, hc, hz, hR⟩
      · exact .inl h0
      · refine .inr ⟨g, cap, zs, hv, hg, hc, hz, hR.apart _ _ _ (.inl ?_)⟩
        rintro rfl
        rcases o0.2 with ⟨h0, h1⟩ | ⟨g', cap', zs', hv', hg', hc', hz', hR'⟩
        · rw [hv] at h0; cases h0
        · rw [hv] at hv'
          injection hv' with e1 e2 e3
          injection e1 with e1
          injection e1 with e1 _ _
          have := hR'.lt
          omega
    refine ⟨_, rfl, ?_, r2.apart _ _ _ (.inl (Ne.symm gne)), o3.src Try.underlying37 (fun u hu => bs_one hu), q2.trans (below_setCells gl1 _ _ _)⟩
    rw [← eP, bs_app]
    refine (r12.left.put (bs (sb KD)) (by rw [hlb, bs_length, List.length_replicate])).join ?_
    have k := r12.right
    rw [bs_length, List.length_replicate] at k
    rw [hlb]
    exact k.apart _ _ _ (.inr (.inr (by rw [hlb]; exact Nat.le_refl _)))
  have t2 := p2.left
  obtain ⟨A4, hA4, u1, u2, q4⟩ : ∃ A, A3.setCells g2 0 (bs (sb KD)) = A ∧ Row A g1 0 (bs P) ∧ Row A g2 0 (bs P) ∧ Below w.heap.size w A := by
    refine ⟨_, rfl, p1.apart _ _ _ (.inl gne), ?_, q3.trans (below_setCells gl2 _ _ _)⟩
    rw [← eP, bs_app]
    refine (p2.left.put (bs (sb KD)) (by rw [hlb, bs_length, List.length_replicate])).join ?_
    have k := p2.right
    rw [bs_length, List.length_replicate] at k
    rw [hlb]
    exact k.apart _ _ _ (.inr (.inr (by rw [hlb]; exact Nat.le_refl _)))
  have T12 := hide t12
  have T2 := hide t2
  have S2 := hide src2
  have S3 := hide src3
  have U := hide (And.intro u1 (And.intro u2 q4))
  have E1 := hide e1
  have E2 := hide e2
  have ED := hide eD
  have EV := hide eV
  have HF := hide hF
  have ZZ := hide (And.intro z1 z2)
  have HL := hide hlb
  have HN := hide hn
  have GN := hide gne
  clear e1 e2 eD eV hF z1 z2 eM hrm o0 r1 o1 q1 r2 r12 o2 q2 src2 t12 p1 p2 src3 q3 t2 u1 u2 q4 hlb hsp en eP O1 Y2 gne
  go_wp2_with (first
    | (refine wpList_copyR (op := ⟨some 34, _, _, _, _, _⟩) rfl (.tmp 32) (.tmp 33) 37 37 rfl 5 Try.underlying37 (by kernel_rfl) rfl rfl S2.out HN.out T12.out (by rw [HL.out, bs_length, List.length_replicate]) ?_; rw [hA3])
    | (refine wpList_copyR (op := ⟨some 37, _, _, _, _, _⟩) rfl (.tmp 35) (.tmp 36) 37 37 rfl 5 Try.underlying37 (by kernel_rfl) rfl rfl S3.out HN.out T2.out (by rw [HL.out, bs_length, List.length_replicate]) ?_; rw [hA4]))
  clear hA1 hA2 hA3 hA4 hg1 hg2 T12 T2 S2 S3 HL
  go_loopg [8] 64 (fun g9 q wr => ∃ k : Nat, k + g9 = 64 ∧ q = .int .i64 k ∧ Row wr g1 0 (bs (cmbTo P 54 k)) ∧ Row wr g2 0 (bs (cmbTo P 92 k)) ∧ Below w.heap.size w wr)
  case atStart => exact ⟨0, rfl, rfl, U.out.1, U.out.2.1, U.out.2.2⟩
  case round =>
    clear U
    obtain ⟨k, hkg, rfl, hR1, hR2, hB⟩ := hrel
    by_cases hlt : k < 64
    · have hlt' : (k : Int) < 64 := by omega
      obtain ⟨g3, rfl⟩ : ∃ g3, gk = g3 + 1 := ⟨gk - 1, by omega⟩
      have hkP : k < P.length := by omega
      have c1 : wr.cell? ⟨g1, k, none⟩ = some (.int .u8 ((P[k]).toNat : Int)) := by
        have := hR1.cell k _ (cmbTo_at P 54 k hkP)
        rwa [Nat.zero_add] at this
      have f1' := hR1.f0 k (by rw [bs_length, cmbTo_len]; exact hkP)
      have hx1 := x8_int P[k] 54
      have hx2 := x8_int P[k] 92
      obtain ⟨x, ex⟩ : ∃ x, (P[k]).toNat = x := ⟨_, rfl⟩
      obtain ⟨z1, ez1⟩ : ∃ z, (P[k] ^^^ 54).toNat = z := ⟨_, rfl⟩
      obtain ⟨z2, ez2⟩ : ∃ z, (P[k] ^^^ 92).toNat = z := ⟨_, rfl⟩
      rw [ex, ez1] at hx1
      rw [ex, ez2] at hx2
      replace hx1 : bits .xor .u8 (x : Int) 54 = (z1 : Int) := hx1
      replace hx2 : bits .xor .u8 (x : Int) 92 = (z2 : Int) := hx2
      rw [ex] at c1
      have h3 := hR1.set0 (i := k) (by rw [bs_length, cmbTo_len]; exact hkP) (.int .u8 (z1 : Int))
      rw [← ez1, ← cmbTo_succ P 54 k hkP, ez1] at h3
      obtain ⟨W5, hW5, v1', v2', v3'⟩ : ∃ W, wr.setCell ⟨g1, k, none⟩ (.int .u8 (z1 : Int)) = W ∧ Row W g1 0 (bs (cmbTo P 54 (k + 1))) ∧ Row W g2 0 (bs (cmbTo P 92 k)) ∧ Below w.heap.size w W :=
        ⟨_, rfl, h3, hR2.other _ _ _ (.inl (Ne.symm GN.out)), hB.setCell (p := ⟨g1, k, none⟩) gl1 _⟩
      have c2 : W5.cell? ⟨g2, k, none⟩ = some (.int .u8 (x : Int)) := by
        have := v2'.cell k _ (cmbTo_at P 92 k hkP)
        rw [Nat.zero_add, ex] at this
        exact this
      have f2' := v2'.f0 k (by rw [bs_length, cmbTo_len]; exact hkP)
      have h4 := v2'.set0 (i := k) (by rw [bs_length, cmbTo_len]; exact hkP) (.int .u8 (z2 : Int))
      rw [← ez2, ← cmbTo_succ P 92 k hkP, ez2] at h4
      have H3 := hide (And.intro (v1'.other g2 k (.int .u8 (z2 : Int)) (.inl GN.out)) (And.intro h4 (v3'.setCell (p := ⟨g2, k, none⟩) gl2 (.int .u8 (z2 : Int)))))
      clear hR1 hR2 hB h3 h4 ex ez1 ez2 v1' v2' v3'
      go_wp2_with fail
      go_roundg g3
      case measure => omega
      case rel => exact ⟨k + 1, by omega, by go_num, H3.out.1, H3.out.2.1, H3.out.2.2⟩
    · obtain rfl : k = 64 := by omega
      have e54 : cmbTo P 54 64 = P.map (· ^^^ 54) := by rw [← lP]; exact cmbTo_all P 54
      have e92 : cmbTo P 92 64 = P.map (· ^^^ 92) := by rw [← lP]; exact cmbTo_all P 92
      rw [e54] at hR1
      rw [e92] at hR2
      have l54 : (P.map (· ^^^ 54)).length = 64 := by rw [List.length_map, lP]
      have l92 : (P.map (· ^^^ 92)).length = 64 := by rw [List.length_map, lP]
      obtain ⟨Q1, eQ1⟩ : ∃ Q, P.map (· ^^^ 54) = Q := ⟨_, rfl⟩
      obtain ⟨Q2, eQ2⟩ : ∃ Q, P.map (· ^^^ 92) = Q := ⟨_, rfl⟩
      rw [eQ1] at hR1 l54
      rw [eQ2] at hR2 l92
      have EQ1 := hide (show ByteArray.mk Q1.toArray = C2 by rw [← eQ1]; exact E2.out)
      have EQ2 := hide (show ByteArray.mk Q2.toArray = C1 by rw [← eQ2]; exact E1.out)
      have HR := hide (And.intro hR2 hR1)
      have HB := hide hB
      clear hR1 hR2 hB e54 e92 eQ1 eQ2
      go_wp2_with fail
      have HR4 := hide (And.intro HR.out.1.drew HR.out.2.drew)
      have HB4 := hide HB.out.drew
      refine wp_region_ord (fun w9 => Row w9 g2 0 (bs Q2) ∧ Row w9 g1 0 (bs Q1)) 13 [(0, some true), (1, some true), (3, some true), (4, some false), (5, some true), (6, some false), (7, some true), (8, some true), (2, none), (9, none), (10, some true), (11, none), (12, some true), (13, none)] (by kernel_rfl) (by kernel_rfl) (fun _ _ _ _ h => h) HR4.out ?_
      refine ord_pureE (o := ⟨some 58, _, _, _, _, _⟩) rfl (by kernel_rfl) ⟨_, fun w9 => by (go_simp; try rfl), ?_⟩
      simp only [Act.put, List.setIfInBounds_toArray, List.set_cons_zero, List.set_cons_succ]
      refine ord_pureE (o := ⟨some 59, _, _, _, _, _⟩) rfl (by kernel_rfl) ⟨_, fun w9 => by (go_simp; try rfl), ?_⟩
      simp only [Act.put, List.setIfInBounds_toArray, List.set_cons_zero, List.set_cons_succ]
      refine ord_pureE (o := ⟨some 61, _, _, _, _, _⟩) rfl (by kernel_rfl) ⟨_, fun w9 => by (go_simp; try rfl), ?_⟩
      simp only [Act.put, List.setIfInBounds_toArray, List.set_cons_zero, List.set_cons_succ]
      refine ord_heldE (o := ⟨some 62, _, _, _, _, _⟩) rfl (by kernel_rfl) ⟨.string C1, fun w9 h9 => by (have hx := run_textR (P := Try.prog) w9 37 9 5 (c := 64) Try.underlying37 Try.underlying5 Try.underlying9 g2 0 rfl l92 h9.1.cell; rw [EQ2.out] at hx; go_simp), ?_⟩
      simp only [Act.put, List.setIfInBounds_toArray, List.set_cons_zero, List.set_cons_succ]
      refine ord_pureE (o := ⟨some 63, _, _, _, _, _⟩) rfl (by kernel_rfl) ⟨_, fun w9 => by (go_simp; try rfl), ?_⟩
      simp only [Act.put, List.setIfInBounds_toArray, List.set_cons_zero, List.set_cons_succ]
      refine ord_heldE (o := ⟨some 64, _, _, _, _, _⟩) rfl (by kernel_rfl) ⟨.string C2, fun w9 h9 => by (have hx := run_textR (P := Try.prog) w9 37 9 5 (c := 64) Try.underlying37 Try.underlying5 Try.underlying9 g1 0 rfl l54 h9.2.cell; rw [EQ1.out] at hx; go_simp), ?_⟩
      simp only [Act.put, List.setIfInBounds_toArray, List.set_cons_zero, List.set_cons_succ]
      refine ord_pureE (o := ⟨some 65, _, _, _, _, _⟩) rfl (by kernel_rfl) ⟨_, fun w9 => by (go_simp; try rfl), ?_⟩
      simp only [Act.put, List.setIfInBounds_toArray, List.set_cons_zero, List.set_cons_succ]
      refine ord_pureE (o := ⟨some 66, _, _, _, _, _⟩) rfl (by kernel_rfl) ⟨.string (C2 ++ s), fun w9 => by (go_simp; all_goals (have h1 := HK.out; omega)), ?_⟩
      simp only [Act.put, List.setIfInBounds_toArray, List.set_cons_zero, List.set_cons_succ]
      refine ord_go rfl (fun K9 hK => ?_)
      go_simp
      go_wp2_with fail
      refine (shmac_any key s _ (by have := HK.out; omega) (by have := HK.out; omega)).mono ?_
      rintro e y5 ⟨rfl, k5⟩
      rw [EV.out]
      dsimp only
      have R5 := hide (And.intro (HR4.out.1.below k5 HR4.out.1.lt) (HR4.out.2.below k5 HR4.out.2.lt))
      have HR5 := R5
      have HB5 := hide (HB4.out.trans (k5.mono HB4.out.size))
      clear k5 R5 HR4 HB4
      refine hK.out _ _ (fun _ => HR5.out) ?_
      clear hK K9
      refine ord_go rfl (fun K9 hK => ?_)
      go_simp
      go_wp2_with fail
      refine (ssum_any (C2 ++ s) _ (by rw [ZZ.out.2]; have := HK.out; omega)).mono ?_
      rintro e y6 ⟨rfl, k6⟩
      rw [ED.out]
      dsimp only
      have R6 := hide (And.intro (HR5.out.1.below k6 HR5.out.1.lt) (HR5.out.2.below k6 HR5.out.2.lt))
      have HR6 := R6
      have HB6 := hide (HB5.out.trans (k6.mono HB5.out.size))
      clear k6 R6 HR5 HB5
      refine hK.out _ _ (fun _ => HR6.out) ?_
      clear hK K9
      refine ord_pureE (o := ⟨some 68, _, _, _, _, _⟩) rfl (by kernel_rfl) ⟨.string (C1 ++ D), fun w9 => by (go_simp; all_goals (have h1 := HK.out; omega)), ?_⟩
      simp only [Act.put, List.setIfInBounds_toArray, List.set_cons_zero, List.set_cons_succ]
      refine ord_go rfl (fun K9 hK => ?_)
      go_simp
      go_wp2_with fail
      refine (ssum_any (C1 ++ D) _ (by rw [ZZ.out.1]; decide)).mono ?_
      rintro e y7 ⟨rfl, k7⟩
      rw [HF.out]
      dsimp only
      have R7 := hide (And.intro (HR6.out.1.below k7 HR6.out.1.lt) (HR6.out.2.below k7 HR6.out.2.lt))
      have HR7 := R7
      have HB7 := hide (HB6.out.trans (k7.mono HB6.out.size))
      clear k7 R7 HR6 HB6
      refine hK.out _ _ (fun _ => HR7.out) ?_
      clear hK K9
      refine ord_pureE (o := ⟨some 70, _, _, _, _, _⟩) rfl (by kernel_rfl) ⟨_, fun w9 => by (go_simp; try rfl), ?_⟩
      simp only [Act.put, List.setIfInBounds_toArray, List.set_cons_zero, List.set_cons_succ]
      refine ord_go rfl (fun K9 hK => ?_)
      go_simp
      refine hK.out _ _ (fun h => by cases h) ?_
      clear hK K9
      refine ord_end ?_
      go_wp2_with fail
      go_ret
      exact ⟨rfl, HB7.out⟩

theorem shaHmac_any (w : World) (key : ByteArray) (m0 : key.size ≤ 140737488351232) (s : ByteArray) (m1 : s.size ≤ 140737488351232) :
    Calls Try.prog 7 #[.string key, .string s] w fun e w' => e = .returned (.bool true) ∧ Below w.heap.size w w' := by
  by_cases h : 2000 < key.size
  · exact shaHmac_big0 key s w h
  · by_cases h' : 5000 < s.size
    · exact shaHmac_big1 key s w ⟨by omega, h'⟩
    · by_cases h'' : 64 < key.size
      · exact shaHmac_long key s w (by omega) (by omega) h''
      · exact shaHmac_short key s w (by omega) (by omega) (by omega)

theorem shaHmac_own : ownKnob Try.prog.godebug = none := by kernel_rfl
theorem shaHmac_laidOut : laidOutB Try.prog = true := by kernel_rfl

set_option maxRecDepth 100000 in
theorem shaHmac_lifted (os : Os) (started : os.Started) (H : Type) (enc : TypeId × Value → H) :
    ReturnsInHanded {} Try.checked os 7 .any (Rows.shaHmacSpec.pre6 enc Try.prog Try.f7 Rows.shaHmacRow.domain false) (Rows.shaHmacSpec.post enc Try.prog Try.f7 false true false false) := by
  refine returnsInHanded_of_change_sized (C := Try.checked) shaHmac_own started (by kernel_rfl) Try.func7
    (ChangeSpec.witness6 (enc := enc) (C := Try.checked) false ⟨#[], #[.string ⟨#[]⟩, .string ⟨#[]⟩], []⟩ 8 (by kernel_rfl) (by kernel_rfl) (by kernel_rfl) (by kernel_rfl)) ?_
  intro W base args ds gs before hval0 hW hcnd hsz0 _
  have hval : ∀ (j : Nat) t v, Try.f7.params[j]? = some t → args[j]? = some v → Value.okWide Try.prog W .any base t v := hval0
  have hW' := hW
  obtain ⟨p, q, hA0, hV, rfl, hfz, hnd⟩ := hW
  have hA : DataW.TrodAll enc Try.prog W 0 (fun _ => true) true Try.f7.params.toList args.toList ds p := hA0
  rw [Try.params7] at hA hval
  obtain ⟨v0, vs0, d0, ds0, p0, q0, hargs, rfl, rfl, h0, r0⟩ := trodAll_cons hA
  obtain ⟨v1, vs1, d1, ds1, p1, q1, rfl, rfl, rfl, h1, r1⟩ := trodAll_cons r0
  obtain ⟨rfl, rfl, rfl⟩ := trodAll_nil r1
  obtain rfl : args = #[v0, v1] := by cases args; simp_all
  obtain ⟨rfl, rfl⟩ := trodVars_none hV
  obtain ⟨a0, rfl, rfl, rfl, w0⟩ := open_string Try.underlying9 (hval 0 9 v0 rfl rfl) h0
  have s0 : a0.size ≤ 140737488351232 := sized_string hsz0 (j := 0) (t := 9) rfl rfl
  obtain ⟨a1, rfl, rfl, rfl, w1⟩ := open_string Try.underlying9 (hval 1 9 v1 rfl rfl) h1
  have s1 : a1.size ≤ 140737488351232 := sized_string hsz0 (j := 1) (t := 9) rfl rfl
  clear hA0 hval0 hsz0
  simp only [List.append_nil] at hW'
  refine (shaHmac_any W a0 s0 a1 s1).mono fun e W' ⟨he, bel⟩ => ?_
  subst he
  exact ⟨_, rfl, _, _, _, [], _, [], hW', trodAll_mk1 (shut_bool Try.underlying4 _), (trodAll_cons_mk (shut_string Try.underlying9 w0) (trodAll_cons_mk (shut_string Try.underlying9 w1) trodAll_mk0)), rfl, bel.frame _, fun h => by cases h⟩

theorem shaHmac_holds : Rows.ShaHmacSaid :=
  OpenClaim.holds_of_wide 7 Try.f7 rfl rfl rfl rfl rfl rfl rfl ⟨rfl, rfl, rfl, rfl, rfl⟩ rfl rfl rfl rfl rfl (by kernel_rfl) Try.func7 (by kernel_rfl)
    (of_decide_eq_true (by kernel_rfl)) (by unfold Func.isWrapper; first | (rw [if_pos (by decide +kernel)]; kernel_rfl) | (rw [if_neg (by decide +kernel)]; exact ⟨rfl, rfl⟩))
    (fun os started H enc _ => shaHmac_lifted os started H enc)

#print axioms shaHmac_holds

end Go.Proofs.Ytgcgflmgppplmaa
