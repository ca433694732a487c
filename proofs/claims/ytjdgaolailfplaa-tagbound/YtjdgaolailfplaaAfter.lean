/- A block taken in, walked. For eight numbers of 32 bits, a count, a block of 64 bytes: the call returns what BMath says in memory of its own, and leaves what was there. -/
import Derived.Test.YtjdgaolailfplaaBAfter
namespace Go.Proofs.Ytjdgaolailfplaa
open Go.RowKit Bk
set_option linter.unusedVariables false

set_option maxRecDepth 100000 in
set_option maxHeartbeats 8000000 in
theorem after_any (h : List Nat) (t n : Nat) (l : List UInt8) (last : Bool) (w : World) (h8 : h.length = 8) (lh : Lt h) (hl : l.length = 64) (ht : t + n < 9223372036854775808) :
    Calls Try.prog 27 #[.agg (stv h t).toArray, .agg (bs l).toArray, .int .i64 n, .bool last] w fun e w' => e = .returned (.agg (stv (cmp h (t + n) (nums l) last) (t + n)).toArray) ∧ Below w.heap.size w w' := by
  obtain ⟨T, eT⟩ : ∃ T, t + n = T := ⟨_, rfl⟩
  rw [eT]
  obtain ⟨W0, hW0, r0, r1, r2, b0, s0⟩ : ∃ W0, ((w.alloc (.cells (stv h t).toArray 58)).alloc (.cells (bs l).toArray 63)).alloc (.cells #[.int .u32 0, .int .u32 0, .int .u32 0, .int .u32 0, .int .u32 0, .int .u32 0, .int .u32 0, .int .u32 0, .int .u64 0] 58) = W0 ∧ Row W0 w.heap.size 0 (stv h t) ∧ Row W0 (w.heap.size + 1) 0 (bs l) ∧ Row W0 (w.heap.size + 1 + 1) 0 (stv (List.replicate 8 0) 0) ∧ Below w.heap.size w W0 ∧ W0.heap.size = w.heap.size + 1 + 1 + 1 := by
    refine ⟨_, rfl, ((Row.newL w _ _).alloc _).alloc _, ?_, ?_, (((Below.refl _ w).alloc (Nat.le_refl _) _).alloc (by simp) _).alloc (by simp; omega) _, by rw [World.size_alloc, World.size_alloc, World.size_alloc]⟩
    · have k := (Row.newL (w.alloc (.cells (stv h t).toArray 58)) (bs l) 63).alloc (.cells #[.int .u32 0, .int .u32 0, .int .u32 0, .int .u32 0, .int .u32 0, .int .u32 0, .int .u32 0, .int .u32 0, .int .u64 0] 58)
      rwa [World.size_alloc] at k
    · have k := Row.new ((w.alloc (.cells (stv h t).toArray 58)).alloc (.cells (bs l).toArray 63)) #[.int .u32 0, .int .u32 0, .int .u32 0, .int .u32 0, .int .u32 0, .int .u32 0, .int .u32 0, .int .u32 0, .int .u64 0] 58
      rw [World.size_alloc, World.size_alloc] at k
      exact k
  have r0s : Row W0 w.heap.size 0 (us h) := r0.left
  have r0n : Row W0 w.heap.size 8 [.int .u64 (t : Int)] := by
    have k : Row W0 w.heap.size (0 + (us h).length) [.int .u64 (t : Int)] := r0.right
    rwa [us_length, h8] at k
  have c8 : W0.cell? ⟨w.heap.size, 8, none⟩ = some (.int .u64 (t : Int)) := r0n.cell 0 _ rfl
  have f8 : W0.frozen? ⟨w.heap.size, 8, none⟩ = false := r0n.free 0 (by simp)
  obtain ⟨W1, hW1, a1⟩ : ∃ W1, (W0.setCell ⟨w.heap.size, 8, none⟩ (.int .u64 (T : Int))).alloc (.cells #[.int .u32 0, .int .u32 0, .int .u32 0, .int .u32 0, .int .u32 0, .int .u32 0, .int .u32 0, .int .u32 0, .int .u32 0, .int .u32 0, .int .u32 0, .int .u32 0, .int .u32 0, .int .u32 0, .int .u32 0, .int .u32 0] 72) = W1 ∧ Af w W1 h T l (List.replicate 16 0) := by
    have hB := (b0.setCell (p := ⟨w.heap.size, 8, none⟩) (Nat.le_refl _) (.int .u64 (T : Int))).alloc (o := .cells #[.int .u32 0, .int .u32 0, .int .u32 0, .int .u32 0, .int .u32 0, .int .u32 0, .int .u32 0, .int .u32 0, .int .u32 0, .int .u32 0, .int .u32 0, .int .u32 0, .int .u32 0, .int .u32 0, .int .u32 0, .int .u32 0] 72) (by simp [World.setCell, s0]; omega)
    refine ⟨_, rfl, (r0s.other _ _ _ (.inr (.inr (by rw [us_length, h8]; omega)))).alloc _, (r0n.set (i := 0) (by simp) _).alloc _, (r1.other _ _ _ (.inl (by omega))).alloc _, (r2.other _ _ _ (.inl (by omega))).alloc _, ?_, hB⟩
    have k := Row.new (W0.setCell ⟨w.heap.size, 8, none⟩ (.int .u64 (T : Int))) #[.int .u32 0, .int .u32 0, .int .u32 0, .int .u32 0, .int .u32 0, .int .u32 0, .int .u32 0, .int .u32 0, .int .u32 0, .int .u32 0, .int .u32 0, .int .u32 0, .int .u32 0, .int .u32 0, .int .u32 0, .int .u32 0] 72
    rw [show (W0.setCell ⟨w.heap.size, 8, none⟩ (.int .u64 (T : Int))).heap.size = w.heap.size + 1 + 1 + 1 by simp [World.setCell, s0]] at k
    exact k
  have HA := hide a1
  clear r0 r0s r0n r1 r2 b0 a1
  have e1 : (t : Int) + (n : Int) = (T : Int) := by omega
  have v1 := IntWalk.u64_in (n : Int) (by omega)
  have v2 := IntWalk.u64_in (T : Int) (by omega)
  have v3 : (T : Int) % 18446744073709551616 = (T : Int) := by omega
  have HT := hide eT
  clear eT
  go_enter Try.func27, Try.ntmps27
  go_wp2_with fail
  refine (first_any _).mono ?_
  rintro e w2 ⟨rfl, hB2⟩
  have ha2 := HA.out.below hB2
  have H2 := hide ha2
  clear hB2 ha2 HA hW0 hW1 c8 f8 e1 v1 s0
  go_wp2_with fail
  go_loopg [10, 11, 20] 8 (fun g _ _ q wr => ∃ k : Nat, k + g = 8 ∧ q = .int .i64 k ∧ Af w wr h T l (iupto h k))
  case atStart => exact ⟨0, rfl, rfl, H2.out⟩
  case round =>
    clear H2
    obtain ⟨k, hkg, rfl, hA⟩ := hrel
    by_cases hlt : k < 8
    · have hlt' : (k : Int) < 8 := by omega
      obtain ⟨g3, rfl⟩ : ∃ g3, gk = g3 + 1 := ⟨gk - 1, by omega⟩
      have hx : ∀ w, (Instr.index 55 (.agg (us iv).toArray) (.int .i64 (k : Int))).run Try.prog w = .ok (.int .u32 (Bk.at' iv k : Nat)) w := run_index_cell k Try.underlying55 hlt (by kernel_rfl) Try.underlying54 rfl (by have := us_get iv k hlt; simpa using this)
      have c0 := hA.s.u0 k (by omega)
      have c1 := hA.v.u0 k (by rw [iupto_len]; omega)
      have f1 := hA.v.f0 k (by rw [us_length, iupto_len]; omega)
      have a2 := hA.setv k (Bk.at' h k) (by rw [iupto_len]; omega)
      have a3 := a2.setv (k + 8) (Bk.at' iv k) (by rw [List.length_set, iupto_len]; omega)
      rw [← iupto_succ h k hlt] at a3
      have c2 := a2.v.u0 (k + 8) (by rw [List.length_set, iupto_len]; omega)
      have f2 := a2.v.f0 (k + 8) (by rw [us_length, List.length_set, iupto_len]; omega)
      have H3 := hide a3
      have p1 : (0 : Int) ≤ (k : Int) + 8 := by omega
      have p2 : (k : Int) + 8 < 16 := by omega
      have p3 : ((k : Int) + 8).toNat = k + 8 := by omega
      have p4 := IntWalk.i64_in ((k : Int) + 8) (by omega)
      have p5 : (k : Int) < 16 := by omega
      clear hA a2 a3
      go_wp2_with fail
      go_roundg g3
      case measure => omega
      case rel => exact ⟨k + 1, by omega, by go_num, H3.out⟩
    · obtain rfl : k = 8 := by omega
      obtain ⟨I, hI⟩ : ∃ I, iupto h 8 = I := ⟨_, rfl⟩
      have nI : I.length = 16 := hI ▸ iupto_len h 8
      have i12 : Bk.at' I 12 = Bk.at' iv 4 := hI ▸ rfl
      have i13 : Bk.at' I 13 = Bk.at' iv 5 := hI ▸ rfl
      have i14 : Bk.at' I 14 = Bk.at' iv 6 := hI ▸ rfl
      rw [hI] at hA
      obtain ⟨x4, ex4⟩ : ∃ x, Bk.at' iv 4 = x := ⟨_, rfl⟩
      obtain ⟨x5, ex5⟩ : ∃ x, Bk.at' iv 5 = x := ⟨_, rfl⟩
      have l4 : x4 < 4294967296 := ex4 ▸ iv_lt 4
      have l5 : x5 < 4294967296 := ex5 ▸ iv_lt 5
      obtain ⟨T1, eT1⟩ : ∃ x, T % 4294967296 = x := ⟨_, rfl⟩
      obtain ⟨T2, eT2⟩ : ∃ x, T / 4294967296 % 4294967296 = x := ⟨_, rfl⟩
      have lT1 : T1 < 4294967296 := by omega
      have lT2 : T2 < 4294967296 := by omega
      have w1 : IntKind.u32.wrap (T : Int) = (T1 : Int) := by rw [IntKind.wrap_u32]; omega
      have w1' : (T : Int) % 4294967296 = (T1 : Int) := by omega
      have w2' : IntKind.u32.wrap ((T : Int) / 4294967296) = (T2 : Int) := by rw [IntKind.wrap_u32]; omega
      have w2'' : (T : Int) / 4294967296 % 4294967296 = (T2 : Int) := by omega
      have z1 := xr_int l4 lT1
      have z2 := xr_int l5 lT2
      have cn : wr.cell? ⟨w.heap.size, 8, none⟩ = some (.int .u64 (T : Int)) := hA.n.cell 0 _ rfl
      have c12 := hA.v.u0 12 (by omega)
      have f12 := hA.v.f0 12 (by rw [us_length]; omega)
      rw [i12, ex4] at c12
      have a2 := hA.setv 12 (x4 ^^^ T1) (by omega)
      obtain ⟨W2, hW2, h2⟩ : ∃ W, wr.setCell ⟨w.heap.size + 1 + 1 + 1, 12, none⟩ (.int .u32 ((x4 ^^^ T1 : Nat) : Int)) = W ∧ Af w W h T l (I.set 12 (x4 ^^^ T1)) := ⟨_, rfl, a2⟩
      have cn2 : W2.cell? ⟨w.heap.size, 8, none⟩ = some (.int .u64 (T : Int)) := h2.n.cell 0 _ rfl
      have c13 := h2.v.u0 13 (by rw [List.length_set]; omega)
      have f13 := h2.v.f0 13 (by rw [us_length, List.length_set]; omega)
      rw [at_set _ _ _ _ (by omega), if_neg (by decide), i13, ex5] at c13
      have a3 := h2.setv 13 (x5 ^^^ T2) (by rw [List.length_set]; omega)
      have hini : (I.set 12 (x4 ^^^ T1)).set 13 (x5 ^^^ T2) = ini h T false := by rw [ini_false, hI, ex4, ex5, eT1, eT2]
      rw [hini] at a3
      obtain ⟨W3, hW3, h3⟩ : ∃ W, W2.setCell ⟨w.heap.size + 1 + 1 + 1, 13, none⟩ (.int .u32 ((x5 ^^^ T2 : Nat) : Int)) = W ∧ Af w W h T l (ini h T false) := ⟨_, rfl, a3⟩
      have i14' : Bk.at' (ini h T false) 14 = Bk.at' iv 6 := rfl
      obtain ⟨x6, ex6⟩ : ∃ x, Bk.at' iv 6 = x := ⟨_, rfl⟩
      obtain ⟨x7, ex7⟩ : ∃ x, 4294967295 - Bk.at' iv 6 = x := ⟨_, rfl⟩
      have c14 := h3.v.u0 14 (by rw [ini_length]; omega)
      have f14 := h3.v.f0 14 (by rw [us_length, ini_length]; omega)
      rw [i14', ex6] at c14
      have a4 := h3.setv 14 x7 (by rw [ini_length]; omega)
      have hini2 : (ini h T false).set 14 x7 = ini h T true := by rw [ini_true, ex7]
      rw [hini2] at a4
      have z3 : bits .xor .u32 4294967295 (x6 : Int) = (x7 : Int) := by
        rw [← ex6, ← ex7]
        have k : Bk.at' iv 6 = 528734635 := rfl
        rw [k]
        decide
      obtain ⟨W4, hW4, h4⟩ : ∃ W, W3.setCell ⟨w.heap.size + 1 + 1 + 1, 14, none⟩ (.int .u32 (x7 : Int)) = W ∧ Af w W h T l (ini h T true) := ⟨_, rfl, a4⟩
      have H3 := hide h3
      have H4 := hide h4
      clear a2 a3 a4 h2 h3 h4 hA hI i12 i13 i14 i14' hini hini2 ex4 ex5 ex6 ex7 eT1 eT2
      have sg : IntKind.u32.signed = false := rfl
      have mx' : IntKind.u32.max = 4294967295 := by decide
      cases last with
      | false =>
        go_wp2_with fail
        clear sg mx' hW2 hW3 hW4 cn cn2 c12 c13 c14 f12 f13 f14 z1 z2 z3 w1 w1' w2' w2''
        obtain ⟨V, hV⟩ : ∃ V, ini h T false = V := ⟨_, rfl⟩
        have lV : Lt V := hV ▸ ini_lt lh T false
        have nV : V.length = 16 := hV ▸ ini_length h T false
        obtain ⟨m, hm⟩ : ∃ m, nums l = m := ⟨_, rfl⟩
        have lm : Lt m := hm ▸ nums_lt l
        have nm : m.length = 16 := hm ▸ nums_length l
        obtain ⟨R, hR⟩ : ∃ R, rds m V 10 = R := ⟨_, rfl⟩
        have lR : Lt R := hR ▸ rds_lt lV 10
        have nR : R.length = 16 := hR ▸ (rds_length m V 10).trans nV
        have hfin : cupto h R 8 = cmp h T (nums l) false := by rw [← cupto_all, hm, hV, hR]
        rw [hV] at H3
        have HFI := hide hfin
        have HLV := hide lV
        have HLR := hide lR
        have HLm := hide lm
        have HR := hide hR
        have Hm := hide hm
        clear hV lV lR lm hR hfin hm
        have hx4 := H3.out.drew
        have HX := hide hx4
        clear hx4
        refine wp_region_lex (fun w9 => Row w9 (w.heap.size + 1 + 1 + 1) 0 (us V) ∧ Row w9 (w.heap.size + 1) 0 (bs l)) 4 [some false, some false, none, none, none] (by kernel_rfl) (by kernel_rfl) (fun _ _ _ _ h => h) ⟨HX.out.v, HX.out.b⟩ ?_
        refine lex_load 72 (.tmp 9) rfl (by kernel_rfl) rfl _ (fun w9 h9 => h9.1.cell) Try.underlying72 rfl (by rw [us_length, nV]; kernel_rfl) ?_
        simp only [Act.put, List.setIfInBounds_toArray, List.set_cons_zero, List.set_cons_succ]
        refine lex_load 63 (.tmp 5) rfl (by kernel_rfl) rfl _ (fun w9 h9 => h9.2.cell) Try.underlying63 rfl (by rw [bs_length, hl]; kernel_rfl) ?_
        simp only [Act.put, List.setIfInBounds_toArray, List.set_cons_zero, List.set_cons_succ]
        refine lex_go rfl (fun K hK => ?_)
        go_simp
        go_wp2_with fail
        refine (numsOf_any l _ hl).mono ?_
        rintro e w5 ⟨rfl, hB5⟩
        rw [Hm.out]
        dsimp only
        have h5 := HX.out.below hB5
        have H5 := hide h5
        refine hK.out _ _ (fun _ => ⟨h5.v, h5.b⟩) ?_
        clear hK K hB5 h5 HX
        refine lex_go rfl (fun K hK => ?_)
        go_simp
        go_wp2_with fail
        refine (mixed_any V m _ nV nm HLV.out HLm.out).mono ?_
        rintro e w6 ⟨rfl, hB6⟩
        rw [HR.out]
        dsimp only
        have h6 := H5.out.below hB6
        have H6 := hide h6
        refine hK.out _ _ (fun _ => ⟨h6.v, h6.b⟩) ?_
        clear hK K hB6 h6 H5
        refine lex_rest (Nat.le_refl _) (by rfl) (by rfl) ?_
        refine wpList_storeR rfl 72 (.tmp 9) (.tmp 58) rfl rfl (vs := us R) rfl H6.out.v (by rw [us_length, us_length, nR, nV]) (by rw [us_length, nR]; kernel_rfl) (fun v hv => us_one hv) ?_
        obtain ⟨W7, hW7, h7⟩ : ∃ W, w6.setCells (w.heap.size + 1 + 1 + 1) 0 (us R) = W ∧ Af w W h T l R := ⟨_, rfl, H6.out.putv R (by omega)⟩
        rw [hW7]
        have H7 := hide h7
        clear h7 H6 hW7
        go_wp2_with fail
        go_loopg [12, 59] 8 (fun g _ q wr => ∃ k : Nat, k + g = 8 ∧ q = .int .i64 k ∧ Af w wr (cupto h R k) T l R)
        case atStart => exact ⟨0, rfl, rfl, by rw [cupto_zero h R h8]; exact H7.out⟩
        case round =>
          clear H7
          obtain ⟨wo, hwo⟩ : ∃ z, z = wr := ⟨_, rfl⟩
          subst hwo
          obtain ⟨k, hkg, rfl, hA⟩ := hrel
          by_cases hk : k < 8
          · have hk' : (k : Int) < 8 := by omega
            obtain ⟨g4, rfl⟩ : ∃ g4, gk = g4 + 1 := ⟨gk - 1, by omega⟩
            have hD := hA.drew
            have c0 := hD.s.u0 k (by rw [cupto_len]; omega)
            rw [cupto_at h R k hk] at c0
            have f0 := hD.s.f0 k (by rw [us_length, cupto_len]; omega)
            have c1 := hD.v.u0 k (by omega)
            have c2 := hD.v.u0 (k + 8) (by omega)
            obtain ⟨y0, ey0⟩ : ∃ y, Bk.at' h k = y := ⟨_, rfl⟩
            obtain ⟨y1, ey1⟩ : ∃ y, Bk.at' R k = y := ⟨_, rfl⟩
            obtain ⟨y2, ey2⟩ : ∃ y, Bk.at' R (k + 8) = y := ⟨_, rfl⟩
            have n0 : y0 < 4294967296 := ey0 ▸ lh k
            have n1 : y1 < 4294967296 := ey1 ▸ HLR.out k
            have n2 : y2 < 4294967296 := ey2 ▸ HLR.out (k + 8)
            have z1 := xr_int n1 n2
            have z2 := xr_int n0 (xr_lt n1 n2)
            have hS := hA.seth k (y0 ^^^ (y1 ^^^ y2)) (by rw [cupto_len]; omega) (cupto_len _ _ _)
            rw [show (cupto h R k).set k (y0 ^^^ (y1 ^^^ y2)) = cupto h R (k + 1) by rw [cupto_succ h R k hk, ey0, ey1, ey2]] at hS
            rw [ey0] at c0
            rw [ey1] at c1
            rw [ey2] at c2
            have HS := hide hS
            obtain ⟨W8, hW8⟩ : ∃ W, wo.drew = W := ⟨_, rfl⟩
            rw [hW8] at c0 f0 c1 c2
            have p1 : (0 : Int) ≤ (k : Int) + 8 := by omega
            have p2 : (k : Int) + 8 < 16 := by omega
            have p3 : ((k : Int) + 8).toNat = k + 8 := by omega
            have p4 := IntWalk.i64_in ((k : Int) + 8) (by omega)
            have p5 : (k : Int) < 16 := by omega
            clear hA hD hS ey0 ey1 ey2
            go_wp2_with fail
            refine region_tail 14 (by kernel_rfl) (by kernel_rfl) ?_
            rw [hW8]
            simp only [List.take_succ_cons, List.take_zero, List.drop_succ_cons, List.drop_zero]
            repeat still_step
            refine wpStill_nil ?_
            go_wp2_with fail
            go_roundg g4
            case measure => omega
            case rel =>
              refine ⟨k + 1, by omega, by go_num, ?_⟩
              subst hW8
              exact HS.out.drew
          · obtain rfl : k = 8 := by omega
            obtain ⟨C, hC⟩ : ∃ C, cupto h R 8 = C := ⟨_, rfl⟩
            have nC : C.length = 8 := hC ▸ cupto_len h R 8
            rw [hC] at hA
            have HC := hide (hC.symm.trans HFI.out)
            have rs : Row wo w.heap.size 0 (stv C T) := by
              have k := hA.n
              rw [show (8 : Nat) = 0 + (us C).length by rw [us_length, nC]] at k
              exact hA.s.join k
            have HRS := hide rs
            have HA := hide hA
            clear rs hA hC
            iterate 15 go_step
            refine wpList_loadR (op := ⟨some 78, _, _, _, _, _⟩) rfl 58 (.tmp 4) rfl rfl _ HRS.out Try.underlying58 rfl (by rw [stv_length, nC]; kernel_rfl) ?_
            simp only [Act.put, List.setIfInBounds_toArray, List.set_cons_zero, List.set_cons_succ]
            refine wpList_storeR (op := ⟨none, _, _, _, _, _⟩) rfl 58 (.tmp 8) (.tmp 78) rfl rfl (vs := stv C T) rfl HA.out.r (by rw [stv_length, stv_length, nC]; rfl) (by rw [stv_length, nC]; kernel_rfl) (fun v hv => stv_one hv) ?_
            go_wp2_with fail
            refine post_row _ (HA.out.r.put (stv C T) (by rw [stv_length, stv_length, nC]; rfl)) rfl rfl Try.underlying58 rfl (by rw [stv_length, nC]; kernel_rfl) rfl ?_
            refine ⟨?_, HA.out.be.trans (below_setCells (by omega) _ _ _)⟩
            exact congrArg (fun z => Ending.returned (.agg (stv z T).toArray)) HC.out
      | true =>
        go_wp2_with fail
        clear sg mx' hW2 hW3 hW4 cn cn2 c12 c13 c14 f12 f13 f14 z1 z2 z3 w1 w1' w2' w2''
        obtain ⟨V, hV⟩ : ∃ V, ini h T true = V := ⟨_, rfl⟩
        have lV : Lt V := hV ▸ ini_lt lh T true
        have nV : V.length = 16 := hV ▸ ini_length h T true
        obtain ⟨m, hm⟩ : ∃ m, nums l = m := ⟨_, rfl⟩
        have lm : Lt m := hm ▸ nums_lt l
        have nm : m.length = 16 := hm ▸ nums_length l
        obtain ⟨R, hR⟩ : ∃ R, rds m V 10 = R := ⟨_, rfl⟩
        have lR : Lt R := hR ▸ rds_lt lV 10
        have nR : R.length = 16 := hR ▸ (rds_length m V 10).trans nV
        have hfin : cupto h R 8 = cmp h T (nums l) true := by rw [← cupto_all, hm, hV, hR]
        rw [hV] at H4
        have HFI := hide hfin
        have HLV := hide lV
        have HLR := hide lR
        have HLm := hide lm
        have HR := hide hR
        have Hm := hide hm
        clear hV lV lR lm hR hfin hm
        have hx4 := H4.out.drew
        have HX := hide hx4
        clear hx4
        refine wp_region_lex (fun w9 => Row w9 (w.heap.size + 1 + 1 + 1) 0 (us V) ∧ Row w9 (w.heap.size + 1) 0 (bs l)) 4 [some false, some false, none, none, none] (by kernel_rfl) (by kernel_rfl) (fun _ _ _ _ h => h) ⟨HX.out.v, HX.out.b⟩ ?_
        refine lex_load 72 (.tmp 9) rfl (by kernel_rfl) rfl _ (fun w9 h9 => h9.1.cell) Try.underlying72 rfl (by rw [us_length, nV]; kernel_rfl) ?_
        simp only [Act.put, List.setIfInBounds_toArray, List.set_cons_zero, List.set_cons_succ]
        refine lex_load 63 (.tmp 5) rfl (by kernel_rfl) rfl _ (fun w9 h9 => h9.2.cell) Try.underlying63 rfl (by rw [bs_length, hl]; kernel_rfl) ?_
        simp only [Act.put, List.setIfInBounds_toArray, List.set_cons_zero, List.set_cons_succ]
        refine lex_go rfl (fun K hK => ?_)
        go_simp
        go_wp2_with fail
        refine (numsOf_any l _ hl).mono ?_
        rintro e w5 ⟨rfl, hB5⟩
        rw [Hm.out]
        dsimp only
        have h5 := HX.out.below hB5
        have H5 := hide h5
        refine hK.out _ _ (fun _ => ⟨h5.v, h5.b⟩) ?_
        clear hK K hB5 h5 HX
        refine lex_go rfl (fun K hK => ?_)
        go_simp
        go_wp2_with fail
        refine (mixed_any V m _ nV nm HLV.out HLm.out).mono ?_
        rintro e w6 ⟨rfl, hB6⟩
        rw [HR.out]
        dsimp only
        have h6 := H5.out.below hB6
        have H6 := hide h6
        refine hK.out _ _ (fun _ => ⟨h6.v, h6.b⟩) ?_
        clear hK K hB6 h6 H5
        refine lex_rest (Nat.le_refl _) (by rfl) (by rfl) ?_
        refine wpList_storeR rfl 72 (.tmp 9) (.tmp 58) rfl rfl (vs := us R) rfl H6.out.v (by rw [us_length, us_length, nR, nV]) (by rw [us_length, nR]; kernel_rfl) (fun v hv => us_one hv) ?_
        obtain ⟨W7, hW7, h7⟩ : ∃ W, w6.setCells (w.heap.size + 1 + 1 + 1) 0 (us R) = W ∧ Af w W h T l R := ⟨_, rfl, H6.out.putv R (by omega)⟩
        rw [hW7]
        have H7 := hide h7
        clear h7 H6 hW7
        go_wp2_with fail
        go_loopg [12, 59] 8 (fun g _ q wr => ∃ k : Nat, k + g = 8 ∧ q = .int .i64 k ∧ Af w wr (cupto h R k) T l R)
        case atStart => exact ⟨0, rfl, rfl, by rw [cupto_zero h R h8]; exact H7.out⟩
        case round =>
          clear H7
          obtain ⟨wo, hwo⟩ : ∃ z, z = wr := ⟨_, rfl⟩
          subst hwo
          obtain ⟨k, hkg, rfl, hA⟩ := hrel
          by_cases hk : k < 8
          · have hk' : (k : Int) < 8 := by omega
            obtain ⟨g4, rfl⟩ : ∃ g4, gk = g4 + 1 := ⟨gk - 1, by omega⟩
            have hD := hA.drew
            have c0 := hD.s.u0 k (by rw [cupto_len]; omega)
            rw [cupto_at h R k hk] at c0
            have f0 := hD.s.f0 k (by rw [us_length, cupto_len]; omega)
            have c1 := hD.v.u0 k (by omega)
            have c2 := hD.v.u0 (k + 8) (by omega)
            obtain ⟨y0, ey0⟩ : ∃ y, Bk.at' h k = y := ⟨_, rfl⟩
            obtain ⟨y1, ey1⟩ : ∃ y, Bk.at' R k = y := ⟨_, rfl⟩
            obtain ⟨y2, ey2⟩ : ∃ y, Bk.at' R (k + 8) = y := ⟨_, rfl⟩
            have n0 : y0 < 4294967296 := ey0 ▸ lh k
            have n1 : y1 < 4294967296 := ey1 ▸ HLR.out k
            have n2 : y2 < 4294967296 := ey2 ▸ HLR.out (k + 8)
            have z1 := xr_int n1 n2
            have z2 := xr_int n0 (xr_lt n1 n2)
            have hS := hA.seth k (y0 ^^^ (y1 ^^^ y2)) (by rw [cupto_len]; omega) (cupto_len _ _ _)
            rw [show (cupto h R k).set k (y0 ^^^ (y1 ^^^ y2)) = cupto h R (k + 1) by rw [cupto_succ h R k hk, ey0, ey1, ey2]] at hS
            rw [ey0] at c0
            rw [ey1] at c1
            rw [ey2] at c2
            have HS := hide hS
            obtain ⟨W8, hW8⟩ : ∃ W, wo.drew = W := ⟨_, rfl⟩
            rw [hW8] at c0 f0 c1 c2
            have p1 : (0 : Int) ≤ (k : Int) + 8 := by omega
            have p2 : (k : Int) + 8 < 16 := by omega
            have p3 : ((k : Int) + 8).toNat = k + 8 := by omega
            have p4 := IntWalk.i64_in ((k : Int) + 8) (by omega)
            have p5 : (k : Int) < 16 := by omega
            clear hA hD hS ey0 ey1 ey2
            go_wp2_with fail
            refine region_tail 14 (by kernel_rfl) (by kernel_rfl) ?_
            rw [hW8]
            simp only [List.take_succ_cons, List.take_zero, List.drop_succ_cons, List.drop_zero]
            repeat still_step
            refine wpStill_nil ?_
            go_wp2_with fail
            go_roundg g4
            case measure => omega
            case rel =>
              refine ⟨k + 1, by omega, by go_num, ?_⟩
              subst hW8
              exact HS.out.drew
          · obtain rfl : k = 8 := by omega
            obtain ⟨C, hC⟩ : ∃ C, cupto h R 8 = C := ⟨_, rfl⟩
            have nC : C.length = 8 := hC ▸ cupto_len h R 8
            rw [hC] at hA
            have HC := hide (hC.symm.trans HFI.out)
            have rs : Row wo w.heap.size 0 (stv C T) := by
              have k := hA.n
              rw [show (8 : Nat) = 0 + (us C).length by rw [us_length, nC]] at k
              exact hA.s.join k
            have HRS := hide rs
            have HA := hide hA
            clear rs hA hC
            iterate 15 go_step
            refine wpList_loadR (op := ⟨some 78, _, _, _, _, _⟩) rfl 58 (.tmp 4) rfl rfl _ HRS.out Try.underlying58 rfl (by rw [stv_length, nC]; kernel_rfl) ?_
            simp only [Act.put, List.setIfInBounds_toArray, List.set_cons_zero, List.set_cons_succ]
            refine wpList_storeR (op := ⟨none, _, _, _, _, _⟩) rfl 58 (.tmp 8) (.tmp 78) rfl rfl (vs := stv C T) rfl HA.out.r (by rw [stv_length, stv_length, nC]; rfl) (by rw [stv_length, nC]; kernel_rfl) (fun v hv => stv_one hv) ?_
            go_wp2_with fail
            refine post_row _ (HA.out.r.put (stv C T) (by rw [stv_length, stv_length, nC]; rfl)) rfl rfl Try.underlying58 rfl (by rw [stv_length, nC]; kernel_rfl) rfl ?_
            refine ⟨?_, HA.out.be.trans (below_setCells (by omega) _ _ _)⟩
            exact congrArg (fun z => Ending.returned (.agg (stv z T).toArray)) HC.out
end Go.Proofs.Ytjdgaolailfplaa
