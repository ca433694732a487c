/- Several texts of ours, one behind the other; what each is for stands ahead of it. -/
import Derived.Test.YtknjmmbebkcnpaaRun5
import Derived.Test.YtknjmmbebkcnpaaRun10

/- What is made of a text's blocks by the closure of Seal, one behind the other, put together: walked. For any text of whole blocks, one or more, a cipher and the first block in memory: of what was there the block ahead alone turns. -/
namespace Go.Proofs.Ytknjmmbebkcnpaa
open Go.RowKit Go.Shelf Bk
set_option linter.unusedVariables false
set_option linter.unusedSimpArgs false
attribute [local go_sem] Oper.semAt_some

set_option maxRecDepth 100000 in
set_option maxHeartbeats 4000000 in
theorem made_sealer {w : World} (T : ByteArray) (n : Nat) (f : List UInt8) (K : ByteArray) (b C A : Nat) (hT : T.size = 16 * n) (h1 : 0 < n) (hn : n ≤ 68719476736) (hf : f.length = 16) (hk : K.size = 32)
    (hC : w.cell? ⟨C, 0, none⟩ = some (.pointer (some ⟨b, 0, none⟩))) (hR : Row w b 0 (bs (ciB (kw K)))) (hA : Row w A 0 (bs f)) (hCA : C ≠ A) (hbA : b ≠ A) :
    CallsIn Fence.wide 5 Try.prog 21 #[.string T, .func (.func 22) #[] #[.pointer (some ⟨C, 0, none⟩), .pointer (some ⟨A, 0, none⟩)]] w fun e w' =>
      (∃ ys, Bks T n ys ∧ e = .returned (.tuple #[.string ⟨((stf (fun a s => enc (kw K) (comb s a)) (fun a s => enc (kw K) (comb s a)) f ys).2).toArray⟩, .int .i64 0])) ∧ Bt A w w' := by
  have hro : Fence.wide.round = none := rfl
  obtain ⟨N, hN⟩ : ∃ N, T.size = N := ⟨_, rfl⟩
  have HTN := hide hT
  have HNn := hide (show N = 16 * n by omega)
  have hNb : N ≤ 281474976710656 := by omega
  clear hT
  have hAl := hA.lt
  have hCl := cell_lt hC
  have hRl := hR.lt
  have hmx : Try.prog.follows .mixedOrders = true := by kernel_rfl
  obtain ⟨fv, efv⟩ : ∃ fv, Value.func (.func 22) #[] #[.pointer (some ⟨C, 0, none⟩), .pointer (some ⟨A, 0, none⟩)] = fv := ⟨_, rfl⟩
  obtain ⟨W0, hW0, x3, x4, x5, x6, b0⟩ : ∃ W0, ((((w.alloc (.cells #[fv] 42)).alloc (.cells #[.string ⟨#[]⟩] 9)).alloc (.cells #[.int .i64 0] 23)).alloc (.cells #[.pointer none, .slice none 0 0] 46)) = W0 ∧
      Boxed W0 w.heap.size 42 fv ∧ Boxed W0 (w.heap.size + 1) 9 (.string ⟨#[]⟩) ∧ Boxed W0 (w.heap.size + 1 + 1) 23 (.int .i64 0) ∧ W0.heap[w.heap.size + 1 + 1 + 1]? = some (.cells #[.pointer none, .slice none 0 0] 46 (0, 0)) ∧ Below w.heap.size w W0 := by
    refine ⟨_, rfl, (((Boxed.new w 42 fv).alloc _).alloc _).alloc _, ?_, ?_, ?_, ?_⟩
    · have := (((Boxed.new (w.alloc (.cells #[fv] 42)) 9 (.string ⟨#[]⟩)).alloc (.cells #[.int .i64 0] 23)).alloc (.cells #[.pointer none, .slice none 0 0] 46))
      simpa using this
    · have := ((Boxed.new ((w.alloc (.cells #[fv] 42)).alloc (.cells #[.string ⟨#[]⟩] 9)) 23 (.int .i64 0)).alloc (.cells #[.pointer none, .slice none 0 0] 46))
      simpa using this
    · have := heap_alloc_new (((w.alloc (.cells #[fv] 42)).alloc (.cells #[.string ⟨#[]⟩] 9)).alloc (.cells #[.int .i64 0] 23)) (.cells #[.pointer none, .slice none 0 0] 46)
      simpa using this
    · exact below4 w _ _ _ _
  have hW0s : w.heap.size + 1 + 1 + 1 < W0.heap.size := (Array.getElem?_eq_some_iff.1 x6).1
  have HB6 := hide (And.intro x3 (And.intro x4 (And.intro x5 (And.intro x6 (And.intro b0 hW0s)))))
  have HS := hide (And.intro hC (And.intro hR (And.intro hA (And.intro hCA (And.intro hbA (And.intro hf hk))))))
  have HL := hide (And.intro hAl (And.intro hCl hRl))
  clear x3 x4 x5 x6 b0 hC hR hA hCA hbA hf hk hAl hCl hRl hW0s
  refine callsIn_of_wp_marks Try.func21 rfl trivial ?_ hro
  simp only [Try.ntmps21, List.size_toArray, List.length_cons, List.length_nil, Nat.reduceAdd, Nat.reduceSub, Array.replicate_succ, Array.replicate_zero, List.push_toArray, List.append_toArray, List.nil_append, List.cons_append]
  rw [efv]
  gi_wp2_with fail
  rw [hW0]
  clear hW0
  refine ⟨trivial, (callsIn_wide.2 (bgrow_c (w.heap.size + 1 + 1 + 1) (w.heap.size + 1 + 1 + 1) N W0 (Nat.le_refl _) HB6.out.2.2.2.1 (Nat.le_of_lt HB6.out.2.2.2.2.2) hNb)).mono ?_⟩
  rintro e w1 ⟨rfl, hd1, hb1⟩
  have H1 := hide (show Bd w1 (w.heap.size + 1 + 1 + 1) (w.heap.size + 1 + 1 + 1) [] ∧ Boxed w1 w.heap.size 42 fv ∧ Boxed w1 (w.heap.size + 1) 9 (.string ⟨#[]⟩) ∧ Boxed w1 (w.heap.size + 1 + 1) 23 (.int .i64 0) ∧ Below w.heap.size w w1 ∧ w.heap.size + 1 + 1 + 1 < w1.heap.size from
    ⟨hd1, (hb1.block _ (by omega)).trans HB6.out.1, (hb1.block _ (by omega)).trans HB6.out.2.1, (hb1.block _ (by omega)).trans HB6.out.2.2.1, HB6.out.2.2.2.2.1.trans (hb1.mono (by omega)), Nat.lt_of_lt_of_le HB6.out.2.2.2.2.2 hb1.size⟩)
  clear hd1 hb1 HB6
  gi_wp2_with fail
  refine ⟨trivial, (cBlocks_in 4 T w1).mono ?_⟩
  rintro e w2 ⟨rfl, hw2⟩
  have bT : Boxed w2 w1.heap.size 9 (.string T) := by rw [hw2]; exact Boxed.new w1 9 (.string T)
  have b12 : Below w1.heap.size w1 w2 := by rw [hw2]; exact (Below.refl _ w1).alloc (Nat.le_refl _) _
  have hs2 : w2.heap.size = w1.heap.size + 1 := by rw [hw2]; simp
  have H2 := hide (show Bd w2 (w.heap.size + 1 + 1 + 1) (w.heap.size + 1 + 1 + 1) [] ∧ Boxed w2 w.heap.size 42 fv ∧ Boxed w2 (w.heap.size + 1) 9 (.string ⟨#[]⟩) ∧ Boxed w2 (w.heap.size + 1 + 1) 23 (.int .i64 0) ∧ Boxed w2 w1.heap.size 9 (.string T) ∧ Bt A w w2 ∧ Row w2 A 0 (bs f) from by
    obtain ⟨h1, h2, h3, h4, h5, h6⟩ := H1.out
    exact ⟨h1.below b12, boxed_below h2 b12, boxed_below h3 b12, boxed_below h4 b12, bT, Bt.of_below (h5.trans (b12.mono (by omega))), HS.out.2.2.1.below (h5.trans (b12.mono (by omega))) HL.out.1⟩)
  have HZ := hide (And.intro hs2 H1.out.2.2.2.2.2)
  clear b12 hw2 hs2 H1
  obtain ⟨Tb, hTb⟩ : ∃ Tb, w1.heap.size = Tb := ⟨_, rfl⟩
  rw [hTb] at H2 HZ bT ⊢
  clear hTb
  gi_wp2_with fail
  refine wpIn_rangeFunc_ownH hro (by decide) (gf := 58) (lb := #[.pointer (some ⟨Tb, 0, none⟩)]) rfl trivial (enters_of Try.func58 (by kernel_rfl) rfl)
    (blocks_stops _ (by decide) Tb n T HTN.out hn w2 bT.lt bT.cell) kpC_t ?hKb (Below.refl _ _) (fun _ => rfl)
    (fun pre W => Bd W (w.heap.size + 1 + 1 + 1) (w.heap.size + 1 + 1 + 1) (stf (fun a s => enc (kw K) (comb s a)) (fun a s => enc (kw K) (comb s a)) f pre).2 ∧ Row W A 0 (bs (stf (fun a s => enc (kw K) (comb s a)) (fun a s => enc (kw K) (comb s a)) f pre).1) ∧ Bt A w W ∧ Boxed W w.heap.size 42 fv ∧ Boxed W (w.heap.size + 1) 9 (.string ⟨#[]⟩) ∧ Boxed W (w.heap.size + 1 + 1) 23 (.int .i64 0) ∧ Boxed W Tb 9 (.string T))
    (fun _ _ _ => False)
    ((bd_own _ _ _ _).and ((row_own _ _ _ (fun pre => bs (stf (fun a s => enc (kw K) (comb s a)) (fun a s => enc (kw K) (comb s a)) f pre).1)).and ((bt_own (by have := HZ.out; omega)).and ((boxed_from _ _ _ _).and ((boxed_from _ _ _ _).and ((boxed_from _ _ _ _).and (boxed_from _ _ _ _)))))))
    (fun _ _ _ _ _ hs _ _ => hs)
    ⟨H2.out.1, H2.out.2.2.2.2.2.2, H2.out.2.2.2.2.2.1, H2.out.2.1, H2.out.2.2.1, H2.out.2.2.2.1, H2.out.2.2.2.2.1⟩
    (fun x a' W => ∃ c, a' = { tmps := #[.string T, fv, undef, .pointer (some ⟨w.heap.size, 0, none⟩), .pointer (some ⟨w.heap.size + 1, 0, none⟩), .pointer (some ⟨w.heap.size + 1 + 1, 0, none⟩), .pointer (some ⟨w.heap.size + 1 + 1 + 1, 0, none⟩), .pointer (some ⟨c, 0, none⟩), undef, undef, .string T, .int .i64 N, .tuple #[], .string T, .func (.func 58) #[] #[.pointer (some ⟨Tb, 0, none⟩)], .agg (bs x.1).toArray, undef, undef, undef, undef, undef, undef, undef, undef, undef, undef, undef, undef], defers := [] } ∧ Row W c 0 (bs x.1))
    ?hAx ?assign ?body ?done ?stop
  case hKb =>
    intro W l o o' hl h1 h2 _
    exact World.cell?_of_block (w := W) (World.putObj_heap_other (by show Tb ≠ l; have := HZ.out; omega))
  case hAx =>
    intro x a' s W W' row hs hg hr
    obtain ⟨c, e, h⟩ := hs
    exact ⟨c, e, row_own (β := Unit) _ c 0 (fun _ => bs x.1) () W W' row h hg hr⟩
  case assign =>
    intro l pre x W K hI hK
    obtain ⟨hd, hA, hBt, k3, k4, k5, kT⟩ := hI
    simp only [encC]
    obtain ⟨W', hW', hb', hc'⟩ : ∃ W', (W.alloc (.cells #[.int .u8 0, .int .u8 0, .int .u8 0, .int .u8 0, .int .u8 0, .int .u8 0, .int .u8 0, .int .u8 0, .int .u8 0, .int .u8 0, .int .u8 0, .int .u8 0, .int .u8 0, .int .u8 0, .int .u8 0, .int .u8 0] 37)).setCells W.heap.size 0 (bs x.1) = W' ∧ Below W.heap.size W W' ∧ Row W' W.heap.size 0 (bs x.1) :=
      ⟨_, rfl, below_made (Below.refl _ W) (Nat.le_refl _) _ _ _, Row.made W (bs (zr 16)) _ _ (by rw [bs_length, bs_length, x.2]; rfl)⟩
    have HZ16 := hide (Row.newL W (bs (zr 16)) 37)
    have HK := hide (hK { tmps := #[.string T, fv, undef, .pointer (some ⟨w.heap.size, 0, none⟩), .pointer (some ⟨w.heap.size + 1, 0, none⟩), .pointer (some ⟨w.heap.size + 1 + 1, 0, none⟩), .pointer (some ⟨w.heap.size + 1 + 1 + 1, 0, none⟩), .pointer (some ⟨W.heap.size, 0, none⟩), undef, undef, .string T, .int .i64 N, .tuple #[], .string T, .func (.func 58) #[] #[.pointer (some ⟨Tb, 0, none⟩)], .agg (bs x.1).toArray, undef, undef, undef, undef, undef, undef, undef, undef, undef, undef, undef, undef], defers := [] } W'
      ⟨hb'.size, fun k o _ ho _ => (hb'.block k (Array.getElem?_eq_some_iff.1 ho).1).trans ho⟩ (World.cell?_of_block (a := ⟨Tb, 0, none⟩) (hb'.block Tb kT.lt))
      ⟨hd.below hb', hA.below hb' hA.lt, hBt.trans (Bt.of_below hb'), boxed_below k3 hb', boxed_below k4 hb', boxed_below k5 hb', boxed_below kT hb'⟩ ⟨W.heap.size, rfl, hc'⟩)
    have HX2 := hide x.2
    clear hK hb' hc' hd hA hBt k3 k4 k5 kT
    refine region_round (R := fun a' w' => a' = { tmps := #[.string T, fv, undef, .pointer (some ⟨w.heap.size, 0, none⟩), .pointer (some ⟨w.heap.size + 1, 0, none⟩), .pointer (some ⟨w.heap.size + 1 + 1, 0, none⟩), .pointer (some ⟨w.heap.size + 1 + 1 + 1, 0, none⟩), .pointer (some ⟨W.heap.size, 0, none⟩), undef, undef, .string T, .int .i64 N, .tuple #[], .string T, .func (.func 58) #[] #[.pointer (some ⟨Tb, 0, none⟩)], .agg (bs x.1).toArray, undef, undef, undef, undef, undef, undef, undef, undef, undef, undef, undef, undef], defers := [] } ∧ w' = W') (by kernel_rfl) ?_ ?_
    · go_wp2_with (refine wpList_storeR (op := ⟨none, _, _, _, _, _⟩) rfl 37 (.tmp 7) (.tmp 15) rfl rfl (vs := bs x.1) rfl HZ16.out (by rw [bs_length, bs_length, HX2.out, zr_length]) (by rw [bs_length, HX2.out]; kernel_rfl) (fun v hv => bs_one hv) ?_; rw [hW'])
      exact ⟨rfl, rfl⟩
    · rintro a' w' ⟨rfl, rfl⟩
      exact HK.out
  case body =>
    rintro l pre x a' W hl hlr ⟨hd, hA, hBt, k3, k4, k5, kT⟩ ⟨c, rfl, hc⟩ hlen
    have hNl : ∀ a s : List UInt8, a.length = 16 → s.length = 16 → ((fun a s => enc (kw K) (comb s a)) a s).length = 16 := fun a s ha hs => enc_length (kw_length HS.out.2.2.2.2.2.2) (comb_length hs ha)
    have hYl : ∀ a s : List UInt8, a.length = 16 → s.length = 16 → ((fun a s => enc (kw K) (comb s a)) a s).length = 16 := fun a s ha hs => enc_length (kw_length HS.out.2.2.2.2.2.2) (comb_length hs ha)
    have la := stf_len1 (Y := (fun a s => enc (kw K) (comb s a))) hNl hYl HS.out.2.2.2.2.2.1 pre
    have lo := stf_len2 (Y := (fun a s => enc (kw K) (comb s a))) hNl hYl HS.out.2.2.2.2.2.1 pre
    have HSN := hide (stf_snoc (fun a s => enc (kw K) (comb s a)) (fun a s => enc (kw K) (comb s a)) f pre x)
    obtain ⟨a, ea⟩ : ∃ a, (stf (fun a s => enc (kw K) (comb s a)) (fun a s => enc (kw K) (comb s a)) f pre).1 = a := ⟨_, rfl⟩
    obtain ⟨o, eo⟩ : ∃ o, (stf (fun a s => enc (kw K) (comb s a)) (fun a s => enc (kw K) (comb s a)) f pre).2 = o := ⟨_, rfl⟩
    rw [ea] at la hA
    rw [ea, eo] at HSN
    rw [eo] at hd lo
    have hcw : W.cell? ⟨C, 0, none⟩ = some (.pointer (some ⟨b, 0, none⟩)) := (World.cell?_of_block (a := ⟨C, 0, none⟩) (hBt.block C HL.out.2.1 HS.out.2.2.2.1)).trans HS.out.1
    have HCL := hide (sealer_any x.1 a K b C A W x.2 la HS.out.2.2.2.2.2.2 hcw (HS.out.2.1.bt hBt HS.out.2.2.2.2.1) hA)
    obtain ⟨y, ey⟩ : ∃ y, (fun a s => enc (kw K) (comb s a)) a x.1 = y := ⟨_, rfl⟩
    have ly : y.length = 16 := by rw [← ey]; exact hYl _ _ la x.2
    dsimp only at ey HCL HSN
    simp only [ey] at HCL HSN
    obtain ⟨S, eS⟩ : ∃ S, ByteArray.mk y.toArray = S := ⟨_, rfl⟩
    have sS : sb S = y := by rw [← eS]; exact sb_mk _
    have zS : S.size = 16 := by rw [← sb_length, sS, ly]
    rw [eS] at HCL
    have HI := hide (And.intro hd (And.intro hBt (And.intro k3 (And.intro k4 (And.intro k5 kT)))))
    have HM := hide (And.intro lo (And.intro hlen (And.intro sS (And.intro zS x.2))))
    have HC9 := hide hc
    have HKT := hide kT
    have k3c := k3.cell
    subst efv
    clear hNl hYl la lo ea eo ey eS sS zS ly hd hA hBt k3 k4 k5 kT hcw hc
    refine wpIn_block (wpIn_seq ?_)
    refine region_round (R := fun a' w' => a' = { tmps := #[.string T, .func (.func 22) #[] #[.pointer (some ⟨C, 0, none⟩), .pointer (some ⟨A, 0, none⟩)], undef, .pointer (some ⟨w.heap.size, 0, none⟩), .pointer (some ⟨w.heap.size + 1, 0, none⟩), .pointer (some ⟨w.heap.size + 1 + 1, 0, none⟩), .pointer (some ⟨w.heap.size + 1 + 1 + 1, 0, none⟩), .pointer (some ⟨c, 0, none⟩), .string S, .int .i64 0, .string T, .int .i64 N, .tuple #[], .string T, .func (.func 58) #[] #[.pointer (some ⟨Tb, 0, none⟩)], .agg (bs x.1).toArray, .tuple #[.string S, .int .i64 0], .func (.func 22) #[] #[.pointer (some ⟨C, 0, none⟩), .pointer (some ⟨A, 0, none⟩)], .agg (bs x.1).toArray, .tuple #[.string S, .int .i64 0], .string S, .int .i64 0, undef, undef, undef, undef, undef, undef], defers := [] } ∧ Row w' A 0 (bs y) ∧ Bt A W w') (by kernel_rfl) ?_ ?_
    · go_wp2_with (refine wpList_loadR (op := ⟨some 18, _, _, _, _, _⟩) rfl 37 (.tmp 7) rfl rfl _ HC9.out Try.underlying37 rfl (by rw [bs_length, HM.out.2.2.2.2]; kernel_rfl) ?_)
      refine HCL.out.mono ?_
      rintro e w5 ⟨rfl, hr5, hb5⟩
      have HE5 := hide (And.intro hr5 hb5)
      clear hr5 hb5
      go_wp2_with fail
      exact ⟨rfl, HE5.out⟩
    · rintro a' w5 ⟨rfl, hr5, hb5⟩
      have H5 := hide (show Bd w5 (w.heap.size + 1 + 1 + 1) (w.heap.size + 1 + 1 + 1) o ∧ Row w5 A 0 (bs y) ∧ Bt A w w5 ∧ Boxed w5 w.heap.size 42 (.func (.func 22) #[] #[.pointer (some ⟨C, 0, none⟩), .pointer (some ⟨A, 0, none⟩)]) ∧ Boxed w5 (w.heap.size + 1) 9 (.string ⟨#[]⟩) ∧ Boxed w5 (w.heap.size + 1 + 1) 23 (.int .i64 0) ∧ Boxed w5 Tb 9 (.string T) ∧ Bt A W w5 from by
        obtain ⟨i1, i2, i3, i4, i5, i6⟩ := HI.out
        have := HL.out
        have := HZ.out
        exact ⟨i1.bt hb5 (by omega), hr5, i2.trans hb5, boxed_bt i3 hb5 (by omega), boxed_bt i4 hb5 (by omega), boxed_bt i5 hb5 (by omega), boxed_bt i6 hb5 (by omega), hb5⟩)
      clear hr5 hb5 HI HCL HC9 k3c
      gi_wp2_with fail
      refine ⟨trivial, (CallsIn.inRound l (callsIn_wide.2 (bwriteF_c (w.heap.size + 1 + 1 + 1) (w.heap.size + 1 + 1 + 1) o S w5 H5.out.1 (by have := HM.out.1; have := HM.out.2.1; have := HM.out.2.2.2.1; omega)))).mono ?_⟩
      rintro e w6 ⟨rfl, hd6, hb6, hf6⟩
      have HF := hide (show KeepsFrom w2.heap.size W w6 ∧ KpC Tb W w6 ∧ Bd w6 (w.heap.size + 1 + 1 + 1) (w.heap.size + 1 + 1 + 1) (stf (fun a s => enc (kw K) (comb s a)) (fun a s => enc (kw K) (comb s a)) f (pre ++ [x])).2 ∧ Row w6 A 0 (bs (stf (fun a s => enc (kw K) (comb s a)) (fun a s => enc (kw K) (comb s a)) f (pre ++ [x])).1) ∧ Bt A w w6 ∧ Boxed w6 w.heap.size 42 (.func (.func 22) #[] #[.pointer (some ⟨C, 0, none⟩), .pointer (some ⟨A, 0, none⟩)]) ∧ Boxed w6 (w.heap.size + 1) 9 (.string ⟨#[]⟩) ∧ Boxed w6 (w.heap.size + 1 + 1) 23 (.int .i64 0) ∧ Boxed w6 Tb 9 (.string T) from by
        obtain ⟨i1, i2, i3, i4, i5, i6, i7, i8⟩ := H5.out
        have q1 := HL.out
        have q2 := HZ.out
        have hkT := boxed_fo i7 hf6 (by omega) (by decide)
        refine ⟨⟨Nat.le_trans i8.size hb6.size, fun k ob hk ho hn => ?_⟩, ?_, ?_, ?_, ?_, boxed_fo i4 hf6 (by omega) (by decide), boxed_fo i5 hf6 (by omega) (by decide), boxed_fo i6 hf6 (by omega) (by decide), hkT⟩
        · exact hf6 k ob (by omega) ((i8.block k (Array.getElem?_eq_some_iff.1 ho).1 (by omega)).trans ho) (fun cur q e => by rw [e] at hn; cases hn)
        · exact hkT.cell.trans HKT.out.cell.symm
        · rw [HSN.out]
          have := hd6
          rw [HM.out.2.2.1] at this
          exact this
        · rw [HSN.out]
          exact i2.below hb6 (by omega)
        · exact ⟨hb6.os.trans i3.os, hb6.tape.trans i3.tape, hb6.output.trans i3.output, Nat.le_trans i3.size hb6.size, fun k hk hkA => (hb6.block k (by omega)).trans (i3.block k hk hkA)⟩)
      clear hd6 hb6 hf6 H5
      gi_wp2_with fail
      exact HF.out
  case done =>
    rintro D ys W hD hys ⟨hd, hA, hBt, k3, k4, k5, kT⟩ hK
    have hlo := stf_len2 (Y := (fun a s => enc (kw K) (comb s a))) (N := (fun a s => enc (kw K) (comb s a))) (f := f) (fun a s ha hs => enc_length (kw_length HS.out.2.2.2.2.2.2) (comb_length hs ha)) (fun a s ha hs => enc_length (kw_length HS.out.2.2.2.2.2.2) (comb_length hs ha)) HS.out.2.2.2.2.2.1 ys
    have hne : (stf (fun a s => enc (kw K) (comb s a)) (fun a s => enc (kw K) (comb s a)) f ys).2 ≠ [] := fun e => by rw [e, hys.length] at hlo; simp at hlo; omega
    obtain ⟨S, eS⟩ : ∃ S, ByteArray.mk ((stf (fun a s => enc (kw K) (comb s a)) (fun a s => enc (kw K) (comb s a)) f ys).2).toArray = S := ⟨_, rfl⟩
    have HCS := hide (bstringF_c (w.heap.size + 1 + 1 + 1) (w.heap.size + 1 + 1 + 1) _ W hd hne)
    rw [eS] at HCS
    have HY := hide (And.intro hys eS)
    have HI := hide (And.intro hBt (And.intro k4 (And.intro k5 hK)))
    clear hd hA hBt k3 k4 k5 kT hlo hne eS hys
    gi_wp2_with fail
    refine ⟨trivial, (callsIn_wide.2 HCS.out).mono ?_⟩
    rintro e w5 ⟨rfl, hb5, hf5⟩
    have q1 := HL.out
    have q2 := HZ.out
    have k4 : Boxed w5 (w.heap.size + 1) 9 (.string ⟨#[]⟩) := (hb5.block _ (by omega)).trans HI.out.2.1
    have k5 : Boxed w5 (w.heap.size + 1 + 1) 23 (.int .i64 0) := (hb5.block _ (by omega)).trans HI.out.2.2.1
    have hD5 : w5.heap[D]? = some (.deferred (some [])) := hf5 D _ (by omega) HI.out.2.2.2 (fun cur q e => by cases e)
    have c4 := k4.cell
    have f4 := k4.frozen
    have c5 := k5.cell
    have f5 := k5.frozen
    have hA5 : Bt A w w5 := ⟨hb5.os.trans HI.out.1.os, hb5.tape.trans HI.out.1.tape, hb5.output.trans HI.out.1.output, Nat.le_trans HI.out.1.size hb5.size, fun k hk hkA => (hb5.block k (by omega)).trans (HI.out.1.block k hk hkA)⟩
    have H9 := hide (And.intro hA5 hD5)
    clear hA5 hD5 hb5 hf5
    gi_wp2_with fail
    obtain ⟨W9, hW9⟩ : ∃ W9, (w5.setCell ⟨w.heap.size + 1, 0, none⟩ (.string S)).setCell ⟨w.heap.size + 1 + 1, 0, none⟩ (.int .i64 0) = W9 := ⟨_, rfl⟩
    have n4 : Boxed W9 (w.heap.size + 1) 9 (.string S) := by
      rw [← hW9]
      exact Boxed.other (Boxed.set (.string S) k4) (by omega) _
    have n5 : Boxed W9 (w.heap.size + 1 + 1) 23 (.int .i64 0) := by
      rw [← hW9]
      exact Boxed.set _ (Boxed.other k5 (by omega) _)
    have hD9 : W9.heap[D]? = some (.deferred (some [])) := by
      rw [← hW9]
      exact ((Below.heap_setCell _ _ _ _ (by show D ≠ w.heap.size + 1 + 1; omega)).trans (Below.heap_setCell _ _ _ _ (by show D ≠ w.heap.size + 1; omega))).trans H9.out.2
    have hA9 : Bt A w (W9.putObj D (.deferred none)) := by
      rw [← hW9]
      refine ⟨H9.out.1.os, H9.out.1.tape, H9.out.1.output, ?_, fun k hk hkA => ?_⟩
      · have := H9.out.1.size
        simpa [World.putObj, World.setCell] using this
      · exact (World.putObj_heap_other (by omega)).trans (((Below.heap_setCell _ _ _ _ (by show k ≠ w.heap.size + 1 + 1; omega)).trans (Below.heap_setCell _ _ _ _ (by show k ≠ w.heap.size + 1; omega))).trans (H9.out.1.block k hk hkA))
    rw [hW9]
    refine ⟨by simp, .inl ⟨_, _, rfl, run_takeDeferred hD9, ?_⟩⟩
    refine ⟨_, results_cells2 (P := Try.prog) rfl _ _ (w.heap.size + 1) (w.heap.size + 1 + 1) (.string S) (.int .i64 0) rfl rfl (load_cell (Try.isAgg9 _) ?_) (load_cell (Try.isAgg23 _) ?_), ⟨ys, HY.out.1, by rw [← HY.out.2]⟩, hA9⟩
    · exact (World.cell?_of_block (a := ⟨w.heap.size + 1, 0, none⟩) (World.putObj_heap_other (by show w.heap.size + 1 ≠ D; omega))).trans n4.cell
    · exact (World.cell?_of_block (a := ⟨w.heap.size + 1 + 1, 0, none⟩) (World.putObj_heap_other (by show w.heap.size + 1 + 1 ≠ D; omega))).trans n5.cell
  case stop =>
    rintro D c pre W _ _ h _
    exact h.elim
end Go.Proofs.Ytknjmmbebkcnpaa

/- Seal, walked. For any key, first block and data: what CMath says, or nothing and the error; what was there is left. -/
namespace Go.Proofs.Ytknjmmbebkcnpaa
open Go.RowKit Bk
set_option linter.unusedVariables false
set_option linter.unusedSimpArgs false

set_option maxRecDepth 100000 in
set_option maxHeartbeats 1000000 in
theorem cSeal_bad (K f d : ByteArray) (w : World) (h : K.size ≠ 32 ∨ f.size ≠ 16) :
    Calls Try.prog 10 #[.string K, .string f, .string d] w fun e w' => e = .returned (.tuple #[.string ⟨#[]⟩, .int .i64 1]) ∧ Below w.heap.size w w' := by
  have HC := hide (show Calls Try.prog 19 #[.string K, .string f] w fun e w' => e = .returned (.tuple #[.pointer none, .int .i64 1]) ∧ Below w.heap.size w w' by
    by_cases hf : f.size = 16
    · exact cipherOf_key K f w (h.resolve_right (fun k => k hf)) hf
    · exact cipherOf_first K f w hf)
  clear h
  go_enter Try.func10, Try.ntmps10
  go_wp2_with fail
  refine HC.out.mono ?_
  rintro e w1 ⟨rfl, hB⟩
  have HS := hide hB
  clear hB
  go_wp2_with fail
  go_ret2
  exact ⟨rfl, HS.out.alloc HS.out.size _⟩

set_option maxRecDepth 100000 in
set_option maxHeartbeats 1000000 in
theorem cSeal_big (K f d : ByteArray) (w : World) (hk : K.size = 32) (hf : f.size = 16) (hd : 1048576 < d.size) :
    Calls Try.prog 10 #[.string K, .string f, .string d] w fun e w' => e = .returned (.tuple #[.string ⟨#[]⟩, .int .i64 40]) ∧ Below w.heap.size w w' := by
  have HC := hide (cipherOf_ok K f w hk hf)
  obtain ⟨N, hN⟩ : ∃ N, d.size = N := ⟨_, rfl⟩
  have hI : (1048576 : Int) < (N : Int) := by omega
  clear hk hf hd
  go_enter Try.func10, Try.ntmps10
  go_wp2_with fail
  refine HC.out.mono ?_
  rintro e w1 ⟨b, rfl, _, _, hB⟩
  have HS := hide hB
  clear hB
  go_wp2_with fail
  go_ret2
  exact ⟨rfl, HS.out.alloc HS.out.size _⟩

set_option maxRecDepth 100000 in
set_option maxHeartbeats 2000000 in
theorem cSeal_ok (K f d : ByteArray) (w : World) (hk : K.size = 32) (hf : f.size = 16) (hd : d.size ≤ 1048576) :
    Calls Try.prog 10 #[.string K, .string f, .string d] w fun e w' => e = .returned (.tuple #[.string (seT K f d), .int .i64 0]) ∧ Below w.heap.size w w' := by
  have HC := hide (cipherOf_ok K f w hk hf)
  have HH := hide (And.intro hk (And.intro hf hd))
  obtain ⟨N, hN⟩ : ∃ N, d.size = N := ⟨_, rfl⟩
  have hI : ¬ (1048576 : Int) < (N : Int) := by omega
  clear hk hf hd
  go_enter Try.func10, Try.ntmps10
  go_wp2_with fail
  refine HC.out.mono ?_
  rintro e w1 ⟨b, rfl, hR, hge, hB⟩
  obtain ⟨W1, hW1, k1, k2, k3⟩ : ∃ W1, w1.alloc (.cells #[.pointer (some ⟨b, 0, none⟩)] 29) = W1 ∧ Boxed W1 w1.heap.size 29 (.pointer (some ⟨b, 0, none⟩)) ∧ Row W1 b 0 (bs (ciB (kw K))) ∧ Below w1.heap.size w1 W1 :=
    ⟨_, rfl, Boxed.new w1 _ _, hR.alloc _, (Below.refl _ w1).alloc (Nat.le_refl _) _⟩
  have HS := hide (And.intro k1 (And.intro k2 (And.intro k3 (And.intro hR.lt hB))))
  clear hR hge hB HC k1 k2 k3
  go_wp2_with fail
  clear hW1
  refine (blockOf_any f W1 (Nat.le_of_eq HH.out.2.1.symm)).mono ?_
  rintro e w2 ⟨rfl, hB2⟩
  have lf : (sb f).length = 16 := by rw [sb_length, HH.out.2.1]
  rw [List.take_of_length_le (Nat.le_of_eq lf)]
  obtain ⟨W2, hW2, m1, m2⟩ : ∃ W2, (w2.alloc (.cells #[.int .u8 0, .int .u8 0, .int .u8 0, .int .u8 0, .int .u8 0, .int .u8 0, .int .u8 0, .int .u8 0, .int .u8 0, .int .u8 0, .int .u8 0, .int .u8 0, .int .u8 0, .int .u8 0, .int .u8 0, .int .u8 0] 37)).setCells w2.heap.size 0 (bs (sb f)) = W2 ∧ Row W2 w2.heap.size 0 (bs (sb f)) ∧ Below w2.heap.size w2 W2 :=
    ⟨_, rfl, Row.made w2 (bs (zr 16)) _ _ (by rw [bs_length, bs_length, lf]; rfl), below_made (Below.refl _ w2) (Nat.le_refl _) _ _ _⟩
  have HZ16 := hide (Row.newL w2 (bs (zr 16)) 37)
  have HX2 := hide lf
  have HWS := hide (show w.heap.size ≤ w2.heap.size from Nat.le_trans HS.out.2.2.2.2.size (Nat.le_trans HS.out.2.2.1.size hB2.size))
  have HT := hide (show Row W2 w2.heap.size 0 (bs (sb f)) ∧ Row W2 b 0 (bs (ciB (kw K))) ∧ Boxed W2 w1.heap.size 29 (.pointer (some ⟨b, 0, none⟩)) ∧ Below w.heap.size w W2 ∧ w1.heap.size < w2.heap.size ∧ b < w2.heap.size from by
    obtain ⟨i1, i2, i3, i4, i5⟩ := HS.out
    have q1 := i3.size
    have q2 := hB2.size
    have q3 := i1.lt
    have j1 := boxed_below i1 hB2
    have j2 := i2.below hB2 i2.lt
    exact ⟨m1, j2.below m2 j2.lt, boxed_below j1 m2, i5.trans ((i3.mono i5.size).trans ((hB2.mono (by have := i5.size; omega)).trans (m2.mono (by have := i5.size; omega)))), by omega, by omega⟩)
  clear m1 m2 hB2 HS lf
  go_wp2_with (refine wpList_storeR (op := ⟨none, _, _, _, _, _⟩) rfl 37 (.tmp 10) (.tmp 24) rfl rfl (vs := bs (sb f)) rfl HZ16.out (by rw [bs_length, bs_length, HX2.out, zr_length]) (by rw [bs_length, HX2.out]; kernel_rfl) (fun v hv => bs_one hv) ?_; rw [hW2])
  refine (cFrame_any d W2 (by rw [hN]; have := HH.out.2.2; omega)).mono ?_
  rintro e w3 ⟨rfl, hB3⟩
  obtain ⟨F, eF⟩ : ∃ F, frm d = F := ⟨_, rfl⟩
  have hFs : F.size = 16 * fb d.size := by rw [← eF, ← sb_length, frm_sb, fr_blocks, sb_length]
  rw [eF]
  have HF := hide (And.intro eF hFs)
  have HU := hide (show Row w3 w2.heap.size 0 (bs (sb f)) ∧ Row w3 b 0 (bs (ciB (kw K))) ∧ w3.cell? ⟨w1.heap.size, 0, none⟩ = some (.pointer (some ⟨b, 0, none⟩)) ∧ Below w.heap.size w w3 ∧ w1.heap.size < w2.heap.size ∧ b < w2.heap.size ∧ w.heap.size ≤ w2.heap.size from by
    obtain ⟨i1, i2, i3, i4, i5, i6⟩ := HT.out
    exact ⟨i1.below hB3 i1.lt, i2.below hB3 i2.lt, (boxed_below i3 hB3).cell, i4.trans (hB3.mono i4.size), i5, i6, HWS.out⟩)
  clear hB3 HT hFs eF hW2
  go_wp2_with fail
  have hfb : fb d.size ≤ 68719476736 := by unfold fb lk; have := HH.out.2.2; omega
  refine (callsIn_wide.1 (made_sealer F (fb d.size) (sb f) K b w1.heap.size w2.heap.size HF.out.2 (fb_pos _) hfb HX2.out HH.out.1 HU.out.2.2.1 HU.out.2.1 HU.out.1 (by have := HU.out; omega) (by have := HU.out; omega))).mono ?_
  rintro e w4 ⟨⟨ys, hys, rfl⟩, hB4⟩
  have hres : ByteArray.mk (stf (fun a s => enc (kw K) (comb s a)) (fun a s => enc (kw K) (comb s a)) (sb f) ys).2.toArray = seT K f d := by
    rw [stf_stl, hys, stl_seal, ← HF.out.1, frm_sb]
    show ByteArray.mk (cat (cE (enc (kw K)) (sb f) (fr (sb d))) (fb d.size)).toArray = _
    unfold seT sl
    rw [sb_length]
  rw [hres]
  have HR := hide (show Below w.heap.size w w4 from HU.out.2.2.2.1.trans (hB4.below HU.out.2.2.2.2.2.2 HU.out.2.2.2.1.size))
  clear hres hB4 hys hfb
  obtain ⟨S, eS⟩ : ∃ S, seT K f d = S := ⟨_, rfl⟩
  rw [eS]
  go_wp2_with fail
  go_ret2
  exact ⟨by rw [eS]; rfl, HR.out⟩
end Go.Proofs.Ytknjmmbebkcnpaa

/- What Open does with a block, walked: it is deciphered, and put together with the one ahead of it; the block itself is kept. For any cipher and any two blocks in memory: nothing else there turns but the one kept. -/
namespace Go.Proofs.Ytknjmmbebkcnpaa
open Go.RowKit Bk
set_option linter.unusedVariables false
set_option linter.unusedSimpArgs false

set_option maxRecDepth 100000 in
set_option maxHeartbeats 2000000 in
theorem opener_any (s a : List UInt8) (K : ByteArray) (b C A : Nat) (w : World) (hs : s.length = 16) (ha : a.length = 16) (hk : K.size = 32) (hC : w.cell? ⟨C, 0, none⟩ = some (.pointer (some ⟨b, 0, none⟩))) (hR : Row w b 0 (bs (ciB (kw K)))) (hA : Row w A 0 (bs a)) :
    Calls Try.prog 27 #[.agg (bs s).toArray, .pointer (some ⟨C, 0, none⟩), .pointer (some ⟨A, 0, none⟩)] w fun e w' => e = .returned (.tuple #[.string ⟨(comb (dec (kw K) s) a).toArray⟩, .int .i64 0]) ∧ Row w' A 0 (bs s) ∧ Bt A w w' := by
  have hmx : Try.prog.follows .mixedOrders = true := by kernel_rfl
  obtain ⟨X, eX⟩ : ∃ X, ByteArray.mk s.toArray = X := ⟨_, rfl⟩
  have sX : sb X = s := by rw [← eX]; exact sb_mk _
  have zX : X.size = 16 := by rw [← sb_length, sX, hs]
  obtain ⟨y, ey⟩ : ∃ y, dec (kw K) s = y := ⟨_, rfl⟩
  have ly : y.length = 16 := by rw [← ey]; exact dec_length (kw_length hk) hs
  obtain ⟨Y, eY⟩ : ∃ Y, ByteArray.mk y.toArray = Y := ⟨_, rfl⟩
  have sY : (sb Y).take 16 = y := by rw [← eY, sb_mk]; exact List.take_of_length_le (by omega)
  have zY : Y.size = 16 := by rw [← eY, ← sb_length, sb_mk, ly]
  have hXY : dt K X = Y := by unfold dt; rw [sX, ey, eY]
  obtain ⟨x, ex⟩ : ∃ x, comb y a = x := ⟨_, rfl⟩
  have lx : x.length = 16 := by rw [← ex]; exact comb_length ly ha
  obtain ⟨Z, eZ⟩ : ∃ Z, ByteArray.mk x.toArray = Z := ⟨_, rfl⟩
  obtain ⟨W0, hW0, r0, b0⟩ : ∃ W0, w.alloc (.cells (bs s).toArray 37) = W0 ∧ Row W0 w.heap.size 0 (bs s) ∧ Below w.heap.size w W0 :=
    ⟨_, rfl, Row.newL w (bs s) _, (Below.refl _ w).alloc (Nat.le_refl _) _⟩
  have hck0 : W0.drew.cell? ⟨C, 0, none⟩ = some (.pointer (some ⟨b, 0, none⟩)) := (b0.cell (p := ⟨C, 0, none⟩) (cell_lt hC)).trans hC
  have HL := hide (And.intro hs (And.intro ha (And.intro ly lx)))
  have HE := hide ex
  have HZ := hide eZ
  have HX := hide (And.intro zX (And.intro eX (And.intro hXY (And.intro zY (And.intro sY eY)))))
  have HK := hide hk
  have HR := hide (hR.below b0 hR.lt)
  have HR0 := hide (And.intro r0 (hA.below b0 hA.lt))
  have HBk0 := hide (show Below W0.heap.size W0 W0.drew from (Below.refl _ W0).drew)
  have HB0 := hide (And.intro b0 (And.intro hA.lt r0.lt))
  rw [ey, ex, eZ]
  clear ex ey eY lx ly eX sX zX sY zY hXY r0 b0 hs ha hk hC hR hA eZ
  go_enter Try.func27, Try.ntmps27
  go_wp2_with fail
  clear hW0
  refine wp_only (R := fun a' w' => a' = { tmps := #[.agg (bs s).toArray, .pointer (some ⟨C, 0, none⟩), .pointer (some ⟨A, 0, none⟩), .pointer (some ⟨w.heap.size, 0, none⟩), .string ⟨#[]⟩, .int .i64 0, .string Y, .int .i64 0, undef, .tuple #[.string Y, .int .i64 0], .pointer (some ⟨b, 0, none⟩), .agg (bs s).toArray, .string X, .tuple #[.string Y, .int .i64 0], .string Y, .int .i64 0, undef, undef, undef, undef, undef, undef, undef, undef], defers := [] } ∧ Below W0.heap.size W0 w') ?r ?k
  case r =>
    refine wp_region_U (fun w9 => Row w9 w.heap.size 0 (bs s)) 2 hmx ?_
    refine U_h (k := 1) (o := ⟨some 11, _, _, _, _, _⟩) rfl (by kernel_rfl) (by kernel_rfl) (HR0.out.1.below HBk0.out HR0.out.1.lt) ⟨_, fun w9 h9 => exec_load 37 (.tmp 3) rfl rfl _ h9.cell Try.underlying37 rfl (by rw [bs_length, HL.out.1]; kernel_rfl), ?_⟩
    simp only [Act.put, List.setIfInBounds_toArray, List.set_cons_zero, List.set_cons_succ]
    refine U_two (i := 0) (j := 2) (by kernel_rfl) ?_ ?_
    ·
      refine U_go rfl (fun K9 hK => ?_)
      go_simp
      
      refine hK.out _ _ (fun _ => HR0.out.1.below HBk0.out HR0.out.1.lt) ?_
      clear hK K9
      refine U_one (i := 2) (by kernel_rfl) ?_
      refine U_go rfl (fun K9 hK => ?_)
      go_simp
      go_wp2_with fail
      refine (cbText_any s _ HL.out.1).mono ?_
      rintro e wk1 ⟨rfl, hB⟩
      rw [HX.out.2.1]
      have hck1 : wk1.cell? ⟨C, 0, none⟩ = some (.pointer (some ⟨b, 0, none⟩)) := (hB.cell (p := ⟨C, 0, none⟩) (cell_lt hck0)).trans hck0
      have HBk1 := hide (HBk0.out.trans (hB.mono HBk0.out.size))
      clear hB
      dsimp only
      refine hK.out _ _ (fun _ => HR0.out.1.below HBk1.out HR0.out.1.lt) ?_
      clear hK K9
      refine U_one (i := 3) (by kernel_rfl) ?_
      refine U_go rfl (fun K9 hK => ?_)
      go_simp
      go_wp2_with fail
      refine (dec_c K X _ b HK.out HX.out.1 (HR.out.below HBk1.out HR.out.lt)).mono ?_
      rintro e wk2 ⟨rfl, hB⟩
      rw [HX.out.2.2.1]
      have hck2 : wk2.cell? ⟨C, 0, none⟩ = some (.pointer (some ⟨b, 0, none⟩)) := (hB.cell (p := ⟨C, 0, none⟩) (cell_lt hck1)).trans hck1
      have HBk2 := hide (HBk1.out.trans (hB.mono HBk1.out.size))
      clear hB
      dsimp only
      refine hK.out _ _ (fun _ => HR0.out.1.below HBk2.out HR0.out.1.lt) ?_
      clear hK K9
      refine U_p (k := 4) (o := ⟨some 9, _, _, _, _, _⟩) rfl (by kernel_rfl) (by kernel_rfl) (fun _ => HR0.out.1.below HBk2.out HR0.out.1.lt) ⟨_, fun w9 => by (go_simp; try rfl), ?_⟩
      simp only [Act.put, List.setIfInBounds_toArray, List.set_cons_zero, List.set_cons_succ]
      refine U_p (k := 5) (o := ⟨some 14, _, _, _, _, _⟩) rfl (by kernel_rfl) (by kernel_rfl) (fun _ => HR0.out.1.below HBk2.out HR0.out.1.lt) ⟨_, fun w9 => by (go_simp; try rfl), ?_⟩
      simp only [Act.put, List.setIfInBounds_toArray, List.set_cons_zero, List.set_cons_succ]
      refine U_p (k := 6) (o := ⟨some 15, _, _, _, _, _⟩) rfl (by kernel_rfl) (by kernel_rfl) (fun _ => HR0.out.1.below HBk2.out HR0.out.1.lt) ⟨_, fun w9 => by (go_simp; try rfl), ?_⟩
      simp only [Act.put, List.setIfInBounds_toArray, List.set_cons_zero, List.set_cons_succ]
      refine U_one (i := 7) (by kernel_rfl) ?_
      refine U_go rfl (fun K9 hK => ?_)
      go_simp
      
      refine hK.out _ _ (fun _ => HR0.out.1.below HBk2.out HR0.out.1.lt) ?_
      clear hK K9
      refine U_one (i := 8) (by kernel_rfl) ?_
      refine U_go rfl (fun K9 hK => ?_)
      go_simp
      
      refine hK.out _ _ (fun _ => HR0.out.1.below HBk2.out HR0.out.1.lt) ?_
      clear hK K9
      refine U_end (by kernel_rfl) ?_
      exact ⟨rfl, HBk2.out⟩
    ·
      refine U_go rfl (fun K9 hK => ?_)
      go_simp
      go_wp2_with fail
      refine (cbText_any s _ HL.out.1).mono ?_
      rintro e wk3 ⟨rfl, hB⟩
      rw [HX.out.2.1]
      have hck3 : wk3.cell? ⟨C, 0, none⟩ = some (.pointer (some ⟨b, 0, none⟩)) := (hB.cell (p := ⟨C, 0, none⟩) (cell_lt hck0)).trans hck0
      have HBk3 := hide (HBk0.out.trans (hB.mono HBk0.out.size))
      clear hB
      dsimp only
      refine hK.out _ _ (fun _ => HR0.out.1.below HBk3.out HR0.out.1.lt) ?_
      clear hK K9
      refine U_one (i := 0) (by kernel_rfl) ?_
      refine U_go rfl (fun K9 hK => ?_)
      go_simp
      
      refine hK.out _ _ (fun _ => HR0.out.1.below HBk3.out HR0.out.1.lt) ?_
      clear hK K9
      refine U_one (i := 3) (by kernel_rfl) ?_
      refine U_go rfl (fun K9 hK => ?_)
      go_simp
      go_wp2_with fail
      refine (dec_c K X _ b HK.out HX.out.1 (HR.out.below HBk3.out HR.out.lt)).mono ?_
      rintro e wk4 ⟨rfl, hB⟩
      rw [HX.out.2.2.1]
      have hck4 : wk4.cell? ⟨C, 0, none⟩ = some (.pointer (some ⟨b, 0, none⟩)) := (hB.cell (p := ⟨C, 0, none⟩) (cell_lt hck3)).trans hck3
      have HBk4 := hide (HBk3.out.trans (hB.mono HBk3.out.size))
      clear hB
      dsimp only
      refine hK.out _ _ (fun _ => HR0.out.1.below HBk4.out HR0.out.1.lt) ?_
      clear hK K9
      refine U_p (k := 4) (o := ⟨some 9, _, _, _, _, _⟩) rfl (by kernel_rfl) (by kernel_rfl) (fun _ => HR0.out.1.below HBk4.out HR0.out.1.lt) ⟨_, fun w9 => by (go_simp; try rfl), ?_⟩
      simp only [Act.put, List.setIfInBounds_toArray, List.set_cons_zero, List.set_cons_succ]
      refine U_p (k := 5) (o := ⟨some 14, _, _, _, _, _⟩) rfl (by kernel_rfl) (by kernel_rfl) (fun _ => HR0.out.1.below HBk4.out HR0.out.1.lt) ⟨_, fun w9 => by (go_simp; try rfl), ?_⟩
      simp only [Act.put, List.setIfInBounds_toArray, List.set_cons_zero, List.set_cons_succ]
      refine U_p (k := 6) (o := ⟨some 15, _, _, _, _, _⟩) rfl (by kernel_rfl) (by kernel_rfl) (fun _ => HR0.out.1.below HBk4.out HR0.out.1.lt) ⟨_, fun w9 => by (go_simp; try rfl), ?_⟩
      simp only [Act.put, List.setIfInBounds_toArray, List.set_cons_zero, List.set_cons_succ]
      refine U_one (i := 7) (by kernel_rfl) ?_
      refine U_go rfl (fun K9 hK => ?_)
      go_simp
      
      refine hK.out _ _ (fun _ => HR0.out.1.below HBk4.out HR0.out.1.lt) ?_
      clear hK K9
      refine U_one (i := 8) (by kernel_rfl) ?_
      refine U_go rfl (fun K9 hK => ?_)
      go_simp
      
      refine hK.out _ _ (fun _ => HR0.out.1.below HBk4.out HR0.out.1.lt) ?_
      clear hK K9
      refine U_end (by kernel_rfl) ?_
      exact ⟨rfl, HBk4.out⟩
  rintro a2 w2 ⟨rfl, hB⟩
  have HA2 := hide (HR0.out.2.below hB HR0.out.2.lt)
  have HS2 := hide (HR0.out.1.below hB HR0.out.1.lt)
  have HB := hide hB
  have HBm0 := hide (show Below w2.heap.size w2 w2.drew from (Below.refl _ w2).drew)
  clear hB hck0 HBk0
  go_wp2_with fail
  refine wp_only (R := fun a' w' => ∃ c, a' = { tmps := #[.agg (bs s).toArray, .pointer (some ⟨C, 0, none⟩), .pointer (some ⟨A, 0, none⟩), .pointer (some ⟨w.heap.size, 0, none⟩), .string ⟨#[]⟩, .int .i64 0, .string Y, .int .i64 0, .pointer (some ⟨c, 0, none⟩), .tuple #[.string Y, .int .i64 0], .pointer (some ⟨b, 0, none⟩), .agg (bs s).toArray, .string X, .tuple #[.string Y, .int .i64 0], .string Y, .int .i64 0, .string Y, .agg (bs y).toArray, .agg (bs a).toArray, .agg (bs x).toArray, undef, undef, undef, undef], defers := [] } ∧ Row w' c 0 (bs x) ∧ Below w2.heap.size w2 w' ∧ w2.heap.size ≤ c) ?r2 ?k2
  case r2 =>
    refine wp_region_U (fun w9 => Row w9 A 0 (bs a)) 3 hmx ?_
    refine U_p (k := 0) (o := ⟨some 16, _, _, _, _, _⟩) rfl (by kernel_rfl) (by kernel_rfl) (fun _ => (HA2.out.below HBm0.out HA2.out.lt)) ⟨_, fun w9 => by (go_simp; try rfl), ?_⟩
    simp only [Act.put, List.setIfInBounds_toArray, List.set_cons_zero, List.set_cons_succ]
    refine U_h (k := 2) (o := ⟨some 18, _, _, _, _, _⟩) rfl (by kernel_rfl) (by kernel_rfl) ((HA2.out.below HBm0.out HA2.out.lt)) ⟨_, fun w9 h9 => exec_load 37 (.tmp 2) rfl rfl _ h9.cell Try.underlying37 rfl (by rw [bs_length, HL.out.2.1]; kernel_rfl), ?_⟩
    simp only [Act.put, List.setIfInBounds_toArray, List.set_cons_zero, List.set_cons_succ]
    refine U_two (i := 1) (j := 4) (by kernel_rfl) ?_ ?_
    ·
      refine U_go rfl (fun K9 hK => ?_)
      go_simp
      go_wp2_with fail
      refine (blockOf_any Y _ (by rw [HX.out.2.2.2.1]; decide)).mono ?_
      rintro e wm1 ⟨rfl, hB⟩
      rw [HX.out.2.2.2.2.1]
      have HBm1 := hide (HBm0.out.trans (hB.mono HBm0.out.size))
      clear hB
      dsimp only
      refine hK.out _ _ (fun _ => (HA2.out.below HBm1.out HA2.out.lt)) ?_
      clear hK K9
      refine U_two (i := 3) (j := 4) (by kernel_rfl) ?_ ?_
      ·
        refine U_go rfl (fun K9 hK => ?_)
        go_simp
        go_wp2_with fail
        refine (cbComb_any y a _ HL.out.2.2.1 HL.out.2.1).mono ?_
        rintro e wm2 ⟨rfl, hB⟩
        rw [HE.out]
        have HBm2 := hide (HBm1.out.trans (hB.mono HBm1.out.size))
        clear hB
        dsimp only
        refine hK.out _ _ (fun _ => (HA2.out.below HBm2.out HA2.out.lt)) ?_
        clear hK K9
        refine U_one (i := 4) (by kernel_rfl) ?_
        refine U_go rfl (fun K9 hK => ?_)
        go_simp
        have HBm3 := hide (HBm2.out.alloc HBm2.out.size (.cells #[.int .u8 0, .int .u8 0, .int .u8 0, .int .u8 0, .int .u8 0, .int .u8 0, .int .u8 0, .int .u8 0, .int .u8 0, .int .u8 0, .int .u8 0, .int .u8 0, .int .u8 0, .int .u8 0, .int .u8 0, .int .u8 0] 37))
        have HAm3 := hide (And.intro (Row.newL wm2 (bs (zr 16)) 37) HBm2.out.size)
        refine hK.out _ _ (fun _ => (HA2.out.below HBm3.out HA2.out.lt)) ?_
        clear hK K9
        refine U_one (i := 5) (by kernel_rfl) ?_
        refine U_storeR rfl rfl rfl 37 (.tmp 8) (.tmp 19) rfl rfl (vs := bs x) rfl HAm3.out.1 (by rw [bs_length, bs_length, HL.out.2.2.2, zr_length]) (by rw [bs_length, HL.out.2.2.2]; kernel_rfl) (fun v hv => bs_one hv) (fun h => by cases h) ?_
        refine U_end (by kernel_rfl) ?_
        exact ⟨wm2.heap.size, rfl, HAm3.out.1.put (bs x) (by rw [bs_length, bs_length, HL.out.2.2.2, zr_length]), HBm3.out.trans (below_setCells HAm3.out.2 _ _ _), HAm3.out.2⟩
      ·
        refine U_go rfl (fun K9 hK => ?_)
        go_simp
        have HBm4 := hide (HBm1.out.alloc HBm1.out.size (.cells #[.int .u8 0, .int .u8 0, .int .u8 0, .int .u8 0, .int .u8 0, .int .u8 0, .int .u8 0, .int .u8 0, .int .u8 0, .int .u8 0, .int .u8 0, .int .u8 0, .int .u8 0, .int .u8 0, .int .u8 0, .int .u8 0] 37))
        have HAm4 := hide (And.intro (Row.newL wm1 (bs (zr 16)) 37) HBm1.out.size)
        refine hK.out _ _ (fun _ => (HA2.out.below HBm4.out HA2.out.lt)) ?_
        clear hK K9
        refine U_one (i := 3) (by kernel_rfl) ?_
        refine U_go rfl (fun K9 hK => ?_)
        go_simp
        go_wp2_with fail
        refine (cbComb_any y a _ HL.out.2.2.1 HL.out.2.1).mono ?_
        rintro e wm5 ⟨rfl, hB⟩
        rw [HE.out]
        have HBm5 := hide (HBm4.out.trans (hB.mono HBm4.out.size))
        have HAm5 := hide (And.intro (HAm4.out.1.below hB HAm4.out.1.lt) HAm4.out.2)
        clear hB
        dsimp only
        refine hK.out _ _ (fun _ => (HA2.out.below HBm5.out HA2.out.lt)) ?_
        clear hK K9
        refine U_one (i := 5) (by kernel_rfl) ?_
        refine U_storeR rfl rfl rfl 37 (.tmp 8) (.tmp 19) rfl rfl (vs := bs x) rfl HAm5.out.1 (by rw [bs_length, bs_length, HL.out.2.2.2, zr_length]) (by rw [bs_length, HL.out.2.2.2]; kernel_rfl) (fun v hv => bs_one hv) (fun h => by cases h) ?_
        refine U_end (by kernel_rfl) ?_
        exact ⟨wm1.heap.size, rfl, HAm5.out.1.put (bs x) (by rw [bs_length, bs_length, HL.out.2.2.2, zr_length]), HBm5.out.trans (below_setCells HAm5.out.2 _ _ _), HAm5.out.2⟩
    ·
      refine U_go rfl (fun K9 hK => ?_)
      go_simp
      have HBm6 := hide (HBm0.out.alloc HBm0.out.size (.cells #[.int .u8 0, .int .u8 0, .int .u8 0, .int .u8 0, .int .u8 0, .int .u8 0, .int .u8 0, .int .u8 0, .int .u8 0, .int .u8 0, .int .u8 0, .int .u8 0, .int .u8 0, .int .u8 0, .int .u8 0, .int .u8 0] 37))
      have HAm6 := hide (And.intro (Row.newL w2.drew (bs (zr 16)) 37) HBm0.out.size)
      refine hK.out _ _ (fun _ => (HA2.out.below HBm6.out HA2.out.lt)) ?_
      clear hK K9
      refine U_one (i := 1) (by kernel_rfl) ?_
      refine U_go rfl (fun K9 hK => ?_)
      go_simp
      go_wp2_with fail
      refine (blockOf_any Y _ (by rw [HX.out.2.2.2.1]; decide)).mono ?_
      rintro e wm7 ⟨rfl, hB⟩
      rw [HX.out.2.2.2.2.1]
      have HBm7 := hide (HBm6.out.trans (hB.mono HBm6.out.size))
      have HAm7 := hide (And.intro (HAm6.out.1.below hB HAm6.out.1.lt) HAm6.out.2)
      clear hB
      dsimp only
      refine hK.out _ _ (fun _ => (HA2.out.below HBm7.out HA2.out.lt)) ?_
      clear hK K9
      refine U_one (i := 3) (by kernel_rfl) ?_
      refine U_go rfl (fun K9 hK => ?_)
      go_simp
      go_wp2_with fail
      refine (cbComb_any y a _ HL.out.2.2.1 HL.out.2.1).mono ?_
      rintro e wm8 ⟨rfl, hB⟩
      rw [HE.out]
      have HBm8 := hide (HBm7.out.trans (hB.mono HBm7.out.size))
      have HAm8 := hide (And.intro (HAm7.out.1.below hB HAm7.out.1.lt) HAm7.out.2)
      clear hB
      dsimp only
      refine hK.out _ _ (fun _ => (HA2.out.below HBm8.out HA2.out.lt)) ?_
      clear hK K9
      refine U_one (i := 5) (by kernel_rfl) ?_
      refine U_storeR rfl rfl rfl 37 (.tmp 8) (.tmp 19) rfl rfl (vs := bs x) rfl HAm8.out.1 (by rw [bs_length, bs_length, HL.out.2.2.2, zr_length]) (by rw [bs_length, HL.out.2.2.2]; kernel_rfl) (fun v hv => bs_one hv) (fun h => by cases h) ?_
      refine U_end (by kernel_rfl) ?_
      exact ⟨w2.drew.heap.size, rfl, HAm8.out.1.put (bs x) (by rw [bs_length, bs_length, HL.out.2.2.2, zr_length]), HBm8.out.trans (below_setCells HAm8.out.2 _ _ _), HAm8.out.2⟩
  rintro a3 w3 ⟨c, rfl, hc, hB3, hgc⟩
  have HS3 := hide (HS2.out.below hB3 HS2.out.lt)
  have HA3 := hide (HA2.out.below hB3 HA2.out.lt)
  have hcA : c ≠ A := by have := HA2.out.lt; omega
  have HF := hide (show Row (w3.setCells A 0 (bs s)) A 0 (bs s) ∧ Row (w3.setCells A 0 (bs s)) c 0 (bs x) ∧ Bt A w (w3.setCells A 0 (bs s)) from ⟨HA3.out.put (bs s) (by rw [bs_length, bs_length, HL.out.1, HL.out.2.1]), hc.apart _ _ _ (.inl hcA), (((Bt.of_below HB0.out.1).trans (Bt.of_below HB.out)).trans (Bt.of_below hB3)).setCells 0 _⟩)
  clear hB3 hc HA2 HS2 HB HBm0 hgc hcA
  obtain ⟨W4, hW4⟩ : ∃ W4, w3.setCells A 0 (bs s) = W4 := ⟨_, rfl⟩
  rw [hW4] at HF
  go_wp2_with (first | (refine wpList_loadR (op := ⟨some 20, _, _, _, _, _⟩) rfl 37 (.tmp 3) rfl rfl _ HS3.out Try.underlying37 rfl (by rw [bs_length, HL.out.1]; kernel_rfl) ?_) | (refine wpList_storeR (op := ⟨none, _, _, _, _, _⟩) rfl 37 (.tmp 2) (.tmp 20) rfl rfl (vs := bs s) rfl HA3.out (by rw [bs_length, bs_length, HL.out.1, HL.out.2.1]) (by rw [bs_length, HL.out.1]; kernel_rfl) (fun v hv => bs_one hv) ?_; rw [hW4]) | (refine wpList_loadR (op := ⟨some 21, _, _, _, _, _⟩) rfl 37 (.tmp 8) rfl rfl _ HF.out.2.1 Try.underlying37 rfl (by rw [bs_length, HL.out.2.2.2]; kernel_rfl) ?_))
  refine (cbText_any x _ HL.out.2.2.2).mono ?_
  rintro e w5 ⟨rfl, hB5⟩
  rw [HZ.out]
  have HG := hide (show Row w5 A 0 (bs s) ∧ Bt A w w5 from ⟨HF.out.1.below hB5 HF.out.1.lt, HF.out.2.2.trans (Bt.of_below hB5)⟩)
  clear hB5 HF
  go_wp2_with fail
  go_ret2
  exact ⟨rfl, HG.out⟩
end Go.Proofs.Ytknjmmbebkcnpaa
