/- Several texts of ours, one behind the other; what each is for stands ahead of it. -/
import Derived.Test.YtknjmmbebkcnpaaRun5
import Derived.Test.YtknjmmbebkcnpaaRun11
import Derived.Test.YtknjmmbebkcnpaaRun1
import Derived.ProofKit
import Derived.OpenShut
import Derived.ChangeOld
import Derived.ChangeMaps5
import Derived.Deep.Strs
import Derived.WalkSpells
import Derived.Test.YtknjmmbebkcnpaaRun9
import Derived.Deep.LoopGhost
import Derived.SizedLaws
import Derived.Test.YtknjmmbebkcnpaaRun10
import Derived.Test.YtknjmmbebkcnpaaRun2
import Derived.Laws.Bits64b

/- What is made of a text's blocks by the closure of Open, one behind the other, put together: walked. For any text of whole blocks, one or more, a cipher and the first block in memory: of what was there the block ahead alone turns. -/
namespace Go.Proofs.Ytknjmmbebkcnpaa
open Go.RowKit Go.Shelf Bk
set_option linter.unusedVariables false
set_option linter.unusedSimpArgs false
attribute [local go_sem] Oper.semAt_some

set_option maxRecDepth 100000 in
set_option maxHeartbeats 4000000 in
theorem made_opener {w : World} (T : ByteArray) (n : Nat) (f : List UInt8) (K : ByteArray) (b C A : Nat) (hT : T.size = 16 * n) (h1 : 0 < n) (hn : n ≤ 68719476736) (hf : f.length = 16) (hk : K.size = 32)
    (hC : w.cell? ⟨C, 0, none⟩ = some (.pointer (some ⟨b, 0, none⟩))) (hR : Row w b 0 (bs (ciB (kw K)))) (hA : Row w A 0 (bs f)) (hCA : C ≠ A) (hbA : b ≠ A) :
    CallsIn Fence.wide 5 Try.prog 21 #[.string T, .func (.func 27) #[] #[.pointer (some ⟨C, 0, none⟩), .pointer (some ⟨A, 0, none⟩)]] w fun e w' =>
      (∃ ys, Bks T n ys ∧ e = .returned (.tuple #[.string ⟨((stf (fun a s => comb (dec (kw K) s) a) (fun _ s => s) f ys).2).toArray⟩, .int .i64 0])) ∧ Bt A w w' := by
  have hro : Fence.wide.round = none := rfl
  obtain ⟨N, hN⟩ : ∃ N, T.size = N := ⟨_, rfl⟩
  have HTN := hide hT
  have HNn := hide (show N = 16 * n by omega)
  have hNb : N ≤ 281474976710656 := by omega
  clear hT
  have hAl := hA.lt
  have hCl := cell_lt hC
  have hRl := hR.lt
  have hmx : Try.prog.follows .mixedOrders = true := by kernel_rfl
  obtain ⟨fv, efv⟩ : ∃ fv, Value.func (.func 27) #[] #[.pointer (some ⟨C, 0, none⟩), .pointer (some ⟨A, 0, none⟩)] = fv := ⟨_, rfl⟩
  obtain ⟨W0, hW0, x3, x4, x5, x6, b0⟩ : ∃ W0, ((((w.alloc (.cells #[fv] 42)).alloc (.cells #[.string ⟨#[]⟩] 9)).alloc (.cells #[.int .i64 0] 23)).alloc (.cells #[.pointer none, .slice none 0 0] 46)) = W0 ∧
      Boxed W0 w.heap.size 42 fv ∧ Boxed W0 (w.heap.size + 1) 9 (.string ⟨#[]⟩) ∧ Boxed W0 (w.heap.size + 1 + 1) 23 (.int .i64 0) ∧ W0.heap[w.heap.size + 1 + 1 + 1]? = some (.cells #[.pointer none, .slice none 0 0] 46 (0, 0)) ∧ Below w.heap.size w W0 := by
    refine ⟨_, rfl, (((Boxed.new w 42 fv).alloc _).alloc _).alloc _, ?_, ?_, ?_, ?_⟩
    · have := (((Boxed.new (w.alloc (.cells #[fv] 42)) 9 (.string ⟨#[]⟩)).alloc (.cells #[.int .i64 0] 23)).alloc (.cells #[.pointer none, .slice none 0 0] 46))
      simpa using this
    · have := ((Boxed.new ((w.alloc (.cells #[fv] 42)).alloc (.cells #[.string ⟨#[]⟩] 9)) 23 (.int .i64 0)).alloc (.cells #[.pointer none, .slice none 0 0] 46))
      simpa using this
    · have := heap_alloc_new (((w.alloc (.cells #[fv] 42)).alloc (.cells #[.string ⟨#[]⟩] 9)).alloc (.cells #[.int .i64 0] 23)) (.cells #[.pointer none, .slice none 0 0] 46)
      simpa using this
    · exact below4 w _ _ _ _
  have hW0s : w.heap.size + 1 + 1 + 1 < W0.heap.size := (Array.getElem?_eq_some_iff.1 x6).1
  have HB6 := hide (And.intro x3 (And.intro x4 (And.intro x5 (And.intro x6 (And.intro b0 hW0s)))))
  have HS := hide (And.intro hC (And.intro hR (And.intro hA (And.intro hCA (And.intro hbA (And.intro hf hk))))))
  have HL := hide (And.intro hAl (And.intro hCl hRl))
  clear x3 x4 x5 x6 b0 hC hR hA hCA hbA hf hk hAl hCl hRl hW0s
  refine callsIn_of_wp_marks Try.func21 rfl trivial ?_ hro
  simp only [Try.ntmps21, List.size_toArray, List.length_cons, List.length_nil, Nat.reduceAdd, Nat.reduceSub, Array.replicate_succ, Array.replicate_zero, List.push_toArray, List.append_toArray, List.nil_append, List.cons_append]
  rw [efv]
  gi_wp2_with fail
  rw [hW0]
  clear hW0
  refine ⟨trivial, (callsIn_wide.2 (bgrow_c (w.heap.size + 1 + 1 + 1) (w.heap.size + 1 + 1 + 1) N W0 (Nat.le_refl _) HB6.out.2.2.2.1 (Nat.le_of_lt HB6.out.2.2.2.2.2) hNb)).mono ?_⟩
  rintro e w1 ⟨rfl, hd1, hb1⟩
  have H1 := hide (show Bd w1 (w.heap.size + 1 + 1 + 1) (w.heap.size + 1 + 1 + 1) [] ∧ Boxed w1 w.heap.size 42 fv ∧ Boxed w1 (w.heap.size + 1) 9 (.string ⟨#[]⟩) ∧ Boxed w1 (w.heap.size + 1 + 1) 23 (.int .i64 0) ∧ Below w.heap.size w w1 ∧ w.heap.size + 1 + 1 + 1 < w1.heap.size from
    ⟨hd1, (hb1.block _ (by omega)).trans HB6.out.1, (hb1.block _ (by omega)).trans HB6.out.2.1, (hb1.block _ (by omega)).trans HB6.out.2.2.1, HB6.out.2.2.2.2.1.trans (hb1.mono (by omega)), Nat.lt_of_lt_of_le HB6.out.2.2.2.2.2 hb1.size⟩)
  clear hd1 hb1 HB6
  gi_wp2_with fail
  refine ⟨trivial, (cBlocks_in 4 T w1).mono ?_⟩
  rintro e w2 ⟨rfl, hw2⟩
  have bT : Boxed w2 w1.heap.size 9 (.string T) := by rw [hw2]; exact Boxed.new w1 9 (.string T)
  have b12 : Below w1.heap.size w1 w2 := by rw [hw2]; exact (Below.refl _ w1).alloc (Nat.le_refl _) _
  have hs2 : w2.heap.size = w1.heap.size + 1 := by rw [hw2]; simp
  have H2 := hide (show Bd w2 (w.heap.size + 1 + 1 + 1) (w.heap.size + 1 + 1 + 1) [] ∧ Boxed w2 w.heap.size 42 fv ∧ Boxed w2 (w.heap.size + 1) 9 (.string ⟨#[]⟩) ∧ Boxed w2 (w.heap.size + 1 + 1) 23 (.int .i64 0) ∧ Boxed w2 w1.heap.size 9 (.string T) ∧ Bt A w w2 ∧ Row w2 A 0 (bs f) from by
    obtain ⟨h1, h2, h3, h4, h5, h6⟩ := H1.out
    exact ⟨h1.below b12, boxed_below h2 b12, boxed_below h3 b12, boxed_below h4 b12, bT, Bt.of_below (h5.trans (b12.mono (by omega))), HS.out.2.2.1.below (h5.trans (b12.mono (by omega))) HL.out.1⟩)
  have HZ := hide (And.intro hs2 H1.out.2.2.2.2.2)
  clear b12 hw2 hs2 H1
  obtain ⟨Tb, hTb⟩ : ∃ Tb, w1.heap.size = Tb := ⟨_, rfl⟩
  rw [hTb] at H2 HZ bT ⊢
  clear hTb
  gi_wp2_with fail
  refine wpIn_rangeFunc_ownH hro (by decide) (gf := 58) (lb := #[.pointer (some ⟨Tb, 0, none⟩)]) rfl trivial (enters_of Try.func58 (by kernel_rfl) rfl)
    (blocks_stops _ (by decide) Tb n T HTN.out hn w2 bT.lt bT.cell) kpC_t ?hKb (Below.refl _ _) (fun _ => rfl)
    (fun pre W => Bd W (w.heap.size + 1 + 1 + 1) (w.heap.size + 1 + 1 + 1) (stf (fun a s => comb (dec (kw K) s) a) (fun _ s => s) f pre).2 ∧ Row W A 0 (bs (stf (fun a s => comb (dec (kw K) s) a) (fun _ s => s) f pre).1) ∧ Bt A w W ∧ Boxed W w.heap.size 42 fv ∧ Boxed W (w.heap.size + 1) 9 (.string ⟨#[]⟩) ∧ Boxed W (w.heap.size + 1 + 1) 23 (.int .i64 0) ∧ Boxed W Tb 9 (.string T))
    (fun _ _ _ => False)
    ((bd_own _ _ _ _).and ((row_own _ _ _ (fun pre => bs (stf (fun a s => comb (dec (kw K) s) a) (fun _ s => s) f pre).1)).and ((bt_own (by have := HZ.out; omega)).and ((boxed_from _ _ _ _).and ((boxed_from _ _ _ _).and ((boxed_from _ _ _ _).and (boxed_from _ _ _ _)))))))
    (fun _ _ _ _ _ hs _ _ => hs)
    ⟨H2.out.1, H2.out.2.2.2.2.2.2, H2.out.2.2.2.2.2.1, H2.out.2.1, H2.out.2.2.1, H2.out.2.2.2.1, H2.out.2.2.2.2.1⟩
    (fun x a' W => ∃ c, a' = { tmps := #[.string T, fv, undef, .pointer (some ⟨w.heap.size, 0, none⟩), .pointer (some ⟨w.heap.size + 1, 0, none⟩), .pointer (some ⟨w.heap.size + 1 + 1, 0, none⟩), .pointer (some ⟨w.heap.size + 1 + 1 + 1, 0, none⟩), .pointer (some ⟨c, 0, none⟩), undef, undef, .string T, .int .i64 N, .tuple #[], .string T, .func (.func 58) #[] #[.pointer (some ⟨Tb, 0, none⟩)], .agg (bs x.1).toArray, undef, undef, undef, undef, undef, undef, undef, undef, undef, undef, undef, undef], defers := [] } ∧ Row W c 0 (bs x.1))
    ?hAx ?assign ?body ?done ?stop
  case hKb =>
    intro W l o o' hl h1 h2 _
    exact World.cell?_of_block (w := W) (World.putObj_heap_other (by show Tb ≠ l; have := HZ.out; omega))
  case hAx =>
    intro x a' s W W' row hs hg hr
    obtain ⟨c, e, h⟩ := hs
    exact ⟨c, e, row_own (β := Unit) _ c 0 (fun _ => bs x.1) () W W' row h hg hr⟩
  case assign =>
    intro l pre x W K hI hK
    obtain ⟨hd, hA, hBt, k3, k4, k5, kT⟩ := hI
    simp only [encC]
    obtain ⟨W', hW', hb', hc'⟩ : ∃ W', (W.alloc (.cells #[.int .u8 0, .int .u8 0, .int .u8 0, .int .u8 0, .int .u8 0, .int .u8 0, .int .u8 0, .int .u8 0, .int .u8 0, .int .u8 0, .int .u8 0, .int .u8 0, .int .u8 0, .int .u8 0, .int .u8 0, .int .u8 0] 37)).setCells W.heap.size 0 (bs x.1) = W' ∧ Below W.heap.size W W' ∧ Row W' W.heap.size 0 (bs x.1) :=
      ⟨_, rfl, below_made (Below.refl _ W) (Nat.le_refl _) _ _ _, Row.made W (bs (zr 16)) _ _ (by rw [bs_length, bs_length, x.2]; rfl)⟩
    have HZ16 := hide (Row.newL W (bs (zr 16)) 37)
    have HK := hide (hK { tmps := #[.string T, fv, undef, .pointer (some ⟨w.heap.size, 0, none⟩), .pointer (some ⟨w.heap.size + 1, 0, none⟩), .pointer (some ⟨w.heap.size + 1 + 1, 0, none⟩), .pointer (some ⟨w.heap.size + 1 + 1 + 1, 0, none⟩), .pointer (some ⟨W.heap.size, 0, none⟩), undef, undef, .string T, .int .i64 N, .tuple #[], .string T, .func (.func 58) #[] #[.pointer (some ⟨Tb, 0, none⟩)], .agg (bs x.1).toArray, undef, undef, undef, undef, undef, undef, undef, undef, undef, undef, undef, undef], defers := [] } W'
      ⟨hb'.size, fun k o _ ho _ => (hb'.block k (Array.getElem?_eq_some_iff.1 ho).1).trans ho⟩ (World.cell?_of_block (a := ⟨Tb, 0, none⟩) (hb'.block Tb kT.lt))
      ⟨hd.below hb', hA.below hb' hA.lt, hBt.trans (Bt.of_below hb'), boxed_below k3 hb', boxed_below k4 hb', boxed_below k5 hb', boxed_below kT hb'⟩ ⟨W.heap.size, rfl, hc'⟩)
    have HX2 := hide x.2
    clear hK hb' hc' hd hA hBt k3 k4 k5 kT
    refine region_round (R := fun a' w' => a' = { tmps := #[.string T, fv, undef, .pointer (some ⟨w.heap.size, 0, none⟩), .pointer (some ⟨w.heap.size + 1, 0, none⟩), .pointer (some ⟨w.heap.size + 1 + 1, 0, none⟩), .pointer (some ⟨w.heap.size + 1 + 1 + 1, 0, none⟩), .pointer (some ⟨W.heap.size, 0, none⟩), undef, undef, .string T, .int .i64 N, .tuple #[], .string T, .func (.func 58) #[] #[.pointer (some ⟨Tb, 0, none⟩)], .agg (bs x.1).toArray, undef, undef, undef, undef, undef, undef, undef, undef, undef, undef, undef, undef], defers := [] } ∧ w' = W') (by kernel_rfl) ?_ ?_
    · go_wp2_with (refine wpList_storeR (op := ⟨none, _, _, _, _, _⟩) rfl 37 (.tmp 7) (.tmp 15) rfl rfl (vs := bs x.1) rfl HZ16.out (by rw [bs_length, bs_length, HX2.out, zr_length]) (by rw [bs_length, HX2.out]; kernel_rfl) (fun v hv => bs_one hv) ?_; rw [hW'])
      exact ⟨rfl, rfl⟩
    · rintro a' w' ⟨rfl, rfl⟩
      exact HK.out
  case body =>
    rintro l pre x a' W hl hlr ⟨hd, hA, hBt, k3, k4, k5, kT⟩ ⟨c, rfl, hc⟩ hlen
    have hNl : ∀ a s : List UInt8, a.length = 16 → s.length = 16 → ((fun _ s => s) a s).length = 16 := fun a s ha hs => hs
    have hYl : ∀ a s : List UInt8, a.length = 16 → s.length = 16 → ((fun a s => comb (dec (kw K) s) a) a s).length = 16 := fun a s ha hs => comb_length (dec_length (kw_length HS.out.2.2.2.2.2.2) hs) ha
    have la := stf_len1 (Y := (fun a s => comb (dec (kw K) s) a)) hNl hYl HS.out.2.2.2.2.2.1 pre
    have lo := stf_len2 (Y := (fun a s => comb (dec (kw K) s) a)) hNl hYl HS.out.2.2.2.2.2.1 pre
    have HSN := hide (stf_snoc (fun a s => comb (dec (kw K) s) a) (fun _ s => s) f pre x)
    obtain ⟨a, ea⟩ : ∃ a, (stf (fun a s => comb (dec (kw K) s) a) (fun _ s => s) f pre).1 = a := ⟨_, rfl⟩
    obtain ⟨o, eo⟩ : ∃ o, (stf (fun a s => comb (dec (kw K) s) a) (fun _ s => s) f pre).2 = o := ⟨_, rfl⟩
    rw [ea] at la hA
    rw [ea, eo] at HSN
    rw [eo] at hd lo
    have hcw : W.cell? ⟨C, 0, none⟩ = some (.pointer (some ⟨b, 0, none⟩)) := (World.cell?_of_block (a := ⟨C, 0, none⟩) (hBt.block C HL.out.2.1 HS.out.2.2.2.1)).trans HS.out.1
    have HCL := hide (opener_any x.1 a K b C A W x.2 la HS.out.2.2.2.2.2.2 hcw (HS.out.2.1.bt hBt HS.out.2.2.2.2.1) hA)
    obtain ⟨y, ey⟩ : ∃ y, (fun a s => comb (dec (kw K) s) a) a x.1 = y := ⟨_, rfl⟩
    have ly : y.length = 16 := by rw [← ey]; exact hYl _ _ la x.2
    dsimp only at ey HCL HSN
    simp only [ey] at HCL HSN
    obtain ⟨S, eS⟩ : ∃ S, ByteArray.mk y.toArray = S := ⟨_, rfl⟩
    have sS : sb S = y := by rw [← eS]; exact sb_mk _
    have zS : S.size = 16 := by rw [← sb_length, sS, ly]
    rw [eS] at HCL
    have HI := hide (And.intro hd (And.intro hBt (And.intro k3 (And.intro k4 (And.intro k5 kT)))))
    have HM := hide (And.intro lo (And.intro hlen (And.intro sS (And.intro zS x.2))))
    have HC9 := hide hc
    have HKT := hide kT
    have k3c := k3.cell
    subst efv
    clear hNl hYl la lo ea eo ey eS sS zS ly hd hA hBt k3 k4 k5 kT hcw hc
    refine wpIn_block (wpIn_seq ?_)
    refine region_round (R := fun a' w' => a' = { tmps := #[.string T, .func (.func 27) #[] #[.pointer (some ⟨C, 0, none⟩), .pointer (some ⟨A, 0, none⟩)], undef, .pointer (some ⟨w.heap.size, 0, none⟩), .pointer (some ⟨w.heap.size + 1, 0, none⟩), .pointer (some ⟨w.heap.size + 1 + 1, 0, none⟩), .pointer (some ⟨w.heap.size + 1 + 1 + 1, 0, none⟩), .pointer (some ⟨c, 0, none⟩), .string S, .int .i64 0, .string T, .int .i64 N, .tuple #[], .string T, .func (.func 58) #[] #[.pointer (some ⟨Tb, 0, none⟩)], .agg (bs x.1).toArray, .tuple #[.string S, .int .i64 0], .func (.func 27) #[] #[.pointer (some ⟨C, 0, none⟩), .pointer (some ⟨A, 0, none⟩)], .agg (bs x.1).toArray, .tuple #[.string S, .int .i64 0], .string S, .int .i64 0, undef, undef, undef, undef, undef, undef], defers := [] } ∧ Row w' A 0 (bs x.1) ∧ Bt A W w') (by kernel_rfl) ?_ ?_
    · go_wp2_with (refine wpList_loadR (op := ⟨some 18, _, _, _, _, _⟩) rfl 37 (.tmp 7) rfl rfl _ HC9.out Try.underlying37 rfl (by rw [bs_length, HM.out.2.2.2.2]; kernel_rfl) ?_)
      refine HCL.out.mono ?_
      rintro e w5 ⟨rfl, hr5, hb5⟩
      have HE5 := hide (And.intro hr5 hb5)
      clear hr5 hb5
      go_wp2_with fail
      exact ⟨rfl, HE5.out⟩
    · rintro a' w5 ⟨rfl, hr5, hb5⟩
      have H5 := hide (show Bd w5 (w.heap.size + 1 + 1 + 1) (w.heap.size + 1 + 1 + 1) o ∧ Row w5 A 0 (bs x.1) ∧ Bt A w w5 ∧ Boxed w5 w.heap.size 42 (.func (.func 27) #[] #[.pointer (some ⟨C, 0, none⟩), .pointer (some ⟨A, 0, none⟩)]) ∧ Boxed w5 (w.heap.size + 1) 9 (.string ⟨#[]⟩) ∧ Boxed w5 (w.heap.size + 1 + 1) 23 (.int .i64 0) ∧ Boxed w5 Tb 9 (.string T) ∧ Bt A W w5 from by
        obtain ⟨i1, i2, i3, i4, i5, i6⟩ := HI.out
        have := HL.out
        have := HZ.out
        exact ⟨i1.bt hb5 (by omega), hr5, i2.trans hb5, boxed_bt i3 hb5 (by omega), boxed_bt i4 hb5 (by omega), boxed_bt i5 hb5 (by omega), boxed_bt i6 hb5 (by omega), hb5⟩)
      clear hr5 hb5 HI HCL HC9 k3c
      gi_wp2_with fail
      refine ⟨trivial, (CallsIn.inRound l (callsIn_wide.2 (bwriteF_c (w.heap.size + 1 + 1 + 1) (w.heap.size + 1 + 1 + 1) o S w5 H5.out.1 (by have := HM.out.1; have := HM.out.2.1; have := HM.out.2.2.2.1; omega)))).mono ?_⟩
      rintro e w6 ⟨rfl, hd6, hb6, hf6⟩
      have HF := hide (show KeepsFrom w2.heap.size W w6 ∧ KpC Tb W w6 ∧ Bd w6 (w.heap.size + 1 + 1 + 1) (w.heap.size + 1 + 1 + 1) (stf (fun a s => comb (dec (kw K) s) a) (fun _ s => s) f (pre ++ [x])).2 ∧ Row w6 A 0 (bs (stf (fun a s => comb (dec (kw K) s) a) (fun _ s => s) f (pre ++ [x])).1) ∧ Bt A w w6 ∧ Boxed w6 w.heap.size 42 (.func (.func 27) #[] #[.pointer (some ⟨C, 0, none⟩), .pointer (some ⟨A, 0, none⟩)]) ∧ Boxed w6 (w.heap.size + 1) 9 (.string ⟨#[]⟩) ∧ Boxed w6 (w.heap.size + 1 + 1) 23 (.int .i64 0) ∧ Boxed w6 Tb 9 (.string T) from by
        obtain ⟨i1, i2, i3, i4, i5, i6, i7, i8⟩ := H5.out
        have q1 := HL.out
        have q2 := HZ.out
        have hkT := boxed_fo i7 hf6 (by omega) (by decide)
        refine ⟨⟨Nat.le_trans i8.size hb6.size, fun k ob hk ho hn => ?_⟩, ?_, ?_, ?_, ?_, boxed_fo i4 hf6 (by omega) (by decide), boxed_fo i5 hf6 (by omega) (by decide), boxed_fo i6 hf6 (by omega) (by decide), hkT⟩
        · exact hf6 k ob (by omega) ((i8.block k (Array.getElem?_eq_some_iff.1 ho).1 (by omega)).trans ho) (fun cur q e => by rw [e] at hn; cases hn)
        · exact hkT.cell.trans HKT.out.cell.symm
        · rw [HSN.out]
          have := hd6
          rw [HM.out.2.2.1] at this
          exact this
        · rw [HSN.out]
          exact i2.below hb6 (by omega)
        · exact ⟨hb6.os.trans i3.os, hb6.tape.trans i3.tape, hb6.output.trans i3.output, Nat.le_trans i3.size hb6.size, fun k hk hkA => (hb6.block k (by omega)).trans (i3.block k hk hkA)⟩)
      clear hd6 hb6 hf6 H5
      gi_wp2_with fail
      exact HF.out
  case done =>
    rintro D ys W hD hys ⟨hd, hA, hBt, k3, k4, k5, kT⟩ hK
    have hlo := stf_len2 (Y := (fun a s => comb (dec (kw K) s) a)) (N := (fun _ s => s)) (f := f) (fun a s ha hs => hs) (fun a s ha hs => comb_length (dec_length (kw_length HS.out.2.2.2.2.2.2) hs) ha) HS.out.2.2.2.2.2.1 ys
    have hne : (stf (fun a s => comb (dec (kw K) s) a) (fun _ s => s) f ys).2 ≠ [] := fun e => by rw [e, hys.length] at hlo; simp at hlo; omega
    obtain ⟨S, eS⟩ : ∃ S, ByteArray.mk ((stf (fun a s => comb (dec (kw K) s) a) (fun _ s => s) f ys).2).toArray = S := ⟨_, rfl⟩
    have HCS := hide (bstringF_c (w.heap.size + 1 + 1 + 1) (w.heap.size + 1 + 1 + 1) _ W hd hne)
    rw [eS] at HCS
    have HY := hide (And.intro hys eS)
    have HI := hide (And.intro hBt (And.intro k4 (And.intro k5 hK)))
    clear hd hA hBt k3 k4 k5 kT hlo hne eS hys
    gi_wp2_with fail
    refine ⟨trivial, (callsIn_wide.2 HCS.out).mono ?_⟩
    rintro e w5 ⟨rfl, hb5, hf5⟩
    have q1 := HL.out
    have q2 := HZ.out
    have k4 : Boxed w5 (w.heap.size + 1) 9 (.string ⟨#[]⟩) := (hb5.block _ (by omega)).trans HI.out.2.1
    have k5 : Boxed w5 (w.heap.size + 1 + 1) 23 (.int .i64 0) := (hb5.block _ (by omega)).trans HI.out.2.2.1
    have hD5 : w5.heap[D]? = some (.deferred (some [])) := hf5 D _ (by omega) HI.out.2.2.2 (fun cur q e => by cases e)
    have c4 := k4.cell
    have f4 := k4.frozen
    have c5 := k5.cell
    have f5 := k5.frozen
    have hA5 : Bt A w w5 := ⟨hb5.os.trans HI.out.1.os, hb5.tape.trans HI.out.1.tape, hb5.output.trans HI.out.1.output, Nat.le_trans HI.out.1.size hb5.size, fun k hk hkA => (hb5.block k (by omega)).trans (HI.out.1.block k hk hkA)⟩
    have H9 := hide (And.intro hA5 hD5)
    clear hA5 hD5 hb5 hf5
    gi_wp2_with fail
    obtain ⟨W9, hW9⟩ : ∃ W9, (w5.setCell ⟨w.heap.size + 1, 0, none⟩ (.string S)).setCell ⟨w.heap.size + 1 + 1, 0, none⟩ (.int .i64 0) = W9 := ⟨_, rfl⟩
    have n4 : Boxed W9 (w.heap.size + 1) 9 (.string S) := by
      rw [← hW9]
      exact Boxed.other (Boxed.set (.string S) k4) (by omega) _
    have n5 : Boxed W9 (w.heap.size + 1 + 1) 23 (.int .i64 0) := by
      rw [← hW9]
      exact Boxed.set _ (Boxed.other k5 (by omega) _)
    have hD9 : W9.heap[D]? = some (.deferred (some [])) := by
      rw [← hW9]
      exact ((Below.heap_setCell _ _ _ _ (by show D ≠ w.heap.size + 1 + 1; omega)).trans (Below.heap_setCell _ _ _ _ (by show D ≠ w.heap.size + 1; omega))).trans H9.out.2
    have hA9 : Bt A w (W9.putObj D (.deferred none)) := by
      rw [← hW9]
      refine ⟨H9.out.1.os, H9.out.1.tape, H9.out.1.output, ?_, fun k hk hkA => ?_⟩
      · have := H9.out.1.size
        simpa [World.putObj, World.setCell] using this
      · exact (World.putObj_heap_other (by omega)).trans (((Below.heap_setCell _ _ _ _ (by show k ≠ w.heap.size + 1 + 1; omega)).trans (Below.heap_setCell _ _ _ _ (by show k ≠ w.heap.size + 1; omega))).trans (H9.out.1.block k hk hkA))
    rw [hW9]
    refine ⟨by simp, .inl ⟨_, _, rfl, run_takeDeferred hD9, ?_⟩⟩
    refine ⟨_, results_cells2 (P := Try.prog) rfl _ _ (w.heap.size + 1) (w.heap.size + 1 + 1) (.string S) (.int .i64 0) rfl rfl (load_cell (Try.isAgg9 _) ?_) (load_cell (Try.isAgg23 _) ?_), ⟨ys, HY.out.1, by rw [← HY.out.2]⟩, hA9⟩
    · exact (World.cell?_of_block (a := ⟨w.heap.size + 1, 0, none⟩) (World.putObj_heap_other (by show w.heap.size + 1 ≠ D; omega))).trans n4.cell
    · exact (World.cell?_of_block (a := ⟨w.heap.size + 1 + 1, 0, none⟩) (World.putObj_heap_other (by show w.heap.size + 1 + 1 ≠ D; omega))).trans n5.cell
  case stop =>
    rintro D c pre W _ _ h _
    exact h.elim
end Go.Proofs.Ytknjmmbebkcnpaa

/- Strings and slices of ints that came in with a call, as the walks take them. No call is walked here. -/
namespace Go.Proofs.Ytknjmmbebkcnpaa
open Go.ChangeShapes Go.WideShapes Go.ChangeAt Go.RowKit Bk
set_option linter.unusedVariables false

/-- A slice of integers that came in: nil, or a row of cells that hold the numbers zs, each of its kind. -/
def IsRow (k : IntKind) (w : World) (a : Option Addr) (len cap : Nat) (zs : List Int) : Prop :=
  (a = none ∧ len = 0 ∧ cap = 0 ∧ zs = []) ∨
  ∃ x, a = some x ∧ len ≤ cap ∧ cap ≤ maxLen ∧ zs.length = cap ∧ (∀ i, i < zs.length → w.cell? (x.add i) = some (.int k (zs.getD i 0))) ∧ ∀ n ∈ zs, (Lit.int k n).wf = true
/-- A slice of ints. -/
def Zi (w : World) (a : Option Addr) (n : Nat) : Prop :=
  n = 0 ∨ ∃ b off, a = some ⟨b, off, none⟩ ∧ b < w.heap.size ∧ ∀ j, j < n → ∃ z : Int, (-9223372036854775808 ≤ z ∧ z ≤ 9223372036854775807) ∧ w.cell? ⟨b, off + j, none⟩ = some (.int .i64 z)
theorem Zi.below {w w' : World} {a : Option Addr} {n : Nat} (h : Zi w a n) (k : Below w.heap.size w w') : Zi w' a n := by
  rcases h with h | ⟨b, off, ha, hb, hc⟩
  · exact .inl h
  · exact .inr ⟨b, off, ha, Nat.lt_of_lt_of_le hb k.size, fun j hj => by
      obtain ⟨z, hz, hcz⟩ := hc j hj
      exact ⟨z, hz, (k.cell (p := ⟨b, off + j, none⟩) hb).trans hcz⟩⟩
theorem isRow_zi {w : World} {a : Option Addr} {len cap : Nat} {zs : List Int} (h : IsRow .i64 w a len cap zs) : Zi w a len := by
  rcases h with ⟨rfl, rfl, rfl, rfl⟩ | ⟨x, rfl, hl, hm, hz, hcell, hwz⟩
  · exact .inl rfl
  · by_cases h0 : len = 0
    · exact .inl h0
    · obtain ⟨b, off, rfl, hc⟩ := ints_at hcell (by omega)
      refine .inr ⟨b, off, rfl, World.block_lt_of_cell? w _ (hc 0 (by omega)), fun j hj => ⟨zs.getD j 0, ?_, hc j (by omega)⟩⟩
      exact bounds_i64 (hwz (zs.getD j 0) (by
        rw [List.getD_eq_getElem?_getD, List.getElem?_eq_getElem (by omega)]
        exact List.getElem_mem _))
theorem isRow_len {w : World} {k : IntKind} {a : Option Addr} {len cap : Nat} {zs : List Int} (h : IsRow k w a len cap zs) : len ≤ maxLen := by
  rcases h with ⟨rfl, rfl, rfl, rfl⟩ | ⟨x, rfl, hl, hm, _⟩
  · exact Nat.zero_le _
  · omega

theorem sb_app (a b : ByteArray) : sb (a ++ b) = sb a ++ sb b := by unfold sb; simp
/-- What an unsigned rest makes of an int. -/
theorem u64_rest (n m : Int) (hm : 0 < m) (hm2 : m ≤ 9223372036854775807) : ∃ k : Nat, wrap64 ((IntKind.u64.wrap n).tmod m) = (k : Int) ∧ (k : Int) < m := by
  have h0 : 0 ≤ IntKind.u64.wrap n := by
    simp [IntKind.wrap, IntKind.bits, IntKind.signed]; omega
  rw [Int.tmod_eq_emod_of_nonneg h0]
  have h1 := Int.emod_nonneg (IntKind.u64.wrap n) (show m ≠ 0 by omega)
  have h2 := Int.emod_lt_of_pos (IntKind.u64.wrap n) hm
  refine ⟨(IntKind.u64.wrap n % m).toNat, ?_, by omega⟩
  rw [IntWalk.wrap64_in _ (by omega)]
  omega
end Go.Proofs.Ytknjmmbebkcnpaa

/- Blocks that came in as a slice of strings: read in the walks of the laws; the calls on ciphers with whatever text. No condition. -/
namespace Go.Proofs.Ytknjmmbebkcnpaa
open Go.ChangeShapes Go.WideShapes Go.ChangeAt Go.RowKit Bk
open Go.ChangeMaps (open_string shut_string)
set_option linter.unusedVariables false
set_option linter.unusedSimpArgs false

theorem toList_beq (a b : ByteArray) : (a.toList == b.toList) = decide (b = a) := by
  by_cases h : b = a
  · subst h; simp
  · rw [decide_eq_false h]
    have : ¬ a.toList = b.toList := fun k => h (sb_inj (by rw [ByteArray.toList_eq, ByteArray.toList_eq] at k; exact k.symm))
    simp [this]
theorem toList_ne {a b : ByteArray} (h : a ≠ b) : (a.toList == b.toList) = false := by
  rw [toList_beq]
  exact decide_eq_false (fun e => h e.symm)

theorem infoSt : (Try.prog.info? 9).map (fun i => (i.zero, i.size, i.bytes)) = some (some (.string ⟨#[]⟩), 1, 16) := by kernel_rfl
/-- A slice of strings. -/
def Tx (w : World) (a : Option Addr) (n : Nat) (K : Nat → ByteArray) : Prop :=
  n = 0 ∨ ∃ b off, a = some ⟨b, off, none⟩ ∧ b < w.heap.size ∧ ∀ j, j < n → w.cell? ⟨b, off + j, none⟩ = some (.string (K j))
theorem Tx.below {w w' : World} {a : Option Addr} {n : Nat} {K : Nat → ByteArray} (h : Tx w a n K) (k : Below w.heap.size w w') : Tx w' a n K := by
  rcases h with h | ⟨b, off, ha, hb, hc⟩
  · exact .inl h
  · exact .inr ⟨b, off, ha, Nat.lt_of_lt_of_le hb k.size, fun j hj => (k.cell (p := ⟨b, off + j, none⟩) hb).trans (hc j hj)⟩
theorem Tx.at' {w : World} {a : Option Addr} {n : Nat} {K : Nat → ByteArray} (h : Tx w a n K) {j : Nat} (hj : j < n) : ∃ b off, a = some ⟨b, off, none⟩ ∧ b < w.heap.size ∧ w.cell? ⟨b, off + j, none⟩ = some (.string (K j)) := by
  rcases h with h | ⟨b, off, ha, hb, hc⟩
  · omega
  · exact ⟨b, off, ha, hb, hc j hj⟩
theorem mem_weightsAll {H : Type} {P : Program} {e : TypeId} {n : Nat} {d : DataW H} : ∀ (l : List (DataW H)), d ∈ l → n ∈ d.weights P e → n ∈ DataW.weightsAll P e l
  | [], h, _ => (by cases h)
  | x :: r, h, hn => by
    unfold DataW.weightsAll
    rcases List.mem_cons.1 h with rfl | h
    · exact List.mem_append_left _ hn
    · exact List.mem_append_right _ (mem_weightsAll r h hn)
theorem open_texts {H : Type} {enc : TypeId × Value → H} {w : World} {base : Nat} {spare : Nat → Bool} {held : Bool} {fuel : Nat} {a : Option Addr} {len cap : Nat} {x : DataW H × List MemPlace}
    (h : DataW.trod enc Try.prog w base spare held fuel 78 [.slice a len cap] = some x) (hb : ∀ n ∈ x.1.weights Try.prog 78, n ≤ reachBytes) : ∃ K : Nat → ByteArray, Tx w a len K ∧ ∀ j, j < len → (K j).size ≤ 140737488351232 := by
  have hcs : Try.prog.cellsOf 9 = 1 := by kernel_rfl
  rcases Go.Deep.open_strs Try.underlying78 Try.underlying9 hcs h with ⟨h0, _⟩ | ⟨a', len', cap', m, Sx, hc, hb0, hl, hm, hmm, hx, hcell⟩
  · simp at h0
    exact ⟨fun _ => ⟨#[]⟩, .inl h0.2.1, fun j hj => by omega⟩
  · simp at hc
    obtain ⟨rfl, rfl, rfl⟩ := hc
    have hlm : len ≤ m := by rw [hmm]; split <;> omega
    refine ⟨Sx, ?_, fun j hj => ?_⟩
    · by_cases h0 : len = 0
      · exact .inl h0
      · obtain ⟨b, off, spot⟩ := a'
        have hspot : spot = none := by
          have := World.cell?_spot (hcell 0 (by omega)).1
          simpa [Addr.add] using this
        subst hspot
        refine .inr ⟨b, off, rfl, ?_, fun j hj => ?_⟩
        · have := (hcell 0 (by omega)).1
          rw [Addr.add_mid] at this
          exact World.block_lt_of_cell? w _ this
        · have := (hcell j (by omega)).1
          rwa [Addr.add_mid] at this
    · have hw : (Sx j).data.toList.length ∈ x.1.weights Try.prog 78 := by
        rw [hx]
        unfold DataW.weights
        rw [Try.underlying78]
        refine List.mem_cons_of_mem _ (List.mem_append_left _ (mem_weightsAll _ (List.mem_map.2 ⟨j, List.mem_range.2 hj, rfl⟩) ?_))
        unfold DataW.weights
        exact List.mem_singleton.2 rfl
      have := hb _ hw
      rw [Array.length_toList] at this
      exact this


/-- Enciphered, deciphered, whatever the text; the error. -/
def eb (K x : ByteArray) : ByteArray := if x.size = 16 then et K x else ⟨#[]⟩
def db (K x : ByteArray) : ByteArray := if x.size = 16 then dt K x else ⟨#[]⟩
def ee (x : ByteArray) : Int := if x.size = 16 then 0 else 1
theorem eb_ok {K x : ByteArray} (h : x.size = 16) : eb K x = et K x := if_pos h
theorem eb_no {K x : ByteArray} (h : x.size ≠ 16) : eb K x = ⟨#[]⟩ := if_neg h
theorem db_ok {K x : ByteArray} (h : x.size = 16) : db K x = dt K x := if_pos h
theorem db_no {K x : ByteArray} (h : x.size ≠ 16) : db K x = ⟨#[]⟩ := if_neg h
theorem ee_ok {x : ByteArray} (h : x.size = 16) : ee x = 0 := if_pos h
theorem ee_no {x : ByteArray} (h : x.size ≠ 16) : ee x = 1 := if_neg h
theorem encE_c (K x : ByteArray) (w : World) (b : Nat) (hk : K.size = 32) (hR : Row w b 0 (bs (ciB (kw K)))) : Calls Try.prog 18 #[.pointer (some ⟨b, 0, none⟩), .string x] w fun e w' => e = .returned (.tuple #[.string (eb K x), .int .i64 (ee x)]) ∧ Below w.heap.size w w' := by
  by_cases h : x.size = 16
  · rw [eb_ok h, ee_ok h]; exact enc_c K x w b hk h hR
  · rw [eb_no h, ee_no h]; exact aEnc_bad x b w h
theorem decE_c (K x : ByteArray) (w : World) (b : Nat) (hk : K.size = 32) (hR : Row w b 0 (bs (ciB (kw K)))) : Calls Try.prog 17 #[.pointer (some ⟨b, 0, none⟩), .string x] w fun e w' => e = .returned (.tuple #[.string (db K x), .int .i64 (ee x)]) ∧ Below w.heap.size w w' := by
  by_cases h : x.size = 16
  · rw [db_ok h, ee_ok h]; exact dec_c K x w b hk h hR
  · rw [db_no h, ee_no h]; exact aDec_bad x b w h
/-- The first m of a row of texts, as values. -/
def ts (F : Nat → ByteArray) (m : Nat) : List Value := (List.range m).map fun j => .string (F j)
theorem ts_length (F : Nat → ByteArray) (m : Nat) : (ts F m).length = m := by simp [ts]
theorem ts_succ (F : Nat → ByteArray) (m : Nat) : ts F (m + 1) = ts F m ++ [.string (F m)] := by unfold ts; rw [List.range_succ, List.map_append]; rfl
theorem ts_at (F : Nat → ByteArray) (m j : Nat) (h : j < m) : (ts F m)[j]? = some (.string (F j)) := by simp [ts, h]
theorem ts_one {F : Nat → ByteArray} {m : Nat} {v : Value} (h : v ∈ ts F m) : v.oneCell' = true := by
  simp only [ts, List.mem_map] at h
  obtain ⟨j, _, rfl⟩ := h
  rfl
end Go.Proofs.Ytknjmmbebkcnpaa

/- What data are framed to a frame, walked. For frames of 8 to 2 to the power of 40 bytes: the call returns what CMath says, or that it is none, and leaves what was there. -/
namespace Go.Proofs.Ytknjmmbebkcnpaa
open Go.RowKit Bk
set_option linter.unusedVariables false
set_option linter.unusedSimpArgs false

/-- A frame's data, and the error. -/
def pdS (F : ByteArray) : ByteArray := match pd (sb F) with | some l => ⟨l.toArray⟩ | none => ⟨#[]⟩
def pdE (F : ByteArray) : Int := match pd (sb F) with | some _ => 0 | none => 4
theorem pdS_some {F : ByteArray} {l : List UInt8} (h : pd (sb F) = some l) : pdS F = ⟨l.toArray⟩ := by unfold pdS; rw [h]
theorem pdE_some {F : ByteArray} {l : List UInt8} (h : pd (sb F) = some l) : pdE F = 0 := by unfold pdE; rw [h]
theorem pdS_none {F : ByteArray} (h : pd (sb F) = none) : pdS F = ⟨#[]⟩ := by unfold pdS; rw [h]
theorem pdE_none {F : ByteArray} (h : pd (sb F) = none) : pdE F = 4 := by unfold pdE; rw [h]
theorem or_byte {v c : Nat} (hv : v < 72057594037927936) (hc : c < 256) : bits .or .u64 ((v : Int) * 256) (c : Int) = ((v * 256 + c : Nat) : Int) := by
  have h := bits_or_u64_nat (v * 256) c (by omega) (by omega)
  rw [show ((v * 256 : Nat) : Int) = (v : Int) * 256 by omega] at h
  rw [h, show v * 256 = 2 ^ 8 * v by omega, ← Nat.two_pow_add_eq_or_of_lt (by omega)]

set_option maxRecDepth 100000 in
set_option maxHeartbeats 4000000 in
theorem cFramed_any (F : ByteArray) (w : World) (h8 : 8 ≤ F.size) (hF : F.size ≤ 1099511627776) :
    Calls Try.prog 28 #[.string F] w fun e w' => e = .returned (.tuple #[.string (pdS F), .int .i64 (pdE F)]) ∧ Below w.heap.size w w' := by
  obtain ⟨N, hN⟩ : ∃ N, F.size = N := ⟨_, rfl⟩
  obtain ⟨y, hy⟩ : ∃ y, F.extract 0 8 = y := ⟨_, rfl⟩
  obtain ⟨z, hz⟩ : ∃ z, F.extract 8 N = z := ⟨_, rfl⟩
  have zy : y.size = 8 := by rw [← hy, ByteArray.size_extract]; omega
  have zz : z.size = N - 8 := by rw [← hz, ByteArray.size_extract]; omega
  have sy : sb y = (sb F).take 8 := by rw [← hy, sb_extract]; simp
  have sz : sb z = (sb F).drop 8 := by rw [← hz, sb_extract, List.take_of_length_le (by rw [List.length_drop, sb_length]; omega)]
  have hs1 : ∀ w, (Instr.slice 9 (.string F) none (some (.int .i64 8)) none).run Try.prog w = .ok (.string y) w := fun w => by
    rw [run_slice_string_h w 9 F Try.underlying9 .i64 8 (by decide) (by omega), show ((8 : Int).toNat) = 8 from rfl, hy]
  have hs2 : ∀ w, (Instr.slice 9 (.string F) (some (.int .i64 8)) none none).run Try.prog w = .ok (.string z) w := fun w => by
    rw [run_slice_string_l w 9 F Try.underlying9 .i64 8 (by decide) (by omega), show ((8 : Int).toNat) = 8 from rfl, hN, hz]
  obtain ⟨V, W1, hcv, hO, hB1⟩ := run_bytesO w 9 28 5 y Try.underlying9 Try.underlying28 Try.underlying5
  obtain ⟨g, cap, rfl, hg, hcap, hR⟩ := hO.row (by omega)
  rw [zy] at hcv
  have lF : (sb F).length = N := by rw [sb_length, hN]
  have HX := hide (And.intro zz (And.intro sy (And.intro sz (And.intro lF (And.intro hN (And.intro zy (And.intro h8 hF)))))))
  have H0 := hide (And.intro hR hB1)
  clear hO hR hB1 hcap hg hy hz sy sz lF h8 hF
  go_enter Try.func28, Try.ntmps28
  go_wp2_with fail
  clear hs1 hcv
  go_loopg [4, 6, 13] 8 (fun g' m _ q wr => ∃ k : Nat, k + g' = 8 ∧ q = .int .i64 k ∧ m = .int .u64 ((v8 (sb F) k : Nat) : Int) ∧ Row wr g 0 (bs (sb y)) ∧ Below w.heap.size w wr)
  case atStart => exact ⟨0, rfl, rfl, rfl, H0.out⟩
  case round =>
    clear H0
    obtain ⟨wo, hwo⟩ : ∃ z, z = wr := ⟨_, rfl⟩
    subst hwo
    obtain ⟨k, hkg, rfl, rfl, h1, hB⟩ := hrel
    by_cases hlt : k < 8
    · have hltI : (k : Int) < 8 := by omega
      obtain ⟨g3, rfl⟩ : ∃ g3, gk = g3 + 1 := ⟨gk - 1, by omega⟩
      have c1 := h1.g0 k (by rw [sb_length, HX.out.2.2.2.2.2.1]; exact hlt)
      rw [HX.out.2.1, gy_take _ _ _ hlt] at c1
      have hv := v8_lt (sb F) k
      have hv2 : v8 (sb F) k < 72057594037927936 := Nat.lt_of_lt_of_le hv (by
        refine Nat.le_trans (Nat.pow_le_pow_right (by decide) (show k ≤ 7 by omega)) (by decide))
      have hnx : v8 (sb F) (k + 1) = v8 (sb F) k * 256 + (gy (sb F) k).toNat := rfl
      have hcl := UInt8.toNat_lt (gy (sb F) k)
      obtain ⟨v, ev⟩ : ∃ v, v8 (sb F) k = v := ⟨_, rfl⟩
      obtain ⟨c, ec⟩ : ∃ c, (gy (sb F) k).toNat = c := ⟨_, rfl⟩
      rw [ev, ec] at hnx
      rw [ec] at c1 hcl
      rw [ev] at hv2 ⊢
      have hor := or_byte hv2 (show c < 256 by omega)
      have hsm : IntKind.u64.wrap ((v : Int) * 256) = (v : Int) * 256 := by rw [IntKind.wrap_u64]; omega
      obtain ⟨u, hu⟩ : ∃ u, v * 256 + c = u := ⟨_, rfl⟩
      rw [hu] at hor hnx
      have HN := hide (And.intro hnx (And.intro h1 hB))
      clear hnx h1 hB ev ec hv hu
      go_wp2_with fail
      go_roundg g3
      case measure => omega
      case rel => exact ⟨k + 1, by omega, by go_num, by rw [HN.out.1], HN.out.2⟩
    · obtain rfl : k = 8 := by omega
      have hpd : pd (sb F) = if v8 (sb F) 8 ≤ (sb F).length - 8 ∧ fr (((sb F).drop 8).take (v8 (sb F) 8)) = sb F then some (((sb F).drop 8).take (v8 (sb F) 8)) else none := rfl
      have hm64 : v8 (sb F) 8 < 18446744073709551616 := v8_lt (sb F) 8
      obtain ⟨m, em⟩ : ∃ m, v8 (sb F) 8 = m := ⟨_, rfl⟩
      rw [em] at hpd hm64 ⊢
      rw [HX.out.2.2.2.1] at hpd
      have HB := hide hB
      clear h1 hB em hlt hkg
      by_cases hgt : N - 8 < m
      · rw [if_neg (by omega)] at hpd
        have HS := hide (And.intro (pdS_none hpd) (pdE_none hpd))
        have hI : ((N - 8 : Nat) : Int) < (m : Int) := by omega
        have hc : IntKind.u64.wrap ((N - 8 : Nat) : Int) = ((N - 8 : Nat) : Int) := by rw [IntKind.wrap_u64]; have := HX.out.2.2.2.2.2.2; omega
        obtain ⟨M, eM⟩ : ∃ M, N - 8 = M := ⟨_, rfl⟩
        rw [eM] at zz hI hc
        clear hpd hgt eM
        go_wp2_with fail
        go_ret2
        exact ⟨by rw [HS.out.1, HS.out.2]; rfl, HB.out⟩
      · have hle : m ≤ N - 8 := by omega
        obtain ⟨x, ex⟩ : ∃ x, z.extract 0 m = x := ⟨_, rfl⟩
        have sx : sb x = ((sb F).drop 8).take m := by
          rw [← ex, sb_extract, HX.out.2.2.1]; simp
        have xs : x.size = m := by rw [← ex, ByteArray.size_extract]; omega
        have hs3 : ∀ w, (Instr.slice 9 (.string z) none (some (.int .u64 (m : Int))) none).run Try.prog w = .ok (.string x) w := fun w => by
          rw [run_slice_string_h w 9 z Try.underlying9 .u64 (m : Int) (by omega) (by omega), Int.toNat_natCast, ex]
        have hI : ¬ ((N - 8 : Nat) : Int) < (m : Int) := by omega
        have hc : IntKind.u64.wrap ((N - 8 : Nat) : Int) = ((N - 8 : Nat) : Int) := by rw [IntKind.wrap_u64]; have := HX.out.2.2.2.2.2.2; omega
        rw [← sx] at hpd
        have HC := hide (cFrame_any x wo (by rw [xs]; have := HX.out.2.2.2.2.2.2; omega))
        obtain ⟨M, eM⟩ : ∃ M, N - 8 = M := ⟨_, rfl⟩
        rw [eM] at zz hI hc hpd hle
        have HP := hide hpd
        have HM := hide hle
        clear hpd hgt eM ex sx hle
        obtain ⟨Y, eY⟩ : ∃ Y, frm x = Y := ⟨_, rfl⟩
        rw [eY] at HC
        go_wp2_with fail
        refine HC.out.mono ?_
        rintro e w2 ⟨rfl, hb2⟩
        have HZ := hide (HB.out.trans (hb2.mono HB.out.size))
        clear hb2 HC HB
        by_cases he : Y = F
        · have hq : (Y.toList == F.toList) = true := by rw [toList_beq]; simp [he]
          have hf : fr (sb x) = sb F := by rw [← frm_sb, eY, he]
          have hp := HP.out
          rw [if_pos ⟨HM.out, hf⟩] at hp
          have HS := hide (And.intro (pdS_some hp) (pdE_some hp))
          have HXX := hide (show ByteArray.mk (sb x).toArray = x from sb_inj (sb_mk _))
          clear hp hf eY he
          go_wp2_with fail
          go_ret2
          exact ⟨by rw [HS.out.1, HS.out.2, HXX.out]; rfl, HZ.out⟩
        · have hq : (Y.toList == F.toList) = false := toList_ne he
          have hf : ¬ fr (sb x) = sb F := fun k => he (by rw [← eY]; exact sb_inj (by rw [frm_sb, k]))
          have hp := HP.out
          rw [if_neg (fun k => hf k.2)] at hp
          have HS := hide (And.intro (pdS_none hp) (pdE_none hp))
          clear hp hf eY he
          go_wp2_with fail
          go_ret2
          exact ⟨by rw [HS.out.1, HS.out.2]; rfl, HZ.out⟩
end Go.Proofs.Ytknjmmbebkcnpaa

/- Open, walked. For any key, first block and bytes: what CMath says, or nothing and the error; what was there is left. -/
namespace Go.Proofs.Ytknjmmbebkcnpaa
open Go.RowKit Bk
set_option linter.unusedVariables false
set_option linter.unusedSimpArgs false

set_option maxRecDepth 100000 in
set_option maxHeartbeats 1000000 in
theorem cOpen_bad (K f s : ByteArray) (w : World) (h : K.size ≠ 32 ∨ f.size ≠ 16) :
    Calls Try.prog 12 #[.string K, .string f, .string s] w fun e w' => e = .returned (.tuple #[.string ⟨#[]⟩, .int .i64 1]) ∧ Below w.heap.size w w' := by
  have HC := hide (show Calls Try.prog 19 #[.string K, .string f] w fun e w' => e = .returned (.tuple #[.pointer none, .int .i64 1]) ∧ Below w.heap.size w w' by
    by_cases hf : f.size = 16
    · exact cipherOf_key K f w (h.resolve_right (fun k => k hf)) hf
    · exact cipherOf_first K f w hf)
  clear h
  go_enter Try.func12, Try.ntmps12
  go_wp2_with fail
  refine HC.out.mono ?_
  rintro e w1 ⟨rfl, hB⟩
  have HS := hide hB
  clear hB
  go_wp2_with fail
  go_ret2
  exact ⟨rfl, HS.out.alloc HS.out.size _⟩

set_option maxRecDepth 100000 in
set_option maxHeartbeats 1000000 in
theorem cOpen_form (K f s : ByteArray) (w : World) (hk : K.size = 32) (hf : f.size = 16) (hs : s.size = 0 ∨ s.size % 16 ≠ 0) :
    Calls Try.prog 12 #[.string K, .string f, .string s] w fun e w' => e = .returned (.tuple #[.string ⟨#[]⟩, .int .i64 4]) ∧ Below w.heap.size w w' := by
  have HC := hide (cipherOf_ok K f w hk hf)
  obtain ⟨N, hN⟩ : ∃ N, s.size = N := ⟨_, rfl⟩
  rw [hN] at hs
  clear hk hf
  by_cases h0 : N = 0
  · subst h0
    clear hs
    go_enter Try.func12, Try.ntmps12
    go_wp2_with fail
    refine HC.out.mono ?_
    rintro e w1 ⟨b, rfl, _, _, hB⟩
    have HS := hide hB
    clear hB
    go_wp2_with fail
    go_ret2
    exact ⟨rfl, HS.out.alloc HS.out.size _⟩
  · have g1 : ((N : Int) == 0) = false := by simp; omega
    have g2 : (((N : Int).tmod 16) != 0) = true := by
      rw [Int.tmod_eq_emod_of_nonneg (by omega)]
      simp
      omega
    have g3 : (((N : Int) % 16) != 0) = true := by simp; omega
    have g4 : (((N : Int) % 16) == 0) = false := by simp; omega
    have g5 : (((N : Int).tmod 16) == 0) = false := by
      rw [Int.tmod_eq_emod_of_nonneg (by omega)]
      exact g4
    clear hs h0
    go_enter Try.func12, Try.ntmps12
    go_wp2_with fail
    refine HC.out.mono ?_
    rintro e w1 ⟨b, rfl, _, _, hB⟩
    have HS := hide hB
    clear hB
    go_wp2_with fail
    go_ret2
    exact ⟨rfl, HS.out.alloc HS.out.size _⟩
set_option maxRecDepth 100000 in
set_option maxHeartbeats 2000000 in
theorem cOpen_ok (K f s : ByteArray) (w : World) (hk : K.size = 32) (hf : f.size = 16) (hd : s.size ≤ 1048576) (h0 : s.size ≠ 0) (h16 : s.size % 16 = 0) :
    Calls Try.prog 12 #[.string K, .string f, .string s] w fun e w' => e = .returned (.tuple #[.string (opT K f s), .int .i64 (opE K f s)]) ∧ Below w.heap.size w w' := by
  have HC := hide (cipherOf_ok K f w hk hf)
  have HH := hide (And.intro hk (And.intro hf (And.intro hd (And.intro h0 h16))))
  obtain ⟨N, hN⟩ : ∃ N, s.size = N := ⟨_, rfl⟩
  rw [hN] at hd h0 h16
  have g1 : ((N : Int) == 0) = false := by simp; omega
  have g3 : (((N : Int) % 16) != 0) = false := by simp; omega
  have g4 : (((N : Int) % 16) == 0) = true := by simp; omega
  have g2 : (((N : Int).tmod 16) != 0) = false := by
    rw [Int.tmod_eq_emod_of_nonneg (by omega)]
    exact g3
  have g5 : (((N : Int).tmod 16) == 0) = true := by
    rw [Int.tmod_eq_emod_of_nonneg (by omega)]
    exact g4
  clear hk hf hd h0 h16
  go_enter Try.func12, Try.ntmps12
  go_wp2_with fail
  refine HC.out.mono ?_
  rintro e w1 ⟨b, rfl, hR, hge, hB⟩
  obtain ⟨W1, hW1, k1, k2, k3⟩ : ∃ W1, w1.alloc (.cells #[.pointer (some ⟨b, 0, none⟩)] 29) = W1 ∧ Boxed W1 w1.heap.size 29 (.pointer (some ⟨b, 0, none⟩)) ∧ Row W1 b 0 (bs (ciB (kw K))) ∧ Below w1.heap.size w1 W1 :=
    ⟨_, rfl, Boxed.new w1 _ _, hR.alloc _, (Below.refl _ w1).alloc (Nat.le_refl _) _⟩
  have HS := hide (And.intro k1 (And.intro k2 (And.intro k3 (And.intro hR.lt hB))))
  clear hR hge hB HC k1 k2 k3
  go_wp2_with fail
  clear hW1
  refine (blockOf_any f W1 (Nat.le_of_eq HH.out.2.1.symm)).mono ?_
  rintro e w2 ⟨rfl, hB2⟩
  have lf : (sb f).length = 16 := by rw [sb_length, HH.out.2.1]
  rw [List.take_of_length_le (Nat.le_of_eq lf)]
  obtain ⟨W2, hW2, m1, m2⟩ : ∃ W2, (w2.alloc (.cells #[.int .u8 0, .int .u8 0, .int .u8 0, .int .u8 0, .int .u8 0, .int .u8 0, .int .u8 0, .int .u8 0, .int .u8 0, .int .u8 0, .int .u8 0, .int .u8 0, .int .u8 0, .int .u8 0, .int .u8 0, .int .u8 0] 37)).setCells w2.heap.size 0 (bs (sb f)) = W2 ∧ Row W2 w2.heap.size 0 (bs (sb f)) ∧ Below w2.heap.size w2 W2 :=
    ⟨_, rfl, Row.made w2 (bs (zr 16)) _ _ (by rw [bs_length, bs_length, lf]; rfl), below_made (Below.refl _ w2) (Nat.le_refl _) _ _ _⟩
  have HZ16 := hide (Row.newL w2 (bs (zr 16)) 37)
  have HX2 := hide lf
  have HWS := hide (show w.heap.size ≤ w2.heap.size from Nat.le_trans HS.out.2.2.2.2.size (Nat.le_trans HS.out.2.2.1.size hB2.size))
  have HT := hide (show Row W2 w2.heap.size 0 (bs (sb f)) ∧ Row W2 b 0 (bs (ciB (kw K))) ∧ Boxed W2 w1.heap.size 29 (.pointer (some ⟨b, 0, none⟩)) ∧ Below w.heap.size w W2 ∧ w1.heap.size < w2.heap.size ∧ b < w2.heap.size from by
    obtain ⟨i1, i2, i3, i4, i5⟩ := HS.out
    have q1 := i3.size
    have q2 := hB2.size
    have q3 := i1.lt
    have j1 := boxed_below i1 hB2
    have j2 := i2.below hB2 i2.lt
    exact ⟨m1, j2.below m2 j2.lt, boxed_below j1 m2, i5.trans ((i3.mono i5.size).trans ((hB2.mono (by have := i5.size; omega)).trans (m2.mono (by have := i5.size; omega)))), by omega, by omega⟩)
  clear m1 m2 hB2 HS lf
  go_wp2_with (refine wpList_storeR (op := ⟨none, _, _, _, _, _⟩) rfl 37 (.tmp 10) (.tmp 31) rfl rfl (vs := bs (sb f)) rfl HZ16.out (by rw [bs_length, bs_length, HX2.out, zr_length]) (by rw [bs_length, HX2.out]; kernel_rfl) (fun v hv => bs_one hv) ?_; rw [hW2])
  obtain ⟨n, hn⟩ : ∃ n, s.size = 16 * n := ⟨s.size / 16, by have := HH.out.2.2.2.2; omega⟩
  have hn0 : 0 < n := by have := HH.out.2.2.2.1; omega
  have hnb : n ≤ 68719476736 := by have := HH.out.2.2.1; omega
  refine (callsIn_wide.1 (made_opener s n (sb f) K b w1.heap.size w2.heap.size hn hn0 hnb HX2.out HH.out.1 HT.out.2.2.1.cell HT.out.2.1 HT.out.1 (by have := HT.out; omega) (by have := HT.out; omega))).mono ?_
  rintro e w4 ⟨⟨ys, hys, rfl⟩, hB4⟩
  obtain ⟨U, eU⟩ : ∃ U, ByteArray.mk (stf (fun a s => comb (dec (kw K) s) a) (fun _ s => s) (sb f) ys).2.toArray = U := ⟨_, rfl⟩
  have hU : sb U = un (dec (kw K)) (sb f) (sb s) := by
    rw [← eU, sb_mk, stf_stl, hys, stl_open]
    show cat (cD (dec (kw K)) (sb f) (sb s)) n = _
    unfold un
    rw [sb_length, hn, show 16 * n / 16 = n by omega]
  have hUs : U.size = s.size := by rw [← sb_length, hU, un_length (cph_kw HH.out.1) HX2.out (by rw [sb_length]; exact HH.out.2.2.2.2), sb_length]
  have hop : opO K f s = pd (sb U) := by
    unfold opO op
    rw [if_neg (by rw [sb_length]; have := HH.out.2.2.2; omega), hU]
  have HV := hide (show opT K f s = pdS U ∧ opE K f s = pdE U from by
    cases e : pd (sb U) with
    | some l => exact ⟨(opT_some (hop.trans e)).trans (pdS_some e).symm, (opE_some (hop.trans e)).trans (pdE_some e).symm⟩
    | none => exact ⟨(opT_none (hop.trans e)).trans (pdS_none e).symm, (opE_none (hop.trans e)).trans (pdE_none e).symm⟩)
  have HR := hide (show Below w.heap.size w w4 from HT.out.2.2.2.1.trans (hB4.below HWS.out HT.out.2.2.2.1.size))
  have HUs := hide (show 8 ≤ U.size ∧ U.size ≤ 1099511627776 from by have := HH.out.2.2; omega)
  rw [eU]
  clear eU hU hUs hop hB4 hys hn hn0 hnb HT hW2
  go_wp2_with fail
  refine (cFramed_any U w4 HUs.out.1 HUs.out.2).mono ?_
  rintro e w5 ⟨rfl, hB5⟩
  have HR5 := hide (HR.out.trans (hB5.mono HR.out.size))
  clear hB5
  obtain ⟨S, eS⟩ : ∃ S, pdS U = S := ⟨_, rfl⟩
  obtain ⟨E, eE⟩ : ∃ E, pdE U = E := ⟨_, rfl⟩
  rw [eS, eE]
  have HV2 := hide (show opT K f s = S ∧ opE K f s = E from ⟨HV.out.1.trans eS, HV.out.2.trans eE⟩)
  clear eS eE
  go_wp2_with fail
  go_ret2
  exact ⟨by rw [HV2.out.1, HV2.out.2]; rfl, HR5.out⟩
end Go.Proofs.Ytknjmmbebkcnpaa
