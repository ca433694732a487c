/- A block deciphered, walked. For any cipher that lies in memory, any text: of 16 bytes the call returns what ATab says, of another length, or of no cipher, nothing and an error; what was there is left. -/
import Derived.Test.YtllhnbnddcghoaaATak
import Derived.Test.YtllhnbnddcghoaaAThrD
import Derived.Test.YtllhnbnddcghoaaASqO
import Derived.Test.YtllhnbnddcghoaaASqT
import Derived.Test.YtllhnbnddcghoaaOrdB
namespace Go.Proofs.Ytllhnbnddcghoaa
open Go.RowKit Bk
set_option linter.unusedVariables false
set_option linter.unusedSimpArgs false

set_option maxRecDepth 100000 in
set_option maxHeartbeats 8000000 in
theorem aDec_nil (x : ByteArray) (w : World) : Calls Try.prog 9 #[.pointer none, .string x] w fun e w' => e = .returned (.tuple #[.string ⟨#[]⟩, .int .i64 2]) ∧ Below w.heap.size w w' := by
  go_enter Try.func9, Try.ntmps9
  go_wp2_with fail
  refine (takes_nil x _).mono ?_
  rintro e w1 ⟨rfl, hw⟩
  obtain rfl := hw.symm
  go_wp2_with fail
  exact bodyPost_ret (v := .tuple #[.string ⟨#[]⟩, .int .i64 2]) (by simp [results, Try.results9, go_sem]) rfl ⟨rfl, (Below.refl _ w).alloc (Nat.le_refl _) _⟩

set_option maxRecDepth 100000 in
set_option maxHeartbeats 8000000 in
theorem aDec_bad (x : ByteArray) (b : Nat) (w : World) (hx : x.size ≠ 16) : Calls Try.prog 9 #[.pointer (some ⟨b, 0, none⟩), .string x] w fun e w' => e = .returned (.tuple #[.string ⟨#[]⟩, .int .i64 1]) ∧ Below w.heap.size w w' := by
  go_enter Try.func9, Try.ntmps9
  go_wp2_with fail
  refine (takes_bad _ x _ hx).mono ?_
  rintro e w1 ⟨rfl, hw⟩
  obtain rfl := hw.symm
  go_wp2_with fail
  exact bodyPost_ret (v := .tuple #[.string ⟨#[]⟩, .int .i64 1]) (by simp [results, Try.results9, go_sem]) rfl ⟨rfl, (Below.refl _ w).alloc (Nat.le_refl _) _⟩

set_option maxRecDepth 100000 in
set_option maxHeartbeats 8000000 in
theorem aDec_any (x : ByteArray) (W : List UInt8) (w : World) (b : Nat) (hx : x.size = 16) (hW : W.length = 240) (hR : Row w b 0 (bs (ciB W))) :
    Calls Try.prog 9 #[.pointer (some ⟨b, 0, none⟩), .string x] w fun e w' => e = .returned (.tuple #[.string ⟨(dec W (sb x)).toArray⟩, .int .i64 0]) ∧ Below w.heap.size w w' := by
  obtain ⟨s, es⟩ : ∃ s, sb x = s := ⟨_, rfl⟩
  have ls : s.length = 16 := by rw [← es, sb_length, hx]
  obtain ⟨K, eK⟩ : ∃ k, kR W 0 = k := ⟨_, rfl⟩
  have lK : K.length = 16 := eK ▸ kR_length (by omega)
  obtain ⟨X, eX⟩ : ∃ k, dN W s 14 = k := ⟨_, rfl⟩
  have lX : X.length = 16 := eX ▸ dN_length ls 14
  obtain ⟨Y, eY⟩ : ∃ k, comb X K = k := ⟨_, rfl⟩
  have lY : Y.length = 16 := eY ▸ comb_length lX lK
  have hres : dec W (sb x) = Y := by unfold dec; rw [es, eK, eX, eY]
  rw [hres]
  have HE := hide (And.intro es (And.intro eK (And.intro eX eY)))
  have HL := hide (And.intro ls (And.intro lK (And.intro lX lY)))
  clear es eK eX eY ls lK lX lY hres
  obtain ⟨W1, hW1, hC, hB1⟩ : ∃ W1, w.alloc (.cells #[.pointer (some ⟨b, 0, none⟩)] 22) = W1 ∧ Cw W1 w.heap.size b W ∧ Below w.heap.size w W1 :=
    ⟨_, rfl, ⟨(Row.new w #[.pointer (some ⟨b, 0, none⟩)] 22).at' (j := 0) rfl, by simp, hR.alloc _, hW⟩, (Below.refl _ w).alloc (Nat.le_refl _) _⟩
  have HC := hide hC
  have HB1 := hide hB1
  have hp := hC.ptr
  clear hC hB1 hR hW
  go_enter Try.func9, Try.ntmps9
  go_wp2_with fail
  refine (takes_ok _ x _ hx).mono ?_
  rintro e w1 ⟨rfl, hw⟩
  obtain rfl := hw.symm
  go_wp2_with fail
  clear hW1 hp
  refine (squareOf_any x _ hx).mono ?_
  rintro e w2 ⟨rfl, hB⟩
  rw [HE.out.1]
  have HB2 := hide hB
  clear hB
  go_wp2_with fail
  refine (through_dN W s _ w.heap.size b HL.out.1 (HC.out.below HB2.out)).mono ?_
  rintro e w3 ⟨rfl, hB⟩
  rw [HE.out.2.2.1]
  have HB3 := hide (HB2.out.trans (hB.mono HB2.out.size))
  have HZ := hide (Row.newL w3 (bs (zr 16)) 40)
  obtain ⟨W4, hW4, m1, m2⟩ : ∃ V, (w3.alloc (.cells #[.int .u8 0, .int .u8 0, .int .u8 0, .int .u8 0, .int .u8 0, .int .u8 0, .int .u8 0, .int .u8 0, .int .u8 0, .int .u8 0, .int .u8 0, .int .u8 0, .int .u8 0, .int .u8 0, .int .u8 0, .int .u8 0] 40)).setCells w3.heap.size 0 (bs X) = V ∧ Row V w3.heap.size 0 (bs X) ∧ Below W1.heap.size W1 V :=
    ⟨_, rfl, Row.made w3 (bs (zr 16)) _ _ (by rw [bs_length, bs_length, HL.out.2.2.1, zr_length]), below_made HB3.out HB3.out.size _ _ _⟩
  have HM := hide (And.intro m1.drew m2.drew)
  clear hB m1 m2 HB2
  go_wp2_with (refine wpList_storeR (op := ⟨none, _, _, _, _, _⟩) rfl 40 (.tmp 7) (.tmp 17) rfl rfl (vs := bs X) rfl HZ.out (by rw [bs_length, bs_length, HL.out.2.2.1, zr_length]) (by rw [bs_length, HL.out.2.2.1]; kernel_rfl) (fun v hv => bs_one hv) ?_; rw [hW4])
  clear hW4 HZ
  refine wp_region_ord (fun w9 => Row w9 w3.heap.size 0 (bs X) ∧ w9.cell? ⟨w.heap.size, 0, none⟩ = some (.pointer (some ⟨b, 0, none⟩))) 5 [(0, some false), (1, some false), (2, none), (3, none), (4, none), (5, none), (6, none)] (by kernel_rfl) (by kernel_rfl) (fun _ _ _ _ h => h) ⟨HM.out.1, (HC.out.below HM.out.2).ptr⟩ ?_
  refine ord_load (o := ⟨some 18, _, _, _, _, _⟩) 40 (.tmp 7) rfl rfl (by kernel_rfl) rfl _ (fun w9 h9 => h9.1.cell) Try.underlying40 rfl (by rw [bs_length, HL.out.2.2.1]; kernel_rfl) ?_
  simp only [Act.put, List.setIfInBounds_toArray, List.set_cons_zero, List.set_cons_succ]
  refine ord_heldE (o := ⟨some 19, _, _, _, _, _⟩) rfl (by kernel_rfl) ⟨_, fun w9 h9 => by (obtain ⟨q1, q2⟩ := h9; go_simp; try rfl), ?_⟩
  simp only [Act.put, List.setIfInBounds_toArray, List.set_cons_zero, List.set_cons_succ]
  refine ord_go rfl (fun K9 hK => ?_)
  go_simp
  go_wp2_with fail
  refine (aKey_any W 0 _ b HC.out.len (by decide) (HC.out.below HM.out.2).row).mono ?_
  rintro e w5 ⟨rfl, hB⟩
  rw [HE.out.2.1]
  have HM5 := hide (show Row w5 w3.heap.size 0 (bs X) ∧ Below W1.heap.size W1 w5 from ⟨HM.out.1.below hB HM.out.1.lt, HM.out.2.trans (hB.mono HM.out.2.size)⟩)
  clear hB
  dsimp only
  refine hK.out _ _ (fun _ => ⟨HM5.out.1, (HC.out.below HM5.out.2).ptr⟩) ?_
  clear hK K9
  refine ord_go rfl (fun K9 hK => ?_)
  go_simp
  go_wp2_with fail
  refine (sqComb_any X K _ HL.out.2.2.1 HL.out.2.1).mono ?_
  rintro e w6 ⟨rfl, hB⟩
  rw [HE.out.2.2.2]
  have HM6 := hide (show Row w6 w3.heap.size 0 (bs X) ∧ Below W1.heap.size W1 w6 from ⟨HM5.out.1.below hB HM5.out.1.lt, HM5.out.2.trans (hB.mono HM5.out.2.size)⟩)
  clear hB
  dsimp only
  refine hK.out _ _ (fun _ => ⟨HM6.out.1, (HC.out.below HM6.out.2).ptr⟩) ?_
  clear hK K9
  refine ord_go rfl (fun K9 hK => ?_)
  go_simp
  go_wp2_with fail
  refine (sqText_any Y _ HL.out.2.2.2).mono ?_
  rintro e w7 ⟨rfl, hB⟩
  skip
  have HM7 := hide (show Row w7 w3.heap.size 0 (bs X) ∧ Below W1.heap.size W1 w7 from ⟨HM6.out.1.below hB HM6.out.1.lt, HM6.out.2.trans (hB.mono HM6.out.2.size)⟩)
  clear hB
  dsimp only
  refine hK.out _ _ (fun _ => ⟨HM7.out.1, (HC.out.below HM7.out.2).ptr⟩) ?_
  clear hK K9
  refine ord_go rfl (fun K9 hK => ?_)
  go_simp
  skip
  refine hK.out _ _ (fun h => by cases h) ?_
  clear hK K9
  refine ord_go rfl (fun K9 hK => ?_)
  go_simp
  skip
  refine hK.out _ _ (fun h => by cases h) ?_
  clear hK K9
  refine ord_end ?_
  have HB5 := hide (HB1.out.trans (HM7.out.2.mono HB1.out.size))
  go_wp2_with fail
  exact bodyPost_ret (v := .tuple #[.string ⟨Y.toArray⟩, .int .i64 0]) (by simp [results, Try.results9, go_sem]) rfl ⟨rfl, HB5.out⟩
end Go.Proofs.Ytllhnbnddcghoaa
