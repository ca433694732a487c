/- The document's mix, walked: four numbers of sixteen are mixed where they stand. For four unlike places. -/
import Derived.Test.YtjdgaolailfplaaRfFirst
namespace Go.Proofs.Ytjdgaolailfplaa
open Go.RowKit Bk
set_option linter.unusedVariables false
set_option linter.unusedSimpArgs false

theorem adw (p q : Nat) : IntKind.u32.wrap ((p : Int) + (q : Int)) = ((ad p q : Nat) : Int) := by rw [IntKind.wrap_u32]; exact ad_int p q
theorem ad3 (a b x : Nat) : ad (ad a b) x = ad a (ad b x) := by unfold ad; omega
theorem at_set_eq {l : List Nat} {i x v : Nat} (h : i < l.length) (e : x = v) : at' (l.set i x) i = v := by rw [at_set _ _ _ _ h, if_pos rfl, e]
theorem at_set_ne {l : List Nat} {i j x v : Nat} (hne : j ≠ i) (h : i < l.length) (e : at' l j = v) : at' (l.set i x) j = v := by rw [at_set _ _ _ _ h, if_neg hne, e]
theorem mx_eight (V : List Nat) (a b c d A1 D1 C1 B1 A2 D2 C2 B2 : Nat) (ha : a < V.length) (hb : b < V.length) (hc : c < V.length) (hd : d < V.length) (ab : a ≠ b) (ac : a ≠ c) (ad' : a ≠ d) (bc : b ≠ c) (bd : b ≠ d) (cd : c ≠ d) :
    (((((((V.set a A1).set d D1).set c C1).set b B1).set a A2).set d D2).set c C2).set b B2 = (((V.set a A2).set b B2).set c C2).set d D2 := by
  apply at_ext (by simp)
  intro j _
  simp only [at_set, List.length_set, ha, hb, hc, hd]
  by_cases e1 : j = a
  · subst e1; simp [ab, ac, ad']
  · by_cases e2 : j = b
    · subst e2; simp [bc, bd, e1]
    · by_cases e3 : j = c
      · subst e3; simp [cd, e1, e2]
      · by_cases e4 : j = d
        · subst e4; simp [e1, e2, e3]
        · simp [e1, e2, e3, e4]

set_option maxRecDepth 100000 in
set_option maxHeartbeats 8000000 in
theorem rfmix_any {w : World} {g cap : Nat} {V : List Nat} (a b c d x y : Nat) (hR : Row w g 0 (us V)) (hL : V.length = 16) (lV : Lt V) (ha : a < 16) (hb : b < 16) (hc : c < 16) (hd : d < 16) (ab : a ≠ b) (ac : a ≠ c) (ad' : a ≠ d) (bc : b ≠ c) (bd : b ≠ d) (cd : c ≠ d) :
    Calls Try.prog 32 #[.slice (some ⟨g, 0, none⟩) 16 cap, .int .i64 a, .int .i64 b, .int .i64 c, .int .i64 d, .int .u32 x, .int .u32 y] w fun e w' => e = .returned (.tuple #[]) ∧ Row w' g 0 (us (mx V a b c d x y)) ∧ Bt g w w' := by
  obtain ⟨A, eA⟩ : ∃ A, at' V a = A := ⟨_, rfl⟩
  obtain ⟨B, eB⟩ : ∃ B, at' V b = B := ⟨_, rfl⟩
  obtain ⟨C, eC⟩ : ∃ C, at' V c = C := ⟨_, rfl⟩
  obtain ⟨D, eD⟩ : ∃ D, at' V d = D := ⟨_, rfl⟩
  have lb : B < 4294967296 := eB ▸ lV b
  have ld : D < 4294967296 := eD ▸ lV d
  obtain ⟨a1, ea1⟩ : ∃ z, ad (ad A B) x = z := ⟨_, rfl⟩
  have la1 : a1 < 4294967296 := ea1 ▸ ad_lt _ _
  obtain ⟨d1, ed1⟩ : ∃ z, rr 65536 65536 (D ^^^ a1) = z := ⟨_, rfl⟩
  have ld1 : d1 < 4294967296 := ed1 ▸ rr_lt (xr_lt ld la1)
  obtain ⟨c1, ec1⟩ : ∃ z, ad C d1 = z := ⟨_, rfl⟩
  have lc1 : c1 < 4294967296 := ec1 ▸ ad_lt _ _
  obtain ⟨b1, eb1⟩ : ∃ z, rr 1048576 4096 (B ^^^ c1) = z := ⟨_, rfl⟩
  have lb1 : b1 < 4294967296 := eb1 ▸ rr_lt (xr_lt lb lc1)
  obtain ⟨a2, ea2⟩ : ∃ z, ad (ad a1 b1) y = z := ⟨_, rfl⟩
  have la2 : a2 < 4294967296 := ea2 ▸ ad_lt _ _
  obtain ⟨d2, ed2⟩ : ∃ z, rr 16777216 256 (d1 ^^^ a2) = z := ⟨_, rfl⟩
  have ld2 : d2 < 4294967296 := ed2 ▸ rr_lt (xr_lt ld1 la2)
  obtain ⟨c2, ec2⟩ : ∃ z, ad c1 d2 = z := ⟨_, rfl⟩
  have lc2 : c2 < 4294967296 := ec2 ▸ ad_lt _ _
  obtain ⟨b2, eb2⟩ : ∃ z, rr 33554432 128 (b1 ^^^ c2) = z := ⟨_, rfl⟩
  have hm : (((((((V.set a a1).set d d1).set c c1).set b b1).set a a2).set d d2).set c c2).set b b2 = mx V a b c d x y := by
    rw [mx_eight V a b c d _ _ _ _ _ _ _ _ (by omega) (by omega) (by omega) (by omega) ab ac ad' bc bd cd]
    unfold mx
    rw [eA, eB, eC, eD]
    have q : mixN A B C D x y = ⟨a2, b2, c2, d2⟩ := by
      unfold mixN hf2 hf1
      simp only [← ad3, ea1, ed1, ec1, eb1, ea2, ed2, ec2, eb2]
    rw [q]
  have HM := hide hm
  have r1 := adw A B
  have r2 := adw (ad A B) x
  rw [ea1] at r2
  have r3 := xr_int ld la1
  have r4 := adw C d1
  rw [ec1] at r4
  have r5 := xr_int lb lc1
  have r6 := adw a1 b1
  have r7 := adw (ad a1 b1) y
  rw [ea2] at r7
  have r8 := xr_int ld1 la2
  have r9 := adw c1 d2
  rw [ec2] at r9
  have r10 := xr_int lb1 lc2
  have T1 := hide (xr_lt ld la1)
  have T2 := hide (xr_lt lb lc1)
  have T3 := hide (xr_lt ld1 la2)
  have T4 := hide (xr_lt lb1 lc2)
  clear hm ea1 ec1 ea2 ec2 la1 ld1 lc1 lb1 la2 ld2 lc2 lb ld lV
  have E1 := hide ed1
  have E2 := hide eb1
  have E3 := hide ed2
  have E4 := hide eb2
  clear ed1 eb1 ed2 eb2
  have aI : (a : Int) < 16 := by omega
  have bI : (b : Int) < 16 := by omega
  have cI : (c : Int) < 16 := by omega
  have dI : (d : Int) < 16 := by omega
  have HR0 := hide hR
  have HB0 := hide (Bt.refl g w)
  have VA0 := hide eA
  have VB0 := hide eB
  have VC0 := hide eC
  have VD0 := hide eD
  have HL0 := hide hL
  clear hR eA eB eC eD hL
  go_enter Try.func32, Try.ntmps32
  have hcA : w.cell? ⟨g, a, none⟩ = some (.int .u32 ((A : Nat) : Int)) := by have h9 := HR0.out.u0 a (by rw [HL0.out]; exact ha); rwa [VA0.out] at h9
  have hcB : w.cell? ⟨g, b, none⟩ = some (.int .u32 ((B : Nat) : Int)) := by have h9 := HR0.out.u0 b (by rw [HL0.out]; exact hb); rwa [VB0.out] at h9
  have hf : w.frozen? ⟨g, a, none⟩ = false := HR0.out.f0 a (by rw [us_length, HL0.out]; exact ha)
  obtain ⟨x1, hx1, HR1, HB1⟩ : ∃ W, (w.setCell ⟨g, a, none⟩ (.int .u32 ((a1 : Nat) : Int))).drew = W ∧ Hid (Row W g 0 (us (V.set a a1))) ∧ Hid (Bt g w W) := ⟨_, rfl, by rw [us_set]; exact (HR0.out.set0 (by rw [us_length, HL0.out]; exact ha) _).drew, (HB0.out.setCell _ _).drew⟩
  obtain ⟨V1, eV1⟩ : ∃ Z, V.set a a1 = Z := ⟨_, rfl⟩
  rw [eV1] at HR1
  have VA1 : Hid (at' V1 a = a1) := by rw [← eV1]; exact at_set_eq (by rw [HL0.out]; exact ha) rfl
  have VB1 : Hid (at' V1 b = B) := by rw [← eV1]; exact at_set_ne (ab.symm) (by rw [HL0.out]; exact ha) VB0.out
  have VC1 : Hid (at' V1 c = C) := by rw [← eV1]; exact at_set_ne (ac.symm) (by rw [HL0.out]; exact ha) VC0.out
  have VD1 : Hid (at' V1 d = D) := by rw [← eV1]; exact at_set_ne (ad'.symm) (by rw [HL0.out]; exact ha) VD0.out
  have HL1 : Hid (V1.length = 16) := by rw [← eV1, List.length_set]; exact HL0.out
  have EV1 := hide eV1
  clear eV1 HR0 HB0 VA0 VB0 VC0 VD0 HL0
  go_wp2_with fail
  refine region_tail 14 (by kernel_rfl) (by kernel_rfl) ?_
  simp only [List.take_succ_cons, List.take_zero, List.drop_succ_cons, List.drop_zero]
  repeat still_step
  refine wpStill_nil ?_
  go_wp2_with fail
  clear hcA hcB hf hx1
  have hcD : x1.cell? ⟨g, d, none⟩ = some (.int .u32 ((D : Nat) : Int)) := by have h9 := HR1.out.u0 d (by rw [HL1.out]; exact hd); rwa [VD1.out] at h9
  have hcA : x1.cell? ⟨g, a, none⟩ = some (.int .u32 ((a1 : Nat) : Int)) := by have h9 := HR1.out.u0 a (by rw [HL1.out]; exact ha); rwa [VA1.out] at h9
  have hf : x1.frozen? ⟨g, d, none⟩ = false := HR1.out.f0 d (by rw [us_length, HL1.out]; exact hd)
  obtain ⟨x2, hx2, HR2, HB2⟩ : ∃ W, (x1.setCell ⟨g, d, none⟩ (.int .u32 ((d1 : Nat) : Int))).drew = W ∧ Hid (Row W g 0 (us (V1.set d d1))) ∧ Hid (Bt g w W) := ⟨_, rfl, by rw [us_set]; exact (HR1.out.set0 (by rw [us_length, HL1.out]; exact hd) _).drew, (HB1.out.setCell _ _).drew⟩
  obtain ⟨V2, eV2⟩ : ∃ Z, V1.set d d1 = Z := ⟨_, rfl⟩
  rw [eV2] at HR2
  have VA2 : Hid (at' V2 a = a1) := by rw [← eV2]; exact at_set_ne (ad') (by rw [HL1.out]; exact hd) VA1.out
  have VB2 : Hid (at' V2 b = B) := by rw [← eV2]; exact at_set_ne (bd) (by rw [HL1.out]; exact hd) VB1.out
  have VC2 : Hid (at' V2 c = C) := by rw [← eV2]; exact at_set_ne (cd) (by rw [HL1.out]; exact hd) VC1.out
  have VD2 : Hid (at' V2 d = d1) := by rw [← eV2]; exact at_set_eq (by rw [HL1.out]; exact hd) rfl
  have HL2 : Hid (V2.length = 16) := by rw [← eV2, List.length_set]; exact HL1.out
  have EV2 := hide eV2
  clear eV2 HR1 HB1 VA1 VB1 VC1 VD1 HL1
  go_wp2_with fail
  refine region_tail 12 (by kernel_rfl) (by kernel_rfl) ?_
  simp only [List.take_succ_cons, List.take_zero, List.drop_succ_cons, List.drop_zero]
  repeat still_step
  still_call (rfturn16 _ _ T1.out)
  rw [E1.out]
  repeat still_step
  refine wpStill_nil ?_
  go_wp2_with fail
  clear hcD hcA hf hx2
  have hcC : x2.cell? ⟨g, c, none⟩ = some (.int .u32 ((C : Nat) : Int)) := by have h9 := HR2.out.u0 c (by rw [HL2.out]; exact hc); rwa [VC2.out] at h9
  have hcD : x2.cell? ⟨g, d, none⟩ = some (.int .u32 ((d1 : Nat) : Int)) := by have h9 := HR2.out.u0 d (by rw [HL2.out]; exact hd); rwa [VD2.out] at h9
  have hf : x2.frozen? ⟨g, c, none⟩ = false := HR2.out.f0 c (by rw [us_length, HL2.out]; exact hc)
  obtain ⟨x3, hx3, HR3, HB3⟩ : ∃ W, (x2.setCell ⟨g, c, none⟩ (.int .u32 ((c1 : Nat) : Int))).drew = W ∧ Hid (Row W g 0 (us (V2.set c c1))) ∧ Hid (Bt g w W) := ⟨_, rfl, by rw [us_set]; exact (HR2.out.set0 (by rw [us_length, HL2.out]; exact hc) _).drew, (HB2.out.setCell _ _).drew⟩
  obtain ⟨V3, eV3⟩ : ∃ Z, V2.set c c1 = Z := ⟨_, rfl⟩
  rw [eV3] at HR3
  have VA3 : Hid (at' V3 a = a1) := by rw [← eV3]; exact at_set_ne (ac) (by rw [HL2.out]; exact hc) VA2.out
  have VB3 : Hid (at' V3 b = B) := by rw [← eV3]; exact at_set_ne (bc) (by rw [HL2.out]; exact hc) VB2.out
  have VC3 : Hid (at' V3 c = c1) := by rw [← eV3]; exact at_set_eq (by rw [HL2.out]; exact hc) rfl
  have VD3 : Hid (at' V3 d = d1) := by rw [← eV3]; exact at_set_ne (cd.symm) (by rw [HL2.out]; exact hc) VD2.out
  have HL3 : Hid (V3.length = 16) := by rw [← eV3, List.length_set]; exact HL2.out
  have EV3 := hide eV3
  clear eV3 HR2 HB2 VA2 VB2 VC2 VD2 HL2
  go_wp2_with fail
  refine region_tail 12 (by kernel_rfl) (by kernel_rfl) ?_
  simp only [List.take_succ_cons, List.take_zero, List.drop_succ_cons, List.drop_zero]
  repeat still_step
  refine wpStill_nil ?_
  go_wp2_with fail
  clear hcC hcD hf hx3
  have hcB : x3.cell? ⟨g, b, none⟩ = some (.int .u32 ((B : Nat) : Int)) := by have h9 := HR3.out.u0 b (by rw [HL3.out]; exact hb); rwa [VB3.out] at h9
  have hcC : x3.cell? ⟨g, c, none⟩ = some (.int .u32 ((c1 : Nat) : Int)) := by have h9 := HR3.out.u0 c (by rw [HL3.out]; exact hc); rwa [VC3.out] at h9
  have hf : x3.frozen? ⟨g, b, none⟩ = false := HR3.out.f0 b (by rw [us_length, HL3.out]; exact hb)
  obtain ⟨x4, hx4, HR4, HB4⟩ : ∃ W, (x3.setCell ⟨g, b, none⟩ (.int .u32 ((b1 : Nat) : Int))).drew = W ∧ Hid (Row W g 0 (us (V3.set b b1))) ∧ Hid (Bt g w W) := ⟨_, rfl, by rw [us_set]; exact (HR3.out.set0 (by rw [us_length, HL3.out]; exact hb) _).drew, (HB3.out.setCell _ _).drew⟩
  obtain ⟨V4, eV4⟩ : ∃ Z, V3.set b b1 = Z := ⟨_, rfl⟩
  rw [eV4] at HR4
  have VA4 : Hid (at' V4 a = a1) := by rw [← eV4]; exact at_set_ne (ab) (by rw [HL3.out]; exact hb) VA3.out
  have VB4 : Hid (at' V4 b = b1) := by rw [← eV4]; exact at_set_eq (by rw [HL3.out]; exact hb) rfl
  have VC4 : Hid (at' V4 c = c1) := by rw [← eV4]; exact at_set_ne (bc.symm) (by rw [HL3.out]; exact hb) VC3.out
  have VD4 : Hid (at' V4 d = d1) := by rw [← eV4]; exact at_set_ne (bd.symm) (by rw [HL3.out]; exact hb) VD3.out
  have HL4 : Hid (V4.length = 16) := by rw [← eV4, List.length_set]; exact HL3.out
  have EV4 := hide eV4
  clear eV4 HR3 HB3 VA3 VB3 VC3 VD3 HL3
  go_wp2_with fail
  refine region_tail 12 (by kernel_rfl) (by kernel_rfl) ?_
  simp only [List.take_succ_cons, List.take_zero, List.drop_succ_cons, List.drop_zero]
  repeat still_step
  still_call (rfturn12 _ _ T2.out)
  rw [E2.out]
  repeat still_step
  refine wpStill_nil ?_
  go_wp2_with fail
  clear hcB hcC hf hx4
  have hcA : x4.cell? ⟨g, a, none⟩ = some (.int .u32 ((a1 : Nat) : Int)) := by have h9 := HR4.out.u0 a (by rw [HL4.out]; exact ha); rwa [VA4.out] at h9
  have hcB : x4.cell? ⟨g, b, none⟩ = some (.int .u32 ((b1 : Nat) : Int)) := by have h9 := HR4.out.u0 b (by rw [HL4.out]; exact hb); rwa [VB4.out] at h9
  have hf : x4.frozen? ⟨g, a, none⟩ = false := HR4.out.f0 a (by rw [us_length, HL4.out]; exact ha)
  obtain ⟨x5, hx5, HR5, HB5⟩ : ∃ W, (x4.setCell ⟨g, a, none⟩ (.int .u32 ((a2 : Nat) : Int))).drew = W ∧ Hid (Row W g 0 (us (V4.set a a2))) ∧ Hid (Bt g w W) := ⟨_, rfl, by rw [us_set]; exact (HR4.out.set0 (by rw [us_length, HL4.out]; exact ha) _).drew, (HB4.out.setCell _ _).drew⟩
  obtain ⟨V5, eV5⟩ : ∃ Z, V4.set a a2 = Z := ⟨_, rfl⟩
  rw [eV5] at HR5
  have VA5 : Hid (at' V5 a = a2) := by rw [← eV5]; exact at_set_eq (by rw [HL4.out]; exact ha) rfl
  have VB5 : Hid (at' V5 b = b1) := by rw [← eV5]; exact at_set_ne (ab.symm) (by rw [HL4.out]; exact ha) VB4.out
  have VC5 : Hid (at' V5 c = c1) := by rw [← eV5]; exact at_set_ne (ac.symm) (by rw [HL4.out]; exact ha) VC4.out
  have VD5 : Hid (at' V5 d = d1) := by rw [← eV5]; exact at_set_ne (ad'.symm) (by rw [HL4.out]; exact ha) VD4.out
  have HL5 : Hid (V5.length = 16) := by rw [← eV5, List.length_set]; exact HL4.out
  have EV5 := hide eV5
  clear eV5 HR4 HB4 VA4 VB4 VC4 VD4 HL4
  go_wp2_with fail
  refine region_tail 14 (by kernel_rfl) (by kernel_rfl) ?_
  simp only [List.take_succ_cons, List.take_zero, List.drop_succ_cons, List.drop_zero]
  repeat still_step
  refine wpStill_nil ?_
  go_wp2_with fail
  clear hcA hcB hf hx5
  have hcD : x5.cell? ⟨g, d, none⟩ = some (.int .u32 ((d1 : Nat) : Int)) := by have h9 := HR5.out.u0 d (by rw [HL5.out]; exact hd); rwa [VD5.out] at h9
  have hcA : x5.cell? ⟨g, a, none⟩ = some (.int .u32 ((a2 : Nat) : Int)) := by have h9 := HR5.out.u0 a (by rw [HL5.out]; exact ha); rwa [VA5.out] at h9
  have hf : x5.frozen? ⟨g, d, none⟩ = false := HR5.out.f0 d (by rw [us_length, HL5.out]; exact hd)
  obtain ⟨x6, hx6, HR6, HB6⟩ : ∃ W, (x5.setCell ⟨g, d, none⟩ (.int .u32 ((d2 : Nat) : Int))).drew = W ∧ Hid (Row W g 0 (us (V5.set d d2))) ∧ Hid (Bt g w W) := ⟨_, rfl, by rw [us_set]; exact (HR5.out.set0 (by rw [us_length, HL5.out]; exact hd) _).drew, (HB5.out.setCell _ _).drew⟩
  obtain ⟨V6, eV6⟩ : ∃ Z, V5.set d d2 = Z := ⟨_, rfl⟩
  rw [eV6] at HR6
  have VA6 : Hid (at' V6 a = a2) := by rw [← eV6]; exact at_set_ne (ad') (by rw [HL5.out]; exact hd) VA5.out
  have VB6 : Hid (at' V6 b = b1) := by rw [← eV6]; exact at_set_ne (bd) (by rw [HL5.out]; exact hd) VB5.out
  have VC6 : Hid (at' V6 c = c1) := by rw [← eV6]; exact at_set_ne (cd) (by rw [HL5.out]; exact hd) VC5.out
  have VD6 : Hid (at' V6 d = d2) := by rw [← eV6]; exact at_set_eq (by rw [HL5.out]; exact hd) rfl
  have HL6 : Hid (V6.length = 16) := by rw [← eV6, List.length_set]; exact HL5.out
  have EV6 := hide eV6
  clear eV6 HR5 HB5 VA5 VB5 VC5 VD5 HL5
  go_wp2_with fail
  refine region_tail 12 (by kernel_rfl) (by kernel_rfl) ?_
  simp only [List.take_succ_cons, List.take_zero, List.drop_succ_cons, List.drop_zero]
  repeat still_step
  still_call (rfturn8 _ _ T3.out)
  rw [E3.out]
  repeat still_step
  refine wpStill_nil ?_
  go_wp2_with fail
  clear hcD hcA hf hx6
  have hcC : x6.cell? ⟨g, c, none⟩ = some (.int .u32 ((c1 : Nat) : Int)) := by have h9 := HR6.out.u0 c (by rw [HL6.out]; exact hc); rwa [VC6.out] at h9
  have hcD : x6.cell? ⟨g, d, none⟩ = some (.int .u32 ((d2 : Nat) : Int)) := by have h9 := HR6.out.u0 d (by rw [HL6.out]; exact hd); rwa [VD6.out] at h9
  have hf : x6.frozen? ⟨g, c, none⟩ = false := HR6.out.f0 c (by rw [us_length, HL6.out]; exact hc)
  obtain ⟨x7, hx7, HR7, HB7⟩ : ∃ W, (x6.setCell ⟨g, c, none⟩ (.int .u32 ((c2 : Nat) : Int))).drew = W ∧ Hid (Row W g 0 (us (V6.set c c2))) ∧ Hid (Bt g w W) := ⟨_, rfl, by rw [us_set]; exact (HR6.out.set0 (by rw [us_length, HL6.out]; exact hc) _).drew, (HB6.out.setCell _ _).drew⟩
  obtain ⟨V7, eV7⟩ : ∃ Z, V6.set c c2 = Z := ⟨_, rfl⟩
  rw [eV7] at HR7
  have VA7 : Hid (at' V7 a = a2) := by rw [← eV7]; exact at_set_ne (ac) (by rw [HL6.out]; exact hc) VA6.out
  have VB7 : Hid (at' V7 b = b1) := by rw [← eV7]; exact at_set_ne (bc) (by rw [HL6.out]; exact hc) VB6.out
  have VC7 : Hid (at' V7 c = c2) := by rw [← eV7]; exact at_set_eq (by rw [HL6.out]; exact hc) rfl
  have VD7 : Hid (at' V7 d = d2) := by rw [← eV7]; exact at_set_ne (cd.symm) (by rw [HL6.out]; exact hc) VD6.out
  have HL7 : Hid (V7.length = 16) := by rw [← eV7, List.length_set]; exact HL6.out
  have EV7 := hide eV7
  clear eV7 HR6 HB6 VA6 VB6 VC6 VD6 HL6
  go_wp2_with fail
  refine region_tail 12 (by kernel_rfl) (by kernel_rfl) ?_
  simp only [List.take_succ_cons, List.take_zero, List.drop_succ_cons, List.drop_zero]
  repeat still_step
  refine wpStill_nil ?_
  go_wp2_with fail
  clear hcC hcD hf hx7
  have hcB : x7.cell? ⟨g, b, none⟩ = some (.int .u32 ((b1 : Nat) : Int)) := by have h9 := HR7.out.u0 b (by rw [HL7.out]; exact hb); rwa [VB7.out] at h9
  have hcC : x7.cell? ⟨g, c, none⟩ = some (.int .u32 ((c2 : Nat) : Int)) := by have h9 := HR7.out.u0 c (by rw [HL7.out]; exact hc); rwa [VC7.out] at h9
  have hf : x7.frozen? ⟨g, b, none⟩ = false := HR7.out.f0 b (by rw [us_length, HL7.out]; exact hb)
  obtain ⟨x8, hx8, HR8, HB8⟩ : ∃ W, (x7.setCell ⟨g, b, none⟩ (.int .u32 ((b2 : Nat) : Int))).drew = W ∧ Hid (Row W g 0 (us (V7.set b b2))) ∧ Hid (Bt g w W) := ⟨_, rfl, by rw [us_set]; exact (HR7.out.set0 (by rw [us_length, HL7.out]; exact hb) _).drew, (HB7.out.setCell _ _).drew⟩
  obtain ⟨V8, eV8⟩ : ∃ Z, V7.set b b2 = Z := ⟨_, rfl⟩
  rw [eV8] at HR8
  have VA8 : Hid (at' V8 a = a2) := by rw [← eV8]; exact at_set_ne (ab) (by rw [HL7.out]; exact hb) VA7.out
  have VB8 : Hid (at' V8 b = b2) := by rw [← eV8]; exact at_set_eq (by rw [HL7.out]; exact hb) rfl
  have VC8 : Hid (at' V8 c = c2) := by rw [← eV8]; exact at_set_ne (bc.symm) (by rw [HL7.out]; exact hb) VC7.out
  have VD8 : Hid (at' V8 d = d2) := by rw [← eV8]; exact at_set_ne (bd.symm) (by rw [HL7.out]; exact hb) VD7.out
  have HL8 : Hid (V8.length = 16) := by rw [← eV8, List.length_set]; exact HL7.out
  have EV8 := hide eV8
  clear eV8 HR7 HB7 VA7 VB7 VC7 VD7 HL7
  go_wp2_with fail
  refine region_tail 12 (by kernel_rfl) (by kernel_rfl) ?_
  simp only [List.take_succ_cons, List.take_zero, List.drop_succ_cons, List.drop_zero]
  repeat still_step
  still_call (rfturn7 _ _ T4.out)
  rw [E4.out]
  repeat still_step
  refine wpStill_nil ?_
  go_wp2_with fail
  clear hcB hcC hf hx8
  go_end0
  exact ⟨rfl, by rw [← HM.out, EV1.out, EV2.out, EV3.out, EV4.out, EV5.out, EV6.out, EV7.out, EV8.out]; exact HR8.out, HB8.out⟩
end Go.Proofs.Ytjdgaolailfplaa
