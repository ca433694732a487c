/- Add to a hash of SHA-256, walked. For a hash and bytes that have together fewer than 2 to the power of 61 bytes. -/
import Derived.Test.YtdcmjmmfclhfbaaSNew
import Derived.Test.YtdcmjmmfclhfbaaOrdR
namespace Go.Proofs.Ytdcmjmmfclhfbaa
open Go.RowKit Bk
set_option linter.unusedVariables false
set_option linter.unusedSimpArgs false

theorem row_part {w : World} {b o : Nat} {B : List UInt8} (h : Row w b o (bs B)) (t k : Nat) (ht : t + k ≤ B.length) : Row w b (o + t) (bs ((B.drop t).take k)) := by
  have e : B = B.take t ++ ((B.drop t).take k ++ B.drop (t + k)) := by
    rw [← List.drop_drop, List.take_append_drop, List.take_append_drop]
  rw [e, bs_app, bs_app] at h
  have l1 : (bs (B.take t)).length = t := by rw [bs_length, List.length_take]; omega
  have h2 := h.right
  rw [l1] at h2
  exact h2.left
theorem sst_take (K h : List Nat) (L : List UInt8) (c q : Nat) (hq : 64 * q ≤ c) (hc : c ≤ L.length) : sst K h (L.take c) q = sst K h L q := by
  have k := sst_app K h (L.take c) (L.drop c) q (by rw [List.length_take]; omega)
  rw [List.take_append_drop] at k
  exact k.symm
/-- A block that is filled up further. -/
theorem blk_more {L B : List UInt8} {c t q k : Nat} (hc : c ≤ L.length) (e : c = 64 * q + t) (hB : B.take t = (L.take c).drop (64 * q)) : B.take t ++ ((L.drop c).take k ++ B.drop (t + k)) = (L.drop (64 * q)).take (t + k) ++ B.drop (t + k) := by
  rw [hB, List.drop_take, show c - 64 * q = t by omega, List.take_add, List.drop_drop, ← e, List.append_assoc]
theorem blk_bnums (l : List UInt8) : bnums (l.take 64) = bnums l := by
  apply bnums_ext
  intro j hj
  simp [by', List.getD_eq_getElem?_getD, List.getElem?_take, hj]
/-- The block is full: it is taken in. -/
theorem Ss.full {w : World} {b : Nat} {L B : List UInt8} {c q : Nat} (hc : c ≤ L.length) (e : c = 64 * (q + 1)) (h : Sm w b (sst skc siv L (q + 1)) skc B c) : Ss w b (L.take c) := by
  have hl : (L.take c).length = c := by rw [List.length_take]; omega
  refine ⟨B, ?_, ?_⟩
  · rw [hl, show c % 64 = 0 by omega, show c / 64 = q + 1 by omega, List.take_zero, ← e, List.drop_of_length_le (by omega)]
  · rw [hl, show c / 64 = q + 1 by omega, sst_take skc siv L c (q + 1) (by omega) hc]
    exact h
theorem Ss.part {w : World} {b : Nat} {L B : List UInt8} {c q t : Nat} (hc : c ≤ L.length) (e : c = 64 * q + t) (ht : t < 64) (hB : B.take t = (L.drop (64 * q)).take t) (h : Sm w b (sst skc siv L q) skc B c) : Ss w b (L.take c) := by
  have hl : (L.take c).length = c := by rw [List.length_take]; omega
  refine ⟨B, ?_, ?_⟩
  · rw [hl, show c % 64 = t by omega, show c / 64 = q by omega, hB, List.drop_take, show c - 64 * q = t by omega]
  · rw [hl, show c / 64 = q by omega, sst_take skc siv L c q (by omega) hc]
    exact h


set_option maxRecDepth 100000 in
set_option maxHeartbeats 16000000 in
theorem sadd_any {w : World} {b : Nat} {l : List UInt8} (s : ByteArray) (H : Ss w b l) (hl : l.length + s.size < 2305843009213693952) :
    Calls Try.prog 24 #[.pointer (some ⟨b, 0, none⟩), .string s] w fun e w' => e = .returned (.int .i64 0) ∧ Ss w' b (l ++ sb s) ∧ Bt b w w' := by
  obtain ⟨L, eL⟩ : ∃ L, l ++ sb s = L := ⟨_, rfl⟩
  have lenL : L.length = l.length + s.size := by rw [← eL, List.length_append, sb_length]
  have hx0 : sb s = L.drop l.length := by rw [← eL, List.drop_left]
  have hH : Ss w b (L.take l.length) := by rw [← eL, List.take_left]; exact H
  rw [eL]
  rw [← lenL] at hl
  obtain ⟨c0, ec0⟩ : ∃ c0, l.length = c0 := ⟨_, rfl⟩
  rw [ec0] at hx0 hH lenL
  have HX := hide hx0
  have HH := hide hH
  have HL := hide (And.intro lenL hl)
  clear eL hx0 hH ec0 H lenL hl
  go_enter Try.func24, Try.ntmps24
  go_wp2_with fail
  go_loopg [1, 5, 6] s.size (fun g v _ _ wr => ∃ (c : Nat) (x : ByteArray), x.size = g ∧ c + g = L.length ∧ v = .string x ∧ sb x = L.drop c ∧ Ss wr b (L.take c) ∧ Bt b w wr)
  case atStart => exact ⟨c0, s, rfl, by have := HL.out; omega, rfl, HX.out, HH.out, Bt.refl _ _⟩
  case round =>
    obtain ⟨c, x, rfl, hcx, rfl, hx, hH, hBt⟩ := hrel
    have hll := HL.out.2
    clear HX HH HL
    have hcL : c ≤ L.length := by omega
    by_cases hx0 : x.size = 0
    · have hxI : ¬ ((x.size : Int) > 0) := by omega
      have hcl : c = L.length := by omega
      rw [hcl, List.take_length] at hH
      have HH := hide hH
      have HB := hide hBt
      clear hcx hx hcL hx0 hcl hH hBt hll
      go_wp2_with fail
      go_ret
      exact ⟨rfl, HH.out, HB.out⟩
    · have hxI : (x.size : Int) > 0 := by omega
      have hxI2 : (0 : Int) < (x.size : Int) := by omega
      obtain ⟨B, eB, hM⟩ := hH.ex
      have hl : (L.take c).length = c := by rw [List.length_take]; omega
      rw [hl] at eB hM
      obtain ⟨q, eq⟩ : ∃ q, c / 64 = q := ⟨_, rfl⟩
      obtain ⟨t, et⟩ : ∃ t, c % 64 = t := ⟨_, rfl⟩
      have ht : t < 64 := by omega
      have hc : c = 64 * q + t := by omega
      rw [eq, et] at eB
      rw [eq, sst_take skc siv L c q (by omega) hcL] at hM
      obtain ⟨N, eN⟩ : ∃ N, sst skc siv L q = N := ⟨_, rfl⟩
      have nN : N.length = 8 := eN ▸ sst_length siv_length _ _ _
      have lN : Lt N := eN ▸ sst_lt siv_length siv_lt _ _ _
      rw [eN] at hM
      obtain ⟨k, ek⟩ : ∃ k, Nat.min x.size (64 - t) = k := ⟨_, rfl⟩
      have hk1 : k ≤ x.size := ek ▸ Nat.min_le_left _ _
      have hk2 : t + k ≤ 64 := by have : k ≤ 64 - t := ek ▸ Nat.min_le_right _ _; omega
      have hk0 : 0 < k := by rw [← ek]; exact Nat.lt_min.2 ⟨by omega, by omega⟩
      have hor : k = x.size ∨ t + k = 64 := by
        rcases Nat.le_total x.size (64 - t) with h | h
        · left; rw [← ek]; exact Nat.min_eq_left h
        · right; rw [← ek]; have : Nat.min x.size (64 - t) = 64 - t := Nat.min_eq_right h; omega
      have hxt : (sb x).take k = (L.drop c).take k := by rw [hx]
      have hxl : ((sb x).take k).length = k := by rw [List.length_take, sb_length]; omega
      have hpart := row_part hM.ry t k (by rw [hM.nB]; exact hk2)
      have hpl : (bs ((B.drop t).take k)).length = k := by rw [bs_length, List.length_take, List.length_drop, hM.nB]; omega
      have hM1 := hM.putb t ((sb x).take k) (by rw [hxl]; exact hk2)
      rw [hxl, hxt, blk_more hcL hc eB] at hM1
      obtain ⟨F, eF⟩ : ∃ F, (L.drop (64 * q)).take (t + k) ++ B.drop (t + k) = F := ⟨_, rfl⟩
      rw [eF] at hM1
      have lF : F.length = 64 := hM1.nB
      have hFt : F.take (t + k) = (L.drop (64 * q)).take (t + k) := by
        rw [← eF]
        apply List.take_left'
        rw [List.length_take, List.length_drop]; omega
      obtain ⟨c2, ec2⟩ : ∃ c2, c + k = c2 := ⟨_, rfl⟩
      have hc2 : c2 ≤ L.length := by omega
      obtain ⟨W1, hW1, h1, hB1⟩ : ∃ W, wr.setCells b (72 + t) (bs ((L.drop c).take k)) = W ∧ Sm W b N skc F c ∧ Bt b w W := ⟨_, rfl, hM1, hBt.setCells _ _⟩
      have d1 := h1.rl.cell 0 _ rfl
      have e1 := h1.rl.free 0 (by simp)
      obtain ⟨W2, hW2, h2, hB2⟩ : ∃ W, W1.setCell ⟨b, 136, none⟩ (.int .u64 (c2 : Int)) = W ∧ Sm W b N skc F c2 ∧ Bt b w W := ⟨_, rfl, h1.setl c2, hB1.setCell _ _⟩
      have d2 : W2.cell? ⟨b, 136, none⟩ = some (.int .u64 (c2 : Int)) := h2.rl.cell 0 _ rfl
      have d0 := hM.rl.cell 0 _ rfl
      have m1 : (c : Int) % 64 = (t : Int) := by omega
      have m2 : Int.tmod (c : Int) 64 = (t : Int) := by rw [Int.tmod_eq_emod_of_nonneg (by omega)]; exact m1
      have v1 : IntKind.u64.wrap (k : Int) = (k : Int) := IntWalk.u64_in _ (by omega)
      have v1' : (k : Int) % 18446744073709551616 = (k : Int) := by omega
      have v2 : IntKind.u64.wrap ((c : Int) + (k : Int)) = (c2 : Int) := by rw [IntWalk.u64_in _ (by omega)]; omega
      have v2' : ((c : Int) + (k : Int)) % 18446744073709551616 = (c2 : Int) := by omega
      have p1 : (t : Int) ≤ 64 := by omega
      have p2 : ¬ (64 = t) := by omega
      have p3 : (k : Int) ≤ (x.size : Int) := by omega
      have p4 : t ≤ 64 := by omega
      have hx2 : sb (x.extract k x.size) = L.drop c2 := by
        rw [sb_extract, hx, List.drop_drop, ec2]
        apply List.take_of_length_le
        rw [List.length_drop, ← sb_length, hx, List.length_drop]; omega
      have hxs2 : (x.extract k x.size).size = L.length - c2 := by rw [← sb_length, hx2, List.length_drop]
      have HLL := hide hll
      have HX2 := hide (And.intro hx2 hxs2)
      have HP := hide hpart
      have H2 := hide h2
      have HB2 := hide hB2
      have LN := hide lN
      have HFT := hide hFt
      have HXT := hide hxt
      have HN := hide eN
      have HK := hide ek
      have HC := hide (show c = 64 * q + t ∧ c + k = c2 ∧ c2 ≤ L.length ∧ t < 64 ∧ 0 < k ∧ k ≤ x.size ∧ c + x.size = L.length ∧ t + k ≤ 64 ∧ (k = x.size ∨ t + k = 64) by omega)
      have HPL := hide hpl
      clear hll hx hH hBt hcL hx0 eB hM hl eq et hc eN lN hk1 hk2 hk0 hxt hxl hpart hM1 eF hFt h1 hB1 h2 hB2 hx2 hxs2 hcx ek hor ec2 hc2 hpl ht
      by_cases hz : t + k = 64
      · have m3 : ((c2 : Int) % 64 == 0) = true := by rw [beq_iff_eq]; have := HC.out; omega
        have hc2 : c2 = 64 * (q + 1) := by have := HC.out; omega
        have hFF : F = (L.drop (64 * q)).take 64 := by
          have h9 := HFT.out
          rw [hz, ← lF, List.take_length] at h9
          rw [← lF]; exact h9
        have hFI : scmp skc N (bnums F) = sst skc siv L (q + 1) := by rw [hFF, blk_bnums, ← HN.out]; rfl
        obtain ⟨G, eG⟩ : ∃ G, sst skc siv L (q + 1) = G := ⟨_, rfl⟩
        rw [eG] at hFI
        have nG : G.length = 8 := eG ▸ sst_length siv_length _ _ _
        obtain ⟨K, eK⟩ : ∃ K, skc = K := ⟨_, rfl⟩
        have nK : K.length = 64 := eK ▸ skc_length
        have lK : Lt K := eK ▸ skc_lt
        have h2 := H2.out
        rw [eK] at hFI h2
        replace H2 := hide h2
        have HEK := hide eK
        have LK := hide lK
        clear h2 eK lK
        have HFI := hide hFI
        have HG := hide eG
        have HC2 := hide hc2
        clear hz hc2 hFF hFI eG
        go_wp2_with (refine wpList_copyS (op := ⟨some 23, _, _, _, _, _⟩) rfl (.tmp 21) (.tmp 22) 29 9 rfl 5 Try.underlying29 (by kernel_rfl) rfl rfl HK.out HP.out HPL.out ?_; rw [HXT.out, hW1])
        clear hW1 hW2 d0 d1 d2 e1 m1 m2 m3 v1 v1' v2 v2'
        refine wp_region_ord (fun w9 => Row w9 b 0 (us N) ∧ Row w9 b 8 (us K) ∧ Row w9 b 72 (bs F)) 16 [(0, some true), (1, some true), (2, some true), (3, some true), (4, some false), (5, some true), (6, some true), (7, some true), (8, some false), (9, some true), (10, some true), (11, some true), (12, some false), (13, none), (14, some true), (15, some true), (16, none)] (by kernel_rfl) (by kernel_rfl) (fun _ _ _ _ h => h) ⟨H2.out.rn.drew, H2.out.rk.drew, H2.out.ry.drew⟩ ?_
        refine ord_pureE (o := ⟨some 42, _, _, _, _, _⟩) rfl (by kernel_rfl) ⟨_, fun w9 => by (go_simp; try rfl), ?_⟩
        simp only [Act.put, List.setIfInBounds_toArray, List.set_cons_zero, List.set_cons_succ]
        refine ord_pureE (o := ⟨some 43, _, _, _, _, _⟩) rfl (by kernel_rfl) ⟨_, fun w9 => by (go_simp; try rfl), ?_⟩
        simp only [Act.put, List.setIfInBounds_toArray, List.set_cons_zero, List.set_cons_succ]
        refine ord_pureE (o := ⟨some 44, _, _, _, _, _⟩) rfl (by kernel_rfl) ⟨_, fun w9 => by (go_simp; try rfl), ?_⟩
        simp only [Act.put, List.setIfInBounds_toArray, List.set_cons_zero, List.set_cons_succ]
        refine ord_pureE (o := ⟨some 45, _, _, _, _, _⟩) rfl (by kernel_rfl) ⟨_, fun w9 => by (go_simp; try rfl), ?_⟩
        simp only [Act.put, List.setIfInBounds_toArray, List.set_cons_zero, List.set_cons_succ]
        refine ord_load (o := ⟨some 46, _, _, _, _, _⟩) 52 (.tmp 45) rfl rfl (by kernel_rfl) rfl _ (fun w9 h9 => h9.1.cell) Try.underlying52 rfl (by rw [us_length, nN]; kernel_rfl) ?_
        simp only [Act.put, List.setIfInBounds_toArray, List.set_cons_zero, List.set_cons_succ]
        refine ord_pureE (o := ⟨some 47, _, _, _, _, _⟩) rfl (by kernel_rfl) ⟨_, fun w9 => by (go_simp; try rfl), ?_⟩
        simp only [Act.put, List.setIfInBounds_toArray, List.set_cons_zero, List.set_cons_succ]
        refine ord_pureE (o := ⟨some 48, _, _, _, _, _⟩) rfl (by kernel_rfl) ⟨_, fun w9 => by (go_simp; try rfl), ?_⟩
        simp only [Act.put, List.setIfInBounds_toArray, List.set_cons_zero, List.set_cons_succ]
        refine ord_pureE (o := ⟨some 49, _, _, _, _, _⟩) rfl (by kernel_rfl) ⟨_, fun w9 => by (go_simp; try rfl), ?_⟩
        simp only [Act.put, List.setIfInBounds_toArray, List.set_cons_zero, List.set_cons_succ]
        refine ord_load (o := ⟨some 50, _, _, _, _, _⟩) 53 (.tmp 49) rfl rfl (by kernel_rfl) rfl _ (fun w9 h9 => h9.2.1.cell) Try.underlying53 rfl (by rw [us_length, nK]; kernel_rfl) ?_
        simp only [Act.put, List.setIfInBounds_toArray, List.set_cons_zero, List.set_cons_succ]
        refine ord_pureE (o := ⟨some 51, _, _, _, _, _⟩) rfl (by kernel_rfl) ⟨_, fun w9 => by (go_simp; try rfl), ?_⟩
        simp only [Act.put, List.setIfInBounds_toArray, List.set_cons_zero, List.set_cons_succ]
        refine ord_pureE (o := ⟨some 52, _, _, _, _, _⟩) rfl (by kernel_rfl) ⟨_, fun w9 => by (go_simp; try rfl), ?_⟩
        simp only [Act.put, List.setIfInBounds_toArray, List.set_cons_zero, List.set_cons_succ]
        refine ord_pureE (o := ⟨some 53, _, _, _, _, _⟩) rfl (by kernel_rfl) ⟨_, fun w9 => by (go_simp; try rfl), ?_⟩
        simp only [Act.put, List.setIfInBounds_toArray, List.set_cons_zero, List.set_cons_succ]
        refine ord_load (o := ⟨some 54, _, _, _, _, _⟩) 54 (.tmp 53) rfl rfl (by kernel_rfl) rfl _ (fun w9 h9 => h9.2.2.cell) Try.underlying54 rfl (by rw [bs_length, lF]; kernel_rfl) ?_
        simp only [Act.put, List.setIfInBounds_toArray, List.set_cons_zero, List.set_cons_succ]
        refine ord_go rfl (fun K9 hK => ?_)
        go_simp
        go_wp2_with fail
        refine (safter_any N K F _ nN LN.out nK LK.out lF).mono ?_
        rintro e w5 ⟨rfl, hB5⟩
        rw [HFI.out]
        dsimp only
        replace hB5 : Below W2.heap.size W2 w5 := (Below.refl _ W2).drew.trans hB5
        have h5 := H2.out.below hB5 H2.out.lt
        have H6 := hide (And.intro h5 (HB2.out.trans (Bt.of_below hB5)))
        clear hB5 h5
        refine hK.out _ _ (fun _ => ⟨H6.out.1.rn, H6.out.1.rk, H6.out.1.ry⟩) ?_
        clear hK K9
        refine ord_pureE (o := ⟨some 56, _, _, _, _, _⟩) rfl (by kernel_rfl) ⟨_, fun w9 => by (go_simp; try rfl), ?_⟩
        simp only [Act.put, List.setIfInBounds_toArray, List.set_cons_zero, List.set_cons_succ]
        refine ord_pureE (o := ⟨some 57, _, _, _, _, _⟩) rfl (by kernel_rfl) ⟨_, fun w9 => by (go_simp; try rfl), ?_⟩
        simp only [Act.put, List.setIfInBounds_toArray, List.set_cons_zero, List.set_cons_succ]
        refine ord_storeR (o := ⟨none, _, _, _, _, _⟩) rfl rfl rfl 52 (.tmp 57) (.tmp 55) rfl rfl (cs := us N) (vs := us G) rfl H6.out.1.rn (by rw [us_length, us_length, nG, nN]) (by rw [us_length, nG]; kernel_rfl) (fun v hv => us_one hv) (fun h => by cases h) ?_
        refine ord_end ?_
        obtain ⟨W7, hW7, h7, hB7⟩ : ∃ W, w5.setCells b 0 (us G) = W ∧ Sm W b G K F c2 ∧ Bt b w W := ⟨_, rfl, H6.out.1.putn G nG, H6.out.2.setCells _ _⟩
        rw [hW7]
        rw [← HG.out, ← HEK.out] at h7
        have h8 := Ss.full HC.out.2.2.1 HC2.out h7
        have H8 := hide h8
        have HB8 := hide hB7
        clear h7 h8 hB7 hW7
        go_wp2_with fail
        go_roundg (x.extract k x.size).size
        case measure => have := HX2.out.2; have := HC.out; omega
        case rel => exact ⟨c2, x.extract k x.size, rfl, by have := HX2.out.2; have := HC.out; omega, rfl, HX2.out.1, H8.out, HB8.out⟩
      · have m3 : ((c2 : Int) % 64 == 0) = false := by rw [beq_eq_false_iff_ne]; have := HC.out; omega
        have h8 : Ss W2 b (L.take c2) := Ss.part (t := t + k) HC.out.2.2.1 (by have := HC.out; omega) (by have := HC.out; omega) HFT.out (by rw [HN.out]; exact H2.out)
        have H8 := hide h8
        clear hz h8
        go_wp2_with (refine wpList_copyS (op := ⟨some 23, _, _, _, _, _⟩) rfl (.tmp 21) (.tmp 22) 29 9 rfl 5 Try.underlying29 (by kernel_rfl) rfl rfl HK.out HP.out HPL.out ?_; rw [HXT.out, hW1])
        go_roundg (x.extract k x.size).size
        case measure => have := HX2.out.2; have := HC.out; omega
        case rel => exact ⟨c2, x.extract k x.size, rfl, by have := HX2.out.2; have := HC.out; omega, rfl, HX2.out.1, H8.out, HB2.out⟩
end Go.Proofs.Ytdcmjmmfclhfbaa

