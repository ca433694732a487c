/- The first 64 primes, and a new hash, walked: its numbers are the bits of the primes' roots. No condition. -/
import Derived.Test.YtdcmjmmfclhfbaaSHash
namespace Go.Proofs.Ytdcmjmmfclhfbaa
open Go.RowKit Bk
set_option linter.unusedVariables false

def spr : List Nat := [2, 3, 5, 7, 11, 13, 17, 19, 23, 29, 31, 37, 41, 43, 47, 53, 59, 61, 67, 71, 73, 79, 83, 89, 97, 101, 103, 107, 109, 113, 127, 131, 137, 139, 149, 151, 157, 163, 167, 173, 179, 181, 191, 193, 197, 199, 211, 223, 227, 229, 233, 239, 241, 251, 257, 263, 269, 271, 277, 281, 283, 293, 307, 311]
theorem spr_length : spr.length = 64 := rfl
theorem spr_lt {j : Nat} (h : j < 64) : at' spr j < 4294967296 := by
  simpa using all_of (p := fun j => decide (at' spr j < 4294967296)) 64 (by decide +kernel) j h
theorem roots_sq {j : Nat} (h : j < 8) : rbits (sqb (at' spr j)) = at' siv j := by
  simpa using all_of (p := fun j => decide (rbits (sqb (at' spr j)) = at' siv j)) 8 (by decide +kernel) j h
theorem roots_cb {j : Nat} (h : j < 64) : rbits (cbb (at' spr j)) = at' skc j := by
  simpa using all_of (p := fun j => decide (rbits (cbb (at' spr j)) = at' skc j)) 64 (by decide +kernel) j h

/-- The first k of l, noughts behind. -/
def fupto (n : Nat) (l : List Nat) (k : Nat) : List Nat := tab n fun j => if j < k then at' l j else 0
theorem fupto_len (n : Nat) (l : List Nat) (k : Nat) : (fupto n l k).length = n := tab_length _ _
theorem fupto_all {n : Nat} {l : List Nat} (h : l.length = n) : fupto n l n = l := by
  have := at_tab l
  rw [h] at this
  exact (tab_ext fun j hj => if_pos hj).trans this
theorem fupto_zero (n : Nat) (l : List Nat) : fupto n l 0 = List.replicate n 0 := by
  refine List.eq_replicate_iff.2 ⟨fupto_len _ _ _, fun b hb => ?_⟩
  simp only [fupto, tab, List.mem_map] at hb
  obtain ⟨j, _, rfl⟩ := hb
  exact if_neg (by omega)
theorem fupto_succ (n : Nat) (l : List Nat) (k : Nat) (hk : k < n) : fupto n l (k + 1) = (fupto n l k).set k (at' l k) := by
  apply at_ext (by rw [fupto_len, List.length_set, fupto_len])
  intro j hj
  rw [fupto_len] at hj
  rw [at_set _ _ _ _ (by rw [fupto_len]; exact hk)]
  unfold fupto
  rw [tab_at _ _ _ hj, tab_at _ _ _ hj]
  by_cases e : j = k
  · rw [if_pos (by omega), if_pos e, e]
  · rw [if_neg e]
    by_cases e2 : j < k
    · rw [if_pos e2, if_pos (by omega)]
    · rw [if_neg e2, if_neg (by omega)]

set_option maxRecDepth 100000 in
set_option maxHeartbeats 4000000 in
theorem primes_any (w : World) : Calls Try.prog 29 #[] w fun e w' => e = .returned (.agg (uq spr).toArray) ∧ Below w.heap.size w w' := by
  have hz : (Try.prog.info? 58).map (fun i => (i.zero, i.size)) = some (some (.agg (uq (List.replicate 64 0)).toArray), 64) := by kernel_rfl
  have hR := Row.newL w (uq (List.replicate 64 0)) 58
  have hB : Below w.heap.size w (w.alloc (.cells (uq (List.replicate 64 0)).toArray 58)) := (Below.refl _ w).alloc (Nat.le_refl _) _
  obtain ⟨W, hW, HR, HB⟩ : ∃ W, w.alloc (.cells (uq (List.replicate 64 0)).toArray 58) = W ∧ Hid (Row W w.heap.size 0 (uq (List.replicate 64 0))) ∧ Hid (Below w.heap.size w W) := ⟨_, rfl, hR, hB⟩
  have hbt : Try.prog.built 58 [(0, .int .u64 2), (1, .int .u64 3), (2, .int .u64 5), (3, .int .u64 7), (4, .int .u64 11), (5, .int .u64 13), (6, .int .u64 17), (7, .int .u64 19), (8, .int .u64 23), (9, .int .u64 29), (10, .int .u64 31), (11, .int .u64 37), (12, .int .u64 41), (13, .int .u64 43), (14, .int .u64 47), (15, .int .u64 53), (16, .int .u64 59), (17, .int .u64 61), (18, .int .u64 67), (19, .int .u64 71), (20, .int .u64 73), (21, .int .u64 79), (22, .int .u64 83), (23, .int .u64 89), (24, .int .u64 97), (25, .int .u64 101), (26, .int .u64 103), (27, .int .u64 107), (28, .int .u64 109), (29, .int .u64 113), (30, .int .u64 127), (31, .int .u64 131), (32, .int .u64 137), (33, .int .u64 139), (34, .int .u64 149), (35, .int .u64 151), (36, .int .u64 157), (37, .int .u64 163), (38, .int .u64 167), (39, .int .u64 173), (40, .int .u64 179), (41, .int .u64 181), (42, .int .u64 191), (43, .int .u64 193), (44, .int .u64 197), (45, .int .u64 199), (46, .int .u64 211), (47, .int .u64 223), (48, .int .u64 227), (49, .int .u64 229), (50, .int .u64 233), (51, .int .u64 239), (52, .int .u64 241), (53, .int .u64 251), (54, .int .u64 257), (55, .int .u64 263), (56, .int .u64 269), (57, .int .u64 271), (58, .int .u64 277), (59, .int .u64 281), (60, .int .u64 283), (61, .int .u64 293), (62, .int .u64 307), (63, .int .u64 311)] = some (uq spr).toArray := by kernel_rfl
  clear hR hB
  go_enter Try.func29, Try.ntmps29
  go_wp2_with (first
    | (refine wpList_allocL (op := ⟨some 0, _, _, _, _, _⟩) rfl 58 rfl (uq (List.replicate 64 0)) 64 hz ?_; rw [hW])
    | (refine wpList_buildL (op := ⟨some 1, _, _, _, _, _⟩) rfl 58 _ rfl (uq spr) hbt ?_)
    | (refine wpList_storeR (op := ⟨none, _, _, _, _, _⟩) rfl 58 (.tmp 0) (.tmp 1) rfl rfl (vs := uq spr) rfl HR.out (by rw [uq_length, uq_length, List.length_replicate]; rfl) (by kernel_rfl) (fun v hv => uq_one hv) ?_))
  refine spost_row _ (HR.out.put (uq spr) (by rw [uq_length, uq_length, List.length_replicate]; rfl)) rfl rfl Try.underlying58 rfl (by kernel_rfl) rfl ⟨rfl, HB.out.trans (below_setCells (Nat.le_refl _) _ _ _)⟩


set_option maxRecDepth 100000 in
set_option maxHeartbeats 16000000 in
theorem snew_any (w : World) : Calls Try.prog 23 #[] w fun e w' => ∃ b, e = .returned (.pointer (some ⟨b, 0, none⟩)) ∧ w.heap.size ≤ b ∧ Ss w' b [] ∧ Below w.heap.size w w' := by
  obtain ⟨Z, eZ⟩ : ∃ Z, scs (List.replicate 8 0) (List.replicate 64 0) (List.replicate 64 0) 0 = Z := ⟨_, rfl⟩
  have hz : (Try.prog.info? 57).map (fun i => (i.zero, i.size)) = some (some (.agg Z.toArray), 137) := by rw [← eZ]; kernel_rfl
  have hzv := (zero_of_info hz).1
  clear hz
  have hz2 : (Try.prog.info? 58).map (fun i => (i.zero, i.size)) = some (some (.agg (uq (List.replicate 64 0)).toArray), 64) := by kernel_rfl
  have hZr := Row.newL w Z 57
  rw [← eZ] at hZr
  obtain ⟨b, W, hbb, hW, HM, HB, hb, hbl⟩ : ∃ b W, w.heap.size = b ∧ w.alloc (.cells Z.toArray 57) = W ∧ Hid (Sm W b (List.replicate 8 0) (List.replicate 64 0) (List.replicate 64 0) 0) ∧ Hid (Below w.heap.size w W) ∧ w.heap.size ≤ b ∧ b < W.heap.size := ⟨_, _, rfl, rfl, by rw [eZ] at hZr; rw [← eZ] at *; exact Sm.of hZr rfl rfl rfl, (Below.refl _ w).alloc (Nat.le_refl _) _, Nat.le_refl _, by simp⟩
  clear hZr eZ
  go_enter Try.func23, Try.ntmps23
  go_wp2_with fail
  refine (primes_any _).mono ?_
  rintro e w1 ⟨rfl, hB1⟩
  have h1 := HM.out.below hB1 hbl
  have b1 := HB.out.trans (hB1.mono HB.out.size)
  have hbl1 : b < w1.heap.size := h1.lt
  have hP := Row.newL w1 (uq (List.replicate 64 0)) 58
  obtain ⟨p, W2, hp2, hW2, HM2, HB2, HP2, hp⟩ : ∃ p W2, w1.heap.size = p ∧ (w1.alloc (.cells (uq (List.replicate 64 0)).toArray 58)).setCells w1.heap.size 0 (uq spr) = W2 ∧ Hid (Sm W2 b (List.replicate 8 0) (List.replicate 64 0) (List.replicate 64 0) 0) ∧ Hid (Below w.heap.size w W2) ∧ Hid (Row W2 p 0 (uq spr)) ∧ b < p := by
    have q : Below w1.heap.size w1 ((w1.alloc (.cells (uq (List.replicate 64 0)).toArray 58)).setCells w1.heap.size 0 (uq spr)) := ((Below.refl _ w1).alloc (Nat.le_refl _) _).trans (below_setCells (Nat.le_refl _) _ _ _)
    exact ⟨_, _, rfl, rfl, h1.below q hbl1, b1.trans (q.mono b1.size), hP.put _ (by rw [uq_length, uq_length, List.length_replicate]; rfl), hbl1⟩
  have HPZ := hide hP
  clear hB1 h1 b1 hP HM HB hbl1
  go_wp2_with (first
    | (refine wpList_allocL (op := ⟨some 2, _, _, _, _, _⟩) rfl 58 rfl (uq (List.replicate 64 0)) 64 hz2 ?_)
    | (refine wpList_storeR (op := ⟨none, _, _, _, _, _⟩) rfl 58 (.tmp 2) (.tmp 9) rfl rfl (vs := uq spr) rfl HPZ.out (by rw [uq_length, uq_length, List.length_replicate]; rfl) (by kernel_rfl) (fun v hv => uq_one hv) ?_; rw [hW2]))
  clear hz2 HPZ hW2 hp2
  go_loopg [3, 4, 12] 8 (fun g _ _ q wr => ∃ k : Nat, k + g = 8 ∧ q = .int .i64 k ∧ Sm wr b (fupto 8 siv k) (List.replicate 64 0) (List.replicate 64 0) 0 ∧ Row wr p 0 (uq spr) ∧ Below w.heap.size w wr)
  case atStart => exact ⟨0, rfl, rfl, by rw [fupto_zero]; exact HM2.out, HP2.out, HB2.out⟩
  case round =>
    clear HM2 HP2 HB2
    obtain ⟨k, hkg, rfl, hM, hP, hB⟩ := hrel
    by_cases hlt : k < 8
    · have hlt' : (k : Int) < 8 := by omega
      obtain ⟨g3, rfl⟩ : ∃ g3, gk = g3 + 1 := ⟨gk - 1, by omega⟩
      have cp := hP.q0 k (by rw [spr_length]; omega)
      have hpl := spr_lt (j := k) (by omega)
      have hsr := roots_sq hlt
      obtain ⟨pr, epr⟩ : ∃ z, at' spr k = z := ⟨_, rfl⟩
      rw [epr] at cp hpl hsr
      have HA := hide (And.intro hM (And.intro hP hB))
      clear hM hP hB epr
      go_wp2_with fail
      refine wp_region_ord (fun _ => True) 7 [(0, some true), (1, some true), (2, some true), (4, some true), (5, some true), (3, none), (6, some true), (7, none)] (by kernel_rfl) (by kernel_rfl) (fun _ _ _ _ h => h) trivial ?_
      refine ord_pureE (o := ⟨some 17, _, _, _, _, _⟩) rfl (by kernel_rfl) ⟨_, fun w9 => by (go_simp; try rfl), ?_⟩
      simp only [Act.put, List.setIfInBounds_toArray, List.set_cons_zero, List.set_cons_succ]
      refine ord_pureE (o := ⟨some 18, _, _, _, _, _⟩) rfl (by kernel_rfl) ⟨_, fun w9 => by (go_simp; try rfl), ?_⟩
      simp only [Act.put, List.setIfInBounds_toArray, List.set_cons_zero, List.set_cons_succ]
      refine ord_pureE (o := ⟨some 19, _, _, _, _, _⟩) rfl (by kernel_rfl) ⟨_, fun w9 => by (go_simp; try rfl), ?_⟩
      simp only [Act.put, List.setIfInBounds_toArray, List.set_cons_zero, List.set_cons_succ]
      refine ord_pureE (o := ⟨some 21, _, _, _, _, _⟩) rfl (by kernel_rfl) ⟨_, fun w9 => by (go_simp; try rfl), ?_⟩
      simp only [Act.put, List.setIfInBounds_toArray, List.set_cons_zero, List.set_cons_succ]
      refine ord_pureE (o := ⟨some 22, _, _, _, _, _⟩) rfl (by kernel_rfl) ⟨_, fun w9 => by (go_simp; try rfl), ?_⟩
      simp only [Act.put, List.setIfInBounds_toArray, List.set_cons_zero, List.set_cons_succ]
      refine ord_go rfl (fun K9 hK => ?_)
      go_simp
      go_wp2_with fail
      refine (sqRoot_any _ _ hpl).mono ?_
      rintro e w5 ⟨rfl, hB5⟩
      dsimp only
      replace hB5 : Below wr.heap.size wr w5 := (Below.refl _ wr).drew.trans hB5
      have h5 := HA.out.1.below hB5 HA.out.1.lt
      have h5p := HA.out.2.1.below hB5 HA.out.2.1.lt
      have h5b := HA.out.2.2.trans (hB5.mono HA.out.2.2.size)
      have c5 := h5.rn.at' (j := k) (us_get _ k (by rw [fupto_len]; exact hlt))
      have f5 := h5.rn.free k (by rw [us_length, fupto_len]; exact hlt)
      rw [Nat.zero_add] at c5 f5
      have H6 := hide (And.intro (h5.setn k (at' siv k) hlt) (And.intro (h5p.other b k (.int .u32 (at' siv k : Nat)) (.inl (by omega))) (h5b.setCell (p := ⟨b, k, none⟩) hb (.int .u32 (at' siv k : Nat)))))
      rw [← fupto_succ 8 siv k hlt] at H6
      rw [hsr]
      clear hB5 h5 h5p h5b
      refine hK.out _ _ (fun _ => trivial) ?_
      clear hK K9
      refine ord_pureE (o := ⟨some 23, _, _, _, _, _⟩) rfl (by kernel_rfl) ⟨_, fun w9 => by (go_simp; try rfl), ?_⟩
      simp only [Act.put, List.setIfInBounds_toArray, List.set_cons_zero, List.set_cons_succ]
      refine ord_go rfl (fun K9 hK => ?_)
      go_simp
      refine hK.out _ _ (fun h => by cases h) ?_
      clear hK K9
      refine ord_end ?_
      go_wp2_with fail
      go_roundg g3
      case measure => omega
      case rel => exact ⟨k + 1, by omega, by go_num, H6.out.1, H6.out.2.1, H6.out.2.2⟩
    · obtain rfl : k = 8 := by omega
      rw [fupto_all siv_length] at hM
      have HM := hide hM
      have HP := hide hP
      have HB := hide hB
      clear hM hP hB
      go_wp2_with (refine wpList_loadR (op := ⟨some 25, _, _, _, _, _⟩) rfl 58 (.tmp 2) rfl rfl _ HP.out Try.underlying58 rfl (by kernel_rfl) ?_)
      go_loopg [5, 6, 26] 64 (fun g _ _ q wr => ∃ k : Nat, k + g = 64 ∧ q = .int .i64 k ∧ Sm wr b siv (fupto 64 skc k) (List.replicate 64 0) 0 ∧ Below w.heap.size w wr)
      case atStart => exact ⟨0, rfl, rfl, by rw [fupto_zero]; exact HM.out, HB.out⟩
      case round =>
        clear HM HP HB
        obtain ⟨k, hkg, rfl, hM, hB⟩ := hrel
        by_cases hlt : k < 64
        · have hlt' : (k : Int) < 64 := by omega
          obtain ⟨g3, rfl⟩ : ∃ g3, gk = g3 + 1 := ⟨gk - 1, by omega⟩
          have hx : ∀ w, (Instr.index 58 (.agg (uq spr).toArray) (.int .i64 (k : Int))).run Try.prog w = .ok (.int .u64 (Bk.at' spr k : Nat)) w := run_index_cell k Try.underlying58 hlt (by kernel_rfl) Try.underlying55 rfl (by have := uq_get spr k (by rw [spr_length]; exact hlt); simpa using this)
          have hpl := spr_lt hlt
          have hsr := roots_cb hlt
          obtain ⟨pr, epr⟩ : ∃ z, at' spr k = z := ⟨_, rfl⟩
          rw [epr] at hx hpl hsr
          have HA := hide (And.intro hM hB)
          clear hM hB epr
          go_wp2_with fail
          refine wp_region_ord (fun _ => True) 7 [(0, some true), (1, some true), (2, some true), (4, some true), (5, some true), (3, none), (6, some true), (7, none)] (by kernel_rfl) (by kernel_rfl) (fun _ _ _ _ h => h) trivial ?_
          refine ord_pureE (o := ⟨some 30, _, _, _, _, _⟩) rfl (by kernel_rfl) ⟨_, fun w9 => by (go_simp; try rfl), ?_⟩
          simp only [Act.put, List.setIfInBounds_toArray, List.set_cons_zero, List.set_cons_succ]
          refine ord_pureE (o := ⟨some 31, _, _, _, _, _⟩) rfl (by kernel_rfl) ⟨_, fun w9 => by (go_simp; try rfl), ?_⟩
          simp only [Act.put, List.setIfInBounds_toArray, List.set_cons_zero, List.set_cons_succ]
          refine ord_pureE (o := ⟨some 32, _, _, _, _, _⟩) rfl (by kernel_rfl) ⟨_, fun w9 => by (go_simp; try rfl), ?_⟩
          simp only [Act.put, List.setIfInBounds_toArray, List.set_cons_zero, List.set_cons_succ]
          refine ord_pureE (o := ⟨some 34, _, _, _, _, _⟩) rfl (by kernel_rfl) ⟨_, fun w9 => by (go_simp; try rfl), ?_⟩
          simp only [Act.put, List.setIfInBounds_toArray, List.set_cons_zero, List.set_cons_succ]
          refine ord_pureE (o := ⟨some 35, _, _, _, _, _⟩) rfl (by kernel_rfl) ⟨_, fun w9 => by (go_simp; try rfl), ?_⟩
          simp only [Act.put, List.setIfInBounds_toArray, List.set_cons_zero, List.set_cons_succ]
          refine ord_go rfl (fun K9 hK => ?_)
          go_simp
          go_wp2_with fail
          refine (cbRoot_any _ _ hpl).mono ?_
          rintro e w5 ⟨rfl, hB5⟩
          dsimp only
          replace hB5 : Below wr.heap.size wr w5 := (Below.refl _ wr).drew.trans hB5
          have h5 := HA.out.1.below hB5 HA.out.1.lt
          have h5b := HA.out.2.trans (hB5.mono HA.out.2.size)
          have c5 := h5.rk.at' (j := k) (us_get _ k (by rw [fupto_len]; exact hlt))
          have f5 := h5.rk.free k (by rw [us_length, fupto_len]; exact hlt)
          have H6 := hide (And.intro (h5.setk k (at' skc k) hlt) (h5b.setCell (p := ⟨b, 8 + k, none⟩) hb (.int .u32 (at' skc k : Nat))))
          rw [← fupto_succ 64 skc k hlt] at H6
          rw [hsr]
          clear hB5 h5 h5b
          refine hK.out _ _ (fun _ => trivial) ?_
          clear hK K9
          refine ord_pureE (o := ⟨some 36, _, _, _, _, _⟩) rfl (by kernel_rfl) ⟨_, fun w9 => by (go_simp; try rfl), ?_⟩
          simp only [Act.put, List.setIfInBounds_toArray, List.set_cons_zero, List.set_cons_succ]
          refine ord_go rfl (fun K9 hK => ?_)
          go_simp
          refine hK.out _ _ (fun h => by cases h) ?_
          clear hK K9
          refine ord_end ?_
          go_wp2_with fail
          go_roundg g3
          case measure => omega
          case rel => exact ⟨k + 1, by omega, by go_num, H6.out.1, H6.out.2⟩
        · obtain rfl : k = 64 := by omega
          rw [fupto_all skc_length] at hM
          have HM := hide hM
          have HB := hide hB
          clear hM hB
          go_wp2_with fail
          go_ret
          exact ⟨b, rfl, hb, Ss.first HM.out, HB.out⟩
end Go.Proofs.Ytdcmjmmfclhfbaa

