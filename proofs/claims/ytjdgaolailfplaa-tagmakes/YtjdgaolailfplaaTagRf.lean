/- The document's own text and tag, walked. For data of at most 50000 bytes. -/
import Derived.Test.YtjdgaolailfplaaTagN
namespace Go.Proofs.Ytjdgaolailfplaa
open Go.RowKit Bk
set_option linter.unusedVariables false
set_option linter.unusedSimpArgs false

set_option maxRecDepth 100000 in
theorem rftwo_any (n : Nat) (w : World) (hn : n ≤ 65535) : Calls Try.prog 19 #[.int .i64 n] w fun e w' => e = .returned (.string ⟨(tb n).toArray⟩) ∧ Below w.heap.size w w' := by
  have h1 : (n : Int) ≤ 65535 := by omega
  obtain ⟨W, eW, hB, hR⟩ : ∃ W, w.alloc (.cells #[.int .u8 ((n : Int) / 256), .int .u8 ((n : Int) % 256)] 5) = W ∧ Below w.heap.size w W ∧ Row W w.heap.size 0 (bs (tb n)) :=
    ⟨_, rfl, (Below.refl _ w).alloc (Nat.le_refl _) _, by rw [tb_bs n hn]; exact Row.newL _ _ _⟩
  have hx := run_textR (P := Try.prog) W 31 9 5 (c := 2) (n := 2) (l := tb n) Try.underlying31 Try.underlying5 Try.underlying9 w.heap.size 0 rfl rfl hR.cell
  clear hR
  go_enter Try.func19, Try.ntmps19
  go_wp2
  go_ret
  exact ⟨rfl, hB⟩

set_option maxRecDepth 100000 in
set_option maxHeartbeats 8000000 in
theorem rftext_good (id : ByteArray) (v s : Nat) (d : ByteArray) (w : World) (h : id.size = 16) (hv : v ≤ 65535) (hs : s ≤ 65535) (hd : d.size ≤ 50000) :
    Calls Try.prog 12 #[.agg #[.string id, .int .i64 v, .int .i64 s, .string d]] w fun e w' => e = .returned (.tuple #[.string ⟨(txl id v s d).toArray⟩, .int .i64 0]) ∧ Below w.heap.size w w' := by
  have h1I : (id.size : Int) = 16 := by omega
  have h1b : ((id.size : Int) != 16) = false := by simp [h1I]
  have v0 : ¬ ((v : Int) < 0) := by omega
  have v1 : ¬ ((65535 : Int) < (v : Int)) := by omega
  have s0 : ¬ ((s : Int) < 0) := by omega
  have s1 : ¬ ((65535 : Int) < (s : Int)) := by omega
  obtain ⟨V, eV⟩ : ∃ V : ByteArray, ⟨(tb v).toArray⟩ = V := ⟨_, rfl⟩
  obtain ⟨U, eU⟩ : ∃ U : ByteArray, ⟨(tb s).toArray⟩ = U := ⟨_, rfl⟩
  have lV : V.size = 2 := by rw [← eV]; rfl
  have lU : U.size = 2 := by rw [← eU]; rfl
  obtain ⟨A1, eA1, lA1⟩ : ∃ A, id ++ V = A ∧ A.size = 18 := ⟨_, rfl, by rw [← sb_length, sb_app, List.length_append, sb_length, sb_length, h, lV]⟩
  obtain ⟨A2, eA2, lA2⟩ : ∃ A, A1 ++ U = A ∧ A.size = 20 := ⟨_, rfl, by rw [← sb_length, sb_app, List.length_append, sb_length, sb_length, lA1, lU]⟩
  obtain ⟨A3, eA3⟩ : ∃ A, A2 ++ d = A := ⟨_, rfl⟩
  have p1 : ∀ w, (Op.stringOp .add id V).run Try.prog w = .ok (.string A1) w := fun w => by rw [run_string_add_sum _ _ _ (by omega), eA1]
  have p2 : ∀ w, (Op.stringOp .add A1 U).run Try.prog w = .ok (.string A2) w := fun w => by rw [run_string_add_sum _ _ _ (by omega), eA2]
  have p3 : ∀ w, (Op.stringOp .add A2 d).run Try.prog w = .ok (.string A3) w := fun w => by rw [run_string_add_sum _ _ _ (by omega), eA3]
  have eT : A3 = ⟨(txl id v s d).toArray⟩ := by
    rw [← eA3, ← eA2, ← eA1, ← eV, ← eU]
    apply sb_inj
    rw [sb_app, sb_app, sb_app]
    show sb id ++ tb v ++ tb s ++ sb d = txl id v s d
    simp [txl]
  have HV := hide (And.intro eV (And.intro eU eT))
  obtain ⟨W, eW, hB, hR⟩ : ∃ W, w.alloc (.cells #[.string id, .int .i64 (v : Int), .int .i64 (s : Int), .string d] 29) = W ∧ Below w.heap.size w W ∧ Row W w.heap.size 0 [.string id, .int .i64 (v : Int), .int .i64 (s : Int), .string d] :=
    ⟨_, rfl, (Below.refl _ w).alloc (Nat.le_refl _) _, Row.newL _ _ _⟩
  have hlt : w.heap.size < W.drew.heap.size := hR.lt
  have c0 : W.drew.cell? ⟨w.heap.size, 0, none⟩ = some (.string id) := hR.drew.at' (j := 0) rfl
  have c1 : W.drew.cell? ⟨w.heap.size, 1, none⟩ = some (.int .i64 (v : Int)) := by have h5 := hR.drew.at' (j := 1) rfl; rwa [Nat.zero_add] at h5
  have c2 : W.drew.cell? ⟨w.heap.size, 2, none⟩ = some (.int .i64 (s : Int)) := by have h5 := hR.drew.at' (j := 2) rfl; rwa [Nat.zero_add] at h5
  have c3 : W.drew.cell? ⟨w.heap.size, 3, none⟩ = some (.string d) := by have h5 := hR.drew.at' (j := 3) rfl; rwa [Nat.zero_add] at h5
  have HC : Hid (∀ x : World, Below W.drew.heap.size W.drew x → x.cell? ⟨w.heap.size, 0, none⟩ = some (.string id) ∧ x.cell? ⟨w.heap.size, 1, none⟩ = some (.int .i64 (v : Int)) ∧ x.cell? ⟨w.heap.size, 2, none⟩ = some (.int .i64 (s : Int)) ∧ x.cell? ⟨w.heap.size, 3, none⟩ = some (.string d)) := hide (fun x hx =>
    ⟨(hx.cell (p := ⟨w.heap.size, 0, none⟩) hlt).trans c0, (hx.cell (p := ⟨w.heap.size, 1, none⟩) hlt).trans c1, (hx.cell (p := ⟨w.heap.size, 2, none⟩) hlt).trans c2, (hx.cell (p := ⟨w.heap.size, 3, none⟩) hlt).trans c3⟩)
  have HX := hide (Below.refl W.drew.heap.size W.drew)
  have HB := hide hB
  have hd0 : W.cell? ⟨w.heap.size, 0, none⟩ = some (.string id) := c0
  have hd1 : W.cell? ⟨w.heap.size, 1, none⟩ = some (.int .i64 (v : Int)) := c1
  have hd2 : W.cell? ⟨w.heap.size, 2, none⟩ = some (.int .i64 (s : Int)) := c2
  clear h hB hR c0 c1 c2 c3 hlt hd eV eU eT eA1 eA2 eA3 lV lU lA1 lA2
  go_enter Try.func12, Try.ntmps12
  go_wp2_with fail
  refine wp_region_ord (fun w9 => w9.cell? ⟨w.heap.size, 0, none⟩ = some (.string id) ∧ w9.cell? ⟨w.heap.size, 1, none⟩ = some (.int .i64 (v : Int)) ∧ w9.cell? ⟨w.heap.size, 2, none⟩ = some (.int .i64 (s : Int)) ∧ w9.cell? ⟨w.heap.size, 3, none⟩ = some (.string d)) 13 [(0, some true), (2, some true), (6, some true), (10, some true), (1, some false), (3, some false), (7, some false), (11, some false), (4, none), (5, some true), (8, none), (9, some true), (12, some true), (13, none), (14, none)] (by kernel_rfl) (by kernel_rfl) (fun _ _ _ _ h => h) (HC.out _ HX.out) ?_
  refine ord_pure (o := ⟨some 28, _, _, _, _, _⟩) (.pointer (some ⟨w.heap.size, 0, none⟩)) rfl (by kernel_rfl) (fun w9 => by go_simp) ?_
  simp only [Act.put, List.setIfInBounds_toArray, List.set_cons_zero, List.set_cons_succ]
  refine ord_pure (o := ⟨some 30, _, _, _, _, _⟩) (.pointer (some ⟨w.heap.size, 1, none⟩)) rfl (by kernel_rfl) (fun w9 => by go_simp) ?_
  simp only [Act.put, List.setIfInBounds_toArray, List.set_cons_zero, List.set_cons_succ]
  refine ord_pure (o := ⟨some 34, _, _, _, _, _⟩) (.pointer (some ⟨w.heap.size, 2, none⟩)) rfl (by kernel_rfl) (fun w9 => by go_simp) ?_
  simp only [Act.put, List.setIfInBounds_toArray, List.set_cons_zero, List.set_cons_succ]
  refine ord_pure (o := ⟨some 38, _, _, _, _, _⟩) (.pointer (some ⟨w.heap.size, 3, none⟩)) rfl (by kernel_rfl) (fun w9 => by go_simp) ?_
  simp only [Act.put, List.setIfInBounds_toArray, List.set_cons_zero, List.set_cons_succ]
  refine ord_held (o := ⟨some 29, _, _, _, _, _⟩) (.string id) rfl (by kernel_rfl) (fun w9 h9 => by have h8 := h9.1; go_simp) ?_
  simp only [Act.put, List.setIfInBounds_toArray, List.set_cons_zero, List.set_cons_succ]
  refine ord_held (o := ⟨some 31, _, _, _, _, _⟩) (.int .i64 (v : Int)) rfl (by kernel_rfl) (fun w9 h9 => by have h8 := h9.2.1; go_simp) ?_
  simp only [Act.put, List.setIfInBounds_toArray, List.set_cons_zero, List.set_cons_succ]
  refine ord_held (o := ⟨some 35, _, _, _, _, _⟩) (.int .i64 (s : Int)) rfl (by kernel_rfl) (fun w9 h9 => by have h8 := h9.2.2.1; go_simp) ?_
  simp only [Act.put, List.setIfInBounds_toArray, List.set_cons_zero, List.set_cons_succ]
  refine ord_held (o := ⟨some 39, _, _, _, _, _⟩) (.string d) rfl (by kernel_rfl) (fun w9 h9 => by have h8 := h9.2.2.2; go_simp) ?_
  simp only [Act.put, List.setIfInBounds_toArray, List.set_cons_zero, List.set_cons_succ]
  refine ord_go rfl (fun K9 hK => ?_)
  go_simp
  go_wp2_with fail
  refine (rftwo_any v _ hv).mono ?_
  rintro e w1 ⟨rfl, hB1⟩
  rw [HV.out.1]
  have HB1 := hide (HB.out.drew.trans (hB1.mono HB.out.drew.size))
  have HX1 := hide (HX.out.trans hB1)
  clear hB1
  dsimp only
  refine hK.out _ _ (fun _ => HC.out _ HX1.out) ?_
  clear hK K9
  refine ord_pure (o := ⟨some 33, _, _, _, _, _⟩) (.string A1) rfl (by kernel_rfl) (fun w9 => by go_simp) ?_
  simp only [Act.put, List.setIfInBounds_toArray, List.set_cons_zero, List.set_cons_succ]
  refine ord_go rfl (fun K9 hK => ?_)
  go_simp
  go_wp2_with fail
  refine (rftwo_any s _ hs).mono ?_
  rintro e w2 ⟨rfl, hB2⟩
  rw [HV.out.2.1]
  have HB2 := hide (HB1.out.trans (hB2.mono HB1.out.size))
  have HX2 := hide (HX1.out.trans (hB2.mono HX1.out.size))
  clear hB2 HB1 HX1
  dsimp only
  refine hK.out _ _ (fun _ => HC.out _ HX2.out) ?_
  clear hK K9
  refine ord_pure (o := ⟨some 37, _, _, _, _, _⟩) (.string A2) rfl (by kernel_rfl) (fun w9 => by go_simp) ?_
  simp only [Act.put, List.setIfInBounds_toArray, List.set_cons_zero, List.set_cons_succ]
  refine ord_pure (o := ⟨some 40, _, _, _, _, _⟩) (.string A3) rfl (by kernel_rfl) (fun w9 => by go_simp) ?_
  simp only [Act.put, List.setIfInBounds_toArray, List.set_cons_zero, List.set_cons_succ]
  refine ord_go rfl (fun K9 hK => ?_)
  go_simp
  refine hK.out _ _ (fun h => by cases h) ?_
  clear hK K9
  refine ord_go rfl (fun K9 hK => ?_)
  go_simp
  refine hK.out _ _ (fun h => by cases h) ?_
  clear hK K9
  refine ord_end ?_
  go_wp2_with fail
  go_ret2
  rw [← HV.out.2.2]
  exact ⟨rfl, HB2.out⟩

set_option maxRecDepth 100000 in
set_option maxHeartbeats 4000000 in
theorem rftext_bad (id : ByteArray) (v s : Int) (d : ByteArray) (w : World) (h : ¬ okOf id v s) :
    Calls Try.prog 12 #[.agg #[.string id, .int .i64 v, .int .i64 s, .string d]] w fun e w' => e = .returned (.tuple #[.string ⟨#[]⟩, .int .i64 1]) ∧ Below w.heap.size w w' := by
  by_cases h1 : id.size = 16
  · have h1I : (id.size : Int) = 16 := by omega
    have h1b : ((id.size : Int) != 16) = false := by simp [h1I]
    by_cases h2 : v < 0
    · clear h h1
      go_enter Try.func12, Try.ntmps12
      go_wp2_with fail
      go_ret2
      exact ⟨rfl, (Below.refl _ w).alloc (Nat.le_refl _) _⟩
    · by_cases h3 : 65535 < v
      · clear h h1
        go_enter Try.func12, Try.ntmps12
        go_wp2_with fail
        go_ret2
        exact ⟨rfl, (Below.refl _ w).alloc (Nat.le_refl _) _⟩
      · by_cases h4 : s < 0
        · clear h h1
          go_enter Try.func12, Try.ntmps12
          go_wp2_with fail
          go_ret2
          exact ⟨rfl, (Below.refl _ w).alloc (Nat.le_refl _) _⟩
        · have h5 : 65535 < s := by
            rcases Int.lt_or_le 65535 s with h9 | h9
            · exact h9
            · exact absurd ⟨h1, by omega, by omega⟩ h
          clear h h1
          go_enter Try.func12, Try.ntmps12
          go_wp2_with fail
          go_ret2
          exact ⟨rfl, (Below.refl _ w).alloc (Nat.le_refl _) _⟩
  · have h1I : ¬ ((id.size : Int) = 16) := by omega
    have h1b : ((id.size : Int) != 16) = true := by simpa using h1I
    clear h h1
    go_enter Try.func12, Try.ntmps12
    go_wp2_with fail
    go_ret2
    exact ⟨rfl, (Below.refl _ w).alloc (Nat.le_refl _) _⟩

theorem rftext_any (id : ByteArray) (v s : Int) (d : ByteArray) (w : World) (hd : d.size ≤ 50000) :
    Calls Try.prog 12 #[.agg #[.string id, .int .i64 v, .int .i64 s, .string d]] w fun e w' => e = .returned (.tuple #[.string (otx id v s d), .int .i64 (oer id v s)]) ∧ Below w.heap.size w w' := by
  by_cases h : okOf id v s
  · rw [otx_ok h, oer_ok h]
    obtain ⟨h1, ⟨h2, h3⟩, h4, h5⟩ := h
    obtain ⟨p, rfl⟩ : ∃ p : Nat, v = p := ⟨v.toNat, by omega⟩
    obtain ⟨q, rfl⟩ : ∃ q : Nat, s = q := ⟨s.toNat, by omega⟩
    exact rftext_good id p q d w h1 (by omega) (by omega) hd
  · rw [otx_no h, oer_no h]
    exact rftext_bad id v s d w h
end Go.Proofs.Ytjdgaolailfplaa
