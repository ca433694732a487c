/- The closed statement DeriveNames returns true. No condition. -/
import Derived.Test.YtdcmjmmfclhfbaaKArgs
import Derived.Test.YtdcmjmmfclhfbaaOrdsX
namespace Go.Proofs.Ytdcmjmmfclhfbaa
open Go.ChangeShapes Go.WideShapes Go.ChangeAt Go.RowKit Bk
open Go.ChangeMaps (open_string shut_string)
set_option linter.unusedVariables false
set_option linter.unusedSimpArgs false

/-- n noughts. -/
def nz (n : Nat) : ByteArray := ⟨(List.replicate n 0).toArray⟩
theorem nz_size (n : Nat) : (nz n).size = n := by rw [← sb_length]; show (List.replicate n (0 : UInt8)).length = n; simp
theorem nz_text (n : Nat) (hn : n ≤ 1000000) (W : World) : (convert 29 9 (.slice (some ⟨W.heap.size, 0, none⟩) n n)).run Try.prog (W.alloc (.cells (madeCells #[.int .u8 0] n) 5)) = .ok (.string (nz n)) (W.alloc (.cells (madeCells #[.int .u8 0] n) 5)) :=
  run_textR (P := Try.prog) _ 29 9 5 (c := n) (n := n) (l := List.replicate n 0) Try.underlying29 Try.underlying5 Try.underlying9 W.heap.size 0 rfl (by simp) (row_made W n).cell

/-- The rows: a password, a salt, rounds, a block. -/
def nrows (Z65 Z Y X : ByteArray) : List Value := [.string Z65, .string Z, .int .i64 1, .int .i64 1, .string ⟨#[]⟩, .string Y, .int .i64 1, .int .i64 1, .string ⟨#[]⟩, .string X, .int .i64 1, .int .i64 1,
  .string ⟨#[]⟩, .string Z, .int .i64 0, .int .i64 1, .string ⟨#[]⟩, .string Z, .int .i64 65, .int .i64 1, .string ⟨#[]⟩, .string Z, .int .i64 1, .int .i64 0, .string ⟨#[]⟩, .string Z, .int .i64 1, .int .i64 2147483648]
theorem nrow_at {W : World} {B : Nat} {Z65 Z Y X : ByteArray} (z16 : Z.size = 16) (z65 : Z65.size = 65) (zY : Y.size = 15) (zX : X.size = 17) (h : Row W B 0 (nrows Z65 Z Y X)) (k : Nat) (hk : k < 7) :
    ∃ P S N b, Row W B (k * 4) [.string P, .string S, .int .i64 N, .int .i64 b] ∧ se P S N b = 1 ∧ ((ke P S N = 1 ∧ b = 1) ∨ (ke P S N = 0 ∧ b = 0) ∨ (ke P S N = 0 ∧ b = 2147483648)) := by
  have part : ∀ (a c d : List Value), nrows Z65 Z Y X = a ++ (c ++ d) → Row W B (0 + a.length) c := fun a c d e => by
    rw [e] at h
    exact h.right.left
  have hk' : k = 0 ∨ k = 1 ∨ k = 2 ∨ k = 3 ∨ k = 4 ∨ k = 5 ∨ k = 6 := by omega
  have no : ∀ {P S : ByteArray} {N b : Int}, ¬ okD P S N → se P S N b = 1 := fun h => se_no (fun k => h k.1)
  have ok : okD ⟨#[]⟩ Z 1 := ⟨by decide, z16, by decide, by decide⟩
  rcases hk' with rfl | rfl | rfl | rfl | rfl | rfl | rfl
  · have n0 : ¬ okD Z65 Z 1 := fun k => by have := k.1; omega
    exact ⟨Z65, Z, 1, 1, part [] _ _ rfl, no n0, .inl ⟨ke_no n0, rfl⟩⟩
  · have n0 : ¬ okD ⟨#[]⟩ Y 1 := fun k => by have := k.2.1; omega
    exact ⟨⟨#[]⟩, Y, 1, 1, part ((nrows Z65 Z Y X).take 4) _ _ rfl, no n0, .inl ⟨ke_no n0, rfl⟩⟩
  · have n0 : ¬ okD ⟨#[]⟩ X 1 := fun k => by have := k.2.1; omega
    exact ⟨⟨#[]⟩, X, 1, 1, part ((nrows Z65 Z Y X).take 8) _ _ rfl, no n0, .inl ⟨ke_no n0, rfl⟩⟩
  · have n0 : ¬ okD ⟨#[]⟩ Z 0 := fun k => absurd k.2.2.1 (by decide)
    exact ⟨⟨#[]⟩, Z, 0, 1, part ((nrows Z65 Z Y X).take 12) _ _ rfl, no n0, .inl ⟨ke_no n0, rfl⟩⟩
  · have n0 : ¬ okD ⟨#[]⟩ Z 65 := fun k => absurd k.2.2.2 (by decide)
    exact ⟨⟨#[]⟩, Z, 65, 1, part ((nrows Z65 Z Y X).take 16) _ _ rfl, no n0, .inl ⟨ke_no n0, rfl⟩⟩
  · exact ⟨⟨#[]⟩, Z, 1, 0, part ((nrows Z65 Z Y X).take 20) _ _ rfl, se_no (fun k => absurd k.2.1 (by decide)), .inr (.inl ⟨ke_ok ok, rfl⟩)⟩
  · exact ⟨⟨#[]⟩, Z, 1, 2147483648, part ((nrows Z65 Z Y X).take 24) _ [] rfl, se_no (fun k => absurd k.2.2 (by decide)), .inr (.inr ⟨ke_ok ok, rfl⟩)⟩

set_option maxRecDepth 100000 in
set_option maxHeartbeats 8000000 in
theorem deriveNames_any (w : World) : Calls Try.prog 4 #[] w fun e w' => e = .returned (.bool true) ∧ Below w.heap.size w w' := by
  have hmx : Try.prog.follows .mixedOrders = true := by kernel_rfl
  have m16 : ∀ w, (Instr.makeSlice 29 (.int .i64 16) (.int .i64 16)).run Try.prog w = .ok (.slice (some ⟨w.heap.size, 0, none⟩) 16 16) (w.alloc (.cells (madeCells #[.int .u8 0] 16) 5)) := mk_bytes 16 (by decide)
  have m64 : ∀ w, (Instr.makeSlice 29 (.int .i64 64) (.int .i64 64)).run Try.prog w = .ok (.slice (some ⟨w.heap.size, 0, none⟩) 64 64) (w.alloc (.cells (madeCells #[.int .u8 0] 64) 5)) := mk_bytes 64 (by decide)
  have m65 : ∀ w, (Instr.makeSlice 29 (.int .i64 65) (.int .i64 65)).run Try.prog w = .ok (.slice (some ⟨w.heap.size, 0, none⟩) 65 65) (w.alloc (.cells (madeCells #[.int .u8 0] 65) 5)) := mk_bytes 65 (by decide)
  have c16 := fun W => nz_text 16 (by decide) W
  have c64 := fun W => nz_text 64 (by decide) W
  have c65 := fun W => nz_text 65 (by decide) W
  obtain ⟨Z, eZ⟩ : ∃ Z, nz 16 = Z := ⟨_, rfl⟩
  obtain ⟨Z64, e64⟩ : ∃ Z, nz 64 = Z := ⟨_, rfl⟩
  obtain ⟨Z65, e65⟩ : ∃ Z, nz 65 = Z := ⟨_, rfl⟩
  obtain ⟨M16, d16⟩ : ∃ M, madeCells #[.int .u8 0] 16 = M := ⟨_, rfl⟩
  obtain ⟨M64, d64⟩ : ∃ M, madeCells #[.int .u8 0] 64 = M := ⟨_, rfl⟩
  obtain ⟨M65, d65⟩ : ∃ M, madeCells #[.int .u8 0] 65 = M := ⟨_, rfl⟩
  obtain ⟨Y, eY⟩ : ∃ Y, Z.extract 1 16 = Y := ⟨_, rfl⟩
  obtain ⟨X, eX⟩ : ∃ X, Z ++ (⟨#[120]⟩ : ByteArray) = X := ⟨_, rfl⟩
  rw [d16] at m16 c16
  rw [d64] at m64 c64
  rw [d65] at m65 c65
  rw [eZ] at c16
  rw [e64] at c64
  rw [e65] at c65
  have z16 : Z.size = 16 := by rw [← eZ]; exact nz_size 16
  have z64 : Z64.size = 64 := by rw [← e64]; exact nz_size 64
  have z65 : Z65.size = 65 := by rw [← e65]; exact nz_size 65
  have zY : Y.size = 15 := by rw [← eY, ByteArray.size_extract, z16]; rfl
  have zX : X.size = 17 := by rw [← eX, ByteArray.size_append, z16]; rfl
  have HZ := hide (And.intro z16 (And.intro z64 (And.intro z65 (And.intro zY zX))))
  clear eZ e64 e65 d16 d64 d65
  have c65' : (convert 29 9 (.slice (some ⟨w.heap.size + 1, 0, none⟩) 65 65)).run Try.prog ((w.alloc (.cells M16 5)).alloc (.cells M65 5)).drew = .ok (.string Z65) ((w.alloc (.cells M16 5)).alloc (.cells M65 5)).drew := by
    have h := c65 (w.alloc (.cells M16 5)).drew
    have e : (w.alloc (.cells M16 5)).drew.heap.size = w.heap.size + 1 := by show (w.alloc _).heap.size = _; rw [World.size_alloc]
    rw [e] at h
    exact h
  go_enter Try.func4, Try.ntmps4
  go_wp2_with fail
  refine wp_region_ord (fun _ => True) 18 [(2, some true), (4, some true), (5, some true), (6, some true), (7, some true), (8, some true), (9, some true), (10, some true), (11, some true), (12, some true), (13, some true), (14, some true), (15, some true), (16, some true), (17, some true), (20, some true), (0, none), (1, none), (3, some true), (18, none), (19, some true)] (by kernel_rfl) (by kernel_rfl) (fun _ _ _ _ h => h) trivial ?_
  refine ord_pureE (o := ⟨some 18, _, _, _, _, _⟩) rfl (by kernel_rfl) ⟨_, fun w9 => by (go_simp; try rfl), ?_⟩
  simp only [Act.put, List.setIfInBounds_toArray, List.set_cons_zero, List.set_cons_succ]
  refine ord_pureE (o := ⟨some 20, _, _, _, _, _⟩) rfl (by kernel_rfl) ⟨_, fun w9 => by (go_simp; try rfl), ?_⟩
  simp only [Act.put, List.setIfInBounds_toArray, List.set_cons_zero, List.set_cons_succ]
  refine ord_pureE (o := ⟨some 21, _, _, _, _, _⟩) rfl (by kernel_rfl) ⟨_, fun w9 => by (go_simp; try rfl), ?_⟩
  simp only [Act.put, List.setIfInBounds_toArray, List.set_cons_zero, List.set_cons_succ]
  refine ord_pureE (o := ⟨some 22, _, _, _, _, _⟩) rfl (by kernel_rfl) ⟨_, fun w9 => by (go_simp; try rfl), ?_⟩
  simp only [Act.put, List.setIfInBounds_toArray, List.set_cons_zero, List.set_cons_succ]
  refine ord_pureE (o := ⟨some 23, _, _, _, _, _⟩) rfl (by kernel_rfl) ⟨_, fun w9 => by (go_simp; try rfl), ?_⟩
  simp only [Act.put, List.setIfInBounds_toArray, List.set_cons_zero, List.set_cons_succ]
  refine ord_pureE (o := ⟨some 24, _, _, _, _, _⟩) rfl (by kernel_rfl) ⟨_, fun w9 => by (go_simp; try rfl), ?_⟩
  simp only [Act.put, List.setIfInBounds_toArray, List.set_cons_zero, List.set_cons_succ]
  refine ord_pureE (o := ⟨some 25, _, _, _, _, _⟩) rfl (by kernel_rfl) ⟨_, fun w9 => by (go_simp; try rfl), ?_⟩
  simp only [Act.put, List.setIfInBounds_toArray, List.set_cons_zero, List.set_cons_succ]
  refine ord_pureE (o := ⟨some 26, _, _, _, _, _⟩) rfl (by kernel_rfl) ⟨_, fun w9 => by (go_simp; try rfl), ?_⟩
  simp only [Act.put, List.setIfInBounds_toArray, List.set_cons_zero, List.set_cons_succ]
  refine ord_pureE (o := ⟨some 27, _, _, _, _, _⟩) rfl (by kernel_rfl) ⟨_, fun w9 => by (go_simp; try rfl), ?_⟩
  simp only [Act.put, List.setIfInBounds_toArray, List.set_cons_zero, List.set_cons_succ]
  refine ord_pureE (o := ⟨some 28, _, _, _, _, _⟩) rfl (by kernel_rfl) ⟨_, fun w9 => by (go_simp; try rfl), ?_⟩
  simp only [Act.put, List.setIfInBounds_toArray, List.set_cons_zero, List.set_cons_succ]
  refine ord_pureE (o := ⟨some 29, _, _, _, _, _⟩) rfl (by kernel_rfl) ⟨_, fun w9 => by (go_simp; try rfl), ?_⟩
  simp only [Act.put, List.setIfInBounds_toArray, List.set_cons_zero, List.set_cons_succ]
  refine ord_pureE (o := ⟨some 30, _, _, _, _, _⟩) rfl (by kernel_rfl) ⟨_, fun w9 => by (go_simp; try rfl), ?_⟩
  simp only [Act.put, List.setIfInBounds_toArray, List.set_cons_zero, List.set_cons_succ]
  refine ord_pureE (o := ⟨some 31, _, _, _, _, _⟩) rfl (by kernel_rfl) ⟨_, fun w9 => by (go_simp; try rfl), ?_⟩
  simp only [Act.put, List.setIfInBounds_toArray, List.set_cons_zero, List.set_cons_succ]
  refine ord_pureE (o := ⟨some 32, _, _, _, _, _⟩) rfl (by kernel_rfl) ⟨_, fun w9 => by (go_simp; try rfl), ?_⟩
  simp only [Act.put, List.setIfInBounds_toArray, List.set_cons_zero, List.set_cons_succ]
  refine ord_pureE (o := ⟨some 33, _, _, _, _, _⟩) rfl (by kernel_rfl) ⟨_, fun w9 => by (go_simp; try rfl), ?_⟩
  simp only [Act.put, List.setIfInBounds_toArray, List.set_cons_zero, List.set_cons_succ]
  refine ord_pureE (o := ⟨some 36, _, _, _, _, _⟩) rfl (by kernel_rfl) ⟨_, fun w9 => by (go_simp; try rfl), ?_⟩
  simp only [Act.put, List.setIfInBounds_toArray, List.set_cons_zero, List.set_cons_succ]
  refine ord_go rfl (fun K9 hK => ?_)
  go_simp
  skip
  refine hK.out _ _ (fun _ => trivial) ?_
  clear hK K9
  refine ord_go rfl (fun K9 hK => ?_)
  go_simp
  skip
  refine hK.out _ _ (fun _ => trivial) ?_
  clear hK K9
  refine ord_pureE (o := ⟨some 19, _, _, _, _, _⟩) rfl (by kernel_rfl) ⟨_, fun w9 => by (go_simp; try rfl), ?_⟩
  simp only [Act.put, List.setIfInBounds_toArray, List.set_cons_zero, List.set_cons_succ]
  refine ord_go rfl (fun K9 hK => ?_)
  go_simp
  skip
  refine hK.out _ _ (fun h => by cases h) ?_
  clear hK K9
  refine ord_pureE (o := ⟨some 35, _, _, _, _, _⟩) rfl (by kernel_rfl) ⟨_, fun w9 => by (go_simp; try rfl), ?_⟩
  simp only [Act.put, List.setIfInBounds_toArray, List.set_cons_zero, List.set_cons_succ]
  refine ord_end ?_
  obtain ⟨W0, hW0, hR0, hB0⟩ : ∃ W0, (((w.alloc (.cells M16 5)).alloc (.cells M65 5)).alloc (.cells #[.string Z65, .string Z, .int .i64 1, .int .i64 1, .string ⟨#[]⟩, .string Y, .int .i64 1, .int .i64 1, .string ⟨#[]⟩, .string X, .int .i64 1, .int .i64 1,
  .string ⟨#[]⟩, .string Z, .int .i64 0, .int .i64 1, .string ⟨#[]⟩, .string Z, .int .i64 65, .int .i64 1, .string ⟨#[]⟩, .string Z, .int .i64 1, .int .i64 0, .string ⟨#[]⟩, .string Z, .int .i64 1, .int .i64 2147483648] 30)).drew = W0 ∧ Row W0 (w.heap.size + 1 + 1) 0 (nrows Z65 Z Y X) ∧ Below w.heap.size w W0 := by
    refine ⟨_, rfl, ?_, ?_⟩
    · have h := (Row.newL ((w.alloc (.cells M16 5)).alloc (.cells M65 5)) (nrows Z65 Z Y X) 30).drew
      have e : ((w.alloc (.cells M16 5)).alloc (.cells M65 5)).heap.size = w.heap.size + 1 + 1 := by rw [World.size_alloc, World.size_alloc]
      rw [e] at h
      exact h
    · exact ((((Below.refl _ w).alloc (Nat.le_refl _) _).alloc (by simp) _).alloc (by simp; omega) _).drew
  rw [hW0]
  clear hW0 c65 c65' m65 m16 c16
  have HR := hide hR0
  have HB := hide hB0
  clear hR0 hB0
  go_wp2_with fail
  go_loopg [3, 4, 5, 6, 7, 8, 36] 7 (fun g9 _ _ _ _ _ _ t wr => ∃ k : Nat, k + g9 = 7 ∧ t = .int .i64 k ∧ Row wr (w.heap.size + 1 + 1) 0 (nrows Z65 Z Y X) ∧ Below w.heap.size w wr)
  case atStart => exact ⟨0, rfl, rfl, HR.out, HB.out⟩
  case round =>
    clear HR HB
    obtain ⟨k, hkg, rfl, hR, hB⟩ := hrel
    by_cases hlt : k < 7
    · have hlt' : (k : Int) < 7 := by omega
      obtain ⟨g3, rfl⟩ : ∃ g3, gk = g3 + 1 := ⟨gk - 1, by omega⟩
      obtain ⟨P, S, N, b, hrow, hse, hor⟩ := nrow_at HZ.out.1 HZ.out.2.2.1 HZ.out.2.2.2.1 HZ.out.2.2.2.2 hR k hlt
      have d0 : wr.cell? ⟨w.heap.size + 1 + 1, k * 4, none⟩ = some (.string P) := hrow.at' (j := 0) rfl
      have d1 : wr.cell? ⟨w.heap.size + 1 + 1, k * 4 + 1, none⟩ = some (.string S) := hrow.at' (j := 1) rfl
      have d2 : wr.cell? ⟨w.heap.size + 1 + 1, k * 4 + 2, none⟩ = some (.int .i64 N) := hrow.at' (j := 2) rfl
      have d3 : wr.cell? ⟨w.heap.size + 1 + 1, k * 4 + 3, none⟩ = some (.int .i64 b) := hrow.at' (j := 3) rfl
      have HO := hide hor
      have HE := hide hse
      have R1 := hide (show Row (wr.alloc (.cells #[.string P, .string S, .int .i64 N, .int .i64 b] 30)) wr.heap.size 0 [.string P, .string S, .int .i64 N, .int .i64 b] ∧ Row (wr.alloc (.cells #[.string P, .string S, .int .i64 N, .int .i64 b] 30)) (w.heap.size + 1 + 1) 0 (nrows Z65 Z Y X) ∧ Below w.heap.size w (wr.alloc (.cells #[.string P, .string S, .int .i64 N, .int .i64 b] 30)) from
        ⟨Row.newL wr [.string P, .string S, .int .i64 N, .int .i64 b] 30, hR.alloc _, hB.alloc hB.size _⟩)
      clear hR hB hrow hor hse
      go_wp2_with fail
      refine (stretch_any P S N b _).mono ?_
      rintro e w3 ⟨rfl, hw3⟩
      rw [HE.out]
      obtain ⟨r0, r1, k1⟩ := R1.out
      have q0 := r0.below hw3 r0.lt
      have q1 := r1.below hw3 r1.lt
      have k3 := k1.trans (hw3.mono k1.size)
      have e0 : w3.cell? ⟨wr.heap.size, 0, none⟩ = some (.string P) := q0.at' (j := 0) rfl
      have e1 : w3.cell? ⟨wr.heap.size, 1, none⟩ = some (.string S) := by have h := q0.at' (j := 1) rfl; rwa [Nat.zero_add] at h
      have e2 : w3.cell? ⟨wr.heap.size, 2, none⟩ = some (.int .i64 N) := by have h := q0.at' (j := 2) rfl; rwa [Nat.zero_add] at h
      have HQ := hide (And.intro q0 (And.intro q1 k3))
      clear r0 r1 k1 q0 q1 k3 hw3 R1
      go_wp2_with fail
      refine (key_any P S N _).mono ?_
      rintro e w4 ⟨rfl, hw4⟩
      obtain ⟨r0, r1, k1⟩ := HQ.out
      have q0 := r0.below hw4 r0.lt
      have R4 := hide (And.intro (r1.below hw4 r1.lt) (k1.trans (hw4.mono k1.size)))
      have e3 : w4.cell? ⟨wr.heap.size, 3, none⟩ = some (.int .i64 b) := by have h := q0.at' (j := 3) rfl; rwa [Nat.zero_add] at h
      clear r0 r1 k1 q0 hw4 HQ e0 e1 e2 d0 d1 d2 d3
      rcases HO.out with ⟨h1, rfl⟩ | ⟨h1, rfl⟩ | ⟨h1, rfl⟩
      · rw [h1]
        go_wp2_with fail
        go_roundg g3
        case measure => omega
        case rel => exact ⟨k + 1, by omega, by go_num, R4.out.1, R4.out.2⟩
      · rw [h1]
        go_wp2_with fail
        go_roundg g3
        case measure => omega
        case rel => exact ⟨k + 1, by omega, by go_num, R4.out.1, R4.out.2⟩
      · rw [h1]
        go_wp2_with fail
        go_roundg g3
        case measure => omega
        case rel => exact ⟨k + 1, by omega, by go_num, R4.out.1, R4.out.2⟩
    · obtain rfl : k = 7 := by omega
      have c64' := c64 wr
      have HB := hide (hB.alloc hB.size (.cells M64 5))
      have HK := hide (show ke Z64 Z 64 = 0 ∧ se ⟨#[]⟩ Z 1 2147483647 = 0 from ⟨ke_ok ⟨by omega, by omega, by decide, by decide⟩, se_ok ⟨⟨by decide, by omega, by decide, by decide⟩, by decide, by decide⟩⟩)
      clear hR hB
      go_wp2_with fail
      refine (key_any Z64 Z 64 _).mono ?_
      rintro e w3 ⟨rfl, hw3⟩
      rw [HK.out.1]
      have HB3 := hide (HB.out.trans (hw3.mono HB.out.size))
      clear hw3
      go_wp2_with fail
      refine (stretch_any ⟨#[]⟩ Z 1 2147483647 _).mono ?_
      rintro e w4 ⟨rfl, hw4⟩
      rw [HK.out.2]
      have HB4 := hide (HB3.out.trans (hw4.mono HB3.out.size))
      clear hw4
      go_wp2_with fail
      refine (awake8_any _).mono ?_
      rintro e w5 ⟨rfl, hw5⟩
      have HB5 := hide (HB4.out.trans (hw5.mono HB4.out.size))
      clear hw5
      go_wp2_with fail
      go_ret
      exact ⟨rfl, HB5.out⟩

theorem deriveNames_own : ownKnob Try.prog.godebug = none := by kernel_rfl
theorem deriveNames_laidOut : laidOutB Try.prog = true := by kernel_rfl

set_option maxRecDepth 100000 in
theorem deriveNames_lifted (os : Os) (started : os.Started) (H : Type) (enc : TypeId × Value → H) :
    ReturnsInHanded {} Try.checked os 4 .any (Rows.deriveNamesSpec.pre6 enc Try.prog Try.f4 Rows.deriveNamesRow.domain false) (Rows.deriveNamesSpec.post enc Try.prog Try.f4 false true false false) := by
  refine returnsInHanded_of_change_sized (C := Try.checked) deriveNames_own started (by kernel_rfl) Try.func4
    (ChangeSpec.witness6 (enc := enc) (C := Try.checked) false ⟨#[], #[], []⟩ 8 (by kernel_rfl) (by kernel_rfl) (by kernel_rfl) (by kernel_rfl)) ?_
  intro W base args ds gs before hval0 hW hcnd hsz0 _
  have hval : ∀ (j : Nat) t v, Try.f4.params[j]? = some t → args[j]? = some v → Value.okWide Try.prog W .any base t v := hval0
  have hW' := hW
  obtain ⟨p, q, hA0, hV, rfl, hfz, hnd⟩ := hW
  have hA : DataW.TrodAll enc Try.prog W 0 (fun _ => true) true Try.f4.params.toList args.toList ds p := hA0
  rw [Try.params4] at hA hval
  obtain ⟨rfl, rfl, rfl⟩ := trodAll_none hA
  obtain ⟨rfl, rfl⟩ := trodVars_none hV
  clear hA0 hval0 hsz0
  simp only [List.append_nil] at hW'
  refine (deriveNames_any W ).mono fun e W' ⟨he, bel⟩ => ?_
  subst he
  exact ⟨_, rfl, _, _, _, [], [], [], hW', trodAll_mk1 (shut_bool Try.underlying4 _), rfl, rfl, bel.frame _, fun h => by cases h⟩

theorem deriveNames_holds : Rows.DeriveNamesSaid :=
  OpenClaim.holds_of_wide 4 Try.f4 rfl rfl rfl rfl rfl rfl rfl ⟨rfl, rfl, rfl, rfl, rfl⟩ rfl rfl rfl rfl rfl (by kernel_rfl) Try.func4 (by kernel_rfl)
    (of_decide_eq_true (by kernel_rfl)) (by unfold Func.isWrapper; first | (rw [if_pos (by decide +kernel)]; kernel_rfl) | (rw [if_neg (by decide +kernel)]; exact ⟨rfl, rfl⟩))
    (fun os started H enc _ => deriveNames_lifted os started H enc)

#print axioms deriveNames_holds

end Go.Proofs.Ytdcmjmmfclhfbaa
