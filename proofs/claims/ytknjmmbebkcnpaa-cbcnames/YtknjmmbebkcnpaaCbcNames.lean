/- The closed statement CbcNames returns true. No condition. -/
import Derived.Test.YtknjmmbebkcnpaaRun13
namespace Go.Proofs.Ytknjmmbebkcnpaa
open Go.ChangeShapes Go.WideShapes Go.ChangeAt Go.RowKit Bk
open Go.ChangeMaps (open_string shut_string)
set_option linter.unusedVariables false
set_option linter.unusedSimpArgs false

/-- A row of noughts of more than MaxStream bytes, as a text. -/
theorem nz_conv (n : Nat) (W : World) : (convert 28 9 (.slice (some ⟨W.heap.size, 0, none⟩) n n)).run Try.prog (W.alloc (.cells (madeCells #[.int .u8 0] n) 5)) = .ok (.string ⟨(zr n).toArray⟩) (W.alloc (.cells (madeCells #[.int .u8 0] n) 5)) :=
  run_textR (P := Try.prog) _ 28 9 5 (c := n) (n := n) (l := zr n) Try.underlying28 Try.underlying5 Try.underlying9 W.heap.size 0 rfl (zr_length n) (row_made W n).cell
theorem nz_make (n : Nat) (hn : n ≤ 2000000) (w : World) : (Instr.makeSlice 28 (.int .i64 (n : Int)) (.int .i64 (n : Int))).run Try.prog w = .ok (.slice (some ⟨w.heap.size, 0, none⟩) n n) (w.alloc (.cells (madeCells #[.int .u8 0] n) 5)) :=
  run_make_row' 28 5 (.int .u8 0) 1 Try.underlying28 info8' rfl .i64 .i64 n (by omega) (by omega) w
theorem nz_text (N : Nat) (hN : N = 1048577) : ∃ (M : Array Value) (Z : ByteArray), Z.size = N ∧ (∀ w, (Instr.makeSlice 28 (.int .i64 (N : Int)) (.int .i64 (N : Int))).run Try.prog w = .ok (.slice (some ⟨w.heap.size, 0, none⟩) N N) (w.alloc (.cells M 5))) ∧
    (∀ W : World, (convert 28 9 (.slice (some ⟨W.heap.size, 0, none⟩) N N)).run Try.prog (W.alloc (.cells M 5)) = .ok (.string Z) (W.alloc (.cells M 5))) :=
  ⟨madeCells #[.int .u8 0] N, ⟨(zr N).toArray⟩, by rw [← sb_length, sb_mk, zr_length], fun w => nz_make N (by omega) w, fun W => nz_conv N W⟩

set_option maxRecDepth 100000 in
set_option maxHeartbeats 16000000 in
theorem cbcNames_any (w : World) : Calls Try.prog 4 #[] w fun e w' => e = .returned (.bool true) ∧ Below w.heap.size w w' := by
  have hmx : Try.prog.follows .mixedOrders = true := by kernel_rfl
  obtain ⟨M32, d32⟩ : ∃ M, madeCells #[.int .u8 0] 32 = M := ⟨_, rfl⟩
  obtain ⟨M16, d16⟩ : ∃ M, madeCells #[.int .u8 0] 16 = M := ⟨_, rfl⟩
  have m32 : ∀ w, (Instr.makeSlice 28 (.int .i64 32) (.int .i64 32)).run Try.prog w = .ok (.slice (some ⟨w.heap.size, 0, none⟩) 32 32) (w.alloc (.cells M32 5)) := by rw [← d32]; exact mk_bytes 32 (by decide)
  have m16 : ∀ w, (Instr.makeSlice 28 (.int .i64 16) (.int .i64 16)).run Try.prog w = .ok (.slice (some ⟨w.heap.size, 0, none⟩) 16 16) (w.alloc (.cells M16 5)) := by rw [← d16]; exact mk_bytes 16 (by decide)
  have r32 : ∀ w : World, Row (w.alloc (.cells M32 5)) w.heap.size 0 (bs (zr 32)) := by rw [← d32]; exact fun w => row_made w 32
  have r16 : ∀ w : World, Row (w.alloc (.cells M16 5)) w.heap.size 0 (bs (zr 16)) := by rw [← d16]; exact fun w => row_made w 16
  clear d32 d16
  have HBk0 := hide (show Below w.heap.size w w.drew from (Below.refl _ w).drew)
  go_enter Try.func4, Try.ntmps4
  go_wp2_with fail
  refine wp_only (R := fun a' w' => ∃ x y : Nat, a' = { tmps := #[.bool false, .string z32, .string z16, undef, undef, undef, undef, undef, undef, undef, undef, undef, undef, undef, undef, undef, undef, .slice (some ⟨x, 0, none⟩) 32 32, .string z32, .slice (some ⟨y, 0, none⟩) 16 16, .string z16, undef, undef, undef, undef, undef, undef, undef, undef, undef, undef, undef, undef, undef, undef, undef, undef, undef, undef, undef, undef, undef, undef, undef, undef, undef, undef, undef, undef, undef, undef, undef, undef, undef, undef, undef, undef, undef, undef, undef, undef, undef, undef, undef, undef, undef, undef, undef, undef, undef, undef, undef, undef, undef, undef, undef, undef, undef, undef, undef, undef, undef, undef, undef, undef, undef, undef, undef, undef, undef, undef, undef, undef, undef, undef, undef, undef, undef, undef, undef, undef, undef], defers := [] } ∧ Below w.heap.size w w') ?r ?k
  case r =>
    refine wp_region_U (fun _ => True) 5 hmx ?_
    obtain ⟨W0, hW0⟩ : ∃ W0, w.drew = W0 := ⟨_, rfl⟩
    rw [hW0] at HBk0
    rw [hW0]
    clear hW0
    refine U_two (i := 0) (j := 2) (by kernel_rfl) ?_ ?_
    ·
      refine U_go rfl (fun K9 hK => ?_)
      go_simp
      have HBk1 := hide (HBk0.out.alloc HBk0.out.size (.cells M32 5))
      have HRak1 := hide (show Row (W0.alloc (.cells M32 5)) W0.heap.size 0 (bs (zr 32)) from r32 W0)
      refine hK.out _ _ (fun _ => trivial) ?_
      clear hK K9
      obtain ⟨wk1, hwk1⟩ : ∃ W, (W0.alloc (.cells M32 5)) = W := ⟨_, rfl⟩
      rw [hwk1] at HBk1 HRak1
      rw [hwk1]
      clear hwk1
      refine U_two (i := 1) (j := 2) (by kernel_rfl) ?_ ?_
      ·
        refine U_go rfl (fun K9 hK => ?_)
        go_simp
        have hx := run_textR (P := Try.prog) wk1 28 9 5 (c := 32) (n := 32) (l := zr 32) Try.underlying28 Try.underlying5 Try.underlying9 (W0.heap.size) 0 rfl rfl HRak1.out.cell
        go_simp
        clear hx
        refine hK.out _ _ (fun _ => trivial) ?_
        clear hK K9
        refine U_two (i := 2) (j := 4) (by kernel_rfl) ?_ ?_
        ·
          refine U_go rfl (fun K9 hK => ?_)
          go_simp
          have HBk2 := hide (HBk1.out.alloc HBk1.out.size (.cells M16 5))
          have HRbk2 := hide (show Row (wk1.alloc (.cells M16 5)) wk1.heap.size 0 (bs (zr 16)) from r16 wk1)
          have HRak2 := hide (HRak1.out.alloc (.cells M16 5))
          refine hK.out _ _ (fun _ => trivial) ?_
          clear hK K9
          obtain ⟨wk2, hwk2⟩ : ∃ W, (wk1.alloc (.cells M16 5)) = W := ⟨_, rfl⟩
          rw [hwk2] at HBk2 HRbk2 HRak2
          rw [hwk2]
          clear hwk2
          refine U_two (i := 3) (j := 4) (by kernel_rfl) ?_ ?_
          ·
            refine U_go rfl (fun K9 hK => ?_)
            go_simp
            have hx := run_textR (P := Try.prog) wk2 28 9 5 (c := 16) (n := 16) (l := zr 16) Try.underlying28 Try.underlying5 Try.underlying9 (wk1.heap.size) 0 rfl rfl HRbk2.out.cell
            go_simp
            clear hx
            refine hK.out _ _ (fun _ => trivial) ?_
            clear hK K9
            refine U_one (i := 4) (by kernel_rfl) ?_
            refine U_go rfl (fun K9 hK => ?_)
            go_simp
            
            refine hK.out _ _ (fun _ => trivial) ?_
            clear hK K9
            refine U_one (i := 5) (by kernel_rfl) ?_
            refine U_go rfl (fun K9 hK => ?_)
            go_simp
            
            refine hK.out _ _ (fun _ => trivial) ?_
            clear hK K9
            refine U_end (by kernel_rfl) ?_
            exact ⟨W0.heap.size, wk1.heap.size, rfl, HBk2.out⟩
          ·
            refine U_go rfl (fun K9 hK => ?_)
            go_simp
            
            refine hK.out _ _ (fun _ => trivial) ?_
            clear hK K9
            refine U_one (i := 3) (by kernel_rfl) ?_
            refine U_go rfl (fun K9 hK => ?_)
            go_simp
            have hx := run_textR (P := Try.prog) wk2 28 9 5 (c := 16) (n := 16) (l := zr 16) Try.underlying28 Try.underlying5 Try.underlying9 (wk1.heap.size) 0 rfl rfl HRbk2.out.cell
            go_simp
            clear hx
            refine hK.out _ _ (fun _ => trivial) ?_
            clear hK K9
            refine U_one (i := 5) (by kernel_rfl) ?_
            refine U_go rfl (fun K9 hK => ?_)
            go_simp
            
            refine hK.out _ _ (fun _ => trivial) ?_
            clear hK K9
            refine U_end (by kernel_rfl) ?_
            exact ⟨W0.heap.size, wk1.heap.size, rfl, HBk2.out⟩
        ·
          refine U_go rfl (fun K9 hK => ?_)
          go_simp
          
          refine hK.out _ _ (fun _ => trivial) ?_
          clear hK K9
          refine U_one (i := 2) (by kernel_rfl) ?_
          refine U_go rfl (fun K9 hK => ?_)
          go_simp
          have HBk3 := hide (HBk1.out.alloc HBk1.out.size (.cells M16 5))
          have HRbk3 := hide (show Row (wk1.alloc (.cells M16 5)) wk1.heap.size 0 (bs (zr 16)) from r16 wk1)
          have HRak3 := hide (HRak1.out.alloc (.cells M16 5))
          refine hK.out _ _ (fun _ => trivial) ?_
          clear hK K9
          obtain ⟨wk3, hwk3⟩ : ∃ W, (wk1.alloc (.cells M16 5)) = W := ⟨_, rfl⟩
          rw [hwk3] at HBk3 HRbk3 HRak3
          rw [hwk3]
          clear hwk3
          refine U_one (i := 3) (by kernel_rfl) ?_
          refine U_go rfl (fun K9 hK => ?_)
          go_simp
          have hx := run_textR (P := Try.prog) wk3 28 9 5 (c := 16) (n := 16) (l := zr 16) Try.underlying28 Try.underlying5 Try.underlying9 (wk1.heap.size) 0 rfl rfl HRbk3.out.cell
          go_simp
          clear hx
          refine hK.out _ _ (fun _ => trivial) ?_
          clear hK K9
          refine U_one (i := 5) (by kernel_rfl) ?_
          refine U_go rfl (fun K9 hK => ?_)
          go_simp
          
          refine hK.out _ _ (fun _ => trivial) ?_
          clear hK K9
          refine U_end (by kernel_rfl) ?_
          exact ⟨W0.heap.size, wk1.heap.size, rfl, HBk3.out⟩
      ·
        refine U_go rfl (fun K9 hK => ?_)
        go_simp
        have HBk4 := hide (HBk1.out.alloc HBk1.out.size (.cells M16 5))
        have HRbk4 := hide (show Row (wk1.alloc (.cells M16 5)) wk1.heap.size 0 (bs (zr 16)) from r16 wk1)
        have HRak4 := hide (HRak1.out.alloc (.cells M16 5))
        refine hK.out _ _ (fun _ => trivial) ?_
        clear hK K9
        obtain ⟨wk4, hwk4⟩ : ∃ W, (wk1.alloc (.cells M16 5)) = W := ⟨_, rfl⟩
        rw [hwk4] at HBk4 HRbk4 HRak4
        rw [hwk4]
        clear hwk4
        refine U_two (i := 1) (j := 3) (by kernel_rfl) ?_ ?_
        ·
          refine U_go rfl (fun K9 hK => ?_)
          go_simp
          have hx := run_textR (P := Try.prog) wk4 28 9 5 (c := 32) (n := 32) (l := zr 32) Try.underlying28 Try.underlying5 Try.underlying9 (W0.heap.size) 0 rfl rfl HRak4.out.cell
          go_simp
          clear hx
          refine hK.out _ _ (fun _ => trivial) ?_
          clear hK K9
          refine U_two (i := 3) (j := 4) (by kernel_rfl) ?_ ?_
          ·
            refine U_go rfl (fun K9 hK => ?_)
            go_simp
            have hx := run_textR (P := Try.prog) wk4 28 9 5 (c := 16) (n := 16) (l := zr 16) Try.underlying28 Try.underlying5 Try.underlying9 (wk1.heap.size) 0 rfl rfl HRbk4.out.cell
            go_simp
            clear hx
            refine hK.out _ _ (fun _ => trivial) ?_
            clear hK K9
            refine U_one (i := 4) (by kernel_rfl) ?_
            refine U_go rfl (fun K9 hK => ?_)
            go_simp
            
            refine hK.out _ _ (fun _ => trivial) ?_
            clear hK K9
            refine U_one (i := 5) (by kernel_rfl) ?_
            refine U_go rfl (fun K9 hK => ?_)
            go_simp
            
            refine hK.out _ _ (fun _ => trivial) ?_
            clear hK K9
            refine U_end (by kernel_rfl) ?_
            exact ⟨W0.heap.size, wk1.heap.size, rfl, HBk4.out⟩
          ·
            refine U_go rfl (fun K9 hK => ?_)
            go_simp
            
            refine hK.out _ _ (fun _ => trivial) ?_
            clear hK K9
            refine U_one (i := 3) (by kernel_rfl) ?_
            refine U_go rfl (fun K9 hK => ?_)
            go_simp
            have hx := run_textR (P := Try.prog) wk4 28 9 5 (c := 16) (n := 16) (l := zr 16) Try.underlying28 Try.underlying5 Try.underlying9 (wk1.heap.size) 0 rfl rfl HRbk4.out.cell
            go_simp
            clear hx
            refine hK.out _ _ (fun _ => trivial) ?_
            clear hK K9
            refine U_one (i := 5) (by kernel_rfl) ?_
            refine U_go rfl (fun K9 hK => ?_)
            go_simp
            
            refine hK.out _ _ (fun _ => trivial) ?_
            clear hK K9
            refine U_end (by kernel_rfl) ?_
            exact ⟨W0.heap.size, wk1.heap.size, rfl, HBk4.out⟩
        ·
          refine U_go rfl (fun K9 hK => ?_)
          go_simp
          have hx := run_textR (P := Try.prog) wk4 28 9 5 (c := 16) (n := 16) (l := zr 16) Try.underlying28 Try.underlying5 Try.underlying9 (wk1.heap.size) 0 rfl rfl HRbk4.out.cell
          go_simp
          clear hx
          refine hK.out _ _ (fun _ => trivial) ?_
          clear hK K9
          refine U_one (i := 1) (by kernel_rfl) ?_
          refine U_go rfl (fun K9 hK => ?_)
          go_simp
          have hx := run_textR (P := Try.prog) wk4 28 9 5 (c := 32) (n := 32) (l := zr 32) Try.underlying28 Try.underlying5 Try.underlying9 (W0.heap.size) 0 rfl rfl HRak4.out.cell
          go_simp
          clear hx
          refine hK.out _ _ (fun _ => trivial) ?_
          clear hK K9
          refine U_one (i := 4) (by kernel_rfl) ?_
          refine U_go rfl (fun K9 hK => ?_)
          go_simp
          
          refine hK.out _ _ (fun _ => trivial) ?_
          clear hK K9
          refine U_one (i := 5) (by kernel_rfl) ?_
          refine U_go rfl (fun K9 hK => ?_)
          go_simp
          
          refine hK.out _ _ (fun _ => trivial) ?_
          clear hK K9
          refine U_end (by kernel_rfl) ?_
          exact ⟨W0.heap.size, wk1.heap.size, rfl, HBk4.out⟩
    ·
      refine U_go rfl (fun K9 hK => ?_)
      go_simp
      have HBk5 := hide (HBk0.out.alloc HBk0.out.size (.cells M16 5))
      have HRbk5 := hide (show Row (W0.alloc (.cells M16 5)) W0.heap.size 0 (bs (zr 16)) from r16 W0)
      refine hK.out _ _ (fun _ => trivial) ?_
      clear hK K9
      obtain ⟨wk5, hwk5⟩ : ∃ W, (W0.alloc (.cells M16 5)) = W := ⟨_, rfl⟩
      rw [hwk5] at HBk5 HRbk5
      rw [hwk5]
      clear hwk5
      refine U_two (i := 0) (j := 3) (by kernel_rfl) ?_ ?_
      ·
        refine U_go rfl (fun K9 hK => ?_)
        go_simp
        have HBk6 := hide (HBk5.out.alloc HBk5.out.size (.cells M32 5))
        have HRak6 := hide (show Row (wk5.alloc (.cells M32 5)) wk5.heap.size 0 (bs (zr 32)) from r32 wk5)
        have HRbk6 := hide (HRbk5.out.alloc (.cells M32 5))
        refine hK.out _ _ (fun _ => trivial) ?_
        clear hK K9
        obtain ⟨wk6, hwk6⟩ : ∃ W, (wk5.alloc (.cells M32 5)) = W := ⟨_, rfl⟩
        rw [hwk6] at HBk6 HRak6 HRbk6
        rw [hwk6]
        clear hwk6
        refine U_two (i := 1) (j := 3) (by kernel_rfl) ?_ ?_
        ·
          refine U_go rfl (fun K9 hK => ?_)
          go_simp
          have hx := run_textR (P := Try.prog) wk6 28 9 5 (c := 32) (n := 32) (l := zr 32) Try.underlying28 Try.underlying5 Try.underlying9 (wk5.heap.size) 0 rfl rfl HRak6.out.cell
          go_simp
          clear hx
          refine hK.out _ _ (fun _ => trivial) ?_
          clear hK K9
          refine U_two (i := 3) (j := 4) (by kernel_rfl) ?_ ?_
          ·
            refine U_go rfl (fun K9 hK => ?_)
            go_simp
            have hx := run_textR (P := Try.prog) wk6 28 9 5 (c := 16) (n := 16) (l := zr 16) Try.underlying28 Try.underlying5 Try.underlying9 (W0.heap.size) 0 rfl rfl HRbk6.out.cell
            go_simp
            clear hx
            refine hK.out _ _ (fun _ => trivial) ?_
            clear hK K9
            refine U_one (i := 4) (by kernel_rfl) ?_
            refine U_go rfl (fun K9 hK => ?_)
            go_simp
            
            refine hK.out _ _ (fun _ => trivial) ?_
            clear hK K9
            refine U_one (i := 5) (by kernel_rfl) ?_
            refine U_go rfl (fun K9 hK => ?_)
            go_simp
            
            refine hK.out _ _ (fun _ => trivial) ?_
            clear hK K9
            refine U_end (by kernel_rfl) ?_
            exact ⟨wk5.heap.size, W0.heap.size, rfl, HBk6.out⟩
          ·
            refine U_go rfl (fun K9 hK => ?_)
            go_simp
            
            refine hK.out _ _ (fun _ => trivial) ?_
            clear hK K9
            refine U_one (i := 3) (by kernel_rfl) ?_
            refine U_go rfl (fun K9 hK => ?_)
            go_simp
            have hx := run_textR (P := Try.prog) wk6 28 9 5 (c := 16) (n := 16) (l := zr 16) Try.underlying28 Try.underlying5 Try.underlying9 (W0.heap.size) 0 rfl rfl HRbk6.out.cell
            go_simp
            clear hx
            refine hK.out _ _ (fun _ => trivial) ?_
            clear hK K9
            refine U_one (i := 5) (by kernel_rfl) ?_
            refine U_go rfl (fun K9 hK => ?_)
            go_simp
            
            refine hK.out _ _ (fun _ => trivial) ?_
            clear hK K9
            refine U_end (by kernel_rfl) ?_
            exact ⟨wk5.heap.size, W0.heap.size, rfl, HBk6.out⟩
        ·
          refine U_go rfl (fun K9 hK => ?_)
          go_simp
          have hx := run_textR (P := Try.prog) wk6 28 9 5 (c := 16) (n := 16) (l := zr 16) Try.underlying28 Try.underlying5 Try.underlying9 (W0.heap.size) 0 rfl rfl HRbk6.out.cell
          go_simp
          clear hx
          refine hK.out _ _ (fun _ => trivial) ?_
          clear hK K9
          refine U_one (i := 1) (by kernel_rfl) ?_
          refine U_go rfl (fun K9 hK => ?_)
          go_simp
          have hx := run_textR (P := Try.prog) wk6 28 9 5 (c := 32) (n := 32) (l := zr 32) Try.underlying28 Try.underlying5 Try.underlying9 (wk5.heap.size) 0 rfl rfl HRak6.out.cell
          go_simp
          clear hx
          refine hK.out _ _ (fun _ => trivial) ?_
          clear hK K9
          refine U_one (i := 4) (by kernel_rfl) ?_
          refine U_go rfl (fun K9 hK => ?_)
          go_simp
          
          refine hK.out _ _ (fun _ => trivial) ?_
          clear hK K9
          refine U_one (i := 5) (by kernel_rfl) ?_
          refine U_go rfl (fun K9 hK => ?_)
          go_simp
          
          refine hK.out _ _ (fun _ => trivial) ?_
          clear hK K9
          refine U_end (by kernel_rfl) ?_
          exact ⟨wk5.heap.size, W0.heap.size, rfl, HBk6.out⟩
      ·
        refine U_go rfl (fun K9 hK => ?_)
        go_simp
        have hx := run_textR (P := Try.prog) wk5 28 9 5 (c := 16) (n := 16) (l := zr 16) Try.underlying28 Try.underlying5 Try.underlying9 (W0.heap.size) 0 rfl rfl HRbk5.out.cell
        go_simp
        clear hx
        refine hK.out _ _ (fun _ => trivial) ?_
        clear hK K9
        refine U_one (i := 0) (by kernel_rfl) ?_
        refine U_go rfl (fun K9 hK => ?_)
        go_simp
        have HBk7 := hide (HBk5.out.alloc HBk5.out.size (.cells M32 5))
        have HRak7 := hide (show Row (wk5.alloc (.cells M32 5)) wk5.heap.size 0 (bs (zr 32)) from r32 wk5)
        have HRbk7 := hide (HRbk5.out.alloc (.cells M32 5))
        refine hK.out _ _ (fun _ => trivial) ?_
        clear hK K9
        obtain ⟨wk7, hwk7⟩ : ∃ W, (wk5.alloc (.cells M32 5)) = W := ⟨_, rfl⟩
        rw [hwk7] at HBk7 HRak7 HRbk7
        rw [hwk7]
        clear hwk7
        refine U_one (i := 1) (by kernel_rfl) ?_
        refine U_go rfl (fun K9 hK => ?_)
        go_simp
        have hx := run_textR (P := Try.prog) wk7 28 9 5 (c := 32) (n := 32) (l := zr 32) Try.underlying28 Try.underlying5 Try.underlying9 (wk5.heap.size) 0 rfl rfl HRak7.out.cell
        go_simp
        clear hx
        refine hK.out _ _ (fun _ => trivial) ?_
        clear hK K9
        refine U_one (i := 4) (by kernel_rfl) ?_
        refine U_go rfl (fun K9 hK => ?_)
        go_simp
        
        refine hK.out _ _ (fun _ => trivial) ?_
        clear hK K9
        refine U_one (i := 5) (by kernel_rfl) ?_
        refine U_go rfl (fun K9 hK => ?_)
        go_simp
        
        refine hK.out _ _ (fun _ => trivial) ?_
        clear hK K9
        refine U_end (by kernel_rfl) ?_
        exact ⟨wk5.heap.size, W0.heap.size, rfl, HBk7.out⟩
  rintro a0 w0 ⟨x, y, rfl, hB⟩
  clear m32 m16 r32 r16 HBk0
  obtain ⟨K, eK⟩ : ∃ K, z32 = K := ⟨_, rfl⟩
  obtain ⟨X, eX⟩ : ∃ X, z16 = X := ⟨_, rfl⟩
  have zK : K.size = 32 := by rw [← eK]; exact z32_size
  have zX : X.size = 16 := by rw [← eX]; exact z16_size
  obtain ⟨K1, eK1⟩ : ∃ Z, K.extract 1 32 = Z := ⟨_, rfl⟩
  obtain ⟨X1, eX1⟩ : ∃ Z, X.extract 1 16 = Z := ⟨_, rfl⟩
  obtain ⟨K3, eK3⟩ : ∃ Z, K ++ (⟨#[120]⟩ : ByteArray) = Z := ⟨_, rfl⟩
  obtain ⟨X3, eX3⟩ : ∃ Z, X ++ (⟨#[120]⟩ : ByteArray) = Z := ⟨_, rfl⟩
  have zK1 : K1.size = 31 := by rw [← eK1, ByteArray.size_extract]; omega
  have zX1 : X1.size = 15 := by rw [← eX1, ByteArray.size_extract]; omega
  have zK3 : K3.size = 33 := by rw [← eK3, ByteArray.size_append, zK]; rfl
  have zX3 : X3.size = 17 := by rw [← eX3, ByteArray.size_append, zX]; rfl
  have s1 : ∀ w, (Instr.slice 9 (.string K) (some (.int .i64 1)) none none).run Try.prog w = .ok (.string K1) w := fun w => by
    rw [run_slice_string_l (P := Try.prog) w 9 K Try.underlying9 .i64 1 (by decide) (by omega), show ((1 : Int).toNat) = 1 from rfl, zK, eK1]
  have s2 : ∀ w, (Instr.slice 9 (.string X) (some (.int .i64 1)) none none).run Try.prog w = .ok (.string X1) w := fun w => by
    rw [run_slice_string_l (P := Try.prog) w 9 X Try.underlying9 .i64 1 (by decide) (by omega), show ((1 : Int).toNat) = 1 from rfl, zX, eX1]
  obtain ⟨N, hN⟩ : ∃ N, N = 1048577 := ⟨_, rfl⟩
  obtain ⟨MB, ZB, zB, mB, cB⟩ := nz_text N hN
  have nI : (N : Int) = 1048577 := by omega
  rw [nI] at mB
  have HL := hide (show (K1.size ≠ 32 ∨ X.size ≠ 16) ∧ (K.size ≠ 32 ∨ X1.size ≠ 16) ∧ (K3.size ≠ 32 ∨ X.size ≠ 16) ∧ (K.size ≠ 32 ∨ X3.size ≠ 16) ∧ K.size = 32 ∧ X.size = 16 ∧ (X1.size = 0 ∨ X1.size % 16 ≠ 0) ∧ 1048576 < ZB.size from ⟨by omega, by omega, by omega, by omega, zK, zX, by omega, by omega⟩)
  rw [eK, eX]
  have HS0 := hide hB
  clear eK eX eK1 eX1 zK1 zX1 zK3 zX3 nI hB zB hN
  go_wp2_with fail
  refine (cSeal_bad K1 X ⟨#[]⟩ _ HL.out.1).mono ?_
  rintro e w1 ⟨rfl, hB⟩
  have HS1 := hide (show Below w.heap.size w w1 from HS0.out.trans (hB.mono HS0.out.size))
  clear HS0 hB
  go_wp2_with fail
  refine (cSeal_bad K X1 ⟨#[]⟩ _ HL.out.2.1).mono ?_
  rintro e w2 ⟨rfl, hB⟩
  have HS2 := hide (show Below w.heap.size w w2 from HS1.out.trans (hB.mono HS1.out.size))
  clear HS1 hB
  go_wp2_with fail
  refine (cOpen_bad K3 X X _ HL.out.2.2.1).mono ?_
  rintro e w3 ⟨rfl, hB⟩
  have HS3 := hide (show Below w.heap.size w w3 from HS2.out.trans (hB.mono HS2.out.size))
  clear HS2 hB
  go_wp2_with fail
  refine (cOpen_bad K X3 X _ HL.out.2.2.2.1).mono ?_
  rintro e w4 ⟨rfl, hB⟩
  have HS4 := hide (show Below w.heap.size w w4 from HS3.out.trans (hB.mono HS3.out.size))
  clear HS3 hB
  go_wp2_with fail
  refine (cOpen_form K X ⟨#[]⟩ _ HL.out.2.2.2.2.1 HL.out.2.2.2.2.2.1 (.inl rfl)).mono ?_
  rintro e w5 ⟨rfl, hB⟩
  have HS5 := hide (show Below w.heap.size w w5 from HS4.out.trans (hB.mono HS4.out.size))
  clear HS4 hB
  go_wp2_with fail
  refine (cOpen_form K X X1 _ HL.out.2.2.2.2.1 HL.out.2.2.2.2.2.1 HL.out.2.2.2.2.2.2.1).mono ?_
  rintro e w6 ⟨rfl, hB⟩
  have HS6 := hide (show Below w.heap.size w w6 from HS5.out.trans (hB.mono HS5.out.size))
  clear HS5 hB
  go_wp2_with fail
  obtain ⟨wz, hwz, bz⟩ : ∃ W, w6.alloc (.cells MB 5) = W ∧ Below w.heap.size w W := ⟨_, rfl, HS6.out.alloc HS6.out.size _⟩
  rw [hwz]
  have HSz := hide bz
  clear hwz bz HS6 mB cB s1 s2
  refine (cSeal_big K X ZB _ HL.out.2.2.2.2.1 HL.out.2.2.2.2.2.1 HL.out.2.2.2.2.2.2.2).mono ?_
  rintro e w8 ⟨rfl, hB⟩
  have HS8 := hide (show Below w.heap.size w w8 from HSz.out.trans (hB.mono HSz.out.size))
  clear HSz hB
  go_wp2_with fail
  refine (awakeC_any _).mono ?_
  rintro e w9 ⟨rfl, hB⟩
  have HS9 := hide (show Below w.heap.size w w9 from HS8.out.trans (hB.mono HS8.out.size))
  clear HS8 hB
  go_wp2_with fail
  go_ret
  exact ⟨rfl, HS9.out⟩

theorem cbcNames_own : ownKnob Try.prog.godebug = none := by kernel_rfl
theorem cbcNames_laidOut : laidOutB Try.prog = true := by kernel_rfl

set_option maxRecDepth 100000 in
theorem cbcNames_lifted (os : Os) (started : os.Started) (H : Type) (enc : TypeId × Value → H) :
    ReturnsInHanded {} Try.checked os 4 .any (Rows.cbcNamesSpec.pre6 enc Try.prog Try.f4 Rows.cbcNamesRow.domain false) (Rows.cbcNamesSpec.post enc Try.prog Try.f4 false true false false) := by
  refine returnsInHanded_of_change_sized (C := Try.checked) cbcNames_own started (by kernel_rfl) Try.func4
    (ChangeSpec.witness6 (enc := enc) (C := Try.checked) false ⟨#[], #[], []⟩ 8 (by kernel_rfl) (by kernel_rfl) (by kernel_rfl) (by kernel_rfl)) ?_
  intro W base args ds gs before hval0 hW hcnd hsz0 _
  have hval : ∀ (j : Nat) t v, Try.f4.params[j]? = some t → args[j]? = some v → Value.okWide Try.prog W .any base t v := hval0
  have hW' := hW
  obtain ⟨p, q, hA0, hV, rfl, hfz, hnd⟩ := hW
  have hA : DataW.TrodAll enc Try.prog W 0 (fun _ => true) true Try.f4.params.toList args.toList ds p := hA0
  rw [Try.params4] at hA hval
  obtain ⟨rfl, rfl, rfl⟩ := trodAll_none hA
  obtain ⟨rfl, rfl⟩ := trodVars_none hV
  clear hA0 hval0 hsz0
  simp only [List.append_nil] at hW'
  refine (cbcNames_any W ).mono fun e W' ⟨he, bel⟩ => ?_
  subst he
  exact ⟨_, rfl, _, _, _, [], [], [], hW', trodAll_mk1 (shut_bool Try.underlying4 _), rfl, rfl, bel.frame _, fun h => by cases h⟩

theorem cbcNames_holds : Rows.CbcNamesSaid :=
  OpenClaim.holds_of_wide 4 Try.f4 rfl rfl rfl rfl rfl rfl rfl ⟨rfl, rfl, rfl, rfl, rfl⟩ rfl rfl rfl rfl rfl (by kernel_rfl) Try.func4 (by kernel_rfl)
    (of_decide_eq_true (by kernel_rfl)) (by unfold Func.isWrapper; first | (rw [if_pos (by decide +kernel)]; kernel_rfl) | (rw [if_neg (by decide +kernel)]; exact ⟨rfl, rfl⟩))
    (fun os started H enc _ => cbcNames_lifted os started H enc)

#print axioms cbcNames_holds

end Go.Proofs.Ytknjmmbebkcnpaa
