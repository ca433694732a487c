/- Several texts of ours, one behind the other; what each is for stands ahead of it. -/
import Derived.Test.YtknjmmbebkcnpaaRun11
import Derived.Test.YtknjmmbebkcnpaaRun12
import Derived.Test.YtknjmmbebkcnpaaRun2
import Derived.Test.YtknjmmbebkcnpaaRun3
import Derived.SizedLaws
import Derived.Test.YtknjmmbebkcnpaaRun4

/- What each statement on chains asks first: the examples, walked. -/
namespace Go.Proofs.Ytknjmmbebkcnpaa
open Go.RowKit Bk
set_option linter.unusedVariables false
set_option linter.unusedSimpArgs false

/-- The examples' texts. -/
def ab2 : ByteArray := ⟨#[97, 98]⟩
def fr2 : ByteArray := ⟨#[0, 0, 0, 0, 0, 0, 0, 2, 97, 98, 0, 0, 0, 0, 0, 0]⟩
def z32 : ByteArray := ⟨(zr 32).toArray⟩
def z16 : ByteArray := ⟨(zr 16).toArray⟩
theorem z32_size : z32.size = 32 := by rw [← sb_length]; show (zr 32).length = 32; exact zr_length 32
theorem z16_size : z16.size = 16 := by rw [← sb_length]; show (zr 16).length = 16; exact zr_length 16
theorem frm_ab : frm ab2 = fr2 := by decide +kernel
theorem frm_nil : frm ⟨#[]⟩ = z16 := by decide +kernel
theorem se_ab {K : ByteArray} (hk : K.size = 32) : seT K z16 ab2 = et K fr2 := by
  have hf : fr (sb ab2) = sb fr2 := by rw [← frm_sb, frm_ab]
  have hb : blk (sb fr2) 0 = sb fr2 := by decide +kernel
  have hc : comb (sb fr2) (sb z16) = sb fr2 := by decide +kernel
  unfold seT et sl
  rw [hf]
  show (⟨(cat (cE (enc (kw K)) (sb z16) (sb fr2)) 1).toArray⟩ : ByteArray) = _
  show (⟨([] ++ enc (kw K) (comb (blk (sb fr2) 0) (sb z16))).toArray⟩ : ByteArray) = _
  rw [hb, hc, List.nil_append]
set_option maxRecDepth 100000 in
set_option maxHeartbeats 2000000 in
theorem awakeC_any (w : World) : Calls Try.prog 9 #[] w fun e w' => e = .returned (.bool true) ∧ Below w.heap.size w w' := by
  have hmx : Try.prog.follows .mixedOrders = true := by kernel_rfl
  obtain ⟨M32, d32⟩ : ∃ M, madeCells #[.int .u8 0] 32 = M := ⟨_, rfl⟩
  obtain ⟨M16, d16⟩ : ∃ M, madeCells #[.int .u8 0] 16 = M := ⟨_, rfl⟩
  have m32 : ∀ w, (Instr.makeSlice 28 (.int .i64 32) (.int .i64 32)).run Try.prog w = .ok (.slice (some ⟨w.heap.size, 0, none⟩) 32 32) (w.alloc (.cells M32 5)) := by rw [← d32]; exact mk_bytes 32 (by decide)
  have m16 : ∀ w, (Instr.makeSlice 28 (.int .i64 16) (.int .i64 16)).run Try.prog w = .ok (.slice (some ⟨w.heap.size, 0, none⟩) 16 16) (w.alloc (.cells M16 5)) := by rw [← d16]; exact mk_bytes 16 (by decide)
  have r32 : ∀ w : World, Row (w.alloc (.cells M32 5)) w.heap.size 0 (bs (zr 32)) := by rw [← d32]; exact fun w => row_made w 32
  have r16 : ∀ w : World, Row (w.alloc (.cells M16 5)) w.heap.size 0 (bs (zr 16)) := by rw [← d16]; exact fun w => row_made w 16
  clear d32 d16
  have HBk0 := hide (show Below w.heap.size w w.drew from (Below.refl _ w).drew)
  go_enter Try.func9, Try.ntmps9
  go_wp2_with fail
  refine wp_only (R := fun a' w' => ∃ x y : Nat, a' = { tmps := #[.bool false, .string z32, .string z16, undef, undef, undef, undef, undef, undef, undef, undef, undef, undef, .slice (some ⟨x, 0, none⟩) 32 32, .string z32, .slice (some ⟨y, 0, none⟩) 16 16, .string z16, undef, undef, undef, undef, undef, undef, undef, undef, undef, undef, undef, undef, undef, undef, undef, undef, undef, undef, undef, undef, undef, undef, undef, undef, undef, undef, undef, undef, undef, undef, undef, undef, undef, undef, undef, undef, undef, undef, undef, undef, undef, undef, undef, undef, undef, undef, undef, undef, undef, undef, undef, undef, undef, undef, undef, undef, undef, undef, undef, undef, undef, undef, undef, undef, undef, undef, undef, undef], defers := [] } ∧ Below w.heap.size w w') ?r ?k
  case r =>
    refine wp_region_U (fun _ => True) 5 hmx ?_
    obtain ⟨W0, hW0⟩ : ∃ W0, w.drew = W0 := ⟨_, rfl⟩
    rw [hW0] at HBk0
    rw [hW0]
    clear hW0
    refine U_two (i := 0) (j := 2) (by kernel_rfl) ?_ ?_
    ·
      refine U_go rfl (fun K9 hK => ?_)
      go_simp
      have HBk1 := hide (HBk0.out.alloc HBk0.out.size (.cells M32 5))
      have HRak1 := hide (show Row (W0.alloc (.cells M32 5)) W0.heap.size 0 (bs (zr 32)) from r32 W0)
      refine hK.out _ _ (fun _ => trivial) ?_
      clear hK K9
      obtain ⟨wk1, hwk1⟩ : ∃ W, (W0.alloc (.cells M32 5)) = W := ⟨_, rfl⟩
      rw [hwk1] at HBk1 HRak1
      rw [hwk1]
      clear hwk1
      refine U_two (i := 1) (j := 2) (by kernel_rfl) ?_ ?_
      ·
        refine U_go rfl (fun K9 hK => ?_)
        go_simp
        have hx := run_textR (P := Try.prog) wk1 28 9 5 (c := 32) (n := 32) (l := zr 32) Try.underlying28 Try.underlying5 Try.underlying9 (W0.heap.size) 0 rfl rfl HRak1.out.cell
        go_simp
        clear hx
        refine hK.out _ _ (fun _ => trivial) ?_
        clear hK K9
        refine U_two (i := 2) (j := 4) (by kernel_rfl) ?_ ?_
        ·
          refine U_go rfl (fun K9 hK => ?_)
          go_simp
          have HBk2 := hide (HBk1.out.alloc HBk1.out.size (.cells M16 5))
          have HRbk2 := hide (show Row (wk1.alloc (.cells M16 5)) wk1.heap.size 0 (bs (zr 16)) from r16 wk1)
          have HRak2 := hide (HRak1.out.alloc (.cells M16 5))
          refine hK.out _ _ (fun _ => trivial) ?_
          clear hK K9
          obtain ⟨wk2, hwk2⟩ : ∃ W, (wk1.alloc (.cells M16 5)) = W := ⟨_, rfl⟩
          rw [hwk2] at HBk2 HRbk2 HRak2
          rw [hwk2]
          clear hwk2
          refine U_two (i := 3) (j := 4) (by kernel_rfl) ?_ ?_
          ·
            refine U_go rfl (fun K9 hK => ?_)
            go_simp
            have hx := run_textR (P := Try.prog) wk2 28 9 5 (c := 16) (n := 16) (l := zr 16) Try.underlying28 Try.underlying5 Try.underlying9 (wk1.heap.size) 0 rfl rfl HRbk2.out.cell
            go_simp
            clear hx
            refine hK.out _ _ (fun _ => trivial) ?_
            clear hK K9
            refine U_one (i := 4) (by kernel_rfl) ?_
            refine U_go rfl (fun K9 hK => ?_)
            go_simp
            
            refine hK.out _ _ (fun _ => trivial) ?_
            clear hK K9
            refine U_one (i := 5) (by kernel_rfl) ?_
            refine U_go rfl (fun K9 hK => ?_)
            go_simp
            
            refine hK.out _ _ (fun _ => trivial) ?_
            clear hK K9
            refine U_end (by kernel_rfl) ?_
            exact ⟨W0.heap.size, wk1.heap.size, rfl, HBk2.out⟩
          ·
            refine U_go rfl (fun K9 hK => ?_)
            go_simp
            
            refine hK.out _ _ (fun _ => trivial) ?_
            clear hK K9
            refine U_one (i := 3) (by kernel_rfl) ?_
            refine U_go rfl (fun K9 hK => ?_)
            go_simp
            have hx := run_textR (P := Try.prog) wk2 28 9 5 (c := 16) (n := 16) (l := zr 16) Try.underlying28 Try.underlying5 Try.underlying9 (wk1.heap.size) 0 rfl rfl HRbk2.out.cell
            go_simp
            clear hx
            refine hK.out _ _ (fun _ => trivial) ?_
            clear hK K9
            refine U_one (i := 5) (by kernel_rfl) ?_
            refine U_go rfl (fun K9 hK => ?_)
            go_simp
            
            refine hK.out _ _ (fun _ => trivial) ?_
            clear hK K9
            refine U_end (by kernel_rfl) ?_
            exact ⟨W0.heap.size, wk1.heap.size, rfl, HBk2.out⟩
        ·
          refine U_go rfl (fun K9 hK => ?_)
          go_simp
          
          refine hK.out _ _ (fun _ => trivial) ?_
          clear hK K9
          refine U_one (i := 2) (by kernel_rfl) ?_
          refine U_go rfl (fun K9 hK => ?_)
          go_simp
          have HBk3 := hide (HBk1.out.alloc HBk1.out.size (.cells M16 5))
          have HRbk3 := hide (show Row (wk1.alloc (.cells M16 5)) wk1.heap.size 0 (bs (zr 16)) from r16 wk1)
          have HRak3 := hide (HRak1.out.alloc (.cells M16 5))
          refine hK.out _ _ (fun _ => trivial) ?_
          clear hK K9
          obtain ⟨wk3, hwk3⟩ : ∃ W, (wk1.alloc (.cells M16 5)) = W := ⟨_, rfl⟩
          rw [hwk3] at HBk3 HRbk3 HRak3
          rw [hwk3]
          clear hwk3
          refine U_one (i := 3) (by kernel_rfl) ?_
          refine U_go rfl (fun K9 hK => ?_)
          go_simp
          have hx := run_textR (P := Try.prog) wk3 28 9 5 (c := 16) (n := 16) (l := zr 16) Try.underlying28 Try.underlying5 Try.underlying9 (wk1.heap.size) 0 rfl rfl HRbk3.out.cell
          go_simp
          clear hx
          refine hK.out _ _ (fun _ => trivial) ?_
          clear hK K9
          refine U_one (i := 5) (by kernel_rfl) ?_
          refine U_go rfl (fun K9 hK => ?_)
          go_simp
          
          refine hK.out _ _ (fun _ => trivial) ?_
          clear hK K9
          refine U_end (by kernel_rfl) ?_
          exact ⟨W0.heap.size, wk1.heap.size, rfl, HBk3.out⟩
      ·
        refine U_go rfl (fun K9 hK => ?_)
        go_simp
        have HBk4 := hide (HBk1.out.alloc HBk1.out.size (.cells M16 5))
        have HRbk4 := hide (show Row (wk1.alloc (.cells M16 5)) wk1.heap.size 0 (bs (zr 16)) from r16 wk1)
        have HRak4 := hide (HRak1.out.alloc (.cells M16 5))
        refine hK.out _ _ (fun _ => trivial) ?_
        clear hK K9
        obtain ⟨wk4, hwk4⟩ : ∃ W, (wk1.alloc (.cells M16 5)) = W := ⟨_, rfl⟩
        rw [hwk4] at HBk4 HRbk4 HRak4
        rw [hwk4]
        clear hwk4
        refine U_two (i := 1) (j := 3) (by kernel_rfl) ?_ ?_
        ·
          refine U_go rfl (fun K9 hK => ?_)
          go_simp
          have hx := run_textR (P := Try.prog) wk4 28 9 5 (c := 32) (n := 32) (l := zr 32) Try.underlying28 Try.underlying5 Try.underlying9 (W0.heap.size) 0 rfl rfl HRak4.out.cell
          go_simp
          clear hx
          refine hK.out _ _ (fun _ => trivial) ?_
          clear hK K9
          refine U_two (i := 3) (j := 4) (by kernel_rfl) ?_ ?_
          ·
            refine U_go rfl (fun K9 hK => ?_)
            go_simp
            have hx := run_textR (P := Try.prog) wk4 28 9 5 (c := 16) (n := 16) (l := zr 16) Try.underlying28 Try.underlying5 Try.underlying9 (wk1.heap.size) 0 rfl rfl HRbk4.out.cell
            go_simp
            clear hx
            refine hK.out _ _ (fun _ => trivial) ?_
            clear hK K9
            refine U_one (i := 4) (by kernel_rfl) ?_
            refine U_go rfl (fun K9 hK => ?_)
            go_simp
            
            refine hK.out _ _ (fun _ => trivial) ?_
            clear hK K9
            refine U_one (i := 5) (by kernel_rfl) ?_
            refine U_go rfl (fun K9 hK => ?_)
            go_simp
            
            refine hK.out _ _ (fun _ => trivial) ?_
            clear hK K9
            refine U_end (by kernel_rfl) ?_
            exact ⟨W0.heap.size, wk1.heap.size, rfl, HBk4.out⟩
          ·
            refine U_go rfl (fun K9 hK => ?_)
            go_simp
            
            refine hK.out _ _ (fun _ => trivial) ?_
            clear hK K9
            refine U_one (i := 3) (by kernel_rfl) ?_
            refine U_go rfl (fun K9 hK => ?_)
            go_simp
            have hx := run_textR (P := Try.prog) wk4 28 9 5 (c := 16) (n := 16) (l := zr 16) Try.underlying28 Try.underlying5 Try.underlying9 (wk1.heap.size) 0 rfl rfl HRbk4.out.cell
            go_simp
            clear hx
            refine hK.out _ _ (fun _ => trivial) ?_
            clear hK K9
            refine U_one (i := 5) (by kernel_rfl) ?_
            refine U_go rfl (fun K9 hK => ?_)
            go_simp
            
            refine hK.out _ _ (fun _ => trivial) ?_
            clear hK K9
            refine U_end (by kernel_rfl) ?_
            exact ⟨W0.heap.size, wk1.heap.size, rfl, HBk4.out⟩
        ·
          refine U_go rfl (fun K9 hK => ?_)
          go_simp
          have hx := run_textR (P := Try.prog) wk4 28 9 5 (c := 16) (n := 16) (l := zr 16) Try.underlying28 Try.underlying5 Try.underlying9 (wk1.heap.size) 0 rfl rfl HRbk4.out.cell
          go_simp
          clear hx
          refine hK.out _ _ (fun _ => trivial) ?_
          clear hK K9
          refine U_one (i := 1) (by kernel_rfl) ?_
          refine U_go rfl (fun K9 hK => ?_)
          go_simp
          have hx := run_textR (P := Try.prog) wk4 28 9 5 (c := 32) (n := 32) (l := zr 32) Try.underlying28 Try.underlying5 Try.underlying9 (W0.heap.size) 0 rfl rfl HRak4.out.cell
          go_simp
          clear hx
          refine hK.out _ _ (fun _ => trivial) ?_
          clear hK K9
          refine U_one (i := 4) (by kernel_rfl) ?_
          refine U_go rfl (fun K9 hK => ?_)
          go_simp
          
          refine hK.out _ _ (fun _ => trivial) ?_
          clear hK K9
          refine U_one (i := 5) (by kernel_rfl) ?_
          refine U_go rfl (fun K9 hK => ?_)
          go_simp
          
          refine hK.out _ _ (fun _ => trivial) ?_
          clear hK K9
          refine U_end (by kernel_rfl) ?_
          exact ⟨W0.heap.size, wk1.heap.size, rfl, HBk4.out⟩
    ·
      refine U_go rfl (fun K9 hK => ?_)
      go_simp
      have HBk5 := hide (HBk0.out.alloc HBk0.out.size (.cells M16 5))
      have HRbk5 := hide (show Row (W0.alloc (.cells M16 5)) W0.heap.size 0 (bs (zr 16)) from r16 W0)
      refine hK.out _ _ (fun _ => trivial) ?_
      clear hK K9
      obtain ⟨wk5, hwk5⟩ : ∃ W, (W0.alloc (.cells M16 5)) = W := ⟨_, rfl⟩
      rw [hwk5] at HBk5 HRbk5
      rw [hwk5]
      clear hwk5
      refine U_two (i := 0) (j := 3) (by kernel_rfl) ?_ ?_
      ·
        refine U_go rfl (fun K9 hK => ?_)
        go_simp
        have HBk6 := hide (HBk5.out.alloc HBk5.out.size (.cells M32 5))
        have HRak6 := hide (show Row (wk5.alloc (.cells M32 5)) wk5.heap.size 0 (bs (zr 32)) from r32 wk5)
        have HRbk6 := hide (HRbk5.out.alloc (.cells M32 5))
        refine hK.out _ _ (fun _ => trivial) ?_
        clear hK K9
        obtain ⟨wk6, hwk6⟩ : ∃ W, (wk5.alloc (.cells M32 5)) = W := ⟨_, rfl⟩
        rw [hwk6] at HBk6 HRak6 HRbk6
        rw [hwk6]
        clear hwk6
        refine U_two (i := 1) (j := 3) (by kernel_rfl) ?_ ?_
        ·
          refine U_go rfl (fun K9 hK => ?_)
          go_simp
          have hx := run_textR (P := Try.prog) wk6 28 9 5 (c := 32) (n := 32) (l := zr 32) Try.underlying28 Try.underlying5 Try.underlying9 (wk5.heap.size) 0 rfl rfl HRak6.out.cell
          go_simp
          clear hx
          refine hK.out _ _ (fun _ => trivial) ?_
          clear hK K9
          refine U_two (i := 3) (j := 4) (by kernel_rfl) ?_ ?_
          ·
            refine U_go rfl (fun K9 hK => ?_)
            go_simp
            have hx := run_textR (P := Try.prog) wk6 28 9 5 (c := 16) (n := 16) (l := zr 16) Try.underlying28 Try.underlying5 Try.underlying9 (W0.heap.size) 0 rfl rfl HRbk6.out.cell
            go_simp
            clear hx
            refine hK.out _ _ (fun _ => trivial) ?_
            clear hK K9
            refine U_one (i := 4) (by kernel_rfl) ?_
            refine U_go rfl (fun K9 hK => ?_)
            go_simp
            
            refine hK.out _ _ (fun _ => trivial) ?_
            clear hK K9
            refine U_one (i := 5) (by kernel_rfl) ?_
            refine U_go rfl (fun K9 hK => ?_)
            go_simp
            
            refine hK.out _ _ (fun _ => trivial) ?_
            clear hK K9
            refine U_end (by kernel_rfl) ?_
            exact ⟨wk5.heap.size, W0.heap.size, rfl, HBk6.out⟩
          ·
            refine U_go rfl (fun K9 hK => ?_)
            go_simp
            
            refine hK.out _ _ (fun _ => trivial) ?_
            clear hK K9
            refine U_one (i := 3) (by kernel_rfl) ?_
            refine U_go rfl (fun K9 hK => ?_)
            go_simp
            have hx := run_textR (P := Try.prog) wk6 28 9 5 (c := 16) (n := 16) (l := zr 16) Try.underlying28 Try.underlying5 Try.underlying9 (W0.heap.size) 0 rfl rfl HRbk6.out.cell
            go_simp
            clear hx
            refine hK.out _ _ (fun _ => trivial) ?_
            clear hK K9
            refine U_one (i := 5) (by kernel_rfl) ?_
            refine U_go rfl (fun K9 hK => ?_)
            go_simp
            
            refine hK.out _ _ (fun _ => trivial) ?_
            clear hK K9
            refine U_end (by kernel_rfl) ?_
            exact ⟨wk5.heap.size, W0.heap.size, rfl, HBk6.out⟩
        ·
          refine U_go rfl (fun K9 hK => ?_)
          go_simp
          have hx := run_textR (P := Try.prog) wk6 28 9 5 (c := 16) (n := 16) (l := zr 16) Try.underlying28 Try.underlying5 Try.underlying9 (W0.heap.size) 0 rfl rfl HRbk6.out.cell
          go_simp
          clear hx
          refine hK.out _ _ (fun _ => trivial) ?_
          clear hK K9
          refine U_one (i := 1) (by kernel_rfl) ?_
          refine U_go rfl (fun K9 hK => ?_)
          go_simp
          have hx := run_textR (P := Try.prog) wk6 28 9 5 (c := 32) (n := 32) (l := zr 32) Try.underlying28 Try.underlying5 Try.underlying9 (wk5.heap.size) 0 rfl rfl HRak6.out.cell
          go_simp
          clear hx
          refine hK.out _ _ (fun _ => trivial) ?_
          clear hK K9
          refine U_one (i := 4) (by kernel_rfl) ?_
          refine U_go rfl (fun K9 hK => ?_)
          go_simp
          
          refine hK.out _ _ (fun _ => trivial) ?_
          clear hK K9
          refine U_one (i := 5) (by kernel_rfl) ?_
          refine U_go rfl (fun K9 hK => ?_)
          go_simp
          
          refine hK.out _ _ (fun _ => trivial) ?_
          clear hK K9
          refine U_end (by kernel_rfl) ?_
          exact ⟨wk5.heap.size, W0.heap.size, rfl, HBk6.out⟩
      ·
        refine U_go rfl (fun K9 hK => ?_)
        go_simp
        have hx := run_textR (P := Try.prog) wk5 28 9 5 (c := 16) (n := 16) (l := zr 16) Try.underlying28 Try.underlying5 Try.underlying9 (W0.heap.size) 0 rfl rfl HRbk5.out.cell
        go_simp
        clear hx
        refine hK.out _ _ (fun _ => trivial) ?_
        clear hK K9
        refine U_one (i := 0) (by kernel_rfl) ?_
        refine U_go rfl (fun K9 hK => ?_)
        go_simp
        have HBk7 := hide (HBk5.out.alloc HBk5.out.size (.cells M32 5))
        have HRak7 := hide (show Row (wk5.alloc (.cells M32 5)) wk5.heap.size 0 (bs (zr 32)) from r32 wk5)
        have HRbk7 := hide (HRbk5.out.alloc (.cells M32 5))
        refine hK.out _ _ (fun _ => trivial) ?_
        clear hK K9
        obtain ⟨wk7, hwk7⟩ : ∃ W, (wk5.alloc (.cells M32 5)) = W := ⟨_, rfl⟩
        rw [hwk7] at HBk7 HRak7 HRbk7
        rw [hwk7]
        clear hwk7
        refine U_one (i := 1) (by kernel_rfl) ?_
        refine U_go rfl (fun K9 hK => ?_)
        go_simp
        have hx := run_textR (P := Try.prog) wk7 28 9 5 (c := 32) (n := 32) (l := zr 32) Try.underlying28 Try.underlying5 Try.underlying9 (wk5.heap.size) 0 rfl rfl HRak7.out.cell
        go_simp
        clear hx
        refine hK.out _ _ (fun _ => trivial) ?_
        clear hK K9
        refine U_one (i := 4) (by kernel_rfl) ?_
        refine U_go rfl (fun K9 hK => ?_)
        go_simp
        
        refine hK.out _ _ (fun _ => trivial) ?_
        clear hK K9
        refine U_one (i := 5) (by kernel_rfl) ?_
        refine U_go rfl (fun K9 hK => ?_)
        go_simp
        
        refine hK.out _ _ (fun _ => trivial) ?_
        clear hK K9
        refine U_end (by kernel_rfl) ?_
        exact ⟨wk5.heap.size, W0.heap.size, rfl, HBk7.out⟩
  rintro a0 w0 ⟨x, y, rfl, hB⟩
  clear m32 m16 r32 r16 HBk0
  obtain ⟨K, eK⟩ : ∃ K, z32 = K := ⟨_, rfl⟩
  obtain ⟨X, eX⟩ : ∃ X, z16 = X := ⟨_, rfl⟩
  obtain ⟨S, eS⟩ : ∃ S, seT K X ⟨#[97, 98]⟩ = S := ⟨_, rfl⟩
  obtain ⟨V, eV⟩ : ∃ V, seT K X ⟨#[]⟩ = V := ⟨_, rfl⟩
  have zK : K.size = 32 := by rw [← eK]; exact z32_size
  have zX : X.size = 16 := by rw [← eX]; exact z16_size
  have eT : et K ⟨#[0, 0, 0, 0, 0, 0, 0, 2, 97, 98, 0, 0, 0, 0, 0, 0]⟩ = S := by rw [← eS, ← eX]; exact (se_ab zK).symm
  have zS : S.size = 16 := by rw [← eT]; exact et_size zK rfl
  have zV : V.size = 16 := by rw [← eV, seT_size _ zK zX, frm_nil, z16_size]
  have hop : opO K X S = some (sb ⟨#[97, 98]⟩) := by rw [← eS]; exact op_se _ zK zX (by decide)
  have oT : opT K X S = ⟨#[97, 98]⟩ := opT_some hop
  have oE : opE K X S = 0 := opE_some hop
  have f1 : frm ⟨#[97, 98]⟩ = ⟨#[0, 0, 0, 0, 0, 0, 0, 2, 97, 98, 0, 0, 0, 0, 0, 0]⟩ := frm_ab
  have f2 : frm ⟨#[]⟩ = X := frm_nil.trans eX
  have zVi : (V.size : Int) = 16 := by omega
  have HL := hide (show K.size = 32 ∧ X.size = 16 ∧ S.size ≤ 1048576 ∧ S.size ≠ 0 ∧ S.size % 16 = 0 from ⟨zK, zX, by omega, by omega, by omega⟩)
  have HE := hide (And.intro eS (And.intro eT (And.intro eV (And.intro oT (And.intro oE (And.intro f1 f2))))))
  rw [eK, eX]
  have HS0 := hide hB
  clear eK eX eS eV zK zX eT zS zV hop oT oE f1 f2 hB
  go_wp2_with fail
  refine (cSeal_ok K X ⟨#[97, 98]⟩ _ HL.out.1 HL.out.2.1 (by decide)).mono ?_
  rintro e w1 ⟨rfl, hB⟩
  rw [HE.out.1]
  have HS1 := hide (show Below w.heap.size w w1 from HS0.out.trans (hB.mono HS0.out.size))
  clear HS0 hB
  go_wp2_with fail
  refine (new_c K _ HL.out.1).mono ?_
  rintro e w2 ⟨b, rfl, hR, hb, hB⟩
  have HS2 := hide (show Below w.heap.size w w2 ∧ Row w2 b 0 (bs (ciB (kw K))) from ⟨HS1.out.trans (hB.mono HS1.out.size), hR⟩)
  clear HS1 hB hR hb
  go_wp2_with fail
  refine (enc_c K ⟨#[0, 0, 0, 0, 0, 0, 0, 2, 97, 98, 0, 0, 0, 0, 0, 0]⟩ _ b HL.out.1 rfl HS2.out.2).mono ?_
  rintro e w3 ⟨rfl, hB⟩
  rw [HE.out.2.1]
  have HS3 := hide (show Below w.heap.size w w3 ∧ Row w3 b 0 (bs (ciB (kw K))) from ⟨HS2.out.1.trans (hB.mono HS2.out.1.size), HS2.out.2.below hB HS2.out.2.lt⟩)
  clear HS2 hB
  go_wp2_with fail
  refine (cOpen_ok K X S _ HL.out.1 HL.out.2.1 HL.out.2.2.1 HL.out.2.2.2.1 HL.out.2.2.2.2).mono ?_
  rintro e w4 ⟨rfl, hB⟩
  rw [HE.out.2.2.2.1, HE.out.2.2.2.2.1]
  have HS4 := hide (show Below w.heap.size w w4 ∧ Row w4 b 0 (bs (ciB (kw K))) from ⟨HS3.out.1.trans (hB.mono HS3.out.1.size), HS3.out.2.below hB HS3.out.2.lt⟩)
  clear HS3 hB
  go_wp2_with fail
  refine (cSeal_ok K X ⟨#[]⟩ _ HL.out.1 HL.out.2.1 (by decide)).mono ?_
  rintro e w5 ⟨rfl, hB⟩
  rw [HE.out.2.2.1]
  have HS5 := hide (show Below w.heap.size w w5 ∧ Row w5 b 0 (bs (ciB (kw K))) from ⟨HS4.out.1.trans (hB.mono HS4.out.1.size), HS4.out.2.below hB HS4.out.2.lt⟩)
  clear HS4 hB
  go_wp2_with fail
  refine (cFrame_any ⟨#[97, 98]⟩ _ (by decide)).mono ?_
  rintro e w6 ⟨rfl, hB⟩
  rw [HE.out.2.2.2.2.2.1]
  have HS6 := hide (show Below w.heap.size w w6 ∧ Row w6 b 0 (bs (ciB (kw K))) from ⟨HS5.out.1.trans (hB.mono HS5.out.1.size), HS5.out.2.below hB HS5.out.2.lt⟩)
  clear HS5 hB
  go_wp2_with fail
  refine (cFrame_any ⟨#[]⟩ _ (by decide)).mono ?_
  rintro e w7 ⟨rfl, hB⟩
  rw [HE.out.2.2.2.2.2.2]
  have HS7 := hide (show Below w.heap.size w w7 ∧ Row w7 b 0 (bs (ciB (kw K))) from ⟨HS6.out.1.trans (hB.mono HS6.out.1.size), HS6.out.2.below hB HS6.out.2.lt⟩)
  clear HS6 hB
  go_wp2_with fail
  go_ret
  exact ⟨rfl, HS7.out.1⟩
end Go.Proofs.Ytknjmmbebkcnpaa

/- What the laws on chains take in: a byte of a text, a block of one. No call is walked here. -/
namespace Go.Proofs.Ytknjmmbebkcnpaa
open Go.RowKit Bk
set_option linter.unusedVariables false

theorem idx_gy (s : ByteArray) (k : Nat) (hk : k < s.size) (w : World) : (Instr.index 9 (.string s) (.int .i64 (k : Int))).run Try.prog w = .ok (.int .u8 ((gy (sb s) k).toNat : Int)) w := idx_str s k hk w
/-- Block k of a text. -/
def bt16 (s : ByteArray) (k : Nat) : ByteArray := s.extract (16 * k) (16 * k + 16)
theorem bt16_sb (s : ByteArray) (k : Nat) : sb (bt16 s k) = blk (sb s) k := by
  unfold bt16 blk
  rw [sb_extract, Nat.add_sub_cancel_left]
theorem bt16_size {s : ByteArray} {k : Nat} (h : 16 * k + 16 ≤ s.size) : (bt16 s k).size = 16 := by
  unfold bt16
  rw [ByteArray.size_extract]
  omega
theorem cut16 (s : ByteArray) (k i : Nat) (hi : i = 16 * k) (h : i + 16 ≤ s.size) (w : World) : (Instr.slice 9 (.string s) (some (.int .i64 (i : Int))) (some (.int .i64 ((i : Int) + 16))) none).run Try.prog w = .ok (.string (bt16 s k)) w := by
  subst hi
  rw [run_slice_string (P := Try.prog) w 9 s .i64 .i64 _ _ Try.underlying9 (Int.natCast_nonneg _) (by omega) (by omega)]
  unfold bt16
  congr 3
/-- Open, whatever is opened. -/
theorem opO_bad {K f s : ByteArray} (h : s.size = 0 ∨ s.size % 16 ≠ 0) : opO K f s = none := by
  unfold opO op
  rw [if_pos (by rw [sb_length]; exact h)]
theorem opO_len {K f s : ByteArray} {l : List UInt8} (hk : K.size = 32) (hf : f.size = 16) (h : opO K f s = some l) : l.length ≤ s.size := by
  unfold opO op at h
  split at h
  · cases h
  · rename_i hc
    have e := (pd_some h).2
    rw [un_length (cph_kw hk) (sb_len16 hf) (by omega), sb_length] at e
    omega
theorem cOpen_any (K f s : ByteArray) (w : World) (hk : K.size = 32) (hf : f.size = 16) (hs : s.size ≤ 1048576) :
    Calls Try.prog 12 #[.string K, .string f, .string s] w fun e w' => e = .returned (.tuple #[.string (opT K f s), .int .i64 (opE K f s)]) ∧ Below w.heap.size w w' := by
  by_cases h : s.size = 0 ∨ s.size % 16 ≠ 0
  · refine (cOpen_form K f s w hk hf h).mono ?_
    rintro e w' ⟨rfl, hB⟩
    have ho := opO_bad (K := K) (f := f) h
    exact ⟨by rw [opT_none ho, opE_none ho], hB⟩
  · exact cOpen_ok K f s w hk hf hs (fun e => h (.inl e)) (by omega)
end Go.Proofs.Ytknjmmbebkcnpaa

/- A sealed text's blocks, as texts: what they hang on, and what they are deciphered to. No program is walked here. -/
namespace Go.Proofs.Ytknjmmbebkcnpaa
open Go.RowKit Bk
set_option linter.unusedVariables false

/-- How many blocks data are framed to, and sealed to. -/
theorem frm_blocks (d : ByteArray) : (frm d).size = 16 * fb d.size := by rw [← sb_length, frm_sb, fr_blocks, sb_length]
theorem seT_blocks {K f : ByteArray} (d : ByteArray) (hk : K.size = 32) (hf : f.size = 16) : (seT K f d).size = 16 * fb d.size := by rw [seT_size d hk hf, frm_blocks]
theorem seT_blk {K f d : ByteArray} (hk : K.size = 32) (hf : f.size = 16) {k : Nat} (h : k < fb d.size) : blk (sb (seT K f d)) k = cE (enc (kw K)) (sb f) (sb (frm d)) k := by
  rw [seT_sb, frm_sb]
  unfold sl
  rw [sb_length]
  exact blk_cat (fun j hj => cE_length (cph_kw hk) (sb_len16 hf) (by rw [fr_blocks, sb_length]) hj) h
theorem bt16_eq {s t : ByteArray} {k j : Nat} : bt16 s k = bt16 t j ↔ blk (sb s) k = blk (sb t) j := by
  rw [← bt16_sb, ← bt16_sb]
  exact ⟨fun h => by rw [h], fun h => sb_inj h⟩
/-- Two chains: block k of the one is that of the other just if it is so in the frames, if all ahead of it is so there. -/
theorem chain_iff {K f a b : ByteArray} (hk : K.size = 32) (hf : f.size = 16) {k : Nat} (ha : k < fb a.size) (hb : k < fb b.size) (h : ∀ j, j < k → bt16 (frm a) j = bt16 (frm b) j) :
    bt16 (seT K f a) k = bt16 (seT K f b) k ↔ bt16 (frm a) k = bt16 (frm b) k := by
  rw [bt16_eq, bt16_eq, seT_blk hk hf ha, seT_blk hk hf hb]
  refine cE_diff (cph_kw hk) (sb_len16 hf) (n := fb a.size) (m := fb b.size) (by rw [sb_length, frm_blocks]) (by rw [sb_length, frm_blocks]) ha hb ?_
  exact pv_ext fun j hj => cE_same fun i hi => bt16_eq.1 (h i (by omega))
/-- What lies ahead of block k. -/
def pvt (f s : ByteArray) : Nat → ByteArray
  | 0 => f
  | k + 1 => bt16 s k
theorem pvt_sb (f s : ByteArray) (k : Nat) : sb (pvt f s k) = pv (sb f) (blk (sb s)) k := by
  cases k with
  | zero => rfl
  | succ k => exact bt16_sb s k
theorem pvt_size {f s : ByteArray} {k : Nat} (hf : f.size = 16) (h : 16 * k ≤ s.size) : (pvt f s k).size = 16 := by
  cases k with
  | zero => exact hf
  | succ k => exact bt16_size (by omega)
/-- A sealed text's block, deciphered: byte by byte it is the frame's, put together with the block ahead. -/
theorem dt_byte {K f d : ByteArray} (hk : K.size = 32) (hf : f.size = 16) {k i : Nat} (h : k < fb d.size) (hi : i < 16) :
    gy (sb (dt K (bt16 (seT K f d) k))) i ^^^ gy (sb (pvt f (seT K f d) k)) i = gy (sb (frm d)) (16 * k + i) := by
  have hl : ∀ j, j < fb d.size → (cE (enc (kw K)) (sb f) (sb (frm d)) j).length = 16 := fun j hj => cE_length (cph_kw hk) (sb_len16 hf) (by rw [sb_length, frm_blocks]) hj
  have lb : (blk (sb (frm d)) k).length = 16 := blk_length (n := fb d.size) (by rw [sb_length, frm_blocks]) h
  have hp : pv (sb f) (blk (sb (seT K f d))) k = pv (sb f) (cE (enc (kw K)) (sb f) (sb (frm d))) k := pv_ext fun j hj => seT_blk hk hf (by omega)
  have lp : (pv (sb f) (cE (enc (kw K)) (sb f) (sb (frm d))) k).length = 16 := pv_length (sb_len16 hf) fun j hj => hl j (by omega)
  rw [dt_sb, bt16_sb, seT_blk hk hf h, pvt_sb, hp, cE_eq, (cph_kw hk).de _ (comb_length lb lp), gy_comb (by omega) (by omega), UInt8.xor_assoc, UInt8.xor_self, UInt8.xor_zero]
  unfold blk
  rw [gy_take _ _ _ hi, gy_drop]
end Go.Proofs.Ytknjmmbebkcnpaa

/- The document's AES-256 in plain numbers: products of polynomials over bits, and stand-ins found by search; they are what ATab says. Closed, and pure arithmetic. -/
namespace Go.Proofs.Ytknjmmbebkcnpaa.Bk
set_option linter.unusedVariables false
set_option linter.unusedSimpArgs false

def gp1 (a b : Nat) : Nat → Nat
  | 0 => 0
  | i + 1 => if b / 2 ^ i % 2 = 1 then gp1 a b i ^^^ a * 2 ^ i else gp1 a b i
/-- From bit 15 down: k bits taken away. -/
def gp2 : Nat → Nat → Nat
  | 0, p => p
  | k + 1, p => gp2 k (if p / 2 ^ (8 + k) % 2 = 1 then p ^^^ 283 * 2 ^ k else p)
def gmul (a b : Nat) : Nat := gp2 8 (gp1 a b 8) % 256

theorem mulpow_xor (a b i : Nat) : (a ^^^ b) * 2 ^ i = a * 2 ^ i ^^^ b * 2 ^ i := by
  rw [← Nat.shiftLeft_eq, ← Nat.shiftLeft_eq, ← Nat.shiftLeft_eq, Nat.shiftLeft_xor_distrib]
theorem divpow_xor (a b i : Nat) : (a ^^^ b) / 2 ^ i = a / 2 ^ i ^^^ b / 2 ^ i := by
  rw [← Nat.shiftRight_eq_div_pow, ← Nat.shiftRight_eq_div_pow, ← Nat.shiftRight_eq_div_pow, Nat.shiftRight_xor_distrib]
theorem mod2_xor (a b : Nat) : (a ^^^ b) % 2 = (a % 2 + b % 2) % 2 := by
  have h := Nat.xor_mod_two_pow (a := a) (b := b) (n := 1)
  rw [show 2 ^ 1 = 2 from rfl] at h
  rw [h]
  rcases Nat.mod_two_eq_zero_or_one a with e | e <;> rcases Nat.mod_two_eq_zero_or_one b with f | f <;> rw [e, f] <;> rfl
theorem gp1_xor (a a' b : Nat) : ∀ i, gp1 (a ^^^ a') b i = gp1 a b i ^^^ gp1 a' b i
  | 0 => by simp [gp1]
  | i + 1 => by
    have ih := gp1_xor a a' b i
    by_cases h : b / 2 ^ i % 2 = 1
    · simp only [gp1, if_pos h]
      rw [ih, mulpow_xor, xor4]
    · simp only [gp1, if_neg h]
      exact ih
theorem gp2_xor : ∀ (k p q : Nat), gp2 k (p ^^^ q) = gp2 k p ^^^ gp2 k q
  | 0, _, _ => rfl
  | k + 1, p, q => by
    show gp2 k _ = gp2 k _ ^^^ gp2 k _
    rw [← gp2_xor k]
    congr 1
    have hb : (p ^^^ q) / 2 ^ (8 + k) % 2 = (p / 2 ^ (8 + k) % 2 + q / 2 ^ (8 + k) % 2) % 2 := by rw [divpow_xor, mod2_xor]
    rw [hb]
    rcases Nat.mod_two_eq_zero_or_one (p / 2 ^ (8 + k)) with e | e <;> rcases Nat.mod_two_eq_zero_or_one (q / 2 ^ (8 + k)) with f | f <;> rw [e, f] <;> simp only [Nat.zero_add, Nat.add_zero, Nat.zero_mod, Nat.reduceAdd, Nat.reduceMod, if_pos rfl, if_false, if_true, Nat.zero_ne_one, reduceIte]
    · rw [Nat.xor_assoc]
    · rw [Nat.xor_assoc, Nat.xor_assoc, Nat.xor_comm q]
    · rw [xor4, Nat.xor_self, Nat.xor_zero]
theorem gmul_xor (a a' b : Nat) : gmul (a ^^^ a') b = gmul a b ^^^ gmul a' b := by
  unfold gmul
  rw [gp1_xor, gp2_xor]
  exact Nat.xor_mod_two_pow (n := 8)
theorem prN_xorb : ∀ (k s s' a b b' : Nat), prN k (s ^^^ s') a (b ^^^ b') = prN k s a b ^^^ prN k s' a b'
  | 0, _, _, _, _, _ => rfl
  | k + 1, s, s', a, b, b' => by
    show prN k ((s ^^^ s') ^^^ a * ((b ^^^ b') % 2)) (dbl a) ((b ^^^ b') / 2) = prN k (s ^^^ a * (b % 2)) (dbl a) (b / 2) ^^^ prN k (s' ^^^ a * (b' % 2)) (dbl a) (b' / 2)
    have h2 : (b ^^^ b') / 2 = b / 2 ^^^ b' / 2 := divpow_xor b b' 1
    have h3 : a * ((b ^^^ b') % 2) = a * (b % 2) ^^^ a * (b' % 2) := by
      rw [mod2_xor]
      rcases Nat.mod_two_eq_zero_or_one b with e | e <;> rcases Nat.mod_two_eq_zero_or_one b' with f | f <;> rw [e, f] <;> simp
    rw [h2, h3, xor4]
    exact prN_xorb k _ _ _ _ _
theorem pr_xorb (a b b' : Nat) : pr a (b ^^^ b') = pr a b ^^^ pr a b' := prN_xorb 8 0 0 a b b'
theorem pr_xora {a a' : Nat} (b : Nat) (h : a < 256) (h' : a' < 256) : pr (a ^^^ a') b = pr a b ^^^ pr a' b := prN_xor 8 0 0 a a' b h h'

/-- A number of eight bits, bit by bit. -/
theorem bits_ok : ((List.range 8).all fun j => (List.range 128).all fun x => !decide (x < 2 ^ j) || decide (2 ^ j + x = x ^^^ 2 ^ j)) = true := by decide +kernel
theorem add_xor {j x : Nat} (hj : j < 8) (hx : x < 2 ^ j) : 2 ^ j + x = x ^^^ 2 ^ j := by
  have h := bits_ok
  rw [List.all_eq_true] at h
  have h1 := h j (List.mem_range.2 hj)
  rw [List.all_eq_true] at h1
  have hp : 2 ^ j ≤ 2 ^ 7 := Nat.pow_le_pow_right (by decide) (by omega)
  have h2 := h1 x (List.mem_range.2 (by have : 2 ^ 7 = 128 := rfl; omega))
  simpa [hx] using h2
theorem same_of_bits {f g : Nat → Nat} (hf : ∀ a b, a < 256 → b < 256 → f (a ^^^ b) = f a ^^^ f b) (hg : ∀ a b, a < 256 → b < 256 → g (a ^^^ b) = g a ^^^ g b) (h0 : f 0 = g 0) (hb : ∀ j, j < 8 → f (2 ^ j) = g (2 ^ j)) : ∀ k, k ≤ 8 → ∀ a, a < 2 ^ k → f a = g a
  | 0, _, a, h => by
    obtain rfl : a = 0 := by simpa using h
    exact h0
  | k + 1, hk, a, h => by
    by_cases e : a < 2 ^ k
    · exact same_of_bits hf hg h0 hb k (by omega) a e
    · have hp : 2 ^ k ≤ 2 ^ 7 := Nat.pow_le_pow_right (by decide) (by omega)
      have hp7 : 2 ^ 7 = 128 := rfl
      rw [Nat.pow_succ] at h
      have hr : a - 2 ^ k < 2 ^ k := by omega
      have hx := add_xor (j := k) (by omega) hr
      rw [show 2 ^ k + (a - 2 ^ k) = a by omega] at hx
      rw [hx, hf _ _ (by omega) (by omega), hg _ _ (by omega) (by omega), hb k (by omega), same_of_bits hf hg h0 hb k (by omega) _ hr]
theorem gmul_basis : ((List.range 256).all fun b => (List.range 8).all fun j => gmul (2 ^ j) b == pr (2 ^ j) b) = true := by decide +kernel
theorem gmul_zero : ((List.range 256).all fun b => gmul 0 b == pr 0 b) = true := by decide +kernel
theorem gmul_pr {a b : Nat} (ha : a < 256) (hb : b < 256) : gmul a b = pr a b := by
  refine same_of_bits (f := fun a => gmul a b) (g := fun a => pr a b) (fun x y _ _ => gmul_xor x y b) (fun x y hx hy => pr_xora b hx hy) ?_ ?_ 8 (Nat.le_refl _) a ha
  · exact eq_of_beq (all256 gmul_zero hb)
  · intro j hj
    have h := all256 gmul_basis hb
    rw [List.all_eq_true] at h
    exact eq_of_beq (h j (List.mem_range.2 hj))

theorem gp1_lt {a : Nat} (b : Nat) (h : a < 256) : ∀ i, i ≤ 8 → gp1 a b i < 65536
  | 0, _ => Nat.zero_lt_succ _
  | i + 1, hi => by
    have ih := gp1_lt b h i (by omega)
    have hp : 2 ^ i ≤ 2 ^ 7 := Nat.pow_le_pow_right (by decide) (by omega)
    have hm : a * 2 ^ i < 65536 := by
      have h1 := Nat.mul_le_mul (show a ≤ 255 by omega) hp
      have : 2 ^ 7 = 128 := rfl
      omega
    show (if b / 2 ^ i % 2 = 1 then gp1 a b i ^^^ a * 2 ^ i else gp1 a b i) < 65536
    split
    · exact Nat.xor_lt_two_pow (n := 16) ih hm
    · exact ih
theorem gp2_step {k p x : Nat} (h : gp2 (k + 1) p = x) : gp2 k (if p / 2 ^ (8 + k) % 2 = 1 then p ^^^ 283 * 2 ^ k else p) = x := h
/-- The last x of 1 to k whose product with a is 1. -/
def sti (a : Nat) : Nat → Nat
  | 0 => 0
  | k + 1 => if pr a (k + 1) = 1 then k + 1 else sti a k
def dbls (f : Nat → Nat) : Nat → List Nat
  | 0 => [0]
  | j + 1 => dbls f j ++ (dbls f j).map (fun v => v ^^^ f (2 ^ j))
def srch : List Nat → Nat → Nat → Nat
  | [], _, acc => acc
  | v :: r, x, acc => srch r (x + 1) (if v = 1 then x else acc)
theorem pr_nul (a : Nat) : pr a 0 = 0 := prN_none 8 0 a
theorem dbls_is (a : Nat) : ∀ j, j ≤ 8 → dbls (pr a) j = (List.range (2 ^ j)).map (pr a)
  | 0, _ => by
    show [0] = [pr a 0]
    rw [pr_nul]
  | j + 1, h => by
    show dbls (pr a) j ++ (dbls (pr a) j).map (fun v => v ^^^ pr a (2 ^ j)) = _
    rw [dbls_is a j (by omega), Nat.pow_succ, Nat.mul_two, List.range_add, List.map_append, List.map_map, List.map_map]
    congr 1
    refine List.map_congr_left fun x hx => ?_
    show pr a x ^^^ pr a (2 ^ j) = pr a (2 ^ j + x)
    rw [add_xor (by omega) (List.mem_range.1 hx), pr_xorb]
theorem srch_is (a : Nat) : ∀ (n x : Nat), srch ((List.range' (x + 1) n).map (pr a)) (x + 1) (sti a x) = sti a (x + n)
  | 0, x => rfl
  | n + 1, x => by
    rw [List.range'_succ, List.map_cons]
    show srch _ (x + 1 + 1) (sti a (x + 1)) = _
    rw [srch_is a n (x + 1)]
    congr 1
    omega
theorem srch_ok : ((List.range 256).all fun a => srch ((dbls (pr a) 8).drop 1) 1 0 == (gy IV a).toNat) = true := by decide +kernel
theorem sti_is {a : Nat} (ha : a < 256) : sti a 255 = (gy IV a).toNat := by
  have h := eq_of_beq (all256 srch_ok ha)
  have e : (dbls (pr a) 8).drop 1 = (List.range' 1 255).map (pr a) := by
    rw [dbls_is a 8 (Nat.le_refl _), ← List.map_drop, List.range_eq_range', List.drop_range']
  rw [e] at h
  have h2 := srch_is a 255 0
  rw [Nat.zero_add] at h2
  rw [← h, ← h2]
  rfl
theorem sti_lt (a : Nat) : ∀ k, k < 256 → sti a k < 256
  | 0, _ => Nat.zero_lt_succ 255
  | k + 1, h => by
    show (if pr a (k + 1) = 1 then k + 1 else sti a k) < 256
    split
    · exact h
    · exact sti_lt a k (by omega)
end Go.Proofs.Ytknjmmbebkcnpaa.Bk

/- The document's products, walked. For any two bytes: the call returns what ATab says, and leaves the world as it is. -/
namespace Go.Proofs.Ytknjmmbebkcnpaa
open Go.RowKit Bk
set_option linter.unusedVariables false
set_option linter.unusedSimpArgs false

set_option maxRecDepth 100000 in
set_option maxHeartbeats 2000000 in
theorem gmul_any (a b : Nat) (w : World) (ha : a < 256) (hb : b < 256) :
    Calls Try.prog 61 #[.int .u8 a, .int .u8 b] w fun e w' => e = .returned (.int .u8 (pr a b : Nat)) ∧ w' = w := by
  rw [← gmul_pr ha hb]
  obtain ⟨R, hR⟩ : ∃ R, gmul a b = R := ⟨_, rfl⟩
  rw [hR]
  have HR := hide hR
  have HL := hide (fun i => gp1_lt b ha i)
  have HA := hide (And.intro ha hb)
  clear hR
  go_enter Try.func61, Try.ntmps61
  go_wp2_with fail
  go_loopg [5, 6] 8 (fun g p q wr => ∃ k : Nat, k + g = 8 ∧ q = .int .u32 k ∧ p = .int .u32 (gp1 a b k : Nat) ∧ wr = w)
  case atStart => exact ⟨0, rfl, rfl, rfl, rfl⟩
  case round =>
    obtain ⟨k, hkg, rfl, rfl, rfl⟩ := hrel
    by_cases hlt : k < 8
    · have hlt' : (k : Int) < 8 := by omega
      obtain ⟨g3, rfl⟩ : ∃ g3, gk = g3 + 1 := ⟨gk - 1, by omega⟩
      have p2 : (2 : Int) ^ k = ((2 ^ k : Nat) : Int) := (Int.natCast_pow 2 k).symm
      have la : a * 2 ^ k < 65536 := by
        have h1 : 2 ^ k ≤ 2 ^ 7 := Nat.pow_le_pow_right (by decide) (by omega)
        have h2 := Nat.mul_le_mul (show a ≤ 255 by have := HA.out.1; omega) h1
        have : 2 ^ 7 = 128 := rfl
        omega
      have hd : ((b : Int) / 2 ^ k).tmod 2 = ((b / 2 ^ k % 2 : Nat) : Int) := by
        rw [p2, ← Int.natCast_ediv, Int.tmod_eq_emod_of_nonneg (Int.natCast_nonneg _)]
        rfl
      have hm : (a : Int) * 2 ^ k % 4294967296 = ((a * 2 ^ k : Nat) : Int) := by
        rw [p2, ← Int.natCast_mul]
        omega
      have hv := u32_xor_nat (gp1 a b k) (a * 2 ^ k) (by have := HL.out k (by omega); omega) (by omega)
      have hst : gp1 a b (k + 1) = if b / 2 ^ k % 2 = 1 then gp1 a b k ^^^ a * 2 ^ k else gp1 a b k := rfl
      obtain ⟨G, eG⟩ : ∃ z, gp1 a b k = z := ⟨_, rfl⟩
      obtain ⟨M, eM⟩ : ∃ z, a * 2 ^ k = z := ⟨_, rfl⟩
      rw [eG, eM] at hst hv
      rw [eM] at hm
      rw [eG]
      clear p2 la eG eM
      rcases Nat.mod_two_eq_zero_or_one (b / 2 ^ k) with e | e
      · rw [e, if_neg (by decide)] at hst
        rw [e] at hd
        have HS := hide hst
        clear hst hv hm e
        go_wp2_with fail
        go_roundg g3
        case measure => omega
        case rel => exact ⟨k + 1, by omega, by go_num, by rw [HS.out], rfl⟩
      · rw [e, if_pos rfl] at hst
        rw [e] at hd
        have HS := hide hst
        clear hst e
        go_wp2_with fail
        go_roundg g3
        case measure => omega
        case rel => exact ⟨k + 1, by omega, by go_num, by rw [HS.out], rfl⟩
    · obtain rfl : k = 8 := by omega
      obtain ⟨P, eP⟩ : ∃ z, gp1 a b 8 = z := ⟨_, rfl⟩
      have lP : P < 65536 := eP ▸ HL.out 8 (Nat.le_refl _)
      have HP := hide (show gp2 8 P % 256 = R by rw [← eP]; exact HR.out)
      have HlP := hide lP
      rw [eP]
      clear eP lP
      go_wp2_with fail
      go_loopg [5, 7] 8 (fun g p q wx => ∃ p' : Nat, q = .int .u32 ((g : Int) + 7) ∧ p = .int .u32 p' ∧ p' < 65536 ∧ g ≤ 8 ∧ gp2 g p' % 256 = R ∧ wx = wr)
      case atStart => exact ⟨P, rfl, rfl, HlP.out, Nat.le_refl _, HP.out, rfl⟩
      case round =>
        clear HP HlP
        obtain ⟨p, rfl, rfl, lp, lg, hg, rfl⟩ := hrel
        by_cases hz : 0 < gk
        · obtain ⟨m, rfl⟩ : ∃ m, gk = m + 1 := ⟨gk - 1, by omega⟩
          obtain ⟨i, ei⟩ : ∃ i, 8 + m = i := ⟨_, rfl⟩
          have e8 : ((m + 1 : Nat) : Int) + 7 = (i : Int) := by omega
          rw [e8]
          have c8 : (8 : Int) ≤ (i : Int) := by omega
          have s8 : (i : Int) - 8 = (m : Int) := by omega
          have s7 : (i : Int) - 1 = (m : Int) + 7 := by omega
          have mn1 : min i 32 = i := by omega
          have mn2 : min m 32 = m := by omega
          have w7 := IntWalk.u32_in ((m : Int) + 7) (by omega)
          have w8 := IntWalk.u32_in (m : Int) (by omega)
          have p2 : (2 : Int) ^ (8 + m) = ((2 ^ (8 + m) : Nat) : Int) := (Int.natCast_pow 2 _).symm
          have p3 : (2 : Int) ^ m = ((2 ^ m : Nat) : Int) := (Int.natCast_pow 2 _).symm
          have la : 283 * 2 ^ m < 65536 := by
            have h1 : 2 ^ m ≤ 2 ^ 7 := Nat.pow_le_pow_right (by decide) (by omega)
            have : 2 ^ 7 = 128 := rfl
            omega
          have hd : ((p : Int) / 2 ^ (8 + m)).tmod 2 = ((p / 2 ^ (8 + m) % 2 : Nat) : Int) := by
            rw [p2, ← Int.natCast_ediv, Int.tmod_eq_emod_of_nonneg (Int.natCast_nonneg _)]
            rfl
          have hm : 283 * (2 : Int) ^ m % 4294967296 = ((283 * 2 ^ m : Nat) : Int) := by
            rw [p3]
            omega
          have hv := u32_xor_nat p (283 * 2 ^ m) (by omega) (by omega)
          have hst := gp2_step (k := m) (p := p) (x := gp2 (m + 1) p) rfl
          have lx : p ^^^ 283 * 2 ^ m < 65536 := Nat.xor_lt_two_pow (n := 16) lp la
          have HG := hide hg
          have HH := hide lg
          obtain ⟨M, eM⟩ : ∃ z, 283 * 2 ^ m = z := ⟨_, rfl⟩
          rw [eM] at hst hv hm lx
          rw [ei] at hd hst
          clear p2 p3 la eM e8 hg lg ei
          rcases Nat.mod_two_eq_zero_or_one (p / 2 ^ i) with e | e
          · rw [e, if_neg (by decide)] at hst
            rw [e] at hd
            have HS := hide (And.intro hst lp)
            clear hst hv hm e lx lp
            go_wp2_with fail
            go_roundg m
            case measure => omega
            case rel => exact ⟨p, by go_num, rfl, HS.out.2, by have := HH.out; omega, by rw [HS.out.1]; exact HG.out, rfl⟩
          · rw [e, if_pos rfl] at hst
            rw [e] at hd
            have HS := hide (And.intro hst lx)
            clear hst e lx lp
            go_wp2_with fail
            go_roundg m
            case measure => omega
            case rel => exact ⟨p ^^^ M, by go_num, rfl, HS.out.2, by have := HH.out; omega, by rw [HS.out.1]; exact HG.out, rfl⟩
        · obtain rfl : gk = 0 := by omega
          have hp : p % 256 = R := hg
          have hpI : (p : Int) % 256 = (R : Int) := by omega
          have hw : IntKind.u8.wrap (p : Int) = (R : Int) := by rw [IntKind.wrap_u8]; exact hpI
          clear hg hp
          go_wp2_with fail
          go_ret
          exact ⟨rfl, rfl⟩
end Go.Proofs.Ytknjmmbebkcnpaa
