/- Several texts of ours, one behind the other; what each is for stands ahead of it. -/
import Derived.Test.YtknjmmbebkcnpaaRun11
import Derived.Test.YtknjmmbebkcnpaaRun12
import Derived.Test.YtknjmmbebkcnpaaRun2
import Derived.Test.YtknjmmbebkcnpaaRun3
import Derived.SizedLaws

/- What each statement on chains asks first: the examples, walked. -/
namespace Go.Proofs.Ytknjmmbebkcnpaa
open Go.RowKit Bk
set_option linter.unusedVariables false
set_option linter.unusedSimpArgs false

/-- The examples' texts. -/
def ab2 : ByteArray := ⟨#[97, 98]⟩
def fr2 : ByteArray := ⟨#[0, 0, 0, 0, 0, 0, 0, 2, 97, 98, 0, 0, 0, 0, 0, 0]⟩
def z32 : ByteArray := ⟨(zr 32).toArray⟩
def z16 : ByteArray := ⟨(zr 16).toArray⟩
theorem z32_size : z32.size = 32 := by rw [← sb_length]; show (zr 32).length = 32; exact zr_length 32
theorem z16_size : z16.size = 16 := by rw [← sb_length]; show (zr 16).length = 16; exact zr_length 16
theorem frm_ab : frm ab2 = fr2 := by decide +kernel
theorem frm_nil : frm ⟨#[]⟩ = z16 := by decide +kernel
theorem se_ab {K : ByteArray} (hk : K.size = 32) : seT K z16 ab2 = et K fr2 := by
  have hf : fr (sb ab2) = sb fr2 := by rw [← frm_sb, frm_ab]
  have hb : blk (sb fr2) 0 = sb fr2 := by decide +kernel
  have hc : comb (sb fr2) (sb z16) = sb fr2 := by decide +kernel
  unfold seT et sl
  rw [hf]
  show (⟨(cat (cE (enc (kw K)) (sb z16) (sb fr2)) 1).toArray⟩ : ByteArray) = _
  show (⟨([] ++ enc (kw K) (comb (blk (sb fr2) 0) (sb z16))).toArray⟩ : ByteArray) = _
  rw [hb, hc, List.nil_append]
set_option maxRecDepth 100000 in
set_option maxHeartbeats 2000000 in
theorem awakeC_any (w : World) : Calls Try.prog 9 #[] w fun e w' => e = .returned (.bool true) ∧ Below w.heap.size w w' := by
  have hmx : Try.prog.follows .mixedOrders = true := by kernel_rfl
  obtain ⟨M32, d32⟩ : ∃ M, madeCells #[.int .u8 0] 32 = M := ⟨_, rfl⟩
  obtain ⟨M16, d16⟩ : ∃ M, madeCells #[.int .u8 0] 16 = M := ⟨_, rfl⟩
  have m32 : ∀ w, (Instr.makeSlice 28 (.int .i64 32) (.int .i64 32)).run Try.prog w = .ok (.slice (some ⟨w.heap.size, 0, none⟩) 32 32) (w.alloc (.cells M32 5)) := by rw [← d32]; exact mk_bytes 32 (by decide)
  have m16 : ∀ w, (Instr.makeSlice 28 (.int .i64 16) (.int .i64 16)).run Try.prog w = .ok (.slice (some ⟨w.heap.size, 0, none⟩) 16 16) (w.alloc (.cells M16 5)) := by rw [← d16]; exact mk_bytes 16 (by decide)
  have r32 : ∀ w : World, Row (w.alloc (.cells M32 5)) w.heap.size 0 (bs (zr 32)) := by rw [← d32]; exact fun w => row_made w 32
  have r16 : ∀ w : World, Row (w.alloc (.cells M16 5)) w.heap.size 0 (bs (zr 16)) := by rw [← d16]; exact fun w => row_made w 16
  clear d32 d16
  have HBk0 := hide (show Below w.heap.size w w.drew from (Below.refl _ w).drew)
  go_enter Try.func9, Try.ntmps9
  go_wp2_with fail
  refine wp_only (R := fun a' w' => ∃ x y : Nat, a' = { tmps := #[.bool false, .string z32, .string z16, undef, undef, undef, undef, undef, undef, undef, undef, undef, undef, .slice (some ⟨x, 0, none⟩) 32 32, .string z32, .slice (some ⟨y, 0, none⟩) 16 16, .string z16, undef, undef, undef, undef, undef, undef, undef, undef, undef, undef, undef, undef, undef, undef, undef, undef, undef, undef, undef, undef, undef, undef, undef, undef, undef, undef, undef, undef, undef, undef, undef, undef, undef, undef, undef, undef, undef, undef, undef, undef, undef, undef, undef, undef, undef, undef, undef, undef, undef, undef, undef, undef, undef, undef, undef, undef, undef, undef, undef, undef, undef, undef, undef, undef, undef, undef, undef, undef], defers := [] } ∧ Below w.heap.size w w') ?r ?k
  case r =>
    refine wp_region_U (fun _ => True) 5 hmx ?_
    obtain ⟨W0, hW0⟩ : ∃ W0, w.drew = W0 := ⟨_, rfl⟩
    rw [hW0] at HBk0
    rw [hW0]
    clear hW0
    refine U_two (i := 0) (j := 2) (by kernel_rfl) ?_ ?_
    ·
      refine U_go rfl (fun K9 hK => ?_)
      go_simp
      have HBk1 := hide (HBk0.out.alloc HBk0.out.size (.cells M32 5))
      have HRak1 := hide (show Row (W0.alloc (.cells M32 5)) W0.heap.size 0 (bs (zr 32)) from r32 W0)
      refine hK.out _ _ (fun _ => trivial) ?_
      clear hK K9
      obtain ⟨wk1, hwk1⟩ : ∃ W, (W0.alloc (.cells M32 5)) = W := ⟨_, rfl⟩
      rw [hwk1] at HBk1 HRak1
      rw [hwk1]
      clear hwk1
      refine U_two (i := 1) (j := 2) (by kernel_rfl) ?_ ?_
      ·
        refine U_go rfl (fun K9 hK => ?_)
        go_simp
        have hx := run_textR (P := Try.prog) wk1 28 9 5 (c := 32) (n := 32) (l := zr 32) Try.underlying28 Try.underlying5 Try.underlying9 (W0.heap.size) 0 rfl rfl HRak1.out.cell
        go_simp
        clear hx
        refine hK.out _ _ (fun _ => trivial) ?_
        clear hK K9
        refine U_two (i := 2) (j := 4) (by kernel_rfl) ?_ ?_
        ·
          refine U_go rfl (fun K9 hK => ?_)
          go_simp
          have HBk2 := hide (HBk1.out.alloc HBk1.out.size (.cells M16 5))
          have HRbk2 := hide (show Row (wk1.alloc (.cells M16 5)) wk1.heap.size 0 (bs (zr 16)) from r16 wk1)
          have HRak2 := hide (HRak1.out.alloc (.cells M16 5))
          refine hK.out _ _ (fun _ => trivial) ?_
          clear hK K9
          obtain ⟨wk2, hwk2⟩ : ∃ W, (wk1.alloc (.cells M16 5)) = W := ⟨_, rfl⟩
          rw [hwk2] at HBk2 HRbk2 HRak2
          rw [hwk2]
          clear hwk2
          refine U_two (i := 3) (j := 4) (by kernel_rfl) ?_ ?_
          ·
            refine U_go rfl (fun K9 hK => ?_)
            go_simp
            have hx := run_textR (P := Try.prog) wk2 28 9 5 (c := 16) (n := 16) (l := zr 16) Try.underlying28 Try.underlying5 Try.underlying9 (wk1.heap.size) 0 rfl rfl HRbk2.out.cell
            go_simp
            clear hx
            refine hK.out _ _ (fun _ => trivial) ?_
            clear hK K9
            refine U_one (i := 4) (by kernel_rfl) ?_
            refine U_go rfl (fun K9 hK => ?_)
            go_simp
            
            refine hK.out _ _ (fun _ => trivial) ?_
            clear hK K9
            refine U_one (i := 5) (by kernel_rfl) ?_
            refine U_go rfl (fun K9 hK => ?_)
            go_simp
            
            refine hK.out _ _ (fun _ => trivial) ?_
            clear hK K9
            refine U_end (by kernel_rfl) ?_
            exact ⟨W0.heap.size, wk1.heap.size, rfl, HBk2.out⟩
          ·
            refine U_go rfl (fun K9 hK => ?_)
            go_simp
            
            refine hK.out _ _ (fun _ => trivial) ?_
            clear hK K9
            refine U_one (i := 3) (by kernel_rfl) ?_
            refine U_go rfl (fun K9 hK => ?_)
            go_simp
            have hx := run_textR (P := Try.prog) wk2 28 9 5 (c := 16) (n := 16) (l := zr 16) Try.underlying28 Try.underlying5 Try.underlying9 (wk1.heap.size) 0 rfl rfl HRbk2.out.cell
            go_simp
            clear hx
            refine hK.out _ _ (fun _ => trivial) ?_
            clear hK K9
            refine U_one (i := 5) (by kernel_rfl) ?_
            refine U_go rfl (fun K9 hK => ?_)
            go_simp
            
            refine hK.out _ _ (fun _ => trivial) ?_
            clear hK K9
            refine U_end (by kernel_rfl) ?_
            exact ⟨W0.heap.size, wk1.heap.size, rfl, HBk2.out⟩
        ·
          refine U_go rfl (fun K9 hK => ?_)
          go_simp
          
          refine hK.out _ _ (fun _ => trivial) ?_
          clear hK K9
          refine U_one (i := 2) (by kernel_rfl) ?_
          refine U_go rfl (fun K9 hK => ?_)
          go_simp
          have HBk3 := hide (HBk1.out.alloc HBk1.out.size (.cells M16 5))
          have HRbk3 := hide (show Row (wk1.alloc (.cells M16 5)) wk1.heap.size 0 (bs (zr 16)) from r16 wk1)
          have HRak3 := hide (HRak1.out.alloc (.cells M16 5))
          refine hK.out _ _ (fun _ => trivial) ?_
          clear hK K9
          obtain ⟨wk3, hwk3⟩ : ∃ W, (wk1.alloc (.cells M16 5)) = W := ⟨_, rfl⟩
          rw [hwk3] at HBk3 HRbk3 HRak3
          rw [hwk3]
          clear hwk3
          refine U_one (i := 3) (by kernel_rfl) ?_
          refine U_go rfl (fun K9 hK => ?_)
          go_simp
          have hx := run_textR (P := Try.prog) wk3 28 9 5 (c := 16) (n := 16) (l := zr 16) Try.underlying28 Try.underlying5 Try.underlying9 (wk1.heap.size) 0 rfl rfl HRbk3.out.cell
          go_simp
          clear hx
          refine hK.out _ _ (fun _ => trivial) ?_
          clear hK K9
          refine U_one (i := 5) (by kernel_rfl) ?_
          refine U_go rfl (fun K9 hK => ?_)
          go_simp
          
          refine hK.out _ _ (fun _ => trivial) ?_
          clear hK K9
          refine U_end (by kernel_rfl) ?_
          exact ⟨W0.heap.size, wk1.heap.size, rfl, HBk3.out⟩
      ·
        refine U_go rfl (fun K9 hK => ?_)
        go_simp
        have HBk4 := hide (HBk1.out.alloc HBk1.out.size (.cells M16 5))
        have HRbk4 := hide (show Row (wk1.alloc (.cells M16 5)) wk1.heap.size 0 (bs (zr 16)) from r16 wk1)
        have HRak4 := hide (HRak1.out.alloc (.cells M16 5))
        refine hK.out _ _ (fun _ => trivial) ?_
        clear hK K9
        obtain ⟨wk4, hwk4⟩ : ∃ W, (wk1.alloc (.cells M16 5)) = W := ⟨_, rfl⟩
        rw [hwk4] at HBk4 HRbk4 HRak4
        rw [hwk4]
        clear hwk4
        refine U_two (i := 1) (j := 3) (by kernel_rfl) ?_ ?_
        ·
          refine U_go rfl (fun K9 hK => ?_)
          go_simp
          have hx := run_textR (P := Try.prog) wk4 28 9 5 (c := 32) (n := 32) (l := zr 32) Try.underlying28 Try.underlying5 Try.underlying9 (W0.heap.size) 0 rfl rfl HRak4.out.cell
          go_simp
          clear hx
          refine hK.out _ _ (fun _ => trivial) ?_
          clear hK K9
          refine U_two (i := 3) (j := 4) (by kernel_rfl) ?_ ?_
          ·
            refine U_go rfl (fun K9 hK => ?_)
            go_simp
            have hx := run_textR (P := Try.prog) wk4 28 9 5 (c := 16) (n := 16) (l := zr 16) Try.underlying28 Try.underlying5 Try.underlying9 (wk1.heap.size) 0 rfl rfl HRbk4.out.cell
            go_simp
            clear hx
            refine hK.out _ _ (fun _ => trivial) ?_
            clear hK K9
            refine U_one (i := 4) (by kernel_rfl) ?_
            refine U_go rfl (fun K9 hK => ?_)
            go_simp
            
            refine hK.out _ _ (fun _ => trivial) ?_
            clear hK K9
            refine U_one (i := 5) (by kernel_rfl) ?_
            refine U_go rfl (fun K9 hK => ?_)
            go_simp
            
            refine hK.out _ _ (fun _ => trivial) ?_
            clear hK K9
            refine U_end (by kernel_rfl) ?_
            exact ⟨W0.heap.size, wk1.heap.size, rfl, HBk4.out⟩
          ·
            refine U_go rfl (fun K9 hK => ?_)
            go_simp
            
            refine hK.out _ _ (fun _ => trivial) ?_
            clear hK K9
            refine U_one (i := 3) (by kernel_rfl) ?_
            refine U_go rfl (fun K9 hK => ?_)
            go_simp
            have hx := run_textR (P := Try.prog) wk4 28 9 5 (c := 16) (n := 16) (l := zr 16) Try.underlying28 Try.underlying5 Try.underlying9 (wk1.heap.size) 0 rfl rfl HRbk4.out.cell
            go_simp
            clear hx
            refine hK.out _ _ (fun _ => trivial) ?_
            clear hK K9
            refine U_one (i := 5) (by kernel_rfl) ?_
            refine U_go rfl (fun K9 hK => ?_)
            go_simp
            
            refine hK.out _ _ (fun _ => trivial) ?_
            clear hK K9
            refine U_end (by kernel_rfl) ?_
            exact ⟨W0.heap.size, wk1.heap.size, rfl, HBk4.out⟩
        ·
          refine U_go rfl (fun K9 hK => ?_)
          go_simp
          have hx := run_textR (P := Try.prog) wk4 28 9 5 (c := 16) (n := 16) (l := zr 16) Try.underlying28 Try.underlying5 Try.underlying9 (wk1.heap.size) 0 rfl rfl HRbk4.out.cell
          go_simp
          clear hx
          refine hK.out _ _ (fun _ => trivial) ?_
          clear hK K9
          refine U_one (i := 1) (by kernel_rfl) ?_
          refine U_go rfl (fun K9 hK => ?_)
          go_simp
          have hx := run_textR (P := Try.prog) wk4 28 9 5 (c := 32) (n := 32) (l := zr 32) Try.underlying28 Try.underlying5 Try.underlying9 (W0.heap.size) 0 rfl rfl HRak4.out.cell
          go_simp
          clear hx
          refine hK.out _ _ (fun _ => trivial) ?_
          clear hK K9
          refine U_one (i := 4) (by kernel_rfl) ?_
          refine U_go rfl (fun K9 hK => ?_)
          go_simp
          
          refine hK.out _ _ (fun _ => trivial) ?_
          clear hK K9
          refine U_one (i := 5) (by kernel_rfl) ?_
          refine U_go rfl (fun K9 hK => ?_)
          go_simp
          
          refine hK.out _ _ (fun _ => trivial) ?_
          clear hK K9
          refine U_end (by kernel_rfl) ?_
          exact ⟨W0.heap.size, wk1.heap.size, rfl, HBk4.out⟩
    ·
      refine U_go rfl (fun K9 hK => ?_)
      go_simp
      have HBk5 := hide (HBk0.out.alloc HBk0.out.size (.cells M16 5))
      have HRbk5 := hide (show Row (W0.alloc (.cells M16 5)) W0.heap.size 0 (bs (zr 16)) from r16 W0)
      refine hK.out _ _ (fun _ => trivial) ?_
      clear hK K9
      obtain ⟨wk5, hwk5⟩ : ∃ W, (W0.alloc (.cells M16 5)) = W := ⟨_, rfl⟩
      rw [hwk5] at HBk5 HRbk5
      rw [hwk5]
      clear hwk5
      refine U_two (i := 0) (j := 3) (by kernel_rfl) ?_ ?_
      ·
        refine U_go rfl (fun K9 hK => ?_)
        go_simp
        have HBk6 := hide (HBk5.out.alloc HBk5.out.size (.cells M32 5))
        have HRak6 := hide (show Row (wk5.alloc (.cells M32 5)) wk5.heap.size 0 (bs (zr 32)) from r32 wk5)
        have HRbk6 := hide (HRbk5.out.alloc (.cells M32 5))
        refine hK.out _ _ (fun _ => trivial) ?_
        clear hK K9
        obtain ⟨wk6, hwk6⟩ : ∃ W, (wk5.alloc (.cells M32 5)) = W := ⟨_, rfl⟩
        rw [hwk6] at HBk6 HRak6 HRbk6
        rw [hwk6]
        clear hwk6
        refine U_two (i := 1) (j := 3) (by kernel_rfl) ?_ ?_
        ·
          refine U_go rfl (fun K9 hK => ?_)
          go_simp
          have hx := run_textR (P := Try.prog) wk6 28 9 5 (c := 32) (n := 32) (l := zr 32) Try.underlying28 Try.underlying5 Try.underlying9 (wk5.heap.size) 0 rfl rfl HRak6.out.cell
          go_simp
          clear hx
          refine hK.out _ _ (fun _ => trivial) ?_
          clear hK K9
          refine U_two (i := 3) (j := 4) (by kernel_rfl) ?_ ?_
          ·
            refine U_go rfl (fun K9 hK => ?_)
            go_simp
            have hx := run_textR (P := Try.prog) wk6 28 9 5 (c := 16) (n := 16) (l := zr 16) Try.underlying28 Try.underlying5 Try.underlying9 (W0.heap.size) 0 rfl rfl HRbk6.out.cell
            go_simp
            clear hx
            refine hK.out _ _ (fun _ => trivial) ?_
            clear hK K9
            refine U_one (i := 4) (by kernel_rfl) ?_
            refine U_go rfl (fun K9 hK => ?_)
            go_simp
            
            refine hK.out _ _ (fun _ => trivial) ?_
            clear hK K9
            refine U_one (i := 5) (by kernel_rfl) ?_
            refine U_go rfl (fun K9 hK => ?_)
            go_simp
            
            refine hK.out _ _ (fun _ => trivial) ?_
            clear hK K9
            refine U_end (by kernel_rfl) ?_
            exact ⟨wk5.heap.size, W0.heap.size, rfl, HBk6.out⟩
          ·
            refine U_go rfl (fun K9 hK => ?_)
            go_simp
            
            refine hK.out _ _ (fun _ => trivial) ?_
            clear hK K9
            refine U_one (i := 3) (by kernel_rfl) ?_
            refine U_go rfl (fun K9 hK => ?_)
            go_simp
            have hx := run_textR (P := Try.prog) wk6 28 9 5 (c := 16) (n := 16) (l := zr 16) Try.underlying28 Try.underlying5 Try.underlying9 (W0.heap.size) 0 rfl rfl HRbk6.out.cell
            go_simp
            clear hx
            refine hK.out _ _ (fun _ => trivial) ?_
            clear hK K9
            refine U_one (i := 5) (by kernel_rfl) ?_
            refine U_go rfl (fun K9 hK => ?_)
            go_simp
            
            refine hK.out _ _ (fun _ => trivial) ?_
            clear hK K9
            refine U_end (by kernel_rfl) ?_
            exact ⟨wk5.heap.size, W0.heap.size, rfl, HBk6.out⟩
        ·
          refine U_go rfl (fun K9 hK => ?_)
          go_simp
          have hx := run_textR (P := Try.prog) wk6 28 9 5 (c := 16) (n := 16) (l := zr 16) Try.underlying28 Try.underlying5 Try.underlying9 (W0.heap.size) 0 rfl rfl HRbk6.out.cell
          go_simp
          clear hx
          refine hK.out _ _ (fun _ => trivial) ?_
          clear hK K9
          refine U_one (i := 1) (by kernel_rfl) ?_
          refine U_go rfl (fun K9 hK => ?_)
          go_simp
          have hx := run_textR (P := Try.prog) wk6 28 9 5 (c := 32) (n := 32) (l := zr 32) Try.underlying28 Try.underlying5 Try.underlying9 (wk5.heap.size) 0 rfl rfl HRak6.out.cell
          go_simp
          clear hx
          refine hK.out _ _ (fun _ => trivial) ?_
          clear hK K9
          refine U_one (i := 4) (by kernel_rfl) ?_
          refine U_go rfl (fun K9 hK => ?_)
          go_simp
          
          refine hK.out _ _ (fun _ => trivial) ?_
          clear hK K9
          refine U_one (i := 5) (by kernel_rfl) ?_
          refine U_go rfl (fun K9 hK => ?_)
          go_simp
          
          refine hK.out _ _ (fun _ => trivial) ?_
          clear hK K9
          refine U_end (by kernel_rfl) ?_
          exact ⟨wk5.heap.size, W0.heap.size, rfl, HBk6.out⟩
      ·
        refine U_go rfl (fun K9 hK => ?_)
        go_simp
        have hx := run_textR (P := Try.prog) wk5 28 9 5 (c := 16) (n := 16) (l := zr 16) Try.underlying28 Try.underlying5 Try.underlying9 (W0.heap.size) 0 rfl rfl HRbk5.out.cell
        go_simp
        clear hx
        refine hK.out _ _ (fun _ => trivial) ?_
        clear hK K9
        refine U_one (i := 0) (by kernel_rfl) ?_
        refine U_go rfl (fun K9 hK => ?_)
        go_simp
        have HBk7 := hide (HBk5.out.alloc HBk5.out.size (.cells M32 5))
        have HRak7 := hide (show Row (wk5.alloc (.cells M32 5)) wk5.heap.size 0 (bs (zr 32)) from r32 wk5)
        have HRbk7 := hide (HRbk5.out.alloc (.cells M32 5))
        refine hK.out _ _ (fun _ => trivial) ?_
        clear hK K9
        obtain ⟨wk7, hwk7⟩ : ∃ W, (wk5.alloc (.cells M32 5)) = W := ⟨_, rfl⟩
        rw [hwk7] at HBk7 HRak7 HRbk7
        rw [hwk7]
        clear hwk7
        refine U_one (i := 1) (by kernel_rfl) ?_
        refine U_go rfl (fun K9 hK => ?_)
        go_simp
        have hx := run_textR (P := Try.prog) wk7 28 9 5 (c := 32) (n := 32) (l := zr 32) Try.underlying28 Try.underlying5 Try.underlying9 (wk5.heap.size) 0 rfl rfl HRak7.out.cell
        go_simp
        clear hx
        refine hK.out _ _ (fun _ => trivial) ?_
        clear hK K9
        refine U_one (i := 4) (by kernel_rfl) ?_
        refine U_go rfl (fun K9 hK => ?_)
        go_simp
        
        refine hK.out _ _ (fun _ => trivial) ?_
        clear hK K9
        refine U_one (i := 5) (by kernel_rfl) ?_
        refine U_go rfl (fun K9 hK => ?_)
        go_simp
        
        refine hK.out _ _ (fun _ => trivial) ?_
        clear hK K9
        refine U_end (by kernel_rfl) ?_
        exact ⟨wk5.heap.size, W0.heap.size, rfl, HBk7.out⟩
  rintro a0 w0 ⟨x, y, rfl, hB⟩
  clear m32 m16 r32 r16 HBk0
  obtain ⟨K, eK⟩ : ∃ K, z32 = K := ⟨_, rfl⟩
  obtain ⟨X, eX⟩ : ∃ X, z16 = X := ⟨_, rfl⟩
  obtain ⟨S, eS⟩ : ∃ S, seT K X ⟨#[97, 98]⟩ = S := ⟨_, rfl⟩
  obtain ⟨V, eV⟩ : ∃ V, seT K X ⟨#[]⟩ = V := ⟨_, rfl⟩
  have zK : K.size = 32 := by rw [← eK]; exact z32_size
  have zX : X.size = 16 := by rw [← eX]; exact z16_size
  have eT : et K ⟨#[0, 0, 0, 0, 0, 0, 0, 2, 97, 98, 0, 0, 0, 0, 0, 0]⟩ = S := by rw [← eS, ← eX]; exact (se_ab zK).symm
  have zS : S.size = 16 := by rw [← eT]; exact et_size zK rfl
  have zV : V.size = 16 := by rw [← eV, seT_size _ zK zX, frm_nil, z16_size]
  have hop : opO K X S = some (sb ⟨#[97, 98]⟩) := by rw [← eS]; exact op_se _ zK zX (by decide)
  have oT : opT K X S = ⟨#[97, 98]⟩ := opT_some hop
  have oE : opE K X S = 0 := opE_some hop
  have f1 : frm ⟨#[97, 98]⟩ = ⟨#[0, 0, 0, 0, 0, 0, 0, 2, 97, 98, 0, 0, 0, 0, 0, 0]⟩ := frm_ab
  have f2 : frm ⟨#[]⟩ = X := frm_nil.trans eX
  have zVi : (V.size : Int) = 16 := by omega
  have HL := hide (show K.size = 32 ∧ X.size = 16 ∧ S.size ≤ 1048576 ∧ S.size ≠ 0 ∧ S.size % 16 = 0 from ⟨zK, zX, by omega, by omega, by omega⟩)
  have HE := hide (And.intro eS (And.intro eT (And.intro eV (And.intro oT (And.intro oE (And.intro f1 f2))))))
  rw [eK, eX]
  have HS0 := hide hB
  clear eK eX eS eV zK zX eT zS zV hop oT oE f1 f2 hB
  go_wp2_with fail
  refine (cSeal_ok K X ⟨#[97, 98]⟩ _ HL.out.1 HL.out.2.1 (by decide)).mono ?_
  rintro e w1 ⟨rfl, hB⟩
  rw [HE.out.1]
  have HS1 := hide (show Below w.heap.size w w1 from HS0.out.trans (hB.mono HS0.out.size))
  clear HS0 hB
  go_wp2_with fail
  refine (new_c K _ HL.out.1).mono ?_
  rintro e w2 ⟨b, rfl, hR, hb, hB⟩
  have HS2 := hide (show Below w.heap.size w w2 ∧ Row w2 b 0 (bs (ciB (kw K))) from ⟨HS1.out.trans (hB.mono HS1.out.size), hR⟩)
  clear HS1 hB hR hb
  go_wp2_with fail
  refine (enc_c K ⟨#[0, 0, 0, 0, 0, 0, 0, 2, 97, 98, 0, 0, 0, 0, 0, 0]⟩ _ b HL.out.1 rfl HS2.out.2).mono ?_
  rintro e w3 ⟨rfl, hB⟩
  rw [HE.out.2.1]
  have HS3 := hide (show Below w.heap.size w w3 ∧ Row w3 b 0 (bs (ciB (kw K))) from ⟨HS2.out.1.trans (hB.mono HS2.out.1.size), HS2.out.2.below hB HS2.out.2.lt⟩)
  clear HS2 hB
  go_wp2_with fail
  refine (cOpen_ok K X S _ HL.out.1 HL.out.2.1 HL.out.2.2.1 HL.out.2.2.2.1 HL.out.2.2.2.2).mono ?_
  rintro e w4 ⟨rfl, hB⟩
  rw [HE.out.2.2.2.1, HE.out.2.2.2.2.1]
  have HS4 := hide (show Below w.heap.size w w4 ∧ Row w4 b 0 (bs (ciB (kw K))) from ⟨HS3.out.1.trans (hB.mono HS3.out.1.size), HS3.out.2.below hB HS3.out.2.lt⟩)
  clear HS3 hB
  go_wp2_with fail
  refine (cSeal_ok K X ⟨#[]⟩ _ HL.out.1 HL.out.2.1 (by decide)).mono ?_
  rintro e w5 ⟨rfl, hB⟩
  rw [HE.out.2.2.1]
  have HS5 := hide (show Below w.heap.size w w5 ∧ Row w5 b 0 (bs (ciB (kw K))) from ⟨HS4.out.1.trans (hB.mono HS4.out.1.size), HS4.out.2.below hB HS4.out.2.lt⟩)
  clear HS4 hB
  go_wp2_with fail
  refine (cFrame_any ⟨#[97, 98]⟩ _ (by decide)).mono ?_
  rintro e w6 ⟨rfl, hB⟩
  rw [HE.out.2.2.2.2.2.1]
  have HS6 := hide (show Below w.heap.size w w6 ∧ Row w6 b 0 (bs (ciB (kw K))) from ⟨HS5.out.1.trans (hB.mono HS5.out.1.size), HS5.out.2.below hB HS5.out.2.lt⟩)
  clear HS5 hB
  go_wp2_with fail
  refine (cFrame_any ⟨#[]⟩ _ (by decide)).mono ?_
  rintro e w7 ⟨rfl, hB⟩
  rw [HE.out.2.2.2.2.2.2]
  have HS7 := hide (show Below w.heap.size w w7 ∧ Row w7 b 0 (bs (ciB (kw K))) from ⟨HS6.out.1.trans (hB.mono HS6.out.1.size), HS6.out.2.below hB HS6.out.2.lt⟩)
  clear HS6 hB
  go_wp2_with fail
  go_ret
  exact ⟨rfl, HS7.out.1⟩
end Go.Proofs.Ytknjmmbebkcnpaa

/- What the laws on chains take in: a byte of a text, a block of one. No call is walked here. -/
namespace Go.Proofs.Ytknjmmbebkcnpaa
open Go.RowKit Bk
set_option linter.unusedVariables false

theorem idx_gy (s : ByteArray) (k : Nat) (hk : k < s.size) (w : World) : (Instr.index 9 (.string s) (.int .i64 (k : Int))).run Try.prog w = .ok (.int .u8 ((gy (sb s) k).toNat : Int)) w := idx_str s k hk w
/-- Block k of a text. -/
def bt16 (s : ByteArray) (k : Nat) : ByteArray := s.extract (16 * k) (16 * k + 16)
theorem bt16_sb (s : ByteArray) (k : Nat) : sb (bt16 s k) = blk (sb s) k := by
  unfold bt16 blk
  rw [sb_extract, Nat.add_sub_cancel_left]
theorem bt16_size {s : ByteArray} {k : Nat} (h : 16 * k + 16 ≤ s.size) : (bt16 s k).size = 16 := by
  unfold bt16
  rw [ByteArray.size_extract]
  omega
theorem cut16 (s : ByteArray) (k i : Nat) (hi : i = 16 * k) (h : i + 16 ≤ s.size) (w : World) : (Instr.slice 9 (.string s) (some (.int .i64 (i : Int))) (some (.int .i64 ((i : Int) + 16))) none).run Try.prog w = .ok (.string (bt16 s k)) w := by
  subst hi
  rw [run_slice_string (P := Try.prog) w 9 s .i64 .i64 _ _ Try.underlying9 (Int.natCast_nonneg _) (by omega) (by omega)]
  unfold bt16
  congr 3
/-- Open, whatever is opened. -/
theorem opO_bad {K f s : ByteArray} (h : s.size = 0 ∨ s.size % 16 ≠ 0) : opO K f s = none := by
  unfold opO op
  rw [if_pos (by rw [sb_length]; exact h)]
theorem opO_len {K f s : ByteArray} {l : List UInt8} (hk : K.size = 32) (hf : f.size = 16) (h : opO K f s = some l) : l.length ≤ s.size := by
  unfold opO op at h
  split at h
  · cases h
  · rename_i hc
    have e := (pd_some h).2
    rw [un_length (cph_kw hk) (sb_len16 hf) (by omega), sb_length] at e
    omega
theorem cOpen_any (K f s : ByteArray) (w : World) (hk : K.size = 32) (hf : f.size = 16) (hs : s.size ≤ 1048576) :
    Calls Try.prog 12 #[.string K, .string f, .string s] w fun e w' => e = .returned (.tuple #[.string (opT K f s), .int .i64 (opE K f s)]) ∧ Below w.heap.size w w' := by
  by_cases h : s.size = 0 ∨ s.size % 16 ≠ 0
  · refine (cOpen_form K f s w hk hf h).mono ?_
    rintro e w' ⟨rfl, hB⟩
    have ho := opO_bad (K := K) (f := f) h
    exact ⟨by rw [opT_none ho, opE_none ho], hB⟩
  · exact cOpen_ok K f s w hk hf hs (fun e => h (.inl e)) (by omega)
end Go.Proofs.Ytknjmmbebkcnpaa
