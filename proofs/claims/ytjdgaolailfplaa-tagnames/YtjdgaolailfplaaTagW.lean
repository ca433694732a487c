/- What each statement on tags asks first: the examples, walked. -/
import Derived.Test.YtjdgaolailfplaaTagN
namespace Go.Proofs.Ytjdgaolailfplaa
open Go.RowKit Bk
set_option linter.unusedVariables false
set_option linter.unusedSimpArgs false

/-- Sixteen noughts. -/
def z16 : ByteArray := ⟨#[0, 0, 0, 0, 0, 0, 0, 0, 0, 0, 0, 0, 0, 0, 0, 0]⟩
def z15 : ByteArray := ⟨#[0, 0, 0, 0, 0, 0, 0, 0, 0, 0, 0, 0, 0, 0, 0]⟩
theorem z16_15 : z16.extract 1 16 = z15 := ByteArray.extract_mk _ 1 16
theorem no15 : ¬ okOf z15 0 0 := fun h => absurd h.1 (by decide)
theorem ok12 : okOf z16 1 2 := ⟨rfl, ⟨by decide, by decide⟩, by decide, by decide⟩
def t12 : ByteArray := otx z16 1 2 ⟨#[97, 98]⟩
def m12 : ByteArray := omk z16 1 2 ⟨#[97, 98]⟩
theorem t12_size : t12.size = 22 := otx_size ok12
theorem m12_size : m12.size = 8 := omk_size ok12
theorem t12_end : t12.extract 16 22 = ⟨#[0, 1, 0, 2, 97, 98]⟩ := by
  unfold t12; rw [otx_ok ok12]; exact ByteArray.extract_mk _ 16 22
theorem m12_sum : m12 = (dg 0 (sb t12)).extract 0 8 := by unfold m12 t12; rw [omk_ok ok12, otx_ok ok12, sb_mk]
theorem id_row (w : World) : Row (w.alloc (.cells (madeCells #[.int .u8 0] 16) 5)) w.heap.size 0 (bs (sb z16)) := row_made w 16

set_option maxRecDepth 100000 in
set_option maxHeartbeats 4000000 in
theorem tawake_any (w : World) : Calls Try.prog 8 #[] w fun e w' => e = .returned (.bool true) ∧ Below w.heap.size w w' := by
  have hmk : ∀ w, (Instr.makeSlice 31 (.int .i64 16) (.int .i64 16)).run Try.prog w = .ok (.slice (some ⟨w.heap.size, 0, none⟩) 16 16) (w.alloc (.cells (madeCells #[.int .u8 0] 16) 5)) := mk_bytes 16 (by decide)
  obtain ⟨W, eW, hB, hR⟩ : ∃ W, w.alloc (.cells (madeCells #[.int .u8 0] 16) 5) = W ∧ Below w.heap.size w W ∧ Row W w.heap.size 0 (bs (sb z16)) := ⟨_, rfl, (Below.refl _ w).alloc (Nat.le_refl _) _, id_row w⟩
  have hx := run_textR (P := Try.prog) W 31 9 5 (c := 16) (n := 16) (l := sb z16) Try.underlying31 Try.underlying5 Try.underlying9 w.heap.size 0 rfl rfl hR.cell
  have e16 : (⟨(sb z16).toArray⟩ : ByteArray) = z16 := mk_sb z16
  have HB := hide hB
  rw [e16] at hx
  obtain ⟨Z, eZ⟩ : ∃ Z, z16 = Z := ⟨_, rfl⟩
  obtain ⟨T, eT⟩ : ∃ T, t12 = T := ⟨_, rfl⟩
  obtain ⟨M, eM⟩ : ∃ M, m12 = M := ⟨_, rfl⟩
  obtain ⟨D, eD⟩ : ∃ D, dg 0 (sb T) = D := ⟨_, rfl⟩
  have hZ : Z.size = 16 := by rw [← eZ]; rfl
  have hZ1 : Z.extract 1 16 = z15 := by rw [← eZ]; exact z16_15
  have hT : T.size = 22 := by rw [← eT]; exact t12_size
  have hT1 : T.extract 16 22 = ⟨#[0, 1, 0, 2, 97, 98]⟩ := by rw [← eT]; exact t12_end
  have hM : M.size = 8 := by rw [← eM]; exact m12_size
  have hD : D.size = 32 := by rw [← eD]; exact dg_size _ _
  have hD8 : D.extract 0 8 = M := by rw [← eM, m12_sum, eT, eD]
  have HE := hide (show otx Z 1 2 ⟨#[97, 98]⟩ = T ∧ omk Z 1 2 ⟨#[97, 98]⟩ = M ∧ oer Z 1 2 = 0 from ⟨by rw [← eZ, ← eT]; rfl, by rw [← eZ, ← eM]; rfl, by rw [← eZ]; exact oer_ok ok12⟩)
  have HD := hide eD
  rw [eZ] at hx
  clear hB hR e16 eZ eT eM eD
  go_enter Try.func8, Try.ntmps8
  go_wp2_with fail
  refine (make_any z15 0 0 ⟨#[]⟩ _ (by decide)).mono ?_
  rintro e w1 ⟨rfl, hB1⟩
  rw [oer_no no15]
  have HB1 := hide (HB.out.trans (hB1.mono HB.out.size))
  clear hB1
  go_wp2_with fail
  refine (text_any Z 1 2 ⟨#[97, 98]⟩ _ (by decide)).mono ?_
  rintro e w2 ⟨rfl, hB2⟩
  rw [HE.out.1, HE.out.2.2]
  have HB2 := hide (HB1.out.trans (hB2.mono HB1.out.size))
  clear hB2
  go_wp2_with fail
  refine (make_any Z 1 2 ⟨#[97, 98]⟩ _ (by decide)).mono ?_
  rintro e w3 ⟨rfl, hB3⟩
  rw [HE.out.2.1, HE.out.2.2]
  have HB3 := hide (HB2.out.trans (hB3.mono HB2.out.size))
  clear hB3
  go_wp2_with fail
  refine (bsum_any T _ (by omega)).mono ?_
  rintro e w4 ⟨rfl, hB4⟩
  rw [HD.out]
  have HB4 := hide (HB3.out.trans (hB4.mono HB3.out.size))
  clear hB4
  go_wp2_with fail
  go_ret
  exact ⟨rfl, HB4.out⟩
end Go.Proofs.Ytjdgaolailfplaa
