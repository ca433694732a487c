/- The statement TagNames, which is closed, returns true. No condition. -/
import Derived.Test.YtjdgaolailfplaaTagA
namespace Go.Proofs.Ytjdgaolailfplaa
open Go.ChangeShapes Go.WideShapes Go.ChangeAt Go.RowKit Bk
open Go.ChangeMaps (open_string shut_string)
set_option linter.unusedVariables false
set_option linter.unusedSimpArgs false

/-- The six that may not be. -/
def qi (Z U : ByteArray) (k : Nat) : ByteArray := if k = 0 then z15 else if k = 1 then U else Z
def qn (k : Nat) : Int := if k = 2 then -1 else if k = 3 then 65536 else 0
def qm (k : Nat) : Int := if k = 4 then -1 else if k = 5 then 65536 else 0
theorem q_no {Z U : ByteArray} (hU : U.size = 17) (k : Nat) (hk : k < 6) : ¬ okOf (qi Z U k) (qn k) (qm k) := by
  rintro ⟨h1, h2, h3⟩
  match k, hk with
  | 0, _ => exact absurd (show z15.size = 16 from h1) (by decide)
  | 1, _ => exact absurd (show U.size = 16 from h1) (by omega)
  | 2, _ => exact absurd h2.1 (by decide)
  | 3, _ => exact absurd h2.2 (by decide)
  | 4, _ => exact absurd h3.1 (by decide)
  | 5, _ => exact absurd h3.2 (by decide)
def qcs (Z U : ByteArray) : List Value :=
  [.string z15, .int .i64 0, .int .i64 0, .string ⟨#[]⟩, .string U, .int .i64 0, .int .i64 0, .string ⟨#[]⟩, .string Z, .int .i64 (-1), .int .i64 0, .string ⟨#[]⟩,
   .string Z, .int .i64 65536, .int .i64 0, .string ⟨#[]⟩, .string Z, .int .i64 0, .int .i64 (-1), .string ⟨#[]⟩, .string Z, .int .i64 0, .int .i64 65536, .string ⟨#[]⟩]
theorem q_cells (Z U : ByteArray) (k : Nat) (hk : k < 6) : (qcs Z U)[k * 4]? = some (.string (qi Z U k)) ∧ (qcs Z U)[k * 4 + 1]? = some (.int .i64 (qn k)) ∧ (qcs Z U)[k * 4 + 2]? = some (.int .i64 (qm k)) ∧ (qcs Z U)[k * 4 + 3]? = some (.string ⟨#[]⟩) := by
  match k, hk with
  | 0, _ => exact ⟨rfl, rfl, rfl, rfl⟩
  | 1, _ => exact ⟨rfl, rfl, rfl, rfl⟩
  | 2, _ => exact ⟨rfl, rfl, rfl, rfl⟩
  | 3, _ => exact ⟨rfl, rfl, rfl, rfl⟩
  | 4, _ => exact ⟨rfl, rfl, rfl, rfl⟩
  | 5, _ => exact ⟨rfl, rfl, rfl, rfl⟩

set_option maxRecDepth 100000 in
set_option maxHeartbeats 8000000 in
theorem tagNames_any (w : World) : Calls Try.prog 4 #[] w fun e w' => e = .returned (.bool true) ∧ Below w.heap.size w w' := by
  have hmk : ∀ w, (Instr.makeSlice 31 (.int .i64 16) (.int .i64 16)).run Try.prog w = .ok (.slice (some ⟨w.heap.size, 0, none⟩) 16 16) (w.alloc (.cells (madeCells #[.int .u8 0] 16) 5)) := mk_bytes 16 (by decide)
  obtain ⟨W, eW, hB, hR⟩ : ∃ W, w.alloc (.cells (madeCells #[.int .u8 0] 16) 5) = W ∧ Below w.heap.size w W ∧ Row W w.heap.size 0 (bs (sb z16)) := ⟨_, rfl, (Below.refl _ w).alloc (Nat.le_refl _) _, id_row w⟩
  have hx := run_textR (P := Try.prog) W 31 9 5 (c := 16) (n := 16) (l := sb z16) Try.underlying31 Try.underlying5 Try.underlying9 w.heap.size 0 rfl rfl hR.cell
  have e16 : (⟨(sb z16).toArray⟩ : ByteArray) = z16 := mk_sb z16
  have HB := hide hB
  rw [e16] at hx
  obtain ⟨Z, eZ⟩ : ∃ Z, z16 = Z := ⟨_, rfl⟩
  obtain ⟨U, eU⟩ : ∃ U, Z ++ ByteArray.mk #[120] = U := ⟨_, rfl⟩
  have hZ : Z.size = 16 := by rw [← eZ]; rfl
  have hZ1 : Z.extract 1 16 = z15 := by rw [← eZ]; exact z16_15
  have hU : U.size = 17 := by rw [← eU, ← eZ]; rfl
  have p1 : ∀ w, (Op.stringOp .add Z (ByteArray.mk #[120])).run Try.prog w = .ok (.string U) w := fun w => by rw [run_string_add_sum _ _ _ (by rw [hZ]; decide), eU]
  rw [eZ] at hx
  obtain ⟨V, eV, hV, hRV⟩ : ∃ V, W.alloc (.cells #[.string z15, .int .i64 0, .int .i64 0, .string ⟨#[]⟩, .string U, .int .i64 0, .int .i64 0, .string ⟨#[]⟩, .string Z, .int .i64 (-1), .int .i64 0, .string ⟨#[]⟩,
   .string Z, .int .i64 65536, .int .i64 0, .string ⟨#[]⟩, .string Z, .int .i64 0, .int .i64 (-1), .string ⟨#[]⟩, .string Z, .int .i64 0, .int .i64 65536, .string ⟨#[]⟩] 23) = V ∧ Below w.heap.size w V ∧ Row V W.heap.size 0 (qcs Z U) :=
    ⟨_, rfl, HB.out.alloc HB.out.size _, Row.newL W (qcs Z U) 23⟩
  have HQ := hide (And.intro hV hRV)
  have HU := hide hU
  have hok : okOf Z 65535 65535 := ⟨hZ, ⟨by decide, by decide⟩, by decide, by decide⟩
  obtain ⟨M, eM⟩ : ∃ M, omk Z 65535 65535 ⟨#[]⟩ = M := ⟨_, rfl⟩
  have lM : M.size = 8 := by rw [← eM]; exact omk_size hok
  have HM := hide (And.intro (oer_ok hok) eM)
  clear hB hR e16 eZ eU hV hRV hU hok eM
  go_enter Try.func4, Try.ntmps4
  go_wp2_with fail
  go_loopg [3, 4, 5, 6, 7, 28] 6 (fun g _ _ _ _ _ t wr => ∃ k : Nat, k + g = 6 ∧ t = .int .i64 k ∧ Below V.heap.size V wr)
  case atStart => exact ⟨0, by omega, rfl, Below.refl _ _⟩
  case round =>
    obtain ⟨k, hkg, rfl, hB⟩ := hrel
    have HX := hide hB
    clear hB
    by_cases hlt : k < 6
    · have hltI : (k : Int) < 6 := by omega
      obtain ⟨g3, rfl⟩ : ∃ g3, gk = g3 + 1 := ⟨gk - 1, by omega⟩
      obtain ⟨q0, q1, q2, q3⟩ := q_cells Z U k hlt
      have hR := HQ.out.2.below HX.out HQ.out.2.lt
      have c0 := hR.at' q0
      have c1 := hR.at' q1
      have c2 := hR.at' q2
      have c3 := hR.at' q3
      rw [Nat.zero_add] at c0 c1 c2 c3
      have hno := q_no (Z := Z) HU.out k hlt
      obtain ⟨i, ei⟩ : ∃ i, qi Z U k = i := ⟨_, rfl⟩
      obtain ⟨n, en⟩ : ∃ n, qn k = n := ⟨_, rfl⟩
      obtain ⟨m, em⟩ : ∃ m, qm k = m := ⟨_, rfl⟩
      rw [ei, en, em] at hno
      rw [ei] at c0
      rw [en] at c1
      rw [em] at c2
      have HO := hide (And.intro (oer_no hno) (ois_no (t := ⟨#[]⟩) hno ⟨#[]⟩))
      obtain ⟨_, rfl, hBX, hCX⟩ := of_world wr i n m ⟨#[]⟩
      have HB2 := hide (HX.out.trans (hBX.mono HX.out.size))
      have HX0 := hide (Below.refl (wr.alloc (.cells #[.string i, .int .i64 n, .int .i64 m, .string ⟨#[]⟩] 23)).heap.size (wr.alloc (.cells #[.string i, .int .i64 n, .int .i64 m, .string ⟨#[]⟩] 23)))
      have HC := hide hCX
      clear q0 q1 q2 q3 hR ei en em hno hBX hCX
      go_wp2_with fail
      refine (make_any i n m ⟨#[]⟩ _ (by decide)).mono ?_
      rintro e w1 ⟨rfl, hw1⟩
      rw [HO.out.1]
      have HXw1 := hide (HX0.out.trans (hw1.mono HX0.out.size))
      clear hw1 HX0
      obtain ⟨a0, a1, a2, a3⟩ := HC.out _ HXw1.out
      go_wp2_with fail
      refine (text_any i n m ⟨#[]⟩ _ (by decide)).mono ?_
      rintro e w2 ⟨rfl, hw2⟩
      rw [HO.out.1]
      have HXw2 := hide (HXw1.out.trans (hw2.mono HXw1.out.size))
      clear hw2 HXw1 a0 a1 a2 a3
      obtain ⟨a0, a1, a2, a3⟩ := HC.out _ HXw2.out
      go_wp2_with fail
      refine (is_any i n m ⟨#[]⟩ ⟨#[]⟩ _ (by decide)).mono ?_
      rintro e w3 ⟨rfl, hw3⟩
      rw [HO.out.2]
      have HXw3 := hide (HXw2.out.trans (hw3.mono HXw2.out.size))
      clear hw3 HXw2 a0 a1 a2 a3
      obtain ⟨a0, a1, a2, a3⟩ := HC.out _ HXw3.out
      go_wp2_with fail
      go_roundg g3
      case measure => omega
      case rel => exact ⟨k + 1, by omega, by go_num, HB2.out.trans (HXw3.out.mono HB2.out.size)⟩
    · obtain rfl : k = 6 := by omega
      go_wp2_with fail
      refine (make_any Z 65535 65535 ⟨#[]⟩ _ (by decide)).mono ?_
      rintro e w1 ⟨rfl, h1⟩
      rw [HM.out.1, HM.out.2]
      have HX1 := hide (HX.out.trans (h1.mono HX.out.size))
      clear h1 HX
      go_wp2_with fail
      refine (tawake_any _).mono ?_
      rintro e w2 ⟨rfl, h2⟩
      have HX2 := hide (HX1.out.trans (h2.mono HX1.out.size))
      clear h2 HX1
      go_wp2_with fail
      go_ret
      exact ⟨rfl, HQ.out.1.trans (HX2.out.mono HQ.out.1.size)⟩

theorem tagNames_own : ownKnob Try.prog.godebug = none := by kernel_rfl
theorem tagNames_laidOut : laidOutB Try.prog = true := by kernel_rfl

set_option maxRecDepth 100000 in
theorem tagNames_lifted (os : Os) (started : os.Started) (H : Type) (enc : TypeId × Value → H) :
    ReturnsInHanded {} Try.checked os 4 .any (Rows.tagNamesSpec.pre6 enc Try.prog Try.f4 Rows.tagNamesRow.domain false) (Rows.tagNamesSpec.post enc Try.prog Try.f4 false true false false) := by
  refine returnsInHanded_of_change_sized (C := Try.checked) tagNames_own started (by kernel_rfl) Try.func4
    (ChangeSpec.witness6 (enc := enc) (C := Try.checked) false ⟨#[], #[], []⟩ 8 (by kernel_rfl) (by kernel_rfl) (by kernel_rfl) (by kernel_rfl)) ?_
  intro W base args ds gs before hval0 hW hcnd hsz0 _
  have hval : ∀ (j : Nat) t v, Try.f4.params[j]? = some t → args[j]? = some v → Value.okWide Try.prog W .any base t v := hval0
  have hW' := hW
  obtain ⟨p, q, hA0, hV, rfl, hfz, hnd⟩ := hW
  have hA : DataW.TrodAll enc Try.prog W 0 (fun _ => true) true Try.f4.params.toList args.toList ds p := hA0
  rw [Try.params4] at hA hval
  obtain ⟨rfl, rfl, rfl⟩ := trodAll_none hA
  obtain ⟨rfl, rfl⟩ := trodVars_none hV
  clear hA0 hval0 hsz0
  simp only [List.append_nil] at hW'
  refine (tagNames_any W ).mono fun e W' ⟨he, bel⟩ => ?_
  subst he
  exact ⟨_, rfl, _, _, _, [], [], [], hW', trodAll_mk1 (shut_bool Try.underlying4 _), rfl, rfl, bel.frame _, fun h => by cases h⟩

theorem tagNames_holds : Rows.TagNamesSaid :=
  OpenClaim.holds_of_wide 4 Try.f4 rfl rfl rfl rfl rfl rfl rfl ⟨rfl, rfl, rfl, rfl, rfl⟩ rfl rfl rfl rfl rfl (by kernel_rfl) Try.func4 (by kernel_rfl)
    (of_decide_eq_true (by kernel_rfl)) (by unfold Func.isWrapper; first | (rw [if_pos (by decide +kernel)]; kernel_rfl) | (rw [if_neg (by decide +kernel)]; exact ⟨rfl, rfl⟩))
    (fun os started H enc _ => tagNames_lifted os started H enc)

#print axioms tagNames_holds

end Go.Proofs.Ytjdgaolailfplaa
