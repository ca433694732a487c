/- The closed statement FieldNames returns true. No condition. -/
import Derived.Test.YtekmoioeoglinaaNums
import Derived.Deep.OwnRows
import Derived.ProofKit
import Derived.OpenShut
namespace Go.Proofs.Ytekmoioeoglinaa
open Go.ChangeShapes Go.WideShapes Go.ChangeAt Go.RowKit Go.Maps Gf

/-- How many numbers there are, as a name. -/
def siz : Nat := 65536
theorem siz_eq : siz = 65536 := rfl
/-- The table of what was seen, as it is made. -/
def row0 : Obj := .cells (madeCells #[.int .i64 0] siz) 3
theorem infoE : (Try.prog.info? 3).map (fun i => (i.zero, i.size, i.bytes)) = some (some (.int .i64 0), 1, 8) := by kernel_rfl
theorem make_row0 (w : World) : (Instr.makeSlice 24 (.int .i64 65536) (.int .i64 65536)).run Try.prog w = .ok (.slice (some ⟨w.heap.size, 0, none⟩) siz siz) (w.alloc row0) :=
  run_make_row' 24 3 (.int .i64 0) 8 Try.underlying24 infoE rfl .i64 .i64 siz (by decide) (by decide) w
theorem row0_is (w : World) : (w.alloc row0).rowIs w.heap.size 3 siz (fun _ => .int .i64 0) := World.rowIs_made w (.int .i64 0) siz 3

/-- How many powers there are, as a name. -/
def many : Nat := 65535
theorem exp_0 (f : Addr) (w : World) : Calls Try.prog 11 #[.pointer (some f), .int .i64 0] w fun e w' => e = .returned (.int .u16 1) ∧ w' = w := by
  have h := exp_any f 0 w
  rw [show pI 2 (0 % 65535) = 1 from rfl] at h
  exact h
theorem exp_1 (f : Addr) (w : World) : Calls Try.prog 11 #[.pointer (some f), .int .i64 1] w fun e w' => e = .returned (.int .u16 2) ∧ w' = w := by
  have h := exp_any f 1 w
  rw [show pI 2 (1 % 65535) = 2 from by decide +kernel] at h
  exact h
theorem exp_65535 (f : Addr) (w : World) : Calls Try.prog 11 #[.pointer (some f), .int .i64 65535] w fun e w' => e = .returned (.int .u16 1) ∧ w' = w := by
  have h := exp_any f 65535 w
  rw [show (65535 : Int) % 65535 = 0 from rfl, show pI 2 0 = 1 from rfl] at h
  exact h
/-- The power 65534 of 2, as a name. -/
def last : Int := pI 2 65534
theorem exp_m1 (f : Addr) (w : World) : Calls Try.prog 11 #[.pointer (some f), .int .i64 (-1)] w fun e w' => e = .returned (.int .u16 last) ∧ w' = w := by
  have h := exp_any f (-1) w
  rw [show (-1 : Int) % 65535 = 65534 from rfl] at h
  exact h
theorem exp_m65536 (f : Addr) (w : World) : Calls Try.prog 11 #[.pointer (some f), .int .i64 (-65536)] w fun e w' => e = .returned (.int .u16 last) ∧ w' = w := by
  have h := exp_any f (-65536) w
  rw [show (-65536 : Int) % 65535 = 65534 from rfl] at h
  exact h

theorem exp_at (n : Nat) (p : Nat) (hn : (n : Int) < 65535) (h : p = pw 2 n) : pI 2 ((n : Int) % 65535) = (p : Int) := by
  have h1 : pI 2 ((n : Int) % 65535) = ((pw 2 ((n : Int) % 65535).toNat : Nat) : Int) := by unfold pI; rfl
  rw [h1, h, show ((n : Int) % 65535).toNat = n from by omega]

theorem row_kept {w w' : World} {b t n : Nat} {f : Nat → Value} (h : w.rowIs b t n f) (hb : Below w.heap.size w w') : w'.rowIs b t n f := h.of_block (hb.block b h.lt)

theorem seen_step (k p : Nat) (f : Nat → Value) (hp : p = pw 2 k) (h : ∀ v, (∀ j, j < k → pw 2 j ≠ v) → f v = .int .i64 0) (v : Nat) (hv : ∀ j, j < k + 1 → pw 2 j ≠ v) : (if v = p then Value.int .i64 1 else f v) = .int .i64 0 := by
  rw [if_neg (fun e => hv k (by omega) (by omega))]
  exact h v fun j hj => hv j (by omega)

set_option maxRecDepth 100000 in
set_option maxHeartbeats 4000000 in
theorem names_core (N : Nat) (HN : Hid (N = 65536)) (ob : Obj) (hmm : ∀ w : World, (Instr.makeSlice 24 (.int .i64 65536) (.int .i64 65536)).run Try.prog w = .ok (.slice (some ⟨w.heap.size, 0, none⟩) N N) (w.alloc ob))
    (HO : Hid (∀ w : World, (w.alloc ob).rowIs w.heap.size 3 N (fun _ => .int .i64 0))) (w : World) :
    Calls Try.prog 3 #[] w fun e w' => e = .returned (.bool true) ∧ Below w.heap.size w w' := by
  go_enter Try.func3, Try.ntmps3
  go_wp2_with fail
  refine (new_any _).mono ?_
  rintro e w1 ⟨rfl, rfl⟩
  go_wp2_with fail
  go_loopw [3, 4] (fun t i wr => ∃ k p : Nat, Hid ((k : Int) ≤ 65535) ∧ i = .int .i64 k ∧ t = .int .u16 p ∧ Hid (p = pw 2 k) ∧ Below w.heap.size w wr ∧
    ∃ f, wr.rowIs (w.heap.size + 1) 3 N f ∧ Hid (∀ v, (∀ j, j < k → pw 2 j ≠ v) → f v = .int .i64 0)) (fun _ i _ => many - (intOf i).toNat)
  case atStart =>
    refine ⟨0, 1, hide (by omega), rfl, rfl, rfl, ((Below.refl _ _).alloc (Nat.le_refl _) _).alloc (by simp) _, fun _ => .int .i64 0, ?_, fun _ _ => rfl⟩
    have h := HO.out (w.alloc (Obj.cells #[] 40))
    simpa using h
  case round =>
    obtain ⟨k, p, hk, rfl, rfl, HP, hbl, f, hrow, HF⟩ := hrel
    clear hmm HO
    by_cases hlt : (k : Int) < 65535
    · have hp : 0 ≤ (p : Int) ∧ (p : Int) < 65536 := by have := pw_lt (a := 2) k (by decide); have := HP.out; omega
      have hp0 : ((p : Int) == 0) = false := beq_no (by have := pw2_ne k; have := HP.out; omega)
      have hcell : wr.cell? ⟨w.heap.size + 1, p, none⟩ = some (.int .i64 0) := by
        have h := hrow.cell (i := p) (by have := HN.out; omega)
        rw [HF.out p (fun j hj e => by have := HP.out; have := pw2_inj (i := j) (j := k) (by omega) (by omega) (by omega); omega)] at h
        exact h
      have hfz := hrow.frozen p
      have hps : p < N := by have := HN.out; omega
      have hk1 : Hid (((k + 1 : Nat) : Int) ≤ 65535) := hide (by omega)
      have HS := hide (seen_step k p f HP.out HF.out)
      have HM : Hid (gm p 2 = pw 2 (k + 1)) := hide (by rw [HP.out]; rfl)
      have HR1 := hide (hrow.set p (.int .i64 1))
      have hsz : w.heap.size + 1 < wr.heap.size := hrow.lt
      have hbl1 := hide (hbl.setCell (p := ⟨w.heap.size + 1, p, none⟩) (Nat.le_succ _) (.int .i64 1))
      have HB := hide hbl
      clear hrow hbl HF
      have HK : Hid (k < 65535) := hide (by omega)
      have HL : Hid (((pw 2 k : Nat) : Int) = (p : Int)) := hide (by rw [HP.out])
      have x3 := bne_no (exp_at k p hlt HP.out)
      have h97 : ((k : Int) % 97 == 0) = true ∨ ((k : Int) % 97 == 0) = false := by cases ((k : Int) % 97 == 0) <;> simp
      rcases h97 with h97 | h97
      · go_wp2_with fail
        refine (log_any _ _ k _ HK.out HL hp0).mono ?_
        rintro e w3 ⟨rfl, hb3⟩
        go_wp2_with (first
          | (go_at_call 11; refine (exp_any _ _ _).mono ?_; rintro e w' ⟨rfl, rfl⟩)
          | (go_at_call 12; refine (mul_any _ _ _ _ (by omega) (by omega)).mono ?_; rintro e w' ⟨rfl, rfl⟩))
        go_roundw
        case rel =>
          have hb4 := hbl1.out
          exact ⟨k + 1, gm p 2, hk1, by go_num, by rw [show gI (p : Int) 2 = ((gm p 2 : Nat) : Int) from gI_nat p 2], HM, hb4.trans (hb3.mono hb4.size), _, row_kept HR1.out hb3, HS⟩
        case measure => unfold many; simp [intOf]; omega
      · by_cases h3 : (k : Int) < 3
        · go_wp2_with fail
          refine (log_any _ _ k _ HK.out HL hp0).mono ?_
          rintro e w3 ⟨rfl, hb3⟩
          go_wp2_with (first
            | (go_at_call 11; refine (exp_any _ _ _).mono ?_; rintro e w' ⟨rfl, rfl⟩)
            | (go_at_call 12; refine (mul_any _ _ _ _ (by omega) (by omega)).mono ?_; rintro e w' ⟨rfl, rfl⟩))
          go_roundw
          case rel =>
            have hb4 := hbl1.out
            exact ⟨k + 1, gm p 2, hk1, by go_num, by rw [show gI (p : Int) 2 = ((gm p 2 : Nat) : Int) from gI_nat p 2], HM, hb4.trans (hb3.mono hb4.size), _, row_kept HR1.out hb3, HS⟩
          case measure => unfold many; simp [intOf]; omega
        · by_cases h4 : 65530 < (k : Int)
          · go_wp2_with fail
            refine (log_any _ _ k _ HK.out HL hp0).mono ?_
            rintro e w3 ⟨rfl, hb3⟩
            go_wp2_with (first
              | (go_at_call 11; refine (exp_any _ _ _).mono ?_; rintro e w' ⟨rfl, rfl⟩)
              | (go_at_call 12; refine (mul_any _ _ _ _ (by omega) (by omega)).mono ?_; rintro e w' ⟨rfl, rfl⟩))
            go_roundw
            case rel =>
              have hb4 := hbl1.out
              exact ⟨k + 1, gm p 2, hk1, by go_num, by rw [show gI (p : Int) 2 = ((gm p 2 : Nat) : Int) from gI_nat p 2], HM, hb4.trans (hb3.mono hb4.size), _, row_kept HR1.out hb3, HS⟩
            case measure => unfold many; simp [intOf]; omega
          · go_wp2_with (go_at_call 12; refine (mul_any _ _ _ _ (by omega) (by omega)).mono ?_; rintro e w' ⟨rfl, rfl⟩)
            go_roundw
            case rel => exact ⟨k + 1, gm p 2, hk1, by go_num, by rw [show gI (p : Int) 2 = ((gm p 2 : Nat) : Int) from gI_nat p 2], HM, hbl1.out, _, HR1.out, HS⟩
            case measure => unfold many; simp [intOf]; omega
    · clear hrow HF
      go_wp2_with fail
      refine (log_zero _ _).mono ?_
      rintro e w' ⟨rfl, rfl⟩
      go_wp2_with fail
      refine (inv_zero _ _).mono ?_
      rintro e w' ⟨rfl, rfl⟩
      go_wp2_with fail
      refine (works_any _).mono ?_
      rintro e w3 ⟨rfl, hb3⟩
      go_wp2_with fail
      refine (exp_0 _ _).mono ?_
      rintro e w' ⟨rfl, rfl⟩
      go_wp2_with fail
      refine (exp_1 _ _).mono ?_
      rintro e w' ⟨rfl, rfl⟩
      go_wp2_with fail
      refine (exp_65535 _ _).mono ?_
      rintro e w' ⟨rfl, rfl⟩
      go_wp2_with fail
      refine (exp_m65536 _ _).mono ?_
      rintro e w' ⟨rfl, rfl⟩
      go_wp2_with fail
      refine (exp_m1 _ _).mono ?_
      rintro e w' ⟨rfl, rfl⟩
      go_wp2
      go_ret
      exact ⟨rfl, hbl.trans (hb3.mono hbl.size)⟩

theorem fieldNames_any (w : World) : Calls Try.prog 3 #[] w fun e w' => e = .returned (.bool true) ∧ Below w.heap.size w w' :=
  names_core siz siz_eq row0 make_row0 row0_is w

theorem fieldNames_own : ownKnob Try.prog.godebug = none := by kernel_rfl

set_option maxRecDepth 100000 in
theorem fieldNames_lifted (os : Os) (started : os.Started) (H : Type) (enc : TypeId × Value → H) :
    ReturnsInHanded {} Try.checked os 3 .any (Rows.fieldNamesSpec.pre6 enc Try.prog Try.f3 Rows.fieldNamesRow.domain false) (Rows.fieldNamesSpec.post enc Try.prog Try.f3 false true false false) := by
  refine returnsInHanded_of_change (C := Try.checked) fieldNames_own started (by kernel_rfl) Try.func3
    (ChangeSpec.witness6 (enc := enc) (C := Try.checked) false ⟨#[], #[], []⟩ 8 (by kernel_rfl) (by kernel_rfl) (by kernel_rfl) (by kernel_rfl)) ?_
  intro W base args ds gs before hval0 hW hcnd _
  have hval : ∀ (j : Nat) t v, Try.f3.params[j]? = some t → args[j]? = some v → Value.okWide Try.prog W .any base t v := hval0
  have hW' := hW
  obtain ⟨p, q, hA0, hV, rfl, hfz, hnd⟩ := hW
  have hA : DataW.TrodAll enc Try.prog W 0 (fun _ => true) true Try.f3.params.toList args.toList ds p := hA0
  rw [Try.params3] at hA hval
  obtain ⟨rfl, rfl, rfl⟩ := trodAll_none hA
  obtain ⟨rfl, rfl⟩ := trodVars_none hV
  clear hA0 hval0
  simp only [List.append_nil] at hW'
  refine (fieldNames_any  W ).mono fun e W' ⟨he, bel⟩ => ?_
  subst he
  exact ⟨_, rfl, _, _, _, [], [], [], hW', trodAll_mk1 (shut_bool Try.underlying4 _), rfl, rfl, bel.frame _, fun h => by cases h⟩

theorem fieldNames_holds : Rows.FieldNamesSaid :=
  OpenClaim.holds_of_wide 3 Try.f3 rfl rfl rfl rfl rfl rfl rfl ⟨rfl, rfl, rfl, rfl, rfl⟩ rfl rfl rfl rfl rfl (by kernel_rfl) Try.func3 (by kernel_rfl)
    (of_decide_eq_true (by kernel_rfl)) (by unfold Func.isWrapper; first | (rw [if_pos (by decide +kernel)]; kernel_rfl) | (rw [if_neg (by decide +kernel)]; exact ⟨rfl, rfl⟩))
    (fun os started H enc _ => fieldNames_lifted os started H enc)

#print axioms fieldNames_holds

end Go.Proofs.Ytekmoioeoglinaa
