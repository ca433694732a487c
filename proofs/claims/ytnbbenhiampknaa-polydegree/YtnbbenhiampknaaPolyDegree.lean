/- For any two slices of numbers of 16 bits the statement PolyDegree returns true and its arguments read as before. No condition. -/
import Derived.Test.YtnbbenhiampknaaArgs
namespace Go.Proofs.Ytnbbenhiampknaa
open Go.ChangeShapes Go.WideShapes Go.ChangeAt Go.RowKit Gf
open Go.ChangeMaps (open_string shut_string)
set_option linter.unusedVariables false

theorem shr_zero {f : Nat → Int} (h : Shr f 0) : f = nul := funext fun j => h.2 j (Nat.zero_le _)
theorem add_shr_lt {f g : Nat → Int} {n m : Nat} (hf : Shr f n) (hg : Shr g m) (g16 : P16 g) (h : n < m) : Shr (addp f g) m := by
  refine ⟨.inr ?_, fun j hj => ?_⟩
  · show xI (f (m - 1)) (g (m - 1)) ≠ 0
    rw [hf.2 _ (by omega), x0 (g16 _)]
    exact hg.1.resolve_left (by omega)
  · show xI (f j) (g j) = 0
    rw [hf.2 _ (by omega), hg.2 _ hj, f7]
theorem add_shr_le {f g : Nat → Int} {n k : Nat} (hf : Shr f n) (hg : Shr g n) (hk : Shr (addp f g) k) : k ≤ n := by
  rcases hk.1 with h0 | h0
  · omega
  · rcases Nat.lt_or_ge n k with h1 | h1
    · refine (h0 ?_).elim
      show xI (f (k - 1)) (g (k - 1)) = 0
      rw [hf.2 _ (by omega), hg.2 _ (by omega), f7]
    · exact h1

set_option maxRecDepth 100000 in
set_option maxHeartbeats 4000000 in
theorem polyDegree_any {w : World} {a0 a1 : Option Addr} {n0 c0 n1 c1 : Nat} {p0 p1 : Nat → Int} (h0 : Sl w a0 n0 c0 p0) (m0 : n0 ≤ maxLen) (h1 : Sl w a1 n1 c1 p1) (m1 : n1 ≤ maxLen) :
    Calls Try.prog 7 #[.slice a0 n0 c0, .slice a1 n1 c1] w fun e w' => e = .returned (.bool true) ∧ Below w.heap.size w w' := by
  unfold maxLen at m0 m1
  by_cases g0 : 60 < n0
  · go_enter Try.func7, Try.ntmps7
    go_wp2_with fail
    refine (awake_any _).mono ?_
    rintro e w' ⟨rfl, hB⟩
    go_wp2
    go_ret
    exact ⟨rfl, hB⟩
  by_cases g1 : 60 < n1
  · go_enter Try.func7, Try.ntmps7
    go_wp2_with fail
    refine (awake_any _).mono ?_
    rintro e w' ⟨rfl, hB⟩
    go_wp2
    go_ret
    exact ⟨rfl, hB⟩
  have hT := Below.refl w.heap.size w
  have d0 := h0.bd
  have d1 := h1.bd
  have HD := hide (And.intro d0 d1)
  clear d0 d1
  go_enter Try.func7, Try.ntmps7
  go_wp2_with fail
  refine (awake_any _).mono ?_
  rintro e w11 ⟨rfl, b11⟩
  replace h0 := h0.below b11
  replace h1 := h1.below b11
  replace hT := hT.trans (b11.mono hT.size)
  clear b11
  go_wp2_with fail
  refine (short_any h0 (by omega)).mono ?_
  rintro e w12 ⟨a12, n12, c12, rfl, m12, s12, h12⟩
  replace h0 := h0.below h12.bel
  replace h1 := h1.below h12.bel
  replace hT := hT.trans (h12.bel.mono hT.size)
  replace h12 := h12.sl
  go_wp2_with fail
  refine (short_any h1 (by omega)).mono ?_
  rintro e w13 ⟨a13, n13, c13, rfl, m13, s13, h13⟩
  replace h0 := h0.below h13.bel
  replace h1 := h1.below h13.bel
  replace h12 := h12.below h13.bel
  replace hT := hT.trans (h13.bel.mono hT.size)
  replace h13 := h13.sl
  go_wp2_with fail
  refine (pmul_any h0 h1 (by omega) (by omega)).mono ?_
  rintro e w14 ⟨a14, n14, c14, rfl, m14, s14, h14⟩
  replace h0 := h0.below h14.bel
  replace h1 := h1.below h14.bel
  replace h12 := h12.below h14.bel
  replace h13 := h13.below h14.bel
  replace hT := hT.trans (h14.bel.mono hT.size)
  replace h14 := h14.sl
  go_wp2_with fail
  refine (padd_any h0 h1 (by omega) (by omega)).mono ?_
  rintro e w15 ⟨a15, n15, c15, rfl, m15, s15, h15⟩
  replace h0 := h0.below h15.bel
  replace h1 := h1.below h15.bel
  replace h12 := h12.below h15.bel
  replace h13 := h13.below h15.bel
  replace h14 := h14.below h15.bel
  replace hT := hT.trans (h15.bel.mono hT.size)
  replace h15 := h15.sl
  clear h0 h1 h13 h14 h15
  cases n12 with
  | zero =>
    have e0 : p0 = nul := shr_zero s12
    have e1 : n14 = 0 := s14.uniq (by rw [e0, mulp_nul HD.out.2]; exact ⟨.inl rfl, fun _ _ => rfl⟩)
    have e2 : n15 = n13 := s15.uniq (by rw [e0, nul_addp HD.out.2]; exact s13)
    subst e1 e2
    clear s12 s13 s14 s15
    go_wp2
    go_ret
    exact ⟨rfl, hT⟩
  | succ i =>
  cases n13 with
  | zero =>
    have e0 : p1 = nul := shr_zero s13
    have e1 : n14 = 0 := s14.uniq (by rw [e0, mulp_comm HD.out.1 nul16, mulp_nul HD.out.1]; exact ⟨.inl rfl, fun _ _ => rfl⟩)
    have e2 : n15 = i + 1 := s15.uniq (by rw [e0, addp_nul HD.out.1]; exact s12)
    subst e1 e2
    have q1 : ((i : Int) + 1 == 0) = false := beq_no (by omega)
    clear s12 s13 s14 s15
    go_wp2
    go_ret
    exact ⟨rfl, hT⟩
  | succ j =>
  have e1 : n14 = i + j + 1 := s14.uniq (mulp_shr HD.out.1 HD.out.2 s12 s13)
  subst e1
  have q1 : ((i : Int) + 1 == 0) = false := beq_no (by omega)
  have q2 : ((j : Int) + 1 == 0) = false := beq_no (by omega)
  have q3 : ((i : Int) + (j : Int) + 1 != (i : Int) + 1 + ((j : Int) + 1) - 1) = false := bne_no (by omega)
  rcases Nat.lt_trichotomy i j with hij | hij | hij
  · have e2 : n15 = j + 1 := s15.uniq (add_shr_lt s12 s13 HD.out.2 (by omega))
    subst e2
    have q4 : ((i : Int) + 1 != (j : Int) + 1) = true := bne_yes (by omega)
    have q5 : max ((i : Int) + 1) ((j : Int) + 1) = (j : Int) + 1 := by omega
    clear s13 s14 s15
    go_wp2_with fail
    refine (short_any h12 (by omega)).mono ?_
    rintro e w20 ⟨a20, n20, c20, rfl, m20, s20, h20⟩
    replace h12 := h12.below h20.bel
    replace hT := hT.trans (h20.bel.mono hT.size)
    go_wp2_with fail
    refine (same_sh h20.sl h12 s20 s12 (by omega) rfl).mono ?_
    rintro e w21 ⟨rfl, b21⟩
    replace h12 := h12.below b21
    replace hT := hT.trans (b21.mono hT.size)
    obtain ⟨bx, ox, rfl, hbx, hcx⟩ := h12.at'.resolve_left (by omega)
    have hci := hcx i (by omega)
    have hti : ((i : Int) + 1 - 1) = (i : Int) := by omega
    have hne : (p0 i != 0) = true := bne_yes (s12.1.resolve_left (by omega))
    clear hcx
    go_wp2
    go_ret
    exact ⟨rfl, hT⟩
  · subst hij
    have e2 := add_shr_le s12 s13 s15
    have q5 : max ((i : Int) + 1) ((i : Int) + 1) = (i : Int) + 1 := by omega
    clear s13 s14 s15
    go_wp2_with fail
    refine (short_any h12 (by omega)).mono ?_
    rintro e w20 ⟨a20, n20, c20, rfl, m20, s20, h20⟩
    replace h12 := h12.below h20.bel
    replace hT := hT.trans (h20.bel.mono hT.size)
    go_wp2_with fail
    refine (same_sh h20.sl h12 s20 s12 (by omega) rfl).mono ?_
    rintro e w21 ⟨rfl, b21⟩
    replace h12 := h12.below b21
    replace hT := hT.trans (b21.mono hT.size)
    obtain ⟨bx, ox, rfl, hbx, hcx⟩ := h12.at'.resolve_left (by omega)
    have hci := hcx i (by omega)
    have hti : ((i : Int) + 1 - 1) = (i : Int) := by omega
    have hne : (p0 i != 0) = true := bne_yes (s12.1.resolve_left (by omega))
    clear hcx
    go_wp2
    go_ret
    exact ⟨rfl, hT⟩
  · have e2 : n15 = i + 1 := s15.uniq (by rw [addp_comm]; exact add_shr_lt s13 s12 HD.out.1 (by omega))
    subst e2
    have q4 : ((i : Int) + 1 != (j : Int) + 1) = true := bne_yes (by omega)
    have q5 : max ((i : Int) + 1) ((j : Int) + 1) = (i : Int) + 1 := by omega
    clear s13 s14 s15
    go_wp2_with fail
    refine (short_any h12 (by omega)).mono ?_
    rintro e w20 ⟨a20, n20, c20, rfl, m20, s20, h20⟩
    replace h12 := h12.below h20.bel
    replace hT := hT.trans (h20.bel.mono hT.size)
    go_wp2_with fail
    refine (same_sh h20.sl h12 s20 s12 (by omega) rfl).mono ?_
    rintro e w21 ⟨rfl, b21⟩
    replace h12 := h12.below b21
    replace hT := hT.trans (b21.mono hT.size)
    obtain ⟨bx, ox, rfl, hbx, hcx⟩ := h12.at'.resolve_left (by omega)
    have hci := hcx i (by omega)
    have hti : ((i : Int) + 1 - 1) = (i : Int) := by omega
    have hne : (p0 i != 0) = true := bne_yes (s12.1.resolve_left (by omega))
    clear hcx
    go_wp2
    go_ret
    exact ⟨rfl, hT⟩

theorem polyDegree_own : ownKnob Try.prog.godebug = none := by kernel_rfl
theorem polyDegree_laidOut : laidOutB Try.prog = true := by kernel_rfl

set_option maxRecDepth 100000 in
theorem polyDegree_lifted (os : Os) (started : os.Started) (H : Type) (enc : TypeId × Value → H) :
    ReturnsInHanded {} Try.checked os 7 .any (Rows.polyDegreeSpec.pre6 enc Try.prog Try.f7 Rows.polyDegreeRow.domain false) (Rows.polyDegreeSpec.post enc Try.prog Try.f7 false true false false) := by
  refine returnsInHanded_of_change (C := Try.checked) polyDegree_own started (by kernel_rfl) Try.func7
    (ChangeSpec.witness6 (enc := enc) (C := Try.checked) false ⟨#[], #[.slice none 0 0, .slice none 0 0], []⟩ 8 (by kernel_rfl) (by kernel_rfl) (by kernel_rfl) (by kernel_rfl)) ?_
  intro W base args ds gs before hval0 hW hcnd _
  have hval : ∀ (j : Nat) t v, Try.f7.params[j]? = some t → args[j]? = some v → Value.okWide Try.prog W .any base t v := hval0
  have hW' := hW
  obtain ⟨p, q, hA0, hV, rfl, hfz, hnd⟩ := hW
  have hA : DataW.TrodAll enc Try.prog W 0 (fun _ => true) true Try.f7.params.toList args.toList ds p := hA0
  rw [Try.params7] at hA hval
  obtain ⟨v0, vs0, d0, ds0, p0, q0, hargs, rfl, rfl, h0, r0⟩ := trodAll_cons hA
  obtain ⟨v1, vs1, d1, ds1, p1, q1, rfl, rfl, rfl, h1, r1⟩ := trodAll_cons r0
  obtain ⟨rfl, rfl, rfl⟩ := trodAll_nil r1
  obtain rfl : args = #[v0, v1] := by cases args; simp_all
  obtain ⟨rfl, rfl⟩ := trodVars_none hV
  obtain ⟨a0, len0, cap0, rfl⟩ := okWide_slice Try.underlying22 (hval 0 22 v0 rfl rfl)
  have k0 := h0
  have lt0 : ∀ x ∈ p0, x.block < W.heap.size := by obtain ⟨m, hm⟩ := k0; exact DataW.trod_lt m _ _ _ hm
  obtain ⟨z0, w0⟩ : ∃ zs, IsRow .u16 W a0 len0 cap0 zs := by
    obtain ⟨fuel, hf⟩ := h0
    rcases open_ints Try.underlying22 Try.underlying23 (by kernel_rfl) hf with ⟨hcs, _⟩ | ⟨x, l, c, zs, hcs, _, hl, hm, hz, _, hcell, hwz⟩
    · simp [Value.cells] at hcs
      obtain ⟨rfl, rfl, rfl⟩ := hcs
      exact ⟨[], .inl ⟨rfl, rfl, rfl, rfl⟩⟩
    · simp [Value.cells] at hcs
      obtain ⟨rfl, rfl, rfl⟩ := hcs
      exact ⟨zs, .inr ⟨_, rfl, hl, hm, by simpa using hz, hcell, hwz⟩⟩
  obtain ⟨a1, len1, cap1, rfl⟩ := okWide_slice Try.underlying22 (hval 1 22 v1 rfl rfl)
  have k1 := h1
  have lt1 : ∀ x ∈ p1, x.block < W.heap.size := by obtain ⟨m, hm⟩ := k1; exact DataW.trod_lt m _ _ _ hm
  obtain ⟨z1, w1⟩ : ∃ zs, IsRow .u16 W a1 len1 cap1 zs := by
    obtain ⟨fuel, hf⟩ := h1
    rcases open_ints Try.underlying22 Try.underlying23 (by kernel_rfl) hf with ⟨hcs, _⟩ | ⟨x, l, c, zs, hcs, _, hl, hm, hz, _, hcell, hwz⟩
    · simp [Value.cells] at hcs
      obtain ⟨rfl, rfl, rfl⟩ := hcs
      exact ⟨[], .inl ⟨rfl, rfl, rfl, rfl⟩⟩
    · simp [Value.cells] at hcs
      obtain ⟨rfl, rfl, rfl⟩ := hcs
      exact ⟨zs, .inr ⟨_, rfl, hl, hm, by simpa using hz, hcell, hwz⟩⟩
  clear hA0 hval0
  refine (polyDegree_any (isRow_sl w0) (isRow_max w0) (isRow_sl w1) (isRow_max w1)).mono fun e W' ⟨he, bel⟩ => ?_
  subst he
  exact ⟨_, rfl, _, _, _, [], _, [], hW', trodAll_mk1 (shut_bool Try.underlying4 _), (trodAll_cons_mk (Below.trod polyDegree_laidOut (by kernel_rfl) (of_decide_eq_true (by kernel_rfl)) k0 bel lt0) (trodAll_cons_mk (Below.trod polyDegree_laidOut (by kernel_rfl) (of_decide_eq_true (by kernel_rfl)) k1 bel lt1) trodAll_mk0)), rfl, bel.frame _, fun h => by cases h⟩

theorem polyDegree_holds : Rows.PolyDegreeSaid :=
  OpenClaim.holds_of_wide 7 Try.f7 rfl rfl rfl rfl rfl rfl rfl ⟨rfl, rfl, rfl, rfl, rfl⟩ rfl rfl rfl rfl rfl (by kernel_rfl) Try.func7 (by kernel_rfl)
    (of_decide_eq_true (by kernel_rfl)) (by unfold Func.isWrapper; first | (rw [if_pos (by decide +kernel)]; kernel_rfl) | (rw [if_neg (by decide +kernel)]; exact ⟨rfl, rfl⟩))
    (fun os started H enc _ => polyDegree_lifted os started H enc)

#print axioms polyDegree_holds

end Go.Proofs.Ytnbbenhiampknaa
