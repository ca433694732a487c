/- For any three strings and any integer the statement ShaApart returns true and its arguments read as before. No condition. -/
import Derived.Test.YtgcgflmgppplmaaSArgs
namespace Go.Proofs.Ytgcgflmgppplmaa
open Go.ChangeShapes Go.WideShapes Go.ChangeAt Go.RowKit Bk
open Go.ChangeMaps (open_string shut_string)
set_option linter.unusedVariables false
set_option linter.unusedSimpArgs false

set_option maxRecDepth 100000 in
set_option maxHeartbeats 8000000 in
theorem shaApart_big (a b c : ByteArray) (n : Int) (w : World) (m0 : a.size ≤ 140737488351232) (m1 : b.size ≤ 140737488351232) (m2 : c.size ≤ 140737488351232) (hbig : 20000 < a.size + b.size + c.size) :
    Calls Try.prog 8 #[.string a, .string b, .string c, .int .i64 n] w fun e w' => e = .returned (.bool true) ∧ Below w.heap.size w w' := by
  have hg : (20000 : Int) < (a.size : Int) + (b.size : Int) + (c.size : Int) := by omega
  have k1 := IntWalk.i64_in ((a.size : Int) + (b.size : Int)) (by omega)
  have k2 := IntWalk.i64_in ((a.size : Int) + (b.size : Int) + (c.size : Int)) (by omega)
  clear m0 m1 m2 hbig
  go_enter Try.func8, Try.ntmps8
  have HB0 := hide (Below.refl w.heap.size w)
  go_wp2_with fail
  refine (works_any _).mono ?_
  rintro e w1 ⟨rfl, hw1⟩
  have HBw1 := hide (HB0.out.trans (hw1.mono HB0.out.size))
  clear hw1 HB0
  go_wp2_with fail
  refine (works_any _).mono ?_
  rintro e w2 ⟨rfl, hw2⟩
  have HBw2 := hide (HBw1.out.trans (hw2.mono HBw1.out.size))
  clear hw2 HBw1
  go_wp2_with fail
  go_ret
  exact ⟨rfl, HBw2.out⟩

set_option maxRecDepth 100000 in
set_option maxHeartbeats 8000000 in
theorem shaApart_main (a b c : ByteArray) (n : Int) (w : World) (bn : -9223372036854775808 ≤ n ∧ n ≤ 9223372036854775807) (hs : a.size + b.size + c.size ≤ 20000) :
    Calls Try.prog 8 #[.string a, .string b, .string c, .int .i64 n] w fun e w' => e = .returned (.bool true) ∧ Below w.heap.size w w' := by
  have ha : a.size ≤ 20000 := by omega
  have hb : b.size ≤ 20000 := by omega
  have hc : c.size ≤ 20000 := by omega
  have hg : ¬ ((20000 : Int) < (a.size : Int) + (b.size : Int) + (c.size : Int)) := by omega
  have k1 := IntWalk.i64_in ((a.size : Int) + (b.size : Int)) (by omega)
  have k2 := IntWalk.i64_in ((a.size : Int) + (b.size : Int) + (c.size : Int)) (by omega)
  obtain ⟨la, hla⟩ : ∃ la, la = sb a := ⟨_, rfl⟩
  obtain ⟨lb, hlb⟩ : ∃ lb, lb = sb b := ⟨_, rfl⟩
  obtain ⟨lc, hlc⟩ : ∃ lc, lc = sb c := ⟨_, rfl⟩
  have HLa := hide hla
  have HLb := hide hlb
  have HLc := hide hlc
  have na : la.length ≤ 20000 := by rw [hla, sb_length]; exact ha
  have nb : lb.length ≤ 20000 := by rw [hlb, sb_length]; exact hb
  have nc : lc.length ≤ 20000 := by rw [hlc, sb_length]; exact hc
  clear hla hlb hlc
  go_enter Try.func8, Try.ntmps8
  have HB0 := hide (Below.refl w.heap.size w)
  go_wp2_with fail
  refine (works_any _).mono ?_
  rintro e w1 ⟨rfl, hw1⟩
  have HBw1 := hide (HB0.out.trans (hw1.mono HB0.out.size))
  clear hw1 HB0
  go_wp2_with fail
  refine (snew_any _).mono ?_
  rintro e w2 ⟨bh, rfl, hbw2, hHw2, hw2⟩
  have Lh := hide (Nat.le_trans HBw1.out.size hbw2)
  have Kw2 := hide hHw2
  clear hbw2 hHw2
  have HBw2 := hide (HBw1.out.trans (hw2.mono HBw1.out.size))
  clear hw2 HBw1
  go_wp2_with fail
  refine (sadd_any a Kw2.out (by simp; omega)).mono ?_
  rintro e w3 ⟨rfl, hHw3, hw3⟩
  rw [List.nil_append, ← HLa.out] at hHw3
  have Hhw3 := hide hHw3
  have HBw3 := hide (HBw2.out.trans (hw3.below Lh.out HBw2.out.size))
  clear hHw3 hw3 Kw2 HBw2
  go_wp2_with fail
  refine (scopy_any Hhw3.out).mono ?_
  rintro e w4 ⟨bx, rfl, hbw4, hHw4, hw4⟩
  have Nhx := hide (Hhw3.out.ne hbw4)
  have Lx := hide (Nat.le_trans HBw3.out.size hbw4)
  have Kw4 := hide hHw4
  clear hbw4 hHw4
  have Hhw4 := hide (Hhw3.out.below hw4)
  have HBw4 := hide (HBw3.out.trans (hw4.mono HBw3.out.size))
  clear hw4 Hhw3 HBw3
  obtain ⟨m, hm, hm5⟩ := u64_rest n 5 (by decide) (by decide)
  go_wp2_with fail
  go_loopg [11] m (fun g t wr => ∃ k : Nat, k + g = m ∧ t = .int .i64 k ∧ Ss wr bh la ∧ Ss wr bx la ∧ Below w.heap.size w wr)
  case atStart => exact ⟨0, by omega, rfl, Hhw4.out, Kw4.out, HBw4.out⟩
  case round =>
    clear Hhw4 Kw4 HBw4
    obtain ⟨k, hkg, rfl, hHh, hHx, hHB⟩ := hrel
    have Hh0 := hide hHh
    have Hx0 := hide hHx
    have HB0 := hide hHB
    clear hHh hHx hHB
    by_cases hlt : k < m
    · have hlt' : (k : Int) < (m : Int) := by omega
      obtain ⟨g3, rfl⟩ : ∃ g3, gk = g3 + 1 := ⟨gk - 1, by omega⟩
      go_wp2_with fail
      refine (shsum_any Hh0.out (by omega)).mono ?_
      rintro e v1 ⟨rfl, hv1⟩
      have Hhv1 := hide (Hh0.out.below hv1)
      have Hxv1 := hide (Hx0.out.below hv1)
      have HBv1 := hide (HB0.out.trans (hv1.mono HB0.out.size))
      clear hv1 Hh0 Hx0 HB0
      go_wp2_with fail
      refine (ssum_any a _ (by omega)).mono ?_
      rintro e v2 ⟨rfl, hv2⟩
      rw [← HLa.out]
      have Hhv2 := hide (Hhv1.out.below hv2)
      have Hxv2 := hide (Hxv1.out.below hv2)
      have HBv2 := hide (HBv1.out.trans (hv2.mono HBv1.out.size))
      clear hv2 Hhv1 Hxv1 HBv1
      go_wp2_with fail
      refine (sadd_any ⟨#[]⟩ Hhv2.out (by show la.length + 0 < _; omega)).mono ?_
      rintro e v3 ⟨rfl, hHv3, hv3⟩
      rw [sb_empty, List.append_nil] at hHv3
      have Hxv3 := hide (Hxv2.out.bt hv3 Nhx.out.symm)
      have Hhv3 := hide hHv3
      have HBv3 := hide (HBv2.out.trans (hv3.below Lh.out HBv2.out.size))
      clear hHv3 hv3 Hhv2 Hxv2 HBv2
      go_wp2_with fail
      refine (scopy_any Hxv3.out).mono ?_
      rintro e v4 ⟨bz, rfl, hbv4, hHv4, hv4⟩
      have Nhz := hide (Hhv3.out.ne hbv4)
      have Nxz := hide (Hxv3.out.ne hbv4)
      have Lz := hide (Nat.le_trans HBv3.out.size hbv4)
      have Kv4 := hide hHv4
      clear hbv4 hHv4
      have Hhv4 := hide (Hhv3.out.below hv4)
      have Hxv4 := hide (Hxv3.out.below hv4)
      have HBv4 := hide (HBv3.out.trans (hv4.mono HBv3.out.size))
      clear hv4 Hhv3 Hxv3 HBv3
      go_wp2_with fail
      refine (sadd_any c Kv4.out (by omega)).mono ?_
      rintro e v5 ⟨rfl, hHv5, hv5⟩
      have Hhv5 := hide (Hhv4.out.bt hv5 Nhz.out)
      have Hxv5 := hide (Hxv4.out.bt hv5 Nxz.out)
      have Hzv5 := hide hHv5
      have HBv5 := hide (HBv4.out.trans (hv5.below Lz.out HBv4.out.size))
      clear hHv5 hv5 Hhv4 Hxv4 Kv4 HBv4
      go_wp2_with fail
      go_roundg g3
      case measure => omega
      case rel => exact ⟨k + 1, by omega, by go_num, Hhv5.out, Hxv5.out, HBv5.out⟩
    · obtain rfl : k = m := by omega
      obtain ⟨ab, eab, hab⟩ : ∃ ab, a ++ b = ab ∧ sb ab = la ++ lb := ⟨_, rfl, by rw [sb_app, HLa.out, HLb.out]⟩
      obtain ⟨ac, eac, hac⟩ : ∃ ac, a ++ c = ac ∧ sb ac = la ++ lc := ⟨_, rfl, by rw [sb_app, HLa.out, HLc.out]⟩
      obtain ⟨abc, eabc, habc⟩ : ∃ abc, ab ++ c = abc ∧ sb abc = la ++ lb ++ lc := ⟨_, rfl, by rw [sb_app, hab, HLc.out]⟩
      have HAB := hide hab
      have HAC := hide hac
      have HABC := hide habc
      have sab : ab.size ≤ 40000 := by rw [← sb_length, hab]; simp; omega
      have p1 : ∀ w, (Op.stringOp .add a b).run Try.prog w = .ok (.string ab) w := fun w => by rw [run_string_add_sum _ _ _ (by omega), eab]
      have p2 : ∀ w, (Op.stringOp .add a c).run Try.prog w = .ok (.string ac) w := fun w => by rw [run_string_add_sum _ _ _ (by omega), eac]
      have p3 : ∀ w, (Op.stringOp .add ab c).run Try.prog w = .ok (.string abc) w := fun w => by rw [run_string_add_sum _ _ _ (by omega), eabc]
      clear hab hac habc eab eac eabc
      go_wp2_with fail
      refine (sadd_any b Hh0.out (by omega)).mono ?_
      rintro e v1 ⟨rfl, hHv1, hv1⟩
      rw [← HLb.out] at hHv1
      have Hxv1 := hide (Hx0.out.bt hv1 Nhx.out.symm)
      have Hhv1 := hide hHv1
      have HBv1 := hide (HB0.out.trans (hv1.below Lh.out HB0.out.size))
      clear hHv1 hv1 Hh0 Hx0 HB0
      go_wp2_with fail
      refine (sadd_any c Hxv1.out (by omega)).mono ?_
      rintro e v2 ⟨rfl, hHv2, hv2⟩
      rw [← HLc.out] at hHv2
      have Hhv2 := hide (Hhv1.out.bt hv2 Nhx.out)
      have Hxv2 := hide hHv2
      have HBv2 := hide (HBv1.out.trans (hv2.below Lx.out HBv1.out.size))
      clear hHv2 hv2 Hhv1 Hxv1 HBv1
      go_wp2_with fail
      refine (shsum_any Hhv2.out (by simp; omega)).mono ?_
      rintro e v3 ⟨rfl, hv3⟩
      have Hhv3 := hide (Hhv2.out.below hv3)
      have Hxv3 := hide (Hxv2.out.below hv3)
      have HBv3 := hide (HBv2.out.trans (hv3.mono HBv2.out.size))
      clear hv3 Hhv2 Hxv2 HBv2
      go_wp2_with fail
      refine (ssum_any _ _ (by rw [← sb_length, HAB.out]; simp; omega)).mono ?_
      rintro e v4 ⟨rfl, hv4⟩
      rw [HAB.out]
      have Hhv4 := hide (Hhv3.out.below hv4)
      have Hxv4 := hide (Hxv3.out.below hv4)
      have HBv4 := hide (HBv3.out.trans (hv4.mono HBv3.out.size))
      clear hv4 Hhv3 Hxv3 HBv3
      go_wp2_with fail
      refine (shsum_any Hxv4.out (by simp; omega)).mono ?_
      rintro e v5 ⟨rfl, hv5⟩
      have Hhv5 := hide (Hhv4.out.below hv5)
      have Hxv5 := hide (Hxv4.out.below hv5)
      have HBv5 := hide (HBv4.out.trans (hv5.mono HBv4.out.size))
      clear hv5 Hhv4 Hxv4 HBv4
      go_wp2_with fail
      refine (ssum_any _ _ (by rw [← sb_length, HAC.out]; simp; omega)).mono ?_
      rintro e v6 ⟨rfl, hv6⟩
      rw [HAC.out]
      have Hhv6 := hide (Hhv5.out.below hv6)
      have Hxv6 := hide (Hxv5.out.below hv6)
      have HBv6 := hide (HBv5.out.trans (hv6.mono HBv5.out.size))
      clear hv6 Hhv5 Hxv5 HBv5
      go_wp2_with fail
      refine (sadd_any c Hhv6.out (by simp; omega)).mono ?_
      rintro e v7 ⟨rfl, hHv7, hv7⟩
      rw [← HLc.out] at hHv7
      have Hxv7 := hide (Hxv6.out.bt hv7 Nhx.out.symm)
      have Hhv7 := hide hHv7
      have HBv7 := hide (HBv6.out.trans (hv7.below Lh.out HBv6.out.size))
      clear hHv7 hv7 Hhv6 Hxv6 HBv6
      go_wp2_with fail
      refine (shsum_any Hhv7.out (by simp; omega)).mono ?_
      rintro e v8 ⟨rfl, hv8⟩
      have Hhv8 := hide (Hhv7.out.below hv8)
      have Hxv8 := hide (Hxv7.out.below hv8)
      have HBv8 := hide (HBv7.out.trans (hv8.mono HBv7.out.size))
      clear hv8 Hhv7 Hxv7 HBv7
      go_wp2_with fail
      refine (ssum_any _ _ (by rw [← sb_length, HABC.out]; simp; omega)).mono ?_
      rintro e v9 ⟨rfl, hv9⟩
      rw [HABC.out]
      have Hhv9 := hide (Hhv8.out.below hv9)
      have Hxv9 := hide (Hxv8.out.below hv9)
      have HBv9 := hide (HBv8.out.trans (hv9.mono HBv8.out.size))
      clear hv9 Hhv8 Hxv8 HBv8
      go_wp2_with fail
      go_ret
      exact ⟨rfl, HBv9.out⟩

theorem shaApart_any (w : World) (a : ByteArray) (m0 : a.size ≤ 140737488351232) (b : ByteArray) (m1 : b.size ≤ 140737488351232) (c : ByteArray) (m2 : c.size ≤ 140737488351232) (n : Int) (bn : -9223372036854775808 ≤ n ∧ n ≤ 9223372036854775807) :
    Calls Try.prog 8 #[.string a, .string b, .string c, .int .i64 n] w fun e w' => e = .returned (.bool true) ∧ Below w.heap.size w w' := by
  by_cases h : 20000 < a.size + b.size + c.size
  · exact shaApart_big a b c n w m0 m1 m2 h
  · exact shaApart_main a b c n w bn (by omega)

theorem shaApart_own : ownKnob Try.prog.godebug = none := by kernel_rfl
theorem shaApart_laidOut : laidOutB Try.prog = true := by kernel_rfl

set_option maxRecDepth 100000 in
theorem shaApart_lifted (os : Os) (started : os.Started) (H : Type) (enc : TypeId × Value → H) :
    ReturnsInHanded {} Try.checked os 8 .any (Rows.shaApartSpec.pre6 enc Try.prog Try.f8 Rows.shaApartRow.domain false) (Rows.shaApartSpec.post enc Try.prog Try.f8 false true false false) := by
  refine returnsInHanded_of_change_sized (C := Try.checked) shaApart_own started (by kernel_rfl) Try.func8
    (ChangeSpec.witness6 (enc := enc) (C := Try.checked) false ⟨#[], #[.string ⟨#[]⟩, .string ⟨#[]⟩, .string ⟨#[]⟩, .int .i64 0], []⟩ 8 (by kernel_rfl) (by kernel_rfl) (by kernel_rfl) (by kernel_rfl)) ?_
  intro W base args ds gs before hval0 hW hcnd hsz0 _
  have hval : ∀ (j : Nat) t v, Try.f8.params[j]? = some t → args[j]? = some v → Value.okWide Try.prog W .any base t v := hval0
  have hW' := hW
  obtain ⟨p, q, hA0, hV, rfl, hfz, hnd⟩ := hW
  have hA : DataW.TrodAll enc Try.prog W 0 (fun _ => true) true Try.f8.params.toList args.toList ds p := hA0
  rw [Try.params8] at hA hval
  obtain ⟨v0, vs0, d0, ds0, p0, q0, hargs, rfl, rfl, h0, r0⟩ := trodAll_cons hA
  obtain ⟨v1, vs1, d1, ds1, p1, q1, rfl, rfl, rfl, h1, r1⟩ := trodAll_cons r0
  obtain ⟨v2, vs2, d2, ds2, p2, q2, rfl, rfl, rfl, h2, r2⟩ := trodAll_cons r1
  obtain ⟨v3, vs3, d3, ds3, p3, q3, rfl, rfl, rfl, h3, r3⟩ := trodAll_cons r2
  obtain ⟨rfl, rfl, rfl⟩ := trodAll_nil r3
  obtain rfl : args = #[v0, v1, v2, v3] := by cases args; simp_all
  obtain ⟨rfl, rfl⟩ := trodVars_none hV
  obtain ⟨a0, rfl, rfl, rfl, w0⟩ := open_string Try.underlying9 (hval 0 9 v0 rfl rfl) h0
  have s0 : a0.size ≤ 140737488351232 := sized_string hsz0 (j := 0) (t := 9) rfl rfl
  obtain ⟨a1, rfl, rfl, rfl, w1⟩ := open_string Try.underlying9 (hval 1 9 v1 rfl rfl) h1
  have s1 : a1.size ≤ 140737488351232 := sized_string hsz0 (j := 1) (t := 9) rfl rfl
  obtain ⟨a2, rfl, rfl, rfl, w2⟩ := open_string Try.underlying9 (hval 2 9 v2 rfl rfl) h2
  have s2 : a2.size ≤ 140737488351232 := sized_string hsz0 (j := 2) (t := 9) rfl rfl
  obtain ⟨a3, rfl, rfl, rfl, w3⟩ := open_int Try.underlying3 (hval 3 3 v3 rfl rfl) h3
  clear hA0 hval0 hsz0
  simp only [List.append_nil] at hW'
  refine (shaApart_any W a0 s0 a1 s1 a2 s2 a3 (bounds_i64 w3)).mono fun e W' ⟨he, bel⟩ => ?_
  subst he
  exact ⟨_, rfl, _, _, _, [], _, [], hW', trodAll_mk1 (shut_bool Try.underlying4 _), (trodAll_cons_mk (shut_string Try.underlying9 w0) (trodAll_cons_mk (shut_string Try.underlying9 w1) (trodAll_cons_mk (shut_string Try.underlying9 w2) (trodAll_cons_mk (shut_int Try.underlying3 w3) trodAll_mk0)))), rfl, bel.frame _, fun h => by cases h⟩

theorem shaApart_holds : Rows.ShaApartSaid :=
  OpenClaim.holds_of_wide 8 Try.f8 rfl rfl rfl rfl rfl rfl rfl ⟨rfl, rfl, rfl, rfl, rfl⟩ rfl rfl rfl rfl rfl (by kernel_rfl) Try.func8 (by kernel_rfl)
    (of_decide_eq_true (by kernel_rfl)) (by unfold Func.isWrapper; first | (rw [if_pos (by decide +kernel)]; kernel_rfl) | (rw [if_neg (by decide +kernel)]; exact ⟨rfl, rfl⟩))
    (fun os started H enc _ => shaApart_lifted os started H enc)

#print axioms shaApart_holds

end Go.Proofs.Ytgcgflmgppplmaa
