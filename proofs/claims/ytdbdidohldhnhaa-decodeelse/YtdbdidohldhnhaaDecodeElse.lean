/- For any two slices of numbers of 16 bits, any slice of ints and any integer the statement DecodeElse returns true and its arguments read as before. No condition. -/
import Derived.Test.YtdbdidohldhnhaaDArgs
namespace Go.Proofs.Ytdbdidohldhnhaa
open Go.ChangeShapes Go.WideShapes Go.ChangeAt Go.RowKit Gf
open Go.ChangeMaps (open_string shut_string)
set_option linter.unusedVariables false

set_option maxRecDepth 100000 in
set_option maxHeartbeats 4000000 in
theorem decodeElse_any {w : World} {a0 a1 a2 : Option Addr} {n0 c0 n1 c1 n2 c2 : Nat} {p0 gl p2 : Nat → Int} {r : Int} (h0 : Sl w a0 n0 c0 p0) (m0 : n0 ≤ maxLen) (br : -9223372036854775808 ≤ r ∧ r ≤ 9223372036854775807) (h1 : Il w a1 n1 c1 gl) (m1 : n1 ≤ maxLen) (h2 : Sl w a2 n2 c2 p2) (m2 : n2 ≤ maxLen) :
    Calls Try.prog 6 #[.slice a0 n0 c0, .int .i64 r, .slice a1 n1 c1, .slice a2 n2 c2] w fun e w' => e = .returned (.bool true) ∧ Below w.heap.size w w' := by
  unfold maxLen at m0 m1 m2
  by_cases g0 : (60 : Int) < (n0 : Int)
  · go_enter Try.func6, Try.ntmps6
    go_wp2_with fail
    refine (dawake_any _).mono ?_
    rintro e w1 ⟨rfl, hB⟩
    go_wp2
    go_ret
    exact ⟨rfl, hB⟩
  by_cases g1 : (60 : Int) < (n1 : Int)
  · go_enter Try.func6, Try.ntmps6
    go_wp2_with fail
    refine (dawake_any _).mono ?_
    rintro e w1 ⟨rfl, hB⟩
    go_wp2
    go_ret
    exact ⟨rfl, hB⟩
  by_cases g2 : r < 0
  · go_enter Try.func6, Try.ntmps6
    go_wp2_with fail
    refine (dawake_any _).mono ?_
    rintro e w1 ⟨rfl, hB⟩
    go_wp2
    go_ret
    exact ⟨rfl, hB⟩
  by_cases g3 : 40 < r
  · go_enter Try.func6, Try.ntmps6
    go_wp2_with fail
    refine (dawake_any _).mono ?_
    rintro e w1 ⟨rfl, hB⟩
    go_wp2
    go_ret
    exact ⟨rfl, hB⟩
  by_cases g4 : (60 : Int) < (n2 : Int)
  · go_enter Try.func6, Try.ntmps6
    go_wp2_with fail
    refine (dawake_any _).mono ?_
    rintro e w1 ⟨rfl, hB⟩
    go_wp2
    go_ret
    exact ⟨rfl, hB⟩
  obtain ⟨R, rfl⟩ := Int.eq_ofNat_of_zero_le (show 0 ≤ r by omega)
  have HS := hide (And.intro h0 (And.intro h1 h2))
  clear h0 h1 h2
  go_enter Try.func6, Try.ntmps6
  go_wp2_with fail
  refine (dawake_any _).mono ?_
  rintro e w1 ⟨rfl, b1⟩
  have HB1 := hide b1
  have HA1 := hide (HS.out.1.below b1)
  have HG1 := hide (HS.out.2.1.below b1)
  clear b1
  by_cases hbad : n0 = 0 ∨ 255 < n0 ∨ (R : Int) < 0 ∨ (n0 : Int) < (R : Int) ∨ ¬ Gn gl n1 n0
  · have HBAD := hide hbad
    clear hbad
    go_wp2_with fail
    refine (dword_bad (a := a0) (c := c0) (R : Int) (by unfold maxLen; omega) HG1.out (by omega) HBAD.out).mono ?_
    rintro e w2 ⟨rfl, b2⟩
    have HT := hide (HB1.out.trans (b2.mono HB1.out.size))
    clear b2
    go_wp2_with fail
    go_ret
    exact ⟨rfl, HT.out⟩
  · have hgn : Gn gl n1 n0 := Classical.byContradiction fun h => hbad (.inr (.inr (.inr (.inr h))))
    have hn0 : 0 < n0 := by omega
    have hRn : R ≤ n0 := by omega
    have HGN := hide hgn
    clear hbad hgn
    by_cases hex : ∃ cw, Near n0 p0 R n1 gl cw
    · obtain ⟨cw, hcw⟩ := hex
      have HNR := hide hcw
      clear hcw
      go_wp2_with fail
      refine (dword_ok HA1.out HG1.out (by omega) hn0 (by omega) hRn HGN.out HNR.out).mono ?_
      rintro e w2 ⟨a3, c3, rfl, h3⟩
      have HT := hide (HB1.out.trans (h3.bel.mono HB1.out.size))
      have HA := hide (And.intro h3.sl (And.intro (HA1.out.below h3.bel) (HG1.out.below h3.bel)))
      have HP16 := hide (And.intro HA1.out.bd HNR.out.bd)
      clear h3
      go_wp2_with fail

      go_loopg [11, 12, 13, 14] n0 (fun g d t _ _ wr => ∃ k : Nat, k + g = n0 ∧ t = .int .i64 k ∧ d = .int .i64 (((cnt k (off gl n1 p0 cw) : Nat) : Int)) ∧ Below w2.heap.size w2 wr)
      case atStart => exact ⟨0, by omega, rfl, rfl, Below.refl _ _⟩
      case round =>
        obtain ⟨k, hkg, rfl, rfl, hbl⟩ := hrel
        have HB := hide hbl
        have hct := cnt_top k (off gl n1 p0 cw)
        obtain ⟨C, hC⟩ : ∃ C, cnt k (off gl n1 p0 cw) = C := ⟨_, rfl⟩
        rw [hC] at hct ⊢
        have HC := hide hC
        clear hbl hC
        by_cases hlt : k < n0
        · have hlt' : (k : Int) < (n0 : Int) := by omega
          obtain ⟨bx, ox, ex, hbx, hcx⟩ := HA.out.1.at'.resolve_left (by omega)
          obtain ⟨bz, oz, ez, hbz, hcz⟩ := HA.out.2.1.at'.resolve_left (by omega)
          subst ex ez
          have x1 := c_be HB.out hbx (hcx k hlt)
          have x2 := c_be HB.out hbz (hcz k hlt)
          have HGx := hide (HA.out.2.2.below HB.out)
          obtain ⟨gg, rfl⟩ : ∃ gg, gk = gg + 1 := ⟨gk - 1, by omega⟩
          clear hcx hcz
          go_wp2_with fail
          go_loopg [13, 14] n1 (fun g b t wx => ∃ j : Nat, j + g = n1 ∧ t = .int .i64 j ∧ b = .bool (gon gl j k) ∧ wx = wr)
          case atStart => exact ⟨0, by omega, rfl, rfl, rfl⟩
          case round =>
            obtain ⟨j, hjg, rfl, rfl, hwx⟩ := hrel
            obtain rfl := hwx.symm
            obtain ⟨bb, hbb⟩ : ∃ bb, gon gl j k = bb := ⟨_, rfl⟩
            by_cases hj : j < n1
            · have hj' : (j : Int) < (n1 : Int) := by omega
              obtain ⟨by', oy, ey, hby, hcy⟩ := HGx.out.at'.resolve_left (by omega)
              subst ey
              have y1 := hcy j hj
              have hsu := gon_succ gl j k
              obtain ⟨g3, rfl⟩ : ∃ g3, gk = g3 + 1 := ⟨gk - 1, by omega⟩
              rw [hbb] at hsu ⊢
              have HSU := hide hsu
              clear hcy hsu hbb
              cases bb with
              | true =>
                go_wp2_with fail
                go_roundg g3
                case measure => omega
                case rel => exact ⟨j + 1, by omega, by go_num, by rw [HSU.out]; rfl, rfl⟩
              | false =>
                by_cases heq : gl j = (k : Int)
                · have hq : (gl j == (k : Int)) = true := beq_yes heq
                  have HQ := hide hq
                  rw [heq] at y1
                  clear heq hq
                  go_wp2_with fail
                  go_roundg g3
                  case measure => omega
                  case rel => exact ⟨j + 1, by omega, by go_num, by rw [HSU.out, HQ.out]; rfl, rfl⟩
                · have hq : (gl j == (k : Int)) = false := beq_no heq
                  have HQ := hide hq
                  clear heq
                  go_wp2_with fail
                  go_roundg g3
                  case measure => omega
                  case rel => exact ⟨j + 1, by omega, by go_num, by rw [HSU.out, HQ.out]; rfl, rfl⟩
            · obtain rfl : j = n1 := by omega
              rw [hbb]
              have HBB := hide hbb
              clear hbb
              by_cases he : cw k = p0 k
              · have hq : (cw k != p0 k) = false := bne_no he
                have HE := hide he
                rw [he] at x1
                clear he hq
                go_wp2_with fail
                go_quiet (fail)
                go_wp2_with fail
                go_roundg gg
                case measure => omega
                case rel =>
                  refine ⟨k + 1, by omega, by go_num, ?_, below_drewN HB.out nq⟩
                  have e : cnt (k + 1) (off gl j p0 cw) = C := by
                    show cnt k _ + (if off gl j p0 cw k = 0 then 0 else 1) = C
                    rw [HC.out, if_pos (by unfold off; split; · rfl
                                           · rw [HE.out, f7])]
                    rfl
                  rw [e]
              · have hq : (cw k != p0 k) = true := bne_yes he
                have HE := hide he
                clear he
                cases bb with
                | true =>
                  go_wp2_with fail
                  go_quiet (fail)
                  go_wp2_with fail
                  go_roundg gg
                  case measure => omega
                  case rel =>
                    refine ⟨k + 1, by omega, by go_num, ?_, below_drewN HB.out nq⟩
                    have e : cnt (k + 1) (off gl j p0 cw) = C := by
                      show cnt k _ + (if off gl j p0 cw k = 0 then 0 else 1) = C
                      rw [HC.out, if_pos (by unfold off; rw [if_pos HBB.out])]
                      rfl
                    rw [e]
                | false =>
                  go_wp2_with fail
                  go_quiet (fail)
                  go_wp2_with fail
                  go_roundg gg
                  case measure => omega
                  case rel =>
                    refine ⟨k + 1, by omega, by go_num, ?_, below_drewN HB.out nq⟩
                    have e : cnt (k + 1) (off gl j p0 cw) = C + 1 := by
                      show cnt k _ + (if off gl j p0 cw k = 0 then 0 else 1) = C + 1
                      rw [HC.out, if_neg (by unfold off; rw [HBB.out, if_neg (by decide)]; exact fun h => HE.out (x_eq (HP16.out.1 k) (HP16.out.2 k) h).symm)]
                    rw [e]
                    go_num
        · obtain rfl : k = n0 := by omega
          have hlt' : ¬ (k : Int) < (k : Int) := by omega
          obtain ⟨wo, hwo⟩ : ∃ v, v = wr := ⟨_, rfl⟩
          subst hwo
          have hfew : 2 * (C : Int) + (n1 : Int) ≤ (R : Int) := by
            have h1 := HNR.out.few
            rw [HC.out] at h1
            omega
          go_wp2_with fail
          refine (right_yes (HA.out.1.below HB.out) R hRn (by omega) HNR.out.rt).mono ?_
          rintro e w9 ⟨rfl, b9⟩
          have HB9 := hide (HB.out.trans (b9.mono HB.out.size))
          clear b9
          go_wp2_with fail
          go_ret
          exact ⟨rfl, HT.out.trans (HB9.out.mono HT.out.size)⟩
    · have hno : ∀ cw, ¬ Near n0 p0 R n1 gl cw := fun cw h => hex ⟨cw, h⟩
      have HNO := hide hno
      clear hex hno
      go_wp2_with fail
      refine (dword_lost HA1.out HG1.out (by omega) hn0 (by omega) hRn HGN.out HNO.out).mono ?_
      rintro e w2 ⟨rfl, b2⟩
      have HB2 := hide (HB1.out.trans (b2.mono HB1.out.size))
      clear b2
      go_wp2_with fail
      refine (check_any (HS.out.2.2.below HB2.out) R (by omega)).mono ?_
      rintro e w3 ⟨a4, c4, ck, rfl, h4, hk⟩
      have HK := hide hk
      have HB3 := hide (HB2.out.trans (h4.bel.mono HB2.out.size))
      have HC3 := hide h4.sl
      have HO3 := hide (owns_nil w3 nul)
      have HBL3 := hide (bel_lit w3 (.cells #[] 29))
      have HL3 := hide ((HS.out.2.2.below HB3.out).alloc (.cells #[] 29))
      clear h4 hk
      by_cases hlen : n2 + R ≠ n0
      · have hl1 : ((n2 : Int) + (R : Int) != (n0 : Int)) = true := bne_yes (by omega)
        go_wp2_with fail
        go_ret
        exact ⟨rfl, HB3.out⟩
      have hl1 : ((n2 : Int) + (R : Int) != (n0 : Int)) = false := bne_no (by omega)
      have hlen' : n2 + R = n0 := by omega
      have HLN := hide hlen'
      have hlt2 : n2 ≤ n0 := by omega
      clear hlen hlen'
      go_wp2_with (first
        | (refine append_sl rfl (.tmp 147) (.tmp 148) rfl w3.heap.size _ 0 nul rfl HO3.out _ n2 c2 p2 rfl HL3.out (by omega) (by simp) w3 HBL3.out ?_
           intro v5 w5 hown5 hb5
           rw [Nat.zero_add, cat_nil] at hown5
           have HO5 := hide hown5
           have HB5 := hide hb5
           clear hown5 hb5)
        | (refine append_sl rfl (.tmp 149) (.tmp 150) rfl w3.heap.size _ n2 p2 rfl HO5.out _ R c4 ck rfl (HC3.out.below HB5.out) (by omega) HB5.out.size w3 HB5.out ?_
           intro v6 w4 hown6 hb6
           obtain ⟨a5, c5, hv6, h5⟩ := new_of_owns hown6 hb6 (cat16 HS.out.2.2.bd HK.out.bd) (cat_out HK.out.out)
           subst hv6
           obtain ⟨X, hX⟩ : ∃ X, cat n2 p2 ck = X := ⟨_, rfl⟩
           have hR : Rt n0 X R := by rw [← hX, ← HLN.out]; exact HK.out.rt
           rw [hX, HLN.out] at h5
           rw [HLN.out]
           have HXR := hide hR
           have HT := hide (HB3.out.trans (h5.bel.mono HB3.out.size))
           have HA := hide (And.intro h5.sl (And.intro (HS.out.1.below HT.out) (HS.out.2.1.below HT.out)))
           have HP16 := hide (And.intro HS.out.1.bd h5.sl.bd)
           have HXo := hide h5.sl.out
           clear hown6 hb6 h5 hX hR))

      go_loopg [18, 19, 20, 21] n0 (fun g d t _ _ wr => ∃ k : Nat, k + g = n0 ∧ t = .int .i64 k ∧ d = .int .i64 ((n1 : Int) + 2 * ((cnt k (off gl n1 p0 X) : Nat) : Int)) ∧ Below w4.heap.size w4 wr)
      case atStart => exact ⟨0, by omega, rfl, by show _ = Value.int .i64 ((n1 : Int) + 2 * ((0 : Nat) : Int)); go_num, Below.refl _ _⟩
      case round =>
        obtain ⟨k, hkg, rfl, rfl, hbl⟩ := hrel
        have HB := hide hbl
        have hct := cnt_top k (off gl n1 p0 X)
        obtain ⟨C, hC⟩ : ∃ C, cnt k (off gl n1 p0 X) = C := ⟨_, rfl⟩
        rw [hC] at hct ⊢
        have HC := hide hC
        clear hbl hC
        by_cases hlt : k < n0
        · have hlt' : (k : Int) < (n0 : Int) := by omega
          obtain ⟨bx, ox, ex, hbx, hcx⟩ := HA.out.1.at'.resolve_left (by omega)
          obtain ⟨bz, oz, ez, hbz, hcz⟩ := HA.out.2.1.at'.resolve_left (by omega)
          subst ex ez
          have x1 := c_be HB.out hbx (hcx k hlt)
          have x2 := c_be HB.out hbz (hcz k hlt)
          have HGx := hide (HA.out.2.2.below HB.out)
          obtain ⟨gg, rfl⟩ : ∃ gg, gk = gg + 1 := ⟨gk - 1, by omega⟩
          clear hcx hcz
          go_wp2_with fail
          go_loopg [20, 21] n1 (fun g b t wx => ∃ j : Nat, j + g = n1 ∧ t = .int .i64 j ∧ b = .bool (gon gl j k) ∧ wx = wr)
          case atStart => exact ⟨0, by omega, rfl, rfl, rfl⟩
          case round =>
            obtain ⟨j, hjg, rfl, rfl, hwx⟩ := hrel
            obtain rfl := hwx.symm
            obtain ⟨bb, hbb⟩ : ∃ bb, gon gl j k = bb := ⟨_, rfl⟩
            by_cases hj : j < n1
            · have hj' : (j : Int) < (n1 : Int) := by omega
              obtain ⟨by', oy, ey, hby, hcy⟩ := HGx.out.at'.resolve_left (by omega)
              subst ey
              have y1 := hcy j hj
              have hsu := gon_succ gl j k
              obtain ⟨g3, rfl⟩ : ∃ g3, gk = g3 + 1 := ⟨gk - 1, by omega⟩
              rw [hbb] at hsu ⊢
              have HSU := hide hsu
              clear hcy hsu hbb
              cases bb with
              | true =>
                go_wp2_with fail
                go_roundg g3
                case measure => omega
                case rel => exact ⟨j + 1, by omega, by go_num, by rw [HSU.out]; rfl, rfl⟩
              | false =>
                by_cases heq : gl j = (k : Int)
                · have hq : (gl j == (k : Int)) = true := beq_yes heq
                  have HQ := hide hq
                  rw [heq] at y1
                  clear heq hq
                  go_wp2_with fail
                  go_roundg g3
                  case measure => omega
                  case rel => exact ⟨j + 1, by omega, by go_num, by rw [HSU.out, HQ.out]; rfl, rfl⟩
                · have hq : (gl j == (k : Int)) = false := beq_no heq
                  have HQ := hide hq
                  clear heq
                  go_wp2_with fail
                  go_roundg g3
                  case measure => omega
                  case rel => exact ⟨j + 1, by omega, by go_num, by rw [HSU.out, HQ.out]; rfl, rfl⟩
            · obtain rfl : j = n1 := by omega
              rw [hbb]
              have HBB := hide hbb
              clear hbb
              by_cases he : X k = p0 k
              · have hq : (X k != p0 k) = false := bne_no he
                have HE := hide he
                rw [he] at x1
                clear he hq
                go_wp2_with fail
                go_quiet (fail)
                go_wp2_with fail
                go_roundg gg
                case measure => omega
                case rel =>
                  refine ⟨k + 1, by omega, by go_num, ?_, below_drewN HB.out nq⟩
                  have e : cnt (k + 1) (off gl j p0 X) = C := by
                    show cnt k _ + (if off gl j p0 X k = 0 then 0 else 1) = C
                    rw [HC.out, if_pos (by unfold off; split; · rfl
                                           · rw [HE.out, f7])]
                    rfl
                  rw [e]
              · have hq : (X k != p0 k) = true := bne_yes he
                have HE := hide he
                clear he
                cases bb with
                | true =>
                  go_wp2_with fail
                  go_quiet (fail)
                  go_wp2_with fail
                  go_roundg gg
                  case measure => omega
                  case rel =>
                    refine ⟨k + 1, by omega, by go_num, ?_, below_drewN HB.out nq⟩
                    have e : cnt (k + 1) (off gl j p0 X) = C := by
                      show cnt k _ + (if off gl j p0 X k = 0 then 0 else 1) = C
                      rw [HC.out, if_pos (by unfold off; rw [if_pos HBB.out])]
                      rfl
                    rw [e]
                | false =>
                  go_wp2_with fail
                  go_quiet (fail)
                  go_wp2_with fail
                  go_roundg gg
                  case measure => omega
                  case rel =>
                    refine ⟨k + 1, by omega, by go_num, ?_, below_drewN HB.out nq⟩
                    have e : cnt (k + 1) (off gl j p0 X) = C + 1 := by
                      show cnt k _ + (if off gl j p0 X k = 0 then 0 else 1) = C + 1
                      rw [HC.out, if_neg (by unfold off; rw [HBB.out, if_neg (by decide)]; exact fun h => HE.out (x_eq (HP16.out.1 k) (HP16.out.2 k) h).symm)]
                    rw [e]
                    go_num
        · obtain rfl : k = n0 := by omega
          have hlt' : ¬ (k : Int) < (k : Int) := by omega
          have hmany : (R : Int) < (n1 : Int) + 2 * (C : Int) := by
            rcases Nat.lt_or_ge R (2 * C + n1) with h | h
            · omega
            · exact (HNO.out X ⟨HP16.out.2, HXo.out, HXR.out, by rw [HC.out]; exact h⟩).elim
          go_wp2_with fail
          go_ret
          exact ⟨rfl, HT.out.trans (HB.out.mono HT.out.size)⟩

theorem decodeElse_own : ownKnob Try.prog.godebug = none := by kernel_rfl
theorem decodeElse_laidOut : laidOutB Try.prog = true := by kernel_rfl

set_option maxRecDepth 100000 in
theorem decodeElse_lifted (os : Os) (started : os.Started) (H : Type) (enc : TypeId × Value → H) :
    ReturnsInHanded {} Try.checked os 6 .any (Rows.decodeElseSpec.pre6 enc Try.prog Try.f6 Rows.decodeElseRow.domain false) (Rows.decodeElseSpec.post enc Try.prog Try.f6 false true false false) := by
  refine returnsInHanded_of_change (C := Try.checked) decodeElse_own started (by kernel_rfl) Try.func6
    (ChangeSpec.witness6 (enc := enc) (C := Try.checked) false ⟨#[], #[.slice none 0 0, .int .i64 0, .slice none 0 0, .slice none 0 0], []⟩ 8 (by kernel_rfl) (by kernel_rfl) (by kernel_rfl) (by kernel_rfl)) ?_
  intro W base args ds gs before hval0 hW hcnd _
  have hval : ∀ (j : Nat) t v, Try.f6.params[j]? = some t → args[j]? = some v → Value.okWide Try.prog W .any base t v := hval0
  have hW' := hW
  obtain ⟨p, q, hA0, hV, rfl, hfz, hnd⟩ := hW
  have hA : DataW.TrodAll enc Try.prog W 0 (fun _ => true) true Try.f6.params.toList args.toList ds p := hA0
  rw [Try.params6] at hA hval
  obtain ⟨v0, vs0, d0, ds0, p0, q0, hargs, rfl, rfl, h0, r0⟩ := trodAll_cons hA
  obtain ⟨v1, vs1, d1, ds1, p1, q1, rfl, rfl, rfl, h1, r1⟩ := trodAll_cons r0
  obtain ⟨v2, vs2, d2, ds2, p2, q2, rfl, rfl, rfl, h2, r2⟩ := trodAll_cons r1
  obtain ⟨v3, vs3, d3, ds3, p3, q3, rfl, rfl, rfl, h3, r3⟩ := trodAll_cons r2
  obtain ⟨rfl, rfl, rfl⟩ := trodAll_nil r3
  obtain rfl : args = #[v0, v1, v2, v3] := by cases args; simp_all
  obtain ⟨rfl, rfl⟩ := trodVars_none hV
  obtain ⟨a0, len0, cap0, rfl⟩ := okWide_slice Try.underlying22 (hval 0 22 v0 rfl rfl)
  have k0 := h0
  have lt0 : ∀ x ∈ p0, x.block < W.heap.size := by obtain ⟨m, hm⟩ := k0; exact DataW.trod_lt m _ _ _ hm
  obtain ⟨z0, w0⟩ : ∃ zs, IsRow .u16 W a0 len0 cap0 zs := by
    obtain ⟨fuel, hf⟩ := h0
    rcases open_ints Try.underlying22 Try.underlying29 (by kernel_rfl) hf with ⟨hcs, _⟩ | ⟨x, l, c, zs, hcs, _, hl, hm, hz, _, hcell, hwz⟩
    · simp [Value.cells] at hcs
      obtain ⟨rfl, rfl, rfl⟩ := hcs
      exact ⟨[], .inl ⟨rfl, rfl, rfl, rfl⟩⟩
    · simp [Value.cells] at hcs
      obtain ⟨rfl, rfl, rfl⟩ := hcs
      exact ⟨zs, .inr ⟨_, rfl, hl, hm, by simpa using hz, hcell, hwz⟩⟩
  obtain ⟨a1, rfl, rfl, rfl, w1⟩ := open_int Try.underlying3 (hval 1 3 v1 rfl rfl) h1
  obtain ⟨a2, len2, cap2, rfl⟩ := okWide_slice Try.underlying23 (hval 2 23 v2 rfl rfl)
  have k2 := h2
  have lt2 : ∀ x ∈ p2, x.block < W.heap.size := by obtain ⟨m, hm⟩ := k2; exact DataW.trod_lt m _ _ _ hm
  obtain ⟨z2, w2⟩ : ∃ zs, IsRow .i64 W a2 len2 cap2 zs := by
    obtain ⟨fuel, hf⟩ := h2
    rcases open_ints Try.underlying23 Try.underlying3 (by kernel_rfl) hf with ⟨hcs, _⟩ | ⟨x, l, c, zs, hcs, _, hl, hm, hz, _, hcell, hwz⟩
    · simp [Value.cells] at hcs
      obtain ⟨rfl, rfl, rfl⟩ := hcs
      exact ⟨[], .inl ⟨rfl, rfl, rfl, rfl⟩⟩
    · simp [Value.cells] at hcs
      obtain ⟨rfl, rfl, rfl⟩ := hcs
      exact ⟨zs, .inr ⟨_, rfl, hl, hm, by simpa using hz, hcell, hwz⟩⟩
  obtain ⟨a3, len3, cap3, rfl⟩ := okWide_slice Try.underlying22 (hval 3 22 v3 rfl rfl)
  have k3 := h3
  have lt3 : ∀ x ∈ p3, x.block < W.heap.size := by obtain ⟨m, hm⟩ := k3; exact DataW.trod_lt m _ _ _ hm
  obtain ⟨z3, w3⟩ : ∃ zs, IsRow .u16 W a3 len3 cap3 zs := by
    obtain ⟨fuel, hf⟩ := h3
    rcases open_ints Try.underlying22 Try.underlying29 (by kernel_rfl) hf with ⟨hcs, _⟩ | ⟨x, l, c, zs, hcs, _, hl, hm, hz, _, hcell, hwz⟩
    · simp [Value.cells] at hcs
      obtain ⟨rfl, rfl, rfl⟩ := hcs
      exact ⟨[], .inl ⟨rfl, rfl, rfl, rfl⟩⟩
    · simp [Value.cells] at hcs
      obtain ⟨rfl, rfl, rfl⟩ := hcs
      exact ⟨zs, .inr ⟨_, rfl, hl, hm, by simpa using hz, hcell, hwz⟩⟩
  clear hA0 hval0
  simp only [List.append_nil] at hW'
  refine (decodeElse_any (isRow_sl w0) (isRow_max w0) (bounds_i64 w1) (isRow_il w2) (isRow_maxI w2) (isRow_sl w3) (isRow_max w3)).mono fun e W' ⟨he, bel⟩ => ?_
  subst he
  exact ⟨_, rfl, _, _, _, [], _, [], hW', trodAll_mk1 (shut_bool Try.underlying4 _), (trodAll_cons_mk (Below.trod decodeElse_laidOut (by kernel_rfl) (of_decide_eq_true (by kernel_rfl)) k0 bel lt0) (trodAll_cons_mk (shut_int Try.underlying3 w1) (trodAll_cons_mk (Below.trod decodeElse_laidOut (by kernel_rfl) (of_decide_eq_true (by kernel_rfl)) k2 bel lt2) (trodAll_cons_mk (Below.trod decodeElse_laidOut (by kernel_rfl) (of_decide_eq_true (by kernel_rfl)) k3 bel lt3) trodAll_mk0)))), rfl, bel.frame _, fun h => by cases h⟩

theorem decodeElse_holds : Rows.DecodeElseSaid :=
  OpenClaim.holds_of_wide 6 Try.f6 rfl rfl rfl rfl rfl rfl rfl ⟨rfl, rfl, rfl, rfl, rfl⟩ rfl rfl rfl rfl rfl (by kernel_rfl) Try.func6 (by kernel_rfl)
    (of_decide_eq_true (by kernel_rfl)) (by unfold Func.isWrapper; first | (rw [if_pos (by decide +kernel)]; kernel_rfl) | (rw [if_neg (by decide +kernel)]; exact ⟨rfl, rfl⟩))
    (fun os started H enc _ => decodeElse_lifted os started H enc)

#print axioms decodeElse_holds

end Go.Proofs.Ytdbdidohldhnhaa
