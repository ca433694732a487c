/- The document's own answers for decode: Most, May, point, sums. For words of at most 255 symbols. -/
import Derived.Test.YtdbdidohldhnhaaPetM
import Derived.Test.YtdbdidohldhnhaaRefsP
import Derived.Test.YtdbdidohldhnhaaRfRights
import Derived.Test.YtdbdidohldhnhaaDArgs
namespace Go.Proofs.Ytdbdidohldhnhaa
open Go.RowKit Gf
set_option linter.unusedVariables false

set_option maxHeartbeats 400000 in
theorem refExp_any (n : Int) (w : World) :
    Calls Try.prog 48 #[.int .i64 n] w fun e w' => e = .returned (.int .u16 (pI 2 (n % 65535))) ∧ w' = w := by
  have hb := tm_bd n
  have h1 : 0 ≤ n % 65535 := Int.emod_nonneg _ (by decide)
  have h2 : n % 65535 < 65535 := Int.emod_lt_of_pos _ (by decide)
  by_cases hneg : n.tmod 65535 < 0
  · go_enter Try.func48, Try.ntmps48
    go_wp2_with fail
    rw [tm_no n hneg]
    refine (refpower_any _ _ _ (by decide) ⟨h1, by omega⟩).mono ?_
    rintro e w' ⟨rfl, rfl⟩
    go_wp2
    go_ret
    exact ⟨rfl, rfl⟩
  · have hpos : 0 ≤ n.tmod 65535 := by omega
    go_enter Try.func48, Try.ntmps48
    go_wp2_with fail
    rw [tm_yes n hpos]
    refine (refpower_any _ _ _ (by decide) ⟨h1, by omega⟩).mono ?_
    rintro e w' ⟨rfl, rfl⟩
    go_wp2
    go_ret
    exact ⟨rfl, rfl⟩
theorem refExp_al (k : Nat) (x : Int) (w : World) (hx : x = (k : Int)) (hk : k < 65535) : Calls Try.prog 48 #[.int .i64 x] w fun e w' => e = .returned (.int .u16 (al k)) ∧ w' = w := by
  subst hx
  have h := refExp_any (k : Int) w
  rw [al_mod k hk] at h
  exact h

theorem rfmost_no (r g : Int) (w : World) (h : r < g) : Calls Try.prog 14 #[.int .i64 r, .int .i64 g] w fun e w' => e = .returned (.int .i64 (-1)) ∧ w' = w := by
  go_enter Try.func14, Try.ntmps14
  go_wp2
  go_ret
  exact ⟨rfl, rfl⟩
theorem rfmost_yes (r g : Nat) (w : World) (h : g ≤ r) (hr : r ≤ 100000) : Calls Try.prog 14 #[.int .i64 (r : Int), .int .i64 (g : Int)] w fun e w' => e = .returned (.int .i64 (((r - g) / 2 : Nat) : Int)) ∧ w' = w := by
  have q : ¬ (r : Int) < (g : Int) := by omega
  go_enter Try.func14, Try.ntmps14
  go_wp2
  go_ret
  exact ⟨ret_i64 (by omega), rfl⟩

theorem rfpoint_any (n i : Nat) (x : Int) (hx : x = (i : Int)) (w : World) (hi : i < n) (hn : n ≤ 255) : Calls Try.prog 26 #[.int .i64 (n : Int), .int .i64 x] w fun e w' => e = .returned (.int .u16 (xa n i)) ∧ w' = w := by
  subst hx
  go_enter Try.func26, Try.ntmps26
  go_wp2_with fail
  refine (refExp_al (n - 1 - i) _ _ (by omega) (by omega)).mono ?_
  rintro e w' ⟨rfl, rfl⟩
  go_wp2
  go_ret
  exact ⟨rfl, rfl⟩

set_option maxRecDepth 100000 in
set_option maxHeartbeats 2000000 in
theorem may_any {w : World} {a : Option Addr} {m c n r : Nat} {gl : Nat → Int} (h : Il w a m c gl) (hm : m ≤ 1000) (hn0 : 0 < n) (hn : n ≤ 255) (hr : r ≤ n) :
    Calls Try.prog 24 #[.int .i64 (n : Int), .int .i64 (r : Int), .slice a m c] w fun e w' => Below w.heap.size w w' ∧ ((e = .returned (.bool true) ∧ Gn gl m n) ∨ (e = .returned (.bool false) ∧ ¬ Gn gl m n)) := by
  have q0 : ¬ (n : Int) < 1 := by omega
  have q1 : ¬ (255 : Int) < (n : Int) := by omega
  have q2 : ¬ (r : Int) < 0 := by omega
  have q3 : ¬ (n : Int) < (r : Int) := by omega
  have HS := hide h
  clear h
  go_enter Try.func24, Try.ntmps24
  go_wp2_with fail
  go_loopg [7, 8] m (fun g t _ wr => ∃ k : Nat, k + g = m ∧ t = .int .i64 k ∧ Gn gl k n ∧ Below w.heap.size w wr)
  case atStart => exact ⟨0, by omega, rfl, gn_nil gl n, Below.refl _ _⟩
  case round =>
    obtain ⟨k, hkg, rfl, hgn, hbl⟩ := hrel
    have HG := hide hgn
    have HB := hide hbl
    clear hgn hbl
    by_cases hlt : k < m
    · have hlt' : (k : Int) < (m : Int) := by omega
      obtain ⟨b, o, e1, hb, hc⟩ := HS.out.at'.resolve_left (by omega)
      subst e1
      have x1 := c_be HB.out hb (hc k hlt)
      have bd := HS.out.bd k
      unfold I64 at bd
      have HC := hide hc
      clear hc
      by_cases p1 : gl k < 0
      · go_wp2_with fail
        go_ret
        exact ⟨HB.out, .inr ⟨rfl, fun hG => by have := hG.1 k hlt; omega⟩⟩
      · by_cases p2 : (n : Int) ≤ gl k
        · go_wp2_with fail
          go_ret
          exact ⟨HB.out, .inr ⟨rfl, fun hG => by have := hG.1 k hlt; omega⟩⟩
        · go_wp2_with fail
          obtain ⟨gg, rfl⟩ : ∃ gg, gk = gg + 1 := ⟨gk - 1, by omega⟩
          go_loopg [8] k (fun g t wx => ∃ j : Nat, j + g = k ∧ t = .int .i64 j ∧ (∀ i, i < j → gl i ≠ gl k) ∧ Below w.heap.size w wx)
          case atStart => exact ⟨0, by omega, rfl, fun i hi => by omega, HB.out⟩
          case round =>
            obtain ⟨j, hjg, rfl, hno, hbx⟩ := hrel
            have HN := hide hno
            have HBx := hide hbx
            clear hno hbx
            by_cases hj : j < k
            · have hj' : (j : Int) < (k : Int) := by omega
              have y1 := c_be HBx.out hb (HC.out j (by omega))
              have y2 := c_be HBx.out hb (HC.out k hlt)
              obtain ⟨g3, rfl⟩ : ∃ g3, gk = g3 + 1 := ⟨gk - 1, by omega⟩
              by_cases he : gl j = gl k
              · have HE := hide he
                rw [he] at y1
                have hq : (gl k == gl k) = true := by simp
                clear he
                go_wp2_with fail
                go_quiet (fail)
                go_wp2_with fail
                go_ret
                exact ⟨below_drewN HBx.out nq, .inr ⟨rfl, fun hG => by have := hG.2 j k (by omega) hlt HE.out; omega⟩⟩
              · have hq : (gl j == gl k) = false := beq_no he
                have HE := hide he
                clear he
                go_wp2_with fail
                go_quiet (fail)
                go_wp2_with fail
                go_roundg g3
                case measure => omega
                case rel => exact ⟨j + 1, by omega, by go_num, fun i hi => by
                  by_cases e : i = j
                  · rw [e]; exact HE.out
                  · exact HN.out i (by omega), below_drewN HBx.out nq⟩
            · have hj' : ¬ (j : Int) < (k : Int) := by omega
              go_wp2_with fail
              go_roundg gg
              case measure => omega
              case rel =>
                refine ⟨k + 1, by omega, by go_num, gn_succ HG.out (by omega) (by omega) ?_, HBx.out⟩
                cases hc : gon gl k (gl k).toNat with
                | false => rfl
                | true =>
                  obtain ⟨i, hi, e⟩ := gon_iff.1 hc
                  exact (HN.out i (by omega) (by omega)).elim
    · have hlt' : ¬ (k : Int) < (m : Int) := by omega
      obtain rfl : k = m := by omega
      go_wp2_with fail
      go_ret
      exact ⟨HB.out, .inl ⟨rfl, HG.out⟩⟩
theorem may_yes {w : World} {a : Option Addr} {m c n r : Nat} {gl : Nat → Int} (h : Il w a m c gl) (hm : m ≤ 1000) (hn0 : 0 < n) (hn : n ≤ 255) (hr : r ≤ n) (hG : Gn gl m n) :
    Calls Try.prog 24 #[.int .i64 (n : Int), .int .i64 (r : Int), .slice a m c] w fun e w' => e = .returned (.bool true) ∧ Below w.heap.size w w' := by
  refine (may_any h hm hn0 hn hr).mono ?_
  rintro e w' ⟨hB, ⟨rfl, _⟩ | ⟨rfl, h1⟩⟩
  · exact ⟨rfl, hB⟩
  · exact (h1 hG).elim
set_option maxRecDepth 100000 in
set_option maxHeartbeats 2000000 in
theorem may_no {w : World} {a : Option Addr} {m c n : Nat} {gl : Nat → Int} (r : Int) (h : Il w a m c gl) (hm : m ≤ 1000) (hn : n ≤ maxLen) (hbad : n = 0 ∨ 255 < n ∨ r < 0 ∨ (n : Int) < r ∨ ¬ Gn gl m n) :
    Calls Try.prog 24 #[.int .i64 (n : Int), .int .i64 r, .slice a m c] w fun e w' => e = .returned (.bool false) ∧ Below w.heap.size w w' := by
  unfold maxLen at hn
  by_cases h0 : (n : Int) < 1
  · clear h hbad
    go_enter Try.func24, Try.ntmps24
    go_wp2
    go_ret
    exact ⟨rfl, Below.refl _ _⟩
  · by_cases h1 : (255 : Int) < (n : Int)
    · clear h hbad
      go_enter Try.func24, Try.ntmps24
      go_wp2
      go_ret
      exact ⟨rfl, Below.refl _ _⟩
    · by_cases h2 : r < 0
      · clear h hbad
        go_enter Try.func24, Try.ntmps24
        go_wp2
        go_ret
        exact ⟨rfl, Below.refl _ _⟩
      · by_cases h3 : (n : Int) < r
        · clear h hbad
          go_enter Try.func24, Try.ntmps24
          go_wp2
          go_ret
          exact ⟨rfl, Below.refl _ _⟩
        · obtain ⟨R, rfl⟩ := Int.eq_ofNat_of_zero_le (show 0 ≤ r by omega)
          refine (may_any h hm (by omega) (by omega) (by omega)).mono ?_
          rintro e w' ⟨hB, ⟨rfl, hG⟩ | ⟨rfl, _⟩⟩
          · rcases hbad with h | h | h | h | h
            · omega
            · omega
            · omega
            · omega
            · exact (h hG).elim
          · exact ⟨rfl, hB⟩

set_option maxRecDepth 100000 in
set_option maxHeartbeats 2000000 in
theorem rfdsums_any {w : World} {a : Option Addr} {n c : Nat} {f : Nat → Int} (h : Sl w a n c f) (r : Nat) (hr : r ≤ 255) (hn : n ≤ 255) :
    Calls Try.prog 25 #[.slice a n c, .int .i64 (r : Int)] w fun e w' => ∃ a' c', e = .returned (.slice a' r c') ∧ New w w' a' r c' (vs n f r) := by
  have HS := hide h
  clear h
  go_enter Try.func25, Try.ntmps25
  go_wp2_with fail
  go_loopg [5, 6, 7, 8, 9] r (fun g l t _ _ _ wr => ∃ k : Nat, k + g = r ∧ t = .int .i64 k ∧ wr.ownsRow w.heap.size 29 1 l k (vals (vs n f k) k) ∧ Below w.heap.size w wr)
  case atStart => exact ⟨0, by omega, rfl, World.ownsRow_nil _ _ _ _, Below.refl _ _⟩
  case round =>
    obtain ⟨k, hkg, rfl, hown, hbl⟩ := hrel
    have HO := hide hown
    have HB := hide hbl
    clear hown hbl
    have a16 := al16 k
    by_cases hlt : k < r
    · have hlt' : (k : Int) < (r : Int) := by omega
      go_wp2_with fail
      refine (refExp_al k _ _ rfl (by omega)).mono ?_
      rintro e w2 ⟨rfl, hw2⟩
      obtain rfl := hw2.symm
      obtain ⟨gg, rfl⟩ : ∃ gg, gk = gg + 1 := ⟨gk - 1, by omega⟩
      go_wp2_with fail
      go_loopg [8, 9] n (fun g v t wx => ∃ j : Nat, j + g = n ∧ t = .int .i64 j ∧ v = .int .u16 (vh (al k) j f) ∧ wx.ownsRow w.heap.size 29 1 u5 k (vals (vs n f k) k) ∧ Below w.heap.size w wx)
      case atStart => exact ⟨0, by omega, rfl, rfl, HO.out, HB.out⟩
      case round =>
        obtain ⟨j, hjg, rfl, rfl, hox, hbx⟩ := hrel
        have HOx := hide hox
        have HBx := hide hbx
        clear hox hbx
        have v16 := vh16 (x := al k) HS.out.bd j
        by_cases hj : j < n
        · have hj' : (j : Int) < (n : Int) := by omega
          obtain ⟨b, o, e1, hb, hc⟩ := HS.out.at'.resolve_left (by omega)
          subst e1
          have x1 := c_be HBx.out hb (hc j hj)
          have f16 := HS.out.bd j
          have m16 : 0 ≤ gI (vh (al k) j f) (al k) ∧ gI (vh (al k) j f) (al k) ≤ 65535 := g16 v16
          have hxor := xI_bits (gI (vh (al k) j f) (al k)) (f j) (by omega) (by omega)
          obtain ⟨g3, rfl⟩ : ∃ g3, gk = g3 + 1 := ⟨gk - 1, by omega⟩
          have HX := hide hxor
          clear hc hxor
          go_wp2_with fail
          go_quiet ((go_at_call 27; exact Calls.quiet_of_same (refMul_any _ _ _ (by omega) (by omega))))
          go_wp2_with fail
          go_roundg g3
          case measure => omega
          case rel => exact ⟨j + 1, by omega, by go_num, by rw [HX.out]; rfl, HOx.out, below_drewN HBx.out nq⟩
        · have hj' : ¬ (j : Int) < (n : Int) := by omega
          obtain rfl : j = n := by omega
          have hsz := HBx.out.size
          obtain ⟨wo, hwo⟩ : ∃ v, v = wr := ⟨_, rfl⟩
          subst hwo
          have l1 : Sl (wo.alloc (.cells #[.int .u16 (vh (al k) j f)] 29)) (some ⟨wo.heap.size, 0, none⟩) 1 1 (lf [vh (al k) j f]) := sl_lit wo [vh (al k) j f] (by
            intro y hy
            have : y = vh (al k) j f := by simpa using hy
            rw [this]
            exact v16)
          have HL := hide l1
          have HB2 := hide (HBx.out.alloc hsz (.cells #[.int .u16 (vh (al k) j f)] 29))
          clear l1
          go_wp2_with (refine append_sl rfl (.tmp 31) (.tmp 33) rfl w.heap.size _ k (vs j f k) rfl (HOx.out.alloc _) (some ⟨wo.heap.size, 0, none⟩) 1 1 (lf [vh (al k) j f]) rfl HL.out (by omega) (by simp; omega) w HB2.out ?_; intro v3 w3 hown3 hb3)
          have HO3 := hide hown3
          have HB3 := hide hb3
          clear hown3 hb3
          go_wp2_with fail
          go_roundg gg
          case measure => omega
          case rel =>
            refine ⟨k + 1, by omega, by go_num, ?_, HB3.out⟩
            have h9 := HO3.out
            have e : vals (cat k (vs j f k) (lf [vh (al k) j f])) (k + 1) = vals (vs j f (k + 1)) (k + 1) := by
              unfold vals
              refine List.map_congr_left fun i hi => ?_
              have hi' : i < k + 1 := by simpa using hi
              congr 1
              unfold cat vs
              by_cases h2 : i < k
              · rw [if_pos h2, if_pos h2, if_pos (by omega)]
              · obtain rfl : i = k := by omega
                rw [if_neg (by omega), if_pos (by omega), Nat.sub_self]
                rfl
            rw [e] at h9
            exact h9
    · have hlt' : ¬ (k : Int) < (r : Int) := by omega
      obtain rfl : k = r := by omega
      obtain ⟨a', c', rfl, hnew⟩ := new_of_owns HO.out HB.out (vs16 HS.out.bd) (vs_out n f k)
      have HN := hide hnew
      clear hnew HO
      go_wp2_with fail
      go_ret
      exact ⟨a', c', rfl, HN.out⟩

end Go.Proofs.Ytdbdidohldhnhaa
