/- The document's own answers for rs: a word's value, its values at powers, whether it is right. For at most 1000 numbers of 16 bits. -/
import Derived.Test.YtdbdidohldhnhaaWords
import Derived.Test.YtdbdidohldhnhaaRefsP
import Derived.OwnWalk
import Derived.Maps.AppendAt
import Derived.StillTailTactics
import Derived.Deep.QuietTactic
import Derived.BigQuiet
namespace Go.Proofs.Ytdbdidohldhnhaa
open Go.RowKit Gf
set_option linter.unusedVariables false

/-- The sum of the last t symbols' products with powers, from the last one on. -/
def vb (x : Int) (n : Nat) (f : Nat → Int) : Nat → Int
  | 0 => 0
  | t + 1 => xI (vb x n f t) (gI (f (n - 1 - t)) (pk x t))
theorem vb16 {x : Int} {n : Nat} {f : Nat → Int} (hf : P16 f) (t : Nat) : 0 ≤ vb x n f t ∧ vb x n f t ≤ 65535 := by
  induction t with
  | zero => exact z16
  | succ t ih => exact x16 ih (g16 (hf _))
theorem vb_vh {x : Int} (hx : 0 ≤ x ∧ x ≤ 65535) {n : Nat} {f : Nat → Int} (hf : P16 f) (t : Nat) (ht : t ≤ n) : xI (gI (vh x (n - t) f) (pk x t)) (vb x n f t) = vh x n f := by
  induction t with
  | zero =>
    show xI (gI (vh x (n - 0) f) 1) 0 = _
    rw [f8 _ (vh16 hf _).1, f6 _ (vh16 hf _).1, Nat.sub_zero]
  | succ t ih =>
    rw [← ih (by omega), show n - t = (n - (t + 1)) + 1 from by omega]
    show xI (gI (vh x (n - (t + 1)) f) (gI (pk x t) x)) (xI (vb x n f t) (gI (f (n - 1 - t)) (pk x t))) = xI (gI (xI (gI (vh x (n - (t + 1)) f) x) (f (n - (t + 1)))) (pk x t)) (vb x n f t)
    have hp := pk16 hx t
    have hv := vh16 (x := x) hf (n - (t + 1))
    rw [g5 (g16 hv) (hf _) hp, g4 hv hx, g2 hx hp, show n - (t + 1) = n - 1 - t from by omega, f1 (vb x n f t) _, f3]
theorem vb_all {x : Int} (hx : 0 ≤ x ∧ x ≤ 65535) {n : Nat} {f : Nat → Int} (hf : P16 f) : vb x n f n = vh x n f := by
  have h := vb_vh hx hf n (Nat.le_refl _)
  rw [Nat.sub_self] at h
  have h2 : xI (gI 0 (pk x n)) (vb x n f n) = vh x n f := h
  rw [f12, x0 (vb16 hf n)] at h2
  exact h2

set_option maxRecDepth 100000 in
set_option maxHeartbeats 1000000 in
theorem rfvalue_any {w : World} {a : Option Addr} {n c : Nat} {f : Nat → Int} {x : Int} (h : Sl w a n c f) (hn : n ≤ 1000) (hx : 0 ≤ x ∧ x ≤ 65535) :
    Calls Try.prog 60 #[.slice a n c, .int .u16 x] w fun e w' => e = .returned (.int .u16 (vh x n f)) ∧ w' = w := by
  have HAT := hide h.at'
  have HBD := hide h.bd
  clear h
  go_enter Try.func60, Try.ntmps60
  go_wp2_with fail
  go_loop [5, 6, 7] (fun s p i => ∃ t : Nat, t ≤ n ∧ s = .int .u16 (vb x n f t) ∧ p = .int .u16 (pk x t) ∧ i = .int .i64 ((n : Int) - 1 - t)) (fun _ _ i => (intOf i + 1).toNat)
  case atStart => exact ⟨0, Nat.zero_le _, rfl, rfl, by go_num⟩
  case round =>
    obtain ⟨t, ht, rfl, rfl, rfl⟩ := hrel
    have s16 := vb16 (x := x) (n := n) HBD.out t
    have p16 := pk16 hx t
    by_cases hlt : t < n
    · have hge : (0 : Int) ≤ (n : Int) - 1 - t := by omega
      have t1 : ((n : Int) - 1 - (t : Int)).toNat = n - 1 - t := by omega
      have b2 : (n : Int) - 1 - (t : Int) < (n : Int) := by omega
      obtain ⟨b, o, rfl, hb, hc⟩ := HAT.out.resolve_left (by omega)
      have hcx := hc (n - 1 - t) (by omega)
      have f16 := HBD.out (n - 1 - t)
      have m16 := g16 (b := pk x t) f16
      have hxor := xI_bits _ _ (show 0 ≤ vb x n f t ∧ vb x n f t < 65536 by omega) (show 0 ≤ gI (f (n - 1 - t)) (pk x t) ∧ gI (f (n - 1 - t)) (pk x t) < 65536 by omega)
      have HX := hide hxor
      clear hc hxor
      go_wp2_with fail
      refine (refMul_any _ _ _ (by omega) (by omega)).mono ?_
      rintro e w2 ⟨rfl, hw2⟩
      obtain rfl := hw2.symm
      go_wp2_with fail
      refine (refMul_any _ _ _ (by omega) (by omega)).mono ?_
      rintro e w2 ⟨rfl, hw2⟩
      obtain rfl := hw2.symm
      go_wp2_with fail
      go_round
      case rel => exact ⟨t + 1, by omega, by rw [HX.out]; rfl, rfl, by go_num⟩
      case measure => simp [intOf]; omega
    · obtain rfl : t = n := by omega
      have hge : ¬ (0 : Int) ≤ (t : Int) - 1 - t := by omega
      have e := vb_all hx HBD.out (n := t)
      have HE := hide e
      clear e
      go_wp2
      go_ret
      rw [HE.out]
      exact ⟨rfl, rfl⟩

set_option maxRecDepth 100000 in
set_option maxHeartbeats 2000000 in
theorem rfsums_any {w : World} {a : Option Addr} {n c : Nat} {f : Nat → Int} (h : Sl w a n c f) (r : Nat) (hr : r ≤ 255) (hn : n ≤ 255) :
    Calls Try.prog 50 #[.slice a n c, .int .i64 (r : Int)] w fun e w' => ∃ a' c', e = .returned (.tuple #[.slice a' r c', .int .i64 0]) ∧ New w w' a' r c' (vs n f r) := by
  have q0 : ¬ (255 : Int) < (n : Int) := by omega
  have q1 : ¬ (r : Int) < 0 := by omega
  have q2 : ¬ (255 : Int) < (r : Int) := by omega
  have HS := hide h
  have HO := hide (owns_nil w (vs n f 0))
  have HB := hide (bel_lit w (.cells #[] 29))
  clear h
  go_enter Try.func50, Try.ntmps50
  go_wp2_with fail
  go_loopw [6, 7, 8] (fun l p t wr => ∃ k : Nat, t = .int .i64 k ∧ k ≤ r ∧ p = .int .u16 (al k) ∧ wr.ownsRow w.heap.size 29 1 l k (vals (vs n f k) k) ∧ Below w.heap.size w wr) (fun _ _ t _ => r - (intOf t).toNat)
  case atStart => exact ⟨0, rfl, Nat.zero_le _, rfl, HO.out, HB.out⟩
  case round =>
    obtain ⟨k, rfl, hk, rfl, hown, hbl⟩ := hrel
    obtain ⟨wo, hwo⟩ : ∃ v, v = wr := ⟨_, rfl⟩
    subst hwo
    have HOW := hide hown
    have HBL := hide hbl
    clear hown hbl
    have a16 := al16 k
    by_cases hlt : k < r
    · have hsz := HBL.out.size
      have l1 : Sl (wo.alloc (.cells #[.int .u16 (vh (al k) n f)] 29)) (some ⟨wo.heap.size, 0, none⟩) 1 1 (lf [vh (al k) n f]) := sl_lit wo [vh (al k) n f] (by
        intro y hy
        have : y = vh (al k) n f := by simpa using hy
        rw [this]
        exact vh16 HS.out.bd n)
      have HL := hide l1
      have HB2 := hide (HBL.out.alloc hsz (.cells #[.int .u16 (vh (al k) n f)] 29))
      clear l1
      go_wp2_with fail
      refine (rfvalue_any (HS.out.below HBL.out) (by omega) a16).mono ?_
      rintro e w2 ⟨rfl, hw2⟩
      obtain rfl := hw2.symm
      go_wp2_with (refine append_sl rfl (.tmp 26) (.tmp 30) rfl w.heap.size _ k (vs n f k) rfl (HOW.out.alloc _) (some ⟨wo.heap.size, 0, none⟩) 1 1 (lf [vh (al k) n f]) rfl HL.out (by omega) (by simp; omega) w HB2.out ?_; intro v3 w3 hown3 hb3)
      have HO3 := hide hown3
      have HB3 := hide hb3
      clear hown3 hb3
      refine (refMul_any _ _ _ (by omega) (by omega)).mono ?_
      rintro e w4 ⟨rfl, hw4⟩
      obtain rfl := hw4.symm
      go_wp2_with fail
      go_roundw
      case rel =>
        refine ⟨k + 1, by go_num, by omega, rfl, ?_, HB3.out⟩
        have h9 := HO3.out
        have e : vals (cat k (vs n f k) (lf [vh (al k) n f])) (k + 1) = vals (vs n f (k + 1)) (k + 1) := by
          unfold vals
          refine List.map_congr_left fun j hj => ?_
          have hj' : j < k + 1 := by simpa using hj
          congr 1
          unfold cat vs
          by_cases h2 : j < k
          · rw [if_pos h2, if_pos h2, if_pos (by omega)]
          · obtain rfl : j = k := by omega
            rw [if_neg (by omega), if_pos (by omega), Nat.sub_self]
            rfl
        rw [e] at h9
        exact h9
      case measure => simp [intOf]; omega
    · obtain rfl : k = r := by omega
      obtain ⟨a', c', rfl, hnew⟩ := new_of_owns HOW.out HBL.out (vs16 HS.out.bd) (vs_out n f k)
      have HN := hide hnew
      clear hnew HOW
      go_wp2
      go_ret2
      exact ⟨a', c', rfl, HN.out⟩

end Go.Proofs.Ytdbdidohldhnhaa
