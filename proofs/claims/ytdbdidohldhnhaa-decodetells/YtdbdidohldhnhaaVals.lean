/- A word's value, as rs reckons it, and a row turned round. For at most 4000 numbers of 16 bits. -/
import Derived.Test.YtdbdidohldhnhaaCalls2
import Derived.Test.YtdbdidohldhnhaaRMath
namespace Go.Proofs.Ytdbdidohldhnhaa
open Go.RowKit Gf
set_option linter.unusedVariables false

theorem vh_step (x : Int) (n : Nat) (f : Nat → Int) : vh x (n + 1) f = xI (gI (vh x n f) x) (f n) := rfl

set_option maxRecDepth 100000 in
set_option maxHeartbeats 1000000 in
theorem value_any {w : World} {a : Option Addr} {n c : Nat} {f : Nat → Int} (h : Sl w a n c f) (hn : n ≤ 4000) (j : Nat) (hj : j < 65535) :
    Calls Try.prog 33 #[.slice a n c, .int .i64 (j : Int)] w fun e w' => e = .returned (.int .u16 (vh (al j) n f)) ∧ w' = w.alloc (.cells #[] 73) := by
  have hat := (h.alloc (.cells #[] 73)).at'
  have HAT := hide hat
  have HBD := hide h.bd
  have hmod := al_mod j hj
  have a16 := al16 j
  clear hat
  go_enter Try.func33, Try.ntmps33
  go_wp2_with fail
  refine (new_any _).mono ?_
  rintro e w2 ⟨rfl, rfl⟩
  go_wp2_with fail
  refine (exp_any _ _ _).mono ?_
  rintro e w2 ⟨rfl, hw2⟩
  obtain rfl := hw2.symm
  rw [hmod]
  go_wp2_with fail
  go_loop [7, 9, 16] (fun s _ i => ∃ k : Nat, i = .int .i64 k ∧ k ≤ n ∧ s = .int .u16 (vh (al j) k f)) (fun _ _ i => n - (intOf i).toNat)
  case atStart => exact ⟨0, rfl, Nat.zero_le _, rfl⟩
  case round =>
    obtain ⟨k, rfl, hk, rfl⟩ := hrel
    have v16 := vh16 (x := al j) HBD.out k
    by_cases hlt : k < n
    · obtain ⟨b, o, rfl, hb, hc⟩ := HAT.out.resolve_left (by omega)
      have hx := hc k hlt
      have f16 := HBD.out k
      have m16 := g16 (b := al j) v16
      clear hc
      go_wp2_with fail
      refine (mul_any _ _ _ _ (by omega) (by omega)).mono ?_
      rintro e w2 ⟨rfl, hw2⟩
      obtain rfl := hw2.symm
      go_wp2_with fail
      refine (add_any _ _ _ _ (by omega) (by omega)).mono ?_
      rintro e w2 ⟨rfl, hw2⟩
      obtain rfl := hw2.symm
      go_wp2_with fail
      go_round
      case rel => exact ⟨k + 1, by go_num, by omega, rfl⟩
      case measure => simp [intOf]; omega
    · obtain rfl : k = n := by omega
      go_wp2
      go_ret
      exact ⟨rfl, rfl⟩

/-- A row turned round, k places from either end. -/
def turn (f : Nat → Int) (n k : Nat) : Nat → Int := fun t => if t < k ∨ n ≤ t + k then f (n - 1 - t) else f t

set_option maxRecDepth 100000 in
set_option maxHeartbeats 1000000 in
theorem reverse_any (b o n c : Nat) (f : Nat → Int) (w : World) (hn : n ≤ 4000) (hcap : n ≤ c) (hw : Wr w b o n f) :
    Calls Try.prog 52 #[.slice (some ⟨b, o, none⟩) n c] w fun e w' => (∃ v, e = .returned v) ∧ Wr w' b o n (fun t => f (n - 1 - t)) ∧ Only b w w' := by
  go_enter Try.func52, Try.ntmps52
  go_wp2
  go_loopw [2, 3] (fun i j wr => ∃ k : Nat, i = .int .i64 k ∧ j = .int .i64 ((n : Int) - 1 - k) ∧ 2 * k ≤ n + 1 ∧ Wr wr b o n (turn f n k) ∧ Only b w wr) (fun i _ _ => n - (intOf i).toNat)
  case atStart => exact ⟨0, rfl, by go_num, by omega, hw.congr (fun j hj => by unfold turn; rw [if_neg (by omega)]), Only.refl _ _⟩
  case round =>
    obtain ⟨k, rfl, rfl, hk, hwr, hon⟩ := hrel
    by_cases hlt : (k : Int) < (n : Int) - 1 - k
    · have t1 : ((n : Int) - 1 - (k : Int)).toNat = n - 1 - k := by omega
      have hx : wr.cell? ⟨b, o + k, none⟩ = some (.int .u16 (f k)) := by rw [hwr.cell k (by omega)]; unfold turn; rw [if_neg (by omega)]
      have hy : wr.cell? ⟨b, o + (n - 1 - k), none⟩ = some (.int .u16 (f (n - 1 - k))) := by rw [hwr.cell (n - 1 - k) (by omega)]; unfold turn; rw [if_neg (by omega)]
      have hfx : wr.frozen? ⟨b, o + k, none⟩ = false := hwr.free k (by omega)
      have hfy : wr.frozen? ⟨b, o + (n - 1 - k), none⟩ = false := hwr.free _ (by omega)
      have b1 : 0 ≤ (n : Int) - 1 - (k : Int) := by omega
      have b2 : (n : Int) - 1 - (k : Int) < (n : Int) := by omega
      have HW := hide hwr
      have HO := hide hon
      clear hwr hon
      go_wp2_with fail
      go_region
      go_wp2
      go_roundw
      case rel =>
        refine ⟨k + 1, by go_num, by go_num, by omega, ?_, ((HO.out.trans (Only.setCell b (o + k) _ _)).trans (Only.setCell b (o + (n - 1 - k)) _ _)).drew⟩
        refine Wr.drew1 (((HW.out.set k (by omega) (f (n - 1 - k))).set (n - 1 - k) (by omega) (f k)).congr (fun j hj => ?_))
        unfold turn
        by_cases e : j = n - 1 - k
        · rw [if_pos e, if_pos (by omega)]
          congr 1
          omega
        · rw [if_neg e]
          by_cases e2 : j = k
          · rw [if_pos e2, if_pos (by omega), e2]
          · rw [if_neg e2]
            by_cases e3 : j < k ∨ n ≤ j + k
            · rw [if_pos e3, if_pos (by omega)]
            · rw [if_neg e3, if_neg (by omega)]
      case measure => simp [intOf]; omega
    · have HW := hide hwr
      have HO := hide hon
      clear hwr hon
      go_wp2
      go_end0
      refine ⟨⟨_, rfl⟩, HW.out.congr (fun j hj => ?_), HO.out⟩
      unfold turn
      by_cases e3 : j < k ∨ n ≤ j + k
      · rw [if_pos e3]
      · rw [if_neg e3]
        congr 1
        omega

theorem Wr.take {w : World} {b off n : Nat} {f : Nat → Int} (h : Wr w b off n f) (m : Nat) (hm : m ≤ n) : Wr w b off m f :=
  ⟨h.lt, fun j hj => h.cell j (by omega), fun j hj => h.free j (by omega)⟩

/-- The divisor's symbols but the first, which is 1. -/
def dv (r : Nat) : Nat → Int := fun i => if i < r then ofp al r (r - 1 - i) else 0
theorem dv16 (r : Nat) : P16 (dv r) := fun i => by
  unfold dv
  split
  · exact ofp16 al r _
  · exact z16
theorem dv_out (r j : Nat) (h : r ≤ j) : dv r j = 0 := by unfold dv; rw [if_neg (by omega)]
theorem ofp_congr {r r' : Nat → Int} {n : Nat} (h : ∀ j, j < n → r j = r' j) : ofp r n = ofp r' n := by
  induction n with
  | zero => rfl
  | succ n ih =>
    have e := ih fun j hj => h j (by omega)
    funext k
    show xI (if k = 0 then 0 else ofp r n (k - 1)) (gI (ofp r n k) (r n)) = xI (if k = 0 then 0 else ofp r' n (k - 1)) (gI (ofp r' n k) (r' n))
    rw [e, h n (by omega)]

set_option maxRecDepth 100000 in
set_option maxHeartbeats 1000000 in
theorem divisor_any (r : Nat) (w : World) (hr : r ≤ 1000) :
    Calls Try.prog 32 #[.int .i64 (r : Int)] w fun e w' => ∃ b o c, e = .returned (.slice (some ⟨b, o, none⟩) r c) ∧ w.heap.size ≤ b ∧ r ≤ c ∧ Wr w' b o r (dv r) ∧ Below w.heap.size w w' := by
  have hmk := mk_int r (r : Int) rfl (by omega)
  have hw0 := Wr.made (w.alloc (.cells #[] 73)) r
  rw [World.size_alloc] at hw0
  have hbl0 : Below w.heap.size w ((w.alloc (.cells #[] 73)).alloc (.cells (madeCells #[.int .u16 0] r) 29)) := ((Below.refl _ _).alloc (Nat.le_refl _) _).alloc (by simp) _
  have HW0 := hide hw0
  have HB0 := hide hbl0
  clear hw0 hbl0
  go_enter Try.func32, Try.ntmps32
  go_wp2_with fail
  refine (new_any _).mono ?_
  rintro e w2 ⟨rfl, rfl⟩
  go_wp2_with fail
  go_loopw [5, 12] (fun _ t wr => ∃ k : Nat, t = .int .i64 k ∧ k ≤ r ∧ Wr wr (w.heap.size + 1) 0 r (fun j => if j < k then al j else 0) ∧ Below w.heap.size w wr) (fun _ t _ => r - (intOf t).toNat)
  case atStart => exact ⟨0, rfl, Nat.zero_le _, HW0.out.congr (fun j _ => by rw [if_neg (by omega)]), HB0.out⟩
  case round =>
    obtain ⟨k, rfl, hk, hwr, hbl⟩ := hrel
    obtain ⟨wo, h⟩ : ∃ v, v = wr := ⟨_, rfl⟩
    subst h
    by_cases hlt : k < r
    · have hfz : wo.frozen? ⟨w.heap.size + 1, k, none⟩ = false := by have := hwr.free k hlt; rwa [Nat.zero_add] at this
      obtain ⟨y, hy⟩ : ∃ y, wo.cell? ⟨w.heap.size + 1, k, none⟩ = some y := ⟨_, by have := hwr.cell k hlt; rwa [Nat.zero_add] at this⟩
      have hmod := al_mod k (by omega)
      have HW := hide hwr
      have HB := hide hbl
      clear hwr hbl
      go_wp2_with fail
      refine (exp_any _ _ _).mono ?_
      rintro e w2 ⟨rfl, hw2⟩
      obtain rfl := hw2.symm
      rw [hmod]
      go_wp2_with fail
      go_roundw
      case rel =>
        refine ⟨k + 1, by go_num, by omega, ?_, HB.out.trans ((Only.setCell (w.heap.size + 1) k _ _).below (by omega))⟩
        have h9 := HW.out.set k hlt (al k)
        rw [Nat.zero_add] at h9
        refine h9.congr (fun j hj => ?_)
        by_cases e : j = k
        · rw [if_pos e, if_pos (by omega), e]
        · by_cases e2 : j < k
          · rw [if_neg e, if_pos e2, if_pos (by omega)]
          · rw [if_neg e, if_neg e2, if_neg (by omega)]
      case measure => simp [intOf]; omega
    · obtain rfl : k = r := by omega
      have hS : Sl wo (some ⟨w.heap.size + 1, 0, none⟩) k k (fun j => if j < k then al j else 0) := hwr.sl k (Nat.le_refl _) (fun j => by
        show 0 ≤ (if j < k then al j else 0) ∧ (if j < k then al j else 0) ≤ 65535
        split
        · exact al16 j
        · exact z16) (fun j hj => if_neg (by omega))
      have HS := hide hS
      have HB := hide hbl
      clear hwr hbl hS
      go_wp2_with fail
      refine (of_any HS.out (by omega)).mono ?_
      rintro e w3 ⟨a', c', rfl, hN⟩
      obtain ⟨b, o, rfl, hb, hw3⟩ := hN.own.resolve_left (by omega)
      have hcap := hN.sl.cap
      have HB3 := hide (HB.out.trans (hN.bel.mono HB.out.size))
      have hbs := HB.out.size
      have HW3 := hide hw3
      clear hN hw3
      go_wp2_with fail
      refine (reverse_any b o k c' _ _ (by omega) (by omega) (HW3.out.take k (by omega))).mono ?_
      rintro e w4 ⟨⟨v, rfl⟩, hw4, ho4⟩
      have HW4 := hide hw4
      have HO4 := hide ho4
      clear hw4 ho4
      go_wp2_with fail
      go_ret
      refine ⟨b, o, c', rfl, by omega, by omega, HW4.out.congr (fun j hj => ?_), HB3.out.trans (HO4.out.below (by omega))⟩
      unfold dv
      rw [if_pos hj, ofp_congr (r := fun j => if j < k then al j else 0) (r' := al) (fun j hj => if_pos hj)]

end Go.Proofs.Ytdbdidohldhnhaa
