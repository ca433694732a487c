/- The calls of rs: Check tells the one row of checks that there is, Right whether a word is right, Sums its values. -/
import Derived.Test.YtdbdidohldhnhaaRest
namespace Go.Proofs.Ytdbdidohldhnhaa
open Go.RowKit Gf
set_option linter.unusedVariables false

theorem ofp_zero {r : Nat → Int} (hr : P16 r) {x : Int} (hx : 0 ≤ x ∧ x ≤ 65535) {n i : Nat} (hi : i < n) (e : r i = x) : atp x (n + 1) (ofp r n) = 0 := by
  induction n with
  | zero => omega
  | succ n ih =>
    have hv : atp x (n + 1 + 1) (ofp r (n + 1)) = gI (atp x (n + 1) (ofp r n)) (xI x (r n)) := by
      rw [show ofp r (n + 1) = addp (sh (ofp r n)) (sc (r n) (ofp r n)) from rfl, atp_add x hx _ (sh16 (ofp16 r n)) (sc16 (ofp16 r n) _), atp_sh x _ (ofp16 r n), atp_sc x _ hx (hr n) _ (ofp16 r n), atp_more x (ofp_out r n) 1, f5]
    rw [hv]
    by_cases h1 : i = n
    · subst h1
      rw [e, f7, f9]
    · rw [ih (by omega), f12]

/-- The divisor whole, its highest coefficient first. -/
def dw (r : Nat) : Nat → Int := fun i => if i = 0 then 1 else dv r (i - 1)
theorem dw16 (r : Nat) : P16 (dw r) := fun i => by
  unfold dw
  split
  · exact o16
  · exact dv16 r _
theorem dw_val (r j : Nat) (hj : j < r) : vh (al j) (r + 1) (dw r) = 0 := by
  have h := vh_atp (al j) (r + 1) (ofp al r)
  rw [ofp_zero (fun i => al16 i) (al16 j) hj rfl] at h
  rw [← h]
  refine vh_congr _ (fun i hi => ?_)
  unfold dw dv
  by_cases h0 : i = 0
  · subst h0
    rw [if_pos rfl, show r + 1 - 1 - 0 = r from by omega, ofp_top]
  · rw [if_neg h0, if_pos (by omega)]
    congr 1
    omega
theorem lk_step {f : Nat → Int} (hf : P16 f) {r M k j : Nat} (hM : r ≤ M) (hj : j < r) : vh (al j) (M + 1) (lk f (dv r) k) = vh (al j) M (lk f (dv r) (k + 1)) := by
  have h16 := lk16 (f := f) (g := dv r) hf k
  have hd := sc16 (dw16 r) (lk f (dv r) k 0)
  have h0 : vh (al j) (M + 1) (sc (lk f (dv r) k 0) (dw r)) = 0 := by
    rw [vh_sc (al16 j) (h16 0) _ (dw16 r), vh_block (al j) (t := 0) (k := r + 1) (N := M + 1) (f := dw r) (by omega) (fun i hi => by omega) (fun i h1 h2 => by
      unfold dw
      rw [if_neg (by omega)]
      exact dv_out r _ (by omega)) (by simpa using dw_val r j hj), f12]
  have h1 := vh_add (al16 j) (M + 1) h16 hd
  rw [h0, f6 _ (vh16 h16 _).1] at h1
  rw [← h1, vh_tl]
  · refine vh_congr _ (fun i _ => ?_)
    show xI (lk f (dv r) k (i + 1)) (gI (if i + 1 = 0 then 1 else dv r (i + 1 - 1)) (lk f (dv r) k 0)) = xI (lk f (dv r) k (i + 1)) (gI (lk f (dv r) k 0) (dv r i))
    rw [if_neg (by omega), show i + 1 - 1 = i from by omega, g2 (dv16 r i) (h16 0)]
  · show xI (lk f (dv r) k 0) (gI (if 0 = 0 then 1 else dv r (0 - 1)) (lk f (dv r) k 0)) = 0
    rw [if_pos rfl, g2 o16 (h16 0), f8 _ (h16 0).1, f7]
theorem lk_val {f : Nat → Int} (hf : P16 f) {n r j : Nat} (hj : j < r) (k : Nat) (hk : k ≤ n) : vh (al j) (n + r) f = vh (al j) (n + r - k) (lk f (dv r) k) := by
  induction k with
  | zero => rfl
  | succ k ih =>
    rw [ih (by omega), show n + r - k = (n + r - (k + 1)) + 1 from by omega]
    exact lk_step hf (by omega) hj
/-- A row behind noughts. -/
def bk (n : Nat) (c : Nat → Int) : Nat → Int := fun k => if k < n then 0 else c (k - n)
theorem bk16 {n : Nat} {c : Nat → Int} (hc : P16 c) : P16 (bk n c) := fun k => by
  unfold bk
  split
  · exact z16
  · exact hc _
theorem vh_bk (x : Int) (n r : Nat) (c : Nat → Int) : vh x (n + r) (bk n c) = vh x r c := by
  rw [vh_ahead x n r (fun j hj => by unfold bk; rw [if_pos hj])]
  exact vh_congr x (fun j _ => by show (if n + j < n then 0 else c (n + j - n)) = c j; rw [if_neg (by omega), show n + j - n = j from by omega])
theorem cat_add {n : Nat} {f c : Nat → Int} (hf : P16 f) (hc : P16 c) (hfo : ∀ j, n ≤ j → f j = 0) : cat n f c = addp f (bk n c) := funext fun k => by
  show (if k < n then f k else c (k - n)) = xI (f k) (if k < n then 0 else c (k - n))
  by_cases h : k < n
  · rw [if_pos h, if_pos h, f6 _ (hf k).1]
  · rw [if_neg h, if_neg h, hfo k (by omega), x0 (hc _)]
/-- A word's value, data and checks apart. -/
theorem cat_val {x : Int} (hx : 0 ≤ x ∧ x ≤ 65535) {n r : Nat} {f c : Nat → Int} (hf : P16 f) (hc : P16 c) (hfo : ∀ j, n ≤ j → f j = 0) : vh x (n + r) (cat n f c) = xI (vh x (n + r) f) (vh x r c) := by
  rw [cat_add hf hc hfo, vh_add hx _ hf (bk16 hc), vh_bk]
theorem chk_of {n r : Nat} {f c : Nat → Int} (hf : P16 f) (hc : P16 c) (hfo : ∀ j, n ≤ j → f j = 0) (hco : ∀ j, r ≤ j → c j = 0) (h : ∀ j, j < r → vh (al j) (n + r) f = vh (al j) r c) : Chk n f r c :=
  ⟨hc, hco, fun j hj => by rw [cat_val (al16 j) hf hc hfo, h j hj, f7]⟩
theorem Chk.val {n r : Nat} {f c : Nat → Int} (hf : P16 f) (hfo : ∀ j, n ≤ j → f j = 0) (h : Chk n f r c) (j : Nat) (hj : j < r) : vh (al j) (n + r) f = vh (al j) r c := by
  have := h.rt j hj
  rw [cat_val (al16 j) hf h.bd hfo] at this
  exact x_eq (vh16 hf _) (vh16 h.bd _) this
theorem chk_lk {n r : Nat} {f : Nat → Int} (hf : P16 f) (hfo : ∀ j, n ≤ j → f j = 0) : Chk n f r (lk f (dv r) n) :=
  chk_of hf (lk16 hf n) hfo (fun j hj => (lk_out hfo (dv_out r) n j (by omega)).resolve_right (by omega)) (fun j hj => by
    rw [lk_val hf hj n (Nat.le_refl _), show n + r - n = r from by omega])

set_option maxRecDepth 100000 in
set_option maxHeartbeats 1000000 in
theorem check_any {w : World} {a : Option Addr} {n c : Nat} {f : Nat → Int} (h : Sl w a n c f) (r : Nat) (hr : n + r ≤ 255) :
    Calls Try.prog 15 #[.slice a n c, .int .i64 (r : Int)] w fun e w' => ∃ a' c' ck, e = .returned (.tuple #[.slice a' r c', .int .i64 0]) ∧ New w w' a' r c' ck ∧ Chk n f r ck := by
  have q1 : ¬ (r : Int) < 0 := by omega
  have q2 : ¬ (255 : Int) - (n : Int) < (r : Int) := by omega
  have HS := hide h
  clear h
  go_enter Try.func15, Try.ntmps15
  go_wp2_with fail
  refine (divisor_any r _ (by omega)).mono ?_
  rintro e w1 ⟨b, o, c1, rfl, hb, hc1, hw1, hbl1⟩
  have HW1 := hide hw1
  have HB1 := hide hbl1
  clear hw1 hbl1
  go_wp2_with fail
  refine (rest_any (HS.out.below HB1.out) HW1.out.lt HW1.out.cell (dv16 r) (dv_out r) (by omega) hc1).mono ?_
  rintro e w2 ⟨a2, c2, rfl, hN⟩
  have HN := hide hN
  clear hN
  go_wp2_with fail
  go_ret2
  exact ⟨a2, c2, _, rfl, HN.out.from HB1.out, chk_lk HS.out.bd HS.out.out⟩

set_option maxRecDepth 100000 in
set_option maxHeartbeats 1000000 in
theorem check_bad (a : Option Addr) (n c : Nat) (r : Int) (w : World) (hn : n ≤ maxLen) (hr : r < 0 ∨ 255 - (n : Int) < r) :
    Calls Try.prog 15 #[.slice a n c, .int .i64 r] w fun e w' => e = .returned (.tuple #[.slice none 0 0, .int .i64 1]) ∧ w' = w := by
  unfold maxLen at hn
  by_cases q1 : r < 0
  · go_enter Try.func15, Try.ntmps15
    go_wp2
    go_ret2
    exact ⟨rfl, rfl⟩
  · have q2 : (255 : Int) - (n : Int) < r := hr.resolve_left q1
    go_enter Try.func15, Try.ntmps15
    go_wp2
    go_ret2
    exact ⟨rfl, rfl⟩

set_option maxRecDepth 100000 in
set_option maxHeartbeats 1000000 in
theorem right_any {w : World} {a : Option Addr} {n c : Nat} {f : Nat → Int} (h : Sl w a n c f) (r : Nat) (hr : r ≤ n) (hn : n ≤ 255) :
    Calls Try.prog 17 #[.slice a n c, .int .i64 (r : Int)] w fun e w' => ∃ b, e = .returned (.bool b) ∧ (b = true ↔ Rt n f r) ∧ Below w.heap.size w w' := by
  have q0 : ¬ (255 : Int) < (n : Int) := by omega
  have q1 : ¬ (r : Int) < 0 := by omega
  have q2 : ¬ (n : Int) < (r : Int) := by omega
  have HS := hide h
  clear h
  go_enter Try.func17, Try.ntmps17
  go_wp2_with fail
  go_loopw [5, 20] (fun _ t wr => ∃ k : Nat, t = .int .i64 k ∧ k ≤ r ∧ Rt n f k ∧ Below w.heap.size w wr) (fun _ t _ => r - (intOf t).toNat)
  case atStart => exact ⟨0, rfl, Nat.zero_le _, fun j hj => by omega, Below.refl _ _⟩
  case round =>
    obtain ⟨k, rfl, hk, hrt, hbl⟩ := hrel
    obtain ⟨wo, hwo⟩ : ∃ v, v = wr := ⟨_, rfl⟩
    subst hwo
    have HR := hide hrt
    have HB := hide hbl
    clear hrt hbl
    by_cases hlt : k < r
    · go_wp2_with fail
      refine (value_any (HS.out.below HB.out) (by omega) k (by omega)).mono ?_
      rintro e w2 ⟨rfl, hw2⟩
      obtain ⟨y, hy⟩ : ∃ y, y = vh (al k) n f := ⟨_, rfl⟩
      rw [← hy]
      by_cases h0 : y = 0
      · subst h0
        have hbl2 : Below w.heap.size w w2 := by rw [hw2]; exact HB.out.alloc HB.out.size _
        have HB2 := hide hbl2
        have HV := hide hy
        clear hw2 hbl2 hy
        go_wp2
        go_roundw
        case rel => exact ⟨k + 1, by go_num, by omega, fun j hj => by
          by_cases e : j = k
          · rw [e]; exact HV.out.symm
          · exact HR.out j (by omega), HB2.out⟩
        case measure => simp [intOf]; omega
      · have hbl2 : Below w.heap.size w w2 := by rw [hw2]; exact HB.out.alloc HB.out.size _
        have HB2 := hide hbl2
        have HV := hide hy
        have h0' : (y != 0) = true := bne_yes h0
        clear hw2 hbl2 hy
        go_wp2
        go_ret
        exact ⟨false, rfl, ⟨fun e => (by cases e), fun hR => (h0 (HV.out.trans (hR k hlt))).elim⟩, HB2.out⟩
    · obtain rfl : k = r := by omega
      go_wp2
      go_ret
      exact ⟨true, rfl, ⟨fun _ => HR.out, fun _ => rfl⟩, HB.out⟩

set_option maxRecDepth 100000 in
set_option maxHeartbeats 1000000 in
theorem right_bad (a : Option Addr) (n c : Nat) (r : Int) (w : World) (hn : n ≤ maxLen) (hr : 255 < n ∨ r < 0 ∨ (n : Int) < r) :
    Calls Try.prog 17 #[.slice a n c, .int .i64 r] w fun e w' => e = .returned (.bool false) ∧ w' = w := by
  unfold maxLen at hn
  by_cases q0 : (255 : Int) < (n : Int)
  · go_enter Try.func17, Try.ntmps17
    go_wp2
    go_ret
    exact ⟨rfl, rfl⟩
  · by_cases q1 : r < 0
    · go_enter Try.func17, Try.ntmps17
      go_wp2
      go_ret
      exact ⟨rfl, rfl⟩
    · have q2 : (n : Int) < r := by omega
      go_enter Try.func17, Try.ntmps17
      go_wp2
      go_ret
      exact ⟨rfl, rfl⟩

/-- The first r values. -/
def vs (n : Nat) (f : Nat → Int) (r : Nat) : Nat → Int := fun j => if j < r then vh (al j) n f else 0
theorem vs16 {n r : Nat} {f : Nat → Int} (hf : P16 f) : P16 (vs n f r) := fun j => by
  unfold vs
  split
  · exact vh16 hf n
  · exact z16
theorem vs_out (n : Nat) (f : Nat → Int) (r : Nat) : ∀ j, r ≤ j → vs n f r j = 0 := fun j hj => by unfold vs; rw [if_neg (by omega)]

set_option maxRecDepth 100000 in
set_option maxHeartbeats 1000000 in
theorem sums_any {w : World} {a : Option Addr} {n c : Nat} {f : Nat → Int} (h : Sl w a n c f) (r : Nat) (hr : r ≤ 255) (hn : n ≤ 255) :
    Calls Try.prog 20 #[.slice a n c, .int .i64 (r : Int)] w fun e w' => ∃ ad, e = .returned (.tuple #[.slice (some ad) r r, .int .i64 0]) ∧ New w w' (some ad) r r (vs n f r) := by
  have q0 : ¬ (255 : Int) < (n : Int) := by omega
  have q1 : ¬ (r : Int) < 0 := by omega
  have q2 : ¬ (255 : Int) < (r : Int) := by omega
  have hmk := mk_int r (r : Int) rfl (by omega)
  have HW0 := hide (Wr.made w r)
  have HB0 := hide ((Below.refl w.heap.size w).alloc (Nat.le_refl _) (.cells (madeCells #[.int .u16 0] r) 29))
  have HS := hide h
  clear h
  go_enter Try.func20, Try.ntmps20
  go_wp2_with fail
  go_loopw [7, 23] (fun _ t wr => ∃ k : Nat, t = .int .i64 k ∧ k ≤ r ∧ Wr wr w.heap.size 0 r (vs n f k) ∧ Below w.heap.size w wr) (fun _ t _ => r - (intOf t).toNat)
  case atStart => exact ⟨0, rfl, Nat.zero_le _, HW0.out.congr (fun j _ => (vs_out n f 0 j (Nat.zero_le _)).symm), HB0.out⟩
  case round =>
    obtain ⟨k, rfl, hk, hwr, hbl⟩ := hrel
    obtain ⟨wo, hwo⟩ : ∃ v, v = wr := ⟨_, rfl⟩
    subst hwo
    have HW := hide hwr
    have HB := hide hbl
    clear hwr hbl
    by_cases hlt : k < r
    · go_wp2_with fail
      refine (value_any (HS.out.below HB.out) (by omega) k (by omega)).mono ?_
      rintro e w2 ⟨rfl, hw2⟩
      have hwr2 : Wr w2 w.heap.size 0 r (vs n f k) := by rw [hw2]; exact HW.out.alloc _
      have hbl2 : Below w.heap.size w w2 := by rw [hw2]; exact HB.out.alloc HB.out.size _
      have hfz : w2.frozen? ⟨w.heap.size, k, none⟩ = false := by have := hwr2.free k hlt; rwa [Nat.zero_add] at this
      obtain ⟨y, hy⟩ : ∃ y, w2.cell? ⟨w.heap.size, k, none⟩ = some y := ⟨_, by have := hwr2.cell k hlt; rwa [Nat.zero_add] at this⟩
      have HW2 := hide hwr2
      have HB2 := hide hbl2
      clear hw2 hwr2 hbl2
      go_wp2
      go_roundw
      case rel =>
        refine ⟨k + 1, by go_num, by omega, ?_, HB2.out.trans ((Only.setCell w.heap.size k _ _).below (Nat.le_refl _))⟩
        have h9 := HW2.out.set k hlt (vh (al k) n f)
        rw [Nat.zero_add] at h9
        refine h9.congr (fun j hj => ?_)
        unfold vs
        by_cases e : j = k
        · rw [if_pos e, if_pos (by omega), e]
        · by_cases e2 : j < k
          · rw [if_neg e, if_pos e2, if_pos (by omega)]
          · rw [if_neg e, if_neg e2, if_neg (by omega)]
      case measure => simp [intOf]; omega
    · obtain rfl : k = r := by omega
      go_wp2
      go_ret2
      exact ⟨_, rfl, New.of_wr HW.out (Nat.le_refl _) HB.out (Nat.le_refl _) (vs16 HS.out.bd) (vs_out n f k)⟩

set_option maxRecDepth 100000 in
set_option maxHeartbeats 1000000 in
theorem sums_bad (a : Option Addr) (n c : Nat) (r : Int) (w : World) (hn : n ≤ maxLen) (hr : 255 < n ∨ r < 0 ∨ 255 < r) :
    Calls Try.prog 20 #[.slice a n c, .int .i64 r] w fun e w' => e = .returned (.tuple #[.slice none 0 0, .int .i64 1]) ∧ w' = w := by
  unfold maxLen at hn
  by_cases q0 : (255 : Int) < (n : Int)
  · go_enter Try.func20, Try.ntmps20
    go_wp2
    go_ret2
    exact ⟨rfl, rfl⟩
  · by_cases q1 : r < 0
    · go_enter Try.func20, Try.ntmps20
      go_wp2
      go_ret2
      exact ⟨rfl, rfl⟩
    · have q2 : (255 : Int) < r := by omega
      go_enter Try.func20, Try.ntmps20
      go_wp2
      go_ret2
      exact ⟨rfl, rfl⟩

end Go.Proofs.Ytdbdidohldhnhaa
