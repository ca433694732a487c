/- Slices of ints, rows of marks; decode's calls that only count or read: Most, marks, rootsOf, taken. For words of at most 255 symbols. -/
import Derived.Test.YtdbdidohldhnhaaEuclid
import Derived.Test.YtdbdidohldhnhaaWords
namespace Go.Proofs.Ytdbdidohldhnhaa
open Go.RowKit Gf
set_option linter.unusedVariables false

/-- A number that an int can be. -/
def I64 (x : Int) : Prop := -9223372036854775808 ≤ x ∧ x < 9223372036854775808
/-- The slice holds g 0 .. g (n - 1), ints. -/
structure Il (w : World) (a : Option Addr) (n c : Nat) (g : Nat → Int) : Prop where
  bd : ∀ j, I64 (g j)
  out : ∀ j, n ≤ j → g j = 0
  cap : n ≤ c
  nil : a = none → c = 0
  at' : n = 0 ∨ ∃ b off, a = some ⟨b, off, none⟩ ∧ b < w.heap.size ∧ ∀ j, j < n → w.cell? ⟨b, off + j, none⟩ = some (.int .i64 (g j))
theorem Il.below {w w' : World} {a : Option Addr} {n c : Nat} {f : Nat → Int} (h : Il w a n c f) (hB : Below w.heap.size w w') : Il w' a n c f := by
  refine ⟨h.bd, h.out, h.cap, h.nil, ?_⟩
  rcases h.at' with h0 | ⟨b, off, ha, hb, hc⟩
  · exact .inl h0
  · exact .inr ⟨b, off, ha, Nat.lt_of_lt_of_le hb hB.size, fun j hj => (hB.cell (p := ⟨b, off + j, none⟩) hb).trans (hc j hj)⟩
theorem Il.alloc {w : World} {a : Option Addr} {n c : Nat} {f : Nat → Int} (h : Il w a n c f) (o : Obj) : Il (w.alloc o) a n c f := h.below ((Below.refl _ w).alloc (Nat.le_refl _) o)

/-- The slice holds n marks. -/
structure Bl (w : World) (b off n c : Nat) (p : Nat → Bool) : Prop where
  lt : b < w.heap.size
  cell : ∀ j, j < n → w.cell? ⟨b, off + j, none⟩ = some (.bool (p j))
theorem Bl.below {w w' : World} {b off n c : Nat} {p : Nat → Bool} (h : Bl w b off n c p) (hB : Below w.heap.size w w') : Bl w' b off n c p :=
  ⟨Nat.lt_of_lt_of_le h.lt hB.size, fun j hj => (hB.cell (p := ⟨b, off + j, none⟩) h.lt).trans (h.cell j hj)⟩
theorem Bl.alloc {w : World} {b off n c : Nat} {p : Nat → Bool} (h : Bl w b off n c p) (o : Obj) : Bl (w.alloc o) b off n c p := h.below ((Below.refl _ w).alloc (Nat.le_refl _) o)

theorem ret_i64 {a b : Int} (h : a = b) : Ending.returned (.int .i64 a) = .returned (.int .i64 b) := by rw [h]
theorem most_no (r g : Int) (w : World) (h : r < g) : Calls Try.prog 13 #[.int .i64 r, .int .i64 g] w fun e w' => e = .returned (.int .i64 (-1)) ∧ w' = w := by
  go_enter Try.func13, Try.ntmps13
  go_wp2
  go_ret
  exact ⟨rfl, rfl⟩
theorem most_yes (r g : Nat) (w : World) (h : g ≤ r) (hr : r ≤ 100000) : Calls Try.prog 13 #[.int .i64 (r : Int), .int .i64 (g : Int)] w fun e w' => e = .returned (.int .i64 (((r - g) / 2 : Nat) : Int)) ∧ w' = w := by
  have q : ¬ (r : Int) < (g : Int) := by omega
  go_enter Try.func13, Try.ntmps13
  go_wp2
  go_ret
  exact ⟨ret_i64 (by omega), rfl⟩

theorem infoB : (Try.prog.info? 4).map (fun i => (i.zero, i.size, i.bytes)) = some (some (.bool false), 1, 1) := by kernel_rfl
theorem mk_bools (n : Nat) (hn : n ≤ 4000) : ∀ (w : World), (Instr.makeSlice 41 (.int .i64 (n : Int)) (.int .i64 (n : Int))).run Try.prog w = .ok (.slice (some ⟨w.heap.size, 0, none⟩) n n) (w.alloc (.cells (madeCells #[.bool false] n) 4)) :=
  fun w => run_make_row' 41 4 (.bool false) 1 Try.underlying41 infoB rfl .i64 .i64 n (by omega) (by omega) w

/-- Cells of marks that may be written. -/
structure Bw (w : World) (b off n : Nat) (p : Nat → Bool) : Prop where
  lt : b < w.heap.size
  cell : ∀ j, j < n → w.cell? ⟨b, off + j, none⟩ = some (.bool (p j))
  free : ∀ j, j < n → w.frozen? ⟨b, off + j, none⟩ = false
theorem Bw.made (w : World) (n : Nat) : Bw (w.alloc (.cells (madeCells #[.bool false] n) 4)) w.heap.size 0 n (fun _ => false) := by
  have h := World.rowIs_made w (.bool false) n 4
  refine ⟨h.lt, fun j hj => ?_, fun j _ => ?_⟩
  · rw [Nat.zero_add]; exact h.cell hj
  · rw [Nat.zero_add]; exact h.frozen j
theorem Bw.congr {w : World} {b off n : Nat} {p q : Nat → Bool} (h : Bw w b off n p) (e : ∀ j, j < n → p j = q j) : Bw w b off n q :=
  ⟨h.lt, fun j hj => by rw [h.cell j hj, e j hj], h.free⟩
theorem Bw.set {w : World} {b off n : Nat} {p : Nat → Bool} (h : Bw w b off n p) (i : Nat) (hi : i < n) (y : Bool) :
    Bw (w.setCell ⟨b, off + i, none⟩ (.bool y)) b off n (fun j => if j = i then y else p j) := by
  refine ⟨by simpa [World.setCell] using h.lt, fun j hj => ?_, fun j hj => by rw [World.frozen?_setCell]; exact h.free j hj⟩
  by_cases e : j = i
  · subst e
    rw [World.cell?_setCell_same' _ _ _ (by rw [h.cell j hj]; rfl)]
    simp
  · rw [if_neg e]
    refine Eq.trans ?_ (h.cell j hj)
    apply World.cell?_setCell_other
    intro h'
    injection h' with _ h'
    omega

theorem gn_succ {gl : Nat → Int} {k n : Nat} (h : Gn gl k n) (h1 : 0 ≤ gl k) (h2 : gl k < (n : Int)) (h3 : gon gl k (gl k).toNat = false) : Gn gl (k + 1) n := by
  have hno : ∀ i, i < k → gl i ≠ gl k := fun i hi e => by
    have : gon gl k (gl k).toNat = true := gon_iff.2 ⟨i, hi, by omega⟩
    rw [this] at h3
    cases h3
  refine ⟨fun i hi => ?_, fun i j hi hj e => ?_⟩
  · by_cases e : i = k
    · subst e; exact ⟨h1, h2⟩
    · exact h.1 i (by omega)
  · by_cases ei : i = k
    · by_cases ej : j = k
      · omega
      · exact (hno j (by omega) (by rw [← ei, e])).elim
    · by_cases ej : j = k
      · exact (hno i (by omega) (by rw [← ej, e])).elim
      · exact h.2 i j (by omega) (by omega) e

set_option maxRecDepth 100000 in
set_option maxHeartbeats 1000000 in
theorem marks_any {w : World} {a : Option Addr} {m c n : Nat} {gl : Nat → Int} (h : Il w a m c gl) (hm : m ≤ 1000) (hn : n ≤ 255) :
    Calls Try.prog 19 #[.slice a m c, .int .i64 (n : Int)] w fun e w' => Below w.heap.size w w' ∧
      ((e = .returned (.tuple #[.slice none 0 0, .bool false]) ∧ ¬ Gn gl m n) ∨ (e = .returned (.tuple #[.slice (some ⟨w.heap.size, 0, none⟩) n n, .bool true]) ∧ Gn gl m n ∧ Bl w' w.heap.size 0 n n (gon gl m))) := by
  have hmk := mk_bools n (by omega)
  have HW0 := hide (Bw.made w n)
  have HB0 := hide ((Below.refl w.heap.size w).alloc (Nat.le_refl _) (.cells (madeCells #[.bool false] n) 4))
  have HS := hide h
  clear h
  go_enter Try.func19, Try.ntmps19
  go_wp2_with fail
  go_loopw [8, 13] (fun _ t wr => ∃ k : Nat, t = .int .i64 k ∧ k ≤ m ∧ Gn gl k n ∧ Bw wr w.heap.size 0 n (gon gl k) ∧ Below w.heap.size w wr) (fun _ t _ => m - (intOf t).toNat)
  case atStart => exact ⟨0, rfl, Nat.zero_le _, ⟨fun k hk => by omega, fun i j hi => by omega⟩, HW0.out, HB0.out⟩
  case round =>
    obtain ⟨k, rfl, hk, hgn, hwr, hbl⟩ := hrel
    obtain ⟨wo, hwo⟩ : ∃ v, v = wr := ⟨_, rfl⟩
    subst hwo
    have HG := hide hgn
    have HW := hide hwr
    have HB := hide hbl
    clear hgn hwr hbl
    by_cases hlt : k < m
    · obtain ⟨b, o, rfl, hb, hc⟩ := HS.out.at'.resolve_left (by omega)
      have hx : wo.cell? ⟨b, o + k, none⟩ = some (.int .i64 (gl k)) := (HB.out.cell (p := ⟨b, o + k, none⟩) hb).trans (hc k hlt)
      have bd := HS.out.bd k
      clear hc
      by_cases q1 : gl k < 0
      · go_wp2
        go_ret2
        refine ⟨HB.out, .inl ⟨rfl, fun hG => ?_⟩⟩
        have := hG.1 k hlt
        omega
      · by_cases q2 : (n : Int) ≤ gl k
        · go_wp2
          go_ret2
          refine ⟨HB.out, .inl ⟨rfl, fun hG => ?_⟩⟩
          have := hG.1 k hlt
          omega
        · obtain ⟨i, hi⟩ : ∃ i : Nat, gl k = (i : Int) := ⟨(gl k).toNat, by omega⟩
          rw [hi] at hx q1 q2
          have hin : i < n := by omega
          have hcl : wo.cell? ⟨w.heap.size, i, none⟩ = some (.bool (gon gl k i)) := by have := HW.out.cell i hin; rwa [Nat.zero_add] at this
          have hfz : wo.frozen? ⟨w.heap.size, i, none⟩ = false := by have := HW.out.free i hin; rwa [Nat.zero_add] at this
          have HI := hide hi
          clear hi
          cases hq : gon gl k i with
          | true =>
            rw [hq] at hcl
            go_wp2
            go_ret2
            refine ⟨HB.out, .inl ⟨rfl, fun hG => ?_⟩⟩
            obtain ⟨j, hj, e⟩ := gon_iff.1 hq
            have := hG.2 j k (by omega) hlt (by rw [e, HI.out])
            omega
          | false =>
            rw [hq] at hcl
            go_wp2
            go_roundw
            case rel =>
              have e1 := HI.out
              refine ⟨k + 1, by go_num, by omega, gn_succ HG.out (by omega) (by omega) (by rw [show (gl k).toNat = i from by omega]; exact hq), ?_, HB.out.trans ((Only.setCell w.heap.size i _ _).below (Nat.le_refl _))⟩
              have h9 := HW.out.set i hin true
              rw [Nat.zero_add] at h9
              refine h9.congr (fun j hj => ?_)
              rw [gon_succ]
              by_cases e : j = i
              · rw [if_pos e, e, e1]; simp
              · rw [if_neg e, e1]
                have : ((i : Int) == (j : Int)) = false := by simp; omega
                rw [this, Bool.or_false]
            case measure => simp [intOf]; omega
    · obtain rfl : k = m := by omega
      go_wp2
      go_ret2
      exact ⟨HB.out, .inr ⟨rfl, HG.out, HW.out.lt, HW.out.cell⟩⟩

set_option maxRecDepth 100000 in
set_option maxHeartbeats 1000000 in
theorem rootsOf_any (n : Nat) (w : World) (hn : n ≤ 255) :
    Calls Try.prog 36 #[.int .i64 (n : Int)] w fun e w' => e = .returned (.slice (some ⟨w.heap.size + 1, 0, none⟩) n n) ∧ Below w.heap.size w w' ∧ Wr w' (w.heap.size + 1) 0 n (ro n) := by
  have hmk := mk_int n (n : Int) rfl (by omega)
  have hw0 := Wr.made (w.alloc (.cells #[] 73)) n
  rw [World.size_alloc] at hw0
  have hbl0 : Below w.heap.size w ((w.alloc (.cells #[] 73)).alloc (.cells (madeCells #[.int .u16 0] n) 29)) := ((Below.refl _ _).alloc (Nat.le_refl _) _).alloc (by simp) _
  have HW0 := hide hw0
  have HB0 := hide hbl0
  have e1 : pI 2 ((1 : Int) % 65535) = 2 := al_one
  have e0 : pI 2 ((1 - (n : Int)) % 65535) = ro n 0 := rfl
  clear hw0 hbl0
  go_enter Try.func36, Try.ntmps36
  go_wp2_with fail
  refine (new_any _).mono ?_
  rintro e w2 ⟨rfl, rfl⟩
  go_wp2_with fail
  refine (exp_any _ _ _).mono ?_
  rintro e w2 ⟨rfl, hw2⟩
  obtain rfl := hw2.symm
  rw [e0]
  go_wp2_with fail
  refine (exp_any _ _ _).mono ?_
  rintro e w2 ⟨rfl, hw2⟩
  obtain rfl := hw2.symm
  rw [e1]
  clear e0 e1
  go_wp2_with fail
  go_loopw [5, 7, 19] (fun x _ t wr => ∃ k : Nat, t = .int .i64 k ∧ k ≤ n ∧ x = .int .u16 (ro n k) ∧ Wr wr (w.heap.size + 1) 0 n (fun j => if j < k then ro n j else 0) ∧ Below w.heap.size w wr) (fun _ _ t _ => n - (intOf t).toNat)
  case atStart => exact ⟨0, rfl, Nat.zero_le _, rfl, HW0.out.congr (fun j _ => by rw [if_neg (by omega)]), HB0.out⟩
  case round =>
    obtain ⟨k, rfl, hk, rfl, hwr, hbl⟩ := hrel
    obtain ⟨wo, hwo⟩ : ∃ v, v = wr := ⟨_, rfl⟩
    subst hwo
    have HW := hide hwr
    have HB := hide hbl
    clear hwr hbl
    by_cases hlt : k < n
    · have hfz : wo.frozen? ⟨w.heap.size + 1, k, none⟩ = false := by have := HW.out.free k hlt; rwa [Nat.zero_add] at this
      obtain ⟨y, hy⟩ : ∃ y, wo.cell? ⟨w.heap.size + 1, k, none⟩ = some y := ⟨_, by have := HW.out.cell k hlt; rwa [Nat.zero_add] at this⟩
      have h16 := ro16 n k
      go_wp2_with fail
      refine (mul_any _ _ _ _ (by omega) (by omega)).mono ?_
      rintro e w2 ⟨rfl, hw2⟩
      obtain rfl := hw2.symm
      go_wp2_with fail
      go_roundw
      case rel =>
        refine ⟨k + 1, by go_num, by omega, rfl, ?_, HB.out.trans ((Only.setCell (w.heap.size + 1) k _ _).below (by omega))⟩
        have h9 := HW.out.set k hlt (ro n k)
        rw [Nat.zero_add] at h9
        refine h9.congr (fun j hj => ?_)
        by_cases e : j = k
        · rw [if_pos e, if_pos (by omega), e]
        · by_cases e2 : j < k
          · rw [if_neg e, if_pos e2, if_pos (by omega)]
          · rw [if_neg e, if_neg e2, if_neg (by omega)]
      case measure => simp [intOf]; omega
    · obtain rfl : k = n := by omega
      go_wp2
      go_ret
      exact ⟨rfl, HB.out, HW.out.congr (fun j hj => if_pos hj)⟩

set_option maxRecDepth 100000 in
set_option maxHeartbeats 1000000 in
theorem taken_any {w : World} {a : Option Addr} {m c br n cr : Nat} {gl R : Nat → Int} (h : Il w a m c gl) (hm : m ≤ 1000) (hR : P16 R) (hb : br < w.heap.size) (hc : ∀ j, j < n → w.cell? ⟨br, j, none⟩ = some (.int .u16 (R j))) (hG : ∀ k, k < m → 0 ≤ gl k ∧ gl k < (n : Int)) (hn : n ≤ 255) :
    Calls Try.prog 38 #[.slice (some ⟨br, 0, none⟩) n cr, .slice a m c] w fun e w' => e = .returned (.slice (some ⟨w.heap.size, 0, none⟩) m m) ∧ New w w' (some ⟨w.heap.size, 0, none⟩) m m (fun k => if k < m then R (gl k).toNat else 0) := by
  have hmk := mk_int m (m : Int) rfl (by omega)
  have HW0 := hide (Wr.made w m)
  have HB0 := hide ((Below.refl w.heap.size w).alloc (Nat.le_refl _) (.cells (madeCells #[.int .u16 0] m) 29))
  have HS := hide h
  have HC := hide hc
  have HG := hide hG
  clear h hc hG
  go_enter Try.func38, Try.ntmps38
  go_wp2_with fail
  go_loopw [6, 7, 13] (fun _ _ t wr => ∃ k : Nat, t = .int .i64 k ∧ k ≤ m ∧ Wr wr w.heap.size 0 m (fun j => if j < k then R (gl j).toNat else 0) ∧ Below w.heap.size w wr) (fun _ _ t _ => m - (intOf t).toNat)
  case atStart => exact ⟨0, rfl, Nat.zero_le _, HW0.out.congr (fun j _ => by rw [if_neg (by omega)]), HB0.out⟩
  case round =>
    obtain ⟨k, rfl, hk, hwr, hbl⟩ := hrel
    obtain ⟨wo, hwo⟩ : ∃ v, v = wr := ⟨_, rfl⟩
    subst hwo
    have HW := hide hwr
    have HB := hide hbl
    clear hwr hbl
    by_cases hlt : k < m
    · obtain ⟨b, o, rfl, hbb, hcc⟩ := HS.out.at'.resolve_left (by omega)
      have hx : wo.cell? ⟨b, o + k, none⟩ = some (.int .i64 (gl k)) := (HB.out.cell (p := ⟨b, o + k, none⟩) hbb).trans (hcc k hlt)
      obtain ⟨i, hi⟩ : ∃ i : Nat, gl k = (i : Int) := ⟨(gl k).toNat, by have := HG.out k hlt; omega⟩
      have hin : i < n := by have := HG.out k hlt; omega
      rw [hi] at hx
      have hr : wo.cell? ⟨br, i, none⟩ = some (.int .u16 (R i)) := (HB.out.cell (p := ⟨br, i, none⟩) hb).trans (HC.out i hin)
      have hfz : wo.frozen? ⟨w.heap.size, k, none⟩ = false := by have := HW.out.free k hlt; rwa [Nat.zero_add] at this
      obtain ⟨y, hy⟩ : ∃ y, wo.cell? ⟨w.heap.size, k, none⟩ = some y := ⟨_, by have := HW.out.cell k hlt; rwa [Nat.zero_add] at this⟩
      have HI := hide hi
      clear hi hcc
      go_wp2
      go_roundw
      case rel =>
        refine ⟨k + 1, by go_num, by omega, ?_, HB.out.trans ((Only.setCell w.heap.size k _ _).below (Nat.le_refl _))⟩
        have h9 := HW.out.set k hlt (R i)
        rw [Nat.zero_add] at h9
        refine h9.congr (fun j hj => ?_)
        by_cases e : j = k
        · rw [if_pos e, if_pos (by omega), e, HI.out]; rfl
        · by_cases e2 : j < k
          · rw [if_neg e, if_pos e2, if_pos (by omega)]
          · rw [if_neg e, if_neg e2, if_neg (by omega)]
      case measure => simp [intOf]; omega
    · obtain rfl : k = m := by omega
      go_wp2
      go_ret
      exact ⟨rfl, New.of_wr HW.out (Nat.le_refl _) HB.out (Nat.le_refl _) (fun j => by
        show 0 ≤ (if j < k then R (gl j).toNat else 0) ∧ (if j < k then R (gl j).toNat else 0) ≤ 65535
        split
        · exact hR _
        · exact z16) (fun j hj => if_neg (by omega))⟩

end Go.Proofs.Ytdbdidohldhnhaa
