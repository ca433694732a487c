/- The polynomials' slope, and those of roots: for slices of at most 1000 numbers of 16 bits each call returns what the plain functions say, shortened, in new memory; nothing that was there is changed. -/
import Derived.Test.YtdbdidohldhnhaaCalls1
namespace Go.Proofs.Ytdbdidohldhnhaa
open Go.RowKit Gf

/-- The slope's first t places of two. -/
def slr (f : Nat → Int) (t : Nat) : Nat → Int := fun k => if k < 2 * t ∧ k % 2 = 0 then f (k + 1) else 0

set_option maxRecDepth 100000 in
set_option maxHeartbeats 1000000 in
theorem slope_any {w : World} {a : Option Addr} {n c : Nat} {f : Nat → Int} (h : Sl w a n c f) (hn : n ≤ 1000) :
    Calls Try.prog 43 #[.slice a n c] w fun e w' => ∃ a' m c', e = .returned (.slice a' m c') ∧ m ≤ n ∧ Shr (slp f) m ∧ New w w' a' m c' (slp f) := by
  cases n with
  | zero =>
    go_enter Try.func43, Try.ntmps43
    go_wp2
    go_ret
    have e : slp f = fun _ => 0 := funext fun k => by unfold slp; rw [h.out _ (Nat.zero_le _)]; simp
    rw [e]
    exact ⟨none, 0, 0, rfl, Nat.le_refl _, ⟨.inl rfl, fun _ _ => rfl⟩, ⟨fun _ => z16, fun _ _ => rfl, Nat.le_refl _, fun _ => rfl, .inl rfl⟩, Below.refl _ _, .inl rfl⟩
  | succ n =>
    obtain ⟨b, o, rfl, hb, hc⟩ := h.at'.resolve_left (by omega)
    have q1 : ((n : Int) + 1 == 0) = false := beq_no (by omega)
    have hmk := mk_int n ((n : Int) + 1 - 1) (by omega) (by omega)
    have hmk2 := mk_int n (n : Int) (by omega) (by omega)
    have HW0 := hide (Wr.made w n)
    go_enter Try.func43, Try.ntmps43
    go_wp2_with fail
    go_loopw [4] (fun t wr => ∃ k : Nat, t = .int .i64 (2 * (k : Int) + 1) ∧ 2 * k ≤ n + 1 ∧ Wr wr w.heap.size 0 n (slr f k) ∧ Below w.heap.size w wr) (fun t _ => n + 2 - (intOf t).toNat)
    case atStart => exact ⟨0, rfl, by omega, HW0.out.congr (fun j _ => by unfold slr; rw [if_neg (by omega)]), (Below.refl _ _).alloc (Nat.le_refl _) _⟩
    case round =>
      obtain ⟨k, rfl, hk, hwr, hbl⟩ := hrel
      by_cases hlt : 2 * k + 1 < n + 1
      · have hx : wr.cell? ⟨b, o + (2 * k + 1), none⟩ = some (.int .u16 (f (2 * k + 1))) := (hbl.cell (p := ⟨b, o + (2 * k + 1), none⟩) hb).trans (hc (2 * k + 1) hlt)
        have hfz : wr.frozen? ⟨w.heap.size, 2 * k, none⟩ = false := by have := hwr.free (2 * k) (by omega); rwa [Nat.zero_add] at this
        obtain ⟨y, hy⟩ : ∃ y, wr.cell? ⟨w.heap.size, 2 * k, none⟩ = some y := ⟨_, by have := hwr.cell (2 * k) (by omega); rwa [Nat.zero_add] at this⟩
        have hlt' : 2 * (k : Int) + 1 < (n : Int) + 1 := by omega
        have t1 : (2 * (k : Int) + 1).toNat = 2 * k + 1 := by omega
        have t2 : (2 * (k : Int)).toNat = 2 * k := by omega
        have HW := hide hwr
        have HB := hide hbl
        clear hwr hbl
        go_wp2
        go_roundw
        case rel =>
          refine ⟨k + 1, by go_num, by omega, ?_, HB.out.trans ((Only.setCell w.heap.size (2 * k) _ _).below (Nat.le_refl _))⟩
          have h9 := HW.out.set (2 * k) (by omega) (f (2 * k + 1))
          rw [Nat.zero_add] at h9
          refine Wr.congr h9 (fun j hj => ?_)
          unfold slr
          by_cases e : j = 2 * k
          · subst e; rw [if_pos rfl, if_pos (by omega)]
          · rw [if_neg e]
            by_cases h2 : j < 2 * k ∧ j % 2 = 0
            · rw [if_pos h2, if_pos (by omega)]
            · rw [if_neg h2, if_neg (by omega)]
        case measure => simp [intOf]; omega
      · have hlt' : ¬ 2 * (k : Int) + 1 < (n : Int) + 1 := by omega
        have e : ∀ j, j < n → slr f k j = slp f j := fun j hj => by
          unfold slr slp
          by_cases h2 : j % 2 = 0
          · rw [if_pos (by omega), if_pos h2]
          · rw [if_neg (by omega), if_neg h2]
        have ho : ∀ j, n ≤ j → slp f j = 0 := fun j hj => by
          unfold slp
          rw [h.out (j + 1) (by omega)]
          simp
        have hnew : New w wr (some ⟨w.heap.size, 0, none⟩) n n (slp f) := New.of_wr (hwr.congr e) (Nat.le_refl _) hbl (Nat.le_refl _) (slp16 h.bd) ho
        clear e ho hwr hbl
        go_wp2_with fail
        refine (cut_any hnew.sl (by omega)).mono ?_
        rintro e w4 ⟨m, rfl, hm, hs, rfl⟩
        go_wp2_with fail
        go_ret
        exact ⟨_, m, _, rfl, by omega, hs, hnew.cut hm hs.2⟩

theorem ofp_out (r : Nat → Int) (t : Nat) : ∀ k, t + 1 ≤ k → ofp r t k = 0 := by
  induction t with
  | zero => intro k hk; show (if k = 0 then (1 : Int) else 0) = 0; rw [if_neg (by omega)]
  | succ t ih =>
    intro k hk
    show xI (if k = 0 then 0 else ofp r t (k - 1)) (gI (ofp r t k) (r t)) = 0
    rw [if_neg (by omega), ih (k - 1) (by omega), ih k (by omega), f12, f7]
theorem ofp_top (r : Nat → Int) (t : Nat) : ofp r t t = 1 := by
  induction t with
  | zero => rfl
  | succ t ih =>
    show xI (if t + 1 = 0 then 0 else ofp r t (t + 1 - 1)) (gI (ofp r t (t + 1)) (r t)) = 1
    rw [if_neg (by omega), show t + 1 - 1 = t from by omega, ih, ofp_out r t (t + 1) (by omega), f12, f6 _ (by decide)]
theorem ofp_shr (r : Nat → Int) (t : Nat) : Shr (ofp r t) (t + 1) := ⟨.inr (by show ofp r t t ≠ 0; rw [ofp_top]; decide), ofp_out r t⟩

/-- What the row holds when the products of t roots are made: from place n - t on. -/
def ofr (r : Nat → Int) (n t : Nat) : Nat → Int := fun j => if j < n - t then 0 else ofp r t (j - (n - t))
theorem ofr16 (r : Nat → Int) (n t : Nat) : P16 (ofr r n t) := by
  intro j
  unfold ofr
  split
  · exact z16
  · exact ofp16 r t _
theorem ofr_step (r : Nat → Int) (n t j : Nat) (ht : t < n) : (if j < n - t - 1 then ofr r n t j else xI (ofr r n t j) (gI (ofp r t (j - (n - t - 1))) (r t))) = ofr r n (t + 1) j := by
  unfold ofr
  by_cases h1 : j < n - t - 1
  · rw [if_pos h1, if_pos (by omega), if_pos (by omega)]
  · rw [if_neg h1, if_neg (show ¬ j < n - (t + 1) from by omega)]
    show _ = xI (if j - (n - (t + 1)) = 0 then 0 else ofp r t (j - (n - (t + 1)) - 1)) (gI (ofp r t (j - (n - (t + 1)))) (r t))
    rw [show n - (t + 1) = n - t - 1 from by omega]
    by_cases h2 : j < n - t
    · rw [if_pos h2, if_pos (by omega)]
    · rw [if_neg h2, if_neg (by omega), show j - (n - t - 1) - 1 = j - (n - t) from by omega]

set_option maxRecDepth 100000 in
set_option maxHeartbeats 1000000 in
theorem of_any {w : World} {a : Option Addr} {n c : Nat} {r : Nat → Int} (h : Sl w a n c r) (hn : n ≤ 1000) :
    Calls Try.prog 37 #[.slice a n c] w fun e w' => ∃ a' c', e = .returned (.slice a' (n + 1) c') ∧ New w w' a' (n + 1) c' (ofp r n) := by
  have hmk := mk_int (n + 1) ((n : Int) + 1) (by omega) (by omega)
  have hw0 := Wr.made (w.alloc (.cells #[] 73)) (n + 1)
  rw [World.size_alloc] at hw0
  have hbl0 : Below w.heap.size w ((w.alloc (.cells #[] 73)).alloc (.cells ((madeCells #[.int .u16 0] (n + 1)).setIfInBounds n (.int .u16 1)) 29)) := ((Below.refl _ _).alloc (Nat.le_refl _) _).alloc (by simp) _
  have hfz : ((w.alloc (.cells #[] 73)).alloc (.cells (madeCells #[.int .u16 0] (n + 1)) 29)).frozen? ⟨w.heap.size + 1, n, none⟩ = false := by have := hw0.free n (by omega); rwa [Nat.zero_add] at this
  have hcl : ((w.alloc (.cells #[] 73)).alloc (.cells (madeCells #[.int .u16 0] (n + 1)) 29)).cell? ⟨w.heap.size + 1, n, none⟩ = some (.int .u16 0) := by have := hw0.cell n (by omega); rwa [Nat.zero_add] at this
  have hw1 : Wr ((w.alloc (.cells #[] 73)).alloc (.cells ((madeCells #[.int .u16 0] (n + 1)).setIfInBounds n (.int .u16 1)) 29)) (w.heap.size + 1) 0 (n + 1) (ofr r n 0) := by
    have hsz : ((madeCells #[Value.int .u16 0] (n + 1)).setIfInBounds n (.int .u16 1)).size = n + 1 := by rw [Array.size_setIfInBounds, size_madeCells]
    have hr := World.rowIs_alloc (w.alloc (.cells #[] 73)) ((madeCells #[.int .u16 0] (n + 1)).setIfInBounds n (.int .u16 1)) 29 (fun j => .int .u16 (ofr r n 0 j)) (by
      intro j hj
      rw [hsz] at hj
      rw [Array.getElem?_setIfInBounds]
      by_cases e : n = j
      · subst e
        rw [if_pos rfl, if_pos (by rw [size_madeCells]; omega)]
        unfold ofr
        rw [if_neg (by omega), show n - (n - 0) = 0 from by omega]
        rfl
      · rw [if_neg e]
        unfold ofr
        rw [if_pos (by omega)]
        simp [madeCells, hj, Nat.mod_one])
    rw [hsz, World.size_alloc] at hr
    refine ⟨hr.lt, fun j hj => ?_, fun j _ => ?_⟩
    · rw [Nat.zero_add]; exact hr.cell hj
    · rw [Nat.zero_add]; exact hr.frozen j
  have HW0 := hide hw1
  have HB0 := hide hbl0
  clear hw0 hw1 hbl0
  have hat := h.at'
  have HAT := hide hat
  clear hat
  go_enter Try.func37, Try.ntmps37
  go_wp2_with fail
  refine (new_any _).mono ?_
  rintro e w2 ⟨rfl, rfl⟩
  go_wp2_with fail
  go_loopw [4, 7, 8, 20] (fun l _ _ t wr => ∃ k : Nat, t = .int .i64 k ∧ l = .int .i64 ((n : Int) - k) ∧ k ≤ n ∧ Wr wr (w.heap.size + 1) 0 (n + 1) (ofr r n k) ∧ Below w.heap.size w wr) (fun _ _ _ t _ => n - (intOf t).toNat)
  case atStart => exact ⟨0, rfl, by simp, Nat.zero_le _, HW0.out, HB0.out⟩
  case round =>
    obtain ⟨k, rfl, rfl, hk, hwr, hbl⟩ := hrel
    by_cases hlt : k < n
    · obtain ⟨b, o, rfl, hb, hc⟩ := HAT.out.resolve_left (by omega)
      have hx : wr.cell? ⟨b, o + k, none⟩ = some (.int .u16 (r k)) := (hbl.cell (p := ⟨b, o + k, none⟩) hb).trans (hc k hlt)
      have t1 : ((n : Int) - (k : Int)).toNat = n - k := by omega
      have t2 : ((n : Int) - (k : Int) - 1).toNat = n - k - 1 := by omega
      have t3 : 0 ≤ (n : Int) - (k : Int) - 1 := by omega
      have t4 : 0 ≤ (n : Int) - (k : Int) := by omega
      have HW := hide hwr
      have HB := hide hbl
      clear hwr hbl
      go_wp2_with fail
      refine (eachTimes_any (w.heap.size + 1) (n - k - 1) (n + 1) (n + 1 - (n - k - 1)) (n + 1 - (n - k - 1)) (w.heap.size + 1) (n - k) (n + 1 - (n - k)) (n + 1 - (n - k)) _ (r k) (ofr r n k) (ofp r k) wr (by omega) (by omega) (by omega) (.inr (by omega)) (ofr16 r n k) (ofp16 r k) (fun j hj => ofp_out r k j (by omega)) (h.bd k) HW.out (fun j hj => ?_)).mono ?_
      · have := HW.out.cell (n - k + j) (by omega)
        rw [Nat.zero_add] at this
        rw [this]
        unfold ofr
        rw [if_neg (by omega), show n - k + j - (n - k) = j from by omega]
      rintro e w3 ⟨⟨v, rfl⟩, hw3, ho3⟩
      have HW3 := hide (hw3.congr fun j _ => ofr_step r n k j hlt)
      have HO3 := hide ho3
      clear hw3 ho3
      go_wp2_with fail
      go_roundw
      case rel => exact ⟨k + 1, by go_num, by go_num, by omega, HW3.out, HB.out.trans (HO3.out.below (by omega))⟩
      case measure => simp [intOf]; omega
    · obtain rfl : k = n := by omega
      have HW := hide hwr
      have HB := hide hbl
      clear hwr hbl
      go_wp2
      go_ret
      refine ⟨_, _, rfl, New.of_wr (HW.out.congr fun j _ => ?_) (by omega) HB.out (Nat.le_refl _) (ofp16 r k) (ofp_out r k)⟩
      unfold ofr
      rw [if_neg (by omega), show j - (k - k) = j from by omega]

end Go.Proofs.Ytdbdidohldhnhaa
