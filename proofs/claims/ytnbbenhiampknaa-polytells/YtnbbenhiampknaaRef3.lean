/- The document's own answers, as the statements reckon them: sum, product, of roots; and the statements' helper that compares and writes over. For slices of at most 1000 numbers of 16 bits. -/
import Derived.Test.YtnbbenhiampknaaRef2
namespace Go.Proofs.Ytnbbenhiampknaa
open Go.RowKit Gf
set_option linter.unusedVariables false

set_option maxRecDepth 100000 in
set_option maxHeartbeats 4000000 in
theorem radd_any {w : World} {a a' : Option Addr} {n c n' c' : Nat} {f g : Nat → Int} (h : Sl w a n c f) (h' : Sl w a' n' c' g) (hn : n ≤ 1000) (hn' : n' ≤ 1000) :
    Calls Try.prog 16 #[.slice a n c, .slice a' n' c'] w fun e w' => ∃ a'' m c'', e = .returned (.slice a'' m c'') ∧ m ≤ max n n' ∧ Shr (addp f g) m ∧ New w w' a'' m c'' (addp f g) := by
  obtain ⟨i0, hi, hz0, hz1, hz2⟩ := info_parts info16
  have HS := hide (And.intro h h')
  clear h h'
  go_enter Try.func16, Try.ntmps16
  go_wp2
  go_loopw [5, 6, 7] (fun v i _ wr => ∃ k : Nat, k ≤ max n n' ∧ i = .int .i64 (k : Int) ∧ wr.ownsRow w.heap.size 23 1 v k (vals (addp f g) k) ∧ Below w.heap.size w wr) (fun _ i _ _ => max n n' - (intOf i).toNat)
  case atStart => exact ⟨0, Nat.zero_le _, rfl, World.ownsRow_nil _ _ _ _, Below.refl _ _⟩
  case round =>
    obtain ⟨k, hk, rfl, hown0, hbl⟩ := hrel
    have HO := hide hown0
    clear hown0
    by_cases h1 : k < n
    · obtain ⟨b, off, rfl, hb, hc⟩ := HS.out.1.at'.resolve_left (by omega)
      have hck : wr.cell? ⟨b, off + k, none⟩ = some (.int .u16 (f k)) := (hbl.cell (p := ⟨b, off + k, none⟩) hb).trans (hc k (by omega))
      have bf := HS.out.1.bd k
      have h1' : (k : Int) < (n : Int) := by omega
      clear hc
      by_cases h2 : k < n'
      · obtain ⟨b', off', rfl, hb', hc'⟩ := HS.out.2.at'.resolve_left (by omega)
        have hck' : wr.cell? ⟨b', off' + k, none⟩ = some (.int .u16 (g k)) := (hbl.cell (p := ⟨b', off' + k, none⟩) hb').trans (hc' k (by omega))
        have bg := HS.out.2.bd k
        have h2' : (k : Int) < (n' : Int) := by omega
        have hxor := xI_bits (f k) (g k) (by omega) (by omega)
        clear hc'
        have HQ := hide (show addp f g k = xI (f k) (g k) from rfl)
        go_wp2_with (at_builtin; refine wpList_append_own _ rfl _ _ 22 rfl w.heap.size 23 i0 (.int .u16 0) 1 2 Try.underlying22 hi hz0 hz1 hz2 rfl (by decide) _ k (vals (addp f g) k) rfl (HO.out.alloc _) ⟨wr.heap.size, 0, none⟩ 1 1 [.int .u16 (xI (f k) (g k))] rfl rfl (cell_one_new _ _ _) (fun u hu => by simp at hu; subst hu; rfl) (by unfold maxLen; omega) (by omega) (by have := hbl.size; simp; omega) ?_; intro v' w2 hown hgrow _)
        go_roundw
        case rel => exact ⟨k + 1, by omega, by go_num, by rw [← vals_snoc (addp f g) k HQ.out]; exact hown, (hbl.trans ((bel_lit wr _).mono hbl.size)).grown hgrow (by have := hbl.size; simp; omega) (fun j e => ownBlock_ge HO.out e)⟩
        case measure => simp [intOf]; omega
      · have h2' : ¬ (k : Int) < (n' : Int) := by omega
        have HQ := hide (show addp f g k = f k by show xI (f k) (g k) = f k; rw [HS.out.2.out k (by omega), f6 _ bf.1])
        go_wp2_with (at_builtin; refine wpList_append_own _ rfl _ _ 22 rfl w.heap.size 23 i0 (.int .u16 0) 1 2 Try.underlying22 hi hz0 hz1 hz2 rfl (by decide) _ k (vals (addp f g) k) rfl (HO.out.alloc _) ⟨wr.heap.size, 0, none⟩ 1 1 [.int .u16 (f k)] rfl rfl (cell_one_new _ _ _) (fun u hu => by simp at hu; subst hu; rfl) (by unfold maxLen; omega) (by omega) (by have := hbl.size; simp; omega) ?_; intro v' w2 hown hgrow _)
        go_roundw
        case rel => exact ⟨k + 1, by omega, by go_num, by rw [← vals_snoc (addp f g) k HQ.out]; exact hown, (hbl.trans ((bel_lit wr _).mono hbl.size)).grown hgrow (by have := hbl.size; simp; omega) (fun j e => ownBlock_ge HO.out e)⟩
        case measure => simp [intOf]; omega
    · have h1' : ¬ (k : Int) < (n : Int) := by omega
      by_cases h2 : k < n'
      · obtain ⟨b', off', rfl, hb', hc'⟩ := HS.out.2.at'.resolve_left (by omega)
        have hck' : wr.cell? ⟨b', off' + k, none⟩ = some (.int .u16 (g k)) := (hbl.cell (p := ⟨b', off' + k, none⟩) hb').trans (hc' k (by omega))
        have bg := HS.out.2.bd k
        have h2' : (k : Int) < (n' : Int) := by omega
        have hxor := (xI_bits 0 (g k) (by omega) (by omega)).trans (x0 bg)
        clear hc'
        have HQ := hide (show addp f g k = g k by show xI (f k) (g k) = g k; rw [HS.out.1.out k (by omega), x0 bg])
        go_wp2_with (at_builtin; refine wpList_append_own _ rfl _ _ 22 rfl w.heap.size 23 i0 (.int .u16 0) 1 2 Try.underlying22 hi hz0 hz1 hz2 rfl (by decide) _ k (vals (addp f g) k) rfl (HO.out.alloc _) ⟨wr.heap.size, 0, none⟩ 1 1 [.int .u16 (g k)] rfl rfl (cell_one_new _ _ _) (fun u hu => by simp at hu; subst hu; rfl) (by unfold maxLen; omega) (by omega) (by have := hbl.size; simp; omega) ?_; intro v' w2 hown hgrow _)
        go_roundw
        case rel => exact ⟨k + 1, by omega, by go_num, by rw [← vals_snoc (addp f g) k HQ.out]; exact hown, (hbl.trans ((bel_lit wr _).mono hbl.size)).grown hgrow (by have := hbl.size; simp; omega) (fun j e => ownBlock_ge HO.out e)⟩
        case measure => simp [intOf]; omega
      · have h2' : ¬ (k : Int) < (n' : Int) := by omega
        obtain ⟨a2, c2, e2, hnew⟩ := new_of_owns HO.out hbl (addp16 HS.out.1.bd HS.out.2.bd) (fun j hj => by show xI (f j) (g j) = 0; rw [HS.out.1.out j (by omega), HS.out.2.out j (by omega), f7])
        subst e2
        clear HO
        go_wp2_with fail
        refine (rshort_any hnew.sl (by omega)).mono ?_
        rintro e w5 ⟨a5, n5, c5, rfl, m5, s5, h5⟩
        go_wp2_with fail
        go_ret
        exact ⟨a5, n5, c5, rfl, by omega, s5, h5.from hbl⟩

/-- The product's row when i coefficients are done and j places of the next one. -/
def prow (f g : Nat → Int) (i j : Nat) : Nat → Int := fun t => if i ≤ t ∧ t < i + j then xI (pm i f g t) (gI (f i) (g (t - i))) else pm i f g t
theorem prow16 {f g : Nat → Int} (hf : P16 f) (hg : P16 g) (i j : Nat) : P16 (prow f g i j) := fun t => by
  unfold prow
  split
  · exact x16 (pm16 hg i t) (g16 (hf i))
  · exact pm16 hg i t
theorem prow_zero (f g : Nat → Int) (i : Nat) : prow f g i 0 = pm i f g := funext fun t => by unfold prow; rw [if_neg (by omega)]
theorem prow_last {f g : Nat → Int} (hf : P16 f) (hg : P16 g) (i m : Nat) (hgo : ∀ j, m ≤ j → g j = 0) : prow f g i m = pm (i + 1) f g := funext fun t => by
  show (if i ≤ t ∧ t < i + m then xI (pm i f g t) (gI (f i) (g (t - i))) else pm i f g t) = (if t < i then pm i f g t else xI (pm i f g t) (gI (g (t - i)) (f i)))
  by_cases h1 : t < i
  · rw [if_neg (by omega), if_pos h1]
  · rw [if_neg h1]
    by_cases h2 : t < i + m
    · rw [if_pos (by omega), g2 (hf i) (hg _)]
    · rw [if_neg (by omega), hgo (t - i) (by omega), f12, f6 _ (pm16 hg i t).1]
theorem prow_step (f g : Nat → Int) (i k t : Nat) : (if t = i + k then xI (prow f g i k (i + k)) (gI (f i) (g k)) else prow f g i k t) = prow f g i (k + 1) t := by
  unfold prow
  by_cases e : t = i + k
  · subst e
    rw [if_pos rfl, if_neg (by omega), if_pos (by omega), show i + k - i = k from by omega]
  · rw [if_neg e]
    by_cases h : i ≤ t ∧ t < i + k
    · rw [if_pos h, if_pos (by omega)]
    · rw [if_neg h, if_neg (by omega)]

set_option maxRecDepth 100000 in
set_option maxHeartbeats 4000000 in
theorem rmul_some (b off b' off' m c m' c' : Nat) (f g : Nat → Int) (w : World) (hn : m + 1 ≤ 1000) (hn' : m' + 1 ≤ 1000) (hf : P16 f) (hg : P16 g) (hfo : ∀ j, m + 1 ≤ j → f j = 0) (hgo : ∀ j, m' + 1 ≤ j → g j = 0) (hb : b < w.heap.size) (hb' : b' < w.heap.size)
    (hc : ∀ j, j < m + 1 → w.cell? ⟨b, off + j, none⟩ = some (.int .u16 (f j))) (hc' : ∀ j, j < m' + 1 → w.cell? ⟨b', off' + j, none⟩ = some (.int .u16 (g j))) :
    Calls Try.prog 18 #[.slice (some ⟨b, off, none⟩) (m + 1) c, .slice (some ⟨b', off', none⟩) (m' + 1) c'] w fun e w' => ∃ a'' k c'', e = .returned (.slice a'' k c'') ∧ k ≤ m + m' + 1 ∧ Shr (mulp f g) k ∧ New w w' a'' k c'' (mulp f g) := by
  have q1 : ((m : Int) + 1 == 0) = false := beq_no (by omega)
  have q2 : ((m' : Int) + 1 == 0) = false := beq_no (by omega)
  have hmk := mk_int (m + m' + 1) ((m : Int) + 1 + ((m' : Int) + 1) - 1) (by omega) (by omega)
  have HC := hide (And.intro hc hc')
  have HW0 := hide (Wr.made w (m + m' + 1))
  have HP := hide (And.intro hf hg)
  clear hc hc' hf hg
  go_enter Try.func18, Try.ntmps18
  go_wp2_with fail
  go_loopw [6, 7] (fun i _ wr => ∃ k : Nat, i = .int .i64 k ∧ k ≤ m + 1 ∧ Wr wr w.heap.size 0 (m + m' + 1) (pm k f g) ∧ Below w.heap.size w wr) (fun i _ _ => m + 1 - (intOf i).toNat)
  case atStart => exact ⟨0, rfl, Nat.zero_le _, HW0.out, (Below.refl _ _).alloc (Nat.le_refl _) _⟩
  case round =>
    obtain ⟨i, rfl, hi, hwr, hbl⟩ := hrel
    by_cases hlt : i < m + 1
    · have hci : wr.cell? ⟨b, off + i, none⟩ = some (.int .u16 (f i)) := (hbl.cell (p := ⟨b, off + i, none⟩) hb).trans (HC.out.1 i hlt)
      have hlt' : (i : Int) < (m : Int) + 1 := by omega
      have HW := hide hwr
      have HB := hide hbl
      clear hwr hbl
      go_wp2_with fail
      go_loopw [7] (fun kk wr' => ∃ k : Nat, kk = .int .i64 k ∧ k ≤ m' + 1 ∧ Wr wr' w.heap.size 0 (m + m' + 1) (prow f g i k) ∧ Below w.heap.size w wr') (fun kk _ => m' + 1 - (intOf kk).toNat)
      case atStart => exact ⟨0, rfl, Nat.zero_le _, by rw [prow_zero]; exact HW.out, HB.out⟩
      case round =>
        obtain ⟨k, rfl, hk, hwr, hbl⟩ := hrel
        by_cases hkt : k < m' + 1
        · have hci' : wr.cell? ⟨b, off + i, none⟩ = some (.int .u16 (f i)) := (hbl.cell (p := ⟨b, off + i, none⟩) hb).trans (HC.out.1 i hlt)
          have hck : wr.cell? ⟨b', off' + k, none⟩ = some (.int .u16 (g k)) := (hbl.cell (p := ⟨b', off' + k, none⟩) hb').trans (HC.out.2 k hkt)
          have hcr : wr.cell? ⟨w.heap.size, i + k, none⟩ = some (.int .u16 (prow f g i k (i + k))) := by have := hwr.cell (i + k) (by omega); rwa [Nat.zero_add] at this
          have hfr : wr.frozen? ⟨w.heap.size, i + k, none⟩ = false := by have := hwr.free (i + k) (by omega); rwa [Nat.zero_add] at this
          have bf := HP.out.1 i
          have bg := HP.out.2 k
          have bp := prow16 HP.out.1 HP.out.2 i k (i + k)
          have HST := hide (fun t => prow_step f g i k t)
          revert hcr bp HST
          generalize prow f g i k (i + k) = y
          intro hcr bp HST
          have bgi := gI_bd (f i) (g k) (by omega)
          have hxor := xI_bits y (gI (f i) (g k)) (by omega) (by omega)
          have hkt' : (k : Int) < (m' : Int) + 1 := by omega
          have t1 : ((i : Int) + (k : Int)).toNat = i + k := by omega
          have t2 : (i : Int) + (k : Int) < (m : Int) + (m' : Int) + 1 := by omega
          have t4 : (0 : Int) ≤ (i : Int) + (k : Int) := by omega
          have t5 : IntKind.i64.wrap ((i : Int) + (k : Int)) = (i : Int) + (k : Int) := wrap_small _ (by omega) (by omega)
          have HW2 := hide hwr
          have HB2 := hide hbl
          clear hwr hbl hci
          go_wp2_with fail
          refine wp_region_still_tail 21 (by kernel_rfl) (by kernel_rfl) ?_
          simp only [List.take_succ_cons, List.take_zero, List.drop_succ_cons, List.drop_zero]
          repeat still_step
          still_call (refMul_any _ _ _ (by omega) (by omega))
          repeat still_step
          refine wpStill_nil ?_
          go_wp2
          go_roundw
          case rel =>
            refine ⟨k + 1, by go_num, by omega, Wr.drew1 ?_, (HB2.out.setCell (p := ⟨w.heap.size, i + k, none⟩) (Nat.le_refl _) _).drew⟩
            have h9 := HW2.out.set (i + k) (by omega) (xI y (gI (f i) (g k)))
            rw [Nat.zero_add] at h9
            exact h9.congr fun t _ => HST.out t
          case measure => simp [intOf]; omega
        · obtain rfl : k = m' + 1 := by omega
          have hkt' : ¬ ((m' : Int) + 1 < (m' : Int) + 1) := by omega
          rw [prow_last HP.out.1 HP.out.2 i (m' + 1) hgo] at hwr
          have HW2 := hide hwr
          have HB2 := hide hbl
          clear hwr hbl hci
          go_wp2
          go_roundw
          case rel => exact ⟨i + 1, by go_num, by omega, HW2.out, HB2.out⟩
          case measure => simp [intOf]; omega
    · obtain rfl : i = m + 1 := by omega
      rw [pm_mulp HP.out.2 hfo] at hwr
      have hnew : New w wr (some ⟨w.heap.size, 0, none⟩) (m + m' + 1) (m + m' + 1) (mulp f g) := New.of_wr hwr (Nat.le_refl _) hbl (Nat.le_refl _) (mulp16 HP.out.2) (fun j hj => mulp_out HP.out.2 hfo hgo (by omega) j (by omega))
      clear hwr
      go_wp2_with fail
      refine (rshort_any hnew.sl (by omega)).mono ?_
      rintro e w5 ⟨a5, n5, c5, rfl, m5, s5, h5⟩
      go_wp2_with fail
      go_ret
      exact ⟨a5, n5, c5, rfl, by omega, s5, h5.from hbl⟩

set_option maxRecDepth 100000 in
theorem rmul_nil (a a' : Option Addr) (n c n' c' : Nat) (w : World) (h : n = 0 ∨ n' = 0) :
    Calls Try.prog 18 #[.slice a n c, .slice a' n' c'] w fun e w' => e = .returned (.slice none 0 0) ∧ w' = w := by
  by_cases h0 : n = 0
  · subst h0
    go_enter Try.func18, Try.ntmps18
    go_wp2
    go_ret
    exact ⟨rfl, rfl⟩
  · obtain rfl : n' = 0 := by omega
    have q1 : ((n : Int) == 0) = false := beq_no (by omega)
    go_enter Try.func18, Try.ntmps18
    go_wp2
    go_ret
    exact ⟨rfl, rfl⟩

theorem rmul_any {w : World} {a a' : Option Addr} {n c n' c' : Nat} {f g : Nat → Int} (h : Sl w a n c f) (h' : Sl w a' n' c' g) (hn : n ≤ 1000) (hn' : n' ≤ 1000) :
    Calls Try.prog 18 #[.slice a n c, .slice a' n' c'] w fun e w' => ∃ a'' m c'', e = .returned (.slice a'' m c'') ∧ m ≤ n + n' ∧ Shr (mulp f g) m ∧ New w w' a'' m c'' (mulp f g) := by
  by_cases h0 : n = 0 ∨ n' = 0
  · refine (rmul_nil a a' n c n' c' w h0).mono ?_
    rintro e w' ⟨rfl, rfl⟩
    have e : mulp f g = nul := by
      rcases h0 with rfl | rfl
      · exact mulp_zero_l h'.bd h.out
      · exact mulp_zero_r f h'.out
    rw [e]
    exact ⟨none, 0, 0, rfl, Nat.zero_le _, ⟨.inl rfl, fun _ _ => rfl⟩, ⟨nul16, fun _ _ => rfl, Nat.le_refl _, fun _ => rfl, .inl rfl⟩, Below.refl _ _, .inl rfl⟩
  · obtain ⟨m, rfl⟩ : ∃ m, n = m + 1 := ⟨n - 1, by omega⟩
    obtain ⟨m', rfl⟩ : ∃ m', n' = m' + 1 := ⟨n' - 1, by omega⟩
    obtain ⟨b, off, rfl, hb, hc⟩ := h.at'.resolve_left (by omega)
    obtain ⟨b', off', rfl, hb', hc'⟩ := h'.at'.resolve_left (by omega)
    refine (rmul_some b off b' off' m c m' c' f g w hn hn' h.bd h'.bd h.out h'.out hb hb' hc hc').mono ?_
    rintro e w' ⟨a'', k, c'', rfl, hk, hs, hnew⟩
    exact ⟨a'', k, c'', rfl, by omega, hs, hnew⟩

theorem sl_lin2 {w : World} {y : Int} (hy : 0 ≤ y ∧ y ≤ 65535) : Sl (w.alloc (.cells #[.int .u16 y, .int .u16 1] 23)) (some ⟨w.heap.size, 0, none⟩) 2 2 (lf [y, 1]) :=
  sl_lit w [y, 1] (by
    intro z hz
    rcases List.mem_cons.1 hz with rfl | hz
    · exact hy
    · have : z = 1 := by simpa using hz
      subst this
      decide)
theorem ofp_mul {r : Nat → Int} (hr : P16 r) (k : Nat) : mulp (ofp r k) (lf [r k, 1]) = ofp r (k + 1) := by
  rw [mulp_snoc (ofp16 r k) (lin16 (hr k)), show tl (lf [r k, 1]) = cst 1 from funext fun j => by
    show lf [r k, 1] (j + 1) = if j = 0 then 1 else 0
    by_cases h : j = 0
    · subst h; rfl
    · rw [if_neg h]; exact lf_out _ _ (by simp; omega), mulp_cst (ofp16 r k) (by decide), ofp_step, addp_comm]
  congr 1
  congr 1
  exact funext fun j => f8 _ (ofp16 r k j).1

set_option maxRecDepth 100000 in
set_option maxHeartbeats 4000000 in
theorem rof_any {w : World} {a : Option Addr} {n c : Nat} {r : Nat → Int} (h : Sl w a n c r) (hn : n ≤ 900) :
    Calls Try.prog 24 #[.slice a n c] w fun e w' => ∃ a' c', e = .returned (.slice a' (n + 1) c') ∧ Sl w' a' (n + 1) c' (ofp r n) ∧ Below w.heap.size w w' := by
  have HS := hide h
  clear h
  have e0 : lf [1] = ofp r 0 := (lf_eq (f := ofp r 0) (xs := [1]) (ofp_out r 0) (fun j hj => by
    have hj' : j = 0 := by have : j < 1 := hj; omega
    subst hj'
    rfl)).symm
  have l1 : Sl (w.alloc (.cells #[.int .u16 1] 23)) (some ⟨w.heap.size, 0, none⟩) 1 1 (ofp r 0) := e0 ▸ sl_lit w [1] (by decide)
  have HL := hide (And.intro l1 (bel_lit w (.cells #[.int .u16 1] 23)))
  clear l1
  go_enter Try.func24, Try.ntmps24
  go_wp2
  go_loopw [3, 4] (fun v i wr => ∃ (k : Nat) (a' : Option Addr) (c' : Nat), v = .slice a' (k + 1) c' ∧ i = .int .i64 (k : Int) ∧ k ≤ n ∧ Sl wr a' (k + 1) c' (ofp r k) ∧ Below w.heap.size w wr) (fun _ i _ => n - (intOf i).toNat)
  case atStart => exact ⟨0, _, _, rfl, rfl, Nat.zero_le _, HL.out.1, HL.out.2⟩
  case round =>
    obtain ⟨k, a', c', rfl, rfl, hk, hsl, hbl⟩ := hrel
    by_cases hlt : k < n
    · obtain ⟨b, off, rfl, hb, hc⟩ := HS.out.at'.resolve_left (by omega)
      have hck : wr.cell? ⟨b, off + k, none⟩ = some (.int .u16 (r k)) := (hbl.cell (p := ⟨b, off + k, none⟩) hb).trans (hc k (by omega))
      have hlt' : (k : Int) < (n : Int) := by omega
      have HX := hide (And.intro (hsl.alloc (.cells #[.int .u16 (r k), .int .u16 1] 23)) (And.intro (sl_lin2 (w := wr) (HS.out.bd k)) (And.intro (bel_lit wr (.cells #[.int .u16 (r k), .int .u16 1] 23)) hbl)))
      clear hsl hc hbl
      go_wp2_with fail
      refine (rmul_any HX.out.1 HX.out.2.1 (by omega) (by omega)).mono ?_
      rintro e w5 ⟨a5, n5, c5, rfl, m5, s5, h5⟩
      rw [ofp_mul HS.out.bd k] at s5 h5
      obtain rfl := s5.uniq (ofp_shr r (k + 1))
      have hbl := HX.out.2.2.2.trans ((HX.out.2.2.1.trans (h5.bel.mono HX.out.2.2.1.size)).mono HX.out.2.2.2.size)
      go_wp2
      go_roundw
      case rel => exact ⟨k + 1, a5, c5, rfl, by go_num, by omega, h5.sl, hbl⟩
      case measure => simp [intOf]; omega
    · obtain rfl : k = n := by omega
      go_wp2
      go_ret
      exact ⟨a', c', rfl, hsl, hbl⟩

/-- What may have turned is the block that a leads to, if there are any numbers in it. -/
structure But (a : Option Addr) (n : Nat) (w w' : World) : Prop where
  os : w'.os = w.os
  tape : w'.tape = w.tape
  output : w'.output = w.output
  size : w.heap.size ≤ w'.heap.size
  block : ∀ k, k < w.heap.size → (n ≠ 0 → ∀ x, a = some x → x.block ≠ k) → w'.heap[k]? = w.heap[k]?
theorem But.below {a : Option Addr} {n : Nat} {w w' : World} {L : Nat} (h : But a n w w') (hL : n ≠ 0 → ∀ x, a = some x → L ≤ x.block) (hw : L ≤ w.heap.size) : Below L w w' :=
  ⟨h.os, h.tape, h.output, h.size, fun k hk => h.block k (by omega) (fun h0 x e => by have := hL h0 x e; omega)⟩

set_option maxRecDepth 100000 in
set_option maxHeartbeats 4000000 in
theorem spoil_any {w : World} {L n c n' c' : Nat} {a a' : Option Addr} {f g : Nat → Int} (h : Held L w a n c f) (h' : Sl w a' n' c' g) (hs : Shr f n) (hs' : Shr g n') (hn : n ≤ 4000) (e : f = g) :
    Calls Try.prog 12 #[.slice a n c, .slice a' n' c'] w fun e w' => e = .returned (.bool true) ∧ But a n w w' := by
  have HH := hide h
  have hown := h.own
  have HO := hide hown
  clear hown
  go_enter Try.func12, Try.ntmps12
  go_wp2_with fail
  refine (same_sh h.sl h' hs hs' hn e).mono ?_
  rintro e1 w1 ⟨rfl, b1⟩
  clear h h' e hs hs'
  have B1 := hide b1
  clear b1
  go_wp2_with fail
  go_loopw [6] (fun i wr => ∃ k : Nat, i = .int .i64 (k : Int) ∧ k ≤ n ∧ But a n w wr ∧ (n = 0 ∨ ∃ b off F, a = some ⟨b, off, none⟩ ∧ Wr wr b off n F)) (fun i _ => n - (intOf i).toNat)
  case atStart =>
    refine ⟨0, rfl, Nat.zero_le _, ⟨B1.out.os, B1.out.tape, B1.out.output, B1.out.size, fun k hk _ => B1.out.block k hk⟩, ?_⟩
    rcases HO.out with h0 | ⟨b, off, ha, hb, hw⟩
    · exact .inl h0
    · exact .inr ⟨b, off, f, ha, hw.below B1.out hw.lt⟩
  case round =>
    obtain ⟨k, rfl, hk, hbut, hwr⟩ := hrel
    by_cases hlt : k < n
    · obtain ⟨b, off, F, rfl, hw⟩ := hwr.resolve_left (by omega)
      have hck := hw.cell k hlt
      have hfk := hw.free k hlt
      have hlt' : (k : Int) < (n : Int) := by omega
      have HX := hide (And.intro hbut hw)
      clear hbut hw hwr
      go_wp2
      go_roundw
      case rel =>
        obtain ⟨hbut, hw⟩ := HX.out
        refine ⟨k + 1, by go_num, by omega, ⟨hbut.os, hbut.tape, hbut.output, by simpa [World.setCell] using hbut.size, fun j hj hne => ?_⟩, .inr ⟨b, off, _, rfl, hw.set k hlt 777⟩⟩
        exact (Below.heap_setCell wr ⟨b, off + k, none⟩ (.int .u16 777) j (fun e => hne (by omega) _ rfl e.symm)).trans (hbut.block j hj hne)
      case measure => simp [intOf]; omega
    · obtain rfl : k = n := by omega
      go_wp2
      go_ret
      exact ⟨rfl, hbut⟩

end Go.Proofs.Ytnbbenhiampknaa
