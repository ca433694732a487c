/- The document's own answers, as the statements reckon them: value, slope, sum, product, of roots; and the statements' helper that compares and writes over. For slices of at most 1000 numbers of 16 bits. -/
import Derived.Test.YtnbbenhiampknaaRef1
import Derived.Test.YtnbbenhiampknaaRoots
import Derived.Deep.QuietTactic
import Derived.BigQuiet
namespace Go.Proofs.Ytnbbenhiampknaa
open Go.RowKit Gf
set_option linter.unusedVariables false

theorem ownBlock_ge {w : World} {base : Nat} {e : TypeId} {size n : Nat} {v : Value} {xs : List Value} (h : w.ownsRow base e size v n xs) {k : Nat} (hk : v.ownBlock = some k) : base ≤ k := by
  rcases h.2 with ⟨rfl, _⟩ | ⟨g, cap, cur, rfl, hg, _⟩
  · cases hk
  · simp [Value.ownBlock] at hk
    omega

theorem atp_down (x : Int) (f : Nat → Int) (n k : Nat) (h : k < n) : atp x (n - k) (fun j => f (j + k)) = xI (gI (atp x (n - (k + 1)) (fun j => f (j + (k + 1)))) x) (f k) := by
  rw [show n - k = n - (k + 1) + 1 from by omega]
  show xI (gI (atp x (n - (k + 1)) (fun j => f (j + 1 + k))) x) (f (0 + k)) = _
  rw [Nat.zero_add, show (fun j => f (j + 1 + k)) = (fun j => f (j + (k + 1))) from funext fun j => by rw [show j + 1 + k = j + (k + 1) from by omega]]

set_option maxRecDepth 100000 in
set_option maxHeartbeats 2000000 in
theorem rat_any {w : World} {a : Option Addr} {n c : Nat} {f : Nat → Int} {x : Int} (h : Sl w a n c f) (hn : n ≤ 4000) (hx : 0 ≤ x ∧ x ≤ 65535) :
    Calls Try.prog 20 #[.slice a n c, .int .u16 x] w fun e w' => e = .returned (.int .u16 (atp x n f)) ∧ Below w.heap.size w w' := by
  have HS := hide h
  clear h
  go_enter Try.func20, Try.ntmps20
  go_wp2
  go_loopw [5, 6] (fun v i wr => ∃ k : Nat, k ≤ n ∧ i = .int .i64 ((k : Int) - 1) ∧ v = .int .u16 (atp x (n - k) (fun j => f (j + k))) ∧ Below w.heap.size w wr) (fun _ i _ => (intOf i + 1).toNat)
  case atStart => exact ⟨n, Nat.le_refl _, rfl, by rw [Nat.sub_self]; rfl, Below.refl _ _⟩
  case round =>
    obtain ⟨k, hk, rfl, rfl, hbl⟩ := hrel
    cases k with
    | zero =>
      go_wp2
      go_ret
      exact ⟨rfl, hbl⟩
    | succ k =>
      obtain ⟨b, off, rfl, hb, hc⟩ := HS.out.at'.resolve_left (by omega)
      have hck : wr.cell? ⟨b, off + k, none⟩ = some (.int .u16 (f k)) := (hbl.cell (p := ⟨b, off + k, none⟩) hb).trans (hc k (by omega))
      have bk := HS.out.bd k
      have bv := atp16 x (n - (k + 1)) (fun j => f (j + (k + 1))) (fun j => HS.out.bd _)
      have hst := atp_down x f n k (by omega)
      have HT := hide hst
      clear hst hc
      revert bv HT
      generalize atp x (n - (k + 1)) (fun j => f (j + (k + 1))) = v
      intro bv HT
      have bg := gI_bd v x (by omega)
      have hxor := xI_bits (gI v x) (f k) (by omega) (by omega)
      have e1 : (((k + 1 : Nat) : Int) - 1) = (k : Int) := by omega
      have e2 : ((k : Int) + 1 - 1) = (k : Int) := by omega
      have hkn : (k : Int) < (n : Int) := by omega
      have hk0 : (0 : Int) ≤ (k : Int) := by omega
      go_wp2_with fail
      go_quiet ((go_at_call 26; exact Calls.quiet_of_same (refMul_any _ _ _ (by omega) (by omega))))
      go_wp2
      go_roundw
      case rel => exact ⟨k, by omega, by go_num, by rw [HT.out], below_drewN hbl nq⟩
      case measure => simp [intOf]

theorem vals_snoc (f : Nat → Int) (k : Nat) {y : Int} (h : f k = y) : vals f k ++ [.int .u16 y] = vals f (k + 1) := by
  subst h
  simp [vals, List.range_succ]

set_option maxRecDepth 100000 in
set_option maxHeartbeats 2000000 in
theorem rslope_any {w : World} {a : Option Addr} {n c : Nat} {f : Nat → Int} (h : Sl w a n c f) (hn : n ≤ 1000) :
    Calls Try.prog 22 #[.slice a n c] w fun e w' => ∃ a' m c', e = .returned (.slice a' m c') ∧ m ≤ n ∧ Shr (slp f) m ∧ New w w' a' m c' (slp f) := by
  obtain ⟨i0, hi, hz0, hz1, hz2⟩ := info_parts info16
  have HS := hide h
  clear h
  go_enter Try.func22, Try.ntmps22
  go_wp2
  go_loopw [3, 4] (fun v i wr => ∃ k : Nat, k ≤ n ∧ i = .int .i64 ((k : Int) + 1) ∧ wr.ownsRow w.heap.size 23 1 v k (vals (slp f) k) ∧ Below w.heap.size w wr) (fun _ i _ => n + 1 - (intOf i).toNat)
  case atStart => exact ⟨0, Nat.zero_le _, rfl, World.ownsRow_nil _ _ _ _, Below.refl _ _⟩
  case round =>
    obtain ⟨k, hk, rfl, hown0, hbl⟩ := hrel
    rename_i vout _
    have HO := hide hown0
    clear hown0
    by_cases hlt : k + 1 < n
    · obtain ⟨b, off, rfl, hb, hc⟩ := HS.out.at'.resolve_left (by omega)
      have hck : wr.cell? ⟨b, off + (k + 1), none⟩ = some (.int .u16 (f (k + 1))) := (hbl.cell (p := ⟨b, off + (k + 1), none⟩) hb).trans (hc (k + 1) (by omega))
      have hlt' : (k : Int) + 1 < (n : Int) := by omega
      have t1 : ((k : Int) + 1).toNat = k + 1 := by omega
      clear hc
      by_cases hev : k % 2 = 0
      · have q1 : (((k : Int) + 1).tmod 2 == 1) = true := beq_yes (by rw [Int.tmod_eq_emod_of_nonneg (by omega)]; omega)
        have q2 : slp f k = f (k + 1) := by unfold slp; rw [if_pos hev]
        have HQ := hide q2
        clear q2
        go_wp2_with (at_builtin; refine wpList_append_own _ rfl _ _ 22 rfl w.heap.size 23 i0 (.int .u16 0) 1 2 Try.underlying22 hi hz0 hz1 hz2 rfl (by decide) _ k (vals (slp f) k) rfl (HO.out.alloc _) ⟨wr.heap.size, 0, none⟩ 1 1 [.int .u16 (f (k + 1))] rfl rfl (cell_one_new _ _ _) (fun u hu => by simp at hu; subst hu; rfl) (by unfold maxLen; omega) (by omega) (by have := hbl.size; simp; omega) ?_; intro v' w2 hown hgrow _)
        go_roundw
        case rel => exact ⟨k + 1, by omega, by go_num, by rw [← vals_snoc (slp f) k HQ.out]; exact hown, (hbl.trans ((bel_lit wr _).mono hbl.size)).grown hgrow (by have := hbl.size; simp; omega) (fun j e => ownBlock_ge HO.out e)⟩
        case measure => simp [intOf]; omega
      · have q1 : (((k : Int) + 1).tmod 2 == 1) = false := beq_no (by rw [Int.tmod_eq_emod_of_nonneg (by omega)]; omega)
        have q2 : slp f k = 0 := by unfold slp; rw [if_neg hev]
        have HQ := hide q2
        clear q2
        go_wp2_with (at_builtin; refine wpList_append_own _ rfl _ _ 22 rfl w.heap.size 23 i0 (.int .u16 0) 1 2 Try.underlying22 hi hz0 hz1 hz2 rfl (by decide) _ k (vals (slp f) k) rfl (HO.out.alloc _) ⟨wr.heap.size, 0, none⟩ 1 1 [.int .u16 0] rfl rfl (cell_one_new _ _ _) (fun u hu => by simp at hu; subst hu; rfl) (by unfold maxLen; omega) (by omega) (by have := hbl.size; simp; omega) ?_; intro v' w2 hown hgrow _)
        go_roundw
        case rel => exact ⟨k + 1, by omega, by go_num, by rw [← vals_snoc (slp f) k HQ.out]; exact hown, (hbl.trans ((bel_lit wr _).mono hbl.size)).grown hgrow (by have := hbl.size; simp; omega) (fun j e => ownBlock_ge HO.out e)⟩
        case measure => simp [intOf]; omega
    · have hlt' : ¬ (k : Int) + 1 < (n : Int) := by omega
      obtain ⟨a2, c2, e2, hnew⟩ := new_of_owns HO.out hbl (slp16 HS.out.bd) (fun j hj => by unfold slp; rw [HS.out.out (j + 1) (by omega)]; simp)
      subst e2
      clear HO
      go_wp2_with fail
      refine (rshort_any hnew.sl (by omega)).mono ?_
      rintro e w5 ⟨a5, n5, c5, rfl, m5, s5, h5⟩
      go_wp2_with fail
      go_ret
      exact ⟨a5, n5, c5, rfl, by omega, s5, h5.from hbl⟩

end Go.Proofs.Ytnbbenhiampknaa
