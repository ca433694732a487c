/- The document's first numbers, walked: the roots, bit by bit. No condition. -/
import Derived.Test.YtjdgaolailfplaaRfLow
import Derived.Maps.AppendAt
namespace Go.Proofs.Ytjdgaolailfplaa
open Go.RowKit Bk
set_option linter.unusedVariables false
set_option linter.unusedSimpArgs false

/-- One bit of the root of p times 2 to the power of 64. -/
def lowN (y : Nat) : Nat := ((y % 4294967296) * (y % 4294967296) + (2 * (y / 4294967296) * (y % 4294967296)) * 4294967296 % 18446744073709551616) % 18446744073709551616
def highN (y : Nat) : Nat := (y / 4294967296) * (y / 4294967296) + (2 * (y / 4294967296) * (y % 4294967296)) / 4294967296
def higN (y : Nat) : Nat := if lowN y < (y % 4294967296) * (y % 4294967296) then highN y + 1 else highN y
def fstep (p x ad : Nat) : Nat := if higN (x + ad) < p then x + ad else if higN (x + ad) = p then (if lowN (x + ad) = 0 then x + ad else x) else x
def fres (p : Nat) : Nat → Nat
  | 0 => 0
  | k + 1 => fstep p (fres p k) (2 ^ (35 - k))
theorem fstep_le (p x ad : Nat) : fstep p x ad ≤ x + ad := by
  unfold fstep
  split
  · omega
  · split
    · split <;> omega
    · omega
def prms : List Nat := [2, 3, 5, 7, 11, 13, 17, 19]
theorem prm_lt (k : Nat) (h : k < 8) : at' prms k < 20 := by
  simpa using all_of (p := fun j => decide (at' prms j < 20)) 8 (by decide +kernel) k h
theorem roots (k : Nat) (h : k < 8) : fres (at' prms k) 36 % 4294967296 = at' iv k := by
  simpa using all_of (p := fun j => decide (fres (at' prms j) 36 % 4294967296 = at' iv j)) 8 (by decide +kernel) k h
/-- A bit's worth: 2 to the power of 35, halved again and again. -/
def hlv (k : Nat) : Nat := if k < 36 then 2 ^ (35 - k) else 0
theorem hlv_half (k : Nat) (h : k < 36) : hlv k / 2 = hlv (k + 1) := by
  simpa using all_of (p := fun j => decide (hlv j / 2 = hlv (j + 1))) 36 (by decide +kernel) k h
theorem hlv_le (k : Nat) : hlv k ≤ 34359738368 := by
  by_cases h : k < 36
  · simpa using all_of (p := fun j => decide (hlv j ≤ 34359738368)) 36 (by decide +kernel) k h
  · unfold hlv; rw [if_neg h]; omega
theorem hlv_pos (k : Nat) (h : k < 36) : 0 < hlv k := by
  simpa using all_of (p := fun j => decide (0 < hlv j)) 36 (by decide +kernel) k h
theorem fres_succ (p k : Nat) (h : k < 36) : fres p (k + 1) = fstep p (fres p k) (hlv k) := by
  show fstep p (fres p k) (2 ^ (35 - k)) = _
  unfold hlv; rw [if_pos h]
theorem fres_le (p k : Nat) (h : k ≤ 36) : fres p k + 2 * hlv k ≤ 68719476736 := by
  induction k with
  | zero => show 0 + 2 * hlv 0 ≤ _; have : hlv 0 = 34359738368 := by decide +kernel
            omega
  | succ k ih =>
    rw [fres_succ p k (by omega)]
    have h1 := fstep_le p (fres p k) (hlv k)
    have h2 := ih (by omega)
    have h3 := hlv_half k (by omega)
    omega
theorem owns_wide {w : World} {base base' : Nat} {e : TypeId} {size : Nat} {v : Value} {n : Nat} {xs : List Value} (hb : base' ≤ base) (h : w.ownsRow base e size v n xs) : w.ownsRow base' e size v n xs := by
  refine ⟨h.1, ?_⟩
  rcases h.2 with h0 | ⟨g, cap, cur, rfl, hg, r⟩
  · exact .inl h0
  · exact .inr ⟨g, cap, cur, rfl, Nat.le_trans hb hg, r⟩
theorem bit_facts (y : Nat) (hy : y < 68719476736) : ∃ a b m s t low aa md hh : Nat, (y : Int) / 4294967296 = (a : Int) ∧ (y : Int) % 4294967296 = (b : Int) ∧ IntKind.u64.wrap (2 * (a : Int) * (b : Int)) = (m : Int) ∧
    IntKind.u64.wrap ((b : Int) * (b : Int)) = (s : Int) ∧ IntKind.u64.wrap ((m : Int) * 4294967296) = (t : Int) ∧ IntKind.u64.wrap ((s : Int) + (t : Int)) = (low : Int) ∧ IntKind.u64.wrap ((a : Int) * (a : Int)) = (aa : Int) ∧ (m : Int) / 4294967296 = (md : Int) ∧
    IntKind.u64.wrap ((aa : Int) + (md : Int)) = (hh : Int) ∧ IntKind.u64.wrap ((hh : Int) + 1) = ((hh + 1 : Nat) : Int) ∧ lowN y = low ∧ (y % 4294967296) * (y % 4294967296) = s ∧ highN y = hh := by
  have w64 : ∀ n : Nat, IntKind.u64.wrap (n : Int) = ((n % 18446744073709551616 : Nat) : Int) := fun n => by
    simp [IntKind.wrap, IntKind.bits, IntKind.signed]
  have hA : y / 4294967296 < 16 := by omega
  have hB : y % 4294967296 < 4294967296 := Nat.mod_lt _ (by decide)
  obtain ⟨a, ea⟩ : ∃ a, y / 4294967296 = a := ⟨_, rfl⟩
  obtain ⟨b, eb⟩ : ∃ b, y % 4294967296 = b := ⟨_, rfl⟩
  have hm : 2 * a * b ≤ 30 * 4294967296 := Nat.mul_le_mul (by omega) (by omega)
  have hs : b * b ≤ 4294967295 * 4294967295 := Nat.mul_le_mul (by omega) (by omega)
  have ha2 : a * a ≤ 15 * 15 := Nat.mul_le_mul (by omega) (by omega)
  have e1 : (y : Int) / 4294967296 = (a : Int) := by omega
  have e2 : (y : Int) % 4294967296 = (b : Int) := by omega
  refine ⟨a, b, 2 * a * b, b * b, (2 * a * b) * 4294967296 % 18446744073709551616, lowN y, a * a, (2 * a * b) / 4294967296, highN y, e1, e2, ?_, ?_, ?_, ?_, ?_, ?_, ?_, ?_, rfl, by rw [eb], rfl⟩
  · have e : (2 : Int) * (a : Int) * (b : Int) = ((2 * a * b : Nat) : Int) := by simp
    rw [e, w64, Nat.mod_eq_of_lt (by omega)]
  · have e : (b : Int) * (b : Int) = ((b * b : Nat) : Int) := by simp
    rw [e, w64, Nat.mod_eq_of_lt (by omega)]
  · have e : ((2 * a * b : Nat) : Int) * 4294967296 = (((2 * a * b) * 4294967296 : Nat) : Int) := by simp
    rw [e, w64]
  · have e : ((b * b : Nat) : Int) + (((2 * a * b) * 4294967296 % 18446744073709551616 : Nat) : Int) = ((b * b + (2 * a * b) * 4294967296 % 18446744073709551616 : Nat) : Int) := by simp
    rw [e, w64]
    unfold lowN
    rw [ea, eb]
  · have e : (a : Int) * (a : Int) = ((a * a : Nat) : Int) := by simp
    rw [e, w64, Nat.mod_eq_of_lt (by omega)]
  · exact (Int.natCast_ediv (2 * a * b) 4294967296).symm
  · have e : ((a * a : Nat) : Int) + (((2 * a * b) / 4294967296 : Nat) : Int) = ((a * a + (2 * a * b) / 4294967296 : Nat) : Int) := by simp
    rw [e, w64, Nat.mod_eq_of_lt (by omega)]
    unfold highN
    rw [ea, eb]
  · have e : highN y < 1000 := by unfold highN; rw [ea, eb]; omega
    have e' : ((highN y : Nat) : Int) + 1 = ((highN y + 1 : Nat) : Int) := by simp
    rw [e', w64, Nat.mod_eq_of_lt (by omega)]
theorem infoU : (Try.prog.info? 54).map (fun i => (i.zero, i.size, i.bytes)) = some (some (.int .u32 0), 1, 4) := by kernel_rfl
/-- The first k of the first numbers. -/
theorem us_take_succ (k : Nat) (h : k < 8) : us (iv.take (k + 1)) = us (iv.take k) ++ [.int .u32 ((at' iv k : Nat) : Int)] := by
  have hl : k < iv.length := by simpa [iv] using h
  rw [List.take_add_one, us_app]
  simp [us, at', hl]

set_option maxRecDepth 100000 in
set_option maxHeartbeats 8000000 in
theorem rffirst_any (w : World) : Calls Try.prog 30 #[] w fun e w' => ∃ v, e = .returned v ∧ w'.ownsRow w.heap.size 54 1 v 8 (us iv) ∧ Below w.heap.size w w' := by
  obtain ⟨i0, hi, hz0, hz1, hz2⟩ := info_parts infoU
  have hb0 := (Below.refl _ w).alloc (Nat.le_refl _) (.cells #[.int .u64 2, .int .u64 3, .int .u64 5, .int .u64 7, .int .u64 11, .int .u64 13, .int .u64 17, .int .u64 19] 56)
  have hr0 : Row (w.alloc (.cells #[.int .u64 2, .int .u64 3, .int .u64 5, .int .u64 7, .int .u64 11, .int .u64 13, .int .u64 17, .int .u64 19] 56)) w.heap.size 0 (prms.map fun (x : Nat) => Value.int .u64 (x : Int)) := Row.newL w _ _
  have HB0 := hide hb0
  have HR0 := hide hr0
  clear hb0 hr0
  go_enter Try.func30, Try.ntmps30
  go_wp2_with fail
  go_loopg [1, 3, 4, 5, 6, 7, 8, 9, 10, 11, 14] 8 (fun g v _ _ _ _ _ _ _ _ _ t wr => ∃ k : Nat, k + g = 8 ∧ t = .int .i64 k ∧ wr.ownsRow (w.heap.size + 1) 54 1 v k (us (iv.take k)) ∧ Row wr w.heap.size 0 (prms.map fun (x : Nat) => Value.int .u64 (x : Int)) ∧ Below w.heap.size w wr)
  case atStart => exact ⟨0, rfl, rfl, World.ownsRow_nil _ _ _ _, HR0.out, HB0.out⟩
  case round =>
    clear HB0 HR0
    obtain ⟨k, hkg, rfl, hO, hR, hBl⟩ := hrel
    have HO := hide hO
    have HR := hide hR
    have HB := hide hBl
    clear hO hR hBl
    by_cases hlt : k < 8
    · have hlt' : (k : Int) < 8 := by omega
      obtain ⟨g3, rfl⟩ : ∃ g3, gk = g3 + 1 := ⟨gk - 1, by omega⟩
      obtain ⟨p, ep⟩ : ∃ p, at' prms k = p := ⟨_, rfl⟩
      have lp : p < 20 := ep ▸ prm_lt k hlt
      have hc : wr.cell? ⟨w.heap.size, k, none⟩ = some (.int .u64 (p : Int)) := by
        have h9 := HR.out.cell k (.int .u64 (p : Int)) (by simp [← ep, at', show k < prms.length from by simpa [prms] using hlt])
        simpa using h9
      have HP := hide ep
      clear ep
      go_wp2_with fail
      go_loopg [4, 5, 6, 7, 8, 9, 10, 11] 36 (fun g x ad _ _ _ _ _ _ wx => ∃ j : Nat, j + g = 36 ∧ x = .int .u64 ((fres p j : Nat) : Int) ∧ ad = .int .u64 ((hlv j : Nat) : Int) ∧ wx = wr)
      case atStart => exact ⟨0, rfl, rfl, rfl, rfl⟩
      case round =>
        obtain ⟨j, hjg, rfl, rfl, rfl⟩ := hrel
        by_cases hj : j < 36
        · obtain ⟨g5, rfl⟩ : ∃ g5, gk = g5 + 1 := ⟨gk - 1, by omega⟩
          have hle := fres_le p j (by omega)
          have hpos := hlv_pos j hj
          have hhalf := hlv_half j hj
          have hsucc := fres_succ p j hj
          obtain ⟨X, eX⟩ : ∃ X, fres p j = X := ⟨_, rfl⟩
          obtain ⟨A, eA⟩ : ∃ A, hlv j = A := ⟨_, rfl⟩
          rw [eX, eA] at hle hsucc ⊢
          rw [eA] at hpos hhalf
          have hposI : (0 : Int) < (A : Int) := by omega
          obtain ⟨A2, eA2⟩ : ∃ A2, hlv (j + 1) = A2 := ⟨_, rfl⟩
          have hA2 : IntKind.u64.wrap ((A : Int) / 2) = (A2 : Int) := by rw [IntWalk.u64_in _ (by omega)]; omega
          have hy : IntKind.u64.wrap ((X : Int) + (A : Int)) = ((X + A : Nat) : Int) := by rw [IntWalk.u64_in _ (by omega)]; omega
          obtain ⟨y, ey⟩ : ∃ y, X + A = y := ⟨_, rfl⟩
          rw [ey] at hy
          have hy36 : y < 68719476736 := by omega
          obtain ⟨a, b, m, s, t, low, aa, md, hh, ha, hb, hm, hs, ht, hlow, haa, hmd, hhi, hhi1, eLow, eS, eHigh⟩ := bit_facts y hy36
          have HS := hide (And.intro hsucc (And.intro ey (And.intro eLow (And.intro eS (And.intro eHigh eA2)))))
          clear hsucc hhalf ey hle eX eA eLow eS eHigh eA2
          by_cases hls : low < s
          · obtain ⟨H, eH⟩ : ∃ H, hh + 1 = H := ⟨_, rfl⟩
            have h1 : (low : Int) < (s : Int) := by omega
            have hH : IntKind.u64.wrap ((hh : Int) + 1) = (H : Int) := by rw [hhi1]; omega
            by_cases h2 : H < p
            · have h2I : (H : Int) < (p : Int) := by omega
              have HF := hide (And.intro hls (And.intro eH h2))
              clear hls eH h2
              go_wp2_with fail
              go_roundg g5
              case measure => omega
              case rel => exact ⟨j + 1, by omega, congrArg (fun z : Nat => Value.int .u64 (z : Int)) (show y = fres p (j + 1) by rw [HS.out.1]; unfold fstep higN; rw [HS.out.2.1, HS.out.2.2.1, HS.out.2.2.2.1, HS.out.2.2.2.2.1]; rw [if_pos HF.out.1, HF.out.2.1, if_pos HF.out.2.2]), by rw [HS.out.2.2.2.2.2], rfl⟩
            · by_cases h3 : H = p
              · have h2I : ¬ ((H : Int) < (p : Int)) := by omega
                have h3I : (H : Int) = (p : Int) := by omega
                by_cases h4 : low = 0
                · have h4I : ((low : Int) = 0) := by omega
                  have HF := hide (And.intro hls (And.intro eH (And.intro h2 (And.intro h3 h4))))
                  clear hls eH h2 h3 h4
                  go_wp2_with fail
                  go_roundg g5
                  case measure => omega
                  case rel => exact ⟨j + 1, by omega, congrArg (fun z : Nat => Value.int .u64 (z : Int)) (show y = fres p (j + 1) by rw [HS.out.1]; unfold fstep higN; rw [HS.out.2.1, HS.out.2.2.1, HS.out.2.2.2.1, HS.out.2.2.2.2.1]; rw [if_pos HF.out.1, HF.out.2.1, if_neg HF.out.2.2.1, if_pos HF.out.2.2.2.1, if_pos HF.out.2.2.2.2]), by rw [HS.out.2.2.2.2.2], rfl⟩
                · have h4I : ¬ ((low : Int) = 0) := by omega
                  have HF := hide (And.intro hls (And.intro eH (And.intro h2 (And.intro h3 h4))))
                  clear hls eH h2 h3 h4
                  go_wp2_with fail
                  go_roundg g5
                  case measure => omega
                  case rel => exact ⟨j + 1, by omega, congrArg (fun z : Nat => Value.int .u64 (z : Int)) (show X = fres p (j + 1) by rw [HS.out.1]; unfold fstep higN; rw [HS.out.2.1, HS.out.2.2.1, HS.out.2.2.2.1, HS.out.2.2.2.2.1]; rw [if_pos HF.out.1, HF.out.2.1, if_neg HF.out.2.2.1, if_pos HF.out.2.2.2.1, if_neg HF.out.2.2.2.2]), by rw [HS.out.2.2.2.2.2], rfl⟩
              · have h2I : ¬ ((H : Int) < (p : Int)) := by omega
                have h3I : ¬ ((H : Int) = (p : Int)) := by omega
                have HF := hide (And.intro hls (And.intro eH (And.intro h2 h3)))
                clear hls eH h2 h3
                go_wp2_with fail
                go_roundg g5
                case measure => omega
                case rel => exact ⟨j + 1, by omega, congrArg (fun z : Nat => Value.int .u64 (z : Int)) (show X = fres p (j + 1) by rw [HS.out.1]; unfold fstep higN; rw [HS.out.2.1, HS.out.2.2.1, HS.out.2.2.2.1, HS.out.2.2.2.2.1]; rw [if_pos HF.out.1, HF.out.2.1, if_neg HF.out.2.2.1, if_neg HF.out.2.2.2]), by rw [HS.out.2.2.2.2.2], rfl⟩
          · obtain ⟨H, eH⟩ : ∃ H, hh = H := ⟨_, rfl⟩
            have h1 : ¬ ((low : Int) < (s : Int)) := by omega
            have hH : (hh : Int) = (H : Int) := by omega
            by_cases h2 : H < p
            · have h2I : (H : Int) < (p : Int) := by omega
              have HF := hide (And.intro hls (And.intro eH h2))
              clear hls eH h2
              go_wp2_with fail
              go_roundg g5
              case measure => omega
              case rel => exact ⟨j + 1, by omega, congrArg (fun z : Nat => Value.int .u64 (z : Int)) (show y = fres p (j + 1) by rw [HS.out.1]; unfold fstep higN; rw [HS.out.2.1, HS.out.2.2.1, HS.out.2.2.2.1, HS.out.2.2.2.2.1]; rw [if_neg HF.out.1, HF.out.2.1, if_pos HF.out.2.2]), by rw [HS.out.2.2.2.2.2], rfl⟩
            · by_cases h3 : H = p
              · have h2I : ¬ ((H : Int) < (p : Int)) := by omega
                have h3I : (H : Int) = (p : Int) := by omega
                by_cases h4 : low = 0
                · have h4I : ((low : Int) = 0) := by omega
                  have HF := hide (And.intro hls (And.intro eH (And.intro h2 (And.intro h3 h4))))
                  clear hls eH h2 h3 h4
                  go_wp2_with fail
                  go_roundg g5
                  case measure => omega
                  case rel => exact ⟨j + 1, by omega, congrArg (fun z : Nat => Value.int .u64 (z : Int)) (show y = fres p (j + 1) by rw [HS.out.1]; unfold fstep higN; rw [HS.out.2.1, HS.out.2.2.1, HS.out.2.2.2.1, HS.out.2.2.2.2.1]; rw [if_neg HF.out.1, HF.out.2.1, if_neg HF.out.2.2.1, if_pos HF.out.2.2.2.1, if_pos HF.out.2.2.2.2]), by rw [HS.out.2.2.2.2.2], rfl⟩
                · have h4I : ¬ ((low : Int) = 0) := by omega
                  have HF := hide (And.intro hls (And.intro eH (And.intro h2 (And.intro h3 h4))))
                  clear hls eH h2 h3 h4
                  go_wp2_with fail
                  go_roundg g5
                  case measure => omega
                  case rel => exact ⟨j + 1, by omega, congrArg (fun z : Nat => Value.int .u64 (z : Int)) (show X = fres p (j + 1) by rw [HS.out.1]; unfold fstep higN; rw [HS.out.2.1, HS.out.2.2.1, HS.out.2.2.2.1, HS.out.2.2.2.2.1]; rw [if_neg HF.out.1, HF.out.2.1, if_neg HF.out.2.2.1, if_pos HF.out.2.2.2.1, if_neg HF.out.2.2.2.2]), by rw [HS.out.2.2.2.2.2], rfl⟩
              · have h2I : ¬ ((H : Int) < (p : Int)) := by omega
                have h3I : ¬ ((H : Int) = (p : Int)) := by omega
                have HF := hide (And.intro hls (And.intro eH (And.intro h2 h3)))
                clear hls eH h2 h3
                go_wp2_with fail
                go_roundg g5
                case measure => omega
                case rel => exact ⟨j + 1, by omega, congrArg (fun z : Nat => Value.int .u64 (z : Int)) (show X = fres p (j + 1) by rw [HS.out.1]; unfold fstep higN; rw [HS.out.2.1, HS.out.2.2.1, HS.out.2.2.2.1, HS.out.2.2.2.2.1]; rw [if_neg HF.out.1, HF.out.2.1, if_neg HF.out.2.2.1, if_neg HF.out.2.2.2]), by rw [HS.out.2.2.2.2.2], rfl⟩
        · obtain rfl : j = 36 := by omega
          have h0 : hlv 36 = 0 := by decide +kernel
          rw [h0]
          obtain ⟨X, eX⟩ : ∃ X, fres p 36 = X := ⟨_, rfl⟩
          have hx := roots k hlt
          rw [HP.out, eX] at hx
          rw [eX]
          have hc32 : IntKind.u32.wrap ((X : Int) % 4294967296) = ((at' iv k : Nat) : Int) := by rw [IntWalk.u32_in _ (by omega)]; omega
          have HX := hide hx
          clear hx eX
          go_wp2_with (at_builtin; refine wpList_append_own _ rfl _ _ 65 rfl (w.heap.size + 1) 54 i0 (.int .u32 0) 1 4 Try.underlying65 hi hz0 hz1 hz2 rfl (by decide) _ _ _ rfl (HO.out.alloc _) ⟨wr.heap.size, 0, none⟩ 1 1 [.int .u32 ((at' iv k : Nat) : Int)] rfl rfl (cell_one_new _ _ _) (fun x hx => by simp at hx; subst hx; rfl) (by unfold maxLen; omega) (by omega) (by have := HR.out.lt; simp; omega) ?_; intro v' w3 hown3 hgrow3 hnil3)
          have hsz := HR.out.lt
          have hB1 : Below (w.heap.size + 1) wr w3 := ((Below.refl (w.heap.size + 1) wr).alloc (by omega) (.cells #[.int .u32 ((at' iv k : Nat) : Int)] 54)).grown hgrow3 (by simp; omega) (fun j hj => (HO.out.lt j hj).1)
          have HR3 := hide (HR.out.below hB1 (by omega))
          have HB3 := hide (HB.out.trans (hB1.mono (by omega)))
          have HO3 := hide hown3
          clear hown3 hgrow3 hnil3 hB1 hsz
          go_roundg g3
          case measure => omega
          case rel => exact ⟨k + 1, by omega, by go_num, by rw [us_take_succ k hlt]; exact HO3.out, HR3.out, HB3.out⟩
    · obtain rfl : k = 8 := by omega
      go_wp2_with fail
      go_ret
      exact ⟨_, rfl, owns_wide (by omega) HO.out, HB.out⟩
end Go.Proofs.Ytjdgaolailfplaa
