/- The polynomials' sum, product, slope, and those of roots: for slices of at most 1000 numbers of 16 bits each call returns what the plain functions say, shortened, in new memory; nothing that was there is changed. -/
import Derived.Test.YtfinicoipoleaaaEach
import Derived.Test.YtfinicoipoleaaaPMath
namespace Go.Proofs.Ytfinicoipoleaaa
open Go.RowKit Gf

theorem addp_comm (f g : Nat → Int) : addp f g = addp g f := funext fun _ => f1 _ _

theorem eachTimes_zero (v1 v2 v4 v5 : Value) (w : World) :
    Calls Try.prog 33 #[v1, v2, .int .u16 0, v4, v5] w fun e w' => (∃ v, e = .returned v) ∧ w' = w := by
  go_enter Try.func33, Try.ntmps33
  go_wp2
  refine bodyPost_ret (results_none rfl _ _ _) rfl ?_
  exact ⟨⟨_, rfl⟩, rfl⟩

theorem eachTimes_off (b o i N L C bp op m cp : Nat) (x : Addr) (c : Int) (F P : Nat → Int) (w : World) (hN : N ≤ 4000) (hmN : i + m ≤ N) (hL : m ≤ L) (hne : bp ≠ b ∨ o + i ≤ op) (hF : P16 F) (hP : P16 P) (hPo : ∀ j, m ≤ j → P j = 0)
    (hc0 : 0 ≤ c ∧ c ≤ 65535) (hw : Wr w b o N F) (hc : ∀ j, j < m → w.cell? ⟨bp, op + j, none⟩ = some (.int .u16 (P j))) :
    Calls Try.prog 33 #[.slice (some ⟨b, o + i, none⟩) L C, .slice (some ⟨bp, op, none⟩) m cp, .int .u16 c, .func (.func 20) #[.pointer (some x)] #[], .func (.func 19) #[.pointer (some x)] #[]] w fun e w' =>
      (∃ v, e = .returned v) ∧ Wr w' b o N (fun k => if k < i then F k else xI (F k) (gI (P (k - i)) c)) ∧ Only b w w' := by
  by_cases h0 : c = 0
  · subst h0
    refine (eachTimes_zero _ _ _ _ w).mono ?_
    rintro e w' ⟨he, rfl⟩
    refine ⟨he, hw.congr fun j _ => ?_, Only.refl _ _⟩
    rw [f9, f6 _ (hF j).1]
    simp
  · refine (eachTimes_some b o i N L C bp op m cp x c F P w hN hmN hL hne hF hP hc0 (beq_no h0) hw hc).mono ?_
    rintro e w' ⟨he, hw', ho⟩
    refine ⟨he, hw'.congr fun j _ => ?_, ho⟩
    by_cases h1 : j < i
    · rw [if_pos h1, if_neg (by omega)]
    · rw [if_neg h1]
      by_cases h2 : j < i + m
      · rw [if_pos (by omega)]
      · rw [if_neg (by omega), hPo (j - i) (by omega), f12, f6 _ (hF j).1]

theorem eachTimes_any (b i N L C bp op m cp : Nat) (x : Addr) (c : Int) (F P : Nat → Int) (w : World) (hN : N ≤ 4000) (hmN : i + m ≤ N) (hL : m ≤ L) (hne : bp ≠ b ∨ i ≤ op) (hF : P16 F) (hP : P16 P) (hPo : ∀ j, m ≤ j → P j = 0)
    (hc0 : 0 ≤ c ∧ c ≤ 65535) (hw : Wr w b 0 N F) (hc : ∀ j, j < m → w.cell? ⟨bp, op + j, none⟩ = some (.int .u16 (P j))) :
    Calls Try.prog 33 #[.slice (some ⟨b, i, none⟩) L C, .slice (some ⟨bp, op, none⟩) m cp, .int .u16 c, .func (.func 20) #[.pointer (some x)] #[], .func (.func 19) #[.pointer (some x)] #[]] w fun e w' =>
      (∃ v, e = .returned v) ∧ Wr w' b 0 N (fun k => if k < i then F k else xI (F k) (gI (P (k - i)) c)) ∧ Only b w w' := by
  have h := eachTimes_off b 0 i N L C bp op m cp x c F P w hN hmN hL (by omega) hF hP hPo hc0 hw hc
  rwa [Nat.zero_add] at h

theorem pm_step (t : Nat) (f g : Nat → Int) : pm (t + 1) f g = fun k => if k < t then pm t f g k else xI (pm t f g k) (gI (g (k - t)) (f t)) := rfl

theorem mk_row {n : Nat} (hn : n ≤ 4000) : ∀ (kl kc : IntKind) (w : World), (Instr.makeSlice 23 (.int kl (n : Int)) (.int kc (n : Int))).run Try.prog w = .ok (.slice (some ⟨w.heap.size, 0, none⟩) n n) (w.alloc (.cells (madeCells #[.int .u16 0] n) 27)) :=
  fun kl kc w => run_make_row' 23 27 (.int .u16 0) 2 Try.underlying23 info16 rfl kl kc n (by omega) (by omega) w

theorem mk_int (n : Nat) (z : Int) (e : z = n) (hn : n ≤ 4000) : ∀ (w : World), (Instr.makeSlice 23 (.int .i64 z) (.int .i64 z)).run Try.prog w = .ok (.slice (some ⟨w.heap.size, 0, none⟩) n n) (w.alloc (.cells (madeCells #[.int .u16 0] n) 27)) := by
  subst e
  exact mk_row hn .i64 .i64

theorem mulp_zero_l {f g : Nat → Int} (hg : P16 g) (hf : ∀ j, 0 ≤ j → f j = 0) : mulp f g = fun _ => 0 := (pm_mulp hg hf).symm
theorem pm_zero_r {g : Nat → Int} (f : Nat → Int) (hg : ∀ j, 0 ≤ j → g j = 0) (t : Nat) : pm t f g = fun _ => 0 := by
  induction t with
  | zero => rfl
  | succ t ih =>
    rw [pm_step, ih]
    funext k
    rw [hg _ (Nat.zero_le _), f12, f6 _ (Int.le_refl _)]
    simp
theorem mulp_zero_r {g : Nat → Int} (f : Nat → Int) (hg : ∀ j, 0 ≤ j → g j = 0) : mulp f g = fun _ => 0 := funext fun k => congrFun (pm_zero_r f hg (k + 1)) k

/-- Beyond the last places of both the product is 0. -/
theorem pm_out {f g : Nat → Int} {m : Nat} (hg : ∀ j, m ≤ j → g j = 0) (t : Nat) : ∀ k, t + m ≤ k + 1 → 0 < m → pm t f g k = 0 := by
  induction t with
  | zero => intro k _ _; rfl
  | succ t ih =>
    intro k hk hm
    rw [pm_step]
    show (if k < t then pm t f g k else _) = 0
    rw [if_neg (by omega), ih k (by omega) hm, hg (k - t) (by omega), f12, f6 _ (Int.le_refl _)]
theorem mulp_out {f g : Nat → Int} {n m : Nat} (hg16 : P16 g) (hf : ∀ j, n ≤ j → f j = 0) (hg : ∀ j, m ≤ j → g j = 0) (hm : 0 < m) : ∀ k, n + m ≤ k + 1 → mulp f g k = 0 := by
  intro k hk
  rw [← pm_mulp hg16 hf]
  exact pm_out hg n k hk hm
/-- The highest coefficient of a product. -/
theorem mulp_top {f g : Nat → Int} {n m : Nat} (hg16 : P16 g) (hf : ∀ j, n + 1 ≤ j → f j = 0) (hg : ∀ j, m + 1 ≤ j → g j = 0) : mulp f g (n + m) = gI (g m) (f n) := by
  rw [← pm_mulp hg16 hf, pm_step]
  show (if n + m < n then _ else xI (pm n f g (n + m)) (gI (g (n + m - n)) (f n))) = _
  rw [if_neg (by omega), pm_out hg n (n + m) (by omega) (by omega), show n + m - n = m from by omega, f1, f6 _ (g16 (hg16 m)).1]
theorem mulp_shr {f g : Nat → Int} {n m : Nat} (hf16 : P16 f) (hg16 : P16 g) (hf : Shr f (n + 1)) (hg : Shr g (m + 1)) : Shr (mulp f g) (n + m + 1) := by
  refine ⟨.inr ?_, fun j hj => mulp_out hg16 hf.2 hg.2 (by omega) j (by omega)⟩
  show mulp f g (n + m) ≠ 0
  rw [mulp_top hg16 hf.2 hg.2]
  have h1 : f n ≠ 0 := hf.1.resolve_left (by omega)
  have h2 : g m ≠ 0 := hg.1.resolve_left (by omega)
  exact f11 _ _ (hg16 m) (hf16 n) h2 h1

end Go.Proofs.Ytfinicoipoleaaa
