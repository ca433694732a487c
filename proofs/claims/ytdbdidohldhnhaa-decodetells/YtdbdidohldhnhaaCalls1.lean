/- The polynomials' sum, product, slope, and those of roots: for slices of at most 1000 numbers of 16 bits each call returns what the plain functions say, shortened, in new memory; nothing that was there is changed. -/
import Derived.Test.YtdbdidohldhnhaaEach
import Derived.Test.YtdbdidohldhnhaaPMath
namespace Go.Proofs.Ytdbdidohldhnhaa
open Go.RowKit Gf

/-- each with the field's sum, over a row that the call has made. -/
theorem each_any {w0 w : World} {a ap : Option Addr} {n c m cp : Nat} {F P : Nat → Int} (x : Addr) (hN : New w0 w a n c F) (hP : Sl w0 ap m cp P) (hmn : m ≤ n) (hn : n ≤ 4000) :
    Calls Try.prog 61 #[.slice a n c, .slice ap m cp, .func (.func 47) #[.pointer (some x)] #[]] w fun e w' => (∃ v, e = .returned v) ∧ New w0 w' a n c (addp F P) := by
  have hz : ∀ k, m ≤ k → xI (F k) (P k) = F k := fun k hk => by rw [hP.out k hk, f6 _ (hN.sl.bd k).1]
  rcases hP.at' with rfl | ⟨bp, op, rfl, hbp, hcp⟩
  · refine (each_none a ap n c cp _ w).mono ?_
    rintro e w' ⟨he, rfl⟩
    exact ⟨he, hN.congr (funext fun k => (hz k (Nat.zero_le _)).symm)⟩
  · rcases hN.own with rfl | ⟨b, off, rfl, hb, hw⟩
    · obtain rfl : m = 0 := by omega
      refine (each_none a _ 0 c cp _ w).mono ?_
      rintro e w' ⟨he, rfl⟩
      exact ⟨he, hN.congr (funext fun k => (hz k (Nat.zero_le _)).symm)⟩
    · refine (each_some b off n n c bp op m cp x F P w hn hmn hmn (by omega) hN.sl.bd hP.bd hw (fun j hj => (hN.bel.cell (p := ⟨bp, op + j, none⟩) hbp).trans (hcp j hj))).mono ?_
      rintro e w' ⟨he, hw', ho⟩
      refine ⟨he, New.of_wr (hw'.congr fun j _ => ?_) hb (hN.bel.trans (ho.below hb)) hN.sl.cap (addp16 hN.sl.bd hP.bd) ?_⟩
      · by_cases h : j < m
        · rw [if_pos h]; rfl
        · rw [if_neg h]; exact (hz j (by omega)).symm
      · intro j hj
        show xI (F j) (P j) = 0
        rw [hz j (by omega), hN.sl.out j hj]

theorem addp_comm (f g : Nat → Int) : addp f g = addp g f := funext fun _ => f1 _ _

set_option maxRecDepth 100000 in
theorem padd_any {w : World} {a a' : Option Addr} {n c n' c' : Nat} {f g : Nat → Int} (h : Sl w a n c f) (h' : Sl w a' n' c' g) (hn : n ≤ 1000) (hn' : n' ≤ 1000) :
    Calls Try.prog 55 #[.slice a n c, .slice a' n' c'] w fun e w' => ∃ a'' m c'', e = .returned (.slice a'' m c'') ∧ m ≤ max n n' ∧ Shr (addp f g) m ∧ New w w' a'' m c'' (addp f g) := by
  by_cases hlt : n < n'
  · go_enter Try.func55, Try.ntmps55
    go_wp2_with fail
    refine (clone_any h' (by omega)).mono ?_
    rintro e w1 ⟨a1, c1, rfl, hN⟩
    go_wp2_with fail
    refine (new_any _).mono ?_
    rintro e w2 ⟨rfl, rfl⟩
    go_wp2_with fail
    refine (each_any _ (hN.alloc _) h (by omega) (by omega)).mono ?_
    rintro e w3 ⟨⟨v, rfl⟩, hN3⟩
    go_wp2_with fail
    refine (cut_any hN3.sl (by omega)).mono ?_
    rintro e w4 ⟨m, rfl, hm, hs, rfl⟩
    go_wp2_with fail
    go_ret
    rw [addp_comm] at hs hN3
    exact ⟨a1, m, c1, rfl, by omega, hs, hN3.cut hm hs.2⟩
  · go_enter Try.func55, Try.ntmps55
    go_wp2_with fail
    refine (clone_any h (by omega)).mono ?_
    rintro e w1 ⟨a1, c1, rfl, hN⟩
    go_wp2_with fail
    refine (new_any _).mono ?_
    rintro e w2 ⟨rfl, rfl⟩
    go_wp2_with fail
    refine (each_any _ (hN.alloc _) h' (by omega) (by omega)).mono ?_
    rintro e w3 ⟨⟨v, rfl⟩, hN3⟩
    go_wp2_with fail
    refine (cut_any hN3.sl (by omega)).mono ?_
    rintro e w4 ⟨m, rfl, hm, hs, rfl⟩
    go_wp2_with fail
    go_ret
    exact ⟨a1, m, c1, rfl, by omega, hs, hN3.cut hm hs.2⟩

theorem eachTimes_zero (v1 v2 v4 v5 : Value) (w : World) :
    Calls Try.prog 53 #[v1, v2, .int .u16 0, v4, v5] w fun e w' => (∃ v, e = .returned v) ∧ w' = w := by
  go_enter Try.func53, Try.ntmps53
  go_wp2
  refine bodyPost_ret (results_none rfl _ _ _) rfl ?_
  exact ⟨⟨_, rfl⟩, rfl⟩

theorem eachTimes_off (b o i N L C bp op m cp : Nat) (x : Addr) (c : Int) (F P : Nat → Int) (w : World) (hN : N ≤ 4000) (hmN : i + m ≤ N) (hL : m ≤ L) (hne : bp ≠ b ∨ o + i ≤ op) (hF : P16 F) (hP : P16 P) (hPo : ∀ j, m ≤ j → P j = 0)
    (hc0 : 0 ≤ c ∧ c ≤ 65535) (hw : Wr w b o N F) (hc : ∀ j, j < m → w.cell? ⟨bp, op + j, none⟩ = some (.int .u16 (P j))) :
    Calls Try.prog 53 #[.slice (some ⟨b, o + i, none⟩) L C, .slice (some ⟨bp, op, none⟩) m cp, .int .u16 c, .func (.func 47) #[.pointer (some x)] #[], .func (.func 46) #[.pointer (some x)] #[]] w fun e w' =>
      (∃ v, e = .returned v) ∧ Wr w' b o N (fun k => if k < i then F k else xI (F k) (gI (P (k - i)) c)) ∧ Only b w w' := by
  by_cases h0 : c = 0
  · subst h0
    refine (eachTimes_zero _ _ _ _ w).mono ?_
    rintro e w' ⟨he, rfl⟩
    refine ⟨he, hw.congr fun j _ => ?_, Only.refl _ _⟩
    rw [f9, f6 _ (hF j).1]
    simp
  · refine (eachTimes_some b o i N L C bp op m cp x c F P w hN hmN hL hne hF hP hc0 (beq_no h0) hw hc).mono ?_
    rintro e w' ⟨he, hw', ho⟩
    refine ⟨he, hw'.congr fun j _ => ?_, ho⟩
    by_cases h1 : j < i
    · rw [if_pos h1, if_neg (by omega)]
    · rw [if_neg h1]
      by_cases h2 : j < i + m
      · rw [if_pos (by omega)]
      · rw [if_neg (by omega), hPo (j - i) (by omega), f12, f6 _ (hF j).1]

theorem eachTimes_any (b i N L C bp op m cp : Nat) (x : Addr) (c : Int) (F P : Nat → Int) (w : World) (hN : N ≤ 4000) (hmN : i + m ≤ N) (hL : m ≤ L) (hne : bp ≠ b ∨ i ≤ op) (hF : P16 F) (hP : P16 P) (hPo : ∀ j, m ≤ j → P j = 0)
    (hc0 : 0 ≤ c ∧ c ≤ 65535) (hw : Wr w b 0 N F) (hc : ∀ j, j < m → w.cell? ⟨bp, op + j, none⟩ = some (.int .u16 (P j))) :
    Calls Try.prog 53 #[.slice (some ⟨b, i, none⟩) L C, .slice (some ⟨bp, op, none⟩) m cp, .int .u16 c, .func (.func 47) #[.pointer (some x)] #[], .func (.func 46) #[.pointer (some x)] #[]] w fun e w' =>
      (∃ v, e = .returned v) ∧ Wr w' b 0 N (fun k => if k < i then F k else xI (F k) (gI (P (k - i)) c)) ∧ Only b w w' := by
  have h := eachTimes_off b 0 i N L C bp op m cp x c F P w hN hmN hL (by omega) hF hP hPo hc0 hw hc
  rwa [Nat.zero_add] at h

theorem pm_step (t : Nat) (f g : Nat → Int) : pm (t + 1) f g = fun k => if k < t then pm t f g k else xI (pm t f g k) (gI (g (k - t)) (f t)) := rfl

theorem mk_row {n : Nat} (hn : n ≤ 4000) : ∀ (kl kc : IntKind) (w : World), (Instr.makeSlice 22 (.int kl (n : Int)) (.int kc (n : Int))).run Try.prog w = .ok (.slice (some ⟨w.heap.size, 0, none⟩) n n) (w.alloc (.cells (madeCells #[.int .u16 0] n) 29)) :=
  fun kl kc w => run_make_row' 22 29 (.int .u16 0) 2 Try.underlying22 info16 rfl kl kc n (by omega) (by omega) w

theorem mk_int (n : Nat) (z : Int) (e : z = n) (hn : n ≤ 4000) : ∀ (w : World), (Instr.makeSlice 22 (.int .i64 z) (.int .i64 z)).run Try.prog w = .ok (.slice (some ⟨w.heap.size, 0, none⟩) n n) (w.alloc (.cells (madeCells #[.int .u16 0] n) 29)) := by
  subst e
  exact mk_row hn .i64 .i64

theorem mulp_zero_l {f g : Nat → Int} (hg : P16 g) (hf : ∀ j, 0 ≤ j → f j = 0) : mulp f g = fun _ => 0 := (pm_mulp hg hf).symm
theorem pm_zero_r {g : Nat → Int} (f : Nat → Int) (hg : ∀ j, 0 ≤ j → g j = 0) (t : Nat) : pm t f g = fun _ => 0 := by
  induction t with
  | zero => rfl
  | succ t ih =>
    rw [pm_step, ih]
    funext k
    rw [hg _ (Nat.zero_le _), f12, f6 _ (Int.le_refl _)]
    simp
theorem mulp_zero_r {g : Nat → Int} (f : Nat → Int) (hg : ∀ j, 0 ≤ j → g j = 0) : mulp f g = fun _ => 0 := funext fun k => congrFun (pm_zero_r f hg (k + 1)) k

/-- Beyond the last places of both the product is 0. -/
theorem pm_out {f g : Nat → Int} {m : Nat} (hg : ∀ j, m ≤ j → g j = 0) (t : Nat) : ∀ k, t + m ≤ k + 1 → 0 < m → pm t f g k = 0 := by
  induction t with
  | zero => intro k _ _; rfl
  | succ t ih =>
    intro k hk hm
    rw [pm_step]
    show (if k < t then pm t f g k else _) = 0
    rw [if_neg (by omega), ih k (by omega) hm, hg (k - t) (by omega), f12, f6 _ (Int.le_refl _)]
theorem mulp_out {f g : Nat → Int} {n m : Nat} (hg16 : P16 g) (hf : ∀ j, n ≤ j → f j = 0) (hg : ∀ j, m ≤ j → g j = 0) (hm : 0 < m) : ∀ k, n + m ≤ k + 1 → mulp f g k = 0 := by
  intro k hk
  rw [← pm_mulp hg16 hf]
  exact pm_out hg n k hk hm
/-- The highest coefficient of a product. -/
theorem mulp_top {f g : Nat → Int} {n m : Nat} (hg16 : P16 g) (hf : ∀ j, n + 1 ≤ j → f j = 0) (hg : ∀ j, m + 1 ≤ j → g j = 0) : mulp f g (n + m) = gI (g m) (f n) := by
  rw [← pm_mulp hg16 hf, pm_step]
  show (if n + m < n then _ else xI (pm n f g (n + m)) (gI (g (n + m - n)) (f n))) = _
  rw [if_neg (by omega), pm_out hg n (n + m) (by omega) (by omega), show n + m - n = m from by omega, f1, f6 _ (g16 (hg16 m)).1]
theorem mulp_shr {f g : Nat → Int} {n m : Nat} (hf16 : P16 f) (hg16 : P16 g) (hf : Shr f (n + 1)) (hg : Shr g (m + 1)) : Shr (mulp f g) (n + m + 1) := by
  refine ⟨.inr ?_, fun j hj => mulp_out hg16 hf.2 hg.2 (by omega) j (by omega)⟩
  show mulp f g (n + m) ≠ 0
  rw [mulp_top hg16 hf.2 hg.2]
  have h1 : f n ≠ 0 := hf.1.resolve_left (by omega)
  have h2 : g m ≠ 0 := hg.1.resolve_left (by omega)
  exact f11 _ _ (hg16 m) (hf16 n) h2 h1

set_option maxRecDepth 100000 in
set_option maxHeartbeats 1000000 in
theorem pmul_any {w : World} {a a' : Option Addr} {n c n' c' : Nat} {f g : Nat → Int} (h : Sl w a n c f) (h' : Sl w a' n' c' g) (hn : n ≤ 1000) (hn' : n' ≤ 1000) :
    Calls Try.prog 44 #[.slice a n c, .slice a' n' c'] w fun e w' => ∃ a'' m c'', e = .returned (.slice a'' m c'') ∧ m ≤ n + n' ∧ Shr (mulp f g) m ∧ New w w' a'' m c'' (mulp f g) := by
  have hnil : (∀ j, 0 ≤ j → f j = 0) ∨ (∀ j, 0 ≤ j → g j = 0) → Shr (mulp f g) 0 ∧ New w w none 0 0 (mulp f g) := by
    intro hz
    have e : mulp f g = fun _ => 0 := hz.elim (mulp_zero_l h'.bd) (mulp_zero_r f)
    rw [e]
    exact ⟨⟨.inl rfl, fun _ _ => rfl⟩, ⟨fun _ => z16, fun _ _ => rfl, Nat.le_refl _, fun _ => rfl, .inl rfl⟩, Below.refl _ _, .inl rfl⟩
  have HN := hide hnil
  clear hnil
  go_enter Try.func44, Try.ntmps44
  go_wp2_with fail
  refine (cut_any h (by omega)).mono ?_
  rintro e w1 ⟨m, rfl, hm, hs, rfl⟩
  go_wp2_with fail
  refine (cut_any h' (by omega)).mono ?_
  rintro e w1 ⟨m', rfl, hm', hs', rfl⟩
  cases m with
  | zero =>
    go_wp2
    go_ret
    have := HN.out (.inl hs.2)
    exact ⟨none, 0, 0, rfl, Nat.zero_le _, this.1, this.2⟩
  | succ m =>
    cases m' with
    | zero =>
      go_wp2
      go_ret
      have := HN.out (.inr hs'.2)
      exact ⟨none, 0, 0, rfl, Nat.zero_le _, this.1, this.2⟩
    | succ m' =>
      have q1 : ((m : Int) + 1 == 0) = false := beq_no (by omega)
      have q2 : ((m' : Int) + 1 == 0) = false := beq_no (by omega)
      have hmk := mk_int (m + m' + 1) ((m : Int) + 1 + ((m' : Int) + 1) - 1) (by omega) (by omega)
      have hA := h.cut hm hs.2
      have hB := h'.cut hm' hs'.2
      obtain ⟨ba, oa, rfl, hba, hca⟩ := hA.at'.resolve_left (by omega)
      obtain ⟨bb, ob, rfl, hbb, hcb⟩ := hB.at'.resolve_left (by omega)
      go_wp2_with fail
      refine (new_any _).mono ?_
      rintro e w2 ⟨rfl, rfl⟩
      go_wp2_with fail
      have hbm : ba ≠ w1.heap.size + 1 := by omega
      have hbm' : bb ≠ w1.heap.size + 1 := by omega
      have hw0 := Wr.made (w1.alloc (.cells #[] 73)) (m + m' + 1)
      rw [World.size_alloc] at hw0
      have hbl0 : Below w1.heap.size w1 ((w1.alloc (.cells #[] 73)).alloc (.cells (madeCells #[.int .u16 0] (m + m' + 1)) 29)) := ((Below.refl _ _).alloc (Nat.le_refl _) _).alloc (by simp) _
      have HW0 := hide hw0
      have HB0 := hide hbl0
      clear hw0 hbl0
      go_loopw [7, 8, 31] (fun _ _ t wr => ∃ k : Nat, t = .int .i64 k ∧ k ≤ m + 1 ∧ Wr wr (w1.heap.size + 1) 0 (m + m' + 1) (pm k f g) ∧ Below w1.heap.size w1 wr) (fun _ _ t _ => m + 1 - (intOf t).toNat)
      case atStart => exact ⟨0, rfl, Nat.zero_le _, HW0.out, HB0.out⟩
      case round =>
        obtain ⟨k, rfl, hk, hwr, hbl⟩ := hrel
        by_cases hlt : k < m + 1
        · have hx : wr.cell? ⟨ba, oa + k, none⟩ = some (.int .u16 (f k)) := (hbl.cell (p := ⟨ba, oa + k, none⟩) hba).trans (hca k hlt)
          have hlt' : (k : Int) < (m : Int) + 1 := by omega
          have HW := hide hwr
          have HB := hide hbl
          clear hwr hbl
          go_wp2_with fail
          refine (eachTimes_any (w1.heap.size + 1) k (m + m' + 1) (m + m' + 1 - k) (m + m' + 1 - k) bb ob (m' + 1) c' _ (f k) (pm k f g) g wr (by omega) (by omega) (by omega) (.inl hbm') (pm16 hB.bd k) hB.bd hs'.2 (h.bd k) HW.out (fun j hj => (HB.out.cell (p := ⟨bb, ob + j, none⟩) hbb).trans (hcb j hj))).mono ?_
          rintro e w3 ⟨⟨v, rfl⟩, hw3, ho3⟩
          have HW3 := hide hw3
          have HO3 := hide ho3
          clear hw3 ho3
          go_wp2_with fail
          go_roundw
          case rel => exact ⟨k + 1, by go_num, by omega, HW3.out, HB.out.trans (HO3.out.below (by omega))⟩
          case measure => simp [intOf]; omega
        · obtain rfl : k = m + 1 := by omega
          have HW := hide hwr
          have HB := hide hbl
          clear hwr hbl
          go_wp2
          go_ret
          have hsh := mulp_shr h.bd h'.bd hs hs'
          have e : pm (m + 1) f g = mulp f g := pm_mulp h'.bd hs.2
          refine ⟨_, _, _, rfl, by omega, hsh, ?_⟩
          rw [e] at HW
          exact New.of_wr HW.out (by omega) HB.out (Nat.le_refl _) (mulp16 h'.bd) hsh.2

end Go.Proofs.Ytdbdidohldhnhaa
