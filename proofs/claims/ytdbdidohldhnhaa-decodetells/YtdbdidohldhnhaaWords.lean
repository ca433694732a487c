/- append of one row of numbers of 16 bits to a row that the call itself made; data and their checks as one word. -/
import Derived.Test.YtdbdidohldhnhaaLits
import Derived.Laws.OwnMore
namespace Go.Proofs.Ytdbdidohldhnhaa
open Go.RowKit Gf
set_option linter.unusedVariables false

theorem vals_cat (f g : Nat → Int) (n m : Nat) : vals f n ++ vals g m = vals (cat n f g) (n + m) := by
  apply List.ext_getElem?
  intro j
  by_cases h : j < n
  · rw [List.getElem?_append_left (by rw [vals_length]; exact h), vals_get f n j h, vals_get _ _ j (by omega)]
    unfold cat
    rw [if_pos h]
  · rw [List.getElem?_append_right (by rw [vals_length]; omega), vals_length]
    by_cases h2 : j < n + m
    · rw [vals_get g m _ (by omega), vals_get _ _ j h2]
      unfold cat
      rw [if_neg h]
    · rw [List.getElem?_eq_none (by rw [vals_length]; omega), List.getElem?_eq_none (by rw [vals_length]; omega)]

/-- append of a row to one of the call's own. -/
theorem append_sl {ops : Array Oper} {rest : List Oper} {o : Oper} {a : Act} {Q : Exit → Act → World → Prop} {w : World} (hgd : o.guard = none) (s x : Operand)
    (ho : o.op = .call { callee := .builtin .append, args := #[s, x], argTypes := #[22, 22] }) (B : Nat) (v : Value) (n : Nat) (f : Nat → Int) (hs : a.eval s = v) (hown : w.ownsRow B 29 1 v n (vals f n))
    (ap : Option Addr) (m c : Nat) (g : Nat → Int) (hx : a.eval x = .slice ap m c) (hS : Sl w ap m c g) (hnm : n + m ≤ 4000) (hB : B ≤ w.heap.size) (w0 : World) (hb : Below B w0 w)
    (h : ∀ v' w', w'.ownsRow B 29 1 v' (n + m) (vals (cat n f g) (n + m)) → Below B w0 w' → wpList Try.prog ops Q rest (a.put o.dst v') w') : wpList Try.prog ops Q (o :: rest) a w := by
  obtain ⟨i0, hi, hz0, hz1, hz2⟩ := info_parts info16
  cases ap with
  | none =>
    obtain rfl := hS.nil rfl
    have := hS.cap
    obtain rfl : m = 0 := by omega
    refine wpList_plain hgd fun K hK => ?_
    have hrun := run_append_owned_none (P := Try.prog) w B 22 o.type 29 i0 1 Try.underlying22 hi v n _ hown
    unfold Oper.wp
    simp [execOp, ho, resolve, invoke, builtin, hs, hx, hrun, Result.andThen]
    refine hK _ _ (h v w ?_ hb)
    rw [← vals_cat, show vals g 0 = [] from rfl, List.append_nil]
    exact hown
  | some ad =>
    refine wpList_append_own w hgd s x 22 ho B 29 i0 (.int .u16 0) 1 2 Try.underlying22 hi hz0 hz1 hz2 rfl (by decide) v n (vals f n) hs hown ad m c (vals g m) hx (by rw [vals_length, Nat.mul_one]) (fun j u hu => ?_) (fun u hu => vals_one hu) (by unfold maxLen; omega) (by omega) hB (fun v' w' hown' hgrow _ => ?_)
    · have hj : j < m := by
        have := (List.getElem?_eq_some_iff.1 hu).1
        rwa [vals_length] at this
      obtain ⟨b, off, e, hbl, hc⟩ := hS.at'.resolve_left (by omega)
      cases e
      rw [vals_get g m j hj] at hu
      cases hu
      rw [add_at]
      exact hc j hj
    · rw [vals_cat] at hown'
      refine h v' w' hown' (hb.grown hgrow hB (fun k e => ?_))
      rcases hown.2 with ⟨rfl, rfl⟩ | ⟨g', cap, cur, rfl, hg', _⟩
      · cases e
      · cases e; exact hg'
/-- A row that holds nothing yet. -/
theorem owns_nil (w : World) (f : Nat → Int) : (w.alloc (.cells #[] 29)).ownsRow w.heap.size 29 1 (.slice (some ⟨w.heap.size, 0, none⟩) 0 0) 0 (vals f 0) :=
  ⟨rfl, .inr ⟨w.heap.size, 0, #[], rfl, Nat.le_refl _, Go.Deep.blk_alloc_new w _, Nat.le_refl _, by decide, rfl, rfl⟩⟩
theorem cat_nil (f g : Nat → Int) : cat 0 f g = g := rfl
theorem cat_out {n m : Nat} {f g : Nat → Int} (hg : ∀ j, m ≤ j → g j = 0) : ∀ j, n + m ≤ j → cat n f g j = 0 := fun j hj => by
  unfold cat
  rw [if_neg (by omega)]
  exact hg _ (by omega)

theorem Sl.take {w : World} {a : Option Addr} {n c m : Nat} {f g : Nat → Int} (h : Sl w a n c f) (hm : m ≤ n) (hg : ∀ j, j < m → f j = g j) (out : ∀ j, m ≤ j → g j = 0) : Sl w a m c g := by
  refine ⟨fun j => ?_, out, Nat.le_trans hm h.cap, h.nil, ?_⟩
  · by_cases hj : j < m
    · rw [← hg j hj]; exact h.bd j
    · rw [out j (by omega)]; exact z16
  · rcases h.at' with h0 | ⟨b, off, ha, hb, hc⟩
    · exact .inl (by omega)
    · exact .inr ⟨b, off, ha, hb, fun j hj => by rw [hc j (by omega), hg j hj]⟩
theorem made_vals (k : Nat) : (madeCells #[Value.int .u16 0] k).toList.take (k * 1) = vals nul k := by
  rw [Nat.mul_one]
  apply List.ext_getElem?
  intro j
  by_cases hj : j < k
  · rw [List.getElem?_take, if_pos hj, vals_get nul k j hj]
    simp [madeCells, hj, Nat.mod_one, nul]
  · rw [List.getElem?_eq_none (by simp [size_madeCells]; omega), List.getElem?_eq_none (by rw [vals_length]; omega)]
theorem owns_made (w : World) (k : Nat) (hk : k ≤ 1000) : (w.alloc (.cells (madeCells #[.int .u16 0] k) 29)).ownsRow w.heap.size 29 1 (.slice (some ⟨w.heap.size, 0, none⟩) k k) k (vals nul k) :=
  ⟨by simp [vals_length], .inr ⟨w.heap.size, k, _, rfl, Nat.le_refl _, Go.Deep.blk_alloc_new w _, Nat.le_refl _, by unfold maxLen; omega, by simp [size_madeCells], made_vals k⟩⟩
theorem mod_ex (m : Nat) (hm : 0 < m) (hm' : m ≤ 1000) (n : Int) : ∃ k : Nat, wrap64 ((IntKind.u64.wrap n).tmod (m : Int)) = (k : Int) ∧ k < m := by
  have h0 : 0 ≤ IntKind.u64.wrap n := by
    show 0 ≤ n % 18446744073709551616
    exact Int.emod_nonneg _ (by decide)
  have h1 : (IntKind.u64.wrap n).tmod (m : Int) = IntKind.u64.wrap n % (m : Int) := Int.tmod_eq_emod_of_nonneg h0
  have h2 : 0 ≤ IntKind.u64.wrap n % (m : Int) := Int.emod_nonneg _ (by omega)
  have h3 : IntKind.u64.wrap n % (m : Int) < (m : Int) := Int.emod_lt_of_pos _ (by omega)
  refine ⟨(IntKind.u64.wrap n % (m : Int)).toNat, ?_, by omega⟩
  rw [h1]
  unfold wrap64
  omega

end Go.Proofs.Ytdbdidohldhnhaa
