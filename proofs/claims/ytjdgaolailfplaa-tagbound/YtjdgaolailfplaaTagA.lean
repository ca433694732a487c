/- A value of tag.Of that came in with a call, opened; a slot's row of four cells. No call is walked here. -/
import Derived.Test.YtjdgaolailfplaaTagW
import Derived.Lib.SmallJoins
import Derived.SizedLaws
import Derived.Laws.StructEq
namespace Go.Proofs.Ytjdgaolailfplaa
open Go.ChangeShapes Go.WideShapes Go.ChangeAt Go.RowKit Go.Deep Bk
set_option linter.unusedVariables false

theorem open_of {H : Type} {enc : TypeId × Value → H} {w : World} {base b0 : Nat} {spare : Nat → Bool} {held : Bool} {r : Reach} {v : Value} {d : DataW H} {p : List MemPlace}
    (hv : Value.okWide Try.prog w r b0 23 v) (h : DataW.Trod enc Try.prog w base spare held 23 v d p) : ∃ (i : ByteArray) (n m : Int) (t : ByteArray), v = .agg #[.string i, .int .i64 n, .int .i64 m, .string t] := by
  obtain ⟨v0, v1, v2, v3, y0, y1, y2, y3, n, rfl, _, _, h0, h1, h2, h3⟩ := Go.Joins.open_agg4 Try.underlying23 (by kernel_rfl) (by kernel_rfl) hv h
  obtain ⟨s0, e0, _⟩ := DataW.trod_string Try.underlying9 h0
  obtain ⟨n1, e1, _⟩ := DataW.trod_int Try.underlying3 h1
  obtain ⟨n2, e2, _⟩ := DataW.trod_int Try.underlying3 h2
  obtain ⟨s3, e3, _⟩ := DataW.trod_string Try.underlying9 h3
  simp only [List.cons.injEq, and_true] at e0 e1 e2 e3
  subst e0 e1 e2 e3
  exact ⟨s0, n1, n2, s3, rfl⟩
section
variable {P : Program} {ops : Array Oper} {Q : Exit → Act → World → Prop} {S : World → Prop} {s : Nat}
theorem ord_pureE {i : Nat} {o : Oper} {r : List (Nat × Option Bool)} {b : Bool} {a : Act} {w : World} (h0 : ops[i]? = some o) (hw : Region.wanted o (yielded ops a.tmps) = true)
    (h : ∃ v, (∀ w, (execOp a.eval o).run P w = .ok (.value v) w) ∧ wpOrd P ops Q S s r b (a.put o.dst v) w) : wpOrd P ops Q S s ((i, some true) :: r) b a w := by
  obtain ⟨v, hv, h⟩ := h
  exact ord_pure v h0 hw hv h
theorem ord_heldE {i : Nat} {o : Oper} {r : List (Nat × Option Bool)} {b : Bool} {a : Act} {w : World} (h0 : ops[i]? = some o) (hw : Region.wanted o (yielded ops a.tmps) = true)
    (h : ∃ v, (∀ w, S w → (execOp a.eval o).run P w = .ok (.value v) w) ∧ wpOrd P ops Q S s r b (a.put o.dst v) w) : wpOrd P ops Q S s ((i, some false) :: r) b a w := by
  obtain ⟨v, hv, h⟩ := h
  exact ord_held v h0 hw hv h
end
/-- The world behind the frame's own block of one such value, of two; its cells, in whatever world comes of it. -/
theorem of_world (w : World) (i : ByteArray) (n m : Int) (t : ByteArray) : ∃ W, w.alloc (.cells #[.string i, .int .i64 n, .int .i64 m, .string t] 23) = W ∧ Below w.heap.size w W ∧
    ∀ x : World, Below W.heap.size W x → x.cell? ⟨w.heap.size, 0, none⟩ = some (.string i) ∧ x.cell? ⟨w.heap.size, 1, none⟩ = some (.int .i64 n) ∧ x.cell? ⟨w.heap.size, 2, none⟩ = some (.int .i64 m) ∧ x.cell? ⟨w.heap.size, 3, none⟩ = some (.string t) := by
  refine ⟨_, rfl, (Below.refl _ w).alloc (Nat.le_refl _) _, fun x hx => ?_⟩
  have hR := (Row.newL w [.string i, .int .i64 n, .int .i64 m, .string t] 23).below hx (by simp)
  have h0 := hR.at' (j := 0) rfl
  have h1 := hR.at' (j := 1) rfl
  have h2 := hR.at' (j := 2) rfl
  have h3 := hR.at' (j := 3) rfl
  rw [Nat.zero_add] at h0 h1 h2 h3
  exact ⟨h0, h1, h2, h3⟩
theorem of_world2 (w : World) (i : ByteArray) (n m : Int) (t : ByteArray) (j : ByteArray) (p q : Int) (u : ByteArray) : ∃ W, (w.alloc (.cells #[.string i, .int .i64 n, .int .i64 m, .string t] 23)).alloc (.cells #[.string j, .int .i64 p, .int .i64 q, .string u] 23) = W ∧ Below w.heap.size w W ∧
    ∀ x : World, Below W.heap.size W x → x.cell? ⟨w.heap.size, 0, none⟩ = some (.string i) ∧ x.cell? ⟨w.heap.size, 1, none⟩ = some (.int .i64 n) ∧ x.cell? ⟨w.heap.size, 2, none⟩ = some (.int .i64 m) ∧ x.cell? ⟨w.heap.size, 3, none⟩ = some (.string t) ∧
      x.cell? ⟨w.heap.size + 1, 0, none⟩ = some (.string j) ∧ x.cell? ⟨w.heap.size + 1, 1, none⟩ = some (.int .i64 p) ∧ x.cell? ⟨w.heap.size + 1, 2, none⟩ = some (.int .i64 q) ∧ x.cell? ⟨w.heap.size + 1, 3, none⟩ = some (.string u) := by
  obtain ⟨V, eV, hV, hc⟩ := of_world w i n m t
  obtain ⟨W, eW, hW, hd⟩ := of_world V j p q u
  have hs : V.heap.size = w.heap.size + 1 := by rw [← eV]; simp
  rw [hs] at hd
  rw [eV, eW]
  refine ⟨_, rfl, hV.trans (hW.mono hV.size), fun x hx => ?_⟩
  obtain ⟨h0, h1, h2, h3⟩ := hc x (hW.trans (hx.mono hW.size))
  obtain ⟨k0, k1, k2, k3⟩ := hd x hx
  exact ⟨h0, h1, h2, h3, k0, k1, k2, k3⟩

set_option maxRecDepth 10000 in
theorem of_eq (i : ByteArray) (n m : Int) (t : ByteArray) (j : ByteArray) (p q : Int) (u : ByteArray) (w : World) : (binOp .eql 23 (.agg #[.string i, .int .i64 n, .int .i64 m, .string t]) (.agg #[.string j, .int .i64 p, .int .i64 q, .string u])).run Try.prog w = .ok (.bool (i.toList == j.toList && (n == p && (m == q && t.toList == u.toList)))) w := by
  go_simp
  by_cases h1 : i.toList = j.toList
  · by_cases h2 : n = p
    · by_cases h3 : m = q
      · by_cases h4 : t.toList = u.toList <;> simp [h1, h2, h3, h4]
      · simp [h1, h2, h3]
    · simp [h1, h2]
  · simp [h1]
theorem of_ne {i j : ByteArray} {n m p q : Int} {t u : ByteArray} (h : ¬ (i = j ∧ n = p ∧ m = q ∧ t = u)) (w : World) : (binOp .eql 23 (.agg #[.string i, .int .i64 n, .int .i64 m, .string t]) (.agg #[.string j, .int .i64 p, .int .i64 q, .string u])).run Try.prog w = .ok (.bool false) w := by
  have e : (i.toList == j.toList && (n == p && (m == q && t.toList == u.toList))) = false := by
    rw [toList_beq, toList_beq, ← Bool.not_eq_true]
    intro k
    simp at k
    exact h ⟨k.1.symm, k.2.1, k.2.2.1, k.2.2.2.symm⟩
  rw [of_eq, e]
theorem ois_ok {i : ByteArray} {n m : Int} {t : ByteArray} (h : okOf i n m) (u : ByteArray) : ois i n m t u = (u.toList == (omk i n m t).toList) := by
  unfold ois; rw [decide_eq_true h, Bool.true_and, toList_beq]
theorem ois_no {i : ByteArray} {n m : Int} {t : ByteArray} (h : ¬ okOf i n m) (u : ByteArray) : ois i n m t u = false := by
  unfold ois; rw [decide_eq_false h, Bool.false_and]
theorem ois_self {i : ByteArray} {n m : Int} {t : ByteArray} (h : okOf i n m) : ois i n m t (omk i n m t) = true := by
  rw [ois_ok h]; simp
theorem ois_size {i : ByteArray} {n m : Int} {t u : ByteArray} (h : u.size ≠ 8) : ois i n m t u = false := by
  unfold ois
  by_cases ho : okOf i n m
  · have h2 : ¬ omk i n m t = u := fun e => h (by rw [← e]; exact omk_size ho)
    rw [decide_eq_false h2, Bool.and_false]
  · rw [decide_eq_false ho, Bool.false_and]
/-- What the parts of a text are, byte by byte. -/
theorem otx_head {i : ByteArray} {n m : Int} {t : ByteArray} (h : okOf i n m) : (otx i n m t).extract 0 16 = i := by
  apply sb_inj
  rw [otx_ok h, sb_extract, sb_mk, List.drop_zero]
  have : (sb i).length = 16 := by rw [sb_length]; exact h.1
  simp [txl, this]
theorem otx_tail {i : ByteArray} {n m : Int} {t : ByteArray} (h : okOf i n m) : (otx i n m t).extract 20 (otx i n m t).size = t := by
  apply sb_inj
  rw [sb_extract, otx_size h, otx_ok h, sb_mk]
  have h16 : (sb i).length = 16 := by rw [sb_length]; exact h.1
  have e : txl i n m t = (sb i ++ tb n.toNat ++ tb m.toNat) ++ sb t := rfl
  have h20 : (sb i ++ tb n.toNat ++ tb m.toNat).length = 20 := by simp [tb, h16]
  rw [e, List.drop_append_of_le_length (by omega), List.drop_of_length_le (by omega), List.nil_append]
  exact List.take_of_length_le (by rw [sb_length]; omega)
theorem otx_at {i : ByteArray} {n m : Int} {t : ByteArray} (h : okOf i n m) : by' (sb (otx i n m t)) 16 = n.toNat / 256 ∧ by' (sb (otx i n m t)) 17 = n.toNat % 256 ∧ by' (sb (otx i n m t)) 18 = m.toNat / 256 ∧ by' (sb (otx i n m t)) 19 = m.toNat % 256 := by
  have h16 : (sb i).length = 16 := by rw [sb_length]; exact h.1
  have k1 : n.toNat ≤ 65535 := by have := h.2.1; omega
  have k2 : m.toNat ≤ 65535 := by have := h.2.2; omega
  rw [otx_ok h, sb_mk]
  have e : ∀ k, by' (txl i n m t) (16 + k) = by' (tb n.toNat ++ tb m.toNat ++ sb t) k := by
    intro k
    unfold by' txl
    rw [List.append_assoc, List.append_assoc, List.append_assoc, List.getD_eq_getElem?_getD, List.getElem?_append_right (by omega), h16, Nat.add_sub_cancel_left, List.getD_eq_getElem?_getD]
  refine ⟨(e 0).trans ?_, (e 1).trans ?_, (e 2).trans ?_, (e 3).trans ?_⟩ <;> simp [by', tb] <;> omega
/-- The text of what may be tells all its parts. -/
theorem otx_inj {i j : ByteArray} {n m p q : Int} {t u : ByteArray} (h : okOf i n m) (k : okOf j p q) (e : otx i n m t = otx j p q u) : i = j ∧ n = p ∧ m = q ∧ t = u := by
  have a := otx_at (t := t) h
  have b := otx_at (t := u) k
  have h1 := h.2.1
  have h2 := h.2.2
  have k1 := k.2.1
  have k2 := k.2.2
  rw [e] at a
  refine ⟨?_, by omega, by omega, ?_⟩
  · rw [← otx_head (t := t) h, e, otx_head k]
  · have h9 := otx_tail (t := t) h
    rw [e, otx_tail k] at h9
    exact h9.symm
end Go.Proofs.Ytjdgaolailfplaa
