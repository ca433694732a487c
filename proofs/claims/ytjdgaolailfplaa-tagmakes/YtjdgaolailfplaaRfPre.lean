/- The document's Keyed, walked: what is refused; rows. -/
import Derived.Test.YtjdgaolailfplaaRfMath5
namespace Go.Proofs.Ytjdgaolailfplaa
open Go.RowKit Bk
set_option linter.unusedVariables false
set_option linter.unusedSimpArgs false

set_option maxRecDepth 100000 in
set_option maxHeartbeats 4000000 in
theorem rfkeyed_bad (k s : ByteArray) (w : World) (hk : 32 < k.size) (hk2 : k.size < 2305843009213693952) : Calls Try.prog 23 #[.string k, .string s] w fun e w' => e = .returned (.tuple #[.string ⟨#[]⟩, .int .i64 1]) ∧ w' = w := by
  have h1 : (32 : Int) < (k.size : Int) := by omega
  go_enter Try.func23, Try.ntmps23
  go_wp2
  go_ret2
  exact ⟨rfl, rfl⟩
theorem own_row {w : World} {base n : Nat} {v : Value} {xs : List Value} (h : w.ownsRow base 54 1 v n xs) (hn : 0 < n) : ∃ g cap, v = .slice (some ⟨g, 0, none⟩) n cap ∧ base ≤ g ∧ n ≤ cap ∧ Row w g 0 xs := by
  rcases h.2 with ⟨_, h0⟩ | ⟨g, cap, cur, rfl, hg, hgb, hc, hm, hs, ht⟩
  · omega
  · have hx := h.1
    refine ⟨g, cap, rfl, hg, hc, ?_⟩
    have hlt : g < w.heap.size := (Array.getElem?_eq_some_iff.1 hgb).1
    refine ⟨hlt, fun j v hj => ?_, fun j hj => ?_⟩
    · rw [cell_of_row _ _ _ _ _ _ hgb, Nat.zero_add]
      have h9 : (cur.toList.take (n * 1))[j]? = some v := by rw [ht]; exact hj
      have hj' : j < n * 1 := by
        have := (List.getElem?_eq_some_iff.1 hj).1
        omega
      rw [List.getElem?_take_of_lt hj', Array.getElem?_toList] at h9
      exact h9
    · unfold World.frozen?
      rw [hgb]
      simp
theorem Below.rows {w w' : World} {g : Nat} {xs : List Value} {B : Nat} (h : Row w g 0 xs) (k : Below B w w') (hg : g < B) : Row w' g 0 xs := h.below k hg
section
variable {P : Program} {ops : Array Oper} {Q : Exit → Act → World → Prop} {S : World → Prop} {s : Nat}
theorem ord_appendO {i : Nat} {o : Oper} {r : List (Nat × Option Bool)} {bb : Bool} {a : Act} {w : World} (h0 : ops[i]? = some o) (hg : o.guard = none) (d x : Operand) (t tx : TypeId) (ho : o.op = .call { callee := .builtin .append, args := #[d, x], argTypes := #[t, tx] }) (e : TypeId) (ht : P.underlying t = some (.slice e)) {z : Value} {bytes : Nat}
    (hinfo : (P.info? e).map (fun i => (i.zero, i.size, i.bytes)) = some (some z, 1, bytes)) (hb : bytes ≤ 16) (hz1 : z.cells.size = 1) {B n m : Nat} {v xv : Value} {xs news : List Value} (hd : a.eval d = v) (hx : a.eval x = xv) (hO : Ow w B v n xs) (hsrc : Src P 1 tx xv m news w)
    (hnm : n + m ≤ 1000000) (hB : B ≤ w.heap.size) (h1 : ∀ u ∈ xs, u.oneCell' = true)
    (h : ∀ v' w', Ow w' B v' (n + m) (xs ++ news) → Below B w w' → (ahead s i bb = true → S w') ∧ wpOrd P ops Q S s r (ahead s i bb) (a.put o.dst v') w') : wpOrd P ops Q S s ((i, none) :: r) bb a w :=
  ord_go h0 fun K hK => by
    rw [if_pos (by unfold Region.wanted; rw [hg])]
    obtain ⟨v', w', hrun, hOw, hBl⟩ := run_appendO (P := P) w t tx o.type e ht hinfo hb hz1 hO hsrc hnm hB h1
    have hk := h v' w' hOw hBl
    unfold Oper.wp
    simp [execOp, ho, resolve, invoke, builtin, hd, hx, hrun, Result.andThen]
    exact hK.out _ _ hk.1 hk.2
end
/-- The rows of places, as strings. -/
def pstr (r : Nat) : ByteArray := ⟨(prow r).toArray⟩
def pstrs : List Value := (List.range 10).map fun r => Value.string (pstr r)
set_option maxRecDepth 100000 in
set_option maxHeartbeats 4000000 in
theorem rfplaces_any (w : World) : Calls Try.prog 31 #[] w fun e w' => e = .returned (.slice (some ⟨w.heap.size, 0, none⟩) 10 10) ∧ Row w' w.heap.size 0 pstrs ∧ Below w.heap.size w w' := by
  have hp : pstrs = ([.string ⟨#[48, 49, 50, 51, 52, 53, 54, 55, 56, 57, 97, 98, 99, 100, 101, 102]⟩, .string ⟨#[101, 97, 52, 56, 57, 102, 100, 54, 49, 99, 48, 50, 98, 55, 53, 51]⟩, .string ⟨#[98, 56, 99, 48, 53, 50, 102, 100, 97, 101, 51, 54, 55, 49, 57, 52]⟩, .string ⟨#[55, 57, 51, 49, 100, 99, 98, 101, 50, 54, 53, 97, 52, 48, 102, 56]⟩, .string ⟨#[57, 48, 53, 55, 50, 52, 97, 102, 101, 49, 98, 99, 54, 56, 51, 100]⟩, .string ⟨#[50, 99, 54, 97, 48, 98, 56, 51, 52, 100, 55, 53, 102, 101, 49, 57]⟩, .string ⟨#[99, 53, 49, 102, 101, 100, 52, 97, 48, 55, 54, 51, 57, 50, 56, 98]⟩, .string ⟨#[100, 98, 55, 101, 99, 49, 51, 57, 53, 48, 102, 52, 56, 54, 50, 97]⟩, .string ⟨#[54, 102, 101, 57, 98, 51, 48, 56, 99, 50, 100, 55, 49, 52, 97, 53]⟩, .string ⟨#[97, 50, 56, 52, 55, 54, 49, 53, 102, 98, 57, 101, 51, 99, 100, 48]⟩] : List Value) := by kernel_rfl
  have hr := Row.newL w ([.string ⟨#[48, 49, 50, 51, 52, 53, 54, 55, 56, 57, 97, 98, 99, 100, 101, 102]⟩, .string ⟨#[101, 97, 52, 56, 57, 102, 100, 54, 49, 99, 48, 50, 98, 55, 53, 51]⟩, .string ⟨#[98, 56, 99, 48, 53, 50, 102, 100, 97, 101, 51, 54, 55, 49, 57, 52]⟩, .string ⟨#[55, 57, 51, 49, 100, 99, 98, 101, 50, 54, 53, 97, 52, 48, 102, 56]⟩, .string ⟨#[57, 48, 53, 55, 50, 52, 97, 102, 101, 49, 98, 99, 54, 56, 51, 100]⟩, .string ⟨#[50, 99, 54, 97, 48, 98, 56, 51, 52, 100, 55, 53, 102, 101, 49, 57]⟩, .string ⟨#[99, 53, 49, 102, 101, 100, 52, 97, 48, 55, 54, 51, 57, 50, 56, 98]⟩, .string ⟨#[100, 98, 55, 101, 99, 49, 51, 57, 53, 48, 102, 52, 56, 54, 50, 97]⟩, .string ⟨#[54, 102, 101, 57, 98, 51, 48, 56, 99, 50, 100, 55, 49, 52, 97, 53]⟩, .string ⟨#[97, 50, 56, 52, 55, 54, 49, 53, 102, 98, 57, 101, 51, 99, 100, 48]⟩] : List Value) 9
  have HB := hide ((Below.refl _ w).alloc (Nat.le_refl _) (.cells #[.string ⟨#[48, 49, 50, 51, 52, 53, 54, 55, 56, 57, 97, 98, 99, 100, 101, 102]⟩, .string ⟨#[101, 97, 52, 56, 57, 102, 100, 54, 49, 99, 48, 50, 98, 55, 53, 51]⟩, .string ⟨#[98, 56, 99, 48, 53, 50, 102, 100, 97, 101, 51, 54, 55, 49, 57, 52]⟩, .string ⟨#[55, 57, 51, 49, 100, 99, 98, 101, 50, 54, 53, 97, 52, 48, 102, 56]⟩, .string ⟨#[57, 48, 53, 55, 50, 52, 97, 102, 101, 49, 98, 99, 54, 56, 51, 100]⟩, .string ⟨#[50, 99, 54, 97, 48, 98, 56, 51, 52, 100, 55, 53, 102, 101, 49, 57]⟩, .string ⟨#[99, 53, 49, 102, 101, 100, 52, 97, 48, 55, 54, 51, 57, 50, 56, 98]⟩, .string ⟨#[100, 98, 55, 101, 99, 49, 51, 57, 53, 48, 102, 52, 56, 54, 50, 97]⟩, .string ⟨#[54, 102, 101, 57, 98, 51, 48, 56, 99, 50, 100, 55, 49, 52, 97, 53]⟩, .string ⟨#[97, 50, 56, 52, 55, 54, 49, 53, 102, 98, 57, 101, 51, 99, 100, 48]⟩] 9))
  have HR := hide hr
  rw [hp]
  clear hr hp
  go_enter Try.func31, Try.ntmps31
  go_wp2
  go_ret
  exact ⟨rfl, HR.out, HB.out⟩
theorem pstr_idx (r j : Nat) (hj : j < 16) (w : World) : (Instr.index 9 (.string (pstr r)) (.int .i64 (j : Int))).run Try.prog w = .ok (.int .u8 ((dch (at' rows (16 * r + j)) : Nat) : Int)) w := by
  have hl : (pstr r).size = 16 := by rw [← sb_length]; simp [pstr, sb_mk, prow]
  rw [idx_str (pstr r) j (by omega) w]
  show Result.ok (Value.int .u8 ((by' (prow r) j : Nat) : Int)) w = _
  rw [prow_at r j hj]
theorem kd_pad (k s : ByteArray) (hk : 0 < k.size) (hk2 : k.size ≤ 64) : (sb k ++ List.replicate (64 - k.size) 0) ++ sb s = kd (sb k) (sb s) := by
  unfold kd; rw [if_neg (by rw [sb_length]; omega), sb_length]

end Go.Proofs.Ytjdgaolailfplaa
