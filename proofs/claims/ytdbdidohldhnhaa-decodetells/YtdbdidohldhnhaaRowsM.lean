/- Rows of rows that a call makes, one row behind another; the document's own erased. For words of at most 255 symbols. -/
import Derived.Test.YtdbdidohldhnhaaSolve
import Derived.Test.YtdbdidohldhnhaaPlaces
namespace Go.Proofs.Ytdbdidohldhnhaa
open Go.RowKit Gf
set_option linter.unusedVariables false

theorem infoR : (Try.prog.info? 22).map (fun i => (i.zero, i.size, i.bytes)) = some (some (.slice none 0 0), 1, 24) := by kernel_rfl
theorem owns_mono {w : World} {base base' : Nat} {e : TypeId} {size : Nat} {v : Value} {n : Nat} {xs : List Value} (h : w.ownsRow base e size v n xs) (hb : base' ≤ base) : w.ownsRow base' e size v n xs := by
  refine ⟨h.1, ?_⟩
  rcases h.2 with h0 | ⟨g, cap, cur, rfl, hg, r⟩
  · exact .inl h0
  · exact .inr ⟨g, cap, cur, rfl, by omega, r⟩
/-- Rows of unlike kinds lie apart. -/
theorem owns_ne {w : World} {b1 b2 : Nat} {e1 e2 : TypeId} {s1 s2 : Nat} {v1 v2 : Value} {n1 n2 : Nat} {x1 x2 : List Value} (h1 : w.ownsRow b1 e1 s1 v1 n1 x1) (h2 : w.ownsRow b2 e2 s2 v2 n2 x2) (hne : e1 ≠ e2) : v1.ownBlock = none ∨ v1.ownBlock ≠ v2.ownBlock := by
  rcases h1.2 with ⟨rfl, _⟩ | ⟨g, cap, cur, rfl, _, hg, _⟩
  · exact .inl rfl
  · right
    rcases h2.2 with ⟨rfl, _⟩ | ⟨g', cap', cur', rfl, _, hg', _⟩
    · intro h; cases h
    · intro h
      have e : g = g' := by simpa [Value.ownBlock] using h
      rw [e, hg'] at hg
      injection hg with hg
      injection hg with _ h9
      exact hne h9.symm
/-- A row that is not empty, as it lies. -/
theorem owns_at {w : World} {base : Nat} {v : Value} {n : Nat} {f : Nat → Int} (h : w.ownsRow base 29 1 v n (vals f n)) (hn : 0 < n) : ∃ g cap, v = .slice (some ⟨g, 0, none⟩) n cap ∧ base ≤ g ∧ n ≤ cap ∧ Wr w g 0 n f := by
  rcases h.2 with ⟨_, h0⟩ | ⟨g, cap, cur, rfl, hg, hgb, hnc, _, _, ht⟩
  · omega
  · refine ⟨g, cap, rfl, hg, hnc, (Array.getElem?_eq_some_iff.1 hgb).1, fun j hj => ?_, fun j hj => by simp only [World.frozen?, hgb]; simp⟩
    have h1 := vals_get f n j hj
    rw [← ht, List.getElem?_take, if_pos (by omega)] at h1
    rw [Nat.zero_add]
    simp only [World.cell?, hgb]
    rw [← h1]
    simp
/-- The rows as values. -/
def rvs (N : Nat) (bl cp : Nat → Nat) (j : Nat) : List Value := (List.range j).map fun i => Value.slice (some ⟨bl i, 0, none⟩) N (cp i)
theorem rvs_get (N : Nat) (bl cp : Nat → Nat) (j i : Nat) (hi : i < j) : (rvs N bl cp j)[i]? = some (.slice (some ⟨bl i, 0, none⟩) N (cp i)) := by simp [rvs, hi]
/-- j rows of N numbers, made so far. -/
structure Rws (B : Nat) (w : World) (l : Value) (j N : Nat) (bl cp : Nat → Nat) (M : Nat → Nat → Int) : Prop where
  own : w.ownsRow B 22 1 l j (rvs N bl cp j)
  row : ∀ i, i < j → w.ownsRow B 29 1 (.slice (some ⟨bl i, 0, none⟩) N (cp i)) N (vals (M i) N)
  inj : ∀ i k, i < j → k < j → bl i = bl k → i = k
theorem Rws.nil (B : Nat) (w : World) (N : Nat) (bl cp : Nat → Nat) (M : Nat → Nat → Int) : Rws B w (.slice none 0 0) 0 N bl cp M := ⟨World.ownsRow_nil _ _ _ _, fun i hi => by omega, fun i k hi => by omega⟩
theorem Rws.below {B : Nat} {w w' : World} {l : Value} {j N : Nat} {bl cp : Nat → Nat} {M : Nat → Nat → Int} (h : Rws B w l j N bl cp M) (hb : Below w.heap.size w w') : Rws B w' l j N bl cp M :=
  ⟨owns_below h.own hb, fun i hi => owns_below (h.row i hi) hb, h.inj⟩
theorem Rws.drew {B : Nat} {w : World} {l : Value} {j N : Nat} {bl cp : Nat → Nat} {M : Nat → Nat → Int} (h : Rws B w l j N bl cp M) : Rws B w.drew l j N bl cp M := ⟨h.own, h.row, h.inj⟩
/-- One row more. -/
theorem append_row {ops : Array Oper} {rest : List Oper} {o : Oper} {a : Act} {Q : Exit → Act → World → Prop} {w : World} (hgd : o.guard = none) (s x : Operand)
    (ho : o.op = .call { callee := .builtin .append, args := #[s, x], argTypes := #[50, 50] }) (B : Nat) (l : Value) (j N g c : Nat) (bl cp : Nat → Nat) (M : Nat → Nat → Int) (f : Nat → Int) (hs : a.eval s = l) (hR : Rws B w l j N bl cp M) (ad : Addr)
    (hx : a.eval x = .slice (some ad) 1 1) (hc : w.cell? ad = some (.slice (some ⟨g, 0, none⟩) N c)) (hrow : w.ownsRow B 29 1 (.slice (some ⟨g, 0, none⟩) N c) N (vals f N)) (hfr : ∀ i, i < j → bl i ≠ g) (hj : j ≤ 1000) (hN : 0 < N) (hB : B ≤ w.heap.size) (w0 : World) (hb : Below B w0 w)
    (h : ∀ v' w' bl' cp' M', Rws B w' v' (j + 1) N bl' cp' M' → (∀ i, i < j → M' i = M i) → M' j = f → Below B w0 w' → wpList Try.prog ops Q rest (a.put o.dst v') w') : wpList Try.prog ops Q (o :: rest) a w := by
  obtain ⟨i0, hi, hz0, hz1, hz2⟩ := info_parts infoR
  refine wpList_append_own w hgd s x 50 ho B 22 i0 (.slice none 0 0) 1 24 Try.underlying50 hi hz0 hz1 hz2 rfl (by decide) l j (rvs N bl cp j) hs hR.own ad 1 1 [.slice (some ⟨g, 0, none⟩) N c] hx rfl (fun k u hu => ?_) (fun u hu => by simp at hu; subst hu; rfl) (by unfold maxLen; omega) (by omega) hB (fun v' w' hown' hgrow _ => ?_)
  · have hk : k = 0 := by
      have := (List.getElem?_eq_some_iff.1 hu).1
      simp at this
      exact this
    subst hk
    have : ad.add 0 = ad := by unfold Addr.add; split <;> simp_all
    rw [this]
    simp at hu
    rw [hc, hu]
  · have hlt := fun k e => (hR.own.lt k e).1
    refine h v' w' (fun i => if i < j then bl i else g) (fun i => if i < j then cp i else c) (fun i => if i < j then M i else f) ⟨?_, fun i hi => ?_, fun i k hi hk e => ?_⟩ (fun i hi => if_pos hi) (if_neg (by omega)) (hb.grown hgrow hB hlt)
    · have e : rvs N (fun i => if i < j then bl i else g) (fun i => if i < j then cp i else c) (j + 1) = rvs N bl cp j ++ [.slice (some ⟨g, 0, none⟩) N c] := by
        unfold rvs
        rw [List.range_succ, List.map_append]
        congr 1
        · refine List.map_congr_left fun i hi => ?_
          have : i < j := by simpa using hi
          show Value.slice (some ⟨if i < j then bl i else g, 0, none⟩) N (if i < j then cp i else c) = _
          rw [if_pos this, if_pos this]
        · simp
      rw [e]
      exact hown'
    · by_cases e : i < j
      · rw [if_pos e, if_pos e, if_pos e]
        exact (hR.row i e).kept hgrow (owns_ne (hR.row i e) hR.own (by decide))
      · rw [if_neg e, if_neg e, if_neg e]
        exact hrow.kept hgrow (owns_ne hrow hR.own (by decide))
    · by_cases e1 : i < j
      · by_cases e2 : k < j
        · have e' : (if i < j then bl i else g) = (if k < j then bl k else g) := e
          rw [if_pos e1, if_pos e2] at e'
          exact hR.inj i k e1 e2 e'
        · have e' : (if i < j then bl i else g) = (if k < j then bl k else g) := e
          rw [if_pos e1, if_neg e2] at e'
          exact (hfr i e1 e').elim
      · by_cases e2 : k < j
        · have e' : (if i < j then bl i else g) = (if k < j then bl k else g) := e
          rw [if_neg e1, if_pos e2] at e'
          exact (hfr k e2 e'.symm).elim
        · omega
/-- As equations to be solved. -/
theorem Rws.mat {B : Nat} {w : World} {l : Value} {j N : Nat} {bl cp : Nat → Nat} {M : Nat → Nat → Int} (h : Rws B w l j N bl cp M) (hj : 0 < j) (hN : 0 < N) (bd : ∀ i, P16 (M i)) : ∃ bm cm, l = .slice (some ⟨bm, 0, none⟩) j cm ∧ Mat B w bm 0 j N bl (fun _ => 0) cp M := by
  rcases h.own.2 with ⟨_, h0⟩ | ⟨bm, cm, cur, rfl, hg, hgb, hnc, _, _, ht⟩
  · omega
  · refine ⟨bm, cm, rfl, (Array.getElem?_eq_some_iff.1 hgb).1, hg, fun i hi => ?_, fun i hi => by simp only [World.frozen?, hgb]; simp, fun i hi => ?_, fun i hi => ?_, fun i hi => ?_, h.inj, bd⟩
    · have h1 := rvs_get N bl cp j i hi
      rw [← ht, List.getElem?_take, if_pos (by omega)] at h1
      rw [Nat.zero_add]
      simp only [World.cell?, hgb]
      rw [← h1]
      simp
    · obtain ⟨g, cap, e, _, _, hw⟩ := owns_at (h.row i hi) hN
      injection e with e1 _ _
      injection e1 with e1
      injection e1 with e1
      subst e1
      exact hw
    · exact ((h.row i hi).lt (bl i) rfl).1
    · intro e
      have := owns_ne (h.row i hi) h.own (by decide)
      rcases this with h1 | h1
      · cases h1
      · exact h1 (by simp [Value.ownBlock, e])

theorem Rws.congr {B : Nat} {w : World} {l : Value} {j N : Nat} {bl cp : Nat → Nat} {M M' : Nat → Nat → Int} (h : Rws B w l j N bl cp M) (e : ∀ i, i < j → M i = M' i) : Rws B w l j N bl cp M' :=
  ⟨h.own, fun i hi => by rw [← e i hi]; exact h.row i hi, h.inj⟩
theorem solve_rws {B : Nat} {w : World} {l : Value} {R n : Nat} {bl cp : Nat → Nat} {M : Nat → Nat → Int} (h : Rws B w l R (n + 1) bl cp M) (hR : R ≤ 255) (hn : n ≤ 255) (h0 : R = 0 → n = 0) (bd : ∀ i, P16 (M i)) (hB : B ≤ w.heap.size) :
    Calls Try.prog 28 #[l, .int .i64 (n : Int)] w fun e w' => Below B w w' ∧
      ((e = .returned (.tuple #[.slice none 0 0, .bool false]) ∧ ∀ x, ¬ Uq M R n x) ∨ ∃ a c y, e = .returned (.tuple #[.slice a n c, .bool true]) ∧ Sl w' a n c y ∧ Nb (fun b => b < w.heap.size) a n ∧ ∀ x, Uq M R n x → ∀ k, k < n → y k = x k) := by
  by_cases hz : R = 0
  · have hn0 := h0 hz
    subst hz
    obtain ⟨a, c, rfl⟩ : ∃ a c, l = .slice a 0 c := by
      rcases h.own.2 with ⟨rfl, _⟩ | ⟨g, cap, _, rfl, _⟩
      · exact ⟨none, 0, rfl⟩
      · exact ⟨_, cap, rfl⟩
    refine (solve_nil a c n hn0 w).mono ?_
    rintro e w' ⟨rfl, hb⟩
    subst hn0
    exact ⟨hb.mono hB, .inr ⟨none, 0, nul, rfl, sl_nil w', .inl rfl, fun x _ k hk => by omega⟩⟩
  · obtain ⟨bm, cm, rfl, hm⟩ := h.mat (by omega) (by omega) bd
    exact solve_any hm hR hn

end Go.Proofs.Ytdbdidohldhnhaa
