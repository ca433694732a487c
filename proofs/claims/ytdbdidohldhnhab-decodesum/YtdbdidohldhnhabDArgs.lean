/- Slices of ints that came in with a call, as the walks take them; how many symbols two words differ in. -/
import Derived.Test.YtdbdidohldhnhabArgs
import Derived.Test.YtdbdidohldhnhabDAwake
namespace Go.Proofs.Ytdbdidohldhnhab
open Go.ChangeShapes Go.WideShapes Go.ChangeAt Go.RowKit Gf
set_option linter.unusedVariables false

theorem isRow_il {w : World} {a : Option Addr} {len cap : Nat} {zs : List Int} (h : IsRow .i64 w a len cap zs) : Il w a len cap (cut0 zs len) := by
  have hout : ∀ j, len ≤ j → cut0 zs len j = 0 := fun j hj => by unfold cut0; rw [if_neg (by omega)]
  have z64 : I64 0 := by unfold I64; decide
  rcases h with ⟨rfl, rfl, rfl, rfl⟩ | ⟨x, rfl, hl, hm, hz, hcell, hwz⟩
  · exact ⟨fun j => by rw [hout j (Nat.zero_le _)]; exact z64, hout, Nat.le_refl _, fun _ => rfl, .inl rfl⟩
  · have hb : ∀ j, I64 (cut0 zs len j) := fun j => by
      by_cases hj : j < len
      · unfold cut0
        rw [if_pos hj]
        have h1 := bounds_i64 (hwz (zs.getD j 0) (by
          rw [List.getD_eq_getElem?_getD, List.getElem?_eq_getElem (by omega)]
          exact List.getElem_mem _))
        unfold I64
        omega
      · rw [hout j (by omega)]; exact z64
    refine ⟨hb, hout, hl, fun e => (by cases e), ?_⟩
    by_cases h0 : len = 0
    · exact .inl h0
    · obtain ⟨b, off, rfl, hc⟩ := ints_at hcell (by omega)
      refine .inr ⟨b, off, rfl, World.block_lt_of_cell? w _ (hc 0 (by omega)), fun j hj => ?_⟩
      rw [hc j (by omega)]
      unfold cut0
      rw [if_pos hj]
theorem isRow_maxI {w : World} {a : Option Addr} {len cap : Nat} {zs : List Int} (h : IsRow .i64 w a len cap zs) : len ≤ maxLen := by
  rcases h with ⟨rfl, rfl, rfl, rfl⟩ | ⟨x, rfl, hl, hm, _⟩
  · exact Nat.zero_le _
  · omega

theorem cnt_cat (n r : Nat) (u v : Nat → Int) : cnt (n + r) (cat n u v) = cnt n u + cnt r v := by
  induction r with
  | zero =>
    have : ∀ m, m ≤ n → cnt m (cat n u v) = cnt m u := by
      intro m
      induction m with
      | zero => intro _; rfl
      | succ m ih =>
        intro hm
        show cnt m (cat n u v) + (if cat n u v m = 0 then 0 else 1) = cnt m u + (if u m = 0 then 0 else 1)
        have e : cat n u v m = u m := if_pos (by omega)
        rw [ih (by omega), e]
    exact this n (Nat.le_refl _)
  | succ r ih =>
    show cnt (n + r) (cat n u v) + (if cat n u v (n + r) = 0 then 0 else 1) = cnt n u + (cnt r v + (if v r = 0 then 0 else 1))
    rw [ih]
    have : cat n u v (n + r) = v r := by unfold cat; rw [if_neg (by omega), show n + r - n = r from by omega]
    rw [this]
    omega
theorem addp_cat (n : Nat) (u v u' v' : Nat → Int) : addp (cat n u v) (cat n u' v') = cat n (addp u u') (addp v v') := funext fun k => by
  show xI (if k < n then u k else v (k - n)) (if k < n then u' k else v' (k - n)) = if k < n then xI (u k) (u' k) else xI (v (k - n)) (v' (k - n))
  split <;> rfl

end Go.Proofs.Ytdbdidohldhnhab
