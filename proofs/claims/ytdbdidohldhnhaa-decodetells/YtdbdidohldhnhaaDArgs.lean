/- Slices of ints that came in with a call, as the walks take them; how many symbols two words differ in. -/
import Derived.Test.YtdbdidohldhnhaaArgs
import Derived.Test.YtdbdidohldhnhaaDAwake
namespace Go.Proofs.Ytdbdidohldhnhaa
open Go.ChangeShapes Go.WideShapes Go.ChangeAt Go.RowKit Gf
set_option linter.unusedVariables false

theorem isRow_il {w : World} {a : Option Addr} {len cap : Nat} {zs : List Int} (h : IsRow .i64 w a len cap zs) : Il w a len cap (cut0 zs len) := by
  have hout : ∀ j, len ≤ j → cut0 zs len j = 0 := fun j hj => by unfold cut0; rw [if_neg (by omega)]
  have z64 : I64 0 := by unfold I64; decide
  rcases h with ⟨rfl, rfl, rfl, rfl⟩ | ⟨x, rfl, hl, hm, hz, hcell, hwz⟩
  · exact ⟨fun j => by rw [hout j (Nat.zero_le _)]; exact z64, hout, Nat.le_refl _, fun _ => rfl, .inl rfl⟩
  · have hb : ∀ j, I64 (cut0 zs len j) := fun j => by
      by_cases hj : j < len
      · unfold cut0
        rw [if_pos hj]
        have h1 := bounds_i64 (hwz (zs.getD j 0) (by
          rw [List.getD_eq_getElem?_getD, List.getElem?_eq_getElem (by omega)]
          exact List.getElem_mem _))
        unfold I64
        omega
      · rw [hout j (by omega)]; exact z64
    refine ⟨hb, hout, hl, fun e => (by cases e), ?_⟩
    by_cases h0 : len = 0
    · exact .inl h0
    · obtain ⟨b, off, rfl, hc⟩ := ints_at hcell (by omega)
      refine .inr ⟨b, off, rfl, World.block_lt_of_cell? w _ (hc 0 (by omega)), fun j hj => ?_⟩
      rw [hc j (by omega)]
      unfold cut0
      rw [if_pos hj]
theorem isRow_maxI {w : World} {a : Option Addr} {len cap : Nat} {zs : List Int} (h : IsRow .i64 w a len cap zs) : len ≤ maxLen := by
  rcases h with ⟨rfl, rfl, rfl, rfl⟩ | ⟨x, rfl, hl, hm, _⟩
  · exact Nat.zero_le _
  · omega

set_option maxRecDepth 100000 in
set_option maxHeartbeats 1000000 in
theorem differ_any {w : World} {a a' : Option Addr} {n c c' : Nat} {f g : Nat → Int} (h : Sl w a n c f) (h' : Sl w a' n c' g) (hn : n ≤ 4000) :
    Calls Try.prog 18 #[.slice a n c, .slice a' n c'] w fun e w' => e = .returned (.int .i64 ((cnt n (addp f g) : Nat) : Int)) ∧ Below w.heap.size w w' := by
  have HS := hide (And.intro h h')
  clear h h'
  go_enter Try.func18, Try.ntmps18
  go_wp2_with fail
  go_loopw [5, 6] (fun d t wr => ∃ k : Nat, t = .int .i64 k ∧ k ≤ n ∧ d = .int .i64 ((cnt k (addp f g) : Nat) : Int) ∧ Below w.heap.size w wr) (fun _ t _ => n - (intOf t).toNat)
  case atStart => exact ⟨0, rfl, Nat.zero_le _, rfl, Below.refl _ _⟩
  case round =>
    obtain ⟨k, rfl, hk, rfl, hbl⟩ := hrel
    have hc := cnt_top k (addp f g)
    have HB := hide hbl
    clear hbl
    obtain ⟨C, hC⟩ : ∃ C, cnt k (addp f g) = C := ⟨_, rfl⟩
    rw [hC] at hc ⊢
    have HC := hide hC
    clear hC
    by_cases hlt : k < n
    · obtain ⟨b, o, rfl, hb, h1⟩ := HS.out.1.at'.resolve_left (by omega)
      obtain ⟨b', o', rfl, hb', h2⟩ := HS.out.2.at'.resolve_left (by omega)
      have k1 := c_be HB.out hb (h1 k hlt)
      have k2 := c_be HB.out hb' (h2 k hlt)
      have hlt' : (k : Int) < (n : Int) := by omega
      clear h1 h2
      by_cases he : f k = g k
      · have HE := hide he
        rw [he] at k1
        clear he
        go_wp2_with fail
        go_quiet (fail)
        go_wp2
        go_roundw
        case rel =>
          refine ⟨k + 1, by go_num, by omega, ?_, below_drewN HB.out nq⟩
          have : cnt (k + 1) (addp f g) = C := by
            show cnt k (addp f g) + (if xI (f k) (g k) = 0 then 0 else 1) = C
            rw [HC.out, HE.out, f7, if_pos rfl]
            rfl
          rw [this]
        case measure => simp [intOf]; omega
      · have hne : (f k != g k) = true := bne_yes he
        have HE := hide he
        clear he
        go_wp2_with fail
        go_quiet (fail)
        go_wp2
        go_roundw
        case rel =>
          refine ⟨k + 1, by go_num, by omega, ?_, below_drewN HB.out nq⟩
          have : cnt (k + 1) (addp f g) = C + 1 := by
            show cnt k (addp f g) + (if xI (f k) (g k) = 0 then 0 else 1) = C + 1
            rw [HC.out, if_neg (fun h => HE.out (x_eq (HS.out.1.bd k) (HS.out.2.bd k) h))]
          rw [this]
          go_num
        case measure => simp [intOf]; omega
    · obtain rfl : k = n := by omega
      go_wp2
      go_ret
      exact ⟨by rw [HC.out]; rfl, HB.out⟩

theorem cnt_cat (n r : Nat) (u v : Nat → Int) : cnt (n + r) (cat n u v) = cnt n u + cnt r v := by
  induction r with
  | zero =>
    have : ∀ m, m ≤ n → cnt m (cat n u v) = cnt m u := by
      intro m
      induction m with
      | zero => intro _; rfl
      | succ m ih =>
        intro hm
        show cnt m (cat n u v) + (if cat n u v m = 0 then 0 else 1) = cnt m u + (if u m = 0 then 0 else 1)
        have e : cat n u v m = u m := if_pos (by omega)
        rw [ih (by omega), e]
    exact this n (Nat.le_refl _)
  | succ r ih =>
    show cnt (n + r) (cat n u v) + (if cat n u v (n + r) = 0 then 0 else 1) = cnt n u + (cnt r v + (if v r = 0 then 0 else 1))
    rw [ih]
    have : cat n u v (n + r) = v r := by unfold cat; rw [if_neg (by omega), show n + r - n = r from by omega]
    rw [this]
    omega
theorem addp_cat (n : Nat) (u v u' v' : Nat → Int) : addp (cat n u v) (cat n u' v') = cat n (addp u u') (addp v v') := funext fun k => by
  show xI (if k < n then u k else v (k - n)) (if k < n then u' k else v' (k - n)) = if k < n then xI (u k) (u' k) else xI (v (k - n)) (v' (k - n))
  split <;> rfl

end Go.Proofs.Ytdbdidohldhnhaa
