/- Some places of a word, each once, as the statements' own helper places tells them; append of a row of ints to one of the call's own. -/
import Derived.Test.YtdbdidohldhnhaaDArgs
namespace Go.Proofs.Ytdbdidohldhnhaa
open Go.RowKit Gf
set_option linter.unusedVariables false

/-- Ints as values. -/
def ivs (f : Nat → Int) (n : Nat) : List Value := (List.range n).map fun j => Value.int .i64 (f j)
theorem ivs_length (f : Nat → Int) (n : Nat) : (ivs f n).length = n := by simp [ivs]
theorem ivs_get (f : Nat → Int) (n j : Nat) (hj : j < n) : (ivs f n)[j]? = some (.int .i64 (f j)) := by simp [ivs, hj]
theorem ivs_one {f : Nat → Int} {n : Nat} {u : Value} (h : u ∈ ivs f n) : u.oneCell' = true := by
  simp only [ivs, List.mem_map] at h
  obtain ⟨j, _, rfl⟩ := h
  rfl
theorem ivs_cat (f g : Nat → Int) (n m : Nat) : ivs f n ++ ivs g m = ivs (cat n f g) (n + m) := by
  apply List.ext_getElem?
  intro j
  by_cases h : j < n
  · rw [List.getElem?_append_left (by rw [ivs_length]; exact h), ivs_get f n j h, ivs_get _ _ j (by omega)]
    unfold cat
    rw [if_pos h]
  · rw [List.getElem?_append_right (by rw [ivs_length]; omega), ivs_length]
    by_cases h2 : j < n + m
    · rw [ivs_get g m _ (by omega), ivs_get _ _ j h2]
      unfold cat
      rw [if_neg h]
    · rw [List.getElem?_eq_none (by rw [ivs_length]; omega), List.getElem?_eq_none (by rw [ivs_length]; omega)]
theorem ivals_ivs (L : List Nat) : ivals L = ivs (fun j => ((L.getD j 0 : Nat) : Int)) L.length := by
  apply List.ext_getElem?
  intro j
  by_cases h : j < L.length
  · rw [ivs_get _ _ j h]
    unfold ivals
    rw [List.getElem?_map, List.getElem?_eq_getElem h, List.getD_eq_getElem?_getD, List.getElem?_eq_getElem h]
    rfl
  · rw [List.getElem?_eq_none (by unfold ivals; rw [List.length_map]; omega), List.getElem?_eq_none (by rw [ivs_length]; omega)]
/-- A row of ints of the call's own, as a slice. -/
theorem il_owned {w : World} {base : Nat} {v : Value} {n : Nat} {f : Nat → Int} (h : w.ownsRow base 3 1 v n (ivs f n)) (bd : ∀ j, I64 (f j)) (out : ∀ j, n ≤ j → f j = 0) : ∃ a c, v = .slice a n c ∧ Il w a n c f := by
  rcases h.2 with ⟨rfl, rfl⟩ | ⟨g, cap, cur, rfl, hg, hgb, hnc, _, _, ht⟩
  · exact ⟨none, 0, rfl, bd, out, Nat.le_refl _, fun _ => rfl, .inl rfl⟩
  · refine ⟨_, cap, rfl, bd, out, hnc, fun e => (by cases e), .inr ⟨g, 0, rfl, (Array.getElem?_eq_some_iff.1 hgb).1, fun j hj => ?_⟩⟩
    have h1 := ivs_get f n j hj
    rw [← ht, List.getElem?_take, if_pos (by omega)] at h1
    rw [Nat.zero_add]
    simp only [World.cell?, hgb]
    rw [← h1]
    simp
theorem append_il {ops : Array Oper} {rest : List Oper} {o : Oper} {a : Act} {Q : Exit → Act → World → Prop} {w : World} (hgd : o.guard = none) (s x : Operand)
    (ho : o.op = .call { callee := .builtin .append, args := #[s, x], argTypes := #[23, 23] }) (B : Nat) (v : Value) (n : Nat) (f : Nat → Int) (hs : a.eval s = v) (hown : w.ownsRow B 3 1 v n (ivs f n))
    (ap : Option Addr) (m c : Nat) (g : Nat → Int) (hx : a.eval x = .slice ap m c) (hS : Il w ap m c g) (hnm : n + m ≤ 4000) (hB : B ≤ w.heap.size) (w0 : World) (hb : Below B w0 w)
    (h : ∀ v' w', w'.ownsRow B 3 1 v' (n + m) (ivs (cat n f g) (n + m)) → Below B w0 w' → wpList Try.prog ops Q rest (a.put o.dst v') w') : wpList Try.prog ops Q (o :: rest) a w := by
  obtain ⟨i0, hi, hz0, hz1, hz2⟩ := info_parts infoI
  cases ap with
  | none =>
    obtain rfl := hS.nil rfl
    have := hS.cap
    obtain rfl : m = 0 := by omega
    refine wpList_plain hgd fun K hK => ?_
    have hrun := run_append_owned_none (P := Try.prog) w B 23 o.type 3 i0 1 Try.underlying23 hi v n _ hown
    unfold Oper.wp
    simp [execOp, ho, resolve, invoke, builtin, hs, hx, hrun, Result.andThen]
    refine hK _ _ (h v w ?_ hb)
    rw [← ivs_cat, show ivs g 0 = [] from rfl, List.append_nil]
    exact hown
  | some ad =>
    refine wpList_append_own w hgd s x 23 ho B 3 i0 (.int .i64 0) 1 8 Try.underlying23 hi hz0 hz1 hz2 rfl (by decide) v n (ivs f n) hs hown ad m c (ivs g m) hx (by rw [ivs_length, Nat.mul_one]) (fun j u hu => ?_) (fun u hu => ivs_one hu) (by unfold maxLen; omega) (by omega) hB (fun v' w' hown' hgrow _ => ?_)
    · have hj : j < m := by
        have := (List.getElem?_eq_some_iff.1 hu).1
        rwa [ivs_length] at this
      obtain ⟨b, off, e, hbl, hc⟩ := hS.at'.resolve_left (by omega)
      cases e
      rw [ivs_get g m j hj] at hu
      cases hu
      rw [add_at]
      exact hc j hj
    · rw [ivs_cat] at hown'
      refine h v' w' hown' (hb.grown hgrow hB (fun k e => ?_))
      rcases hown.2 with ⟨rfl, rfl⟩ | ⟨g', cap, cur, rfl, hg', _⟩
      · cases e
      · cases e; exact hg'
theorem owns_nilI (w : World) (f : Nat → Int) : (w.alloc (.cells #[] 3)).ownsRow w.heap.size 3 1 (.slice (some ⟨w.heap.size, 0, none⟩) 0 0) 0 (ivs f 0) :=
  ⟨rfl, .inr ⟨w.heap.size, 0, #[], rfl, Nat.le_refl _, Go.Deep.blk_alloc_new w _, Nat.le_refl _, by decide, rfl, rfl⟩⟩

/-- Any number as a place. -/
def pmod (n : Nat) (x : Int) : Nat := (wrap64 ((IntKind.u64.wrap x).tmod (n : Int))).toNat
theorem pmod_eq {n : Nat} (hn : 0 < n) (hn' : n ≤ 1000) (x : Int) : wrap64 ((IntKind.u64.wrap x).tmod (n : Int)) = ((pmod n x : Nat) : Int) ∧ pmod n x < n := by
  obtain ⟨k, h1, h2⟩ := mod_ex n hn hn' x
  unfold pmod
  rw [h1]
  exact ⟨by simp, by simpa using h2⟩
theorem pmod_small {n : Nat} (hn : n ≤ 1000) {i : Nat} (hi : i < n) : pmod n (i : Int) = i := by
  unfold pmod
  have h1 : IntKind.u64.wrap (i : Int) = (i : Int) := by
    show (i : Int) % 18446744073709551616 = (i : Int)
    omega
  have h2 : (i : Int).tmod (n : Int) = (i : Int) := by rw [Int.tmod_eq_emod_of_nonneg (by omega)]; exact Int.emod_eq_of_lt (by omega) (by omega)
  rw [h1, h2]
  unfold wrap64
  omega
/-- One number more. -/
def stp (n most : Nat) (out : List Nat) (x : Int) : List Nat := if out.length < most then (if pmod n x ∈ out then out else out ++ [pmod n x]) else out
/-- The places of the first k numbers. -/
def pls (n most : Nat) (gl : Nat → Int) : Nat → List Nat
  | 0 => []
  | k + 1 => stp n most (pls n most gl k) (gl k)
theorem pls_len (n most : Nat) (gl : Nat → Int) (k : Nat) : (pls n most gl k).length ≤ most ∧ (pls n most gl k).length ≤ k := by
  induction k with
  | zero => exact ⟨Nat.zero_le _, Nat.le_refl _⟩
  | succ k ih =>
    show (stp n most (pls n most gl k) (gl k)).length ≤ most ∧ (stp n most (pls n most gl k) (gl k)).length ≤ k + 1
    unfold stp
    split
    · split
      · omega
      · rw [List.length_append]; simp; omega
    · omega
theorem pls_ok {n most : Nat} (hn : 0 < n) (hn' : n ≤ 1000) (gl : Nat → Int) (k : Nat) : (pls n most gl k).Nodup ∧ ∀ i ∈ pls n most gl k, i < n := by
  induction k with
  | zero => exact ⟨List.nodup_nil, fun i hi => by cases hi⟩
  | succ k ih =>
    show (stp n most (pls n most gl k) (gl k)).Nodup ∧ ∀ i ∈ stp n most (pls n most gl k) (gl k), i < n
    unfold stp
    split
    · split
      · exact ih
      · rename_i h
        refine ⟨List.nodup_append.2 ⟨ih.1, by simp, fun a ha b hb e => h (by simp at hb; rw [← hb, ← e]; exact ha)⟩, fun i hi => ?_⟩
        rcases List.mem_append.1 hi with h2 | h2
        · exact ih.2 i h2
        · simp at h2
          rw [h2]
          exact (pmod_eq hn hn' _).2
    · exact ih
theorem pls_full {n most : Nat} {gl : Nat → Int} {k : Nat} (h : most ≤ (pls n most gl k).length) : ∀ m, k ≤ m → pls n most gl m = pls n most gl k := by
  intro m
  induction m with
  | zero => intro hm; rw [show k = 0 from by omega]
  | succ m ih =>
    intro hm
    by_cases e : k = m + 1
    · rw [e]
    · show stp n most (pls n most gl m) (gl m) = _
      rw [ih (by omega)]
      unfold stp
      rw [if_neg (by omega)]
/-- What comes later stands behind. -/
theorem pls_more {n most : Nat} {gl : Nat → Int} {k : Nat} : ∀ m, k ≤ m → ∃ T, pls n most gl m = pls n most gl k ++ T := by
  intro m
  induction m with
  | zero => intro hm; rw [show k = 0 from by omega]; exact ⟨[], by simp⟩
  | succ m ih =>
    intro hm
    by_cases e : k = m + 1
    · rw [e]; exact ⟨[], by simp⟩
    · obtain ⟨T, hT⟩ := ih (by omega)
      show ∃ T, stp n most (pls n most gl m) (gl m) = _
      rw [hT]
      unfold stp
      split
      · split
        · exact ⟨T, rfl⟩
        · exact ⟨T ++ [pmod n (gl m)], by rw [List.append_assoc]⟩
      · exact ⟨T, rfl⟩
/-- Places that are told are told again. -/
theorem pls_self {n most : Nat} {gl : Nat → Int} {G : List Nat} (hn' : n ≤ 1000) (hG : G.Nodup) (hlt : ∀ i ∈ G, i < n) (hl : G.length ≤ most) (hgl : ∀ j, j < G.length → gl j = ((G.getD j 0 : Nat) : Int)) : pls n most gl G.length = G := by
  have h : ∀ k, k ≤ G.length → pls n most gl k = G.take k := by
    intro k
    induction k with
    | zero => intro _; rfl
    | succ k ih =>
      intro hk
      show stp n most (pls n most gl k) (gl k) = _
      have hm : G.getD k 0 ∈ G := by rw [List.getD_eq_getElem?_getD, List.getElem?_eq_getElem (by omega)]; exact List.getElem_mem _
      rw [ih (by omega), hgl k (by omega)]
      unfold stp
      rw [List.length_take, if_pos (by omega), pmod_small hn' (hlt _ hm), if_neg (nodup_take hG (by omega)), List.take_succ_eq_append_getElem (by omega), List.getD_eq_getElem?_getD, List.getElem?_eq_getElem (by omega)]
      rfl
  rw [h _ (Nat.le_refl _), List.take_length]

theorem il_lst {w : World} {base : Nat} {v : Value} {L : List Nat} (h : w.ownsRow base 3 1 v L.length (ivals L)) (hb : ∀ i ∈ L, i < 100000) : ∃ a c, v = .slice a L.length c ∧ Il w a L.length c (fun j => ((L.getD j 0 : Nat) : Int)) := il_of_owns h hb

set_option maxRecDepth 100000 in
set_option maxHeartbeats 2000000 in
theorem places_any {w : World} {a : Option Addr} {m c n most : Nat} {gl : Nat → Int} (h : Il w a m c gl) (hm : m ≤ 1000) (hn : 0 < n) (hn' : n ≤ 1000) (hmost : most ≤ 1000) :
    Calls Try.prog 16 #[.slice a m c, .int .i64 (n : Int), .int .i64 (most : Int)] w fun e w' => ∃ v, e = .returned v ∧ w'.ownsRow w.heap.size 3 1 v (pls n most gl m).length (ivals (pls n most gl m)) ∧ Below w.heap.size w w' := by
  obtain ⟨i0, hi, hz0, hz1, hz2⟩ := info_parts infoI
  have HS := hide h
  clear h
  go_enter Try.func16, Try.ntmps16
  go_wp2_with fail
  go_loopg [7, 8, 9, 10, 11] m (fun g l t _ _ _ wr => ∃ k : Nat, k + g = m ∧ t = .int .i64 k ∧ wr.ownsRow w.heap.size 3 1 l (pls n most gl k).length (ivals (pls n most gl k)) ∧ Below w.heap.size w wr)
  case atStart => exact ⟨0, by omega, rfl, World.ownsRow_nil _ _ _ _, Below.refl _ _⟩
  case round =>
    obtain ⟨k, hkg, rfl, hown, hbl⟩ := hrel
    have hok := pls_ok (most := most) hn hn' gl k
    have hlen := pls_len n most gl k
    obtain ⟨L, hL⟩ : ∃ L, pls n most gl k = L := ⟨_, rfl⟩
    rw [hL] at hown hok hlen
    obtain ⟨a7, c7, rfl, hI⟩ := il_lst hown (fun i hi => by have := hok.2 i hi; omega)
    have HO := hide hown
    have HB := hide hbl
    have HI := hide hI
    have HL := hide hL
    have HOK := hide hok
    clear hown hbl hI hL hok
    by_cases hlt : k < m
    · have hlt' : (k : Int) < (m : Int) := by omega
      by_cases hfull : L.length < most
      · have hfull' : (L.length : Int) < (most : Int) := by omega
        obtain ⟨b, o, e1, hb, hc⟩ := HS.out.at'.resolve_left (by omega)
        subst e1
        have x1 := c_be HB.out hb (hc k hlt)
        have bd := HS.out.bd k
        unfold I64 at bd
        have hp := pmod_eq hn hn' (gl k)
        obtain ⟨P, hP⟩ : ∃ P, pmod n (gl k) = P := ⟨_, rfl⟩
        rw [hP] at hp
        obtain ⟨hp1, hp2⟩ := hp
        have HP := hide hP
        have hnz : ((n : Int) == 0) = false := beq_no (by omega)
        clear hc hP
        go_wp2_with fail
        obtain ⟨gg, rfl⟩ : ∃ gg, gk = gg + 1 := ⟨gk - 1, by omega⟩
        rw [hp1]
        go_loopg [10, 11] L.length (fun g b t wx => ∃ j : Nat, j + g = L.length ∧ t = .int .i64 j ∧ b = .bool (decide (P ∈ L.take j)) ∧ wx = wr)
        case atStart => exact ⟨0, by omega, rfl, by simp, rfl⟩
        case round =>
          obtain ⟨j, hjg, rfl, rfl, hwx⟩ := hrel
          obtain rfl := hwx.symm
          by_cases hj : j < L.length
          · have hj' : (j : Int) < (L.length : Int) := by omega
            obtain ⟨g8, o8, e8, hg8, hc8⟩ := HI.out.at'.resolve_left (by omega)
            subst e8
            have y1 := hc8 j hj
            have hmem := take_mem_step hj P
            obtain ⟨Y, hY⟩ : ∃ Y, L.getD j 0 = Y := ⟨_, rfl⟩
            have y2 : wr.cell? ⟨g8, o8 + j, none⟩ = some (.int .i64 (Y : Int)) := by rw [← hY]; exact y1
            rw [hY] at hmem
            have HM := hide hmem
            obtain ⟨g3, rfl⟩ : ∃ g3, gk = g3 + 1 := ⟨gk - 1, by omega⟩
            clear hc8 y1 hY hmem
            obtain ⟨bb, hbb⟩ : ∃ bb, decide (P ∈ L.take j) = bb := ⟨_, rfl⟩
            have HBB := hide hbb
            rw [hbb]
            clear hbb
            cases bb with
            | true =>
              go_wp2_with fail
              go_roundg g3
              case measure => omega
              case rel =>
                refine ⟨j + 1, by omega, by go_num, ?_, rfl⟩
                have h1 := of_decide_eq_true HBB.out
                rw [decide_eq_true (HM.out.2 (.inl h1))]
            | false =>
              have hno : P ∉ L.take j := of_decide_eq_false HBB.out
              have HNO := hide hno
              clear hno
              by_cases heq : (Y : Int) = (P : Int)
              · have hq : ((Y : Int) == (P : Int)) = true := beq_yes heq
                have HQ := hide heq
                clear heq
                go_wp2_with fail
                go_roundg g3
                case measure => omega
                case rel =>
                  refine ⟨j + 1, by omega, by go_num, ?_, rfl⟩
                  have h1 := HQ.out
                  rw [decide_eq_true (HM.out.2 (.inr (by omega)))]
              · have hq : ((Y : Int) == (P : Int)) = false := beq_no heq
                have HQ := hide heq
                clear heq
                go_wp2_with fail
                go_roundg g3
                case measure => omega
                case rel =>
                  refine ⟨j + 1, by omega, by go_num, ?_, rfl⟩
                  have h1 := HQ.out
                  rw [decide_eq_false (fun h => (HM.out.1 h).elim HNO.out (fun e => h1 (by omega)))]
          · obtain rfl : j = L.length := by omega
            rw [List.take_length]
            by_cases hin : P ∈ L
            · rw [decide_eq_true hin]
              have HIN := hide hin
              clear hin
              go_wp2_with fail
              go_roundg gg
              case measure => omega
              case rel =>
                refine ⟨k + 1, by omega, by go_num, ?_, HB.out⟩
                have e : pls n most gl (k + 1) = L := by
                  show stp n most (pls n most gl k) (gl k) = L
                  rw [HL.out]
                  unfold stp
                  rw [if_pos hfull, HP.out, if_pos HIN.out]
                rw [e]
                exact HO.out
            · rw [decide_eq_false hin]
              have HIN := hide hin
              have hsz := HB.out.size
              clear hin
              go_wp2_with (at_builtin; refine wpList_append_own _ rfl _ _ 23 rfl w.heap.size 3 i0 (.int .i64 0) 1 8 Try.underlying23 hi hz0 hz1 hz2 rfl (by decide) _ _ _ rfl (HO.out.alloc _) ⟨wr.heap.size, 0, none⟩ 1 1 [.int .i64 (P : Int)] rfl rfl (cell_one_new _ _ _) (fun x hx => by simp at hx; subst hx; rfl) (by unfold maxLen; omega) (by omega) (by simp; omega) ?_; intro v' w3 hown3 hgrow3 hnil3)
              have HO3 := hide hown3
              have HB3 := hide ((HB.out.alloc hsz (.cells #[.int .i64 (P : Int)] 3)).grown hgrow3 (by simp; omega) (fun j hj => (HO.out.lt j hj).1))
              clear hown3 hgrow3 hnil3
              go_wp2_with fail
              go_roundg gg
              case measure => omega
              case rel =>
                refine ⟨k + 1, by omega, by go_num, ?_, HB3.out⟩
                have e : pls n most gl (k + 1) = L ++ [P] := by
                  show stp n most (pls n most gl k) (gl k) = L ++ [P]
                  rw [HL.out]
                  unfold stp
                  rw [if_pos hfull, HP.out, if_neg HIN.out]
                rw [e, List.length_append]
                have h9 := HO3.out
                unfold ivals at h9 ⊢
                rw [List.map_append]
                exact h9
      · have hfull' : ¬ (L.length : Int) < (most : Int) := by omega
        go_wp2_with fail
        go_ret
        have e := pls_full (n := n) (most := most) (gl := gl) (k := k) (by rw [HL.out]; omega) m (by omega)
        rw [e, HL.out]
        exact ⟨_, rfl, HO.out, HB.out⟩
    · have hlt' : ¬ (k : Int) < (m : Int) := by omega
      obtain rfl : k = m := by omega
      go_wp2_with fail
      go_ret
      rw [HL.out]
      exact ⟨_, rfl, HO.out, HB.out⟩

end Go.Proofs.Ytdbdidohldhnhaa
