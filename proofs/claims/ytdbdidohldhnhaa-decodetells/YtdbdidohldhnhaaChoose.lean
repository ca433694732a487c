/- decode's places: those that are gone, or at whose root a polynomial is 0, chosen by a closure. For words of at most 255 symbols. -/
import Derived.Test.YtdbdidohldhnhaaDescend
namespace Go.Proofs.Ytdbdidohldhnhaa
open Go.RowKit Gf
set_option linter.unusedVariables false

theorem owns_below {w w' : World} {base : Nat} {e : TypeId} {size : Nat} {v : Value} {n : Nat} {xs : List Value} (h : w.ownsRow base e size v n xs) (hB : Below w.heap.size w w') : w'.ownsRow base e size v n xs := by
  refine ⟨h.1, ?_⟩
  rcases h.2 with h0 | ⟨g, cap, cur, rfl, hg, hgb, r⟩
  · exact .inl h0
  · exact .inr ⟨g, cap, cur, rfl, hg, (hB.block g (Array.getElem?_eq_some_iff.1 hgb).1).trans hgb, r⟩

/-- Places as values. -/
def ivals (L : List Nat) : List Value := L.map fun (i : Nat) => Value.int .i64 (i : Int)
theorem infoI : (Try.prog.info? 3).map (fun i => (i.zero, i.size, i.bytes)) = some (some (.int .i64 0), 1, 8) := by kernel_rfl

/-- What the closure looks at. -/
structure Look (w : World) (n : Nat) (bg bf br : Nat) (ba : Nat) (ab : Option Addr) (nb cb : Nat) (rb : Nat) (pz : Nat → Bool) (b1 : Nat → Int) : Prop where
  g : w.cell? ⟨bg, 0, none⟩ = some (.slice (some ⟨ba, 0, none⟩) n n)
  gl : bg < w.heap.size
  gb : Bl w ba 0 n n pz
  f : w.cell? ⟨bf, 1, none⟩ = some (.slice ab nb cb)
  fl : bf < w.heap.size
  fs : Sl w ab nb cb b1
  r : w.cell? ⟨br, 0, none⟩ = some (.slice (some ⟨rb, 0, none⟩) n n)
  rl : br < w.heap.size
  rbl : rb < w.heap.size
  rc : ∀ j, j < n → w.cell? ⟨rb, j, none⟩ = some (.int .u16 (ro n j))
theorem Look.below {w w' : World} {n bg bf br ba : Nat} {ab : Option Addr} {nb cb rb : Nat} {pz : Nat → Bool} {b1 : Nat → Int} (h : Look w n bg bf br ba ab nb cb rb pz b1) (hB : Below w.heap.size w w') : Look w' n bg bf br ba ab nb cb rb pz b1 :=
  ⟨c_be hB h.gl h.g, Nat.lt_of_lt_of_le h.gl hB.size, h.gb.below hB, c_be hB h.fl h.f, Nat.lt_of_lt_of_le h.fl hB.size, h.fs.below hB, c_be hB h.rl h.r, Nat.lt_of_lt_of_le h.rl hB.size, Nat.lt_of_lt_of_le h.rbl hB.size, fun j hj => c_be hB h.rbl (h.rc j hj)⟩

set_option maxRecDepth 100000 in
set_option maxHeartbeats 2000000 in
theorem mendf_yes {w : World} {n bg bf br ba : Nat} {ab : Option Addr} {nb cb rb : Nat} {pz : Nat → Bool} {b1 : Nat → Int} (h : Look w n bg bf br ba ab nb cb rb pz b1) (p : Nat) (hp : p < n) (hn : n ≤ 255) (hz : pz p = true) :
    Calls Try.prog 41 #[.int .i64 (p : Int), .pointer (some ⟨bg, 0, none⟩), .pointer (some ⟨bf, 0, none⟩), .pointer (some ⟨br, 0, none⟩)] w fun e w' => e = .returned (.bool true) ∧ Below w.heap.size w w' := by
  have h1 := h.g
  have h2 : w.cell? ⟨ba, p, none⟩ = some (.bool true) := by have := h.gb.cell p hp; rwa [Nat.zero_add, hz] at this
  clear h
  go_enter Try.func41, Try.ntmps41
  go_wp2_with fail
  go_quiet (fail)
  go_wp2
  go_ret
  exact ⟨rfl, below_drewN (Below.refl _ _) nq⟩

set_option maxRecDepth 100000 in
set_option maxHeartbeats 2000000 in
theorem mendf_no {w : World} {n bg bf br ba : Nat} {ab : Option Addr} {nb cb rb : Nat} {pz : Nat → Bool} {b1 : Nat → Int} (h : Look w n bg bf br ba ab nb cb rb pz b1) (p : Nat) (hp : p < n) (hn : n ≤ 255) (hnb : nb ≤ 900) (hz : pz p = false) :
    Calls Try.prog 41 #[.int .i64 (p : Int), .pointer (some ⟨bg, 0, none⟩), .pointer (some ⟨bf, 0, none⟩), .pointer (some ⟨br, 0, none⟩)] w fun e w' => e = .returned (.bool (ev (ro n p) b1 == 0)) ∧ Below w.heap.size w w' := by
  have h1 := h.g
  have h2 : w.cell? ⟨ba, p, none⟩ = some (.bool false) := by have := h.gb.cell p hp; rwa [Nat.zero_add, hz] at this
  have h3 := h.f
  have h4 := h.r
  have h5 := h.rc p hp
  have l1 := h.gl
  have l2 := h.gb.lt
  have l3 := h.fl
  have l4 := h.rl
  have l5 := h.rbl
  have HS := hide h.fs.drew
  have h16 := ro16 n p
  have hev := ev_at (ro n p) (by omega : nb ≤ 1000) h.fs.out
  clear h
  go_enter Try.func41, Try.ntmps41
  go_wp2_with fail
  go_region_held (fun w' => w'.cell? ⟨bg, 0, none⟩ = some (.slice (some ⟨ba, 0, none⟩) n n) ∧ w'.cell? ⟨ba, p, none⟩ = some (.bool false) ∧ w'.cell? ⟨bf, 1, none⟩ = some (.slice ab nb cb) ∧ w'.cell? ⟨br, 0, none⟩ = some (.slice (some ⟨rb, 0, none⟩) n n) ∧ w'.cell? ⟨rb, p, none⟩ = some (.int .u16 (ro n p))) ((first | exact ⟨h1, h2, h3, h4, h5⟩ | exact ⟨k1, k2, k3, k4, k5⟩))
    ((go_at_call 42
      refine (at_any HS.out (by omega) h16).mono ?_
      rintro e w2 ⟨rfl, hb2⟩
      have k1 := c_be hb2 l1 h1
      have k2 := c_be hb2 l2 h2
      have k3 := c_be hb2 l3 h3
      have k4 := c_be hb2 l4 h4
      have k5 := c_be hb2 l5 h5
      have HB2 := hide hb2
      clear hb2))
  go_wp2
  go_ret
  exact ⟨by rw [← hev]; rfl, (Below.refl _ _).drew.trans HB2.out⟩

/-- Which places are chosen. -/
def chb (n : Nat) (pz : Nat → Bool) (b1 : Nat → Int) (p : Nat) : Bool := pz p || (ev (ro n p) b1 == 0)
theorem mendf_any {w : World} {n bg bf br ba : Nat} {ab : Option Addr} {nb cb rb : Nat} {pz : Nat → Bool} {b1 : Nat → Int} (h : Look w n bg bf br ba ab nb cb rb pz b1) (p : Nat) (hp : p < n) (hn : n ≤ 255) (hnb : nb ≤ 900) (b : Bool) (hb : chb n pz b1 p = b) :
    Calls Try.prog 41 #[.int .i64 (p : Int), .pointer (some ⟨bg, 0, none⟩), .pointer (some ⟨bf, 0, none⟩), .pointer (some ⟨br, 0, none⟩)] w fun e w' => e = .returned (.bool b) ∧ Below w.heap.size w w' := by
  unfold chb at hb
  cases hz : pz p with
  | true =>
    rw [hz, Bool.true_or] at hb
    subst hb
    exact mendf_yes h p hp hn hz
  | false =>
    rw [hz, Bool.false_or] at hb
    subst hb
    exact mendf_no h p hp hn hnb hz

theorem filter_succ (k : Nat) (p : Nat → Bool) : (List.range (k + 1)).filter p = if p k = true then (List.range k).filter p ++ [k] else (List.range k).filter p := by
  rw [List.range_succ, List.filter_append]
  cases h : p k <;> simp [h]
theorem filter_le (k : Nat) (p : Nat → Bool) : ((List.range k).filter p).length ≤ k := by
  have := List.length_filter_le p (List.range k)
  simpa using this

set_option maxRecDepth 100000 in
set_option maxHeartbeats 2000000 in
theorem chosen_any {w : World} {n bg bf br ba : Nat} {ab : Option Addr} {nb cb rb : Nat} {pz : Nat → Bool} {b1 : Nat → Int} (h : Look w n bg bf br ba ab nb cb rb pz b1) (hn : n ≤ 255) (hnb : nb ≤ 900) :
    Calls Try.prog 40 #[.int .i64 (n : Int), .func (.func 41) #[] #[.pointer (some ⟨bg, 0, none⟩), .pointer (some ⟨bf, 0, none⟩), .pointer (some ⟨br, 0, none⟩)]] w fun e w' => ∃ v, e = .returned v ∧
      w'.ownsRow w.heap.size 3 1 v ((List.range n).filter (chb n pz b1)).length (ivals ((List.range n).filter (chb n pz b1))) ∧ Below w.heap.size w w' := by
  obtain ⟨i0, hi, hz0, hz1, hz2⟩ := info_parts infoI
  have HL := hide h
  clear h
  go_enter Try.func40, Try.ntmps40
  go_wp2_with fail
  go_loopw [5, 6, 8] (fun l _ t wr => ∃ k : Nat, t = .int .i64 k ∧ k ≤ n ∧ wr.ownsRow w.heap.size 3 1 l ((List.range k).filter (chb n pz b1)).length (ivals ((List.range k).filter (chb n pz b1))) ∧ Below w.heap.size w wr) (fun _ _ t _ => n - (intOf t).toNat)
  case atStart => exact ⟨0, rfl, Nat.zero_le _, World.ownsRow_nil _ _ _ _, Below.refl _ _⟩
  case round =>
    obtain ⟨k, rfl, hk, hown, hbl⟩ := hrel
    obtain ⟨wo, hwo⟩ : ∃ v, v = wr := ⟨_, rfl⟩
    subst hwo
    have HO := hide hown
    have HB := hide hbl
    clear hown hbl
    have hle := filter_le k (chb n pz b1)
    by_cases hlt : k < n
    · obtain ⟨b, hb⟩ : ∃ b, chb n pz b1 k = b := ⟨_, rfl⟩
      cases b with
      | true =>
        have HF : Hid ((List.range (k + 1)).filter (chb n pz b1) = (List.range k).filter (chb n pz b1) ++ [k]) := hide (by rw [filter_succ, if_pos hb])
        go_wp2_with fail
        refine (mendf_any (HL.out.below HB.out) k hlt hn hnb true hb).mono ?_
        rintro e w2 ⟨rfl, hb2⟩
        have HO2 := hide (owns_below HO.out hb2)
        have HB2 := hide (HB.out.trans (hb2.mono HB.out.size))
        clear hb2 HO HB
        have hsz := HB2.out.size
        go_wp2_with (at_builtin; refine wpList_append_own _ rfl _ _ 23 rfl w.heap.size 3 i0 (.int .i64 0) 1 8 Try.underlying23 hi hz0 hz1 hz2 rfl (by decide) _ _ _ rfl (HO2.out.alloc _) ⟨w2.heap.size, 0, none⟩ 1 1 [.int .i64 (k : Int)] rfl rfl (cell_one_new _ _ _) (fun x hx => by simp at hx; subst hx; rfl) (by unfold maxLen; omega) (by omega) (by simp; omega) ?_; intro v' w3 hown3 hgrow3 hnil3)
        have HO3 := hide hown3
        have HB3 := hide ((HB2.out.alloc hsz (.cells #[.int .i64 (k : Int)] 3)).grown hgrow3 (by simp; omega) (fun j hj => (HO2.out.lt j hj).1))
        clear hown3 hgrow3 hnil3
        go_wp2_with fail
        go_roundw
        case rel =>
          refine ⟨k + 1, by go_num, by omega, ?_, HB3.out⟩
          have h9 := HO3.out
          rw [HF.out, List.length_append]
          unfold ivals at h9 ⊢
          rw [List.map_append]
          exact h9
        case measure => simp [intOf]; omega
      | false =>
        have HF : Hid ((List.range (k + 1)).filter (chb n pz b1) = (List.range k).filter (chb n pz b1)) := hide (by rw [filter_succ, if_neg (by rw [hb]; decide)])
        go_wp2_with fail
        refine (mendf_any (HL.out.below HB.out) k hlt hn hnb false hb).mono ?_
        rintro e w2 ⟨rfl, hb2⟩
        have HO2 := hide (owns_below HO.out hb2)
        have HB2 := hide (HB.out.trans (hb2.mono HB.out.size))
        clear hb2 HO HB
        go_wp2_with fail
        go_roundw
        case rel =>
          refine ⟨k + 1, by go_num, by omega, ?_, HB2.out⟩
          rw [HF.out]
          exact HO2.out
        case measure => simp [intOf]; omega
    · obtain rfl : k = n := by omega
      go_wp2
      go_ret
      exact ⟨_, rfl, HO.out, HB.out⟩

end Go.Proofs.Ytdbdidohldhnhaa
