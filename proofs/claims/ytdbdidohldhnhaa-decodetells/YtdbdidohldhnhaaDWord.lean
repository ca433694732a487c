/- decode's Word: refused, lost, or the one right word that is near enough. For at most 1000 places that are said to be gone. -/
import Derived.Test.YtdbdidohldhnhaaMend
namespace Go.Proofs.Ytdbdidohldhnhaa
open Go.RowKit Gf
set_option linter.unusedVariables false

theorem marks_ok {w : World} {a : Option Addr} {m c n : Nat} {gl : Nat → Int} (h : Il w a m c gl) (hm : m ≤ 1000) (hn : n ≤ 255) (hG : Gn gl m n) :
    Calls Try.prog 19 #[.slice a m c, .int .i64 (n : Int)] w fun e w' => e = .returned (.tuple #[.slice (some ⟨w.heap.size, 0, none⟩) n n, .bool true]) ∧ Below w.heap.size w w' ∧ Bl w' w.heap.size 0 n n (gon gl m) := by
  refine (marks_any h hm hn).mono ?_
  rintro e w' ⟨hB, ⟨rfl, h1⟩ | ⟨rfl, _, h2⟩⟩
  · exact (h1 hG).elim
  · exact ⟨rfl, hB, h2⟩
theorem marks_not {w : World} {a : Option Addr} {m c n : Nat} {gl : Nat → Int} (h : Il w a m c gl) (hm : m ≤ 1000) (hn : n ≤ 255) (hG : ¬ Gn gl m n) :
    Calls Try.prog 19 #[.slice a m c, .int .i64 (n : Int)] w fun e w' => e = .returned (.tuple #[.slice none 0 0, .bool false]) ∧ Below w.heap.size w w' := by
  refine (marks_any h hm hn).mono ?_
  rintro e w' ⟨hB, ⟨rfl, h1⟩ | ⟨rfl, h2, _⟩⟩
  · exact ⟨rfl, hB⟩
  · exact (hG h2).elim

set_option maxRecDepth 100000 in
set_option maxHeartbeats 2000000 in
theorem dword_bad {w : World} {a ag : Option Addr} {n c m cg : Nat} {gl : Nat → Int} (r : Int) (hn : n ≤ maxLen) (hg : Il w ag m cg gl) (hm : m ≤ 1000) (hbad : n = 0 ∨ 255 < n ∨ r < 0 ∨ (n : Int) < r ∨ ¬ Gn gl m n) :
    Calls Try.prog 10 #[.slice a n c, .int .i64 r, .slice ag m cg] w fun e w' => e = .returned (.tuple #[.slice none 0 0, .int .i64 1]) ∧ Below w.heap.size w w' := by
  unfold maxLen at hn
  by_cases h0 : n = 0
  · subst h0
    clear hg hbad
    go_enter Try.func10, Try.ntmps10
    go_wp2
    go_ret2
    exact ⟨rfl, Below.refl _ _⟩
  · have q0 : ((n : Int) == 0) = false := beq_no (by omega)
    by_cases h1 : (255 : Int) < (n : Int)
    · clear hg hbad
      go_enter Try.func10, Try.ntmps10
      go_wp2
      go_ret2
      exact ⟨rfl, Below.refl _ _⟩
    · by_cases h2 : r < 0
      · clear hg hbad
        go_enter Try.func10, Try.ntmps10
        go_wp2
        go_ret2
        exact ⟨rfl, Below.refl _ _⟩
      · by_cases h3 : (n : Int) < r
        · clear hg hbad
          go_enter Try.func10, Try.ntmps10
          go_wp2
          go_ret2
          exact ⟨rfl, Below.refl _ _⟩
        · have hG : ¬ Gn gl m n := by
            rcases hbad with h | h | h | h | h
            · omega
            · omega
            · omega
            · omega
            · exact h
          have cM := marks_not hg hm (by omega) hG
          clear hg hbad hG
          go_enter Try.func10, Try.ntmps10
          go_wp2_with fail
          refine cM.mono ?_
          rintro e w1 ⟨rfl, hB⟩
          go_wp2
          go_ret2
          exact ⟨rfl, hB⟩

theorem near_self {n r m : Nat} {f gl : Nat → Int} (hf : P16 f) (ho : ∀ j, n ≤ j → f j = 0) (hR : Rt n f r) (hm : m ≤ r) : Near n f r m gl f := by
  refine ⟨hf, ho, hR, ?_⟩
  have : cnt n (off gl m f f) = 0 := by
    have h0 : ∀ k, cnt k (off gl m f f) = 0 := by
      intro k
      induction k with
      | zero => rfl
      | succ k ih =>
        show cnt k _ + (if off gl m f f k = 0 then 0 else 1) = 0
        rw [ih, if_pos]
        unfold off
        split
        · rfl
        · exact f7 _
    exact h0 n
  omega
theorem lost_many {n r m : Nat} {f gl c : Nat → Int} (hm : r < m) : ¬ Near n f r m gl c := fun h => by
  have := h.few
  omega
/-- What mend makes, if it is right, is near enough; and if it isn't, none is. -/
theorem mend_near {n r m : Nat} {f gl l0 b0 l1 b1 : Nat → Int} {a0 nl k1 : Nat} (hf : P16 f) (ho : ∀ j, n ≤ j → f j = 0) (hn : n ≤ 255) (hr : r ≤ n) (hr0 : 0 < r) (hm : m ≤ r) (hG : Gn gl m n)
    (hE : Eu r (cutT r (mulp (vs n f r) (ofp (gr n gl) m))) l0 b0 l1 b1 a0 nl k1) (hnl : nl ≤ r - (r - m) / 2) (hqa : r - (r - m) / 2 ≤ a0) :
    (Rt n (md n f b1 l1 (slp (mulp b1 (ofp (gr n gl) m))) (gon gl m)) r → Near n f r m gl (md n f b1 l1 (slp (mulp b1 (ofp (gr n gl) m))) (gon gl m))) ∧
    (¬ Rt n (md n f b1 l1 (slp (mulp b1 (ofp (gr n gl) m))) (gon gl m)) r → ∀ c, ¬ Near n f r m gl c) := by
  have hsum := hE.sum
  have hk : k1 ≤ (r - m) / 2 := by omega
  constructor
  · intro hR
    refine ⟨md16 hf hE.l116, fun j hj => by unfold md; rw [if_neg (by omega)]; exact ho j hj, hR, ?_⟩
    have := mend_few (gl := gl) (m := m) (f := f) (g := md n f b1 l1 (slp (mulp b1 (ofp (gr n gl) m))) (gon gl m)) hn hE.b116 hE.sb1 (by omega) (fun p hp h1 h2 => by
      unfold md
      rw [if_neg]
      rintro ⟨_, h3⟩
      unfold chb at h3
      rw [h1, Bool.false_or] at h3
      exact h2 (by simpa using h3))
    omega
  · intro hR c hc
    apply hR
    have := hc.rt
    refine this.congr fun p hp => ?_
    have h1 := mend_makes hf hn hr hr0 hG hc (T := cutT r (mulp (vs n f r) (ofp (gr n gl) m))) (fun k hk => by unfold cutT; rw [if_pos hk]; rfl) hE hk hnl p hp
    unfold md
    by_cases h2 : gon gl m p = true ∨ ev (ro n p) b1 = 0
    · rw [if_pos ⟨hp, by
        unfold chb
        rcases h2 with h2 | h2
        · rw [h2]; rfl
        · rw [h2]; simp⟩]
      exact (h1.1 h2).symm
    · rw [if_neg (by
        rintro ⟨_, h3⟩
        unfold chb at h3
        rw [Bool.or_eq_true] at h3
        exact h2 (h3.imp id (fun h => by simpa using h)))]
      exact (h1.2 h2).symm

set_option maxRecDepth 100000 in
set_option maxHeartbeats 2000000 in
theorem dword_any {w : World} {a ag : Option Addr} {n c m cg r : Nat} {f gl : Nat → Int} (h : Sl w a n c f) (hg : Il w ag m cg gl) (hm : m ≤ 1000) (hn0 : 0 < n) (hn : n ≤ 255) (hr : r ≤ n) (hG : Gn gl m n) :
    Calls Try.prog 10 #[.slice a n c, .int .i64 (r : Int), .slice ag m cg] w fun e w' => Below w.heap.size w w' ∧
      ((e = .returned (.tuple #[.slice none 0 0, .int .i64 54]) ∧ ∀ cw, ¬ Near n f r m gl cw) ∨ ∃ a' c' cw, e = .returned (.tuple #[.slice a' n c', .int .i64 0]) ∧ New w w' a' n c' cw ∧ Near n f r m gl cw) := by
  have q0 : ((n : Int) == 0) = false := beq_no (by omega)
  have q1 : ¬ (255 : Int) < (n : Int) := by omega
  have q2 : ¬ (r : Int) < 0 := by omega
  have q3 : ¬ (n : Int) < (r : Int) := by omega
  have HS := hide h
  have HI := hide hg
  have HG := hide hG
  have cM := marks_ok hg hm hn hG
  clear h hg hG
  go_enter Try.func10, Try.ntmps10
  go_wp2_with fail
  refine cM.mono ?_
  rintro e w1 ⟨rfl, hB1, hb1⟩
  have HB1 := hide hB1
  have HM := hide hb1
  clear cM hB1 hb1
  by_cases hmr : r < m
  · go_wp2_with fail
    refine (most_no (r : Int) (m : Int) w1 (by omega)).mono ?_
    rintro e w2 ⟨rfl, hw2⟩
    obtain rfl := hw2.symm
    go_wp2
    go_ret2
    exact ⟨HB1.out, .inl ⟨rfl, fun cw => lost_many hmr⟩⟩
  · obtain ⟨t, ht⟩ : ∃ t, (r - m) / 2 = t := ⟨_, rfl⟩
    have cM := most_yes r m w1 (by omega) (by omega)
    rw [ht] at cM
    have ht0 : ¬ (t : Int) < 0 := by omega
    clear ht
    go_wp2_with fail
    refine cM.mono ?_
    rintro e w2 ⟨rfl, hw2⟩
    obtain rfl := hw2.symm
    clear cM
    go_wp2_with fail
    refine (sums_any (HS.out.below HB1.out) r (by omega) (by omega)).mono ?_
    rintro e w2 ⟨ad, rfl, hN⟩
    have HB2 := hide (HB1.out.trans (hN.bel.mono HB1.out.size))
    have HN := hide hN.sl
    have HM2 := hide (HM.out.below hN.bel)
    clear hN
    go_wp2_with fail
    refine (short_any HN.out (by omega)).mono ?_
    rintro e w3 ⟨a3, ms, cs, rfl, hms, hsh, hNs⟩
    have HB3 := hide (HB2.out.trans (hNs.bel.mono HB2.out.size))
    have HN3 := hide (HN.out.below hNs.bel)
    have HM3 := hide (HM2.out.below hNs.bel)
    have HSH := hide hsh
    clear hNs hsh
    by_cases h0 : ms = 0
    · subst h0
      go_wp2_with fail
      refine (clone_any (HS.out.below HB3.out) (by omega)).mono ?_
      rintro e w4 ⟨a4, c4, rfl, hN4⟩
      have HN4 := hide hN4
      clear hN4
      go_wp2
      go_ret2
      have hR : Rt n f r := fun j hj => by
        have := HSH.out.2 j (Nat.zero_le _)
        unfold vs at this
        rwa [if_pos hj] at this
      exact ⟨HB3.out.trans (HN4.out.bel.mono HB3.out.size), .inr ⟨a4, c4, f, rfl, HN4.out.from HB3.out, near_self HS.out.bd HS.out.out hR (by omega)⟩⟩
    · have qm : ((ms : Int) == 0) = false := beq_no (by omega)
      go_wp2_with fail
      refine (mend_any (HS.out.below HB3.out) HN3.out (HI.out.below HB3.out) HG.out HM3.out hn hr (by omega) (by omega)).mono ?_
      rintro e w4 ⟨a4, c4, l0, b0, l1, b1, a0, nl, k1, rfl, hE, hnl, hqa, hN4⟩
      have hnear := mend_near (gl := gl) (m := m) HS.out.bd HS.out.out hn hr (by omega) (by omega) HG.out hE hnl hqa
      have HB4 := hide (HB3.out.trans (hN4.bel.mono HB3.out.size))
      have HN4 := hide (hN4.from HB3.out)
      have HNR := hide hnear
      clear hE hnl hqa hN4 hnear
      by_cases hR : Rt n (md n f b1 l1 (slp (mulp b1 (ofp (gr n gl) m))) (gon gl m)) r
      · have HR := hide hR
        clear hR
        go_wp2_with fail
        refine (right_yes HN4.out.sl r hr hn HR.out).mono ?_
        rintro e w5 ⟨rfl, hB5⟩
        have HB5 := hide hB5
        clear hB5
        go_wp2
        go_ret2
        refine ⟨HB4.out.trans (HB5.out.mono HB4.out.size), .inr ⟨a4, c4, _, rfl, ?_, HNR.out.1 HR.out⟩⟩
        refine ⟨HN4.out.sl.below HB5.out, HB4.out.trans (HB5.out.mono HB4.out.size), ?_⟩
        rcases HN4.out.own with h1 | ⟨b, o, e1, e2, e3⟩
        · exact .inl h1
        · exact .inr ⟨b, o, e1, e2, e3.below HB5.out e3.lt⟩
      · have HR := hide hR
        clear hR
        go_wp2_with fail
        refine (right_no HN4.out.sl r hr hn HR.out).mono ?_
        rintro e w5 ⟨rfl, hB5⟩
        have HB5 := hide hB5
        clear hB5
        go_wp2
        go_ret2
        exact ⟨HB4.out.trans (HB5.out.mono HB4.out.size), .inl ⟨rfl, HNR.out.2 HR.out⟩⟩

theorem dword_ok {w : World} {a ag : Option Addr} {n c m cg r : Nat} {f gl cw : Nat → Int} (h : Sl w a n c f) (hg : Il w ag m cg gl) (hm : m ≤ 1000) (hn0 : 0 < n) (hn : n ≤ 255) (hr : r ≤ n) (hG : Gn gl m n) (hN : Near n f r m gl cw) :
    Calls Try.prog 10 #[.slice a n c, .int .i64 (r : Int), .slice ag m cg] w fun e w' => ∃ a' c', e = .returned (.tuple #[.slice a' n c', .int .i64 0]) ∧ New w w' a' n c' cw := by
  refine (dword_any h hg hm hn0 hn hr hG).mono ?_
  rintro e w' ⟨hB, ⟨rfl, h1⟩ | ⟨a', c', cw', rfl, h2, h3⟩⟩
  · exact (h1 cw hN).elim
  · rw [← h3.uniq (by omega) h.bd hN]
    exact ⟨a', c', rfl, h2⟩
theorem dword_lost {w : World} {a ag : Option Addr} {n c m cg r : Nat} {f gl : Nat → Int} (h : Sl w a n c f) (hg : Il w ag m cg gl) (hm : m ≤ 1000) (hn0 : 0 < n) (hn : n ≤ 255) (hr : r ≤ n) (hG : Gn gl m n) (hN : ∀ cw, ¬ Near n f r m gl cw) :
    Calls Try.prog 10 #[.slice a n c, .int .i64 (r : Int), .slice ag m cg] w fun e w' => e = .returned (.tuple #[.slice none 0 0, .int .i64 54]) ∧ Below w.heap.size w w' := by
  refine (dword_any h hg hm hn0 hn hr hG).mono ?_
  rintro e w' ⟨hB, ⟨rfl, h1⟩ | ⟨a', c', cw', rfl, h2, h3⟩⟩
  · exact ⟨rfl, hB⟩
  · exact (hN cw' h3).elim

end Go.Proofs.Ytdbdidohldhnhaa
