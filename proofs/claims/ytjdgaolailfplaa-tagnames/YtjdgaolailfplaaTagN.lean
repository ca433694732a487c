/- The program's text, tag and answer, each as one contract. For data of at most 100000 bytes. -/
import Derived.Test.YtjdgaolailfplaaTagM
namespace Go.Proofs.Ytjdgaolailfplaa
open Go.RowKit Bk
set_option linter.unusedVariables false
set_option linter.unusedSimpArgs false

theorem below_past {w w' : World} {o : Obj} (h : Below (w.alloc o).heap.size (w.alloc o) w') : Below w.heap.size w w' := ((Below.refl _ w).alloc (Nat.le_refl _) o).trans (h.mono (by simp))
theorem toList_beq (a b : ByteArray) : (a.toList == b.toList) = decide (b = a) := by
  by_cases h : b = a
  · subst h; simp
  · rw [decide_eq_false h]
    have : ¬ a.toList = b.toList := fun k => h (sb_inj (by rw [ByteArray.toList_eq, ByteArray.toList_eq] at k; exact k.symm))
    simp [this]

theorem text_any (id : ByteArray) (v s : Int) (d : ByteArray) (w : World) (hd : d.size ≤ 100000) :
    Calls Try.prog 11 #[.agg #[.string id, .int .i64 v, .int .i64 s, .string d]] w fun e w' => e = .returned (.tuple #[.string (otx id v s d), .int .i64 (oer id v s)]) ∧ Below w.heap.size w w' := by
  by_cases h : okOf id v s
  · unfold otx oer
    rw [if_pos h, if_pos h]
    obtain ⟨h1, ⟨h2, h3⟩, h4, h5⟩ := h
    obtain ⟨p, rfl⟩ : ∃ p : Nat, v = p := ⟨v.toNat, by omega⟩
    obtain ⟨q, rfl⟩ : ∃ q : Nat, s = q := ⟨s.toNat, by omega⟩
    exact text_good id p q d w h1 (by omega) (by omega) hd
  · unfold otx oer
    rw [if_neg h, if_neg h]
    exact text_bad id v s d w h
/-- The tag, and whether a text is it. -/
def omk (id : ByteArray) (v s : Int) (d : ByteArray) : ByteArray := if okOf id v s then (dg 0 (txl id v s d)).extract 0 8 else ⟨#[]⟩
def ois (id : ByteArray) (v s : Int) (d t : ByteArray) : Bool := decide (okOf id v s) && decide (omk id v s d = t)
theorem oer_ok {id : ByteArray} {v s : Int} (h : okOf id v s) : oer id v s = 0 := if_pos h
theorem oer_no {id : ByteArray} {v s : Int} (h : ¬ okOf id v s) : oer id v s = 1 := if_neg h
theorem otx_ok {id : ByteArray} {v s : Int} {d : ByteArray} (h : okOf id v s) : otx id v s d = ⟨(txl id v s d).toArray⟩ := if_pos h
theorem otx_no {id : ByteArray} {v s : Int} {d : ByteArray} (h : ¬ okOf id v s) : otx id v s d = ⟨#[]⟩ := if_neg h
theorem omk_ok {id : ByteArray} {v s : Int} {d : ByteArray} (h : okOf id v s) : omk id v s d = (dg 0 (txl id v s d)).extract 0 8 := if_pos h
theorem omk_no {id : ByteArray} {v s : Int} {d : ByteArray} (h : ¬ okOf id v s) : omk id v s d = ⟨#[]⟩ := if_neg h
theorem omk_size {id : ByteArray} {v s : Int} {d : ByteArray} (h : okOf id v s) : (omk id v s d).size = 8 := by
  rw [omk_ok h, ← sb_length, sb_extract, List.length_take, List.length_drop, sb_length, dg_size]; rfl
theorem otx_size {id : ByteArray} {v s : Int} {d : ByteArray} (h : okOf id v s) : (otx id v s d).size = 20 + d.size := by
  rw [otx_ok h, ← sb_length, sb_mk, txl_length, h.1]

set_option maxRecDepth 100000 in
set_option maxHeartbeats 4000000 in
theorem make_any (id : ByteArray) (v s : Int) (d : ByteArray) (w : World) (hd : d.size ≤ 100000) :
    Calls Try.prog 9 #[.agg #[.string id, .int .i64 v, .int .i64 s, .string d]] w fun e w' => e = .returned (.tuple #[.string (omk id v s d), .int .i64 (oer id v s)]) ∧ Below w.heap.size w w' := by
  by_cases h : okOf id v s
  · have HO := hide h
    have hN : (otx id v s d).size < 2305843009213693952 := by rw [otx_size h]; omega
    have HN := hide hN
    obtain ⟨D, eD⟩ : ∃ D, dg 0 (txl id v s d) = D := ⟨_, rfl⟩
    have lD : D.size = 32 := by rw [← eD, dg_size]
    have lDI : (D.size : Int) = 32 := by omega
    have HD := hide eD
    have hdd := hide hd
    rw [oer_ok h]
    clear h hN eD hd lD
    go_enter Try.func9, Try.ntmps9
    go_wp2_with fail
    refine (text_any id v s d _ hdd.out).mono ?_
    rintro e w1 ⟨rfl, hB1⟩
    rw [oer_ok HO.out]
    have HB1 := hide (below_past hB1)
    clear hB1
    go_wp2_with fail
    refine (bsum_any (otx id v s d) _ HN.out).mono ?_
    rintro e w2 ⟨rfl, hB2⟩
    have e1 : dg 0 (sb (otx id v s d)) = D := by rw [otx_ok HO.out, sb_mk, HD.out]
    rw [e1]
    have HB2 := hide (HB1.out.trans (hB2.mono HB1.out.size))
    clear hB2 e1
    go_wp2_with fail
    go_ret2
    rw [omk_ok HO.out, HD.out]
    exact ⟨rfl, HB2.out⟩
  · have HO := hide h
    have hdd := hide hd
    rw [oer_no h, omk_no h]
    clear h hd
    go_enter Try.func9, Try.ntmps9
    go_wp2_with fail
    refine (text_any id v s d _ hdd.out).mono ?_
    rintro e w1 ⟨rfl, hB1⟩
    rw [oer_no HO.out]
    have HB1 := hide (below_past hB1)
    clear hB1
    go_wp2_with fail
    go_ret2
    exact ⟨rfl, HB1.out⟩

set_option maxRecDepth 100000 in
set_option maxHeartbeats 4000000 in
theorem is_any (id : ByteArray) (v s : Int) (d t : ByteArray) (w : World) (hd : d.size ≤ 100000) :
    Calls Try.prog 13 #[.agg #[.string id, .int .i64 v, .int .i64 s, .string d], .string t] w fun e w' => e = .returned (.bool (ois id v s d t)) ∧ Below w.heap.size w w' := by
  by_cases h : okOf id v s
  · have HO := hide h
    have hdd := hide hd
    clear h hd
    go_enter Try.func13, Try.ntmps13
    go_wp2_with fail
    refine (make_any id v s d _ hdd.out).mono ?_
    rintro e w1 ⟨rfl, hB1⟩
    rw [oer_ok HO.out]
    have HB1 := hide (below_past hB1)
    clear hB1
    go_wp2_with fail
    go_ret
    exact ⟨by unfold ois; rw [decide_eq_true HO.out, Bool.true_and, ← toList_beq]; rfl, HB1.out⟩
  · have HO := hide h
    have hdd := hide hd
    clear h hd
    go_enter Try.func13, Try.ntmps13
    go_wp2_with fail
    refine (make_any id v s d _ hdd.out).mono ?_
    rintro e w1 ⟨rfl, hB1⟩
    rw [oer_no HO.out]
    have HB1 := hide (below_past hB1)
    clear hB1
    go_wp2_with fail
    go_ret
    exact ⟨by unfold ois; rw [decide_eq_false HO.out]; rfl, HB1.out⟩
end Go.Proofs.Ytjdgaolailfplaa
