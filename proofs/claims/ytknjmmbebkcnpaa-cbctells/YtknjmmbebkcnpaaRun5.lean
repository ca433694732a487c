/- Several texts of ours, one behind the other; what each is for stands ahead of it. -/
import Derived.Test.YtknjmmbebkcnpaaRun3
import Derived.Test.YtknjmmbebkcnpaaRun4
import Derived.Test.YtknjmmbebkcnpaaRun1
import Derived.WalkKit
import Derived.Laws.IdiomCopy
import Derived.Shelf.RegionOpenPlain
import Derived.Lib.Builder
import Derived.Lib.AppendStr
import Derived.Lib.UnsafeStr
import Derived.Lib.Walk
import Derived.Laws.Externs
import Derived.Shelf.Strings.Builder2
import Derived.Shelf.Strings.Builder1

/- The iterator over a text's blocks: each of them, one behind the other, whatever is done with them. For texts of whole blocks, of at most 2 to the power of 40 bytes. -/
namespace Go.Proofs.Ytknjmmbebkcnpaa
open Go.RowKit Go.Shelf Bk
set_option linter.unusedVariables false
set_option linter.unusedSimpArgs false
attribute [local go_sem] Oper.semAt_some

/-- A block of bytes; what comes in a round: its block. -/
abbrev B16 : Type := { l : List UInt8 // l.length = 16 }
def encC (x : B16) : Array Value := #[.agg (bs x.1).toArray]
/-- The first k blocks of a text. -/
def Bks (T : ByteArray) (k : Nat) (pre : List B16) : Prop := pre.map (·.1) = (List.range k).map (blk (sb T))
theorem Bks.length {T : ByteArray} {k : Nat} {pre : List B16} (h : Bks T k pre) : pre.length = k := by
  have := congrArg List.length h
  simpa using this
theorem Bks.snoc {T : ByteArray} {k : Nat} {pre : List B16} (h : Bks T k pre) (x : B16) (hx : x.1 = blk (sb T) k) : Bks T (k + 1) (pre ++ [x]) := by
  unfold Bks at h ⊢
  rw [List.map_append, h, List.range_succ, List.map_append, List.map_singleton, List.map_singleton, hx]
/-- What a round must keep: the text's box. -/
def KpC (B : Nat) (W W' : World) : Prop := W'.cell? ⟨B, 0, none⟩ = W.cell? ⟨B, 0, none⟩
theorem kpC_t {B : Nat} {X Y Z : World} (h : KpC B X Y) (k : KpC B Y Z) : KpC B X Z := Eq.trans k h
theorem cell_lt {W : World} {b o : Nat} {v : Value} (h : W.cell? ⟨b, o, none⟩ = some v) : b < W.heap.size := by
  obtain ⟨ob, ho, _⟩ := cells_of_cell h
  exact (Array.getElem?_eq_some_iff.1 ho).1
theorem grown_of_below {A B : World} (h : Below A.heap.size A B) : A.grownBy B none := ⟨h.os, h.tape, h.output, h.size, fun k hk _ => h.block k hk⟩

set_option maxRecDepth 100000 in
set_option maxHeartbeats 4000000 in
theorem blocker_in (d l Bt n : Nat) (hd : 1 ≤ d) (T : ByteArray) (hT : T.size = 16 * n) (hn : n ≤ 68719476736) (J Jx : List B16 → World → Prop)
    (hJ : ∀ s A B, J s A → Below A.heap.size A B → J s B)
    (hY : ∀ pre x W, J pre W → pre.length < n → YieldAt Fence.wide (d - 1) Try.prog l (encC x) W fun e W' =>
      (e = .returned (.bool true) ∧ J (pre ++ [x]) W' ∧ KpC Bt W W') ∨ (e = .returned (.bool false) ∧ Jx (pre ++ [x]) W'))
    (W : World) (hBt : W.cell? ⟨Bt, 0, none⟩ = some (.string T)) (h0 : J [] W) :
    CallsIn Fence.wide d Try.prog 58 #[.func (.yield l) #[] #[], .pointer (some ⟨Bt, 0, none⟩)] W fun e W' => (∃ v, e = .returned v) ∧
      ((∃ ys, Bks T n ys ∧ J ys W') ∨ (∃ pre, True ∧ Jx pre W')) := by
  have hro : Fence.wide.round = none := rfl
  have hTI : (T.size : Int) = 16 * (n : Int) := by omega
  refine callsIn_of_wp Try.func58 rfl trivial ?_ hro
  simp only [Try.ntmps58, List.size_toArray, List.length_cons, List.length_nil, Nat.reduceAdd, Nat.reduceSub, Array.replicate_succ, Array.replicate_zero, List.push_toArray, List.append_toArray, List.nil_append, List.cons_append]
  gi_wp2
  gi_loopw [3] (fun i wr => ∃ k : Nat, k ≤ n ∧ i = .int .i64 (16 * (k : Int)) ∧ (∃ pre, Bks T k pre ∧ J pre wr) ∧ wr.cell? ⟨Bt, 0, none⟩ = some (.string T))
    (fun i _ => 16 * n - (intOf i).toNat)
  case atStart => exact ⟨0, Nat.zero_le _, rfl, ⟨[], rfl, h0⟩, hBt⟩
  case round =>
    obtain ⟨k, hk, rfl, ⟨pre, hpre, hJs⟩, hbp⟩ := hrel
    by_cases hlt : k < n
    · have hltI : (16 * (k : Int)) < 16 * (n : Int) := by omega
      have hltS : (16 * (k : Int)) < (T.size : Int) := by omega
      obtain ⟨y, hy⟩ : ∃ y, T.extract (16 * k) T.size = y := ⟨_, rfl⟩
      have zy : 16 ≤ y.size := by rw [← hy, ByteArray.size_extract]; omega
      have sy : (sb y).take 16 = blk (sb T) k := by
        rw [← hy, sb_extract, List.take_take, Nat.min_eq_left (by omega)]; rfl
      have hsl : ∀ w, (Instr.slice 9 (.string T) (some (.int .i64 (16 * (k : Int)))) none none).run Try.prog w = .ok (.string y) w := fun w => by
        rw [run_slice_string_l w 9 T Try.underlying9 .i64 (16 * (k : Int)) (by omega) (by omega), show (16 * (k : Int)).toNat = 16 * k by omega, hy]
      have HJS := hide hJs
      have HPR := hide hpre
      have lbk : (blk (sb T) k).length = 16 := blk_length (by rw [sb_length, hT]) hlt
      obtain ⟨xb, hxb⟩ : ∃ xb : B16, xb.1 = blk (sb T) k := ⟨⟨_, lbk⟩, rfl⟩
      rw [← hxb] at sy
      have HY := hide (And.intro zy sy)
      have HXB := hide hxb
      have hstep : IntKind.i64.wrap (16 * (k : Int) + 16) = 16 * (k : Int) + 16 := IntWalk.i64_in _ (by omega)
      clear zy sy hJs hy hpre hxb lbk
      gi_wp2_with fail
      refine ⟨trivial, (callsIn_wide.2 (blockOf_any y _ HY.out.1)).mono ?_⟩
      rintro e w1 ⟨rfl, hw1⟩
      rw [HY.out.2]
      obtain ⟨fn, tmps, assign, body, hyl, hR⟩ := hY pre xb w1 (hJ _ _ _ HJS.out hw1) (by rw [HPR.out.length]; exact hlt)
      have hbp1 := (hw1.cell (p := ⟨Bt, 0, none⟩) (cell_lt hbp)).trans hbp
      dsimp only [encC] at hyl
      obtain ⟨t, et⟩ : ∃ t, (bs xb.1).toArray = t := ⟨_, rfl⟩
      rw [et] at hyl ⊢
      clear et hw1
      gi_wp2
      refine hR.mono ?_
      rintro e W3 (⟨rfl, hJ3, hk3⟩ | ⟨rfl, hJx3⟩)
      · gi_wp2
        go_roundw
        case rel => exact ⟨k + 1, by omega, by go_num, ⟨_, HPR.out.snoc xb HXB.out, hJ3⟩, hk3.trans hbp1⟩
        case measure => simp [intOf]; omega
      · gi_wp2
        refine bodyPost_ret (results_none rfl _ _ _) rfl ?_
        exact ⟨⟨_, rfl⟩, .inr ⟨_, trivial, hJx3⟩⟩
    · obtain rfl : k = n := by omega
      have hltS : ¬ (16 * (k : Int)) < (T.size : Int) := by omega
      gi_wp2
      go_end0
      exact ⟨⟨_, rfl⟩, .inl ⟨pre, hpre, hJs⟩⟩

set_option maxHeartbeats 1000000 in
theorem cBlocks_in (d : Nat) (T : ByteArray) (w : World) :
    CallsIn Fence.wide d Try.prog 48 #[.string T] w fun e w' => e = .returned (.func (.func 58) #[] #[.pointer (some ⟨w.heap.size, 0, none⟩)]) ∧ w' = w.alloc (.cells #[.string T] 9) := by
  have hro : Fence.wide.round = none := rfl
  refine callsIn_of_wp Try.func48 rfl trivial ?_ hro
  simp only [Try.ntmps48, List.size_toArray, List.length_cons, List.length_nil, Nat.reduceAdd, Nat.reduceSub, Array.replicate_succ, Array.replicate_zero, List.push_toArray, List.append_toArray, List.nil_append, List.cons_append]
  gi_wp2
  go_ret
  exact ⟨rfl, rfl⟩

/-- blocks' value, as the loop over it takes it. -/
theorem blocks_stops (d : Nat) (hd : 1 ≤ d) (Bt n : Nat) (T : ByteArray) (hT : T.size = 16 * n) (hn : n ≤ 68719476736) (w : World) (ht' : Bt < w.heap.size) (hBt : w.cell? ⟨Bt, 0, none⟩ = some (.string T)) :
    SeqStopsK Fence.wide d Try.prog 58 #[.pointer (some ⟨Bt, 0, none⟩)] encC (KpC Bt) (Bks T n) (fun _ => True) n w := fun l J Jx W hW hA _ hY h0 =>
  blocker_in d l Bt n hd T hT hn J Jx (fun s A B hs hB => hA s A B none hs (grown_of_below hB) (fun r e => by cases e)) hY W
    ((hW.cell (p := ⟨Bt, 0, none⟩) ht').trans hBt) h0
end Go.Proofs.Ytknjmmbebkcnpaa

/- strings.Builder's WriteString and String, walked at a builder of the call's own. What is written comes to fewer than 2 to the power of 47 bytes. -/
namespace Go.Proofs.Ytknjmmbebkcnpaa
open Go.RowKit Bk
set_option linter.unusedVariables false
set_option linter.unusedSimpArgs false

theorem bld_size : (Try.prog.info? 46).map (·.size) = some 2 := by kernel_rfl
theorem bld_lies : liesAt Try.prog Try.prog.depth 46 (2 / Try.prog.cellsOf 46) 0 46 1 = true := by kernel_rfl
theorem u8_info : (Try.prog.info? 5).map (fun i => (i.zero, i.size, i.bytes)) = some (some (.int .u8 0), 1, 1) := by kernel_rfl
theorem u8_cells : Try.prog.cellsOf 5 = 1 := by kernel_rfl

/-- A builder's address, there and back: as it is. -/
theorem addr_out (w : World) (b : Nat) (hsh : w.shape? b = some (46, 2)) : (convert 44 90 (.pointer (some ⟨b, 0, none⟩))).run Try.prog w = .ok (.pointer (some ⟨b, 0, none⟩)) w := by
  obtain ⟨j, hj, hs⟩ := Option.map_eq_some_iff.1 bld_size
  have h2 : ¬ j.size = 0 := by omega
  simp [convert, run_underlying Try.underlying44, run_underlying Try.underlying90, Conv.unsafePointer, Conv.seenAt, viewAt, cellsIn, sizeOf, typeInfo, hsh, hj, h2]
theorem addr_back (w : World) (b : Nat) (hsh : w.shape? b = some (46, 2)) : (convert 90 44 (.pointer (some ⟨b, 0, none⟩))).run Try.prog w = .ok (.pointer (some ⟨b, 0, none⟩)) w := by
  obtain ⟨j, hj, hs⟩ := Option.map_eq_some_iff.1 bld_size
  simp [convert, run_underlying Try.underlying44, run_underlying Try.underlying90, Conv.unsafePointer, Conv.seenAt, viewAt, variablesAt, sizeOf, typeInfo, hsh, hj, bld_lies]

set_option maxRecDepth 100000 in
theorem copyCheck_used (b : Nat) (w : World) (h0 : w.cell? ⟨b, 0, none⟩ = some (.pointer (some ⟨b, 0, none⟩))) :
    Calls Try.prog 51 #[.pointer (some ⟨b, 0, none⟩)] w fun e w' => e = .returned (.tuple #[]) ∧ w' = w := by
  obtain ⟨j, hj, _⟩ := Option.map_eq_some_iff.1 bld_size
  go_enter Try.func51, Try.ntmps51
  go_wp2
  rw [Lib.run_neq_ptr_same w _ Try.underlying44 hj]
  go_wp2
  go_end0
  exact ⟨rfl, rfl⟩

set_option maxRecDepth 100000 in
theorem copyCheck_fresh (b : Nat) (w : World) (h0 : w.cell? ⟨b, 0, none⟩ = some (.pointer none)) (hsh : w.shape? b = some (46, 2)) (hfz : w.frozen? ⟨b, 0, none⟩ = false) :
    Calls Try.prog 51 #[.pointer (some ⟨b, 0, none⟩)] w fun e w' => e = .returned (.tuple #[]) ∧ w' = w.setCell ⟨b, 0, none⟩ (.pointer (some ⟨b, 0, none⟩)) := by
  obtain ⟨j, hj, hjs⟩ := Option.map_eq_some_iff.1 bld_size
  go_enter Try.func51, Try.ntmps51
  go_wp2
  rw [addr_out w b hsh]
  simp only [Result.andThen]
  rw [Oper.upon_value]
  go_wp2
  rw [run_callFunc_extern Try.func62 (by kernel_rfl) (by kernel_rfl) (by kernel_rfl) (e := Extern.AbiNoEscape.same) (by kernel_rfl)]
  rw [Lib.run_noEscape]
  simp only [Result.andThen]
  rw [Oper.upon_value]
  go_wp2
  rw [addr_back w b hsh]
  simp only [Result.andThen]
  rw [Oper.upon_value]
  go_wp2
  go_end0
  exact ⟨rfl, rfl⟩

theorem copyCheck_any (B b : Nat) (bs : List Value) (w : World) (h : Lib.IsBuilder 46 5 B b bs w) :
    Calls Try.prog 51 #[.pointer (some ⟨b, 0, none⟩)] w fun e w' => e = .returned (.tuple #[]) ∧ (Lib.BuilderAt 46 5 B b (.pointer (some ⟨b, 0, none⟩)) bs w' ∧ Below B w w') := by
  rcases h with h | h
  · refine (copyCheck_fresh b w h.cell0 h.shape h.frozen0).mono ?_
    rintro e w' ⟨rfl, rfl⟩
    exact ⟨rfl, h.used _, (Below.refl B w).setCell (p := ⟨b, 0, none⟩) h.1 _⟩
  · refine (copyCheck_used b w h.cell0).mono ?_
    rintro e w' ⟨rfl, rfl⟩
    exact ⟨rfl, h, Below.refl B _⟩

set_option maxRecDepth 100000 in
set_option maxHeartbeats 2000000 in
theorem bwrite_any (B b : Nat) (bs : List Value) (s : ByteArray) (w : World) (h : Lib.IsBuilder 46 5 B b bs w) (hlen : bs.length + s.size ≤ 140737488355328) (hBw : B ≤ w.heap.size) :
    Calls Try.prog 32 #[.pointer (some ⟨b, 0, none⟩), .string s] w fun e w' => e = .returned (.tuple #[.int .i64 s.size, .nilIface]) ∧ (Lib.IsBuilder 46 5 B b (bs ++ Lib.strCells s) w' ∧ Below B w w') := by
  obtain ⟨i0, hi, hz0, hz1, hz2⟩ := info_parts u8_info
  go_enter Try.func32, Try.ntmps32
  go_wp2_with fail
  refine (copyCheck_any B b bs _ h).mono ?_
  rintro e w1 ⟨rfl, h1, hb1⟩
  obtain ⟨hB, v, hbk, hown, hne⟩ := h1
  have c0 : w1.cell? ⟨b, 0, none⟩ = some (.pointer (some ⟨b, 0, none⟩)) := by rw [Lib.cell_of_heap hbk]; rfl
  have c1 : w1.cell? ⟨b, 1, none⟩ = some v := by rw [Lib.cell_of_heap hbk]; rfl
  go_wp2_with (at_builtin; refine Lib.wpList_append_own_string _ rfl _ _ 28 9 rfl B 5 i0 Try.underlying28 Try.underlying9 hi hz0 hz1 hz2 _ _ _ rfl hown s rfl ?c3 ?c4 ?c5 ?_)
  case c3 => unfold maxLen; omega
  case c4 => omega
  case c5 => have := hb1.size; omega
  intro v' w2 hown' hgrow _
  have hlt : b < w1.heap.size := by
    rcases Nat.lt_or_ge b w1.heap.size with h' | h'
    · exact h'
    · simp [Array.getElem?_eq_none h'] at hbk
  have hb2 : w2.heap[b]? = some (.cells #[.pointer (some ⟨b, 0, none⟩), v] 46 (0, 0)) := by
    rw [hgrow.block b hlt (fun e => hne e.symm)]
    exact hbk
  have d0 : w2.cell? ⟨b, 0, none⟩ = some (.pointer (some ⟨b, 0, none⟩)) := by rw [Lib.cell_of_heap hb2]; rfl
  have d1 : w2.cell? ⟨b, 1, none⟩ = some v := by rw [Lib.cell_of_heap hb2]; rfl
  have f1 : w2.frozen? ⟨b, 1, none⟩ = false := Lib.frozen_of_heap hb2 1
  obtain ⟨ao, n', cap, rfl⟩ : ∃ ao n' cap, v' = .slice ao n' cap := by
    rcases hown'.2 with ⟨hv, _⟩ | ⟨g, cap, cur, hv, _⟩
    · exact ⟨_, _, _, hv⟩
    · exact ⟨_, _, _, hv⟩
  go_wp2
  go_ret2
  refine ⟨rfl, .inr ?_, ?_⟩
  · exact Lib.BuilderAt.put (T := 46) (e := 5) hB hb2 (bs' := bs ++ Lib.strCells s) (by simpa [Lib.strCells_length] using hown') (by decide)
  · exact (hb1.grown hgrow (by have := hb1.size; omega) (fun k hk => (hown.lt k hk).1)).setCell (p := ⟨b, 1, none⟩) hB _

set_option maxRecDepth 100000 in
set_option maxHeartbeats 2000000 in
theorem bstring_any (B b : Nat) (l : List UInt8) (w : World) (h : Lib.IsBuilder 46 5 B b (Lib.byteCells l) w) (h0 : l ≠ []) :
    Calls Try.prog 33 #[.pointer (some ⟨b, 0, none⟩)] w fun e w' => e = .returned (.string ⟨l.toArray⟩) ∧ Below B w w' := by
  obtain ⟨p, hB, v, hbk, hown, hne⟩ : ∃ p, Lib.BuilderAt 46 5 B b p (Lib.byteCells l) w := by
    rcases h with h | h
    · exact ⟨_, h⟩
    · exact ⟨_, h⟩
  have hl0 : l.length ≠ 0 := by simpa using h0
  rw [Lib.byteCells_length] at hown
  obtain ⟨g, cap, cur, rfl, hbg, hg, hnc, hcm, hcs, htake⟩ : ∃ g cap cur, v = .slice (some ⟨g, 0, none⟩) l.length cap ∧ B ≤ g ∧ w.heap[g]? = some (.cells cur 5 (0, 0)) ∧ l.length ≤ cap ∧ cap ≤ maxLen ∧ cur.size = cap * 1 ∧ cur.toList.take (l.length * 1) = Lib.byteCells l := by
    rcases hown.2 with ⟨_, hz⟩ | ⟨g, cap, cur, hv, r⟩
    · exact absurd hz hl0
    · exact ⟨g, cap, cur, hv, r⟩
  have c1 : w.drew.cell? ⟨b, 1, none⟩ = some (.slice (some ⟨g, 0, none⟩) l.length cap) := by
    have : w.drew.heap[b]? = some (.cells #[p, .slice (some ⟨g, 0, none⟩) l.length cap] 46 (0, 0)) := hbk
    rw [Lib.cell_of_heap this]; rfl
  have hSD : (Builtin.unsafeSliceData_ #[28] 81 #[.slice (some ⟨g, 0, none⟩) l.length cap]).run Try.prog w.drew = .ok (.pointer (some ⟨g, 0, none⟩)) w.drew :=
    Lib.run_unsafeSliceData_row _ _ _ _ _ _ (by omega)
  have hUS : (Builtin.unsafeString_ #[81, 3] 9 #[.pointer (some ⟨g, 0, none⟩), .int .i64 l.length]).run Try.prog w.drew = .ok (.string ⟨l.toArray⟩) (w.drew.freeze ⟨g, 0, none⟩ l.length) := by
    refine Lib.run_unsafeString_row w.drew 81 3 9 5 Try.underlying81 u8_cells g cur.size (by have hg' : w.drew.heap[g]? = some (.cells cur 5 (0, 0)) := hg; simp [World.shape?, hg']) l h0 (by omega) (by unfold maxLen at hcm; omega) ?_
    intro j x hx
    have := hown.cells (g := g) rfl j (.int .u8 x.toNat) (by simp [Lib.byteCells, hx])
    exact this
  go_enter Try.func33, Try.ntmps33
  go_wp2
  go_region
  all_goals (go_wp2; go_ret; exact ⟨rfl, Lib.below_freeze (Below.drew (Below.refl B w)) (p := ⟨g, 0, none⟩) hbg _⟩)
end Go.Proofs.Ytknjmmbebkcnpaa

/- What a call may leave that turns one block alone. No call is walked here. -/
namespace Go.Proofs.Ytknjmmbebkcnpaa
open Go.RowKit Bk
set_option linter.unusedVariables false

/-- Blocks that were there are as they were, but for block b; a block keeps its type. -/
structure Bt (b : Nat) (w w' : World) : Prop where
  os : w'.os = w.os
  tape : w'.tape = w.tape
  output : w'.output = w.output
  size : w.heap.size ≤ w'.heap.size
  block : ∀ k, k < w.heap.size → k ≠ b → w'.heap[k]? = w.heap[k]?
theorem Bt.refl (b : Nat) (w : World) : Bt b w w := ⟨rfl, rfl, rfl, Nat.le_refl _, fun _ _ _ => rfl⟩
theorem Bt.trans {b : Nat} {w w' w'' : World} (h : Bt b w w') (k : Bt b w' w'') : Bt b w w'' :=
  ⟨k.os.trans h.os, k.tape.trans h.tape, k.output.trans h.output, Nat.le_trans h.size k.size, fun i hi hn => (k.block i (Nat.lt_of_lt_of_le hi h.size) hn).trans (h.block i hi hn)⟩
theorem Bt.of_below {b : Nat} {w w' : World} (h : Below w.heap.size w w') : Bt b w w' := ⟨h.os, h.tape, h.output, h.size, fun k hk _ => h.block k hk⟩
theorem Bt.below {b B : Nat} {w w' : World} (h : Bt b w w') (hB : B ≤ b) (hs : B ≤ w.heap.size) : Below B w w' := ⟨h.os, h.tape, h.output, h.size, fun k hk => h.block k (by omega) (by omega)⟩
theorem Bt.drew {b : Nat} {w w' : World} (h : Bt b w w') : Bt b w w'.drew := ⟨h.os, h.tape, h.output, h.size, h.block⟩
theorem Bt.setCell {b : Nat} {w w' : World} (h : Bt b w w') (o : Nat) (v : Value) : Bt b w (w'.setCell ⟨b, o, none⟩ v) :=
  h.trans ⟨rfl, rfl, rfl, by simp [World.setCell], fun k hk hn => Below.heap_setCell _ _ _ _ hn⟩
theorem heap_setCells (b : Nat) : ∀ (vs : List Value) (o : Nat) (w : World) (k : Nat), k ≠ b → (w.setCells b o vs).heap[k]? = w.heap[k]?
  | [], _, _, _, _ => rfl
  | v :: r, o, w, k, hk => by rw [World.setCells, heap_setCells b r _ _ _ hk]; exact Below.heap_setCell _ _ _ _ hk
theorem os_setCells (b : Nat) : ∀ (vs : List Value) (o : Nat) (w : World), (w.setCells b o vs).os = w.os ∧ (w.setCells b o vs).tape = w.tape ∧ (w.setCells b o vs).output = w.output
  | [], _, _ => ⟨rfl, rfl, rfl⟩
  | v :: r, o, w => by rw [World.setCells]; exact os_setCells b r (o + 1) _
theorem Bt.setCells {b : Nat} {w w' : World} (h : Bt b w w') (o : Nat) (vs : List Value) : Bt b w (w'.setCells b o vs) :=
  have k := os_setCells b vs o w'
  h.trans ⟨k.1, k.2.1, k.2.2, by rw [size_setCells]; exact Nat.le_refl _, fun i hi hn => heap_setCells b vs o w' i hn⟩
theorem Bt.alloc {b : Nat} {w w' : World} (h : Bt b w w') (o : Obj) : Bt b w (w'.alloc o) := h.trans (Bt.of_below ((Below.refl _ _).alloc (Nat.le_refl _) o))

theorem Row.bt {w w' : World} {b c o : Nat} {cs : List Value} (h : Row w b o cs) (k : Bt c w w') (hne : b ≠ c) : Row w' b o cs :=
  ⟨Nat.lt_of_lt_of_le h.lt k.size, fun j v hj => (World.cell?_of_block (w := w) (k.block b h.lt hne)).trans (h.cell j v hj), fun j hj => (World.frozen?_of_block (w := w) (k.block b h.lt hne)).trans (h.free j hj)⟩
end Go.Proofs.Ytknjmmbebkcnpaa

/- strings.Builder's Grow, WriteByte, WriteString and String over this program: the shelf's, laid in plain words. No condition but sizes: facts of the program alone. -/
namespace Go.Proofs.Ytknjmmbebkcnpaa
open Go.Shelf Go.RowKit Bk
set_option linter.unusedVariables false

def laysRen : Ren where
  f := fun x => match x with
    | 165 => 30
    | 167 => 31
    | 240 => 51
    | 241 => 52
    | 276 => 62
    | 277 => 63
    | n => n
  t := fun x => match x with
    | 0 => 0
    | 3 => 3
    | 4 => 4
    | 5 => 5
    | 9 => 9
    | 20 => 20
    | 37 => 28
    | 70 => 44
    | 72 => 46
    | 75 => 49
    | 80 => 41
    | 164 => 90
    | n => n
  g := fun n => n
theorem laysGrow : Lays.n165 Try.prog laysRen where
  mixed := by kernel_rfl
  f165 := Try.func30.trans (congrArg some (by kernel_rfl))
  f240 := Try.func51.trans (congrArg some (by kernel_rfl))
  f241 := Try.func52.trans (congrArg some (by kernel_rfl))
  f276 := Try.func62.trans (congrArg some (by kernel_rfl))
  f277 := Try.func63.trans (congrArg some (by kernel_rfl))
  t0 := Try.underlying0
  a0 := Try.isAgg0
  z0 := Try.sizeOf0
  v0 := Try.zeroValue0
  t3 := Try.underlying3
  a3 := Try.isAgg3
  z3 := Try.sizeOf3
  v3 := Try.zeroValue3
  t4 := Try.underlying4
  a4 := Try.isAgg4
  z4 := Try.sizeOf4
  v4 := Try.zeroValue4
  t9 := Try.underlying9
  a9 := Try.isAgg9
  z9 := Try.sizeOf9
  v9 := Try.zeroValue9
  t20 := Try.underlying20
  a20 := Try.isAgg20
  z20 := Try.sizeOf20
  v20 := Try.zeroValue20
  t37 := Try.underlying28
  a37 := Try.isAgg28
  z37 := Try.sizeOf28
  v37 := Try.zeroValue28
  t70 := Try.underlying44
  a70 := Try.isAgg44
  z70 := Try.sizeOf44
  v70 := Try.zeroValue44
  t72 := Try.underlying46
  a72 := Try.isAgg46
  z72 := Try.sizeOf46
  v72 := Try.zeroValue46
  t164 := Try.underlying90
  a164 := Try.isAgg90
  z164 := Try.sizeOf90
  v164 := Try.zeroValue90
theorem laysByte : Lays.n167 Try.prog laysRen where
  mixed := by kernel_rfl
  f167 := Try.func31.trans (congrArg some (by kernel_rfl))
  f240 := Try.func51.trans (congrArg some (by kernel_rfl))
  f276 := Try.func62.trans (congrArg some (by kernel_rfl))
  t0 := Try.underlying0
  a0 := Try.isAgg0
  z0 := Try.sizeOf0
  v0 := Try.zeroValue0
  t4 := Try.underlying4
  a4 := Try.isAgg4
  z4 := Try.sizeOf4
  v4 := Try.zeroValue4
  t5 := Try.underlying5
  a5 := Try.isAgg5
  z5 := Try.sizeOf5
  v5 := Try.zeroValue5
  t9 := Try.underlying9
  a9 := Try.isAgg9
  z9 := Try.sizeOf9
  v9 := Try.zeroValue9
  t20 := Try.underlying20
  a20 := Try.isAgg20
  z20 := Try.sizeOf20
  v20 := Try.zeroValue20
  t37 := Try.underlying28
  a37 := Try.isAgg28
  z37 := Try.sizeOf28
  v37 := Try.zeroValue28
  t70 := Try.underlying44
  a70 := Try.isAgg44
  z70 := Try.sizeOf44
  v70 := Try.zeroValue44
  t72 := Try.underlying46
  a72 := Try.isAgg46
  z72 := Try.sizeOf46
  v72 := Try.zeroValue46
  t75 := Try.underlying49
  a75 := Try.isAgg49
  z75 := Try.sizeOf49
  v75 := Try.zeroValue49
  t164 := Try.underlying90
  a164 := Try.isAgg90
  z164 := Try.sizeOf90
  v164 := Try.zeroValue90
theorem laysExtra : Builder.Extra Try.prog laysRen where
  sizeBuilder := by kernel_rfl
  liesBuilder := by kernel_rfl
  t5 := laysByte.t5
  a5 := laysByte.a5
  z5 := laysByte.z5
  v5 := laysByte.v5
  infoByte := by kernel_rfl
  cellsByte := by kernel_rfl
  sizeByte := by kernel_rfl
  neB5 := by decide
/-- A builder in block b, of a call's own from block B on, holds the bytes l. -/
def Bd (w : World) (B b : Nat) (l : List UInt8) : Prop := B ≤ w.heap.size ∧ Lib.IsBuilder 46 5 B b (bs l) w
/-- What is no row of bytes, and not block b, is left as it lay. -/
def Fo (b : Nat) (w w' : World) : Prop := ∀ k o, k ≠ b → w.heap[k]? = some o → (∀ cur q, o ≠ .cells cur 5 q) → w'.heap[k]? = some o
theorem bld_at {w : World} {B b : Nat} {l : List UInt8} (h : Lib.IsBuilder 46 5 B b (bs l) w) : B ≤ b ∧ ∃ p v, (p = .pointer none ∨ p = .pointer (some ⟨b, 0, none⟩)) ∧ w.heap[b]? = some (.cells #[p, v] 46 (0, 0)) ∧ w.ownsRow B 5 1 v (bs l).length (bs l) ∧ v.ownBlock ≠ some b := by
  rcases h with ⟨h1, v, h2, h3, h4⟩ | ⟨h1, v, h2, h3, h4⟩
  · exact ⟨h1, _, v, .inl rfl, h2, h3, h4⟩
  · exact ⟨h1, _, v, .inr rfl, h2, h3, h4⟩
theorem Bd.lt {w : World} {B b : Nat} {l : List UInt8} (h : Bd w B b l) : B ≤ b ∧ b < w.heap.size := by
  obtain ⟨h1, p, v, _, h2, _⟩ := bld_at h.2
  exact ⟨h1, (Array.getElem?_eq_some_iff.1 h2).1⟩
theorem Bd.kept {w w' : World} {B b : Nat} {l : List UInt8} (h : Bd w B b l) (hs : w.heap.size ≤ w'.heap.size) (hk : ∀ k, B ≤ k → (∃ c t q, w.heap[k]? = some (.cells c t q)) → w'.heap[k]? = w.heap[k]?) : Bd w' B b l := by
  have own : ∀ v, w.ownsRow B 5 1 v (bs l).length (bs l) → w'.ownsRow B 5 1 v (bs l).length (bs l) := by
    rintro v ⟨e, hv⟩
    refine ⟨e, hv.imp id ?_⟩
    rintro ⟨g, cap, cur, e1, e2, e3, e4⟩
    exact ⟨g, cap, cur, e1, e2, (hk g e2 ⟨_, _, _, e3⟩).trans e3, e4⟩
  refine ⟨Nat.le_trans h.1 hs, ?_⟩
  rcases h.2 with ⟨h1, v, h2, h3, h4⟩ | ⟨h1, v, h2, h3, h4⟩
  · exact .inl ⟨h1, v, (hk b h1 ⟨_, _, _, h2⟩).trans h2, own v h3, h4⟩
  · exact .inr ⟨h1, v, (hk b h1 ⟨_, _, _, h2⟩).trans h2, own v h3, h4⟩
theorem Bd.below {w w' : World} {B b : Nat} {l : List UInt8} (h : Bd w B b l) (k : Below w.heap.size w w') : Bd w' B b l :=
  h.kept k.size fun i _ hi => by
    obtain ⟨c, t, q, e⟩ := hi
    exact k.block i (Array.getElem?_eq_some_iff.1 e).1
theorem Bd.bt {w w' : World} {B b c : Nat} {l : List UInt8} (h : Bd w B b l) (k : Bt c w w') (hc : c < B) : Bd w' B b l :=
  h.kept k.size fun i hB hi => by
    obtain ⟨c', t, q, e⟩ := hi
    exact k.block i (Array.getElem?_eq_some_iff.1 e).1 (by omega)
theorem Bd.drew {w : World} {B b : Nat} {l : List UInt8} (h : Bd w B b l) : Bd w.drew B b l := h.kept (Nat.le_refl _) fun _ _ _ => rfl
theorem Bd.drewN {w : World} {B b : Nat} {l : List UInt8} (h : Bd w B b l) (q : Nat) : Bd (w.drewN q) B b l := h.kept (Nat.le_refl _) fun _ _ _ => rfl
theorem Bd.new (w : World) (B : Nat) (hB : B ≤ w.heap.size) : Bd (w.alloc (.cells #[.pointer none, .slice none 0 0] 46)) B w.heap.size [] := by
  refine ⟨by simp; omega, .inl ⟨hB, .slice none 0 0, heap_alloc_new w _, World.ownsRow_nil _ _ _ _, by simp [Value.ownBlock]⟩⟩
theorem Fo.refl (b : Nat) (w : World) : Fo b w w := fun _ _ _ h _ => h
theorem Fo.trans {b : Nat} {w w1 w2 : World} (h : Fo b w w1) (k : Fo b w1 w2) : Fo b w w2 := fun i o hi ho hn => k i o hi (h i o hi ho hn) hn
theorem Fo.of_below {b : Nat} {w w' : World} (h : Below w.heap.size w w') : Fo b w w' := fun k o _ ho _ => (h.block k (Array.getElem?_eq_some_iff.1 ho).1).trans ho

theorem bgrow_c (B b n : Nat) (w : World) (hB : B ≤ b) (hbk : w.heap[b]? = some (.cells #[.pointer none, .slice none 0 0] 46 (0, 0))) (hBw : B ≤ w.heap.size) (hn : n ≤ 281474976710656) :
    Calls Try.prog 30 #[.pointer (some ⟨b, 0, none⟩), .int .i64 n] w fun e w' => e = .returned (.tuple #[]) ∧ Bd w' B b [] ∧ Below B w w' := by
  refine (Any.Builder_Grow_fresh laysGrow laysExtra B b n w hB hbk hBw hn).mono ?_
  rintro e w' ⟨rfl, h1, h2⟩
  exact ⟨rfl, ⟨Nat.le_trans hBw h2.size, .inr h1⟩, h2⟩
theorem bbyte_c (B b : Nat) (l : List UInt8) (c : UInt8) (w : World) (h : Bd w B b l) (hlen : l.length + 1 ≤ 140737488355328) :
    Calls Try.prog 31 #[.pointer (some ⟨b, 0, none⟩), .int .u8 (c.toNat : Int)] w fun e w' => e = .returned .nilIface ∧ Bd w' B b (l ++ [c]) ∧ Below B w w' := by
  refine (Any.Builder_WriteByte laysByte laysExtra B b (bs l) (c.toNat : Int) w h.2 (by rw [bs_length]; exact hlen) h.1).mono ?_
  rintro e w' ⟨rfl, h1, h2⟩
  exact ⟨rfl, ⟨Nat.le_trans h.1 h2.size, .inr (by rw [bs_app]; exact h1)⟩, h2⟩
theorem bwrite_c (B b : Nat) (l : List UInt8) (s : ByteArray) (w : World) (h : Bd w B b l) (hlen : l.length + s.size ≤ 140737488355328) :
    Calls Try.prog 32 #[.pointer (some ⟨b, 0, none⟩), .string s] w fun e w' => e = .returned (.tuple #[.int .i64 s.size, .nilIface]) ∧ Bd w' B b (l ++ sb s) ∧ Below B w w' := by
  refine (bwrite_any B b (bs l) s w h.2 (by rw [bs_length]; exact hlen) h.1).mono ?_
  rintro e w' ⟨rfl, h1, h2⟩
  exact ⟨rfl, ⟨Nat.le_trans h.1 h2.size, by rw [bs_app]; exact h1⟩, h2⟩
theorem bstring_c (B b : Nat) (l : List UInt8) (w : World) (h : Bd w B b l) (h0 : l ≠ []) :
    Calls Try.prog 33 #[.pointer (some ⟨b, 0, none⟩)] w fun e w' => e = .returned (.string ⟨l.toArray⟩) ∧ Below B w w' := bstring_any B b l w h.2 h0

set_option maxRecDepth 100000 in
set_option maxHeartbeats 2000000 in
/-- .. and what a builder's writing leaves as it lay. -/
theorem bwriteF_c (B b : Nat) (l : List UInt8) (s : ByteArray) (w : World) (h : Bd w B b l) (hlen : l.length + s.size ≤ 140737488355328) :
    Calls Try.prog 32 #[.pointer (some ⟨b, 0, none⟩), .string s] w fun e w' => e = .returned (.tuple #[.int .i64 s.size, .nilIface]) ∧ Bd w' B b (l ++ sb s) ∧ Below B w w' ∧ Fo b w w' := by
  obtain ⟨i0, hi, hz0, hz1, hz2⟩ := info_parts u8_info
  have hBw := h.1
  have hlen' : (bs l).length + s.size ≤ 140737488355328 := by rw [bs_length]; exact hlen
  have chk : Calls Try.prog 51 #[.pointer (some ⟨b, 0, none⟩)] w fun e w' => e = .returned (.tuple #[]) ∧ (Lib.BuilderAt 46 5 B b (.pointer (some ⟨b, 0, none⟩)) (bs l) w' ∧ Below B w w' ∧ ∀ k, k ≠ b → w'.heap[k]? = w.heap[k]?) := by
    rcases h.2 with h | h
    · refine (copyCheck_fresh b w h.cell0 h.shape h.frozen0).mono ?_
      rintro e w' ⟨rfl, rfl⟩
      exact ⟨rfl, h.used _, (Below.refl B w).setCell (p := ⟨b, 0, none⟩) h.1 _, fun k hk => Below.heap_setCell _ _ _ _ hk⟩
    · refine (copyCheck_used b w h.cell0).mono ?_
      rintro e w' ⟨rfl, rfl⟩
      exact ⟨rfl, h, Below.refl B _, fun _ _ => rfl⟩
  have HCk := hide chk
  have HB1 := hide hBw
  clear chk hBw hlen h
  obtain ⟨L, hL⟩ : ∃ L, bs l = L := ⟨_, rfl⟩
  have HLL := hide hL
  rw [hL] at HCk hlen'
  clear hL
  go_enter Try.func32, Try.ntmps32
  go_wp2_with fail
  refine HCk.out.mono ?_
  rintro e w1 ⟨rfl, h1, hb1, hk1⟩
  obtain ⟨hB, v, hbk, hown, hne⟩ := h1
  have c0 : w1.cell? ⟨b, 0, none⟩ = some (.pointer (some ⟨b, 0, none⟩)) := by rw [Lib.cell_of_heap hbk]; rfl
  have c1 : w1.cell? ⟨b, 1, none⟩ = some v := by rw [Lib.cell_of_heap hbk]; rfl
  have HK1 := hide hk1
  clear hk1
  go_wp2_with (at_builtin; refine Lib.wpList_append_own_string _ rfl _ _ 28 9 rfl B 5 i0 Try.underlying28 Try.underlying9 hi hz0 hz1 hz2 _ _ _ rfl hown s rfl ?c3 ?c4 ?c5 ?_)
  case c3 => unfold maxLen; omega
  case c4 => omega
  case c5 => have := hb1.size; have := HB1.out; omega
  intro v' w2 hown' hgrow _
  have hlt : b < w1.heap.size := by
    rcases Nat.lt_or_ge b w1.heap.size with h' | h'
    · exact h'
    · simp [Array.getElem?_eq_none h'] at hbk
  have hb2 : w2.heap[b]? = some (.cells #[.pointer (some ⟨b, 0, none⟩), v] 46 (0, 0)) := by
    rw [hgrow.block b hlt (fun e => hne e.symm)]
    exact hbk
  have d0 : w2.cell? ⟨b, 0, none⟩ = some (.pointer (some ⟨b, 0, none⟩)) := by rw [Lib.cell_of_heap hb2]; rfl
  have d1 : w2.cell? ⟨b, 1, none⟩ = some v := by rw [Lib.cell_of_heap hb2]; rfl
  have f1 : w2.frozen? ⟨b, 1, none⟩ = false := Lib.frozen_of_heap hb2 1
  obtain ⟨ao, n', cap, rfl⟩ : ∃ ao n' cap, v' = .slice ao n' cap := by
    rcases hown'.2 with ⟨hv, _⟩ | ⟨g, cap, cur, hv, _⟩
    · exact ⟨_, _, _, hv⟩
    · exact ⟨_, _, _, hv⟩
  have HF := hide (show Fo b w w2 from fun k o hk ho hn => by
    have ho1 : w1.heap[k]? = some o := (HK1.out k hk).trans ho
    have hkl : k < w1.heap.size := (Array.getElem?_eq_some_iff.1 ho1).1
    refine (hgrow.block k hkl fun e => ?_).trans ho1
    rcases hown.2 with ⟨hv, _⟩ | ⟨g, cap', cur, hv, _, hg, _⟩
    · rw [hv] at e; simp [Value.ownBlock] at e
    · rw [hv] at e
      simp only [Value.ownBlock, Option.some.injEq] at e
      subst e
      rw [hg] at ho1
      exact hn _ _ (Option.some.inj ho1).symm)
  go_wp2
  go_ret2
  have hx : Lib.IsBuilder 46 5 B b (bs (l ++ sb s)) (w2.setCell ⟨b, 1, none⟩ (.slice ao n' cap)) := by
    rw [bs_app, HLL.out]
    exact .inr (Lib.BuilderAt.put (T := 46) (e := 5) hB hb2 (bs' := L ++ Lib.strCells s) (by simpa [Lib.strCells_length] using hown') (by decide))
  have hb : Below B w (w2.setCell ⟨b, 1, none⟩ (.slice ao n' cap)) := (hb1.grown hgrow (by have := hb1.size; have := HB1.out; omega) (fun k hk => (hown.lt k hk).1)).setCell (p := ⟨b, 1, none⟩) hB _
  exact ⟨rfl, ⟨Nat.le_trans HB1.out hb.size, hx⟩, hb, fun k o hk ho hn => (Below.heap_setCell _ _ _ _ hk).trans (HF.out k o hk ho hn)⟩
set_option maxRecDepth 100000 in
set_option maxHeartbeats 2000000 in
theorem bstringF_c (B b : Nat) (l : List UInt8) (w : World) (hbd : Bd w B b l) (h0 : l ≠ []) :
    Calls Try.prog 33 #[.pointer (some ⟨b, 0, none⟩)] w fun e w' => e = .returned (.string ⟨l.toArray⟩) ∧ Below B w w' ∧ Fo b w w' := by
  have h : Lib.IsBuilder 46 5 B b (Lib.byteCells l) w := hbd.2
  obtain ⟨p, hB, v, hbk, hown, hne⟩ : ∃ p, Lib.BuilderAt 46 5 B b p (Lib.byteCells l) w := by
    rcases h with h | h
    · exact ⟨_, h⟩
    · exact ⟨_, h⟩
  have hl0 : l.length ≠ 0 := by simpa using h0
  rw [Lib.byteCells_length] at hown
  obtain ⟨g, cap, cur, rfl, hbg, hg, hnc, hcm, hcs, htake⟩ : ∃ g cap cur, v = .slice (some ⟨g, 0, none⟩) l.length cap ∧ B ≤ g ∧ w.heap[g]? = some (.cells cur 5 (0, 0)) ∧ l.length ≤ cap ∧ cap ≤ maxLen ∧ cur.size = cap * 1 ∧ cur.toList.take (l.length * 1) = Lib.byteCells l := by
    rcases hown.2 with ⟨_, hz⟩ | ⟨g, cap, cur, hv, r⟩
    · exact absurd hz hl0
    · exact ⟨g, cap, cur, hv, r⟩
  have c1 : w.drew.cell? ⟨b, 1, none⟩ = some (.slice (some ⟨g, 0, none⟩) l.length cap) := by
    have : w.drew.heap[b]? = some (.cells #[p, .slice (some ⟨g, 0, none⟩) l.length cap] 46 (0, 0)) := hbk
    rw [Lib.cell_of_heap this]; rfl
  have hSD : (Builtin.unsafeSliceData_ #[28] 81 #[.slice (some ⟨g, 0, none⟩) l.length cap]).run Try.prog w.drew = .ok (.pointer (some ⟨g, 0, none⟩)) w.drew :=
    Lib.run_unsafeSliceData_row _ _ _ _ _ _ (by omega)
  have hUS : (Builtin.unsafeString_ #[81, 3] 9 #[.pointer (some ⟨g, 0, none⟩), .int .i64 l.length]).run Try.prog w.drew = .ok (.string ⟨l.toArray⟩) (w.drew.freeze ⟨g, 0, none⟩ l.length) := by
    refine Lib.run_unsafeString_row w.drew 81 3 9 5 Try.underlying81 u8_cells g cur.size (by have hg' : w.drew.heap[g]? = some (.cells cur 5 (0, 0)) := hg; simp [World.shape?, hg']) l h0 (by omega) (by unfold maxLen at hcm; omega) ?_
    intro j x hx
    have := hown.cells (g := g) rfl j (.int .u8 x.toNat) (by simp [Lib.byteCells, hx])
    exact this
  have HF := hide (show Fo b w (w.drew.freeze ⟨g, 0, none⟩ l.length) from fun k o _ ho hn => by
    unfold World.freeze
    split
    · exact ho
    · show (w.heap.modify g _)[k]? = some o
      simp only [Array.getElem?_modify]
      by_cases e : g = k
      · subst e
        rw [hg] at ho
        exact (hn _ _ (Option.some.inj ho).symm).elim
      · rw [if_neg e]; exact ho)
  go_enter Try.func33, Try.ntmps33
  go_wp2
  go_region
  all_goals (go_wp2; go_ret; exact ⟨rfl, Lib.below_freeze (Below.drew (Below.refl B w)) (p := ⟨g, 0, none⟩) hbg _, HF.out⟩)
end Go.Proofs.Ytknjmmbebkcnpaa

/- What a loop over blocks keeps; a statement that leaves no order open, in a round. No call of the program is walked here. -/
namespace Go.Proofs.Ytknjmmbebkcnpaa
open Go.RowKit Bk

theorem row_own {β : Type} (B b o : Nat) (f : β → List Value) : OwnFrom B (fun s W => Row W b o (f s)) := fun s W W' row hs hg hr =>
  ⟨Nat.lt_of_lt_of_le hs.lt hg.size, fun j v hj => cell_kept (hs.cell j v hj) hg (fun r e => (hr r e).2), fun j hj => by
    obtain ⟨v, hv⟩ : ∃ v, (f s)[j]? = some v := ⟨_, List.getElem?_eq_getElem hj⟩
    exact (frozen_kept (hs.cell j v hv) hg (fun r e => (hr r e).2)).trans (hs.free j hj)⟩
theorem bd_own {β : Type} (B0 B b : Nat) (f : β → List UInt8) : OwnFrom B0 (fun s W => Bd W B b (f s)) := fun s W W' row hs hg hr =>
  hs.kept hg.size fun k _ hk => by
    obtain ⟨c, t, q, e⟩ := hk
    refine hg.block k (Array.getElem?_eq_some_iff.1 e).1 fun h => ?_
    obtain ⟨_, o, ho, hc⟩ := hr k h.symm
    rw [e] at ho
    cases ho
    cases hc
theorem bt_own {β : Type} {B0 A : Nat} {w : World} (hB : w.heap.size ≤ B0) : OwnFrom B0 (fun (_ : β) W => Bt A w W) := fun s W W' row hs hg hr =>
  ⟨hg.os.trans hs.os, hg.tape.trans hs.tape, hg.output.trans hs.output, Nat.le_trans hs.size hg.size, fun k hk hA =>
    (hg.block k (Nat.lt_of_lt_of_le hk hs.size) (fun h => by have := (hr k h.symm).1; omega)).trans (hs.block k hk hA)⟩
theorem boxed_from {β : Type} (B0 B : Nat) (t : TypeId) (v : Value) : OwnFrom B0 (fun (_ : β) W => Boxed W B t v) := fun s W W' row hs hg hr =>
  hs.kept hg (fun e => by
    obtain ⟨_, o, ho, hc⟩ := hr B e.symm
    rw [show W.heap[B]? = _ from hs] at ho
    cases ho
    cases hc)
theorem boxed_below {w w' : World} {B : Nat} {t : TypeId} {v : Value} (h : Boxed w B t v) (k : Below w.heap.size w w') : Boxed w' B t v := (k.block B h.lt).trans h
theorem boxed_bt {w w' : World} {B A : Nat} {t : TypeId} {v : Value} (h : Boxed w B t v) (k : Bt A w w') (hne : B ≠ A) : Boxed w' B t v := (k.block B h.lt hne).trans h
theorem boxed_fo {w w' : World} {B b : Nat} {t : TypeId} {v : Value} (h : Boxed w B t v) (k : Fo b w w') (hne : B ≠ b) (ht : t ≠ 5) : Boxed w' B t v := k B _ hne h (fun cur q e => by cases e; exact ht rfl)

theorem wpListIn_round {P : Program} {l n : Nat} {ops : Array Oper} {Q : Exit → Act → World → Prop} (hQ : ¬ LetsOut Q) : ∀ (ls : List Oper) (a : Act) (w : World), (∀ o ∈ ls, ∀ c, o.op ≠ .defer c) → wpList P ops Q ls a w → wpListIn (Fence.wide.inRound l) n P ops Q ls a w
  | [], _, _, _, h => h
  | o :: rest, a, w, hnd, h => by
    unfold wpList at h
    unfold wpListIn
    split
    · rename_i hw
      rw [if_pos hw] at h
      rcases h with h | h
      · exact Oper.wpIn_mono (fun a w h => wpListIn_round hQ rest a w (fun o ho => hnd o (List.mem_cons_of_mem _ ho)) h) (wp_round (hnd o (List.mem_cons_self ..)) h)
      · exact (hQ h.2).elim
    · rename_i hw
      rw [if_neg hw] at h
      exact ⟨fun _ _ => trivial, wpListIn_round hQ rest _ w (fun o ho => hnd o (List.mem_cons_of_mem _ ho)) h⟩
theorem region_round {P : Program} {l n id : Nat} {ls : List Oper} {R : Act → World → Prop} {Q : Exit → Act → World → Prop} {a : Act} {w : World} (hnd : noDefer ls.toArray = true) (h : wpList P ls.toArray (onlyN R) ls a w) (hR : ∀ a w, R a w → Q .normal a w) :
    (Code.region id ls.toArray false).wpIn (Fence.wide.inRound l) n P Q a w := by
  refine wpIn_mono (Q := onlyN R) (wpIn_region_lit (wpListIn_round (fun h => by obtain ⟨_, _, h⟩ := h; exact h) ls a w (fun o ho => ?_) h)) (fun e a w h => ?_)
  · obtain ⟨i, hi, e⟩ := List.getElem_of_mem ho
    exact noDefer_at hnd (i := i) (by simp [← e, hi])
  · cases e with
    | normal => exact hR a w h
    | _ => exact h.elim

/-- What a chain comes to, block by block: the one ahead, and what is put together. -/
def stf (Y N : List UInt8 → List UInt8 → List UInt8) (f : List UInt8) (pre : List B16) : List UInt8 × List UInt8 := pre.foldl (fun p s => (N p.1 s.1, p.2 ++ Y p.1 s.1)) (f, [])
theorem stf_snoc (Y N : List UInt8 → List UInt8 → List UInt8) (f : List UInt8) (pre : List B16) (x : B16) : stf Y N f (pre ++ [x]) = (N (stf Y N f pre).1 x.1, (stf Y N f pre).2 ++ Y (stf Y N f pre).1 x.1) := by
  unfold stf
  rw [List.foldl_append]
  rfl
theorem stf_len {Y N : List UInt8 → List UInt8 → List UInt8} (hN : ∀ a s, a.length = 16 → s.length = 16 → (N a s).length = 16) (hY : ∀ a s, a.length = 16 → s.length = 16 → (Y a s).length = 16) :
    ∀ (pre : List B16) (p : List UInt8 × List UInt8), p.1.length = 16 → (pre.foldl (fun p s => (N p.1 s.1, p.2 ++ Y p.1 s.1)) p).1.length = 16 ∧ (pre.foldl (fun p s => (N p.1 s.1, p.2 ++ Y p.1 s.1)) p).2.length = p.2.length + 16 * pre.length
  | [], p, h => ⟨h, by simp⟩
  | x :: pre, p, h => by
    obtain ⟨h1, h2⟩ := stf_len hN hY pre (N p.1 x.1, p.2 ++ Y p.1 x.1) (hN _ _ h x.2)
    refine ⟨h1, ?_⟩
    rw [List.foldl_cons, h2, List.length_append, hY _ _ h x.2, List.length_cons]
    omega
theorem stf_len1 {Y N : List UInt8 → List UInt8 → List UInt8} {f : List UInt8} (hN : ∀ a s, a.length = 16 → s.length = 16 → (N a s).length = 16) (hY : ∀ a s, a.length = 16 → s.length = 16 → (Y a s).length = 16) (hf : f.length = 16) (pre : List B16) : (stf Y N f pre).1.length = 16 := (stf_len hN hY pre (f, []) hf).1
theorem stf_len2 {Y N : List UInt8 → List UInt8 → List UInt8} {f : List UInt8} (hN : ∀ a s, a.length = 16 → s.length = 16 → (N a s).length = 16) (hY : ∀ a s, a.length = 16 → s.length = 16 → (Y a s).length = 16) (hf : f.length = 16) (pre : List B16) : (stf Y N f pre).2.length = 16 * pre.length := by
  have h := (stf_len hN hY pre (f, []) hf).2
  rw [List.length_nil, Nat.zero_add] at h
  exact h
/-- Two results that lie in memory, one cell each. -/
theorem load_cell {P : Program} {ty : TypeId} {b : Nat} {v : Value} {w : World} (ha : (isAgg ty).run P w = .ok false w) (hc : w.cell? ⟨b, 0, none⟩ = some v) : (loadVar ty ⟨b, 0, none⟩).run P w = .ok v w := by
  simp [loadVar, Sem.run_bind, ha, hc, go_sem]
theorem results_cells2 {P : Program} {fn : Func} {p q : Tmp} {ty tz : TypeId} (h : fn.results = #[.cell p ty, .cell q tz]) (tmps : Array Value) (w : World) (b c : Nat) (v u : Value) (hp : tmps.getD p undef = .pointer (some ⟨b, 0, none⟩)) (hq : tmps.getD q undef = .pointer (some ⟨c, 0, none⟩))
    (h1 : (loadVar ty ⟨b, 0, none⟩).run P w = .ok v w) (h2 : (loadVar tz ⟨c, 0, none⟩).run P w = .ok u w) : (results fn tmps).run P w = .ok (.tuple #[v, u]) w := by
  simp only [Array.getD_eq_getD_getElem?] at hp hq
  simp only [results, h]
  simp [hp, hq, asAddr, h1, h2, Sem.run_bind, Result.andThen]
end Go.Proofs.Ytknjmmbebkcnpaa

/- AES-256: the chapter's example, reckoned. Closed. -/
namespace Go.Proofs.Ytknjmmbebkcnpaa.Bk
set_option linter.unusedVariables false

/-- n bytes, each so much more than the one ahead of it. -/
def rwl (n : Nat) (by' : UInt8) : List UInt8 := (List.range n).map fun i => UInt8.ofNat (i * by'.toNat)
theorem rwl_length (n : Nat) (c : UInt8) : (rwl n c).length = n := by simp [rwl]
theorem gy_rwl {n : Nat} (c : UInt8) {i : Nat} (h : i < n) : gy (rwl n c) i = UInt8.ofNat (i * c.toNat) := gy_range h
theorem rwl_next {n : Nat} (c : UInt8) {i : Nat} (h : i + 1 < n) : ((gy (rwl n c) i).toNat + c.toNat) % 256 = (gy (rwl n c) (i + 1)).toNat := by
  rw [gy_rwl c h, gy_rwl c (by omega), UInt8.toNat_ofNat', UInt8.toNat_ofNat', Nat.succ_mul]
  omega
def exW : List UInt8 := spr SB (rwl 32 1) 60
def exE : List UInt8 := [142, 162, 183, 202, 81, 103, 69, 191, 234, 252, 73, 144, 75, 73, 96, 137]
theorem ex_ok : enc (spr SB (rwl 32 1) 60) (rwl 16 17) = exE := by decide +kernel
end Go.Proofs.Ytknjmmbebkcnpaa.Bk

/- The statements' own rows of bytes, walked: n bytes, each so much more than the one ahead of it. For 1 to 1000 bytes; what was there is left. -/
namespace Go.Proofs.Ytknjmmbebkcnpaa
open Go.RowKit Bk
set_option linter.unusedVariables false
set_option linter.unusedSimpArgs false

end Go.Proofs.Ytknjmmbebkcnpaa
