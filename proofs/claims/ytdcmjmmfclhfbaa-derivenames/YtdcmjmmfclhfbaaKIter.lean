/- derive's iterator: the rounds from 0 on, each with its text, whatever is done with them. For passwords and salts of fewer than 2 to the power of 58 bytes and at most 64 rounds. -/
import Derived.Test.YtdcmjmmfclhfbaaKBridge
import Derived.Test.YtdcmjmmfclhfbaaKMath
import Derived.Test.YtdcmjmmfclhfbaaSHmac
namespace Go.Proofs.Ytdcmjmmfclhfbaa
open Go.RowKit Go.Shelf Bk
set_option linter.unusedVariables false
set_option linter.unusedSimpArgs false
attribute [local go_sem] Oper.semAt_some

/-- The text of round k. -/
def dtx (p f : ByteArray) (k : Nat) : ByteArray := ⟨(ktx (sb p) (sb f) k).toArray⟩
theorem dtx_size (p f : ByteArray) (k : Nat) : (dtx p f k).size = 32 := by rw [← sb_length]; exact ktx_length _ _ _
/-- The text ahead of round k. -/
def prv (p f : ByteArray) : Nat → ByteArray
  | 0 => f
  | k + 1 => dtx p f k
theorem shm_prv (p f : ByteArray) (k : Nat) : shm p (prv p f k) = dtx p f k := by cases k <;> rfl
theorem prv_size (p f : ByteArray) (k : Nat) (h : f.size < 576460752303423488) : (prv p f k).size < 576460752303423488 := by
  cases k with
  | zero => exact h
  | succ k => show (dtx p f k).size < _; rw [dtx_size]; decide

/-- What comes in a round: its number, and its text. -/
def encD (p f : ByteArray) (k : Nat) : Array Value := #[.int .i64 (k : Int), .string (dtx p f k)]
/-- What a round must keep: the password's box. -/
def KpD (B : Nat) (W W' : World) : Prop := W'.cell? ⟨B, 0, none⟩ = W.cell? ⟨B, 0, none⟩
theorem kpD_t {B : Nat} {X Y Z : World} (h : KpD B X Y) (k : KpD B Y Z) : KpD B X Z := Eq.trans k h
theorem cell_lt {W : World} {b o : Nat} {v : Value} (h : W.cell? ⟨b, o, none⟩ = some v) : b < W.heap.size := by
  obtain ⟨ob, ho, _⟩ := cells_of_cell h
  exact (Array.getElem?_eq_some_iff.1 ho).1
theorem grown_of_below {A B : World} (h : Below A.heap.size A B) : A.grownBy B none := ⟨h.os, h.tape, h.output, h.size, fun k hk _ => h.block k hk⟩

set_option maxRecDepth 100000 in
set_option maxHeartbeats 4000000 in
theorem tolder_in (d l Bf Bn Bp n : Nat) (hd : 1 ≤ d) (hn : n ≤ 64) (p f : ByteArray) (hp : p.size < 576460752303423488) (hf : f.size < 576460752303423488) (J Jx : List Nat → World → Prop)
    (hJ : ∀ s A B, J s A → Below A.heap.size A B → J s B)
    (hY : ∀ pre x W, J pre W → pre.length < n → YieldAt Fence.wide (d - 1) Try.prog l (encD p f x) W fun e W' =>
      (e = .returned (.bool true) ∧ J (pre ++ [x]) W' ∧ KpD Bp W W') ∨ (e = .returned (.bool false) ∧ Jx (pre ++ [x]) W'))
    (W : World) (hBf : W.cell? ⟨Bf, 0, none⟩ = some (.string f)) (hBn : W.cell? ⟨Bn, 0, none⟩ = some (.int .i64 (n : Int))) (hBp : W.cell? ⟨Bp, 0, none⟩ = some (.string p)) (h0 : J [] W) :
    CallsIn Fence.wide d Try.prog 27 #[.func (.yield l) #[] #[], .pointer (some ⟨Bf, 0, none⟩), .pointer (some ⟨Bn, 0, none⟩), .pointer (some ⟨Bp, 0, none⟩)] W fun e W' => (∃ v, e = .returned v) ∧
      ((∃ ys, ys = List.range n ∧ J ys W') ∨ (∃ pre, True ∧ Jx pre W')) := by
  have hro : Fence.wide.round = none := rfl
  have hnI : (n : Int) ≤ 64 := by omega
  refine callsIn_of_wp Try.func27 rfl trivial ?_ hro
  simp only [Try.ntmps27, List.size_toArray, List.length_cons, List.length_nil, Nat.reduceAdd, Nat.reduceSub, Array.replicate_succ, Array.replicate_zero, List.push_toArray, List.append_toArray, List.nil_append, List.cons_append]
  gi_wp2
  gi_loopw [5, 6, 9] (fun t _ i wr => ∃ k : Nat, k ≤ n ∧ t = .string (prv p f k) ∧ i = .int .i64 (k : Int) ∧ J (List.range k) wr ∧ wr.cell? ⟨Bp, 0, none⟩ = some (.string p))
    (fun _ _ i _ => n - (intOf i).toNat)
  case atStart => exact ⟨0, Nat.zero_le _, rfl, rfl, h0, hBp⟩
  case round =>
    obtain ⟨k, hk, rfl, rfl, hJs, hbp⟩ := hrel
    by_cases hlt : k < n
    · have hltI : (k : Int) < (n : Int) := by omega
      have hq := prv_size p f k hf
      obtain ⟨q, eq⟩ : ∃ q, prv p f k = q := ⟨_, rfl⟩
      have HT := hide (show shm p q = dtx p f k by rw [← eq]; exact shm_prv p f k)
      have HQ := hide (show q.size < 576460752303423488 by rw [← eq]; exact hq)
      have HJS := hide hJs
      rw [eq]
      clear eq hq hJs
      gi_wp2_with fail
      refine ⟨trivial, (callsIn_wide.2 (shmac_any p q _ hp HQ.out)).mono ?_⟩
      rintro e w1 ⟨rfl, hw1⟩
      rw [HT.out]
      obtain ⟨fn, tmps, assign, body, hyl, hR⟩ := hY (List.range k) k w1 (hJ _ _ _ HJS.out hw1) (by rw [List.length_range]; exact hlt)
      have hbp1 := (hw1.cell (p := ⟨Bp, 0, none⟩) (cell_lt hbp)).trans hbp
      dsimp only [encD] at hyl
      obtain ⟨t, et⟩ : ∃ t, dtx p f k = t := ⟨_, rfl⟩
      rw [et] at hyl ⊢
      have HT2 := hide et
      clear et hw1
      gi_wp2
      refine hR.mono ?_
      rintro e W3 (⟨rfl, hJ3, hk3⟩ | ⟨rfl, hJx3⟩)
      · gi_wp2
        go_roundw
        case rel => exact ⟨k + 1, by omega, by rw [← HT2.out]; rfl, by go_num, by rw [List.range_succ]; exact hJ3, hk3.trans hbp1⟩
        case measure => simp [intOf]; omega
      · gi_wp2
        refine bodyPost_ret (results_none rfl _ _ _) rfl ?_
        exact ⟨⟨_, rfl⟩, .inr ⟨_, trivial, hJx3⟩⟩
    · obtain rfl : k = n := by omega
      gi_wp2
      go_end0
      exact ⟨⟨_, rfl⟩, .inl ⟨_, rfl, hJs⟩⟩

set_option maxHeartbeats 1000000 in
theorem told_in (d : Nat) (p f : ByteArray) (n : Nat) (w : World) :
    CallsIn Fence.wide d Try.prog 20 #[.string p, .string f, .int .i64 n] w fun e w' => e = .returned (.func (.func 27) #[] #[.pointer (some ⟨w.heap.size + 1, 0, none⟩), .pointer (some ⟨w.heap.size + 1 + 1, 0, none⟩), .pointer (some ⟨w.heap.size, 0, none⟩)]) ∧
      w' = ((w.alloc (.cells #[.string p] 9)).alloc (.cells #[.string f] 9)).alloc (.cells #[.int .i64 n] 3) := by
  have hro : Fence.wide.round = none := rfl
  refine callsIn_of_wp Try.func20 rfl trivial ?_ hro
  simp only [Try.ntmps20, List.size_toArray, List.length_cons, List.length_nil, Nat.reduceAdd, Nat.reduceSub, Array.replicate_succ, Array.replicate_zero, List.push_toArray, List.append_toArray, List.nil_append, List.cons_append]
  gi_wp2
  go_ret
  exact ⟨rfl, rfl⟩

/-- told's value, as the loop over it takes it. -/
theorem told_stops (d : Nat) (hd : 1 ≤ d) (Bf Bn Bp n : Nat) (hn : n ≤ 64) (p f : ByteArray) (hp : p.size < 576460752303423488) (hf : f.size < 576460752303423488) (w : World) (hf' : Bf < w.heap.size) (hn' : Bn < w.heap.size) (hp' : Bp < w.heap.size)
    (hBf : w.cell? ⟨Bf, 0, none⟩ = some (.string f)) (hBn : w.cell? ⟨Bn, 0, none⟩ = some (.int .i64 (n : Int))) (hBp : w.cell? ⟨Bp, 0, none⟩ = some (.string p)) :
    SeqStopsK Fence.wide d Try.prog 27 #[.pointer (some ⟨Bf, 0, none⟩), .pointer (some ⟨Bn, 0, none⟩), .pointer (some ⟨Bp, 0, none⟩)] (encD p f) (KpD Bp) (fun ys => ys = List.range n) (fun _ => True) n w := fun l J Jx W hW hA _ hY h0 =>
  tolder_in d l Bf Bn Bp n hd hn p f hp hf J Jx (fun s A B hs hB => hA s A B none hs (grown_of_below hB) (fun r e => by cases e)) hY W
    ((hW.cell (p := ⟨Bf, 0, none⟩) hf').trans hBf) ((hW.cell (p := ⟨Bn, 0, none⟩) hn').trans hBn) ((hW.cell (p := ⟨Bp, 0, none⟩) hp').trans hBp) h0
end Go.Proofs.Ytdcmjmmfclhfbaa
