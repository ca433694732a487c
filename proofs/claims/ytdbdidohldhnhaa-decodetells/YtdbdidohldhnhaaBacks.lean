/- slices.Backward over a slice of numbers of 16 bits (at most 4000 of them): the loop's rounds come from the highest place down, each with its place and what stands there when it comes. The body may write the slice's cells, as long as they keep to what is asked of them (V). -/
import Derived.RangeFuncNested
import Derived.RangeFuncBound
import Derived.RangeFuncCalls
import Derived.RangeFuncLeaves
import Derived.Shelf.Abstract
import Derived.Shelf.RegionOpen
import Derived.WalkKit
import Derived.OwnWalkIn
import Derived.TacticsInMore
import Derived.LoopNIn
import Derived.LoopIn
import Derived.Test.YtdbdidohldhnhaaCalls2
namespace Go.Proofs.Ytdbdidohldhnhaa
open Go.RowKit Go.Shelf Gf

attribute [local go_sem] Oper.semAt_some

/-- What comes in a round: a place below n and a number of 16 bits. -/
abbrev It (n : Nat) := { x : Nat × Int // x.1 < n ∧ 0 ≤ x.2 ∧ x.2 ≤ 65535 }
def encIt {n : Nat} (x : It n) : Array Value := #[.int .i64 (x.1.1 : Int), .int .u16 x.1.2]
/-- n - 1, .., 0. -/
def down : Nat → List Nat
  | 0 => []
  | n + 1 => n :: down n
/-- All places, from the highest down, each with what is asked of it. -/
def SB (n : Nat) (V : Nat → Int → Prop) (ys : List (It n)) : Prop := ys.map (fun y => y.1.1) = down n ∧ ∀ y ∈ ys, V y.1.1 y.1.2
/-- What a round must keep: the slice's box, and that its cells hold what is asked of them. -/
def KpB (V : Nat → Int → Prop) (Bs b off n : Nat) (W W' : World) : Prop :=
  W'.cell? ⟨Bs, 0, none⟩ = W.cell? ⟨Bs, 0, none⟩ ∧ ((∀ j, j < n → ∃ y, V j y ∧ W.cell? ⟨b, off + j, none⟩ = some (.int .u16 y)) → ∀ j, j < n → ∃ y, V j y ∧ W'.cell? ⟨b, off + j, none⟩ = some (.int .u16 y))
theorem kpB_t {V : Nat → Int → Prop} {Bs b off n : Nat} {A B C : World} (h : KpB V Bs b off n A B) (k : KpB V Bs b off n B C) : KpB V Bs b off n A C :=
  ⟨k.1.trans h.1, fun hh => k.2 (h.2 hh)⟩
theorem cell_put {W : World} {l : Nat} {o o' : Obj} {p : Addr} (h : W.heap[l]? = some o) (ho : o.isCells = false) {v : Value} (hp : W.cell? p = some v) : (W.putObj l o').cell? p = some v := by
  refine (World.cell?_of_block (w := W) ?_).trans hp
  refine World.putObj_heap_other (fun e => ?_)
  subst e
  unfold World.cell? at hp
  rw [h] at hp
  cases o <;> simp_all [Obj.isCells]

set_option maxRecDepth 100000 in
set_option maxHeartbeats 2000000 in
theorem backer_in (F : Fence) (d : Nat) (hf : F.fn 62) (hro : F.round = none) (hd : 1 ≤ d) (l Bs b off n c : Nat) (hn : n ≤ 4000) (V : Nat → Int → Prop) (hV : ∀ j y, V j y → 0 ≤ y ∧ y ≤ 65535) (J Jx : List (It n) → World → Prop)
    (hY : ∀ pre x W, J pre W → pre.length < n → YieldAt F (d - 1) Try.prog l (encIt x) W fun e W' =>
      (e = .returned (.bool true) ∧ J (pre ++ [x]) W' ∧ KpB V Bs b off n W W') ∨ (e = .returned (.bool false) ∧ Jx (pre ++ [x]) W'))
    (W : World) (hBs : W.cell? ⟨Bs, 0, none⟩ = some (.slice (some ⟨b, off, none⟩) n c)) (hc : ∀ j, j < n → ∃ y, V j y ∧ W.cell? ⟨b, off + j, none⟩ = some (.int .u16 y)) (h0 : J [] W) :
    CallsIn F d Try.prog 62 #[.func (.yield l) #[] #[], .pointer (some ⟨Bs, 0, none⟩)] W fun e W' => (∃ v, e = .returned v) ∧
      ((∃ ys, SB n V ys ∧ J ys W') ∨ (∃ pre, True ∧ Jx pre W')) := by
  refine callsIn_of_wp Try.func62 rfl hf ?_ hro
  simp only [Try.ntmps62, List.size_toArray, List.length_cons, List.length_nil, Nat.reduceAdd, Nat.reduceSub, Array.replicate_succ, Array.replicate_zero, List.push_toArray, List.append_toArray, List.nil_append, List.cons_append]
  have HC := hide hc
  clear hc
  gi_wp2
  gi_loopw [3] (fun i wr => ∃ (k : Nat) (pre : List (It n)), k ≤ n ∧ i = .int .i64 ((k : Int) - 1) ∧ pre.map (fun y => y.1.1) ++ down k = down n ∧ pre.length = n - k ∧ (∀ y ∈ pre, V y.1.1 y.1.2) ∧ J pre wr ∧ wr.cell? ⟨Bs, 0, none⟩ = some (.slice (some ⟨b, off, none⟩) n c) ∧ ∀ j, j < n → ∃ y, V j y ∧ wr.cell? ⟨b, off + j, none⟩ = some (.int .u16 y))
    (fun i _ => (intOf i + 1).toNat)
  case atStart => exact ⟨n, [], Nat.le_refl _, rfl, rfl, by simp, by simp, h0, hBs, HC.out⟩
  case round =>
    obtain ⟨k, pre, hk, rfl, hd1, hd2, hd3, hJs, hbs, hcs⟩ := hrel
    cases k with
    | zero =>
      have HD := hide (And.intro hd1 hd3)
      clear hd1 hd3 hcs
      gi_wp2
      go_end0
      exact ⟨⟨_, rfl⟩, .inl ⟨pre, ⟨by simpa [down] using HD.out.1, HD.out.2⟩, hJs⟩⟩
    | succ k =>
      obtain ⟨y, hVy, hcy⟩ := hcs k (by omega)
      have hy := hV k y hVy
      obtain ⟨fn, tmps, assign, body, hyl, hR⟩ := hY pre ⟨(k, y), by omega, hy.1, hy.2⟩ wr hJs (by omega)
      have e1 : ((k : Int) + 1 - 1) = (k : Int) := by omega
      have HD := hide (And.intro hd1 hd3)
      have HCS := hide hcs
      have HVY := hide hVy
      clear hd1 hd3 hcs hVy
      dsimp only [encIt] at hyl
      gi_wp2
      refine hR.mono ?_
      rintro e W3 (⟨rfl, hJ3, hk3⟩ | ⟨rfl, hJx3⟩)
      · gi_wp2
        go_roundw
        case rel =>
          refine ⟨k, pre ++ [⟨(k, y), by omega, hy.1, hy.2⟩], by omega, by go_num, ?_, by simp; omega, ?_, hJ3, hk3.1.trans hbs, hk3.2 HCS.out⟩
          · have := HD.out.1
            rw [← this]
            simp [down]
          · intro z hz
            rcases List.mem_append.1 hz with h1 | h1
            · exact HD.out.2 z h1
            · have h2 : z = ⟨(k, y), by omega, hy.1, hy.2⟩ := by simpa using h1
              rw [h2]
              exact HVY.out
        case measure => simp [intOf]
      · gi_wp2
        refine bodyPost_ret (results_none rfl _ _ _) rfl ?_
        exact ⟨⟨_, rfl⟩, .inr ⟨_, trivial, hJx3⟩⟩

set_option maxRecDepth 100000 in
set_option maxHeartbeats 1000000 in
theorem backer_nil (F : Fence) (d : Nat) (hf : F.fn 62) (hro : F.round = none) (l Bs : Nat) (a : Option Addr) (c : Nat) (J : List (It 0) → World → Prop) (W : World) (hBs : W.cell? ⟨Bs, 0, none⟩ = some (.slice a 0 c)) (h0 : J [] W) :
    CallsIn F d Try.prog 62 #[.func (.yield l) #[] #[], .pointer (some ⟨Bs, 0, none⟩)] W fun e W' => (∃ v, e = .returned v) ∧ J [] W' := by
  refine callsIn_of_wp Try.func62 rfl hf ?_ hro
  simp only [Try.ntmps62, List.size_toArray, List.length_cons, List.length_nil, Nat.reduceAdd, Nat.reduceSub, Array.replicate_succ, Array.replicate_zero, List.push_toArray, List.append_toArray, List.nil_append, List.cons_append]
  gi_wp2
  gi_loopw [3] (fun i wr => i = .int .i64 (-1) ∧ J [] wr) (fun _ _ => 0)
  case atStart => exact ⟨rfl, h0⟩
  case round =>
    obtain ⟨rfl, hJs⟩ := hrel
    gi_wp2
    go_end0
    exact ⟨⟨_, rfl⟩, hJs⟩

set_option maxHeartbeats 1000000 in
theorem back_in (F : Fence) (d : Nat) (hf : F.fn 56) (hro : F.round = none) (a : Option Addr) (len cap : Nat) (w : World) :
    CallsIn F d Try.prog 56 #[.slice a len cap] w fun e w' => e = .returned (.func (.func 62) #[] #[.pointer (some ⟨w.heap.size, 0, none⟩)]) ∧ w' = w.alloc (.cells #[.slice a len cap] 22) := by
  refine callsIn_of_wp Try.func56 rfl hf ?_ hro
  simp only [Try.ntmps56, List.size_toArray, List.length_cons, List.length_nil, Nat.reduceAdd, Nat.reduceSub, Array.replicate_succ, Array.replicate_zero, List.push_toArray, List.append_toArray, List.nil_append, List.cons_append]
  gi_wp2
  go_ret
  exact ⟨rfl, rfl⟩

/-- slices.Backward's value, as the loop over it takes it. -/
theorem back_stops (F : Fence) (d : Nat) (hf : F.fn 62) (hro : F.round = none) (hd : 1 ≤ d) (Bs b off n : Nat) (a : Option Addr) (c : Nat) (hn : n ≤ 4000) (V : Nat → Int → Prop) (hV : ∀ j y, V j y → 0 ≤ y ∧ y ≤ 65535) (w : World) (hBs : Bs < w.heap.size)
    (hc : w.cell? ⟨Bs, 0, none⟩ = some (.slice a n c)) (hI : n = 0 ∨ (a = some ⟨b, off, none⟩ ∧ b < w.heap.size ∧ ∀ j, j < n → ∃ y, V j y ∧ w.cell? ⟨b, off + j, none⟩ = some (.int .u16 y))) :
    SeqStopsK F d Try.prog 62 #[.pointer (some ⟨Bs, 0, none⟩)] (encIt (n := n)) (KpB V Bs b off n) (SB n V) (fun _ => True) n w := fun l J Jx W hW _ _ hY h0 => by
  have hc' := (hW.cell (p := ⟨Bs, 0, none⟩) hBs).trans hc
  rcases hI with rfl | ⟨rfl, hb, hcs⟩
  · exact (backer_nil F d hf hro l Bs a c J W hc' h0).mono fun e W' ⟨he, hj⟩ => ⟨he, .inl ⟨[], ⟨rfl, by simp⟩, hj⟩⟩
  · refine backer_in F d hf hro hd l Bs b off n c hn V hV J Jx hY W hc' (fun j hj => ?_) h0
    obtain ⟨y, h1, h2⟩ := hcs j hj
    exact ⟨y, h1, (hW.cell (p := ⟨b, off + j, none⟩) hb).trans h2⟩

end Go.Proofs.Ytdbdidohldhnhaa
