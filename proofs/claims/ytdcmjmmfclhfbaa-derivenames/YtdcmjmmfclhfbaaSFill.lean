/- What a text is filled up by, walked. For texts of fewer than 2 to the power of 61 bytes. -/
import Derived.Test.YtdcmjmmfclhfbaaBMade
import Derived.Test.YtdcmjmmfclhfbaaSMath
import Derived.Deep.LoopGhost
namespace Go.Proofs.Ytdcmjmmfclhfbaa
open Go.RowKit Bk
set_option linter.unusedVariables false
set_option linter.unusedSimpArgs false

theorem zero_cells (n : Nat) : Builtin.zeroCells #[.int .u8 0] n = (bs (List.replicate n 0)).toArray := by
  apply Array.ext'
  apply List.ext_getElem
  · simp [Builtin.zeroCells, bs]
  · intro i h1 h2
    simp [Builtin.zeroCells, bs, Nat.mod_one]
/-- append of noughts that are made for it, where there is room. -/
theorem run_appendZ (w : World) (ty : TypeId) (b off len cap n : Nat) (cs : List Value) (hroom : len + n ≤ cap) (hn : n ≤ 1000000) (hr : Row w b (off + len) cs) (hl : cs.length = n) :
    (Builtin.append_ #[29, 55] ty #[.slice (some ⟨b, off, none⟩) len cap, .int .u64 (n : Int)]).run Try.prog w = .ok (.slice (some ⟨b, off, none⟩) (len + n) cap) (w.setCells b (off + len) (bs (List.replicate n 0))) := by
  have hz := info8'
  cases hq : Try.prog.info? 5 with
  | none => rw [hq] at hz; cases hz
  | some i =>
    rw [hq] at hz
    simp only [Option.map_some, Option.some.injEq, Prod.mk.injEq] at hz
    obtain ⟨h0, h1, h2⟩ := hz
    have hw : IntKind.i64.wrap (n : Int) = (n : Int) := IntWalk.i64_in _ (by omega)
    have hn1 : ¬ ((n : Int) < 0) := by omega
    have hn2 : ¬ (281474976710656 < (n : Int)) := by omega
    by_cases h : n = 0
    · subst h
      obtain rfl : cs = [] := List.length_eq_zero_iff.1 hl
      have hroom' : len ≤ cap := by omega
      have hw0 : IntKind.i64.wrap 0 = 0 := by decide
      simp [Builtin.append_, run_underlying Try.underlying29, run_underlying Try.underlying55, sizeOf, typeInfo, hq, h0, h1, h2, asInt, asIntOf, hw0, hroom', storeCells, bs, World.setCells]
    · have hc := zero_cells n
      have ht := hr.there
      rw [hl] at ht
      have hst := run_storeCells_cells (P := Try.prog) b (off + len) (bs (List.replicate n 0)) 0 w (fun j hj => by simpa using (ht j (by simpa [bs_length] using hj)).1) (fun j hj => by simpa using (ht j (by simpa [bs_length] using hj)).2) (fun v hv => bs_one hv)
      simp only [Nat.add_zero] at hst
      simp [Builtin.append_, run_underlying Try.underlying29, run_underlying Try.underlying55, sizeOf, zeroValue, typeInfo, hq, h0, h1, h2, asInt, asIntOf, hw, hn1, hn2, hroom, h, Value.cells, hc, Addr.add_lit, hst]

theorem wpList_appendZ {ops : Array Oper} {rest : List Oper} {o : Oper} {a : Act} {w : World} {Q : Exit → Act → World → Prop} (hg : o.guard = none) (d x : Operand) (ho : o.op = .call { callee := .builtin .append, args := #[d, x], argTypes := #[29, 55] })
    {b off len cap n : Nat} {cs : List Value} (hd : a.eval d = .slice (some ⟨b, off, none⟩) len cap) (hx : a.eval x = .int .u64 (n : Int)) (hroom : len + n ≤ cap) (hn : n ≤ 1000000) (hr : Row w b (off + len) cs) (hl : cs.length = n)
    (h : wpList Try.prog ops Q rest (a.put o.dst (.slice (some ⟨b, off, none⟩) (len + n) cap)) (w.setCells b (off + len) (bs (List.replicate n 0)))) : wpList Try.prog ops Q (o :: rest) a w := by
  refine wpList_plain hg fun K hK => ?_
  have hrun := run_appendZ w o.type b off len cap n cs hroom hn hr hl
  unfold Oper.wp
  simp [execOp, ho, resolve, invoke, builtin, hd, hx, hrun, Result.andThen]
  exact hK _ _ h

namespace Bk
/-- The eight bytes of how many bits there are. -/
def se8 (n : Nat) : List UInt8 := [UInt8.ofNat (n * 8 / 72057594037927936 % 256), UInt8.ofNat (n * 8 / 281474976710656 % 256), UInt8.ofNat (n * 8 / 1099511627776 % 256), UInt8.ofNat (n * 8 / 4294967296 % 256),
     UInt8.ofNat (n * 8 / 16777216 % 256), UInt8.ofNat (n * 8 / 65536 % 256), UInt8.ofNat (n * 8 / 256 % 256), UInt8.ofNat (n * 8 % 256)]
theorem sfill_eq (n m : Nat) (hm : 63 - (n + 8) % 64 = m) : sfill n = 128 :: (List.replicate m 0 ++ se8 n) := by rw [← hm]; rfl
theorem sbyte_nat (x : Nat) (h : x < 256) : (UInt8.ofNat x).toNat = x := by simp; omega
end Bk
theorem take_one (l : List UInt8) (i : Nat) (h : i < l.length) : l.take (i + 1) = l.take i ++ [UInt8.ofNat (by' l i)] := by
  rw [List.take_add_one]
  congr 1
  simp [by', h]
theorem sfill_at (n m k : Nat) (hm : 63 - (n + 8) % 64 = m) (hk : k < 8) : by' (sfill n) (1 + m + k) = by' (se8 n) k := by
  rw [sfill_eq n m hm, show (128 : UInt8) :: (List.replicate m 0 ++ se8 n) = (128 :: List.replicate m 0) ++ se8 n from rfl, by_app2 _ _ _ (by simp; omega)]
  congr 1
  simp; omega

/-- What is filled up lies, k of the eight bytes laid. -/
structure Fl (w0 w : World) (n m k : Nat) : Prop where
  r : Row w w0.heap.size 0 (bs ((sfill n).take (1 + m + k) ++ List.replicate (8 - k) 0))
  be : Below w0.heap.size w0 w
theorem Fl.next {w0 w : World} {n m k y : Nat} (h : Fl w0 w n m k) (hm : 63 - (n + 8) % 64 = m) (hk : k < 8) (hy : by' (se8 n) k = y) :
    ∃ W, w.alloc (.cells #[.int .u8 (y : Int)] 5) = W ∧ Row W w0.heap.size (0 + (1 + m + k)) (bs [0]) ∧ Src Try.prog 1 29 (.slice (some ⟨w.heap.size, 0, none⟩) 1 1) 1 (bs [UInt8.ofNat y]) W ∧ Fl w0 (W.setCells w0.heap.size (0 + (1 + m + k)) (bs [UInt8.ofNat y])) n m (k + 1) := by
  have ly : y < 256 := hy ▸ by_lt _ _
  have e1 : bs [UInt8.ofNat y] = [.int .u8 (y : Int)] := by simp only [bs, List.map_cons, List.map_nil]; rw [sbyte_nat y ly]
  have hlen : ((sfill n).take (1 + m + k)).length = 1 + m + k := by rw [List.length_take, sfill_length]; omega
  have hr := h.r
  rw [show 8 - k = 1 + (8 - (k + 1)) by omega, ← List.replicate_append_replicate, bs_app, bs_app] at hr
  have r1 := hr.left
  have r2 := hr.right
  rw [bs_length, hlen] at r2
  have r3 := r2.left
  have r4 := r2.right
  rw [bs_length, List.length_replicate] at r4
  refine ⟨_, rfl, r3.alloc _, ?_, ?_, ?_⟩
  · have k1 := Row.newL w (bs [UInt8.ofNat y]) 5
    rw [e1] at k1 ⊢
    refine Src.ofSlice _ Try.underlying29 ⟨w.heap.size, 0, none⟩ 1 1 _ rfl (fun q u hq => ?_) (fun u hu => ?_)
    · rw [Addr.add_mid]; exact k1.cell q u hq
    · simp only [List.mem_singleton] at hu; subst hu; rfl
  · rw [show 1 + m + (k + 1) = 1 + m + k + 1 from rfl, take_one _ _ (by rw [sfill_length]; omega), sfill_at n m k hm hk, hy, List.append_assoc, bs_app, bs_app]
    refine ((r1.alloc _).apart _ _ _ (.inr (.inl (by rw [bs_length, hlen]; omega)))).join ?_
    rw [bs_length, hlen]
    refine ((r3.alloc _).put (bs [UInt8.ofNat y]) rfl).join ?_
    rw [bs_length]
    exact (r4.alloc _).apart _ _ _ (.inr (.inr (by rw [bs_length]; exact Nat.le_refl _)))
  · exact (h.be.alloc (Nat.le_of_lt r1.lt) _).trans (below_setCells (Nat.le_refl _) _ _ _)

/-- How far the bytes are shifted down, one behind the other. -/
def shv : Nat → Int
  | 0 => 56 | 1 => 48 | 2 => 40 | 3 => 32 | 4 => 24 | 5 => 16 | 6 => 8 | 7 => 0 | _ => -8
set_option maxRecDepth 100000 in
set_option maxHeartbeats 16000000 in
theorem filling_any (n : Nat) (w : World) (hn : n < 2305843009213693952) : Calls Try.prog 33 #[.int .u64 n] w fun e w' => e = .returned (.string ⟨(sfill n).toArray⟩) ∧ Below w.heap.size w w' := by
  obtain ⟨m, hm⟩ : ∃ m, 63 - (n + 8) % 64 = m := ⟨_, rfl⟩
  have hm63 : m ≤ 63 := by omega
  obtain ⟨r, er⟩ : ∃ r, (n + 8) % 64 = r := ⟨_, rfl⟩
  have a1 : IntKind.u64.wrap ((n : Int) + 8) = (n : Int) + 8 := IntWalk.u64_in _ (by omega)
  have a1' : ((n : Int) + 8) % 18446744073709551616 = (n : Int) + 8 := by omega
  have a2 : ((n : Int) + 8) % 64 = (r : Int) := by omega
  have a2' : Int.tmod ((n : Int) + 8) 64 = (r : Int) := by rw [Int.tmod_eq_emod_of_nonneg (by omega)]; exact a2
  have a3 : IntKind.u64.wrap (63 - (r : Int)) = (m : Int) := by rw [IntWalk.u64_in _ (by omega)]; omega
  have a3' : (63 - (r : Int)) % 18446744073709551616 = (m : Int) := by omega
  have a4 : IntKind.u64.wrap (1 + (m : Int)) = 1 + (m : Int) := IntWalk.u64_in _ (by omega)
  have a4' : (1 + (m : Int)) % 18446744073709551616 = 1 + (m : Int) := by omega
  obtain ⟨C, eC⟩ : ∃ C, 1 + m + 8 = C := ⟨_, rfl⟩
  have a5 : IntKind.u64.wrap (1 + (m : Int) + 8) = (C : Int) := by rw [IntWalk.u64_in _ (by omega)]; omega
  have a5' : (1 + (m : Int) + 8) % 18446744073709551616 = (C : Int) := by omega
  have hz := info8'
  have hmk : ∀ w : World, (Instr.makeSlice 29 (.int .i64 1) (.int .u64 (C : Int))).run Try.prog w = .ok (.slice (some ⟨w.heap.size, 0, none⟩) 1 C) (w.alloc (.cells (madeCells #[.int .u8 0] C) 5)) := fun w => by
    cases hq : Try.prog.info? 5 with
    | none => rw [hq] at hz; cases hz
    | some i =>
      rw [hq] at hz
      simp only [Option.map_some, Option.some.injEq, Prod.mk.injEq] at hz
      have k := run_make (P := Try.prog) (w := w) 29 5 i (.int .u8 0) Try.underlying29 hq hz.1 .i64 .u64 1 (C : Int) (by omega) (by omega) (by rw [hz.2.2]; omega) (by omega)
      rw [hz.2.1, Nat.mul_one, Int.toNat_natCast] at k
      exact k
  have hR0 := row_made w C
  have hB0 := (Below.refl _ w).alloc (Nat.le_refl _) (.cells (madeCells #[.int .u8 0] C) 5)
  obtain ⟨W0, hW0, hR, hB⟩ : ∃ W, w.alloc (.cells (madeCells #[.int .u8 0] C) 5) = W ∧ Row W w.heap.size 0 (bs (List.replicate C 0)) ∧ Below w.heap.size w W := ⟨_, rfl, hR0, hB0⟩
  have c0 : W0.cell? ⟨w.heap.size, 0, none⟩ = some (.int .u8 0) := by
    have k := hR.cell 0 (.int .u8 0) (by rw [← eC, show 1 + m + 8 = (m + 8) + 1 by omega, List.replicate_succ]; rfl)
    exact k
  have f0 : W0.frozen? ⟨w.heap.size, 0, none⟩ = false := hR.f0 0 (by rw [bs_length, List.length_replicate]; omega)
  obtain ⟨W1, hW1, q1, q2, q3⟩ : ∃ W, W0.setCell ⟨w.heap.size, 0, none⟩ (.int .u8 128) = W ∧ Row W w.heap.size (0 + 1) (bs (List.replicate m 0)) ∧ Row W w.heap.size 0 (bs [128] ++ (bs (List.replicate m 0) ++ bs (List.replicate 8 0))) ∧ Below w.heap.size w W := by
    have k1 := hR.set0 (i := 0) (by rw [bs_length, List.length_replicate]; omega) (.int .u8 128)
    have e : (bs (List.replicate C 0)).set 0 (.int .u8 128) = bs [128] ++ (bs (List.replicate m 0) ++ bs (List.replicate 8 0)) := by
      rw [← eC, show 1 + m + 8 = (m + 8) + 1 by omega, List.replicate_succ, ← bs_app, List.replicate_append_replicate]; rfl
    rw [e] at k1
    exact ⟨_, rfl, k1.right.left, k1, hB.setCell (Nat.le_refl _) _⟩
  obtain ⟨W2, hW2, hF⟩ : ∃ W, W1.setCells w.heap.size (0 + 1) (bs (List.replicate m 0)) = W ∧ Fl w W n m 0 := by
    refine ⟨_, rfl, ?_, q3.trans (below_setCells (Nat.le_refl _) _ _ _)⟩
    have e : (sfill n).take (1 + m + 0) ++ List.replicate (8 - 0) 0 = [128] ++ (List.replicate m 0 ++ List.replicate 8 0) := by
      rw [sfill_eq n m hm, Nat.add_zero, Nat.add_comm 1 m, List.take_succ_cons, List.take_left' (by simp)]
      rfl
    rw [e, bs_app, bs_app]
    refine (q2.left.apart _ _ _ (.inr (.inl (by simp [bs])))).join ?_
    refine (q2.right.left.put _ rfl).join ?_
    exact q2.right.right.apart _ _ _ (.inr (.inr (by simp [bs])))
  have hx1 : IntKind.u64.wrap ((n : Int) * 8) = ((n * 8 : Nat) : Int) := by rw [IntWalk.u64_in _ (by omega)]; omega
  have hx2 : (n : Int) * 8 % 18446744073709551616 = ((n * 8 : Nat) : Int) := by omega
  obtain ⟨N8, eN8⟩ : ∃ z, n * 8 = z := ⟨_, rfl⟩
  rw [eN8] at hx1 hx2
  have HQ1 := hide q1
  have HF := hide hF
  have HM := hide (And.intro hm eC)
  have HN8 := hide eN8
  have hmC : 1 + m ≤ C := by omega
  clear hR0 hB0 hR hB q1 q2 q3 hF hz hm er eN8
  go_enter Try.func33, Try.ntmps33
  go_wp2_with (refine wpList_appendZ (o := ⟨some 18, _, _, _, _, _⟩) rfl (.tmp 16) (.tmp 17) rfl rfl rfl hmC (by omega) HQ1.out (by rw [bs_length, List.length_replicate]) ?_; rw [hW2])
  clear hmk hW0 hW1 hW2 c0 f0 a1 a1' a2 a2' a3 a3' a4 a4' a5 a5'
  go_loopg [4, 5] 8 (fun g f s wr => ∃ k : Nat, k + g = 8 ∧ f = .slice (some ⟨w.heap.size, 0, none⟩) (1 + m + k) C ∧ s = .int .i64 (shv k) ∧ Fl w wr n m k)
  case atStart => exact ⟨0, rfl, rfl, rfl, HF.out⟩
  case round =>
    clear HF HQ1
    obtain ⟨k, hkg, rfl, rfl, hF⟩ := hrel
    by_cases hlt : k < 8
    · obtain ⟨g3, rfl⟩ : ∃ g3, gk = g3 + 1 := ⟨gk - 1, by omega⟩
      obtain ⟨y, ey⟩ : ∃ y, by' (se8 n) k = y := ⟨_, rfl⟩
      obtain ⟨W3, hW3, q1, q2, q3⟩ := hF.next HM.out.1 hlt ey
      obtain ⟨W4, hW4, q3⟩ : ∃ W, W3.setCells w.heap.size (0 + (1 + m + k)) (bs [UInt8.ofNat y]) = W ∧ Fl w W n m (k + 1) := ⟨_, rfl, q3⟩
      have HQ1 := hide q1
      have HQ2 := hide q2
      have HQ3 := hide q3
      have hroom : 1 + m + k + 1 ≤ C := by have := HM.out.2; omega
      have hk8 : k = 0 ∨ k = 1 ∨ k = 2 ∨ k = 3 ∨ k = 4 ∨ k = 5 ∨ k = 6 ∨ k = 7 := by omega
      have HR := hide hroom
      have HG := hide hkg
      clear hF q1 q2 q3 hlt hmC hroom hkg
      rcases hk8 with rfl | rfl | rfl | rfl | rfl | rfl | rfl | rfl
      · have e0 : shv 0 = 56 := rfl
        have e1 : 56 - 8 = (48 : Int) := rfl
        have e2 : shv (0 + 1) = 48 := rfl
        obtain ⟨d, ed⟩ : ∃ d, N8 / 72057594037927936 = d := ⟨_, rfl⟩
        have hd : (N8 : Int) / 72057594037927936 = (d : Int) := by omega
        have hy : d % 256 = y := by
          rw [← ey, ← ed, ← HN8.out]
          exact (sbyte_nat _ (Nat.mod_lt _ (by decide))).symm
        have h1 : IntKind.u8.wrap (d : Int) = (y : Int) := by rw [IntKind.wrap_u8]; omega
        have h2 : (d : Int) % 256 = (y : Int) := by omega
        rw [e0]
        clear ey ed hy
        go_wp2_with (refine wpList_appendR (op := ⟨some 30, _, _, _, _, _⟩) rfl (.tmp 23) (.tmp 29) 29 29 rfl 5 Try.underlying29 (by kernel_rfl) rfl rfl HQ2.out HR.out HQ1.out (by rw [bs_length, bs_length]; rfl) ?_; rw [hW4])
        go_roundg g3
        case measure => omega
        case rel => exact ⟨0 + 1, by have := HG.out; omega, rfl, by rw [e2], HQ3.out⟩
      · have e0 : shv 1 = 48 := rfl
        have e1 : 48 - 8 = (40 : Int) := rfl
        have e2 : shv (1 + 1) = 40 := rfl
        obtain ⟨d, ed⟩ : ∃ d, N8 / 281474976710656 = d := ⟨_, rfl⟩
        have hd : (N8 : Int) / 281474976710656 = (d : Int) := by omega
        have hy : d % 256 = y := by
          rw [← ey, ← ed, ← HN8.out]
          exact (sbyte_nat _ (Nat.mod_lt _ (by decide))).symm
        have h1 : IntKind.u8.wrap (d : Int) = (y : Int) := by rw [IntKind.wrap_u8]; omega
        have h2 : (d : Int) % 256 = (y : Int) := by omega
        rw [e0]
        clear ey ed hy
        go_wp2_with (refine wpList_appendR (op := ⟨some 30, _, _, _, _, _⟩) rfl (.tmp 23) (.tmp 29) 29 29 rfl 5 Try.underlying29 (by kernel_rfl) rfl rfl HQ2.out HR.out HQ1.out (by rw [bs_length, bs_length]; rfl) ?_; rw [hW4])
        go_roundg g3
        case measure => omega
        case rel => exact ⟨1 + 1, by have := HG.out; omega, rfl, by rw [e2], HQ3.out⟩
      · have e0 : shv 2 = 40 := rfl
        have e1 : 40 - 8 = (32 : Int) := rfl
        have e2 : shv (2 + 1) = 32 := rfl
        obtain ⟨d, ed⟩ : ∃ d, N8 / 1099511627776 = d := ⟨_, rfl⟩
        have hd : (N8 : Int) / 1099511627776 = (d : Int) := by omega
        have hy : d % 256 = y := by
          rw [← ey, ← ed, ← HN8.out]
          exact (sbyte_nat _ (Nat.mod_lt _ (by decide))).symm
        have h1 : IntKind.u8.wrap (d : Int) = (y : Int) := by rw [IntKind.wrap_u8]; omega
        have h2 : (d : Int) % 256 = (y : Int) := by omega
        rw [e0]
        clear ey ed hy
        go_wp2_with (refine wpList_appendR (op := ⟨some 30, _, _, _, _, _⟩) rfl (.tmp 23) (.tmp 29) 29 29 rfl 5 Try.underlying29 (by kernel_rfl) rfl rfl HQ2.out HR.out HQ1.out (by rw [bs_length, bs_length]; rfl) ?_; rw [hW4])
        go_roundg g3
        case measure => omega
        case rel => exact ⟨2 + 1, by have := HG.out; omega, rfl, by rw [e2], HQ3.out⟩
      · have e0 : shv 3 = 32 := rfl
        have e1 : 32 - 8 = (24 : Int) := rfl
        have e2 : shv (3 + 1) = 24 := rfl
        obtain ⟨d, ed⟩ : ∃ d, N8 / 4294967296 = d := ⟨_, rfl⟩
        have hd : (N8 : Int) / 4294967296 = (d : Int) := by omega
        have hy : d % 256 = y := by
          rw [← ey, ← ed, ← HN8.out]
          exact (sbyte_nat _ (Nat.mod_lt _ (by decide))).symm
        have h1 : IntKind.u8.wrap (d : Int) = (y : Int) := by rw [IntKind.wrap_u8]; omega
        have h2 : (d : Int) % 256 = (y : Int) := by omega
        rw [e0]
        clear ey ed hy
        go_wp2_with (refine wpList_appendR (op := ⟨some 30, _, _, _, _, _⟩) rfl (.tmp 23) (.tmp 29) 29 29 rfl 5 Try.underlying29 (by kernel_rfl) rfl rfl HQ2.out HR.out HQ1.out (by rw [bs_length, bs_length]; rfl) ?_; rw [hW4])
        go_roundg g3
        case measure => omega
        case rel => exact ⟨3 + 1, by have := HG.out; omega, rfl, by rw [e2], HQ3.out⟩
      · have e0 : shv 4 = 24 := rfl
        have e1 : 24 - 8 = (16 : Int) := rfl
        have e2 : shv (4 + 1) = 16 := rfl
        obtain ⟨d, ed⟩ : ∃ d, N8 / 16777216 = d := ⟨_, rfl⟩
        have hd : (N8 : Int) / 16777216 = (d : Int) := by omega
        have hy : d % 256 = y := by
          rw [← ey, ← ed, ← HN8.out]
          exact (sbyte_nat _ (Nat.mod_lt _ (by decide))).symm
        have h1 : IntKind.u8.wrap (d : Int) = (y : Int) := by rw [IntKind.wrap_u8]; omega
        have h2 : (d : Int) % 256 = (y : Int) := by omega
        rw [e0]
        clear ey ed hy
        go_wp2_with (refine wpList_appendR (op := ⟨some 30, _, _, _, _, _⟩) rfl (.tmp 23) (.tmp 29) 29 29 rfl 5 Try.underlying29 (by kernel_rfl) rfl rfl HQ2.out HR.out HQ1.out (by rw [bs_length, bs_length]; rfl) ?_; rw [hW4])
        go_roundg g3
        case measure => omega
        case rel => exact ⟨4 + 1, by have := HG.out; omega, rfl, by rw [e2], HQ3.out⟩
      · have e0 : shv 5 = 16 := rfl
        have e1 : 16 - 8 = (8 : Int) := rfl
        have e2 : shv (5 + 1) = 8 := rfl
        obtain ⟨d, ed⟩ : ∃ d, N8 / 65536 = d := ⟨_, rfl⟩
        have hd : (N8 : Int) / 65536 = (d : Int) := by omega
        have hy : d % 256 = y := by
          rw [← ey, ← ed, ← HN8.out]
          exact (sbyte_nat _ (Nat.mod_lt _ (by decide))).symm
        have h1 : IntKind.u8.wrap (d : Int) = (y : Int) := by rw [IntKind.wrap_u8]; omega
        have h2 : (d : Int) % 256 = (y : Int) := by omega
        rw [e0]
        clear ey ed hy
        go_wp2_with (refine wpList_appendR (op := ⟨some 30, _, _, _, _, _⟩) rfl (.tmp 23) (.tmp 29) 29 29 rfl 5 Try.underlying29 (by kernel_rfl) rfl rfl HQ2.out HR.out HQ1.out (by rw [bs_length, bs_length]; rfl) ?_; rw [hW4])
        go_roundg g3
        case measure => omega
        case rel => exact ⟨5 + 1, by have := HG.out; omega, rfl, by rw [e2], HQ3.out⟩
      · have e0 : shv 6 = 8 := rfl
        have e1 : 8 - 8 = (0 : Int) := rfl
        have e2 : shv (6 + 1) = 0 := rfl
        obtain ⟨d, ed⟩ : ∃ d, N8 / 256 = d := ⟨_, rfl⟩
        have hd : (N8 : Int) / 256 = (d : Int) := by omega
        have hy : d % 256 = y := by
          rw [← ey, ← ed, ← HN8.out]
          exact (sbyte_nat _ (Nat.mod_lt _ (by decide))).symm
        have h1 : IntKind.u8.wrap (d : Int) = (y : Int) := by rw [IntKind.wrap_u8]; omega
        have h2 : (d : Int) % 256 = (y : Int) := by omega
        rw [e0]
        clear ey ed hy
        go_wp2_with (refine wpList_appendR (op := ⟨some 30, _, _, _, _, _⟩) rfl (.tmp 23) (.tmp 29) 29 29 rfl 5 Try.underlying29 (by kernel_rfl) rfl rfl HQ2.out HR.out HQ1.out (by rw [bs_length, bs_length]; rfl) ?_; rw [hW4])
        go_roundg g3
        case measure => omega
        case rel => exact ⟨6 + 1, by have := HG.out; omega, rfl, by rw [e2], HQ3.out⟩
      · have e0 : shv 7 = 0 := rfl
        have e1 : 0 - 8 = (-8 : Int) := rfl
        have e2 : shv (7 + 1) = -8 := rfl
        obtain ⟨d, ed⟩ : ∃ d, N8 / 1 = d := ⟨_, rfl⟩
        have hd : (N8 : Int) / 1 = (d : Int) := by omega
        have hy : d % 256 = y := by
          rw [← ey, ← ed, ← HN8.out, Nat.div_one]
          exact (sbyte_nat _ (Nat.mod_lt _ (by decide))).symm
        have h1 : IntKind.u8.wrap (d : Int) = (y : Int) := by rw [IntKind.wrap_u8]; omega
        have h2 : (d : Int) % 256 = (y : Int) := by omega
        obtain rfl : N8 = d := by omega
        rw [e0]
        clear ey ed hy
        go_wp2_with (refine wpList_appendR (op := ⟨some 30, _, _, _, _, _⟩) rfl (.tmp 23) (.tmp 29) 29 29 rfl 5 Try.underlying29 (by kernel_rfl) rfl rfl HQ2.out HR.out HQ1.out (by rw [bs_length, bs_length]; rfl) ?_; rw [hW4])
        go_roundg g3
        case measure => omega
        case rel => exact ⟨7 + 1, by have := HG.out; omega, by rw [show 1 + m + (7 + 1) = C from HM.out.2], by rw [e2], HQ3.out⟩
    · obtain rfl : k = 8 := by omega
      have hl : (sfill n).length = 1 + m + 8 := by rw [sfill_length]; have := HM.out.1; omega
      have hr := hF.r
      rw [← hl, List.take_length, show List.replicate (8 - 8) (0 : UInt8) = [] from rfl, List.append_nil] at hr
      have hx := run_textR (P := Try.prog) wr 29 9 5 (c := C) Try.underlying29 Try.underlying5 Try.underlying9 w.heap.size 0 rfl (hl.trans HM.out.2) hr.cell
      have HB := hide hF.be
      have e0 : shv 8 = -8 := rfl
      rw [e0]
      clear hF hr hl
      go_wp2_with fail
      go_ret
      exact ⟨rfl, HB.out⟩

end Go.Proofs.Ytdcmjmmfclhfbaa
