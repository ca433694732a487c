/- The state ahead of all blocks, a block that is filled up, and the digest's bytes, walked. For a key of at most 32 bytes; for at most 64 bytes together. Each call returns what BMath says and leaves what was there. -/
import Derived.Test.YtjdgaolailfplaaAfter
import Derived.Test.YtjdgaolailfplaaBOps
namespace Go.Proofs.Ytjdgaolailfplaa
open Go.RowKit Bk
set_option linter.unusedVariables false

theorem h0_int (k : Nat) (hk : k ≤ 32) : bits .xor .u32 1779033703 (bits .xor .u32 16842784 ((k : Int) * 256)) = ((1779033703 ^^^ (16842784 ^^^ (k * 256)) : Nat) : Int) := by
  have e1 : (k : Int) * 256 = ((k * 256 : Nat) : Int) := by omega
  have e2 := u32_xor_nat 16842784 (k * 256) (by decide) (by omega)
  have e3 := u32_xor_nat 1779033703 (16842784 ^^^ (k * 256)) (by decide) (xr_lt (by decide) (by omega))
  rw [e1]
  have e4 : bits .xor .u32 16842784 ((k * 256 : Nat) : Int) = ((16842784 ^^^ (k * 256) : Nat) : Int) := e2
  rw [e4]
  exact e3

set_option maxRecDepth 100000 in
set_option maxHeartbeats 4000000 in
theorem begin_any (k : Nat) (w : World) (hk : k ≤ 32) :
    Calls Try.prog 26 #[.int .i64 k] w fun e w' => e = .returned (.agg (stv (h0 k) 0).toArray) ∧ Below w.heap.size w w' := by
  go_enter Try.func26, Try.ntmps26
  go_wp2_with fail
  refine (first_any _).mono ?_
  rintro e w1 ⟨rfl, hB⟩
  have rb := (Row.new w #[.int .u32 0, .int .u32 0, .int .u32 0, .int .u32 0, .int .u32 0, .int .u32 0, .int .u32 0, .int .u32 0, .int .u64 0] 58).below hB (by simp)
  have hb1 := ((Below.refl w.heap.size w).alloc (Nat.le_refl _) (.cells #[.int .u32 0, .int .u32 0, .int .u32 0, .int .u32 0, .int .u32 0, .int .u32 0, .int .u32 0, .int .u32 0, .int .u64 0] 58)).trans (hB.mono (by simp))
  have hlt : w.heap.size < w1.heap.size := rb.lt
  have R1 := Row.new w1 #[.int .u32 0, .int .u32 0, .int .u32 0, .int .u32 0, .int .u32 0, .int .u32 0, .int .u32 0, .int .u32 0, .int .u64 0] 58
  obtain ⟨W1, hW1, q1, q2, q3⟩ : ∃ W1, (w1.alloc (.cells #[.int .u32 0, .int .u32 0, .int .u32 0, .int .u32 0, .int .u32 0, .int .u32 0, .int .u32 0, .int .u32 0, .int .u64 0] 58)).setCells w1.heap.size 0 (stv iv 0) = W1 ∧ Row W1 w.heap.size 0 (stv (List.replicate 8 0) 0) ∧ Row W1 w1.heap.size 0 (stv iv 0) ∧ Below w.heap.size w W1 :=
    ⟨_, rfl, rb.keep _ _ _, R1.put _ rfl, below_made hb1 (by omega) _ _ _⟩
  have c0 : W1.cell? ⟨w1.heap.size, 0, none⟩ = some (.int .u32 1779033703) := q2.cell 0 _ rfl
  have f0 : W1.frozen? ⟨w1.heap.size, 0, none⟩ = false := q2.f0 0 (by rw [stv_length]; omega)
  have z := h0_int k hk
  have v1 := IntWalk.u32_in (k : Int) (by omega)
  have v2 := IntWalk.u32_in ((k : Int) * 256) (by omega)
  have v3 : (k : Int) % 4294967296 = (k : Int) := by omega
  have v4 : (k : Int) * 256 % 4294967296 = (k : Int) * 256 := by omega
  obtain ⟨x, ex⟩ : ∃ x, 1779033703 ^^^ (16842784 ^^^ (k * 256)) = x := ⟨_, rfl⟩
  rw [ex] at z
  obtain ⟨W2, hW2, p1, p2, p3⟩ : ∃ W2, W1.setCell ⟨w1.heap.size, 0, none⟩ (.int .u32 (x : Int)) = W2 ∧ Row W2 w.heap.size 0 (stv (List.replicate 8 0) 0) ∧ Row W2 w1.heap.size 0 (stv (h0 k) 0) ∧ Below w.heap.size w W2 := by
    refine ⟨_, rfl, q1.other _ _ _ (.inl (by omega)), ?_, q3.setCell (show w.heap.size ≤ w1.heap.size by omega) _⟩
    have k9 := q2.set0 (i := 0) (by rw [stv_length]; omega) (.int .u32 (x : Int))
    have e9 : (stv iv 0).set 0 (.int .u32 (x : Int)) = stv (h0 k) 0 := by
      unfold h0
      rw [ex]
      rfl
    rwa [e9] at k9
  have n0 : (h0 k).length = 8 := h0_length k
  have HR1 := hide R1
  have HP1 := hide p1
  have HP2 := hide p2
  have HP3 := hide p3
  obtain ⟨H, hH⟩ : ∃ H, h0 k = H := ⟨_, rfl⟩
  rw [hH] at HP2 n0
  have HH := hide hH
  clear hH R1 p1 p2 p3 q1 q2 q3 rb hb1 hB ex
  go_wp2_with (first | (refine wpList_buildL (op := ⟨some 5, _, _, _, _, _⟩) rfl 58 _ rfl (stv iv 0) (by kernel_rfl) ?_) | (refine wpList_storeR (op := ⟨none, _, _, _, _, _⟩) rfl 58 (.tmp 3) (.tmp 5) rfl rfl (vs := stv iv 0) rfl HR1.out (by rfl) (by kernel_rfl) (fun v hv => stv_one hv) ?_; rw [hW1]) | (refine wpList_loadR (op := ⟨some 16, _, _, _, _, _⟩) rfl 58 (.tmp 3) rfl rfl _ HP2.out Try.underlying58 rfl (by rw [stv_length, n0]; kernel_rfl) ?_) | (refine wpList_storeR (op := ⟨none, _, _, _, _, _⟩) rfl 58 (.tmp 2) (.tmp 16) rfl rfl (vs := stv H 0) rfl HP1.out (by rw [stv_length, n0]; rfl) (by rw [stv_length, n0]; kernel_rfl) (fun v hv => stv_one hv) ?_))
  refine post_row _ (HP1.out.put (stv H 0) (by rw [stv_length, n0]; rfl)) rfl rfl Try.underlying58 rfl (by rw [stv_length, n0]; kernel_rfl) rfl ?_
  refine ⟨?_, HP3.out.trans (below_setCells (Nat.le_refl _) _ _ _)⟩
  exact congrArg (fun z => Ending.returned (.agg (stv z 0).toArray)) HH.out.symm
/-- A block of what was left and what comes behind it, filled up by noughts. -/
def fill64 (l s : List UInt8) : List UInt8 := l ++ (s ++ List.replicate (64 - l.length - s.length) 0)
theorem fill64_length (l s : List UInt8) (h : l.length + s.length ≤ 64) : (fill64 l s).length = 64 := by unfold fill64; simp; omega
theorem rep_split {α : Type} (x : α) (n m : Nat) (h : m ≤ n) : List.replicate n x = List.replicate m x ++ List.replicate (n - m) x := by rw [List.replicate_append_replicate]; congr 1; omega
theorem bs_nil : bs [] = [] := rfl

set_option maxRecDepth 100000 in
set_option maxHeartbeats 4000000 in
theorem filled_any (w : World) (a : Option Addr) (n c : Nat) (l : List UInt8) (s : ByteArray) (h : Sb w a n c l) (hs : n + s.size ≤ 64) :
    Calls Try.prog 28 #[.slice a n c, .string s] w fun e w' => e = .returned (.agg (bs (fill64 l (sb s))).toArray) ∧ Below w.heap.size w w' := by
  have hl := h.len
  have hF : (fill64 l (sb s)).length = 64 := fill64_length _ _ (by rw [sb_length]; omega)
  obtain ⟨F, eF⟩ : ∃ F, fill64 l (sb s) = F := ⟨_, rfl⟩
  have z0 := (Row.new (w.alloc (.cells #[.int .u8 0, .int .u8 0, .int .u8 0, .int .u8 0, .int .u8 0, .int .u8 0, .int .u8 0, .int .u8 0, .int .u8 0, .int .u8 0, .int .u8 0, .int .u8 0, .int .u8 0, .int .u8 0, .int .u8 0, .int .u8 0, .int .u8 0, .int .u8 0, .int .u8 0, .int .u8 0, .int .u8 0, .int .u8 0, .int .u8 0, .int .u8 0, .int .u8 0, .int .u8 0, .int .u8 0, .int .u8 0, .int .u8 0, .int .u8 0, .int .u8 0, .int .u8 0, .int .u8 0, .int .u8 0, .int .u8 0, .int .u8 0, .int .u8 0, .int .u8 0, .int .u8 0, .int .u8 0, .int .u8 0, .int .u8 0, .int .u8 0, .int .u8 0, .int .u8 0, .int .u8 0, .int .u8 0, .int .u8 0, .int .u8 0, .int .u8 0, .int .u8 0, .int .u8 0, .int .u8 0, .int .u8 0, .int .u8 0, .int .u8 0, .int .u8 0, .int .u8 0, .int .u8 0, .int .u8 0, .int .u8 0, .int .u8 0, .int .u8 0, .int .u8 0] 63)) #[.int .u8 0, .int .u8 0, .int .u8 0, .int .u8 0, .int .u8 0, .int .u8 0, .int .u8 0, .int .u8 0, .int .u8 0, .int .u8 0, .int .u8 0, .int .u8 0, .int .u8 0, .int .u8 0, .int .u8 0, .int .u8 0, .int .u8 0, .int .u8 0, .int .u8 0, .int .u8 0, .int .u8 0, .int .u8 0, .int .u8 0, .int .u8 0, .int .u8 0, .int .u8 0, .int .u8 0, .int .u8 0, .int .u8 0, .int .u8 0, .int .u8 0, .int .u8 0, .int .u8 0, .int .u8 0, .int .u8 0, .int .u8 0, .int .u8 0, .int .u8 0, .int .u8 0, .int .u8 0, .int .u8 0, .int .u8 0, .int .u8 0, .int .u8 0, .int .u8 0, .int .u8 0, .int .u8 0, .int .u8 0, .int .u8 0, .int .u8 0, .int .u8 0, .int .u8 0, .int .u8 0, .int .u8 0, .int .u8 0, .int .u8 0, .int .u8 0, .int .u8 0, .int .u8 0, .int .u8 0, .int .u8 0, .int .u8 0, .int .u8 0, .int .u8 0] 63)
  rw [World.size_alloc] at z0
  have zr := (Row.new w #[.int .u8 0, .int .u8 0, .int .u8 0, .int .u8 0, .int .u8 0, .int .u8 0, .int .u8 0, .int .u8 0, .int .u8 0, .int .u8 0, .int .u8 0, .int .u8 0, .int .u8 0, .int .u8 0, .int .u8 0, .int .u8 0, .int .u8 0, .int .u8 0, .int .u8 0, .int .u8 0, .int .u8 0, .int .u8 0, .int .u8 0, .int .u8 0, .int .u8 0, .int .u8 0, .int .u8 0, .int .u8 0, .int .u8 0, .int .u8 0, .int .u8 0, .int .u8 0, .int .u8 0, .int .u8 0, .int .u8 0, .int .u8 0, .int .u8 0, .int .u8 0, .int .u8 0, .int .u8 0, .int .u8 0, .int .u8 0, .int .u8 0, .int .u8 0, .int .u8 0, .int .u8 0, .int .u8 0, .int .u8 0, .int .u8 0, .int .u8 0, .int .u8 0, .int .u8 0, .int .u8 0, .int .u8 0, .int .u8 0, .int .u8 0, .int .u8 0, .int .u8 0, .int .u8 0, .int .u8 0, .int .u8 0, .int .u8 0, .int .u8 0, .int .u8 0] 63).alloc (.cells #[.int .u8 0, .int .u8 0, .int .u8 0, .int .u8 0, .int .u8 0, .int .u8 0, .int .u8 0, .int .u8 0, .int .u8 0, .int .u8 0, .int .u8 0, .int .u8 0, .int .u8 0, .int .u8 0, .int .u8 0, .int .u8 0, .int .u8 0, .int .u8 0, .int .u8 0, .int .u8 0, .int .u8 0, .int .u8 0, .int .u8 0, .int .u8 0, .int .u8 0, .int .u8 0, .int .u8 0, .int .u8 0, .int .u8 0, .int .u8 0, .int .u8 0, .int .u8 0, .int .u8 0, .int .u8 0, .int .u8 0, .int .u8 0, .int .u8 0, .int .u8 0, .int .u8 0, .int .u8 0, .int .u8 0, .int .u8 0, .int .u8 0, .int .u8 0, .int .u8 0, .int .u8 0, .int .u8 0, .int .u8 0, .int .u8 0, .int .u8 0, .int .u8 0, .int .u8 0, .int .u8 0, .int .u8 0, .int .u8 0, .int .u8 0, .int .u8 0, .int .u8 0, .int .u8 0, .int .u8 0, .int .u8 0, .int .u8 0, .int .u8 0, .int .u8 0] 63)
  have hb := ((Below.refl w.heap.size w).alloc (Nat.le_refl _) (.cells #[.int .u8 0, .int .u8 0, .int .u8 0, .int .u8 0, .int .u8 0, .int .u8 0, .int .u8 0, .int .u8 0, .int .u8 0, .int .u8 0, .int .u8 0, .int .u8 0, .int .u8 0, .int .u8 0, .int .u8 0, .int .u8 0, .int .u8 0, .int .u8 0, .int .u8 0, .int .u8 0, .int .u8 0, .int .u8 0, .int .u8 0, .int .u8 0, .int .u8 0, .int .u8 0, .int .u8 0, .int .u8 0, .int .u8 0, .int .u8 0, .int .u8 0, .int .u8 0, .int .u8 0, .int .u8 0, .int .u8 0, .int .u8 0, .int .u8 0, .int .u8 0, .int .u8 0, .int .u8 0, .int .u8 0, .int .u8 0, .int .u8 0, .int .u8 0, .int .u8 0, .int .u8 0, .int .u8 0, .int .u8 0, .int .u8 0, .int .u8 0, .int .u8 0, .int .u8 0, .int .u8 0, .int .u8 0, .int .u8 0, .int .u8 0, .int .u8 0, .int .u8 0, .int .u8 0, .int .u8 0, .int .u8 0, .int .u8 0, .int .u8 0, .int .u8 0] 63)).alloc (by simp) (.cells #[.int .u8 0, .int .u8 0, .int .u8 0, .int .u8 0, .int .u8 0, .int .u8 0, .int .u8 0, .int .u8 0, .int .u8 0, .int .u8 0, .int .u8 0, .int .u8 0, .int .u8 0, .int .u8 0, .int .u8 0, .int .u8 0, .int .u8 0, .int .u8 0, .int .u8 0, .int .u8 0, .int .u8 0, .int .u8 0, .int .u8 0, .int .u8 0, .int .u8 0, .int .u8 0, .int .u8 0, .int .u8 0, .int .u8 0, .int .u8 0, .int .u8 0, .int .u8 0, .int .u8 0, .int .u8 0, .int .u8 0, .int .u8 0, .int .u8 0, .int .u8 0, .int .u8 0, .int .u8 0, .int .u8 0, .int .u8 0, .int .u8 0, .int .u8 0, .int .u8 0, .int .u8 0, .int .u8 0, .int .u8 0, .int .u8 0, .int .u8 0, .int .u8 0, .int .u8 0, .int .u8 0, .int .u8 0, .int .u8 0, .int .u8 0, .int .u8 0, .int .u8 0, .int .u8 0, .int .u8 0, .int .u8 0, .int .u8 0, .int .u8 0, .int .u8 0] 63)
  have hS := (h.below ((Below.refl w.heap.size w).alloc (Nat.le_refl _) (.cells #[.int .u8 0, .int .u8 0, .int .u8 0, .int .u8 0, .int .u8 0, .int .u8 0, .int .u8 0, .int .u8 0, .int .u8 0, .int .u8 0, .int .u8 0, .int .u8 0, .int .u8 0, .int .u8 0, .int .u8 0, .int .u8 0, .int .u8 0, .int .u8 0, .int .u8 0, .int .u8 0, .int .u8 0, .int .u8 0, .int .u8 0, .int .u8 0, .int .u8 0, .int .u8 0, .int .u8 0, .int .u8 0, .int .u8 0, .int .u8 0, .int .u8 0, .int .u8 0, .int .u8 0, .int .u8 0, .int .u8 0, .int .u8 0, .int .u8 0, .int .u8 0, .int .u8 0, .int .u8 0, .int .u8 0, .int .u8 0, .int .u8 0, .int .u8 0, .int .u8 0, .int .u8 0, .int .u8 0, .int .u8 0, .int .u8 0, .int .u8 0, .int .u8 0, .int .u8 0, .int .u8 0, .int .u8 0, .int .u8 0, .int .u8 0, .int .u8 0, .int .u8 0, .int .u8 0, .int .u8 0, .int .u8 0, .int .u8 0, .int .u8 0, .int .u8 0] 63))).below ((Below.refl _ (w.alloc (.cells #[.int .u8 0, .int .u8 0, .int .u8 0, .int .u8 0, .int .u8 0, .int .u8 0, .int .u8 0, .int .u8 0, .int .u8 0, .int .u8 0, .int .u8 0, .int .u8 0, .int .u8 0, .int .u8 0, .int .u8 0, .int .u8 0, .int .u8 0, .int .u8 0, .int .u8 0, .int .u8 0, .int .u8 0, .int .u8 0, .int .u8 0, .int .u8 0, .int .u8 0, .int .u8 0, .int .u8 0, .int .u8 0, .int .u8 0, .int .u8 0, .int .u8 0, .int .u8 0, .int .u8 0, .int .u8 0, .int .u8 0, .int .u8 0, .int .u8 0, .int .u8 0, .int .u8 0, .int .u8 0, .int .u8 0, .int .u8 0, .int .u8 0, .int .u8 0, .int .u8 0, .int .u8 0, .int .u8 0, .int .u8 0, .int .u8 0, .int .u8 0, .int .u8 0, .int .u8 0, .int .u8 0, .int .u8 0, .int .u8 0, .int .u8 0, .int .u8 0, .int .u8 0, .int .u8 0, .int .u8 0, .int .u8 0, .int .u8 0, .int .u8 0, .int .u8 0] 63))).alloc (Nat.le_refl _) (.cells #[.int .u8 0, .int .u8 0, .int .u8 0, .int .u8 0, .int .u8 0, .int .u8 0, .int .u8 0, .int .u8 0, .int .u8 0, .int .u8 0, .int .u8 0, .int .u8 0, .int .u8 0, .int .u8 0, .int .u8 0, .int .u8 0, .int .u8 0, .int .u8 0, .int .u8 0, .int .u8 0, .int .u8 0, .int .u8 0, .int .u8 0, .int .u8 0, .int .u8 0, .int .u8 0, .int .u8 0, .int .u8 0, .int .u8 0, .int .u8 0, .int .u8 0, .int .u8 0, .int .u8 0, .int .u8 0, .int .u8 0, .int .u8 0, .int .u8 0, .int .u8 0, .int .u8 0, .int .u8 0, .int .u8 0, .int .u8 0, .int .u8 0, .int .u8 0, .int .u8 0, .int .u8 0, .int .u8 0, .int .u8 0, .int .u8 0, .int .u8 0, .int .u8 0, .int .u8 0, .int .u8 0, .int .u8 0, .int .u8 0, .int .u8 0, .int .u8 0, .int .u8 0, .int .u8 0, .int .u8 0, .int .u8 0, .int .u8 0, .int .u8 0, .int .u8 0] 63))
  obtain ⟨W0, hW0, z1, zr1, hb1, hS1⟩ : ∃ W, (w.alloc (.cells #[.int .u8 0, .int .u8 0, .int .u8 0, .int .u8 0, .int .u8 0, .int .u8 0, .int .u8 0, .int .u8 0, .int .u8 0, .int .u8 0, .int .u8 0, .int .u8 0, .int .u8 0, .int .u8 0, .int .u8 0, .int .u8 0, .int .u8 0, .int .u8 0, .int .u8 0, .int .u8 0, .int .u8 0, .int .u8 0, .int .u8 0, .int .u8 0, .int .u8 0, .int .u8 0, .int .u8 0, .int .u8 0, .int .u8 0, .int .u8 0, .int .u8 0, .int .u8 0, .int .u8 0, .int .u8 0, .int .u8 0, .int .u8 0, .int .u8 0, .int .u8 0, .int .u8 0, .int .u8 0, .int .u8 0, .int .u8 0, .int .u8 0, .int .u8 0, .int .u8 0, .int .u8 0, .int .u8 0, .int .u8 0, .int .u8 0, .int .u8 0, .int .u8 0, .int .u8 0, .int .u8 0, .int .u8 0, .int .u8 0, .int .u8 0, .int .u8 0, .int .u8 0, .int .u8 0, .int .u8 0, .int .u8 0, .int .u8 0, .int .u8 0, .int .u8 0] 63)).alloc (.cells #[.int .u8 0, .int .u8 0, .int .u8 0, .int .u8 0, .int .u8 0, .int .u8 0, .int .u8 0, .int .u8 0, .int .u8 0, .int .u8 0, .int .u8 0, .int .u8 0, .int .u8 0, .int .u8 0, .int .u8 0, .int .u8 0, .int .u8 0, .int .u8 0, .int .u8 0, .int .u8 0, .int .u8 0, .int .u8 0, .int .u8 0, .int .u8 0, .int .u8 0, .int .u8 0, .int .u8 0, .int .u8 0, .int .u8 0, .int .u8 0, .int .u8 0, .int .u8 0, .int .u8 0, .int .u8 0, .int .u8 0, .int .u8 0, .int .u8 0, .int .u8 0, .int .u8 0, .int .u8 0, .int .u8 0, .int .u8 0, .int .u8 0, .int .u8 0, .int .u8 0, .int .u8 0, .int .u8 0, .int .u8 0, .int .u8 0, .int .u8 0, .int .u8 0, .int .u8 0, .int .u8 0, .int .u8 0, .int .u8 0, .int .u8 0, .int .u8 0, .int .u8 0, .int .u8 0, .int .u8 0, .int .u8 0, .int .u8 0, .int .u8 0, .int .u8 0] 63) = W ∧ Row W (w.heap.size + 1) 0 (bs (List.replicate 64 0)) ∧ Row W w.heap.size 0 (bs (List.replicate 64 0)) ∧ Below w.heap.size w W ∧ Sb W a n c l := ⟨_, rfl, z0, zr, hb, hS⟩
  clear z0 zr hb hS
  rw [rep_split (0 : UInt8) 64 n (by omega), bs_app] at z1
  have zl := z1.left
  have zk := z1.right
  rw [bs_length, List.length_replicate, Nat.zero_add] at zk
  rw [rep_split (0 : UInt8) (64 - n) s.size (by omega), bs_app] at zk
  have zm := zk.left
  have zn := zk.right
  rw [bs_length, List.length_replicate] at zn
  obtain ⟨W1, hW1, y0, y1, y2, zr2, hb2⟩ : ∃ W, W0.setCells (w.heap.size + 1) 0 (bs l) = W ∧ Row W (w.heap.size + 1) 0 (bs l) ∧ Row W (w.heap.size + 1) n (bs (List.replicate s.size 0)) ∧ Row W (w.heap.size + 1) (n + s.size) (bs (List.replicate (64 - n - s.size) 0)) ∧ Row W w.heap.size 0 (bs (List.replicate 64 0)) ∧ Below w.heap.size w W :=
    ⟨_, rfl, zl.put _ (by rw [bs_length, bs_length, List.length_replicate, hl]), zm.apart _ _ _ (.inr (.inr (by rw [bs_length, hl]; omega))), zn.apart _ _ _ (.inr (.inr (by rw [bs_length, hl]; omega))), zr1.apart _ _ _ (.inl (by omega)), hb1.trans (below_setCells (by omega) _ _ _)⟩
  have HZL := hide zl
  have HS1 := hide hS1
  obtain ⟨o2, ho2, y1'⟩ : ∃ o2, (if (64 : Nat) = n then (⟨w.heap.size + 1, 0, none⟩ : Addr) else ⟨w.heap.size + 1, n, none⟩) = ⟨w.heap.size + 1, o2, none⟩ ∧ Row W1 (w.heap.size + 1) o2 (bs (List.replicate s.size 0)) ∧ (s.size = 0 ∨ o2 = n) := by
    by_cases e : 64 = n
    · refine ⟨0, by rw [if_pos e], ?_, .inl (by omega)⟩
      have : s.size = 0 := by omega
      rw [this]
      exact ⟨y0.lt, fun j v hj => by simp [bs] at hj, fun j hj => by simp [bs] at hj⟩
    · exact ⟨n, by rw [if_neg e], y1, .inr rfl⟩
  obtain ⟨W2, hW2, x0, zr3, hb3⟩ : ∃ W, W1.setCells (w.heap.size + 1) o2 (bs (sb s)) = W ∧ Row W (w.heap.size + 1) 0 (bs F) ∧ Row W w.heap.size 0 (bs (List.replicate 64 0)) ∧ Below w.heap.size w W := by
    refine ⟨_, rfl, ?_, zr2.apart _ _ _ (.inl (by omega)), hb2.trans (below_setCells (by omega) _ _ _)⟩
    rw [← eF]
    unfold fill64
    rw [hl, sb_length, bs_app, bs_app]
    rcases y1'.2 with e | e
    · have es : sb s = [] := List.length_eq_zero_iff.1 (by rw [sb_length]; exact e)
      rw [es]
      have k0 : Row (W1.setCells (w.heap.size + 1) o2 (bs [])) (w.heap.size + 1) 0 (bs l) := y0
      have k1 : Row (W1.setCells (w.heap.size + 1) o2 (bs [])) (w.heap.size + 1) (0 + (bs l).length) (bs [] ++ bs (List.replicate (64 - n - s.size) 0)) := by
        have k := y2
        rw [e, Nat.add_zero] at k
        rw [bs_length, hl, Nat.zero_add, bs_nil, List.nil_append, e]
        exact k
      exact k0.join k1
    · subst e
      have k0 := y0.apart (w.heap.size + 1) o2 (bs (sb s)) (.inr (.inl (by rw [bs_length, hl]; omega)))
      have k1 := y1.put (bs (sb s)) (by rw [bs_length, bs_length, List.length_replicate, sb_length])
      have k2 := y2.apart (w.heap.size + 1) o2 (bs (sb s)) (.inr (.inr (by rw [bs_length, sb_length]; omega)))
      refine k0.join ?_
      rw [bs_length, hl, Nat.zero_add]
      refine k1.join ?_
      rw [bs_length, sb_length]
      exact k2
  have HY1 := hide y1'.1
  have HX0 := hide x0
  have HZ3 := hide zr3
  have HB3 := hide hb3
  have HF := hide eF
  rw [eF] at hF
  clear zl zk zm zn z1 zr1 hb1 hS1 y0 y1 y2 zr2 hb2 y1' x0 zr3 hb3 h eF
  have n64 : (n : Int) ≤ 64 := by omega
  have hn : n ≤ 64 := by omega
  go_enter Try.func28, Try.ntmps28
  iterate 25 go_step
  refine wpList_copyR (op := ⟨some 9, _, _, _, _, _⟩) rfl (.tmp 7) (.tmp 8) 31 31 rfl 5 Try.underlying31 (by kernel_rfl) rfl rfl (HS1.out.src Try.underlying31) (by omega) HZL.out (by rw [bs_length, bs_length, List.length_replicate, hl]) ?_
  rw [hW1]
  simp only [Act.put, List.setIfInBounds_toArray, List.set_cons_zero, List.set_cons_succ]
  iterate 17 go_step
  refine wpList_copyR (op := ⟨some 13, _, _, _, _, _⟩) rfl (.tmp 11) (.tmp 12) 31 9 rfl 5 Try.underlying31 (by kernel_rfl) rfl rfl (str_src Try.underlying9 s) (by omega) HY1.out (by rw [bs_length, bs_length, List.length_replicate, sb_length]) ?_
  rw [hW2]
  simp only [Act.put, List.setIfInBounds_toArray, List.set_cons_zero, List.set_cons_succ]
  iterate 5 go_step
  refine wpList_loadR (op := ⟨some 14, _, _, _, _, _⟩) rfl 63 (.tmp 5) rfl rfl _ HX0.out Try.underlying63 rfl (by rw [bs_length, hF]; kernel_rfl) ?_
  simp only [Act.put, List.setIfInBounds_toArray, List.set_cons_zero, List.set_cons_succ]
  refine wpList_storeR (op := ⟨none, _, _, _, _, _⟩) rfl 63 (.tmp 4) (.tmp 14) rfl rfl (vs := bs F) rfl HZ3.out (by rw [bs_length, bs_length, hF, List.length_replicate]) (by rw [bs_length, hF]; kernel_rfl) (fun v hv => bs_one hv) ?_
  go_wp2_with fail
  refine post_row _ (HZ3.out.put (bs F) (by rw [bs_length, bs_length, hF, List.length_replicate])) rfl rfl Try.underlying63 rfl (by rw [bs_length, hF]; kernel_rfl) rfl ?_
  refine ⟨?_, HB3.out.trans (below_setCells (Nat.le_refl _) _ _ _)⟩
  exact congrArg (fun z => Ending.returned (.agg (bs z).toArray)) HF.out.symm
end Go.Proofs.Ytjdgaolailfplaa
