/- A round's key, walked. For any cipher that lies in memory, and any round: the call returns it, and leaves what was there. -/
import Derived.Test.YtllhnbnddcghoaaAWord
import Derived.Laws.Cover3
namespace Go.Proofs.Ytllhnbnddcghoaa
open Go.RowKit Bk
set_option linter.unusedVariables false
set_option linter.unusedSimpArgs false

/-- A cipher's bytes: stand-ins, the other way about, the words. -/
def ciB (W : List UInt8) : List UInt8 := SB ++ (OB ++ W)
theorem ciB_length {W : List UInt8} (h : W.length = 240) : (ciB W).length = 752 := by unfold ciB; rw [List.length_append, List.length_append, SB_length, OB_length, h]
theorem ciB_sb {w : World} {b : Nat} {W : List UInt8} (h : Row w b 0 (bs (ciB W))) : Row w b 0 (bs SB) := by
  unfold ciB at h
  rw [bs_app] at h
  exact h.left
theorem ciB_ob {w : World} {b : Nat} {W : List UInt8} (h : Row w b 0 (bs (ciB W))) : Row w b 256 (bs OB) := by
  unfold ciB at h
  rw [bs_app] at h
  have k := h.right
  rw [bs_length, SB_length, bs_app] at k
  exact k.left
theorem ciB_w {w : World} {b : Nat} {W : List UInt8} (h : Row w b 0 (bs (ciB W))) : Row w b 512 (bs W) := by
  unfold ciB at h
  rw [bs_app] at h
  have k := h.right
  rw [bs_length, SB_length, bs_app] at k
  have k2 := k.right
  rw [bs_length, OB_length] at k2
  exact k2

set_option maxRecDepth 100000 in
set_option maxHeartbeats 4000000 in
theorem aKey_any (W : List UInt8) (n : Nat) (w : World) (b : Nat) (hW : W.length = 240) (hn : n ≤ 14) (hR : Row w b 0 (bs (ciB W))) :
    Calls Try.prog 18 #[.pointer (some ⟨b, 0, none⟩), .int .i64 (n : Int)] w fun e w' => e = .returned (.agg (bs (kR W n)).toArray) ∧ Below w.heap.size w w' := by
  have lR : (kR W n).length = 16 := kR_length (by omega)
  have hK : Row w b (512 + n * 16) (bs (kR W n)) := by
    unfold kR
    rw [Nat.mul_comm 16 n]
    exact (ciB_w hR).part (n * 16) 16 (by omega)
  obtain ⟨W0, hW0, r1, r2, b0⟩ : ∃ W0, w.alloc (.cells Z16 40) = W0 ∧ Row W0 w.heap.size 0 (bs (zr 16)) ∧ Row W0 b (512 + n * 16) (bs (kR W n)) ∧ Below w.heap.size w W0 :=
    ⟨_, rfl, Row.newL w (bs (zr 16)) _, hK.alloc _, (Below.refl _ w).alloc (Nat.le_refl _) _⟩
  have HX := hide lR
  have H1 := hide r1
  have H0 := hide r2
  have HB := hide b0
  have v1 := IntWalk.i64_in (4 * (n : Int)) (by omega)
  have v2 : (0 : Int) ≤ 4 * (n : Int) := by omega
  have v3 : 4 * (n : Int) ≤ 60 := by omega
  have v4 : (4 * (n : Int)).toNat = 4 * n := by omega
  clear r1 r2 b0 lR hR hK
  subst hW0
  have harr : ∀ w, (Instr.arrayAt 40 (.slice (some ⟨b, 512 + 4 * n * 4, none⟩) (60 - 4 * n) (60 - 4 * n))).run Try.prog w = .ok (.pointer (some ⟨b, 512 + n * 16, none⟩)) w := fun w => by
    rw [run_arrayAt (h := Try.underlying40) (hn := by omega), show 512 + 4 * n * 4 = 512 + n * 16 by omega]
  go_enter Try.func18, Try.ntmps18
  go_wp2_with (first | (refine wpList_loadR (op := ⟨some 12, _, _, _, _, _⟩) rfl 40 (.tmp 11) rfl rfl _ H0.out Try.underlying40 rfl (by rw [bs_length, HX.out]; kernel_rfl) ?_) | (refine wpList_storeR (op := ⟨none, _, _, _, _, _⟩) rfl 40 (.tmp 4) (.tmp 12) rfl rfl (vs := bs (kR W n)) rfl H1.out (by rw [bs_length, bs_length, HX.out, zr_length]) (by rw [bs_length, HX.out]; kernel_rfl) (fun v hv => bs_one hv) ?_))
  exact post_row (cs := bs (kR W n)) _ (H1.out.put (bs (kR W n)) (by rw [bs_length, bs_length, HX.out, zr_length])) rfl rfl Try.underlying40 rfl (by rw [bs_length, HX.out]; kernel_rfl) rfl ⟨rfl, HB.out.trans (below_setCells (by omega) _ _ _)⟩
end Go.Proofs.Ytllhnbnddcghoaa
