/- The document's products of digits, walked. For rows of at most 64 digits: the call returns what QMath says in memory of its own, and leaves what was there. -/
import Derived.Test.YtdcmjmmfclhfbaaQDig
import Derived.Deep.LoopGhost
namespace Go.Proofs.Ytdcmjmmfclhfbaa
open Go.RowKit Bk
set_option linter.unusedVariables false
set_option linter.unusedSimpArgs false

theorem made_u64 (n : Nat) : (madeCells #[.int .u64 0] n).toList = uq (List.replicate n 0) := by
  apply List.ext_getElem
  · simp [madeCells, uq]
  · intro i h1 h2
    simp [madeCells, uq, Nat.mod_one]
theorem info64' : (Try.prog.info? 55).map (fun i => (i.zero, i.size, i.bytes)) = some (some (.int .u64 0), 1, 8) := by kernel_rfl
theorem mk_u64 (n : Nat) (hn : n ≤ 1000000) (w : World) : (Instr.makeSlice 60 (.int .i64 (n : Int)) (.int .i64 (n : Int))).run Try.prog w = .ok (.slice (some ⟨w.heap.size, 0, none⟩) n n) (w.alloc (.cells (madeCells #[.int .u64 0] n) 55)) :=
  run_make_row' 60 55 (.int .u64 0) 8 Try.underlying60 info64' rfl .i64 .i64 n (by omega) (by omega) w
theorem w64_mul (x y : Nat) : IntKind.u64.wrap ((x : Int) * (y : Int)) = ((w64 (x * y) : Nat) : Int) := w64_int _ _ (by rw [Int.natCast_mul])
theorem w64_add (x y : Nat) : IntKind.u64.wrap ((x : Int) + (y : Int)) = ((w64 (x + y) : Nat) : Int) := w64_int _ _ (by rw [Int.natCast_add])

set_option maxRecDepth 100000 in
set_option maxHeartbeats 8000000 in
theorem rtimes_any {w : World} {ga gb : Nat} (a b : List Nat) (na nb ca cb : Nat) (ha : a.length = na) (hb : b.length = nb) (ra : Row w ga 0 (uq a)) (rb : Row w gb 0 (uq b)) (h64 : na ≤ 64 ∧ nb ≤ 64) :
    Calls Try.prog 54 #[.slice (some ⟨ga, 0, none⟩) na ca, .slice (some ⟨gb, 0, none⟩) nb cb] w fun e w' => ∃ g, e = .returned (.slice (some ⟨g, 0, none⟩) (na + nb) (na + nb)) ∧ w.heap.size ≤ g ∧ Row w' g 0 (uq (tms a b)) ∧ Below w.heap.size w w' := by
  obtain ⟨N, eN⟩ : ∃ N, na + nb = N := ⟨_, rfl⟩
  have n1 : IntKind.i64.wrap ((na : Int) + (nb : Int)) = (N : Int) := by rw [IntWalk.i64_in _ (by omega)]; omega
  have n1' : (na : Int) + (nb : Int) = (N : Int) := by omega
  have hmk := mk_u64 N (by omega)
  obtain ⟨M, eM⟩ : ∃ M, madeCells #[.int .u64 0] N = M := ⟨_, rfl⟩
  rw [eM] at hmk
  obtain ⟨g, W, hg, hW, r0, q0, gl⟩ : ∃ g W, w.heap.size = g ∧ w.alloc (.cells M 55) = W ∧ Row W g 0 (uq (tmI a b 0)) ∧ Below w.heap.size w W ∧ w.heap.size ≤ g := by
    have k := Row.new w M 55
    have e0 : M.toList = uq (tmI a b 0) := by rw [← eM, made_u64]; show _ = uq (List.replicate _ 0); rw [ha, hb, eN]
    rw [e0] at k
    exact ⟨_, _, rfl, rfl, k, (Below.refl _ w).alloc (Nat.le_refl _) _, Nat.le_refl _⟩
  have HR := hide r0
  have HB := hide q0
  have RA := hide ra
  have RB := hide rb
  have EN := hide eN
  clear r0 q0 ra rb eM eN
  go_enter Try.func54, Try.ntmps54
  go_wp2_with fail
  clear hmk hg hW
  go_loopg [6, 7, 8, 9] na (fun g9 q _ _ _ wr => ∃ i : Nat, i + g9 = na ∧ q = .int .i64 i ∧ Row wr g 0 (uq (tmI a b i)) ∧ Below w.heap.size w wr)
  case atStart => exact ⟨0, by omega, rfl, HR.out, HB.out⟩
  case round =>
    clear HR HB
    obtain ⟨i, hig, rfl, hR, hB⟩ := hrel
    by_cases hlt : i < na
    · have hlt' : (i : Int) < (na : Int) := by omega
      obtain ⟨g3, rfl⟩ : ∃ g3, gk = g3 + 1 := ⟨gk - 1, by omega⟩
      obtain ⟨x, ex⟩ : ∃ x, at' a i = x := ⟨_, rfl⟩
      have HR := hide hR
      have HB := hide hB
      have EX := hide ex
      clear hR hB ex
      go_wp2_with fail
      go_loopg [7, 8, 9] nb (fun g9 c q _ wr => ∃ k : Nat, k + g9 = nb ∧ q = .int .i64 k ∧ c = .int .u64 ((tmK x b i (tmI a b i) k).2 : Nat) ∧ Row wr g 0 (uq (tmK x b i (tmI a b i) k).1) ∧ Below w.heap.size w wr)
      case atStart => exact ⟨0, by omega, rfl, rfl, HR.out, HB.out⟩
      case round =>
        clear HR HB
        obtain ⟨k, hkg, rfl, rfl, hR, hB⟩ := hrel
        by_cases hk : k < nb
        · have hk' : (k : Int) < (nb : Int) := by omega
          obtain ⟨g4, rfl⟩ : ∃ g4, gk = g4 + 1 := ⟨gk - 1, by omega⟩
          have hS : tmK x b i (tmI a b i) (k + 1) = ((tmK x b i (tmI a b i) k).1.set (i + k) (w64 (w64 (at' (tmK x b i (tmI a b i) k).1 (i + k) + w64 (x * at' b k)) + (tmK x b i (tmI a b i) k).2) % 65536), w64 (w64 (at' (tmK x b i (tmI a b i) k).1 (i + k) + w64 (x * at' b k)) + (tmK x b i (tmI a b i) k).2) / 65536) := rfl
          have lT : (tmK x b i (tmI a b i) k).1.length = N := by rw [tmK_length, tmI_length, ha, hb, EN.out]
          obtain ⟨T, eT⟩ : ∃ T, tmK x b i (tmI a b i) k = T := ⟨_, rfl⟩
          rw [eT] at hS lT hR
          rw [eT]
          have hik : i + k < N := by have := EN.out; omega
          obtain ⟨ik, eik⟩ : ∃ z, i + k = z := ⟨_, rfl⟩
          have v1 : IntKind.i64.wrap ((i : Int) + (k : Int)) = (ik : Int) := by rw [IntWalk.i64_in _ (by omega)]; omega
          rw [eik] at hS hik
          have p1 : (ik : Int) < (N : Int) := by omega
          have co := hR.q0 ik (by omega)
          have fo := hR.f0 ik (by rw [uq_length]; omega)
          have cx := (RA.out.below hB RA.out.lt).q0 i (by omega)
          have cy := (RB.out.below hB RB.out.lt).q0 k (by omega)
          obtain ⟨oo, eo⟩ : ∃ z, at' T.1 ik = z := ⟨_, rfl⟩
          obtain ⟨y, ey⟩ : ∃ z, at' b k = z := ⟨_, rfl⟩
          obtain ⟨cc, ec⟩ : ∃ z, T.2 = z := ⟨_, rfl⟩
          rw [eo] at co
          rw [EX.out] at cx
          rw [ey] at cy
          rw [eo, ey, ec] at hS
          rw [ec]
          have r1 := w64_mul x y
          obtain ⟨pp, ep⟩ : ∃ z, w64 (x * y) = z := ⟨_, rfl⟩
          rw [ep] at r1 hS
          have r2 := w64_add oo pp
          obtain ⟨qq, eq⟩ : ∃ z, w64 (oo + pp) = z := ⟨_, rfl⟩
          rw [eq] at r2 hS
          have r3 := w64_add qq cc
          have lv := w64_lt (qq + cc)
          obtain ⟨vv, ev⟩ : ∃ z, w64 (qq + cc) = z := ⟨_, rfl⟩
          rw [ev] at r3 hS lv
          obtain ⟨mm, em⟩ : ∃ z, vv % 65536 = z := ⟨_, rfl⟩
          obtain ⟨dd, ed⟩ : ∃ z, vv / 65536 = z := ⟨_, rfl⟩
          rw [em, ed] at hS
          have s1 : (vv : Int) % 65536 = (mm : Int) := by omega
          have s1' : Int.tmod (vv : Int) 65536 = (mm : Int) := by rw [Int.tmod_eq_emod_of_nonneg (by omega)]; exact s1
          have s2 : (vv : Int) / 65536 = (dd : Int) := by omega
          have s2' : Int.tdiv (vv : Int) 65536 = (dd : Int) := by rw [Int.tdiv_eq_ediv_of_nonneg (by omega)]; exact s2
          have u2 := IntWalk.u64_in (dd : Int) (by omega)
          have h3 := hR.set0 (i := ik) (by rw [uq_length]; omega) (.int .u64 (mm : Int))
          rw [← uq_set] at h3
          have HS := hide hS
          have HR := hide hR
          have HB := hide hB
          have H3 := hide h3
          clear hR hB h3 hS eT lT eik eo ey ec ep eq ev em ed lv
          go_wp2_with fail
          refine wp_region_still_tail 18 (by kernel_rfl) (by kernel_rfl) ?_
          simp only [List.take_succ_cons, List.take_zero, List.drop_succ_cons, List.drop_zero]
          repeat still_step
          refine wpStill_nil ?_
          clear cx cy r1 r2 r3
          go_wp2_with fail
          go_roundg g4
          case measure => omega
          case rel =>
            refine ⟨k + 1, by omega, by go_num, ?_, ?_, (HB.out.setCell (p := ⟨g, ik, none⟩) gl (.int .u64 (mm : Int))).drew⟩
            · rw [HS.out]
            · rw [HS.out]; exact H3.out.drew
        · obtain rfl : k = nb := by omega
          have hS : tmI a b (i + 1) = (tmK (at' a i) b i (tmI a b i) b.length).1.set (i + b.length) (tmK (at' a i) b i (tmI a b i) b.length).2 := rfl
          rw [EX.out, hb] at hS
          have lT : (tmK x b i (tmI a b i) k).1.length = N := by rw [tmK_length, tmI_length, ha, hb, EN.out]
          obtain ⟨T, eT⟩ : ∃ T, tmK x b i (tmI a b i) k = T := ⟨_, rfl⟩
          rw [eT] at hS lT hR
          rw [eT]
          obtain ⟨cc, ec⟩ : ∃ z, T.2 = z := ⟨_, rfl⟩
          rw [ec] at hS ⊢
          have hik : i + k < N := by have := EN.out; omega
          obtain ⟨ik, eik⟩ : ∃ z, i + k = z := ⟨_, rfl⟩
          have v1 : IntKind.i64.wrap ((i : Int) + (k : Int)) = (ik : Int) := by rw [IntWalk.i64_in _ (by omega)]; omega
          rw [eik] at hS hik
          have p1 : (ik : Int) < (N : Int) := by omega
          have co := hR.q0 ik (by omega)
          have fo := hR.f0 ik (by rw [uq_length]; omega)
          have h3 := hR.set0 (i := ik) (by rw [uq_length]; omega) (.int .u64 (cc : Int))
          rw [← uq_set, ← hS] at h3
          have HB := hide hB
          have H3 := hide h3
          clear hR hB h3 hS eT lT eik ec
          go_wp2_with fail
          go_roundg g3
          case measure => omega
          case rel => exact ⟨i + 1, by omega, by go_num, H3.out, HB.out.setCell (p := ⟨g, ik, none⟩) gl (.int .u64 (cc : Int))⟩
    · obtain rfl : i = na := by omega
      have hS : tms a b = tmI a b i := by unfold tms; rw [ha]
      rw [← hS] at hR
      have HR := hide hR
      have HB := hide hB
      clear hR hB hS
      go_wp2_with fail
      go_ret
      exact ⟨g, by rw [EN.out]; rfl, gl, HR.out, HB.out⟩
end Go.Proofs.Ytdcmjmmfclhfbaa
