/- The closed statement DecodeNames returns true. No condition. -/
import Derived.Test.YtdbdidohldhnhaaDArgs
namespace Go.Proofs.Ytdbdidohldhnhaa
open Go.ChangeShapes Go.WideShapes Go.ChangeAt Go.RowKit Gf
open Go.ChangeMaps (open_string shut_string)
set_option linter.unusedVariables false

theorem Il.drew {w : World} {a : Option Addr} {n c : Nat} {f : Nat → Int} (h : Il w a n c f) : Il w.drew a n c f := ⟨h.bd, h.out, h.cap, h.nil, h.at'⟩
theorem lf_nul3 : lf [0, 0, 0] = nul := funext fun j => by
  cases j with
  | zero => rfl
  | succ j => cases j with
    | zero => rfl
    | succ j => cases j with
      | zero => rfl
      | succ j => exact lf_out [0, 0, 0] _ (by simp)

set_option maxRecDepth 100000 in
set_option maxHeartbeats 4000000 in
theorem decodeNames_any (w : World) : Calls Try.prog 4 #[] w fun e w' => e = .returned (.bool true) ∧ Below w.heap.size w w' := by
  have i1 : Il (w.alloc (.cells #[.int .i64 3] 3)) (some ⟨w.heap.size, 0, none⟩) 1 1 (lf [3]) := il_lit w [3] (by intro x hx; simp at hx; subst hx; unfold I64; decide)
  have i2 : Il ((w.alloc (.cells #[.int .i64 3] 3)).alloc (.cells #[.int .i64 (-1)] 3)) (some ⟨w.heap.size + 1, 0, none⟩) 1 1 (lf [-1]) := by
    have := il_lit (w.alloc (.cells #[.int .i64 3] 3)) [-1] (by intro x hx; simp at hx; subst hx; unfold I64; decide)
    simp only [World.size_alloc] at this
    exact this
  have i3 : Il (((w.alloc (.cells #[.int .i64 3] 3)).alloc (.cells #[.int .i64 (-1)] 3)).alloc (.cells #[.int .i64 1, .int .i64 1] 3)) (some ⟨w.heap.size + 1 + 1, 0, none⟩) 2 2 (lf [1, 1]) := by
    have := il_lit ((w.alloc (.cells #[.int .i64 3] 3)).alloc (.cells #[.int .i64 (-1)] 3)) [1, 1] (by intro x hx; simp at hx; subst hx; unfold I64; decide)
    simp only [World.size_alloc] at this
    exact this
  have hB0 : Below w.heap.size w ((((w.alloc (.cells #[.int .i64 3] 3)).alloc (.cells #[.int .i64 (-1)] 3)).alloc (.cells #[.int .i64 1, .int .i64 1] 3)).alloc (.cells #[.int .i64 0, .int .i64 0, .slice none 0 0, .int .i64 256, .int .i64 1, .slice none 0 0, .int .i64 3, .int .i64 (-1), .slice none 0 0, .int .i64 3, .int .i64 4, .slice none 0 0, .int .i64 3, .int .i64 1, .slice (some ⟨w.heap.size, 0, none⟩) 1 1, .int .i64 3, .int .i64 1, .slice (some ⟨w.heap.size + 1, 0, none⟩) 1 1, .int .i64 3, .int .i64 2, .slice (some ⟨w.heap.size + 1 + 1, 0, none⟩) 2 2] 32)) := ((((Below.refl _ w).alloc (Nat.le_refl _) _).alloc (by simp) _).alloc (by simp; omega) _).alloc (by simp; omega) _
  have hc0 : ∀ (o : Nat) v, (#[.int .i64 0, .int .i64 0, .slice none 0 0, .int .i64 256, .int .i64 1, .slice none 0 0, .int .i64 3, .int .i64 (-1), .slice none 0 0, .int .i64 3, .int .i64 4, .slice none 0 0, .int .i64 3, .int .i64 1, .slice (some ⟨w.heap.size, 0, none⟩) 1 1, .int .i64 3, .int .i64 1, .slice (some ⟨w.heap.size + 1, 0, none⟩) 1 1, .int .i64 3, .int .i64 2, .slice (some ⟨w.heap.size + 1 + 1, 0, none⟩) 2 2] : Array Value)[o]? = some v → ((((w.alloc (.cells #[.int .i64 3] 3)).alloc (.cells #[.int .i64 (-1)] 3)).alloc (.cells #[.int .i64 1, .int .i64 1] 3)).alloc (.cells #[.int .i64 0, .int .i64 0, .slice none 0 0, .int .i64 256, .int .i64 1, .slice none 0 0, .int .i64 3, .int .i64 (-1), .slice none 0 0, .int .i64 3, .int .i64 4, .slice none 0 0, .int .i64 3, .int .i64 1, .slice (some ⟨w.heap.size, 0, none⟩) 1 1, .int .i64 3, .int .i64 1, .slice (some ⟨w.heap.size + 1, 0, none⟩) 1 1, .int .i64 3, .int .i64 2, .slice (some ⟨w.heap.size + 1 + 1, 0, none⟩) 2 2] 32)).cell? ⟨w.heap.size + 1 + 1 + 1, o, none⟩ = some v := fun o v h => by
    have e := new_cell (((w.alloc (.cells #[.int .i64 3] 3)).alloc (.cells #[.int .i64 (-1)] 3)).alloc (.cells #[.int .i64 1, .int .i64 1] 3)) #[.int .i64 0, .int .i64 0, .slice none 0 0, .int .i64 256, .int .i64 1, .slice none 0 0, .int .i64 3, .int .i64 (-1), .slice none 0 0, .int .i64 3, .int .i64 4, .slice none 0 0, .int .i64 3, .int .i64 1, .slice (some ⟨w.heap.size, 0, none⟩) 1 1, .int .i64 3, .int .i64 1, .slice (some ⟨w.heap.size + 1, 0, none⟩) 1 1, .int .i64 3, .int .i64 2, .slice (some ⟨w.heap.size + 1 + 1, 0, none⟩) 2 2] 32 o v h
    simp only [World.size_alloc] at e
    exact e
  have H0 := hide (And.intro hB0 (And.intro (((i1.alloc (.cells #[.int .i64 (-1)] 3)).alloc (.cells #[.int .i64 1, .int .i64 1] 3)).alloc (.cells #[.int .i64 0, .int .i64 0, .slice none 0 0, .int .i64 256, .int .i64 1, .slice none 0 0, .int .i64 3, .int .i64 (-1), .slice none 0 0, .int .i64 3, .int .i64 4, .slice none 0 0, .int .i64 3, .int .i64 1, .slice (some ⟨w.heap.size, 0, none⟩) 1 1, .int .i64 3, .int .i64 1, .slice (some ⟨w.heap.size + 1, 0, none⟩) 1 1, .int .i64 3, .int .i64 2, .slice (some ⟨w.heap.size + 1 + 1, 0, none⟩) 2 2] 32)) (And.intro ((i2.alloc (.cells #[.int .i64 1, .int .i64 1] 3)).alloc (.cells #[.int .i64 0, .int .i64 0, .slice none 0 0, .int .i64 256, .int .i64 1, .slice none 0 0, .int .i64 3, .int .i64 (-1), .slice none 0 0, .int .i64 3, .int .i64 4, .slice none 0 0, .int .i64 3, .int .i64 1, .slice (some ⟨w.heap.size, 0, none⟩) 1 1, .int .i64 3, .int .i64 1, .slice (some ⟨w.heap.size + 1, 0, none⟩) 1 1, .int .i64 3, .int .i64 2, .slice (some ⟨w.heap.size + 1 + 1, 0, none⟩) 2 2] 32)) (And.intro (i3.alloc (.cells #[.int .i64 0, .int .i64 0, .slice none 0 0, .int .i64 256, .int .i64 1, .slice none 0 0, .int .i64 3, .int .i64 (-1), .slice none 0 0, .int .i64 3, .int .i64 4, .slice none 0 0, .int .i64 3, .int .i64 1, .slice (some ⟨w.heap.size, 0, none⟩) 1 1, .int .i64 3, .int .i64 1, .slice (some ⟨w.heap.size + 1, 0, none⟩) 1 1, .int .i64 3, .int .i64 2, .slice (some ⟨w.heap.size + 1 + 1, 0, none⟩) 2 2] 32)) (And.intro hc0 (show w.heap.size + 1 + 1 + 1 < ((((w.alloc (.cells #[.int .i64 3] 3)).alloc (.cells #[.int .i64 (-1)] 3)).alloc (.cells #[.int .i64 1, .int .i64 1] 3)).alloc (.cells #[.int .i64 0, .int .i64 0, .slice none 0 0, .int .i64 256, .int .i64 1, .slice none 0 0, .int .i64 3, .int .i64 (-1), .slice none 0 0, .int .i64 3, .int .i64 4, .slice none 0 0, .int .i64 3, .int .i64 1, .slice (some ⟨w.heap.size, 0, none⟩) 1 1, .int .i64 3, .int .i64 1, .slice (some ⟨w.heap.size + 1, 0, none⟩) 1 1, .int .i64 3, .int .i64 2, .slice (some ⟨w.heap.size + 1 + 1, 0, none⟩) 2 2] 32)).heap.size by simp))))))
  clear i1 i2 i3 hB0 hc0
  go_enter Try.func4, Try.ntmps4
  go_wp2_with fail
  obtain ⟨hB0, i1, i2, i3, hc0, hl0⟩ := H0.out
  obtain ⟨W0, hW0⟩ : ∃ W0, ((((w.alloc (.cells #[.int .i64 3] 3)).alloc (.cells #[.int .i64 (-1)] 3)).alloc (.cells #[.int .i64 1, .int .i64 1] 3)).alloc (.cells #[.int .i64 0, .int .i64 0, .slice none 0 0, .int .i64 256, .int .i64 1, .slice none 0 0, .int .i64 3, .int .i64 (-1), .slice none 0 0, .int .i64 3, .int .i64 4, .slice none 0 0, .int .i64 3, .int .i64 1, .slice (some ⟨w.heap.size, 0, none⟩) 1 1, .int .i64 3, .int .i64 1, .slice (some ⟨w.heap.size + 1, 0, none⟩) 1 1, .int .i64 3, .int .i64 2, .slice (some ⟨w.heap.size + 1 + 1, 0, none⟩) 2 2] 32)) = W0 := ⟨_, rfl⟩
  rw [hW0] at hB0 i1 i2 i3 hc0 hl0 ⊢
  have HB0 := hide hB0
  have HI := hide (And.intro i1 (And.intro i2 i3))
  have HC0 := hide hc0
  have HL0 := hide hl0
  clear hB0 i1 i2 i3 hc0 hl0 hW0 H0
  go_loopw [2, 3, 4, 25] (fun _ _ _ t wr => ∃ k : Nat, t = .int .i64 k ∧ k ≤ 7 ∧ Below W0.heap.size W0 wr) (fun _ _ _ t _ => 7 - (intOf t).toNat)
  case atStart => exact ⟨0, rfl, by decide, Below.refl _ _⟩
  case round =>
    obtain ⟨k, rfl, hk, hbl⟩ := hrel
    obtain ⟨wo, hwo⟩ : ∃ v, v = wr := ⟨_, rfl⟩
    subst hwo
    have HB := hide hbl
    clear hbl
    have hsel : k = 0 ∨ k = 1 ∨ k = 2 ∨ k = 3 ∨ k = 4 ∨ k = 5 ∨ k = 6 ∨ k = 7 := by omega
    rcases hsel with rfl | rfl | rfl | rfl | rfl | rfl | rfl | rfl
    · have x0 := c_be HB.out HL0.out (HC0.out 0 _ rfl)
      have x1 := c_be HB.out HL0.out (HC0.out 1 _ rfl)
      have x2 := c_be HB.out HL0.out (HC0.out 2 _ rfl)
      have hmk := mk_int 0 0 rfl (by decide)
      go_wp2_with fail
      have y0 := new_cell wo #[.int .i64 0, .int .i64 0, .slice none 0 0] 32 0 _ rfl
      have y1 := new_cell wo #[.int .i64 0, .int .i64 0, .slice none 0 0] 32 1 _ rfl
      have y2 := new_cell wo #[.int .i64 0, .int .i64 0, .slice none 0 0] 32 2 _ rfl
      have z0 := fun O => c_al y0 (by simp) O
      have z1 := fun O => c_al y1 (by simp) O
      have z2 := fun O => c_al y2 (by simp) O
      have hBw := (HB.out.alloc HB.out.size (.cells #[.int .i64 0, .int .i64 0, .slice none 0 0] 32))
      have HBw := hide hBw
      clear hBw
      go_region_held (fun w' => w'.cell? ⟨wo.heap.size, 0, none⟩ = some (.int .i64 0) ∧ w'.cell? ⟨wo.heap.size, 1, none⟩ = some (.int .i64 0) ∧ w'.cell? ⟨wo.heap.size, 2, none⟩ = some (.slice none 0 0)) ((first | exact ⟨y0, y1, y2⟩ | exact ⟨z0 _, z1 _, z2 _⟩ | exact ⟨q0, q1, q2⟩))
        ((go_at_call 10
          refine (dword_bad (gl := nul) 0 (by decide) (il_nil _) (by decide) (.inl rfl)).mono ?_
          rintro e w5 ⟨rfl, b5⟩
          have q0 := c_be b5 (by simp; omega) (z0 (.cells (madeCells #[.int .u16 0] 0) 29))
          have q1 := c_be b5 (by simp; omega) (z1 (.cells (madeCells #[.int .u16 0] 0) 29))
          have q2 := c_be b5 (by simp; omega) (z2 (.cells (madeCells #[.int .u16 0] 0) 29))
          have HB5 := hide ((HBw.out.drew.alloc HBw.out.size (.cells (madeCells #[.int .u16 0] 0) 29)).trans (b5.mono (Nat.le_trans HBw.out.size (by simp))))
          clear b5))
      all_goals (
        go_wp2_with fail
        go_roundw
        case rel => exact ⟨1, by go_num, by decide, HB5.out⟩
        case measure => simp [intOf])
    · have x0 := c_be HB.out HL0.out (HC0.out 3 _ rfl)
      have x1 := c_be HB.out HL0.out (HC0.out 4 _ rfl)
      have x2 := c_be HB.out HL0.out (HC0.out 5 _ rfl)
      have hmk := mk_int 256 256 rfl (by decide)
      go_wp2_with fail
      have y0 := new_cell wo #[.int .i64 256, .int .i64 1, .slice none 0 0] 32 0 _ rfl
      have y1 := new_cell wo #[.int .i64 256, .int .i64 1, .slice none 0 0] 32 1 _ rfl
      have y2 := new_cell wo #[.int .i64 256, .int .i64 1, .slice none 0 0] 32 2 _ rfl
      have z0 := fun O => c_al y0 (by simp) O
      have z1 := fun O => c_al y1 (by simp) O
      have z2 := fun O => c_al y2 (by simp) O
      have hBw := (HB.out.alloc HB.out.size (.cells #[.int .i64 256, .int .i64 1, .slice none 0 0] 32))
      have HBw := hide hBw
      clear hBw
      go_region_held (fun w' => w'.cell? ⟨wo.heap.size, 0, none⟩ = some (.int .i64 256) ∧ w'.cell? ⟨wo.heap.size, 1, none⟩ = some (.int .i64 1) ∧ w'.cell? ⟨wo.heap.size, 2, none⟩ = some (.slice none 0 0)) ((first | exact ⟨y0, y1, y2⟩ | exact ⟨z0 _, z1 _, z2 _⟩ | exact ⟨q0, q1, q2⟩))
        ((go_at_call 10
          refine (dword_bad (gl := nul) 1 (by decide) (il_nil _) (by decide) (.inr (.inl (by decide)))).mono ?_
          rintro e w5 ⟨rfl, b5⟩
          have q0 := c_be b5 (by simp; omega) (z0 (.cells (madeCells #[.int .u16 0] 256) 29))
          have q1 := c_be b5 (by simp; omega) (z1 (.cells (madeCells #[.int .u16 0] 256) 29))
          have q2 := c_be b5 (by simp; omega) (z2 (.cells (madeCells #[.int .u16 0] 256) 29))
          have HB5 := hide ((HBw.out.drew.alloc HBw.out.size (.cells (madeCells #[.int .u16 0] 256) 29)).trans (b5.mono (Nat.le_trans HBw.out.size (by simp))))
          clear b5))
      all_goals (
        go_wp2_with fail
        go_roundw
        case rel => exact ⟨2, by go_num, by decide, HB5.out⟩
        case measure => simp [intOf])
    · have x0 := c_be HB.out HL0.out (HC0.out 6 _ rfl)
      have x1 := c_be HB.out HL0.out (HC0.out 7 _ rfl)
      have x2 := c_be HB.out HL0.out (HC0.out 8 _ rfl)
      have hmk := mk_int 3 3 rfl (by decide)
      go_wp2_with fail
      have y0 := new_cell wo #[.int .i64 3, .int .i64 (-1), .slice none 0 0] 32 0 _ rfl
      have y1 := new_cell wo #[.int .i64 3, .int .i64 (-1), .slice none 0 0] 32 1 _ rfl
      have y2 := new_cell wo #[.int .i64 3, .int .i64 (-1), .slice none 0 0] 32 2 _ rfl
      have z0 := fun O => c_al y0 (by simp) O
      have z1 := fun O => c_al y1 (by simp) O
      have z2 := fun O => c_al y2 (by simp) O
      have hBw := (HB.out.alloc HB.out.size (.cells #[.int .i64 3, .int .i64 (-1), .slice none 0 0] 32))
      have HBw := hide hBw
      clear hBw
      go_region_held (fun w' => w'.cell? ⟨wo.heap.size, 0, none⟩ = some (.int .i64 3) ∧ w'.cell? ⟨wo.heap.size, 1, none⟩ = some (.int .i64 (-1)) ∧ w'.cell? ⟨wo.heap.size, 2, none⟩ = some (.slice none 0 0)) ((first | exact ⟨y0, y1, y2⟩ | exact ⟨z0 _, z1 _, z2 _⟩ | exact ⟨q0, q1, q2⟩))
        ((go_at_call 10
          refine (dword_bad (gl := nul) (-1) (by decide) (il_nil _) (by decide) (.inr (.inr (.inl (by decide))))).mono ?_
          rintro e w5 ⟨rfl, b5⟩
          have q0 := c_be b5 (by simp; omega) (z0 (.cells (madeCells #[.int .u16 0] 3) 29))
          have q1 := c_be b5 (by simp; omega) (z1 (.cells (madeCells #[.int .u16 0] 3) 29))
          have q2 := c_be b5 (by simp; omega) (z2 (.cells (madeCells #[.int .u16 0] 3) 29))
          have HB5 := hide ((HBw.out.drew.alloc HBw.out.size (.cells (madeCells #[.int .u16 0] 3) 29)).trans (b5.mono (Nat.le_trans HBw.out.size (by simp))))
          clear b5))
      all_goals (
        go_wp2_with fail
        go_roundw
        case rel => exact ⟨3, by go_num, by decide, HB5.out⟩
        case measure => simp [intOf])
    · have x0 := c_be HB.out HL0.out (HC0.out 9 _ rfl)
      have x1 := c_be HB.out HL0.out (HC0.out 10 _ rfl)
      have x2 := c_be HB.out HL0.out (HC0.out 11 _ rfl)
      have hmk := mk_int 3 3 rfl (by decide)
      go_wp2_with fail
      have y0 := new_cell wo #[.int .i64 3, .int .i64 4, .slice none 0 0] 32 0 _ rfl
      have y1 := new_cell wo #[.int .i64 3, .int .i64 4, .slice none 0 0] 32 1 _ rfl
      have y2 := new_cell wo #[.int .i64 3, .int .i64 4, .slice none 0 0] 32 2 _ rfl
      have z0 := fun O => c_al y0 (by simp) O
      have z1 := fun O => c_al y1 (by simp) O
      have z2 := fun O => c_al y2 (by simp) O
      have hBw := (HB.out.alloc HB.out.size (.cells #[.int .i64 3, .int .i64 4, .slice none 0 0] 32))
      have HBw := hide hBw
      clear hBw
      go_region_held (fun w' => w'.cell? ⟨wo.heap.size, 0, none⟩ = some (.int .i64 3) ∧ w'.cell? ⟨wo.heap.size, 1, none⟩ = some (.int .i64 4) ∧ w'.cell? ⟨wo.heap.size, 2, none⟩ = some (.slice none 0 0)) ((first | exact ⟨y0, y1, y2⟩ | exact ⟨z0 _, z1 _, z2 _⟩ | exact ⟨q0, q1, q2⟩))
        ((go_at_call 10
          refine (dword_bad (gl := nul) 4 (by decide) (il_nil _) (by decide) (.inr (.inr (.inr (.inl (by decide)))))).mono ?_
          rintro e w5 ⟨rfl, b5⟩
          have q0 := c_be b5 (by simp; omega) (z0 (.cells (madeCells #[.int .u16 0] 3) 29))
          have q1 := c_be b5 (by simp; omega) (z1 (.cells (madeCells #[.int .u16 0] 3) 29))
          have q2 := c_be b5 (by simp; omega) (z2 (.cells (madeCells #[.int .u16 0] 3) 29))
          have HB5 := hide ((HBw.out.drew.alloc HBw.out.size (.cells (madeCells #[.int .u16 0] 3) 29)).trans (b5.mono (Nat.le_trans HBw.out.size (by simp))))
          clear b5))
      all_goals (
        go_wp2_with fail
        go_roundw
        case rel => exact ⟨4, by go_num, by decide, HB5.out⟩
        case measure => simp [intOf])
    · have x0 := c_be HB.out HL0.out (HC0.out 12 _ rfl)
      have x1 := c_be HB.out HL0.out (HC0.out 13 _ rfl)
      have x2 := c_be HB.out HL0.out (HC0.out 14 _ rfl)
      have hmk := mk_int 3 3 rfl (by decide)
      go_wp2_with fail
      have y0 := new_cell wo #[.int .i64 3, .int .i64 1, .slice (some ⟨w.heap.size, 0, none⟩) 1 1] 32 0 _ rfl
      have y1 := new_cell wo #[.int .i64 3, .int .i64 1, .slice (some ⟨w.heap.size, 0, none⟩) 1 1] 32 1 _ rfl
      have y2 := new_cell wo #[.int .i64 3, .int .i64 1, .slice (some ⟨w.heap.size, 0, none⟩) 1 1] 32 2 _ rfl
      have z0 := fun O => c_al y0 (by simp) O
      have z1 := fun O => c_al y1 (by simp) O
      have z2 := fun O => c_al y2 (by simp) O
      have hBw := (HB.out.alloc HB.out.size (.cells #[.int .i64 3, .int .i64 1, .slice (some ⟨w.heap.size, 0, none⟩) 1 1] 32))
      have HBw := hide hBw
      clear hBw
      have HJ := hide ((((HI.out.1.below HB.out).alloc (.cells #[.int .i64 3, .int .i64 1, .slice (some ⟨w.heap.size, 0, none⟩) 1 1] 32)).alloc (.cells (madeCells #[.int .u16 0] 3) 29)).drew)
      go_region_held (fun w' => w'.cell? ⟨wo.heap.size, 0, none⟩ = some (.int .i64 3) ∧ w'.cell? ⟨wo.heap.size, 1, none⟩ = some (.int .i64 1) ∧ w'.cell? ⟨wo.heap.size, 2, none⟩ = some (.slice (some ⟨w.heap.size, 0, none⟩) 1 1)) ((first | exact ⟨y0, y1, y2⟩ | exact ⟨z0 _, z1 _, z2 _⟩ | exact ⟨q0, q1, q2⟩))
        ((go_at_call 10
          refine (dword_bad (gl := (lf [3])) 1 (by decide) HJ.out (by decide) (.inr (.inr (.inr (.inr (fun h => absurd (h.1 0 (by decide)) (by decide))))))).mono ?_
          rintro e w5 ⟨rfl, b5⟩
          have q0 := c_be b5 (by simp; omega) (z0 (.cells (madeCells #[.int .u16 0] 3) 29))
          have q1 := c_be b5 (by simp; omega) (z1 (.cells (madeCells #[.int .u16 0] 3) 29))
          have q2 := c_be b5 (by simp; omega) (z2 (.cells (madeCells #[.int .u16 0] 3) 29))
          have HB5 := hide ((HBw.out.drew.alloc HBw.out.size (.cells (madeCells #[.int .u16 0] 3) 29)).trans (b5.mono (Nat.le_trans HBw.out.size (by simp))))
          clear b5))
      all_goals (
        go_wp2_with fail
        go_roundw
        case rel => exact ⟨5, by go_num, by decide, HB5.out⟩
        case measure => simp [intOf])
    · have x0 := c_be HB.out HL0.out (HC0.out 15 _ rfl)
      have x1 := c_be HB.out HL0.out (HC0.out 16 _ rfl)
      have x2 := c_be HB.out HL0.out (HC0.out 17 _ rfl)
      have hmk := mk_int 3 3 rfl (by decide)
      go_wp2_with fail
      have y0 := new_cell wo #[.int .i64 3, .int .i64 1, .slice (some ⟨w.heap.size + 1, 0, none⟩) 1 1] 32 0 _ rfl
      have y1 := new_cell wo #[.int .i64 3, .int .i64 1, .slice (some ⟨w.heap.size + 1, 0, none⟩) 1 1] 32 1 _ rfl
      have y2 := new_cell wo #[.int .i64 3, .int .i64 1, .slice (some ⟨w.heap.size + 1, 0, none⟩) 1 1] 32 2 _ rfl
      have z0 := fun O => c_al y0 (by simp) O
      have z1 := fun O => c_al y1 (by simp) O
      have z2 := fun O => c_al y2 (by simp) O
      have hBw := (HB.out.alloc HB.out.size (.cells #[.int .i64 3, .int .i64 1, .slice (some ⟨w.heap.size + 1, 0, none⟩) 1 1] 32))
      have HBw := hide hBw
      clear hBw
      have HJ := hide ((((HI.out.2.1.below HB.out).alloc (.cells #[.int .i64 3, .int .i64 1, .slice (some ⟨w.heap.size + 1, 0, none⟩) 1 1] 32)).alloc (.cells (madeCells #[.int .u16 0] 3) 29)).drew)
      go_region_held (fun w' => w'.cell? ⟨wo.heap.size, 0, none⟩ = some (.int .i64 3) ∧ w'.cell? ⟨wo.heap.size, 1, none⟩ = some (.int .i64 1) ∧ w'.cell? ⟨wo.heap.size, 2, none⟩ = some (.slice (some ⟨w.heap.size + 1, 0, none⟩) 1 1)) ((first | exact ⟨y0, y1, y2⟩ | exact ⟨z0 _, z1 _, z2 _⟩ | exact ⟨q0, q1, q2⟩))
        ((go_at_call 10
          refine (dword_bad (gl := (lf [-1])) 1 (by decide) HJ.out (by decide) (.inr (.inr (.inr (.inr (fun h => absurd (h.1 0 (by decide)) (by decide))))))).mono ?_
          rintro e w5 ⟨rfl, b5⟩
          have q0 := c_be b5 (by simp; omega) (z0 (.cells (madeCells #[.int .u16 0] 3) 29))
          have q1 := c_be b5 (by simp; omega) (z1 (.cells (madeCells #[.int .u16 0] 3) 29))
          have q2 := c_be b5 (by simp; omega) (z2 (.cells (madeCells #[.int .u16 0] 3) 29))
          have HB5 := hide ((HBw.out.drew.alloc HBw.out.size (.cells (madeCells #[.int .u16 0] 3) 29)).trans (b5.mono (Nat.le_trans HBw.out.size (by simp))))
          clear b5))
      all_goals (
        go_wp2_with fail
        go_roundw
        case rel => exact ⟨6, by go_num, by decide, HB5.out⟩
        case measure => simp [intOf])
    · have x0 := c_be HB.out HL0.out (HC0.out 18 _ rfl)
      have x1 := c_be HB.out HL0.out (HC0.out 19 _ rfl)
      have x2 := c_be HB.out HL0.out (HC0.out 20 _ rfl)
      have hmk := mk_int 3 3 rfl (by decide)
      go_wp2_with fail
      have y0 := new_cell wo #[.int .i64 3, .int .i64 2, .slice (some ⟨w.heap.size + 1 + 1, 0, none⟩) 2 2] 32 0 _ rfl
      have y1 := new_cell wo #[.int .i64 3, .int .i64 2, .slice (some ⟨w.heap.size + 1 + 1, 0, none⟩) 2 2] 32 1 _ rfl
      have y2 := new_cell wo #[.int .i64 3, .int .i64 2, .slice (some ⟨w.heap.size + 1 + 1, 0, none⟩) 2 2] 32 2 _ rfl
      have z0 := fun O => c_al y0 (by simp) O
      have z1 := fun O => c_al y1 (by simp) O
      have z2 := fun O => c_al y2 (by simp) O
      have hBw := (HB.out.alloc HB.out.size (.cells #[.int .i64 3, .int .i64 2, .slice (some ⟨w.heap.size + 1 + 1, 0, none⟩) 2 2] 32))
      have HBw := hide hBw
      clear hBw
      have HJ := hide ((((HI.out.2.2.below HB.out).alloc (.cells #[.int .i64 3, .int .i64 2, .slice (some ⟨w.heap.size + 1 + 1, 0, none⟩) 2 2] 32)).alloc (.cells (madeCells #[.int .u16 0] 3) 29)).drew)
      go_region_held (fun w' => w'.cell? ⟨wo.heap.size, 0, none⟩ = some (.int .i64 3) ∧ w'.cell? ⟨wo.heap.size, 1, none⟩ = some (.int .i64 2) ∧ w'.cell? ⟨wo.heap.size, 2, none⟩ = some (.slice (some ⟨w.heap.size + 1 + 1, 0, none⟩) 2 2)) ((first | exact ⟨y0, y1, y2⟩ | exact ⟨z0 _, z1 _, z2 _⟩ | exact ⟨q0, q1, q2⟩))
        ((go_at_call 10
          refine (dword_bad (gl := (lf [1, 1])) 2 (by decide) HJ.out (by decide) (.inr (.inr (.inr (.inr (fun h => absurd (h.2 0 1 (by decide) (by decide) rfl) (by decide))))))).mono ?_
          rintro e w5 ⟨rfl, b5⟩
          have q0 := c_be b5 (by simp; omega) (z0 (.cells (madeCells #[.int .u16 0] 3) 29))
          have q1 := c_be b5 (by simp; omega) (z1 (.cells (madeCells #[.int .u16 0] 3) 29))
          have q2 := c_be b5 (by simp; omega) (z2 (.cells (madeCells #[.int .u16 0] 3) 29))
          have HB5 := hide ((HBw.out.drew.alloc HBw.out.size (.cells (madeCells #[.int .u16 0] 3) 29)).trans (b5.mono (Nat.le_trans HBw.out.size (by simp))))
          clear b5))
      all_goals (
        go_wp2_with fail
        go_roundw
        case rel => exact ⟨7, by go_num, by decide, HB5.out⟩
        case measure => simp [intOf])
    · have hmk := mk_int 255 255 rfl (by decide)
      have hS1 : Sl (wo.alloc (.cells (madeCells #[.int .u16 0] 255) 29)) (some ⟨wo.heap.size, 0, none⟩) 255 255 nul := (Wr.made wo 255).sl 255 (Nat.le_refl _) nul16 (fun _ _ => rfl)
      have hB1 := HB.out.alloc HB.out.size (.cells (madeCells #[.int .u16 0] 255) 29)
      have n1 : Near 255 nul 255 0 nul nul := near_self nul16 (fun _ _ => rfl) (rt_nul fun _ _ => rfl) (by decide)
      have n2 : Near 2 (lf [5, 6]) 0 0 nul (lf [5, 6]) := near_self (lf16 (by decide)) (lf_out [5, 6]) (fun j hj => by omega) (by decide)
      have n4 : Near 3 (lf [5, 6, 7]) 3 3 (lf [0, 1, 2]) nul := ⟨nul16, fun _ _ => rfl, rt_nul fun _ _ => rfl, by
        have := cnt_none (n := 3) (d := off (lf [0, 1, 2]) 3 (lf [5, 6, 7]) nul) (fun i hi => by
          rcases (show i = 0 ∨ i = 1 ∨ i = 2 by omega) with rfl | rfl | rfl <;> rfl)
        omega⟩
      have g3 : Gn (lf [1]) 1 2 := ⟨fun k hk => by rw [show k = 0 from by omega]; decide, fun i j hi hj _ => by omega⟩
      have g4 : Gn (lf [0, 1, 2]) 3 3 := ⟨fun k hk => by rcases (show k = 0 ∨ k = 1 ∨ k = 2 by omega) with rfl | rfl | rfl <;> decide, fun i j hi hj e => by
        rcases (show i = 0 ∨ i = 1 ∨ i = 2 by omega) with rfl | rfl | rfl <;> rcases (show j = 0 ∨ j = 1 ∨ j = 2 by omega) with rfl | rfl | rfl <;> first | rfl | exact absurd e (by decide)⟩
      have HN := hide (And.intro n1 (And.intro n2 (And.intro n4 (And.intro g3 g4))))
      have HS1 := hide (And.intro hS1 hB1)
      clear hS1 hB1 n1 n2 n4 g3 g4
      go_wp2_with fail
      refine (dword_ok (r := 255) HS1.out.1 (il_nil _) (by decide) (by decide) (by decide) (by decide) (gn_nil _ _) HN.out.1).mono ?_
      rintro e w1 ⟨a1, c1, rfl, h1⟩
      have HT1 := hide (HS1.out.2.trans (h1.bel.mono (Nat.le_trans HB.out.size (by simp))))
      have l2 : Sl (w1.alloc (.cells #[.int .u16 5, .int .u16 6] 29)) (some ⟨w1.heap.size, 0, none⟩) 2 2 (lf [5, 6]) := sl_lit w1 [5, 6] (by decide)
      have HL2 := hide l2
      clear h1 l2 hmk
      go_wp2_with fail
      refine (dword_ok (r := 0) HL2.out (il_nil _) (by decide) (by decide) (by decide) (by decide) (gn_nil _ _) HN.out.2.1).mono ?_
      rintro e w2 ⟨a2, c2, rfl, h2⟩
      have hB2 := (bel_lit w1 (.cells #[.int .u16 5, .int .u16 6] 29)).trans (h2.bel.mono (by simp))
      have HT2 := hide (HT1.out.trans (hB2.mono HT1.out.size))
      have H2 := hide h2.sl
      have l3 : Sl (w2.alloc (.cells #[.int .u16 5, .int .u16 6] 29)) (some ⟨w2.heap.size, 0, none⟩) 2 2 (lf [5, 6]) := sl_lit w2 [5, 6] (by decide)
      have i3 : Il ((w2.alloc (.cells #[.int .u16 5, .int .u16 6] 29)).alloc (.cells #[.int .i64 1] 3)) (some ⟨w2.heap.size + 1, 0, none⟩) 1 1 (lf [1]) := by
        have := il_lit (w2.alloc (.cells #[.int .u16 5, .int .u16 6] 29)) [1] (by intro x hx; simp at hx; subst hx; unfold I64; decide)
        simp only [World.size_alloc] at this
        exact this
      have hB3 := (bel_lit w2 (.cells #[.int .u16 5, .int .u16 6] 29)).alloc (by simp) (.cells #[.int .i64 1] 3)
      have HL3 := hide (And.intro (l3.alloc (.cells #[.int .i64 1] 3)) (And.intro i3 hB3))
      clear h2 hB2 l3 i3 hB3
      go_wp2_with fail
      refine (dword_lost (r := 0) HL3.out.1 HL3.out.2.1 (by decide) (by decide) (by decide) (by decide) HN.out.2.2.2.1 (fun cw => lost_many (by decide))).mono ?_
      rintro e w3 ⟨rfl, b3⟩
      have hB3 := HL3.out.2.2.trans (b3.mono (by simp; omega))
      have HT3 := hide (HT2.out.trans (hB3.mono HT2.out.size))
      have H23 := hide (H2.out.below hB3)
      have l4 : Sl (w3.alloc (.cells #[.int .u16 5, .int .u16 6, .int .u16 7] 29)) (some ⟨w3.heap.size, 0, none⟩) 3 3 (lf [5, 6, 7]) := sl_lit w3 [5, 6, 7] (by decide)
      have i4 : Il ((w3.alloc (.cells #[.int .u16 5, .int .u16 6, .int .u16 7] 29)).alloc (.cells #[.int .i64 0, .int .i64 1, .int .i64 2] 3)) (some ⟨w3.heap.size + 1, 0, none⟩) 3 3 (lf [0, 1, 2]) := by
        have := il_lit (w3.alloc (.cells #[.int .u16 5, .int .u16 6, .int .u16 7] 29)) [0, 1, 2] (by intro x hx; simp at hx; rcases hx with rfl | rfl | rfl <;> (unfold I64; decide))
        simp only [World.size_alloc] at this
        exact this
      have hB4 := (bel_lit w3 (.cells #[.int .u16 5, .int .u16 6, .int .u16 7] 29)).alloc (by simp) (.cells #[.int .i64 0, .int .i64 1, .int .i64 2] 3)
      have HL4 := hide (And.intro (l4.alloc (.cells #[.int .i64 0, .int .i64 1, .int .i64 2] 3)) (And.intro i4 hB4))
      clear b3 hB3 l4 i4 hB4
      go_wp2_with fail
      refine (dword_ok (r := 3) HL4.out.1 HL4.out.2.1 (by decide) (by decide) (by decide) (by decide) HN.out.2.2.2.2 HN.out.2.2.1).mono ?_
      rintro e w4 ⟨a4, c4, rfl, h4⟩
      have hB4 := HL4.out.2.2.trans (h4.bel.mono (by simp; omega))
      have HT4 := hide (HT3.out.trans (hB4.mono HT3.out.size))
      have h24 := H23.out.below hB4
      obtain ⟨b2, o2, e2, hb2, hc2⟩ := h24.at'.resolve_left (by decide)
      subst e2
      have k0 : w4.cell? ⟨b2, o2, none⟩ = some (.int .u16 5) := hc2 0 (by decide)
      have k1 : w4.cell? ⟨b2, o2 + 1, none⟩ = some (.int .u16 6) := hc2 1 (by decide)
      have l5 : Sl (w4.alloc (.cells #[.int .u16 0, .int .u16 0, .int .u16 0] 29)) (some ⟨w4.heap.size, 0, none⟩) 3 3 (lf [0, 0, 0]) := sl_lit w4 [0, 0, 0] (by decide)
      have HL5 := hide (And.intro (h4.sl.alloc (.cells #[.int .u16 0, .int .u16 0, .int .u16 0] 29)) (l5.congr lf_nul3))
      clear h4 hB4 h24 hb2 hc2 l5
      go_wp2_with fail
      refine (same_any HL5.out.1 HL5.out.2 (by decide) rfl rfl).mono ?_
      rintro e w5 ⟨rfl, b5⟩
      have hB5 := (bel_lit w4 (.cells #[.int .u16 0, .int .u16 0, .int .u16 0] 29)).trans (b5.mono (by simp))
      have HT5 := hide (HT4.out.trans (hB5.mono HT4.out.size))
      clear b5 hB5 k0 k1
      go_wp2_with fail
      refine (most_yes 4 1 _ (by decide) (by decide)).mono ?_
      rintro e w6 ⟨rfl, hw6⟩
      obtain rfl := hw6.symm
      go_wp2_with fail
      refine (most_yes 4 4 _ (by decide) (by decide)).mono ?_
      rintro e w6 ⟨rfl, hw6⟩
      obtain rfl := hw6.symm
      go_wp2_with fail
      refine (most_no 4 5 _ (by decide)).mono ?_
      rintro e w6 ⟨rfl, hw6⟩
      obtain rfl := hw6.symm
      go_wp2_with fail
      refine (most_yes 0 0 _ (by decide) (by decide)).mono ?_
      rintro e w6 ⟨rfl, hw6⟩
      obtain rfl := hw6.symm
      go_wp2_with fail
      refine (dawake_any _).mono ?_
      rintro e w7 ⟨rfl, b7⟩
      have HT7 := hide (HT5.out.trans (b7.mono HT5.out.size))
      clear b7
      go_wp2_with fail
      go_ret
      exact ⟨rfl, HB0.out.trans (HT7.out.mono HB0.out.size)⟩

theorem decodeNames_own : ownKnob Try.prog.godebug = none := by kernel_rfl
theorem decodeNames_laidOut : laidOutB Try.prog = true := by kernel_rfl

set_option maxRecDepth 100000 in
theorem decodeNames_lifted (os : Os) (started : os.Started) (H : Type) (enc : TypeId × Value → H) :
    ReturnsInHanded {} Try.checked os 4 .any (Rows.decodeNamesSpec.pre6 enc Try.prog Try.f4 Rows.decodeNamesRow.domain false) (Rows.decodeNamesSpec.post enc Try.prog Try.f4 false true false false) := by
  refine returnsInHanded_of_change (C := Try.checked) decodeNames_own started (by kernel_rfl) Try.func4
    (ChangeSpec.witness6 (enc := enc) (C := Try.checked) false ⟨#[], #[], []⟩ 8 (by kernel_rfl) (by kernel_rfl) (by kernel_rfl) (by kernel_rfl)) ?_
  intro W base args ds gs before hval0 hW hcnd _
  have hval : ∀ (j : Nat) t v, Try.f4.params[j]? = some t → args[j]? = some v → Value.okWide Try.prog W .any base t v := hval0
  have hW' := hW
  obtain ⟨p, q, hA0, hV, rfl, hfz, hnd⟩ := hW
  have hA : DataW.TrodAll enc Try.prog W 0 (fun _ => true) true Try.f4.params.toList args.toList ds p := hA0
  rw [Try.params4] at hA hval
  obtain ⟨rfl, rfl, rfl⟩ := trodAll_none hA
  obtain ⟨rfl, rfl⟩ := trodVars_none hV
  clear hA0 hval0
  simp only [List.append_nil] at hW'
  refine (decodeNames_any W ).mono fun e W' ⟨he, bel⟩ => ?_
  subst he
  exact ⟨_, rfl, _, _, _, [], [], [], hW', trodAll_mk1 (shut_bool Try.underlying4 _), rfl, rfl, bel.frame _, fun h => by cases h⟩

theorem decodeNames_holds : Rows.DecodeNamesSaid :=
  OpenClaim.holds_of_wide 4 Try.f4 rfl rfl rfl rfl rfl rfl rfl ⟨rfl, rfl, rfl, rfl, rfl⟩ rfl rfl rfl rfl rfl (by kernel_rfl) Try.func4 (by kernel_rfl)
    (of_decide_eq_true (by kernel_rfl)) (by unfold Func.isWrapper; first | (rw [if_pos (by decide +kernel)]; kernel_rfl) | (rw [if_neg (by decide +kernel)]; exact ⟨rfl, rfl⟩))
    (fun os started H enc _ => decodeNames_lifted os started H enc)

#print axioms decodeNames_holds

end Go.Proofs.Ytdbdidohldhnhaa
