/- What the laws ask first: a byte so often, bytes as hexadecimal digits, the examples; walked. -/
import Derived.Test.YtgcgflmgppplmaaSHmac
import Derived.Test.YtgcgflmgppplmaaBMade
namespace Go.Proofs.Ytgcgflmgppplmaa
open Go.RowKit Bk
set_option linter.unusedVariables false
set_option linter.unusedSimpArgs false

set_option maxRecDepth 100000 in
set_option maxHeartbeats 4000000 in
theorem many_any (n : Nat) (c : UInt8) (w : World) (hn : n ≤ 1000000) : Calls Try.prog 15 #[.int .i64 n, .int .u8 (c.toNat : Int)] w fun e w' => e = .returned (.string ⟨(List.replicate n c).toArray⟩) ∧ Below w.heap.size w w' := by
  have hmk := mk_bytes n hn
  obtain ⟨x, hx⟩ : ∃ x, c.toNat = x := ⟨_, rfl⟩
  rw [hx]
  have hnew := row_made w n
  have hbl := (Below.refl _ w).alloc (Nat.le_refl _) (.cells (madeCells #[.int .u8 0] n) 5)
  have HN := hide hnew
  have HB := hide hbl
  clear hnew hbl
  go_enter Try.func15, Try.ntmps15
  go_wp2_with fail
  go_loopg [6] n (fun g t wr => ∃ k : Nat, k + g = n ∧ t = .int .i64 k ∧ Row wr w.heap.size 0 (bs (List.replicate k c ++ List.replicate (n - k) 0)) ∧ Below w.heap.size w wr)
  case atStart => exact ⟨0, by omega, rfl, by simpa using HN.out, HB.out⟩
  case round =>
    clear HN HB
    obtain ⟨k, hkg, rfl, hR, hBl⟩ := hrel
    by_cases hlt : k < n
    · have hlt' : (k : Int) < (n : Int) := by omega
      obtain ⟨g3, rfl⟩ : ∃ g3, gk = g3 + 1 := ⟨gk - 1, by omega⟩
      have hlen : (List.replicate k c ++ List.replicate (n - k) (0 : UInt8)).length = n := by simp; omega
      have hc := hR.y0 k (by omega)
      have hf := hR.f0 k (by rw [bs_length]; omega)
      have hR2 := hR.set0 (i := k) (by rw [bs_length]; omega) (.int .u8 (c.toNat : Int))
      rw [← bs_setU, rep_set c k n hlt, hx] at hR2
      have HR2 := hide hR2
      have HB := hide (hBl.setCell (p := ⟨w.heap.size, k, none⟩) (Nat.le_refl _) (.int .u8 (x : Int)))
      clear hR hR2 hBl
      go_wp2
      go_roundg g3
      case measure => omega
      case rel => exact ⟨k + 1, by omega, by go_num, HR2.out, HB.out⟩
    · obtain rfl : k = n := by omega
      rw [Nat.sub_self, List.replicate_zero, List.append_nil] at hR
      have hxx := run_textR (P := Try.prog) wr 37 9 5 (c := k) (n := k) (l := List.replicate k c) Try.underlying37 Try.underlying5 Try.underlying9 w.heap.size 0 rfl (by simp) hR.cell
      have HB := hide hBl
      clear hR hBl
      go_wp2_with fail
      go_ret
      exact ⟨rfl, HB.out⟩


set_option maxRecDepth 100000 in
set_option maxHeartbeats 4000000 in
theorem begins_yes (s first : ByteArray) (w : World) (hs : s.size = 32) (hf : first.size ≤ 64) (hF : (ByteArray.mk (hxs (sb s)).toArray).extract 0 first.size = first) (hxl : (ByteArray.mk (hxs (sb s)).toArray).size = 64) : Calls Try.prog 14 #[.string s, .string first] w fun e w' => e = .returned (.bool true) ∧ Below w.heap.size w w' := by
  obtain ⟨n, en⟩ : ∃ n, s.size = n := ⟨_, rfl⟩
  have hlen : (sb s).length = n := by rw [sb_length, en]
  have HE := hide (And.intro en hlen)
  have hnI : (s.size : Int) = (n : Int) := by omega
  clear en hlen
  go_enter Try.func14, Try.ntmps14
  go_wp2_with fail
  go_loopg [5, 6] n (fun g v t wr => ∃ k : Nat, k + g = n ∧ t = .int .i64 k ∧ v = .string ⟨(hxs ((sb s).take k)).toArray⟩ ∧ Below w.heap.size w wr)
  case atStart => exact ⟨0, by omega, rfl, rfl, Below.refl _ _⟩
  case round =>
    obtain ⟨k, hkg, rfl, rfl, hB⟩ := hrel
    by_cases hlt : k < n
    · have hlt' : (k : Int) < (n : Int) := by omega
      obtain ⟨g3, rfl⟩ : ∃ g3, gk = g3 + 1 := ⟨gk - 1, by omega⟩
      have hi := idx_str s k (by rw [HE.out.1]; exact hlt)
      obtain ⟨x, ex⟩ : ∃ x, by' (sb s) k = x := ⟨_, rfl⟩
      have lx : x < 256 := ex ▸ by_lt _ _
      rw [ex] at hi
      have HX := hide ex
      clear ex
      have HB := hide hB
      have sd : ∀ y : Nat, y < 16 → ∀ w : World, (Instr.slice 9 (.string (ByteArray.mk #[48, 49, 50, 51, 52, 53, 54, 55, 56, 57, 97, 98, 99, 100, 101, 102])) (some (.int .u8 (y : Int))) (some (.int .u8 ((y : Int) + 1))) none).run Try.prog w = .ok (.string ⟨(hd y).toArray⟩) w := fun y hy w => by
        have e := run_slice_string (P := Try.prog) w 9 (ByteArray.mk #[48, 49, 50, 51, 52, 53, 54, 55, 56, 57, 97, 98, 99, 100, 101, 102]) .u8 .u8 (y : Int) ((y : Int) + 1) Try.underlying9 (Int.natCast_nonneg y) (by omega) (by show (y : Int) + 1 ≤ 16; omega)
        rw [e, show ((y : Int) + 1).toNat = y + 1 by omega, Int.toNat_natCast, ext_digit y hy]
      have hd1 : ∀ y, (hd y).length ≤ 1 := fun y => by unfold hd; rw [List.length_take]; omega
      have hx1 : ∀ l : List UInt8, (hxs l).length ≤ 2 * l.length := fun l => by
        induction l with
        | nil => exact Nat.le_refl _
        | cons c r ih =>
          have a1 := hd1 (c.toNat / 16)
          have a2 := hd1 (c.toNat % 16)
          have e : hxs (c :: r) = (hd (c.toNat / 16) ++ hd (c.toNat % 16)) ++ hxs r := rfl
          rw [e, List.length_append, List.length_append, List.length_cons]; omega
      have hxk := hx1 ((sb s).take k)
      rw [List.length_take] at hxk
      have p1 : ∀ w, (Op.stringOp .add (ByteArray.mk (hxs ((sb s).take k)).toArray) (ByteArray.mk (hd (x / 16)).toArray)).run Try.prog w = .ok (.string ⟨(hxs ((sb s).take k) ++ hd (x / 16)).toArray⟩) w := fun w => by
        rw [run_string_add_sum _ _ _ (by have := hd1 (x / 16); show (hxs _).length + (hd _).length ≤ _; omega), mk_append]
      have p2 : ∀ w, (Op.stringOp .add (ByteArray.mk (hxs ((sb s).take k) ++ hd (x / 16)).toArray) (ByteArray.mk (hd (x % 16)).toArray)).run Try.prog w = .ok (.string ⟨(hxs ((sb s).take (k + 1))).toArray⟩) w := fun w => by
        rw [run_string_add_sum _ _ _ (by have := hd1 (x / 16); have := hd1 (x % 16); show (hxs _ ++ hd _).length + (hd _).length ≤ _; rw [List.length_append]; omega), mk_append, hxs_take _ _ (by rw [HE.out.2]; exact hlt), HX.out, List.append_assoc]
      have s1 := sd (x / 16) (by omega)
      have s2 := sd (x % 16) (by omega)
      have c1 : ((x / 16 : Nat) : Int) = (x : Int) / 16 := by omega
      have c2 : ((x % 16 : Nat) : Int) = (x : Int) % 16 := by omega
      have b1 : IntKind.u8.wrap ((x : Int) / 16 + 1) = (x : Int) / 16 + 1 := IntWalk.u8_in _ (by omega)
      have b2 : IntKind.u8.wrap ((x : Int) % 16 + 1) = (x : Int) % 16 + 1 := IntWalk.u8_in _ (by omega)
      have b3 : IntKind.u8.wrap ((x : Int) / 16) = (x : Int) / 16 := IntWalk.u8_in _ (by omega)
      have b4 : IntKind.u8.wrap ((x : Int) % 16) = (x : Int) % 16 := IntWalk.u8_in _ (by omega)
      rw [c1] at s1
      rw [c2] at s2
      clear hB sd c1 c2 hd1 hx1 hxk
      go_wp2_with fail
      go_quiet (fail)
      go_wp2
      go_roundg g3
      case measure => omega
      case rel => exact ⟨k + 1, by omega, by go_num, rfl, below_drewN HB.out nq⟩
    · obtain rfl : k = n := by omega
      rw [List.take_of_length_le (Nat.le_of_eq HE.out.2)]
      obtain ⟨X, eX⟩ : ∃ X, ByteArray.mk (hxs (sb s)).toArray = X := ⟨_, rfl⟩
      rw [eX] at hF hxl
      have hfI : (first.size : Int) ≤ (X.size : Int) := by omega
      have hfN : first.size ≤ X.size := by omega
      have hsI : (s.size : Int) = 32 := by omega
      have HB := hide hB
      have HX := hide eX
      clear hB
      rw [HX.out]
      clear HX eX
      go_wp2_with fail
      go_ret
      exact ⟨rfl, HB.out⟩

theorem ex0_val : ssum [] = [227, 176, 196, 66, 152, 252, 28, 20, 154, 251, 244, 200, 153, 111, 185, 36, 39, 174, 65, 228, 100, 155, 147, 76, 164, 149, 153, 27, 120, 82, 184, 85] := by decide +kernel
theorem ex0_hex : hxs (ssum []) = [101, 51, 98, 48, 99, 52, 52, 50, 57, 56, 102, 99, 49, 99, 49, 52, 57, 97, 102, 98, 102, 52, 99, 56, 57, 57, 54, 102, 98, 57, 50, 52, 50, 55, 97, 101, 52, 49, 101, 52, 54, 52, 57, 98, 57, 51, 52, 99, 97, 52, 57, 53, 57, 57, 49, 98, 55, 56, 53, 50, 98, 56, 53, 53] := by rw [ex0_val]; decide +kernel
theorem ex0_begins (s : ByteArray) (w : World) (h : sb s = ssum []) : Calls Try.prog 14 #[.string s, .string ⟨#[101, 51, 98, 48, 99, 52, 52, 50, 57, 56, 102, 99, 49, 99, 49, 52]⟩] w fun e w' => e = .returned (.bool true) ∧ Below w.heap.size w w' := by
  refine begins_yes s _ w (by rw [← sb_length, h, ssum_length]) (by decide) ?_ ?_
  · rw [h, ex0_hex]; exact ByteArray.extract_mk _ 0 16
  · rw [h, ex0_hex]; rfl
theorem ex1_val : ssum [97, 98, 99] = [186, 120, 22, 191, 143, 1, 207, 234, 65, 65, 64, 222, 93, 174, 34, 35, 176, 3, 97, 163, 150, 23, 122, 156, 180, 16, 255, 97, 242, 0, 21, 173] := by decide +kernel
theorem ex1_hex : hxs (ssum [97, 98, 99]) = [98, 97, 55, 56, 49, 54, 98, 102, 56, 102, 48, 49, 99, 102, 101, 97, 52, 49, 52, 49, 52, 48, 100, 101, 53, 100, 97, 101, 50, 50, 50, 51, 98, 48, 48, 51, 54, 49, 97, 51, 57, 54, 49, 55, 55, 97, 57, 99, 98, 52, 49, 48, 102, 102, 54, 49, 102, 50, 48, 48, 49, 53, 97, 100] := by rw [ex1_val]; decide +kernel
theorem ex1_begins (s : ByteArray) (w : World) (h : sb s = ssum [97, 98, 99]) : Calls Try.prog 14 #[.string s, .string ⟨#[98, 97, 55, 56, 49, 54, 98, 102, 56, 102, 48, 49, 99, 102, 101, 97]⟩] w fun e w' => e = .returned (.bool true) ∧ Below w.heap.size w w' := by
  refine begins_yes s _ w (by rw [← sb_length, h, ssum_length]) (by decide) ?_ ?_
  · rw [h, ex1_hex]; exact ByteArray.extract_mk _ 0 16
  · rw [h, ex1_hex]; rfl
theorem ex2_val : shmac (List.replicate 20 11) [72, 105, 32, 84, 104, 101, 114, 101] = [176, 52, 76, 97, 216, 219, 56, 83, 92, 168, 175, 206, 175, 11, 241, 43, 136, 29, 194, 0, 201, 131, 61, 167, 38, 233, 55, 108, 46, 50, 207, 247] := by decide +kernel
theorem ex2_hex : hxs (shmac (List.replicate 20 11) [72, 105, 32, 84, 104, 101, 114, 101]) = [98, 48, 51, 52, 52, 99, 54, 49, 100, 56, 100, 98, 51, 56, 53, 51, 53, 99, 97, 56, 97, 102, 99, 101, 97, 102, 48, 98, 102, 49, 50, 98, 56, 56, 49, 100, 99, 50, 48, 48, 99, 57, 56, 51, 51, 100, 97, 55, 50, 54, 101, 57, 51, 55, 54, 99, 50, 101, 51, 50, 99, 102, 102, 55] := by rw [ex2_val]; decide +kernel
theorem ex2_begins (s : ByteArray) (w : World) (h : sb s = shmac (List.replicate 20 11) [72, 105, 32, 84, 104, 101, 114, 101]) : Calls Try.prog 14 #[.string s, .string ⟨#[98, 48, 51, 52, 52, 99, 54, 49, 100, 56, 100, 98, 51, 56, 53, 51]⟩] w fun e w' => e = .returned (.bool true) ∧ Below w.heap.size w w' := by
  refine begins_yes s _ w (by rw [← sb_length, h, shmac_length]) (by decide) ?_ ?_
  · rw [h, ex2_hex]; exact ByteArray.extract_mk _ 0 16
  · rw [h, ex2_hex]; rfl
theorem ex3_val : shmac [74, 101, 102, 101] [119, 104, 97, 116, 32, 100, 111, 32, 121, 97, 32, 119, 97, 110, 116, 32, 102, 111, 114, 32, 110, 111, 116, 104, 105, 110, 103, 63] = [91, 220, 193, 70, 191, 96, 117, 78, 106, 4, 36, 38, 8, 149, 117, 199, 90, 0, 63, 8, 157, 39, 57, 131, 157, 236, 88, 185, 100, 236, 56, 67] := by decide +kernel
theorem ex3_hex : hxs (shmac [74, 101, 102, 101] [119, 104, 97, 116, 32, 100, 111, 32, 121, 97, 32, 119, 97, 110, 116, 32, 102, 111, 114, 32, 110, 111, 116, 104, 105, 110, 103, 63]) = [53, 98, 100, 99, 99, 49, 52, 54, 98, 102, 54, 48, 55, 53, 52, 101, 54, 97, 48, 52, 50, 52, 50, 54, 48, 56, 57, 53, 55, 53, 99, 55, 53, 97, 48, 48, 51, 102, 48, 56, 57, 100, 50, 55, 51, 57, 56, 51, 57, 100, 101, 99, 53, 56, 98, 57, 54, 52, 101, 99, 51, 56, 52, 51] := by rw [ex3_val]; decide +kernel
theorem ex3_begins (s : ByteArray) (w : World) (h : sb s = shmac [74, 101, 102, 101] [119, 104, 97, 116, 32, 100, 111, 32, 121, 97, 32, 119, 97, 110, 116, 32, 102, 111, 114, 32, 110, 111, 116, 104, 105, 110, 103, 63]) : Calls Try.prog 14 #[.string s, .string ⟨#[53, 98, 100, 99, 99, 49, 52, 54, 98, 102, 54, 48, 55, 53, 52, 101]⟩] w fun e w' => e = .returned (.bool true) ∧ Below w.heap.size w w' := by
  refine begins_yes s _ w (by rw [← sb_length, h, shmac_length]) (by decide) ?_ ?_
  · rw [h, ex3_hex]; exact ByteArray.extract_mk _ 0 16
  · rw [h, ex3_hex]; rfl
theorem ex4_val : ssum (List.replicate 1000 97) = [65, 237, 236, 228, 45, 99, 232, 217, 191, 81, 90, 155, 166, 147, 46, 28, 32, 203, 201, 245, 165, 209, 52, 100, 90, 219, 93, 177, 185, 115, 126, 163] := by decide +kernel
theorem ex4_hex : hxs (ssum (List.replicate 1000 97)) = [52, 49, 101, 100, 101, 99, 101, 52, 50, 100, 54, 51, 101, 56, 100, 57, 98, 102, 53, 49, 53, 97, 57, 98, 97, 54, 57, 51, 50, 101, 49, 99, 50, 48, 99, 98, 99, 57, 102, 53, 97, 53, 100, 49, 51, 52, 54, 52, 53, 97, 100, 98, 53, 100, 98, 49, 98, 57, 55, 51, 55, 101, 97, 51] := by rw [ex4_val]; decide +kernel
theorem ex4_begins (s : ByteArray) (w : World) (h : sb s = ssum (List.replicate 1000 97)) : Calls Try.prog 14 #[.string s, .string ⟨#[52, 49, 101, 100, 101, 99, 101, 52]⟩] w fun e w' => e = .returned (.bool true) ∧ Below w.heap.size w w' := by
  refine begins_yes s _ w (by rw [← sb_length, h, ssum_length]) (by decide) ?_ ?_
  · rw [h, ex4_hex]; exact ByteArray.extract_mk _ 0 8
  · rw [h, ex4_hex]; rfl
set_option maxRecDepth 100000 in
set_option maxHeartbeats 8000000 in
theorem works_any (w : World) : Calls Try.prog 9 #[] w fun e w' => e = .returned (.bool true) ∧ Below w.heap.size w w' := by
  obtain ⟨S1, c1⟩ : ∃ S, sdg (sb ⟨#[]⟩) = S := ⟨_, rfl⟩
  obtain ⟨S2, c2⟩ : ∃ S, sdg (sb ⟨#[97, 98, 99]⟩) = S := ⟨_, rfl⟩
  obtain ⟨K, c3⟩ : ∃ K, ByteArray.mk (List.replicate 20 (11 : UInt8)).toArray = K := ⟨_, rfl⟩
  obtain ⟨S3, c4⟩ : ∃ S, shm K ⟨#[72, 105, 32, 84, 104, 101, 114, 101]⟩ = S := ⟨_, rfl⟩
  obtain ⟨S4, c5⟩ : ∃ S, shm ⟨#[74, 101, 102, 101]⟩ ⟨#[119, 104, 97, 116, 32, 100, 111, 32, 121, 97, 32, 119, 97, 110, 116, 32, 102, 111, 114, 32, 110, 111, 116, 104, 105, 110, 103, 63]⟩ = S := ⟨_, rfl⟩
  have b1 := fun w => ex0_begins S1 w (by rw [← c1]; rfl)
  have b2 := fun w => ex1_begins S2 w (by rw [← c2]; rfl)
  have b3 := fun w => ex2_begins S3 w (by rw [← c4, ← c3]; rfl)
  have b4 := fun w => ex3_begins S4 w (by rw [← c5]; rfl)
  have kz : K.size = 20 := by rw [← c3]; rfl
  have C1 := hide c1
  have C2 := hide c2
  have C3 := hide c3
  have C4 := hide c4
  have C5 := hide c5
  have D1 := hide b1
  have D2 := hide b2
  have D3 := hide b3
  have D4 := hide b4
  have KZ := hide kz
  clear c1 c2 c3 c4 c5 b1 b2 b3 b4 kz
  have B0 := hide (Below.refl w.heap.size w)
  go_enter Try.func9, Try.ntmps9
  go_wp2_with fail
  refine (ssum_any ⟨#[]⟩ _ (by decide)).mono ?_
  rintro e w1 ⟨rfl, h1⟩
  rw [C1.out]
  have B1 := hide (B0.out.trans (h1.mono B0.out.size))
  clear h1 B0
  go_wp2_with fail
  refine (D1.out _).mono ?_
  rintro e w2 ⟨rfl, h2⟩
  have B2 := hide (B1.out.trans (h2.mono B1.out.size))
  clear h2 B1
  go_wp2_with fail
  refine (ssum_any ⟨#[97, 98, 99]⟩ _ (by decide)).mono ?_
  rintro e w3 ⟨rfl, h3⟩
  rw [C2.out]
  have B3 := hide (B2.out.trans (h3.mono B2.out.size))
  clear h3 B2
  go_wp2_with fail
  refine (D2.out _).mono ?_
  rintro e w4 ⟨rfl, h4⟩
  have B4 := hide (B3.out.trans (h4.mono B3.out.size))
  clear h4 B3
  go_wp2_with fail
  refine (many_any 20 11 _ (by decide)).mono ?_
  rintro e w5 ⟨rfl, h5⟩
  rw [C3.out]
  have B5 := hide (B4.out.trans (h5.mono B4.out.size))
  clear h5 B4
  go_wp2_with fail
  refine (shmac_any K _ _ (by rw [KZ.out]; decide) (by decide)).mono ?_
  rintro e w6 ⟨rfl, h6⟩
  rw [C4.out]
  have B6 := hide (B5.out.trans (h6.mono B5.out.size))
  clear h6 B5
  go_wp2_with fail
  refine (D3.out _).mono ?_
  rintro e w7 ⟨rfl, h7⟩
  have B7 := hide (B6.out.trans (h7.mono B6.out.size))
  clear h7 B6
  go_wp2_with fail
  refine (shmac_any _ _ _ (by decide) (by decide)).mono ?_
  rintro e w8 ⟨rfl, h8⟩
  rw [C5.out]
  have B8 := hide (B7.out.trans (h8.mono B7.out.size))
  clear h8 B7
  go_wp2_with fail
  refine (D4.out _).mono ?_
  rintro e w9 ⟨rfl, h9⟩
  have B9 := hide (B8.out.trans (h9.mono B8.out.size))
  clear h9 B8
  go_wp2_with fail
  go_ret
  exact ⟨rfl, B9.out⟩
end Go.Proofs.Ytgcgflmgppplmaa
