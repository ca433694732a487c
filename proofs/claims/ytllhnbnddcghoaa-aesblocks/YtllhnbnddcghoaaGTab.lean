/- The document's stand-ins, walked. For any byte: the call returns what ATab says, and leaves the world as it is; the table of all lies in memory of the call's own. -/
import Derived.Test.YtllhnbnddcghoaaGLow
import Derived.Test.YtllhnbnddcghoaaAInv
namespace Go.Proofs.Ytllhnbnddcghoaa
open Go.RowKit Bk
set_option linter.unusedVariables false
set_option linter.unusedSimpArgs false

theorem gmul_u8 (a b : UInt8) (w : World) : Calls Try.prog 30 #[.int .u8 (a.toNat : Int), .int .u8 (b.toNat : Int)] w fun e w' => e = .returned (.int .u8 ((mu a b).toNat : Int)) ∧ w' = w := by
  rw [mu_nat]
  exact gmul_any a.toNat b.toNat w (UInt8.toNat_lt a) (UInt8.toNat_lt b)
theorem turned_1 (x : UInt8) (w : World) : Calls Try.prog 38 #[.int .u8 (x.toNat : Int), .int .u32 1] w fun e w' => e = .returned (.int .u8 ((rot 1 x).toNat : Int)) ∧ w' = w := by
  have h := rot_int 1 2 128 x.toNat rfl rfl (UInt8.toNat_lt x)
  rw [u8_of] at h
  go_enter Try.func38, Try.ntmps38
  go_wp2
  go_ret
  exact ⟨ret_u8 h, rfl⟩
theorem turned_2 (x : UInt8) (w : World) : Calls Try.prog 38 #[.int .u8 (x.toNat : Int), .int .u32 2] w fun e w' => e = .returned (.int .u8 ((rot 2 x).toNat : Int)) ∧ w' = w := by
  have h := rot_int 2 4 64 x.toNat rfl rfl (UInt8.toNat_lt x)
  rw [u8_of] at h
  go_enter Try.func38, Try.ntmps38
  go_wp2
  go_ret
  exact ⟨ret_u8 h, rfl⟩
theorem turned_3 (x : UInt8) (w : World) : Calls Try.prog 38 #[.int .u8 (x.toNat : Int), .int .u32 3] w fun e w' => e = .returned (.int .u8 ((rot 3 x).toNat : Int)) ∧ w' = w := by
  have h := rot_int 3 8 32 x.toNat rfl rfl (UInt8.toNat_lt x)
  rw [u8_of] at h
  go_enter Try.func38, Try.ntmps38
  go_wp2
  go_ret
  exact ⟨ret_u8 h, rfl⟩
theorem turned_4 (x : UInt8) (w : World) : Calls Try.prog 38 #[.int .u8 (x.toNat : Int), .int .u32 4] w fun e w' => e = .returned (.int .u8 ((rot 4 x).toNat : Int)) ∧ w' = w := by
  have h := rot_int 4 16 16 x.toNat rfl rfl (UInt8.toNat_lt x)
  rw [u8_of] at h
  go_enter Try.func38, Try.ntmps38
  go_wp2
  go_ret
  exact ⟨ret_u8 h, rfl⟩
theorem conv_byte (k : Nat) (h : k < 256) (w : World) : (convert 3 5 (.int .i64 (k : Int))).run Try.prog w = .ok (.int .u8 (k : Int)) w := by
  have h1 := run_convert_int (P := Try.prog) w 3 5 .i64 (k : Int) (by rw [Try.underlying3]; rfl) Try.underlying5
  have e : Try.prog.intKind 5 = .u8 := by kernel_rfl
  rw [e] at h1
  rw [h1, IntWalk.u8_in _ (by omega)]

set_option maxRecDepth 100000 in
set_option maxHeartbeats 4000000 in
theorem gstand_any (a : UInt8) (w : World) :
    Calls Try.prog 36 #[.int .u8 (a.toNat : Int)] w fun e w' => e = .returned (.int .u8 ((gy SB a.toNat).toNat : Int)) ∧ w' = w := by
  obtain ⟨R, eR⟩ : ∃ R, gy SB a.toNat = R := ⟨_, rfl⟩
  obtain ⟨x, ex⟩ : ∃ R, gy IV a.toNat = R := ⟨_, rfl⟩
  have hR : sbf x = R := by rw [← ex, ← eR]; unfold SB; rw [gy_map (by unfold IV; rw [ivs_length]; exact UInt8.toNat_lt a)]
  have hx : sti a.toNat 255 = x.toNat := by rw [← ex]; exact sti_is (UInt8.toNat_lt a)
  obtain ⟨A, eA⟩ : ∃ n, a.toNat = n := ⟨_, rfl⟩
  have lA : A < 256 := eA ▸ UInt8.toNat_lt a
  rw [eR]
  rw [eA] at hx ⊢
  have HX := hide (And.intro hx hR)
  have HA := hide lA
  clear eR ex hR hx lA eA
  go_enter Try.func36, Try.ntmps36
  go_wp2_with fail
  go_loopg [3, 4] 255 (fun g i q wr => ∃ k : Nat, k + g = 255 ∧ q = .int .i64 ((k : Int) + 1) ∧ i = .int .u8 (sti A k : Nat) ∧ wr = w)
  case atStart => exact ⟨0, rfl, rfl, rfl, rfl⟩
  case round =>
    obtain ⟨k, hkg, rfl, rfl, rfl⟩ := hrel
    by_cases hlt : k < 255
    · obtain ⟨g3, rfl⟩ : ∃ g3, gk = g3 + 1 := ⟨gk - 1, by omega⟩
      obtain ⟨m, em⟩ : ∃ m, k + 1 = m := ⟨_, rfl⟩
      have eI : (k : Int) + 1 = (m : Int) := by omega
      rw [eI]
      have hlt' : (m : Int) < 256 := by omega
      have hcv := conv_byte m (by omega)
      have hst : sti A (k + 1) = if pr A (k + 1) = 1 then k + 1 else sti A k := rfl
      rw [em] at hst
      obtain ⟨p, ep⟩ : ∃ p, pr A m = p := ⟨_, rfl⟩
      obtain ⟨s, es⟩ : ∃ p, sti A k = p := ⟨_, rfl⟩
      rw [ep, es] at hst
      rw [es]
      have HP := hide ep
      have HM := hide (And.intro (show m < 256 by omega) em)
      clear eI em ep es
      go_wp2_with fail
      refine (gmul_any A m _ HA.out HM.out.1).mono ?_
      rintro e w2 ⟨rfl, hw⟩
      obtain rfl := hw.symm
      rw [HP.out]
      by_cases h1 : p = 1
      · rw [if_pos h1] at hst
        have h1' : ((p : Int) == 1) = true := by rw [h1]; rfl
        have HS := hide hst
        clear hst h1
        go_wp2_with fail
        go_roundg g3
        case measure => omega
        case rel => exact ⟨m, by have := HM.out; omega, by go_num, by rw [← HM.out.2]; rw [HM.out.2, HS.out], rfl⟩
      · rw [if_neg h1] at hst
        have h1' : ((p : Int) == 1) = false := by rw [beq_eq_false_iff_ne]; omega
        have HS := hide hst
        clear hst h1
        go_wp2_with fail
        go_roundg g3
        case measure => omega
        case rel => exact ⟨m, by have := HM.out; omega, by go_num, by rw [HS.out], rfl⟩
    · obtain rfl : k = 255 := by omega
      rw [HX.out.1]
      have e2 : ((((x ^^^ rot 1 x) ^^^ rot 2 x) ^^^ rot 3 x) ^^^ rot 4 x) ^^^ 99 = R := HX.out.2
      have q5 := x8_int ((((x ^^^ rot 1 x) ^^^ rot 2 x) ^^^ rot 3 x) ^^^ rot 4 x) 99
      rw [show ((99 : UInt8).toNat : Int) = 99 from rfl, e2] at q5
      have HQ := hide q5
      clear e2 q5
      have q1 := x8_int x (rot 1 x)
      have q2 := x8_int (x ^^^ rot 1 x) (rot 2 x)
      have q3 := x8_int ((x ^^^ rot 1 x) ^^^ rot 2 x) (rot 3 x)
      have q4 := x8_int (((x ^^^ rot 1 x) ^^^ rot 2 x) ^^^ rot 3 x) (rot 4 x)
      obtain ⟨y1, f01⟩ : ∃ y, x ^^^ rot 1 x = y := ⟨_, rfl⟩
      rw [f01] at q1 q2 q3 q4 HQ
      obtain ⟨y2, f02⟩ : ∃ y, y1 ^^^ rot 2 x = y := ⟨_, rfl⟩
      rw [f02] at q2 q3 q4 HQ
      obtain ⟨y3, f03⟩ : ∃ y, y2 ^^^ rot 3 x = y := ⟨_, rfl⟩
      rw [f03] at q3 q4 HQ
      obtain ⟨y4, f04⟩ : ∃ y, y3 ^^^ rot 4 x = y := ⟨_, rfl⟩
      rw [f04] at q4 HQ
      have q5 := HQ.out
      clear HQ f01 f02 f03 f04
      have hend : ¬ ((256 : Int) < 256) := by decide
      go_wp2_with fail
      refine (turned_1 x _).mono ?_
      rintro e w2 ⟨rfl, hw⟩
      obtain rfl := hw.symm
      go_wp2_with fail
      refine (turned_2 x _).mono ?_
      rintro e w3 ⟨rfl, hw⟩
      obtain rfl := hw.symm
      go_wp2_with fail
      refine (turned_3 x _).mono ?_
      rintro e w4 ⟨rfl, hw⟩
      obtain rfl := hw.symm
      go_wp2_with fail
      refine (turned_4 x _).mono ?_
      rintro e w5 ⟨rfl, hw⟩
      obtain rfl := hw.symm
      go_wp2_with fail
      go_ret
      exact ⟨rfl, rfl⟩

theorem infoY : (Try.prog.info? 5).map (fun i => (i.zero, i.size, i.bytes)) = some (some (.int .u8 0), 1, 1) := by kernel_rfl
theorem take_next (l : List UInt8) (k : Nat) (h : k < l.length) : bs (l.take (k + 1)) = bs (l.take k) ++ [.int .u8 ((gy l k).toNat : Int)] := by
  rw [List.take_add_one, bs_app, gy_get h]
  rfl
set_option maxRecDepth 100000 in
set_option maxHeartbeats 4000000 in
theorem gtable_any (w : World) :
    Calls Try.prog 28 #[] w fun e w' => ∃ v, e = .returned v ∧ Ow w' w.heap.size v 256 (bs SB) ∧ Below w.heap.size w w' := by
  have HS := hide SB_length
  go_enter Try.func28, Try.ntmps28
  go_wp2_with fail
  go_loopg [1, 2] 256 (fun g v q wr => ∃ k : Nat, k + g = 256 ∧ q = .int .i64 k ∧ Ow wr w.heap.size v k (bs (SB.take k)) ∧ Below w.heap.size w wr)
  case atStart => exact ⟨0, rfl, rfl, Ow.nil _ _, Below.refl _ _⟩
  case round =>
    obtain ⟨k, hkg, rfl, hO, hB⟩ := hrel
    by_cases hlt : k < 256
    · have hlt' : (k : Int) < 256 := by omega
      obtain ⟨g3, rfl⟩ : ∃ g3, gk = g3 + 1 := ⟨gk - 1, by omega⟩
      have hcv := conv_byte k hlt
      have ek : (UInt8.ofNat k).toNat = k := UInt8.toNat_ofNat_of_lt' hlt
      obtain ⟨va, vc, rfl, hvc⟩ := hO.shape
      have HO := hide hO
      have HB := hide hB
      have HK := hide (And.intro hlt ek)
      clear hO hB hvc ek
      go_wp2_with fail
      rw [← HK.out.2]
      refine (gstand_any (UInt8.ofNat k) _).mono ?_
      rintro e w2 ⟨rfl, hw⟩
      obtain rfl := hw.symm
      rw [HK.out.2]
      have HO2 := hide (HO.out.keep ((Below.refl wr.heap.size wr).alloc (Nat.le_refl _) (.cells #[.int .u8 ((gy SB k).toNat : Int)] 5)))
      have HB2 := hide (HB.out.alloc HB.out.size (.cells #[.int .u8 ((gy SB k).toNat : Int)] 5))
      clear HO HB
      go_wp2_with (refine wpList_appendO rfl (.tmp 7) (.tmp 11) 55 55 rfl 5 Try.underlying55 infoY (by decide) rfl (B := w.heap.size) (n := k) (m := 1) (xs := bs (SB.take k)) (news := [.int .u8 ((gy SB k).toNat : Int)]) rfl rfl HO2.out ((Row.newL wr [.int .u8 ((gy SB k).toNat : Int)] 5).src (n := 1) (cap := 1) rfl Try.underlying55 (fun u hu => by simp at hu; subst hu; rfl)) (by have := HK.out.1; omega) HB2.out.size (fun u hu => bs_one hu) ?_
                   intro v5 w5 hO5 hB5
                   have HO5 := hide hO5
                   have HB5 := hide (HB2.out.trans hB5)
                   clear hO5 hB5)
      go_roundg g3
      case measure => omega
      case rel => exact ⟨k + 1, by omega, by go_num, by rw [take_next _ _ (by rw [HS.out]; exact HK.out.1)]; exact HO5.out, HB5.out⟩
    · obtain rfl : k = 256 := by omega
      rw [List.take_of_length_le (by rw [SB_length]; exact Nat.le_refl _)] at hO
      obtain ⟨va, vc, rfl, hvc⟩ := hO.shape
      have HO := hide hO
      have HB := hide hB
      clear hO hB hvc
      go_wp2_with fail
      go_ret
      exact ⟨_, rfl, HO.out, HB.out⟩
end Go.Proofs.Ytllhnbnddcghoaa
