/- Several texts of ours, one behind the other; what each is for stands ahead of it. -/
import Derived.StillTailTactics
import Derived.Test.YtknjmmbebkcnpaaRun13
import Derived.Test.YtknjmmbebkcnpaaGEnc
import Derived.Test.YtknjmmbebkcnpaaGDec

/- The document's own chain, walked in part: a number in eight bytes, a frame, an exclusive or, one block there and back. -/
namespace Go.Proofs.Ytknjmmbebkcnpaa
open Go.RowKit Bk
set_option linter.unusedVariables false
set_option linter.unusedSimpArgs false

/-- Noughts made, and made a text. -/
theorem mkz (n : Nat) (hn : n ≤ 1000000) (w : World) : (Instr.makeSlice 28 (.int .i64 (n : Int)) (.int .i64 (n : Int))).run Try.prog w = .ok (.slice (some ⟨w.heap.size, 0, none⟩) n n) (w.alloc (.cells (madeCells #[.int .u8 0] n) 5)) := mk_bytes n hn w
theorem mkz_conv (n : Nat) (W : World) : (convert 28 9 (.slice (some ⟨W.heap.size, 0, none⟩) n n)).run Try.prog (W.alloc (.cells (madeCells #[.int .u8 0] n) 5)) = .ok (.string ⟨(List.replicate n 0).toArray⟩) (W.alloc (.cells (madeCells #[.int .u8 0] n) 5)) :=
  run_textR (P := Try.prog) _ 28 9 5 (c := n) (n := n) (l := List.replicate n 0) Try.underlying28 Try.underlying5 Try.underlying9 W.heap.size 0 rfl (by simp) (row_made W n).cell

namespace Bk
/-- A row laid from its end on: the last ones are there. -/
def bk (l : List UInt8) (m : Nat) : List UInt8 := List.replicate m 0 ++ l.drop m
theorem bk_length {l : List UInt8} {m : Nat} (h : m ≤ l.length) : (bk l m).length = l.length := by simp [bk]; omega
theorem bk_set {l : List UInt8} {m : Nat} (h : m < l.length) : (bk l (m + 1)).set m (gy l m) = bk l m := by
  unfold bk
  rw [List.replicate_succ', List.append_assoc, List.set_append_right _ _ (by simp), List.length_replicate, Nat.sub_self]
  show List.replicate m 0 ++ (gy l m :: l.drop (m + 1)) = _
  congr 1
  rw [List.drop_eq_getElem_cons h]
  congr 1
  have := gy_get h
  rw [List.getElem?_eq_getElem h] at this
  exact (Option.some.inj this).symm
end Bk

set_option maxRecDepth 100000 in
set_option maxHeartbeats 2000000 in
theorem rfEight_any (n : Nat) (w : World) (hn : n ≤ 1099511627776) : Calls Try.prog 34 #[.int .i64 (n : Int)] w fun e w' => e = .returned (.string ⟨(n8 n).toArray⟩) ∧ Below w.heap.size w w' := by
  obtain ⟨M8, d8⟩ : ∃ M, madeCells #[.int .u8 0] 8 = M := ⟨_, rfl⟩
  have m8 : ∀ w, (Instr.makeSlice 28 (.int .i64 8) (.int .i64 8)).run Try.prog w = .ok (.slice (some ⟨w.heap.size, 0, none⟩) 8 8) (w.alloc (.cells M8 5)) := by rw [← d8]; exact mk_bytes 8 (by decide)
  obtain ⟨l, el⟩ : ∃ l, n8 n = l := ⟨_, rfl⟩
  have ll : l.length = 8 := by rw [← el]; exact n8_length n
  obtain ⟨W1, hW1, r1, b1⟩ : ∃ W1, w.alloc (.cells M8 5) = W1 ∧ Row W1 w.heap.size 0 (bs (bk l 8)) ∧ Below w.heap.size w W1 := by
    refine ⟨_, rfl, ?_, (Below.refl _ w).alloc (Nat.le_refl _) _⟩
    have := row_made w 8
    rw [d8] at this
    have e : bk l 8 = List.replicate 8 0 := by unfold bk; rw [List.drop_eq_nil_of_le (by omega), List.append_nil]
    rw [e]
    exact this
  have hb : ∀ m, m < 8 → gy l m = UInt8.ofNat (n / 256 ^ (7 - m)) := fun m hm => by rw [← el]; exact gy_n8 n hm
  have HB := hide hb
  have HL := hide ll
  have H0 := hide (And.intro r1 b1)
  rw [el]
  clear el ll r1 b1 d8 hb
  go_enter Try.func34, Try.ntmps34
  go_wp2_with fail
  clear m8 hW1
  go_loopg [0, 4] 8 (fun g v q wr => ∃ k : Nat, k + g = 8 ∧ v = .int .i64 ((n / 256 ^ k : Nat) : Int) ∧ q = .int .i64 (7 - (k : Int)) ∧ Row wr w.heap.size 0 (bs (bk l (8 - k))) ∧ Below w.heap.size w wr)
  case atStart => exact ⟨0, rfl, by rw [Nat.pow_zero, Nat.div_one], rfl, H0.out⟩
  case round =>
    clear H0
    obtain ⟨wo, hwo⟩ : ∃ z, z = wr := ⟨_, rfl⟩
    subst hwo
    obtain ⟨k, hkg, rfl, rfl, hR, hBe⟩ := hrel
    by_cases hlt : k < 8
    · obtain ⟨m, hm⟩ : ∃ m, m + k = 7 := ⟨7 - k, by omega⟩
      have eq7 : (7 : Int) - (k : Int) = (m : Int) := by omega
      rw [eq7]
      have e8 : 8 - k = m + 1 := by omega
      rw [e8] at hR
      obtain ⟨g3, rfl⟩ : ∃ g3, gk = g3 + 1 := ⟨gk - 1, by omega⟩
      obtain ⟨v, ev⟩ : ∃ v, n / 256 ^ k = v := ⟨_, rfl⟩
      have hvn : v ≤ n := by rw [← ev]; exact Nat.div_le_self _ _
      have hnx : n / 256 ^ (k + 1) = v / 256 := by rw [Nat.pow_succ, ← Nat.div_div_eq_div_mul, ev]
      have hy : gy l m = UInt8.ofNat v := by rw [HB.out m (by omega), show 7 - m = k by omega, ev]
      rw [ev]
      obtain ⟨c, ec⟩ : ∃ c, v % 256 = c := ⟨_, rfl⟩
      obtain ⟨x, ex⟩ : ∃ x, v / 256 = x := ⟨_, rfl⟩
      have hyc : ((gy l m).toNat : Int) = (c : Int) := by rw [hy, UInt8.toNat_ofNat']; omega
      have t1 : (v : Int).tmod 256 = (c : Int) := by rw [Int.tmod_eq_emod_of_nonneg (by omega)]; omega
      have t2 : (v : Int).tdiv 256 = (x : Int) := by rw [Int.tdiv_eq_ediv_of_nonneg (by omega)]; omega
      have t3 : (v : Int) % 256 = (c : Int) := by omega
      have t4 : (v : Int) / 256 = (x : Int) := by omega
      have t5 : IntKind.u8.wrap (c : Int) = (c : Int) := by rw [IntKind.wrap_u8]; omega
      have t6 := IntWalk.i64_in (c : Int) (by omega)
      have t7 := IntWalk.i64_in (x : Int) (by omega)
      have t8 := IntWalk.i64_in ((m : Int) - 1) (by omega)
      have hmI : (m : Int) < 8 := by omega
      have hm0 : (0 : Int) ≤ (m : Int) := by omega
      have c1 := hR.g0 m (by rw [bk_length (by rw [HL.out]; omega), HL.out]; omega)
      obtain ⟨z, ez⟩ : ∃ z, (gy (bk l (m + 1)) m).toNat = z := ⟨_, rfl⟩
      rw [ez] at c1
      have f0 := hR.f0 m (by rw [bs_length, bk_length (by rw [HL.out]; omega), HL.out]; omega)
      have h3 := hR.set0 (i := m) (by rw [bs_length, bk_length (by rw [HL.out]; omega), HL.out]; omega) (.int .u8 ((gy l m).toNat : Int))
      rw [← bs_setU, bk_set (by rw [HL.out]; omega), hyc] at h3
      have HN := hide (And.intro h3 (And.intro (hBe.setCell (p := ⟨w.heap.size, m, none⟩) (Nat.le_refl _) (.int .u8 (c : Int))) (And.intro hnx (And.intro ex hm))))
      clear ez hR hBe h3 hyc hy hnx ev hvn ec ex hm e8 eq7
      go_wp2_with fail
      go_roundg g3
      case measure => omega
      case rel => exact ⟨k + 1, by omega, by rw [HN.out.2.2.1, HN.out.2.2.2.1], by rw [show (7 : Int) - ((k + 1 : Nat) : Int) = (m : Int) - 1 by have := HN.out.2.2.2.2; omega], by rw [show 8 - (k + 1) = m by have := HN.out.2.2.2.2; omega]; exact HN.out.1, HN.out.2.1⟩
    · obtain rfl : k = 8 := by omega
      have e : bk l (8 - 8) = l := rfl
      rw [e] at hR
      have hx := run_textR (P := Try.prog) wo 28 9 5 (c := 8) Try.underlying28 Try.underlying5 Try.underlying9 w.heap.size 0 rfl HL.out hR.cell
      have HBe := hide hBe
      clear hR hBe e
      go_wp2_with fail
      go_ret
      exact ⟨rfl, HBe.out⟩

set_option maxRecDepth 100000 in
set_option maxHeartbeats 2000000 in
theorem rfFrame_any (D : ByteArray) (w : World) (hn : D.size ≤ 1000000) : Calls Try.prog 15 #[.string D] w fun e w' => e = .returned (.string (frm D)) ∧ Below w.heap.size w w' := by
  obtain ⟨n, en⟩ : ∃ n, D.size = n := ⟨_, rfl⟩
  have HE := hide (fun w : World => rfEight_any n w (by omega))
  obtain ⟨E, eE⟩ : ∃ E : ByteArray, ⟨(n8 n).toArray⟩ = E := ⟨_, rfl⟩
  obtain ⟨T, eT⟩ : ∃ T, E ++ D = T := ⟨_, rfl⟩
  obtain ⟨L, eL⟩ : ∃ L, lk n = L := ⟨_, rfl⟩
  obtain ⟨Z, eZ⟩ : ∃ Z : ByteArray, ⟨(List.replicate L 0).toArray⟩ = Z := ⟨_, rfl⟩
  obtain ⟨F, eF⟩ : ∃ F, T ++ Z = F := ⟨_, rfl⟩
  have hL := lk_lt n
  have zE : E.size = 8 := by rw [← eE, ← sb_length, sb_mk, n8_length]
  have zT : T.size = 8 + n := by rw [← eT, ByteArray.size_append, zE, en]
  have zZ : Z.size = L := by rw [← eZ, ← sb_length, sb_mk]; simp
  have k1 : ¬ 9223372036854775807 < E.size + n := by omega
  have hF : frm D = F := by
    refine sb_inj ?_
    rw [frm_sb, ← eF, ← eT, ← eZ, ← eE, sb_app, sb_app, sb_mk (n8 n), sb_mk (List.replicate L 0)]
    unfold fr
    rw [sb_length, en, eL, List.append_assoc]
  obtain ⟨M, dM⟩ : ∃ M, madeCells #[.int .u8 0] L = M := ⟨_, rfl⟩
  have mL := mkz L (by omega)
  have cL := fun W => mkz_conv L W
  rw [dM] at mL
  simp only [dM, eZ] at cL
  obtain ⟨N, eN⟩ : ∃ N, T.size = N := ⟨_, rfl⟩
  obtain ⟨c, ec⟩ : ∃ c, N % 16 = c := ⟨_, rfl⟩
  have hlk : L = (16 - c) % 16 := by rw [← eL, ← ec]; unfold lk; omega
  have hc : c < 16 := by omega
  have t1 : (N : Int).tmod 16 = (c : Int) := by rw [Int.tmod_eq_emod_of_nonneg (by omega)]; omega
  have t2 : (N : Int) % 16 = (c : Int) := by omega
  have t3 := IntWalk.i64_in (16 - (c : Int)) (by omega)
  have t4 : (16 - (c : Int)).tmod 16 = (L : Int) := by rw [Int.tmod_eq_emod_of_nonneg (by omega)]; omega
  have t5 : (16 - (c : Int)) % 16 = (L : Int) := by omega
  have t6 := IntWalk.i64_in (c : Int) (by omega)
  have t7 := IntWalk.i64_in (L : Int) (by omega)
  have k2 : ¬ 9223372036854775807 < N + Z.size := by omega
  rw [eE] at HE
  rw [hF]
  have HS := hide (Below.refl w.heap.size w)
  clear eE eL eZ hL zE zT zZ hF dM ec hlk hc hn
  go_enter Try.func15, Try.ntmps15
  go_wp2_with fail
  refine (HE.out _).mono ?_
  rintro e w1 ⟨rfl, hB⟩
  have HS1 := hide (HS.out.trans (hB.mono HS.out.size))
  clear hB HS
  go_wp2_with fail
  go_ret
  exact ⟨rfl, HS1.out.alloc HS1.out.size _⟩

set_option maxRecDepth 100000 in
set_option maxHeartbeats 2000000 in
theorem rfXor_any (x y : ByteArray) (w : World) (hx : x.size = 16) (hy : y.size = 16) :
    Calls Try.prog 26 #[.string x, .string y] w fun e w' => e = .returned (.string ⟨(comb (sb x) (sb y)).toArray⟩) ∧ Below w.heap.size w w' := by
  obtain ⟨A, eA⟩ : ∃ A, sb x = A := ⟨_, rfl⟩
  obtain ⟨T, eT⟩ : ∃ T, sb y = T := ⟨_, rfl⟩
  have lA : A.length = 16 := by rw [← eA, sb_length, hx]
  have lT : T.length = 16 := by rw [← eT, sb_length, hy]
  have hidx : ∀ k : Nat, k < 16 → ∀ w, (Instr.index 9 (.string y) (.int .i64 (k : Int))).run Try.prog w = .ok (.int .u8 ((gy T k).toNat : Int)) w := fun k hk w => by rw [← eT]; exact idx_gy y k (by omega) w
  have HI := hide hidx
  obtain ⟨v, w2, hrun, hO, hB2⟩ := run_bytesO (P := Try.prog) w 9 28 5 x Try.underlying9 Try.underlying28 Try.underlying5
  rw [hx, eA] at hO
  obtain ⟨g, cap, rfl, hg, hcap, hR⟩ := hO.row (by decide)
  obtain ⟨R, eR⟩ : ∃ R, comb A T = R := ⟨_, rfl⟩
  have lR : R.length = 16 := by rw [← eR]; exact comb_length lA lT
  have hgR : ∀ k, k < 16 → gy R k = gy A k ^^^ gy T k := fun k hk => by rw [← eR]; exact gy_comb (by omega) (by omega)
  have HR := hide hR
  have HB := hide hB2
  have HG := hide hg
  have HX := hide (show A.length = 16 ∧ T.length = 16 ∧ R.length = 16 ∧ ∀ k, k < 16 → gy R k = gy A k ^^^ gy T k from ⟨lA, lT, lR, hgR⟩)
  have zyI : (y.size : Int) = 16 := by omega
  rw [eA, eT, eR]
  clear hO hR hB2 hidx eT eR lA lT lR hgR hx hy hg
  go_enter Try.func26, Try.ntmps26
  go_wp2_with fail
  clear hrun
  go_loopg [6] 16 (fun g9 q wr => ∃ k : Nat, k + g9 = 16 ∧ q = .int .i64 k ∧ Row wr g 0 (bs (mixd R A k)) ∧ Below w.heap.size w wr)
  case atStart => exact ⟨0, rfl, rfl, HR.out, HB.out⟩
  case round =>
    clear HR HB
    obtain ⟨wo, hwo⟩ : ∃ z, z = wr := ⟨_, rfl⟩
    subst hwo
    obtain ⟨k, hkg, rfl, hR, hB⟩ := hrel
    by_cases hlt : k < 16
    · have hltI : (k : Int) < 16 := by omega
      obtain ⟨g3, rfl⟩ : ∃ g3, gk = g3 + 1 := ⟨gk - 1, by omega⟩
      have lm : (mixd R A k).length = 16 := mixd_length HX.out.2.2.1 HX.out.1 _ (by omega)
      have c1 := hR.g0 k (by omega)
      rw [gy_mixd HX.out.2.2.1 HX.out.1 (by omega), if_neg (by omega)] at c1
      have f1 := hR.fy0 k (by omega)
      have hidx := HI.out k hlt
      have hx := x8_int (gy A k) (gy T k)
      rw [← HX.out.2.2.2 k hlt] at hx
      obtain ⟨z, ez⟩ : ∃ z, gy R k = z := ⟨_, rfl⟩
      have h3 := hR.drew.mixd1 HX.out.2.2.1 HX.out.1 hlt (x := z) ez.symm
      have HN := hide (And.intro h3 ((Below.drew hB).setCell (p := ⟨g, k, none⟩) HG.out (.int .u8 (z.toNat : Int))))
      rw [ez] at hx
      obtain ⟨a, ea⟩ : ∃ a, gy A k = a := ⟨_, rfl⟩
      obtain ⟨b, eb⟩ : ∃ b, gy T k = b := ⟨_, rfl⟩
      rw [ea] at c1 hx
      rw [eb] at hidx hx
      have hmx : Try.prog.follows .mixedOrders = true := by kernel_rfl
      clear hR hB h3 lm ez ea eb
      go_wp2_with fail
      go_still_tail 11, hmx
      go_wp2_with fail
      go_roundg g3
      case measure => omega
      case rel => exact ⟨k + 1, by omega, by go_num, HN.out⟩
    · obtain rfl : k = 16 := by omega
      rw [mixd_all HX.out.2.2.1 HX.out.1] at hR
      have hx := run_textR (P := Try.prog) wo 28 9 5 (c := cap) Try.underlying28 Try.underlying5 Try.underlying9 g 0 rfl HX.out.2.2.1 hR.cell
      have HB := hide hB
      clear hR hB
      go_wp2_with fail
      go_ret
      exact ⟨rfl, HB.out⟩
end Go.Proofs.Ytknjmmbebkcnpaa

/- The document's own chain, walked in part: one block there and back. -/
namespace Go.Proofs.Ytknjmmbebkcnpaa
open Go.RowKit Bk
set_option linter.unusedVariables false
set_option linter.unusedSimpArgs false

set_option maxRecDepth 100000 in
set_option maxHeartbeats 2000000 in
theorem rfEncrypt_any (K x : ByteArray) (w : World) (hk : K.size = 32) (hx : x.size = 16) :
    Calls Try.prog 25 #[.string K, .string x] w fun e w' => e = .returned (.string (et K x)) ∧ Below w.heap.size w w' := by
  have HH := hide (And.intro hk hx)
  obtain ⟨W1, hW1, hT, b1⟩ : ∃ W1, w.alloc (.cells #[.string x] 9) = W1 ∧ Tx W1 (some ⟨w.heap.size, 0, none⟩) 1 (fun _ => x) ∧ Below w.heap.size w W1 := by
    refine ⟨_, rfl, .inr ⟨w.heap.size, 0, rfl, ?_, fun j hj => ?_⟩, (Below.refl _ w).alloc (Nat.le_refl _) _⟩
    · exact (Row.newL w [.string x] 9).lt
    · obtain rfl : j = 0 := by omega
      exact (Row.newL w [.string x] 9).cell 0 _ rfl
  have HT := hide (And.intro hT b1)
  obtain ⟨y, ey⟩ : ∃ y, et K x = y := ⟨_, rfl⟩
  rw [ey]
  have HY := hide ey
  clear hk hx hT b1 ey
  go_enter Try.func25, Try.ntmps25
  go_wp2_with fail
  clear hW1
  refine (genc_any K (some ⟨w.heap.size, 0, none⟩) 1 1 (fun _ => x) W1 HH.out.1 (by decide) HT.out.1 (fun _ _ => HH.out.2)).mono ?_
  rintro e w2 ⟨v, rfl, hO, hB⟩
  obtain ⟨g, cap, rfl, _, _, hR⟩ := hO.row (by decide)
  have d1 := hR.at' (ts_at (fun _ => et K x) 1 0 (by decide))
  rw [Nat.zero_add] at d1
  have HS := hide (HT.out.2.trans (hB.mono HT.out.2.size))
  have d2 : w2.cell? ⟨g, 0, none⟩ = some (.string y) := by rw [← HY.out]; exact d1
  clear hO hB hR d1
  go_wp2_with fail
  go_ret
  exact ⟨rfl, HS.out⟩

set_option maxRecDepth 100000 in
set_option maxHeartbeats 2000000 in
theorem rfDecrypt_any (K x : ByteArray) (w : World) (hk : K.size = 32) (hx : x.size = 16) :
    Calls Try.prog 29 #[.string K, .string x] w fun e w' => e = .returned (.string (dt K x)) ∧ Below w.heap.size w w' := by
  have HH := hide (And.intro hk hx)
  obtain ⟨W1, hW1, hT, b1⟩ : ∃ W1, w.alloc (.cells #[.string x] 9) = W1 ∧ Tx W1 (some ⟨w.heap.size, 0, none⟩) 1 (fun _ => x) ∧ Below w.heap.size w W1 := by
    refine ⟨_, rfl, .inr ⟨w.heap.size, 0, rfl, ?_, fun j hj => ?_⟩, (Below.refl _ w).alloc (Nat.le_refl _) _⟩
    · exact (Row.newL w [.string x] 9).lt
    · obtain rfl : j = 0 := by omega
      exact (Row.newL w [.string x] 9).cell 0 _ rfl
  have HT := hide (And.intro hT b1)
  obtain ⟨y, ey⟩ : ∃ y, dt K x = y := ⟨_, rfl⟩
  rw [ey]
  have HY := hide ey
  clear hk hx hT b1 ey
  go_enter Try.func29, Try.ntmps29
  go_wp2_with fail
  clear hW1
  refine (gdec_any K (some ⟨w.heap.size, 0, none⟩) 1 1 (fun _ => x) W1 HH.out.1 (by decide) HT.out.1 (fun _ _ => HH.out.2)).mono ?_
  rintro e w2 ⟨v, rfl, hO, hB⟩
  obtain ⟨g, cap, rfl, _, _, hR⟩ := hO.row (by decide)
  have d1 := hR.at' (ts_at (fun _ => dt K x) 1 0 (by decide))
  rw [Nat.zero_add] at d1
  have HS := hide (HT.out.2.trans (hB.mono HT.out.2.size))
  have d2 : w2.cell? ⟨g, 0, none⟩ = some (.string y) := by rw [← HY.out]; exact d1
  clear hO hB hR d1
  go_wp2_with fail
  go_ret
  exact ⟨rfl, HS.out⟩
end Go.Proofs.Ytknjmmbebkcnpaa

/- The document's own Seal, walked. For any key and first block and data of at most 900000 bytes. -/
namespace Go.Proofs.Ytknjmmbebkcnpaa
open Go.RowKit Bk
set_option linter.unusedVariables false
set_option linter.unusedSimpArgs false

theorem take_blk (s : List UInt8) (k : Nat) : s.take (16 * (k + 1)) = s.take (16 * k) ++ blk s k := by
  rw [← cat_blk, ← cat_blk]
  rfl
/-- A sealed text's block is what the frame's, put together with the one ahead, is enciphered to. -/
theorem et_blk {K f d : ByteArray} (hk : K.size = 32) (hf : f.size = 16) {k : Nat} (h : k < fb d.size) :
    et K ⟨(comb (sb (bt16 (frm d) k)) (sb (pvt f (seT K f d) k))).toArray⟩ = bt16 (seT K f d) k := by
  refine sb_inj ?_
  have hp : pv (sb f) (blk (sb (seT K f d))) k = pv (sb f) (cE (enc (kw K)) (sb f) (sb (frm d))) k := pv_ext fun j hj => seT_blk hk hf (by omega)
  rw [et_sb, sb_mk, bt16_sb, bt16_sb, seT_blk hk hf h, pvt_sb, hp, cE_eq]
theorem rfSeal_bad (K f d : ByteArray) (w : World) (h : K.size ≠ 32 ∨ f.size ≠ 16) :
    Calls Try.prog 11 #[.string K, .string f, .string d] w fun e w' => e = .returned (.tuple #[.string ⟨#[]⟩, .int .i64 1]) ∧ Below w.heap.size w w' := by
  have HS := hide (Below.refl w.heap.size w)
  by_cases hk : K.size = 32
  · have qK : ((K.size : Int) != 32) = false := by rw [hk]; rfl
    have pK : ((K.size : Int) == 32) = true := by rw [hk]; rfl
    have qf : ((f.size : Int) != 16) = true := by rw [bne_iff_ne]; omega
    have pf : ((f.size : Int) == 16) = false := by simp; omega
    clear h hk
    go_enter Try.func11, Try.ntmps11
    go_wp2_with fail
    go_ret2
    exact ⟨rfl, HS.out⟩
  · have qK : ((K.size : Int) != 32) = true := by rw [bne_iff_ne]; omega
    have pK : ((K.size : Int) == 32) = false := by simp; omega
    clear h hk
    go_enter Try.func11, Try.ntmps11
    go_wp2_with fail
    go_ret2
    exact ⟨rfl, HS.out⟩
set_option maxRecDepth 100000 in
set_option maxHeartbeats 4000000 in
theorem rfSeal_ok (K f d : ByteArray) (w : World) (hk : K.size = 32) (hf : f.size = 16) (hd : d.size ≤ 900000) :
    Calls Try.prog 11 #[.string K, .string f, .string d] w fun e w' => e = .returned (.tuple #[.string (seT K f d), .int .i64 0]) ∧ Below w.heap.size w w' := by
  have qK : ((K.size : Int) != 32) = false := by rw [hk]; rfl
  have pK : ((K.size : Int) == 32) = true := by rw [hk]; rfl
  have qf : ((f.size : Int) != 16) = false := by rw [hf]; rfl
  have pf : ((f.size : Int) == 16) = true := by rw [hf]; rfl
  have qd : ¬ (1048576 : Int) < (d.size : Int) := by omega
  have HF := hide (fun w : World => rfFrame_any d w (by omega))
  have hE : ∀ k, k < fb d.size → et K ⟨(comb (sb (bt16 (frm d) k)) (sb (pvt f (seT K f d) k))).toArray⟩ = bt16 (seT K f d) k := fun k h => et_blk hk hf h
  have zS := seT_blocks d hk hf
  have zX := frm_blocks d
  have hn : fb d.size ≤ 60000 := by have := lk_lt d.size; unfold fb; omega
  have hn0 := fb_pos d.size
  obtain ⟨S, eS⟩ : ∃ S, seT K f d = S := ⟨_, rfl⟩
  obtain ⟨X, eX⟩ : ∃ S, frm d = S := ⟨_, rfl⟩
  obtain ⟨n, en⟩ : ∃ S, fb d.size = S := ⟨_, rfl⟩
  rw [eS, eX, en] at hE
  rw [eS, en] at zS
  rw [eX, en] at zX
  rw [en] at hn hn0
  rw [eX] at HF
  rw [eS]
  have HE := hide hE
  have HL := hide (And.intro hk hf)
  have HZ := hide (show S.size = 16 * n ∧ X.size = 16 * n ∧ n ≤ 60000 ∧ 0 < n from ⟨zS, zX, hn, hn0⟩)
  have HS := hide (Below.refl w.heap.size w)
  obtain ⟨N, hNX⟩ : ∃ N, X.size = N := ⟨_, rfl⟩
  have zN : N = 16 * n := by omega
  have HN := hide zN
  clear hk hf hd hE eS eX en zS zX hn hn0 zN
  go_enter Try.func11, Try.ntmps11
  go_wp2_with fail
  refine (HF.out _).mono ?_
  rintro e w1 ⟨rfl, hB⟩
  have HS1 := hide (HS.out.trans (hB.mono HS.out.size))
  clear hB HS
  go_wp2_with fail
  go_loopg [9, 10, 11] n (fun g o q i wr => ∃ k : Nat, k + g = n ∧ i = .int .i64 ((16 * k : Nat) : Int) ∧ q = .string (pvt f S k) ∧ Ow wr w.heap.size o (16 * k) (bs ((sb S).take (16 * k))) ∧ Below w.heap.size w wr)
  case atStart => exact ⟨0, by omega, rfl, rfl, Ow.nil _ _, HS1.out⟩
  case round =>
    obtain ⟨wo, hwo⟩ : ∃ z, z = wr := ⟨_, rfl⟩
    subst hwo
    obtain ⟨k, hkg, rfl, rfl, hO, hB⟩ := hrel
    obtain ⟨I, eI⟩ : ∃ I, 16 * k = I := ⟨_, rfl⟩
    rw [eI] at hO ⊢
    by_cases h1 : k < n
    · have g1 : (I : Int) < (N : Int) := by have := HN.out; omega
      obtain ⟨g3, rfl⟩ : ∃ g3, gk = g3 + 1 := ⟨gk - 1, by omega⟩
      have v1 := IntWalk.i64_in ((I : Int) + 16) (by have := HZ.out; omega)
      have c1 := cut16 X k I eI.symm (by have := HZ.out; omega)
      have zC : (bt16 X k).size = 16 := bt16_size (by have := HZ.out; omega)
      have zV : (pvt f S k).size = 16 := pvt_size HL.out.2 (by have := HZ.out; omega)
      have zA : (bt16 S k).size = 16 := bt16_size (by have := HZ.out; omega)
      have hE := HE.out k h1
      have hT := take_blk (sb S) k
      rw [← bt16_sb, eI] at hT
      have eV : pvt f S (k + 1) = bt16 S k := rfl
      obtain ⟨A, eA⟩ : ∃ A, bt16 S k = A := ⟨_, rfl⟩
      rw [eA] at hE hT zA eV
      obtain ⟨C, eC⟩ : ∃ A, bt16 X k = A := ⟨_, rfl⟩
      rw [eC] at hE zC c1
      obtain ⟨V, eW⟩ : ∃ A, pvt f S k = A := ⟨_, rfl⟩
      rw [eW] at hE zV
      rw [eW]
      obtain ⟨Y, eY⟩ : ∃ A, ByteArray.mk (comb (sb C) (sb V)).toArray = A := ⟨_, rfl⟩
      rw [eY] at hE
      have zY : Y.size = 16 := by rw [← eY, ← sb_length, sb_mk, comb_length (n := 16) (by rw [sb_length, zC]) (by rw [sb_length, zV])]
      obtain ⟨L, eL⟩ : ∃ L, (sb S).take I = L := ⟨_, rfl⟩
      rw [eL] at hT hO
      obtain ⟨va, vc, rfl, hvc⟩ := hO.shape
      have HQ := hide (show C.size = 16 ∧ V.size = 16 ∧ Y.size = 16 ∧ ByteArray.mk (comb (sb C) (sb V)).toArray = Y ∧ et K Y = A ∧ A.size = 16 from ⟨zC, zV, zY, eY, hE, zA⟩)
      have HT := hide (show (sb S).take (16 * (k + 1)) = L ++ sb A ∧ pvt f S (k + 1) = A ∧ 16 * k = I from ⟨hT, eV, eI⟩)
      have HO := hide (And.intro hO hB)
      clear hO hB hvc hT eV eI zC zV zY zA eY hE eA eC eW eL
      go_wp2_with fail
      refine (rfXor_any C V wo HQ.out.1 HQ.out.2.1).mono ?_
      rintro e w2 ⟨rfl, hB⟩
      rw [HQ.out.2.2.2.1]
      have HO2 := hide (And.intro (HO.out.1.keep hB) (HO.out.2.trans (hB.mono HO.out.2.size)))
      clear HO hB
      go_wp2_with fail
      refine (rfEncrypt_any K Y w2 HL.out.1 HQ.out.2.2.1).mono ?_
      rintro e w3 ⟨rfl, hB⟩
      rw [HQ.out.2.2.2.2.1]
      have HO3 := hide (And.intro (HO2.out.1.keep hB) (HO2.out.2.trans (hB.mono HO2.out.2.size)))
      clear HO2 hB
      go_wp2_with (refine wpList_appendO rfl (.tmp 41) (.tmp 42) 28 9 rfl 5 Try.underlying28 infoY (by decide) rfl (B := w.heap.size) (n := I) (m := 16) (xs := bs L) (news := bs (sb A)) rfl rfl HO3.out.1 (by have h9 := str_src (P := Try.prog) (w := w3) Try.underlying9 A; rw [HQ.out.2.2.2.2.2] at h9; exact h9) (by have := HT.out.2.2; have := HZ.out; omega) HO3.out.2.size (fun u hu => bs_one hu) ?_
                   intro v5 w5 hO5 hB5
                   have HO5 := hide hO5
                   have HB5 := hide (HO3.out.2.trans hB5)
                   clear hO5 hB5)
      go_roundg g3
      case measure => omega
      case rel => exact ⟨k + 1, by omega, by rw [show 16 * (k + 1) = I + 16 by have := HT.out.2.2; omega]; go_num, by rw [HT.out.2.1], by rw [HT.out.1, show 16 * (k + 1) = I + 16 by have := HT.out.2.2; omega, bs_app]; exact HO5.out, HB5.out⟩
    · have g1 : ¬ (I : Int) < (N : Int) := by have := HN.out; omega
      obtain rfl : k = n := by omega
      rw [List.take_of_length_le (by rw [sb_length]; have := HZ.out; omega)] at hO
      obtain ⟨g, cap, rfl, _, _, hR⟩ := hO.row (by have := HZ.out; omega)
      have hx := run_textR (P := Try.prog) wo 28 9 5 (c := cap) Try.underlying28 Try.underlying5 Try.underlying9 g 0 rfl (show (sb S).length = I by rw [sb_length]; have := HZ.out; omega) hR.cell
      have e9 : (⟨(sb S).toArray⟩ : ByteArray) = S := sb_inj (sb_mk _)
      rw [e9] at hx
      have HB := hide hB
      clear hO hB hR e9 eI
      go_wp2_with fail
      go_ret2
      exact ⟨rfl, HB.out⟩
end Go.Proofs.Ytknjmmbebkcnpaa

/- The document's own Open, walked. For any key and first block and bytes of at most 900000. -/
namespace Go.Proofs.Ytknjmmbebkcnpaa
open Go.RowKit Bk
set_option linter.unusedVariables false
set_option linter.unusedSimpArgs false

theorem rfOpen_key (K f s : ByteArray) (w : World) (hk : K.size ≠ 32) :
    Calls Try.prog 13 #[.string K, .string f, .string s] w fun e w' => e = .returned (.tuple #[.string ⟨#[]⟩, .int .i64 1]) ∧ Below w.heap.size w w' := by
  have HS := hide (Below.refl w.heap.size w)
  have qK : ((K.size : Int) != 32) = true := by rw [bne_iff_ne]; omega
  have pK : ((K.size : Int) == 32) = false := by simp; omega
  clear hk
  go_enter Try.func13, Try.ntmps13
  go_wp2_with fail
  go_ret2
  exact ⟨rfl, HS.out⟩
theorem rfOpen_first (K f s : ByteArray) (w : World) (hk : K.size = 32) (hf : f.size ≠ 16) :
    Calls Try.prog 13 #[.string K, .string f, .string s] w fun e w' => e = .returned (.tuple #[.string ⟨#[]⟩, .int .i64 1]) ∧ Below w.heap.size w w' := by
  have HS := hide (Below.refl w.heap.size w)
  have qK : ((K.size : Int) != 32) = false := by rw [hk]; rfl
  have pK : ((K.size : Int) == 32) = true := by rw [hk]; rfl
  have qf : ((f.size : Int) != 16) = true := by rw [bne_iff_ne]; omega
  have pf : ((f.size : Int) == 16) = false := by simp; omega
  clear hk hf
  go_enter Try.func13, Try.ntmps13
  go_wp2_with fail
  go_ret2
  exact ⟨rfl, HS.out⟩
theorem rfOpen_none (K f s : ByteArray) (w : World) (hk : K.size = 32) (hf : f.size = 16) (h : s.size = 0) :
    Calls Try.prog 13 #[.string K, .string f, .string s] w fun e w' => e = .returned (.tuple #[.string ⟨#[]⟩, .int .i64 4]) ∧ Below w.heap.size w w' := by
  have HS := hide (Below.refl w.heap.size w)
  have qK : ((K.size : Int) != 32) = false := by rw [hk]; rfl
  have pK : ((K.size : Int) == 32) = true := by rw [hk]; rfl
  have qf : ((f.size : Int) != 16) = false := by rw [hf]; rfl
  have pf : ((f.size : Int) == 16) = true := by rw [hf]; rfl
  have q0 : ((s.size : Int) == 0) = true := by rw [h]; rfl
  clear hk hf h
  go_enter Try.func13, Try.ntmps13
  go_wp2_with fail
  go_ret2
  exact ⟨rfl, HS.out⟩
theorem rfOpen_odd (K f s : ByteArray) (w : World) (hk : K.size = 32) (hf : f.size = 16) (h0 : s.size ≠ 0) (h : s.size % 16 ≠ 0) :
    Calls Try.prog 13 #[.string K, .string f, .string s] w fun e w' => e = .returned (.tuple #[.string ⟨#[]⟩, .int .i64 4]) ∧ Below w.heap.size w w' := by
  have HS := hide (Below.refl w.heap.size w)
  have qK : ((K.size : Int) != 32) = false := by rw [hk]; rfl
  have pK : ((K.size : Int) == 32) = true := by rw [hk]; rfl
  have qf : ((f.size : Int) != 16) = false := by rw [hf]; rfl
  have pf : ((f.size : Int) == 16) = true := by rw [hf]; rfl
  obtain ⟨N, hN⟩ : ∃ N, s.size = N := ⟨_, rfl⟩
  rw [hN] at h0 h
  have q0 : ((N : Int) == 0) = false := by simp; omega
  have q2 : (((N : Int).tmod 16) != 0) = true := by
    rw [Int.tmod_eq_emod_of_nonneg (by omega)]
    simp
    omega
  have q3 : (((N : Int) % 16) != 0) = true := by simp; omega
  have q4 : (((N : Int) % 16) == 0) = false := by simp; omega
  have q5 : (((N : Int).tmod 16) == 0) = false := by
    rw [Int.tmod_eq_emod_of_nonneg (by omega)]
    exact q4
  clear hk hf h h0
  go_enter Try.func13, Try.ntmps13
  go_wp2_with fail
  go_ret2
  exact ⟨rfl, HS.out⟩
theorem bne_txt {a b : ByteArray} (h : a ≠ b) : (a.toList != b.toList) = true := by
  unfold bne
  rw [toList_ne h]
  rfl
/-- A chain undone, block by block. -/
theorem un_blk {K f s : ByteArray} (hk : K.size = 32) (hf : f.size = 16) {n k : Nat} (hs : s.size = 16 * n) (h : k < n) :
    sb (⟨(comb (sb (dt K (bt16 s k))) (sb (pvt f s k))).toArray⟩ : ByteArray) = blk (un (dec (kw K)) (sb f) (sb s)) k := by
  have hl : (sb s).length = 16 * n := by rw [sb_length, hs]
  have e : (sb s).length / 16 = n := by omega
  unfold un
  rw [e, blk_cat (fun j hj => cD_length (cph_kw hk) (sb_len16 hf) hl hj) h, sb_mk, dt_sb, bt16_sb, pvt_sb]
  rfl
theorem un_size {K f s : ByteArray} (hk : K.size = 32) (hf : f.size = 16) {n : Nat} (hs : s.size = 16 * n) : (un (dec (kw K)) (sb f) (sb s)).length = 16 * n := by
  rw [un_length (cph_kw hk) (sb_len16 hf) (by rw [sb_length, hs]; omega), sb_length, hs]
theorem opO_un {K f s : ByteArray} {n : Nat} (hs : s.size = 16 * n) (hn : 0 < n) : opO K f s = pd (un (dec (kw K)) (sb f) (sb s)) := by
  unfold opO op
  rw [if_neg (by rw [sb_length]; omega)]
set_option maxRecDepth 100000 in
set_option maxHeartbeats 8000000 in
theorem rfOpen_ok (K f s : ByteArray) (w : World) (n : Nat) (hk : K.size = 32) (hf : f.size = 16) (hs : s.size = 16 * n) (hn0 : 0 < n) (hn : n ≤ 50000) :
    Calls Try.prog 13 #[.string K, .string f, .string s] w fun e w' => e = .returned (.tuple #[.string (opT K f s), .int .i64 (opE K f s)]) ∧ Below w.heap.size w w' := by
  have hmx : Try.prog.follows .mixedOrders = true := by kernel_rfl
  have qK : ((K.size : Int) != 32) = false := by rw [hk]; rfl
  have pK : ((K.size : Int) == 32) = true := by rw [hk]; rfl
  have qf : ((f.size : Int) != 16) = false := by rw [hf]; rfl
  have pf : ((f.size : Int) == 16) = true := by rw [hf]; rfl
  obtain ⟨N, hN⟩ : ∃ N, s.size = N := ⟨_, rfl⟩
  have zN : N = 16 * n := by omega
  have q0 : ((N : Int) == 0) = false := by simp; omega
  have q3 : (((N : Int) % 16) != 0) = false := by simp; omega
  have q4 : (((N : Int) % 16) == 0) = true := by simp; omega
  have q2 : (((N : Int).tmod 16) != 0) = false := by
    rw [Int.tmod_eq_emod_of_nonneg (by omega)]
    exact q3
  have q5 : (((N : Int).tmod 16) == 0) = true := by
    rw [Int.tmod_eq_emod_of_nonneg (by omega)]
    exact q4
  have hE : ∀ k, k < n → sb (⟨(comb (sb (dt K (bt16 s k))) (sb (pvt f s k))).toArray⟩ : ByteArray) = blk (un (dec (kw K)) (sb f) (sb s)) k := fun k h => un_blk hk hf hs h
  have zP := un_size hk hf hs
  have hop := opO_un (K := K) (f := f) hs hn0
  obtain ⟨P, eP⟩ : ∃ P, un (dec (kw K)) (sb f) (sb s) = P := ⟨_, rfl⟩
  rw [eP] at hE zP hop
  have HE := hide hE
  have HO := hide hop
  have HL := hide (And.intro hk hf)
  have HLn := hide (show P.length = N from by omega)
  have HZ := hide (show s.size = 16 * n ∧ N = 16 * n ∧ n ≤ 50000 ∧ 0 < n from ⟨hs, zN, hn, hn0⟩)
  have HS := hide (Below.refl w.heap.size w)
  clear hk hf hs hn hn0 hE zP hop eP zN
  go_enter Try.func13, Try.ntmps13
  go_wp2_with fail
  go_loopg [8, 9, 10] n (fun g o q i wr => ∃ k : Nat, k + g = n ∧ i = .int .i64 ((16 * k : Nat) : Int) ∧ q = .string (pvt f s k) ∧ Ow wr w.heap.size o (16 * k) (bs (P.take (16 * k))) ∧ Below w.heap.size w wr)
  case atStart => exact ⟨0, by omega, rfl, rfl, Ow.nil _ _, HS.out⟩
  case round =>
    clear HS
    obtain ⟨wo, hwo⟩ : ∃ z, z = wr := ⟨_, rfl⟩
    subst hwo
    obtain ⟨k, hkg, rfl, rfl, hO, hB⟩ := hrel
    obtain ⟨I, eI⟩ : ∃ I, 16 * k = I := ⟨_, rfl⟩
    rw [eI] at hO ⊢
    by_cases h1 : k < n
    · have g1 : (I : Int) < (N : Int) := by have := HZ.out; omega
      obtain ⟨g3, rfl⟩ : ∃ g3, gk = g3 + 1 := ⟨gk - 1, by omega⟩
      have v1 := IntWalk.i64_in ((I : Int) + 16) (by have := HZ.out; omega)
      have c1 := cut16 s k I eI.symm (by have := HZ.out; omega)
      have zC : (bt16 s k).size = 16 := bt16_size (by have := HZ.out; omega)
      have zD : (dt K (bt16 s k)).size = 16 := dt_size HL.out.1 zC
      have zV : (pvt f s k).size = 16 := pvt_size HL.out.2 (by have := HZ.out; omega)
      have hE := HE.out k h1
      have hT := take_blk P k
      rw [eI] at hT
      have eV : pvt f s (k + 1) = bt16 s k := rfl
      obtain ⟨C, eC⟩ : ∃ A, bt16 s k = A := ⟨_, rfl⟩
      rw [eC] at hE zC c1 eV zD
      obtain ⟨D, eD⟩ : ∃ A, dt K C = A := ⟨_, rfl⟩
      rw [eD] at hE zD
      obtain ⟨V, eW⟩ : ∃ A, pvt f s k = A := ⟨_, rfl⟩
      rw [eW] at hE zV
      rw [eW]
      obtain ⟨Y, eY⟩ : ∃ A, ByteArray.mk (comb (sb D) (sb V)).toArray = A := ⟨_, rfl⟩
      rw [eY] at hE
      rw [← hE] at hT
      have zY : Y.size = 16 := by rw [← eY, ← sb_length, sb_mk, comb_length (n := 16) (by rw [sb_length, zD]) (by rw [sb_length, zV])]
      obtain ⟨L, eL⟩ : ∃ L, P.take I = L := ⟨_, rfl⟩
      rw [eL] at hT hO
      obtain ⟨va, vc, rfl, hvc⟩ := hO.shape
      have HQ := hide (show C.size = 16 ∧ dt K C = D ∧ D.size = 16 ∧ V.size = 16 ∧ ByteArray.mk (comb (sb D) (sb V)).toArray = Y ∧ Y.size = 16 from ⟨zC, eD, zD, zV, eY, zY⟩)
      have HT := hide (show P.take (16 * (k + 1)) = L ++ sb Y ∧ pvt f s (k + 1) = C ∧ 16 * k = I from ⟨hT, eV, eI⟩)
      have HO2 := hide (And.intro hO hB)
      clear hO hB hvc hT eV eI zC zV zY zD eY eD hE eC eW eL
      go_wp2_with fail
      refine (rfDecrypt_any K C wo HL.out.1 HQ.out.1).mono ?_
      rintro e w2 ⟨rfl, hB⟩
      rw [HQ.out.2.1]
      have HO3 := hide (And.intro (HO2.out.1.keep hB) (HO2.out.2.trans (hB.mono HO2.out.2.size)))
      clear HO2 hB
      go_wp2_with fail
      refine (rfXor_any D V w2 HQ.out.2.2.1 HQ.out.2.2.2.1).mono ?_
      rintro e w3 ⟨rfl, hB⟩
      rw [HQ.out.2.2.2.2.1]
      have HO4 := hide (And.intro (HO3.out.1.keep hB) (HO3.out.2.trans (hB.mono HO3.out.2.size)))
      clear HO3 hB
      go_wp2_with (refine wpList_appendO rfl (.tmp 38) (.tmp 47) 28 9 rfl 5 Try.underlying28 infoY (by decide) rfl (B := w.heap.size) (n := I) (m := 16) (xs := bs L) (news := bs (sb Y)) rfl rfl HO4.out.1 (by have h9 := str_src (P := Try.prog) (w := w3) Try.underlying9 Y; rw [HQ.out.2.2.2.2.2] at h9; exact h9) (by have := HT.out.2.2; have := HZ.out; omega) HO4.out.2.size (fun u hu => bs_one hu) ?_
                   intro v5 w5 hO5 hB5
                   have HO5 := hide hO5
                   have HB5 := hide (HO4.out.2.trans hB5)
                   clear hO5 hB5)
      go_roundg g3
      case measure => omega
      case rel => exact ⟨k + 1, by omega, by rw [show 16 * (k + 1) = I + 16 by have := HT.out.2.2; omega]; go_num, by rw [HT.out.2.1], by rw [HT.out.1, show 16 * (k + 1) = I + 16 by have := HT.out.2.2; omega, bs_app]; exact HO5.out, HB5.out⟩
    · have g1 : ¬ (I : Int) < (N : Int) := by have := HZ.out; omega
      obtain rfl : k = n := by omega
      have eIN : I = N := by have := HZ.out; omega
      subst eIN
      rw [List.take_of_length_le (by have := HLn.out; omega)] at hO
      obtain ⟨g, cap, rfl, _, hcap, hR⟩ := hO.row (by have := HZ.out; omega)
      have HR := hide hB
      have HRow := hide hR
      have HC := hide hcap
      clear hO hB hR eI hcap
      go_wp2_with fail
      go_loopg [11, 12] 8 (fun g9 v q wr => ∃ j : Nat, j + g9 = 8 ∧ q = .int .i64 j ∧ v = .int .i64 ((v8 P j : Nat) : Int) ∧ v8 P j ≤ 1048576 ∧ wr = wo)
      case atStart => exact ⟨0, rfl, rfl, rfl, Nat.zero_le _, rfl⟩
      case round =>
        obtain ⟨j, hjg, rfl, rfl, hv, rfl⟩ := hrel
        by_cases hlt : j < 8
        · have hltI : (j : Int) < 8 := by omega
          obtain ⟨g4, rfl⟩ : ∃ g4, gk = g4 + 1 := ⟨gk - 1, by omega⟩
          have c1 := HRow.out.g0 j (by have := HLn.out; have := HZ.out; omega)
          have hjN : (j : Int) < (I : Int) := by have := HZ.out; omega
          have hnx : v8 P (j + 1) = v8 P j * 256 + (gy P j).toNat := rfl
          have hmo := v8_mono P (k := j + 1) (7 - j)
          rw [show j + 1 + (7 - j) = 8 by omega] at hmo
          have hc := UInt8.toNat_lt (gy P j)
          obtain ⟨v, ev⟩ : ∃ v, v8 P j = v := ⟨_, rfl⟩
          obtain ⟨c, ec⟩ : ∃ c, (gy P j).toNat = c := ⟨_, rfl⟩
          rw [ev, ec] at hnx
          rw [ev] at hv ⊢
          rw [ec] at c1 hc
          have w1 := IntWalk.i64_in ((v : Int) * 256) (by omega)
          have w2 := IntWalk.i64_in (c : Int) (by omega)
          have w3 := IntWalk.i64_in ((v : Int) * 256 + (c : Int)) (by omega)
          by_cases hbig : 1048576 < v * 256 + c
          · have qb : (1048576 : Int) < (v : Int) * 256 + (c : Int) := by omega
            have hno : opO K f s = none := by
              rw [HO.out]
              exact pd_big (by have := HLn.out; have := HZ.out; omega)
            have HQ := hide (show opT K f s = ⟨#[]⟩ ∧ opE K f s = 4 from ⟨opT_none hno, opE_none hno⟩)
            clear hno hbig hnx hmo hc ev ec hv
            go_wp2_with fail
            go_ret2
            exact ⟨by rw [HQ.out.1, HQ.out.2]; rfl, HR.out⟩
          · have qb : ¬ (1048576 : Int) < (v : Int) * 256 + (c : Int) := by omega
            have HQ := hide (show v8 P (j + 1) = v * 256 + c ∧ v * 256 + c ≤ 1048576 from ⟨hnx, by omega⟩)
            clear hbig hnx hmo hc ev ec hv
            go_wp2_with fail
            go_roundg g4
            case measure => omega
            case rel => exact ⟨j + 1, by omega, by go_num, by rw [HQ.out.1]; go_num, by rw [HQ.out.1]; exact HQ.out.2, rfl⟩
        · obtain rfl : j = 8 := by omega
          have hpd : opO K f s = if v8 P 8 ≤ P.length - 8 ∧ fr ((P.drop 8).take (v8 P 8)) = P then some ((P.drop 8).take (v8 P 8)) else none := HO.out
          obtain ⟨m, em⟩ : ∃ m, v8 P 8 = m := ⟨_, rfl⟩
          rw [em, HLn.out] at hpd
          rw [em] at hv ⊢
          have w1 := IntWalk.i64_in ((I : Int) - 8) (by have := HZ.out; omega)
          clear em hlt hjg
          by_cases hgt : I - 8 < m
          · have qb : (I : Int) - 8 < (m : Int) := by omega
            rw [if_neg (by omega)] at hpd
            have HQ := hide (show opT K f s = ⟨#[]⟩ ∧ opE K f s = 4 from ⟨opT_none hpd, opE_none hpd⟩)
            clear hpd hgt hv
            go_wp2_with fail
            go_ret2
            exact ⟨by rw [HQ.out.1, HQ.out.2]; rfl, HR.out⟩
          · have qb : ¬ (I : Int) - 8 < (m : Int) := by have := HZ.out; omega
            have k1 : (8 : Int) ≤ 8 + (m : Int) := by omega
            have k2 : 8 + (m : Int) ≤ (cap : Int) := by have := HZ.out; have := HC.out; omega
            have w2 := IntWalk.i64_in (8 + (m : Int)) (by omega)
            have k3 : ¬ cap = 8 := by have := HZ.out; have := HC.out; omega
            have k4 : ¬ cap - 8 = 0 := by have := HZ.out; have := HC.out; omega
            obtain ⟨l, el⟩ : ∃ l, (P.drop 8).take m = l := ⟨_, rfl⟩
            rw [el] at hpd
            have ll : l.length = m := by rw [← el, List.length_take, List.length_drop, HLn.out]; have := HZ.out; omega
            have hP : P = P.take 8 ++ (l ++ (P.drop 8).drop m) := by rw [← el, List.take_append_drop, List.take_append_drop]
            have hRl : Row wr g 8 (bs l) := by
              have h9 := HRow.out
              rw [hP, bs_app, bs_app] at h9
              have h8 := h9.right.left
              rwa [bs_length, List.length_take, HLn.out, show 0 + min 8 I = 8 by have := HZ.out; omega] at h8
            have hx := run_textR (P := Try.prog) wr 28 9 5 (c := cap - 8) (n := m) (l := l) Try.underlying28 Try.underlying5 Try.underlying9 g 8 rfl ll hRl.cell
            obtain ⟨x, ex⟩ : ∃ x : ByteArray, ⟨l.toArray⟩ = x := ⟨_, rfl⟩
            rw [ex] at hx
            have zx : x.size ≤ 1000000 := by rw [← ex, ← sb_length, sb_mk, ll]; have := HZ.out; omega
            have hfx : sb x = l := by rw [← ex]; exact sb_mk _
            obtain ⟨T, eT⟩ : ∃ T, frm x = T := ⟨_, rfl⟩
            have HX := hide (And.intro zx eT)
            have hle : m ≤ I - 8 := by omega
            have HQ := hide (And.intro hpd (And.intro hfx (And.intro ex hle)))
            clear hpd hfx ex hle zx eT hRl hP ll el hgt hv
            obtain ⟨U, eU⟩ : ∃ U : ByteArray, ⟨P.toArray⟩ = U := ⟨_, rfl⟩
            have hU : sb U = P := by rw [← eU]; exact sb_mk _
            have HU := hide eU
            by_cases he : T = U
            · have hf : fr (sb x) = P := by rw [← frm_sb, HX.out.2, he, hU]
              have hp := HQ.out.1
              rw [if_pos ⟨HQ.out.2.2.2, by rw [← HQ.out.2.1]; exact hf⟩] at hp
              have HV := hide (show opT K f s = x ∧ opE K f s = 0 from ⟨(opT_some hp).trans HQ.out.2.2.1, opE_some hp⟩)
              subst he
              clear hf hp hU
              go_wp2_with fail
              refine wp_region_ord (fun w9 => Row w9 g 0 (bs P)) 4 [(0, some true), (2, some true), (3, some false), (1, none), (4, none)] (by kernel_rfl) (by kernel_rfl) (fun _ _ _ _ h => h) HRow.out.drew ?_
              refine ord_pureE (o := ⟨some 78, _, _, _, _, _⟩) rfl (by kernel_rfl) ⟨_, fun w9 => by (go_simp; try rfl), ?_⟩
              simp only [Act.put, List.setIfInBounds_toArray, List.set_cons_zero, List.set_cons_succ]
              refine ord_pureE (o := ⟨some 80, _, _, _, _, _⟩) rfl (by kernel_rfl) ⟨_, fun w9 => by (go_simp; try rfl), ?_⟩
              simp only [Act.put, List.setIfInBounds_toArray, List.set_cons_zero, List.set_cons_succ]
              refine ord_heldE (o := ⟨some 81, _, _, _, _, _⟩) rfl (by kernel_rfl) ⟨_, fun w9 h9 => by (have hx := run_textR (P := Try.prog) w9 28 9 5 (c := cap) (n := I) (l := P) Try.underlying28 Try.underlying5 Try.underlying9 g 0 rfl HLn.out h9.cell; go_simp; try rfl), ?_⟩
              simp only [Act.put, List.setIfInBounds_toArray, List.set_cons_zero, List.set_cons_succ]
              refine ord_go rfl (fun K9 hK => ?_)
              go_simp
              go_wp2_with fail
              refine (rfFrame_any x _ HX.out.1).mono ?_
              rintro e w5 ⟨rfl, hB⟩
              rw [HX.out.2]
              have HR5 := hide (HR.out.drew.trans (hB.mono HR.out.drew.size))
              have HRow5 := hide (HRow.out.drew.below hB HRow.out.drew.lt)
              clear hB
              dsimp only
              refine hK.out _ _ (fun _ => HRow5.out) ?_
              clear hK K9
              refine ord_go rfl (fun K9 hK => ?_)
              go_simp
              skip
              refine hK.out _ _ (fun h => by cases h) ?_
              clear hK K9
              refine ord_end ?_
              go_wp2_with fail
              go_ret2
              exact ⟨by rw [HV.out.1, HV.out.2]; rfl, HR5.out⟩
            · have hf : ¬ fr l = P := fun h => he (sb_inj (by rw [hU, ← HX.out.2, frm_sb, HQ.out.2.1, h]))
              have hp := HQ.out.1
              rw [if_neg (fun h => hf h.2)] at hp
              have HV := hide (show opT K f s = ⟨#[]⟩ ∧ opE K f s = 4 from ⟨opT_none hp, opE_none hp⟩)
              have hq := bne_txt he
              have hq2 := toList_ne he
              clear hf hp hU he
              go_wp2_with fail
              refine wp_region_ord (fun w9 => Row w9 g 0 (bs P)) 4 [(0, some true), (2, some true), (3, some false), (1, none), (4, none)] (by kernel_rfl) (by kernel_rfl) (fun _ _ _ _ h => h) HRow.out.drew ?_
              refine ord_pureE (o := ⟨some 78, _, _, _, _, _⟩) rfl (by kernel_rfl) ⟨_, fun w9 => by (go_simp; try rfl), ?_⟩
              simp only [Act.put, List.setIfInBounds_toArray, List.set_cons_zero, List.set_cons_succ]
              refine ord_pureE (o := ⟨some 80, _, _, _, _, _⟩) rfl (by kernel_rfl) ⟨_, fun w9 => by (go_simp; try rfl), ?_⟩
              simp only [Act.put, List.setIfInBounds_toArray, List.set_cons_zero, List.set_cons_succ]
              refine ord_heldE (o := ⟨some 81, _, _, _, _, _⟩) rfl (by kernel_rfl) ⟨_, fun w9 h9 => by (have hx := run_textR (P := Try.prog) w9 28 9 5 (c := cap) (n := I) (l := P) Try.underlying28 Try.underlying5 Try.underlying9 g 0 rfl HLn.out h9.cell; go_simp; try rfl), ?_⟩
              simp only [Act.put, List.setIfInBounds_toArray, List.set_cons_zero, List.set_cons_succ]
              refine ord_go rfl (fun K9 hK => ?_)
              go_simp
              go_wp2_with fail
              refine (rfFrame_any x _ HX.out.1).mono ?_
              rintro e w5 ⟨rfl, hB⟩
              rw [HX.out.2]
              have HR5 := hide (HR.out.drew.trans (hB.mono HR.out.drew.size))
              have HRow5 := hide (HRow.out.drew.below hB HRow.out.drew.lt)
              clear hB
              dsimp only
              refine hK.out _ _ (fun _ => HRow5.out) ?_
              clear hK K9
              refine ord_go rfl (fun K9 hK => ?_)
              go_simp
              skip
              refine hK.out _ _ (fun h => by cases h) ?_
              clear hK K9
              refine ord_end ?_
              go_wp2_with fail
              go_ret2
              exact ⟨by rw [HV.out.1, HV.out.2]; rfl, HR5.out⟩
theorem rfOpen_any (K f s : ByteArray) (w : World) (hk : K.size = 32) (hf : f.size = 16) (hs : s.size ≤ 800000) :
    Calls Try.prog 13 #[.string K, .string f, .string s] w fun e w' => e = .returned (.tuple #[.string (opT K f s), .int .i64 (opE K f s)]) ∧ Below w.heap.size w w' := by
  by_cases h0 : s.size = 0
  · rw [opT_none (opO_bad (K := K) (f := f) (.inl h0)), opE_none (opO_bad (K := K) (f := f) (.inl h0))]
    exact rfOpen_none K f s w hk hf h0
  · by_cases h : s.size % 16 = 0
    · exact rfOpen_ok K f s w (s.size / 16) hk hf (by omega) (by omega) (by omega)
    · rw [opT_none (opO_bad (K := K) (f := f) (.inr h)), opE_none (opO_bad (K := K) (f := f) (.inr h))]
      exact rfOpen_odd K f s w hk hf h0 h
theorem rfOpen_bad (K f s : ByteArray) (w : World) (h : K.size ≠ 32 ∨ f.size ≠ 16) :
    Calls Try.prog 13 #[.string K, .string f, .string s] w fun e w' => e = .returned (.tuple #[.string ⟨#[]⟩, .int .i64 1]) ∧ Below w.heap.size w w' := by
  by_cases hk : K.size = 32
  · exact rfOpen_first K f s w hk (h.resolve_left (fun e => e hk))
  · exact rfOpen_key K f s w hk
end Go.Proofs.Ytknjmmbebkcnpaa
