/- Several texts of ours, one behind the other; what each is for stands ahead of it. -/
import Derived.Test.YtknjmmbebkcnpaaRun13
import Derived.Test.YtknjmmbebkcnpaaRun6
import Derived.Test.YtknjmmbebkcnpaaRun2
import Derived.Test.YtknjmmbebkcnpaaRun5

/- The document's stand-ins, walked. For any byte: the call returns what ATab says, and leaves the world as it is; the table of all lies in memory of the call's own. -/
namespace Go.Proofs.Ytknjmmbebkcnpaa
open Go.RowKit Bk
set_option linter.unusedVariables false
set_option linter.unusedSimpArgs false

theorem gmul_u8 (a b : UInt8) (w : World) : Calls Try.prog 61 #[.int .u8 (a.toNat : Int), .int .u8 (b.toNat : Int)] w fun e w' => e = .returned (.int .u8 ((mu a b).toNat : Int)) ∧ w' = w := by
  rw [mu_nat]
  exact gmul_any a.toNat b.toNat w (UInt8.toNat_lt a) (UInt8.toNat_lt b)
theorem turned_1 (x : UInt8) (w : World) : Calls Try.prog 66 #[.int .u8 (x.toNat : Int), .int .u32 1] w fun e w' => e = .returned (.int .u8 ((rot 1 x).toNat : Int)) ∧ w' = w := by
  have h := rot_int 1 2 128 x.toNat rfl rfl (UInt8.toNat_lt x)
  rw [u8_of] at h
  go_enter Try.func66, Try.ntmps66
  go_wp2
  go_ret
  exact ⟨ret_u8 h, rfl⟩
theorem turned_2 (x : UInt8) (w : World) : Calls Try.prog 66 #[.int .u8 (x.toNat : Int), .int .u32 2] w fun e w' => e = .returned (.int .u8 ((rot 2 x).toNat : Int)) ∧ w' = w := by
  have h := rot_int 2 4 64 x.toNat rfl rfl (UInt8.toNat_lt x)
  rw [u8_of] at h
  go_enter Try.func66, Try.ntmps66
  go_wp2
  go_ret
  exact ⟨ret_u8 h, rfl⟩
theorem turned_3 (x : UInt8) (w : World) : Calls Try.prog 66 #[.int .u8 (x.toNat : Int), .int .u32 3] w fun e w' => e = .returned (.int .u8 ((rot 3 x).toNat : Int)) ∧ w' = w := by
  have h := rot_int 3 8 32 x.toNat rfl rfl (UInt8.toNat_lt x)
  rw [u8_of] at h
  go_enter Try.func66, Try.ntmps66
  go_wp2
  go_ret
  exact ⟨ret_u8 h, rfl⟩
theorem turned_4 (x : UInt8) (w : World) : Calls Try.prog 66 #[.int .u8 (x.toNat : Int), .int .u32 4] w fun e w' => e = .returned (.int .u8 ((rot 4 x).toNat : Int)) ∧ w' = w := by
  have h := rot_int 4 16 16 x.toNat rfl rfl (UInt8.toNat_lt x)
  rw [u8_of] at h
  go_enter Try.func66, Try.ntmps66
  go_wp2
  go_ret
  exact ⟨ret_u8 h, rfl⟩
theorem conv_byte (k : Nat) (h : k < 256) (w : World) : (convert 3 5 (.int .i64 (k : Int))).run Try.prog w = .ok (.int .u8 (k : Int)) w := by
  have h1 := run_convert_int (P := Try.prog) w 3 5 .i64 (k : Int) (by rw [Try.underlying3]; rfl) Try.underlying5
  have e : Try.prog.intKind 5 = .u8 := by kernel_rfl
  rw [e] at h1
  rw [h1, IntWalk.u8_in _ (by omega)]

set_option maxRecDepth 100000 in
set_option maxHeartbeats 4000000 in
theorem gstand_any (a : UInt8) (w : World) :
    Calls Try.prog 65 #[.int .u8 (a.toNat : Int)] w fun e w' => e = .returned (.int .u8 ((gy SB a.toNat).toNat : Int)) ∧ w' = w := by
  obtain ⟨R, eR⟩ : ∃ R, gy SB a.toNat = R := ⟨_, rfl⟩
  obtain ⟨x, ex⟩ : ∃ R, gy IV a.toNat = R := ⟨_, rfl⟩
  have hR : sbf x = R := by rw [← ex, ← eR]; unfold SB; rw [gy_map (by unfold IV; rw [ivs_length]; exact UInt8.toNat_lt a)]
  have hx : sti a.toNat 255 = x.toNat := by rw [← ex]; exact sti_is (UInt8.toNat_lt a)
  obtain ⟨A, eA⟩ : ∃ n, a.toNat = n := ⟨_, rfl⟩
  have lA : A < 256 := eA ▸ UInt8.toNat_lt a
  rw [eR]
  rw [eA] at hx ⊢
  have HX := hide (And.intro hx hR)
  have HA := hide lA
  clear eR ex hR hx lA eA
  go_enter Try.func65, Try.ntmps65
  go_wp2_with fail
  go_loopg [3, 4] 255 (fun g i q wr => ∃ k : Nat, k + g = 255 ∧ q = .int .i64 ((k : Int) + 1) ∧ i = .int .u8 (sti A k : Nat) ∧ wr = w)
  case atStart => exact ⟨0, rfl, rfl, rfl, rfl⟩
  case round =>
    obtain ⟨k, hkg, rfl, rfl, rfl⟩ := hrel
    by_cases hlt : k < 255
    · obtain ⟨g3, rfl⟩ : ∃ g3, gk = g3 + 1 := ⟨gk - 1, by omega⟩
      obtain ⟨m, em⟩ : ∃ m, k + 1 = m := ⟨_, rfl⟩
      have eI : (k : Int) + 1 = (m : Int) := by omega
      rw [eI]
      have hlt' : (m : Int) < 256 := by omega
      have hcv := conv_byte m (by omega)
      have hst : sti A (k + 1) = if pr A (k + 1) = 1 then k + 1 else sti A k := rfl
      rw [em] at hst
      obtain ⟨p, ep⟩ : ∃ p, pr A m = p := ⟨_, rfl⟩
      obtain ⟨s, es⟩ : ∃ p, sti A k = p := ⟨_, rfl⟩
      rw [ep, es] at hst
      rw [es]
      have HP := hide ep
      have HM := hide (And.intro (show m < 256 by omega) em)
      clear eI em ep es
      go_wp2_with fail
      refine (gmul_any A m _ HA.out HM.out.1).mono ?_
      rintro e w2 ⟨rfl, hw⟩
      obtain rfl := hw.symm
      rw [HP.out]
      by_cases h1 : p = 1
      · rw [if_pos h1] at hst
        have h1' : ((p : Int) == 1) = true := by rw [h1]; rfl
        have HS := hide hst
        clear hst h1
        go_wp2_with fail
        go_roundg g3
        case measure => omega
        case rel => exact ⟨m, by have := HM.out; omega, by go_num, by rw [← HM.out.2]; rw [HM.out.2, HS.out], rfl⟩
      · rw [if_neg h1] at hst
        have h1' : ((p : Int) == 1) = false := by rw [beq_eq_false_iff_ne]; omega
        have HS := hide hst
        clear hst h1
        go_wp2_with fail
        go_roundg g3
        case measure => omega
        case rel => exact ⟨m, by have := HM.out; omega, by go_num, by rw [HS.out], rfl⟩
    · obtain rfl : k = 255 := by omega
      rw [HX.out.1]
      have e2 : ((((x ^^^ rot 1 x) ^^^ rot 2 x) ^^^ rot 3 x) ^^^ rot 4 x) ^^^ 99 = R := HX.out.2
      have q5 := x8_int ((((x ^^^ rot 1 x) ^^^ rot 2 x) ^^^ rot 3 x) ^^^ rot 4 x) 99
      rw [show ((99 : UInt8).toNat : Int) = 99 from rfl, e2] at q5
      have HQ := hide q5
      clear e2 q5
      have q1 := x8_int x (rot 1 x)
      have q2 := x8_int (x ^^^ rot 1 x) (rot 2 x)
      have q3 := x8_int ((x ^^^ rot 1 x) ^^^ rot 2 x) (rot 3 x)
      have q4 := x8_int (((x ^^^ rot 1 x) ^^^ rot 2 x) ^^^ rot 3 x) (rot 4 x)
      obtain ⟨y1, f01⟩ : ∃ y, x ^^^ rot 1 x = y := ⟨_, rfl⟩
      rw [f01] at q1 q2 q3 q4 HQ
      obtain ⟨y2, f02⟩ : ∃ y, y1 ^^^ rot 2 x = y := ⟨_, rfl⟩
      rw [f02] at q2 q3 q4 HQ
      obtain ⟨y3, f03⟩ : ∃ y, y2 ^^^ rot 3 x = y := ⟨_, rfl⟩
      rw [f03] at q3 q4 HQ
      obtain ⟨y4, f04⟩ : ∃ y, y3 ^^^ rot 4 x = y := ⟨_, rfl⟩
      rw [f04] at q4 HQ
      have q5 := HQ.out
      clear HQ f01 f02 f03 f04
      have hend : ¬ ((256 : Int) < 256) := by decide
      go_wp2_with fail
      refine (turned_1 x _).mono ?_
      rintro e w2 ⟨rfl, hw⟩
      obtain rfl := hw.symm
      go_wp2_with fail
      refine (turned_2 x _).mono ?_
      rintro e w3 ⟨rfl, hw⟩
      obtain rfl := hw.symm
      go_wp2_with fail
      refine (turned_3 x _).mono ?_
      rintro e w4 ⟨rfl, hw⟩
      obtain rfl := hw.symm
      go_wp2_with fail
      refine (turned_4 x _).mono ?_
      rintro e w5 ⟨rfl, hw⟩
      obtain rfl := hw.symm
      go_wp2_with fail
      go_ret
      exact ⟨rfl, rfl⟩

theorem infoY : (Try.prog.info? 5).map (fun i => (i.zero, i.size, i.bytes)) = some (some (.int .u8 0), 1, 1) := by kernel_rfl
theorem take_next (l : List UInt8) (k : Nat) (h : k < l.length) : bs (l.take (k + 1)) = bs (l.take k) ++ [.int .u8 ((gy l k).toNat : Int)] := by
  rw [List.take_add_one, bs_app, gy_get h]
  rfl
set_option maxRecDepth 100000 in
set_option maxHeartbeats 4000000 in
theorem gtable_any (w : World) :
    Calls Try.prog 59 #[] w fun e w' => ∃ v, e = .returned v ∧ Ow w' w.heap.size v 256 (bs SB) ∧ Below w.heap.size w w' := by
  have HS := hide SB_length
  go_enter Try.func59, Try.ntmps59
  go_wp2_with fail
  go_loopg [1, 2] 256 (fun g v q wr => ∃ k : Nat, k + g = 256 ∧ q = .int .i64 k ∧ Ow wr w.heap.size v k (bs (SB.take k)) ∧ Below w.heap.size w wr)
  case atStart => exact ⟨0, rfl, rfl, Ow.nil _ _, Below.refl _ _⟩
  case round =>
    obtain ⟨k, hkg, rfl, hO, hB⟩ := hrel
    by_cases hlt : k < 256
    · have hlt' : (k : Int) < 256 := by omega
      obtain ⟨g3, rfl⟩ : ∃ g3, gk = g3 + 1 := ⟨gk - 1, by omega⟩
      have hcv := conv_byte k hlt
      have ek : (UInt8.ofNat k).toNat = k := UInt8.toNat_ofNat_of_lt' hlt
      obtain ⟨va, vc, rfl, hvc⟩ := hO.shape
      have HO := hide hO
      have HB := hide hB
      have HK := hide (And.intro hlt ek)
      clear hO hB hvc ek
      go_wp2_with fail
      rw [← HK.out.2]
      refine (gstand_any (UInt8.ofNat k) _).mono ?_
      rintro e w2 ⟨rfl, hw⟩
      obtain rfl := hw.symm
      rw [HK.out.2]
      have HO2 := hide (HO.out.keep ((Below.refl wr.heap.size wr).alloc (Nat.le_refl _) (.cells #[.int .u8 ((gy SB k).toNat : Int)] 5)))
      have HB2 := hide (HB.out.alloc HB.out.size (.cells #[.int .u8 ((gy SB k).toNat : Int)] 5))
      clear HO HB
      go_wp2_with (refine wpList_appendO rfl (.tmp 7) (.tmp 11) 28 28 rfl 5 Try.underlying28 infoY (by decide) rfl (B := w.heap.size) (n := k) (m := 1) (xs := bs (SB.take k)) (news := [.int .u8 ((gy SB k).toNat : Int)]) rfl rfl HO2.out ((Row.newL wr [.int .u8 ((gy SB k).toNat : Int)] 5).src (n := 1) (cap := 1) rfl Try.underlying28 (fun u hu => by simp at hu; subst hu; rfl)) (by have := HK.out.1; omega) HB2.out.size (fun u hu => bs_one hu) ?_
                   intro v5 w5 hO5 hB5
                   have HO5 := hide hO5
                   have HB5 := hide (HB2.out.trans hB5)
                   clear hO5 hB5)
      go_roundg g3
      case measure => omega
      case rel => exact ⟨k + 1, by omega, by go_num, by rw [take_next _ _ (by rw [HS.out]; exact HK.out.1)]; exact HO5.out, HB5.out⟩
    · obtain rfl : k = 256 := by omega
      rw [List.take_of_length_le (by rw [SB_length]; exact Nat.le_refl _)] at hO
      obtain ⟨va, vc, rfl, hvc⟩ := hO.shape
      have HO := hide hO
      have HB := hide hB
      clear hO hB hvc
      go_wp2_with fail
      go_ret
      exact ⟨_, rfl, HO.out, HB.out⟩
end Go.Proofs.Ytknjmmbebkcnpaa

/- Appends to rows of the call's own that leave other rows of its own as they are. No call is walked here. -/
namespace Go.Proofs.Ytknjmmbebkcnpaa
open Go.RowKit Bk

namespace Bk
/-- The block that a slice's row lies in. -/
def blkOf : Value → Option Nat
  | .slice (some a) _ _ => some a.block
  | _ => none
end Bk
/-- What an append to v leaves, v' being what it tells. -/
structure Ap (v v' : Value) (w w' : World) : Prop where
  os : w'.os = w.os
  tape : w'.tape = w.tape
  output : w'.output = w.output
  size : w.heap.size ≤ w'.heap.size
  block : ∀ k, k < w.heap.size → blkOf v ≠ some k → w'.heap[k]? = w.heap[k]?
  fresh : ∀ g, blkOf v' = some g → blkOf v = some g ∨ w.heap.size ≤ g
theorem Ap.refl (v : Value) (w : World) : Ap v v w w := ⟨rfl, rfl, rfl, Nat.le_refl _, fun _ _ _ => rfl, fun _ h => .inl h⟩
theorem Ap.newly {v : Value} {w w' : World} {n cap : Nat} (h : Below w.heap.size w w') : Ap v (.slice (some ⟨w.heap.size, 0, none⟩) n cap) w w' :=
  ⟨h.os, h.tape, h.output, h.size, fun k hk _ => h.block k hk, fun g hg => .inr (Nat.le_of_eq (by simpa [blkOf] using hg))⟩
theorem Ap.put (g n cap m : Nat) (w : World) (o : Nat) (vs : List Value) : Ap (.slice (some ⟨g, 0, none⟩) n cap) (.slice (some ⟨g, 0, none⟩) m cap) w (w.setCells g o vs) :=
  have k := (Bt.refl g w).setCells o vs
  ⟨k.os, k.tape, k.output, k.size, fun i hi hn => k.block i hi (fun h => hn (by subst h; rfl)), fun _ h => .inl h⟩
theorem Ap.after {v v' : Value} {w w1 w2 : World} (h : Below w.heap.size w w1) (k : Ap v v' w1 w2) : Ap v v' w w2 :=
  ⟨k.os.trans h.os, k.tape.trans h.tape, k.output.trans h.output, Nat.le_trans h.size k.size, fun i hi hn => (k.block i (Nat.lt_of_lt_of_le hi h.size) hn).trans (h.block i hi), fun g hg => (k.fresh g hg).imp id (fun h9 => Nat.le_trans h.size h9)⟩
theorem Ow.blk {w : World} {B : Nat} {v : Value} {n : Nat} {xs : List Value} (h : Ow w B v n xs) {g : Nat} (hg : blkOf v = some g) : B ≤ g ∧ g < w.heap.size := by
  rcases h.2 with ⟨rfl, _⟩ | ⟨g', cap, zs, rfl, hB, hn, hz, hR⟩
  · simp [blkOf] at hg
  · have : g' = g := by simpa [blkOf] using hg
    subst this
    exact ⟨hB, hR.lt⟩
theorem Ap.below {v v' : Value} {w w' : World} {B n : Nat} {xs : List Value} (k : Ap v v' w w') (h : Ow w B v n xs) (hB : B ≤ w.heap.size) : Below B w w' :=
  ⟨k.os, k.tape, k.output, k.size, fun i hi => k.block i (by omega) (fun h9 => by have := (h.blk h9).1; omega)⟩
/-- Two slices' rows lie in blocks of their own. -/
def Dj (v1 v2 : Value) : Prop := ∀ g, blkOf v1 = some g → blkOf v2 ≠ some g
theorem Dj.symm {v1 v2 : Value} (h : Dj v1 v2) : Dj v2 v1 := fun g h1 h2 => h g h2 h1
theorem Dj.nil (v : Value) : Dj (.slice none 0 0) v := fun g h => by simp [blkOf] at h
theorem Dj.ap {v v' v2 : Value} {w w' : World} {B n : Nat} {xs : List Value} (h : Dj v v2) (k : Ap v v' w w') (h2 : Ow w B v2 n xs) : Dj v' v2 := fun g h1 h9 => by
  rcases k.fresh g h1 with h3 | h3
  · exact h g h3 h9
  · have := (h2.blk h9).2
    omega
theorem Row.ap {w w' : World} {v v' : Value} {g : Nat} {xs : List Value} (h : Row w g 0 xs) (k : Ap v v' w w') (hg : blkOf v ≠ some g) : Row w' g 0 xs :=
  ⟨Nat.lt_of_lt_of_le h.lt k.size, fun j u hj => (World.cell?_of_block (w := w) (k.block g h.lt hg)).trans (h.cell j u hj), fun j hj => (World.frozen?_of_block (w := w) (k.block g h.lt hg)).trans (h.free j hj)⟩
theorem Ow.ap {w w' : World} {B : Nat} {v v' v2 : Value} {n : Nat} {xs : List Value} (h : Ow w B v2 n xs) (k : Ap v v' w w') (hd : Dj v v2) : Ow w' B v2 n xs := by
  refine ⟨h.1, ?_⟩
  rcases h.2 with h0 | ⟨g, cap, zs, hv, hg, hn, hz, hR⟩
  · exact .inl h0
  · exact .inr ⟨g, cap, zs, hv, hg, hn, hz, hR.ap k (fun h9 => hd g h9 (by rw [hv]; rfl))⟩
section
variable {P : Program}
theorem run_appendP (w : World) (t tx ty e : TypeId) (ht : P.underlying t = some (.slice e)) {z : Value} {bytes : Nat} (hinfo : (P.info? e).map (fun i => (i.zero, i.size, i.bytes)) = some (some z, 1, bytes)) (hb : bytes ≤ 16) (hz1 : z.cells.size = 1)
    {B n m : Nat} {v xv : Value} {xs news : List Value} (hO : Ow w B v n xs) (hsrc : Src P 1 tx xv m news w) (hnm : n + m ≤ 1000000) (hB : B ≤ w.heap.size) (h1 : ∀ u ∈ xs, u.oneCell' = true) :
    ∃ v' w', (Builtin.append_ #[t, tx] ty #[v, xv]).run P w = .ok v' w' ∧ Ow w' B v' (n + m) (xs ++ news) ∧ Ap v v' w w' ∧ ∀ g, blkOf v = some g → Row w' g 0 xs := by
  obtain ⟨i, hi, hz, hs, hy⟩ := info_parts hinfo
  have hnl : news.length = m := by have := hsrc.newsLen; omega
  obtain ⟨hl, hO⟩ := hO
  have growcase : ∀ (base : Option Addr) (cap : Nat), n ≤ cap → cap < n + m → (Builtin.firstCells 1 n (.slice base n cap)).run P w.drew = .ok xs.toArray w.drew → (∀ g, blkOf (.slice base n cap) = some g → Row w g 0 xs) →
      ∃ v' w', (Builtin.append_ #[t, tx] ty #[.slice base n cap, xv]).run P w = .ok v' w' ∧ Ow w' B v' (n + m) (xs ++ news) ∧ Ap (.slice base n cap) v' w w' ∧ ∀ g, blkOf (.slice base n cap) = some g → Row w' g 0 xs := by
    intro base cap hc hg hold hold2
    have hfit : Builtin.nextslicecap (n + m) cap * i.bytes ≤ 281474976710656 := by
      have h2 := nextslicecap_le (need := n + m) (old := cap) hg
      rw [hy]
      exact Nat.le_trans (Nat.mul_le_mul h2 hb) (by omega)
    have hrun := run_append_grow_src (P := P) w t tx ty e i z ht hi hz base n cap xs (by rw [hs]; exact hold) xv m news (by rw [hs]; exact hsrc) hg (by omega) hfit
    have hge := grownCap_ge w (n + m) cap e
    refine ⟨_, _, hrun, ⟨by rw [List.length_append, hl, hnl], .inr ⟨w.heap.size, _, (Builtin.zeroCells z.cells (grownCap w (n + m) cap e - (n + m))).toList, rfl, hB, hge, ?_, ?_⟩⟩, Ap.newly (show Below w.heap.size w _ from ((Below.refl _ w).drew).alloc (Nat.le_refl _) _), fun g hg9 => (hold2 g hg9).drew.alloc _⟩
    · simp [Builtin.zeroCells, hz1]
    · have k := Row.new w.drew ((xs ++ news).toArray ++ Builtin.zeroCells z.cells (grownCap w (n + m) cap e - (n + m))) e
      rw [Array.toList_append] at k
      exact k
  rcases hO with ⟨rfl, rfl⟩ | ⟨g, cap, zs, rfl, hg, hn, hzl, hR⟩
  · obtain rfl : xs = [] := List.length_eq_zero_iff.1 hl
    by_cases hm : m = 0
    · subst hm
      obtain rfl : news = [] := List.length_eq_zero_iff.1 hnl
      refine ⟨.slice none 0 0, w, ?_, Ow.nil w B, Ap.refl _ _, fun g hg9 => by simp [blkOf] at hg9⟩
      have hc := hsrc.cells
      rcases hsrc.kind with ⟨e', hk⟩ | hk <;> simp [Builtin.append_, run_underlying ht, run_underlying hk, sizeOf, typeInfo, hi, hs, hsrc.len, hc]
    · exact growcase none 0 (Nat.le_refl _) (by omega) (run_firstCells_none _ _ _ _ _) (fun g hg9 => by simp [blkOf] at hg9)
  · by_cases hroom : n + m ≤ cap
    · have hsp : zs = zs.take m ++ zs.drop m := (List.take_append_drop m zs).symm
      have hR2 := hR.right
      rw [hsp] at hR2
      have hRm := hR2.left
      have hRr := hR2.right
      have hlm : (zs.take m).length = m := by rw [List.length_take]; omega
      have ht' := hRm.there
      rw [hlm, hl, Nat.zero_add] at ht'
      have hrun := run_append_room_src (P := P) w t tx ty e i ht hi g 0 n cap xv m news (by rw [hs]; exact hsrc) hroom (fun j hj => by rw [hs, Nat.mul_one, Nat.zero_add]; exact (ht' j (by omega)).1) (fun j hj => by rw [hs, Nat.mul_one, Nat.zero_add]; exact (ht' j (by omega)).2)
      rw [hs, Nat.mul_one, Nat.zero_add] at hrun
      refine ⟨_, _, hrun, ⟨by rw [List.length_append, hl, hnl], .inr ⟨g, cap, zs.drop m, rfl, hg, hroom, by rw [List.length_drop]; omega, ?_⟩⟩, Ap.put g n cap _ w _ _, fun g9 hg9 => (show g = g9 by simpa [blkOf] using hg9) ▸ hR.left.apart g n news (.inr (.inl (by omega)))⟩
      rw [List.append_assoc]
      refine (hR.left.apart g n news (.inr (.inl (by omega)))).join ?_
      have e0 : 0 + xs.length = n := by omega
      rw [e0]
      rw [e0] at hRm hRr
      refine (hRm.put news (by rw [hnl, hlm])).join ?_
      rw [hnl]
      rw [hlm] at hRr
      exact hRr.apart g n news (.inr (.inr (by omega)))
    · exact growcase (some ⟨g, 0, none⟩) cap hn (by omega) (run_firstCells_some w.drew 1 n ⟨g, 0, none⟩ n cap xs (by omega) (fun j u hj => by rw [Addr.add_mid]; exact hR.drew.left.cell j u hj)) (fun g9 hg9 => (show g = g9 by simpa [blkOf] using hg9) ▸ hR.left)
end
section
variable {P : Program} {ops : Array Oper} {rest : List Oper} {o : Oper} {a : Act} {w : World} {Q : Exit → Act → World → Prop}
theorem wpList_appendP (hg : o.guard = none) (d x : Operand) (t tx : TypeId) (ho : o.op = .call { callee := .builtin .append, args := #[d, x], argTypes := #[t, tx] }) (e : TypeId) (ht : P.underlying t = some (.slice e)) {z : Value} {bytes : Nat}
    (hinfo : (P.info? e).map (fun i => (i.zero, i.size, i.bytes)) = some (some z, 1, bytes)) (hb : bytes ≤ 16) (hz1 : z.cells.size = 1) {B n m : Nat} {v xv : Value} {xs news : List Value} (hd : a.eval d = v) (hx : a.eval x = xv) (hO : Ow w B v n xs) (hsrc : Src P 1 tx xv m news w)
    (hnm : n + m ≤ 1000000) (hB : B ≤ w.heap.size) (h1 : ∀ u ∈ xs, u.oneCell' = true)
    (h : ∀ v' w', Ow w' B v' (n + m) (xs ++ news) → Ap v v' w w' → wpList P ops Q rest (a.put o.dst v') w') : wpList P ops Q (o :: rest) a w := by
  refine wpList_plain hg fun K hK => ?_
  obtain ⟨v', w', hrun, hOw, hAp, _⟩ := run_appendP (P := P) w t tx o.type e ht hinfo hb hz1 hO hsrc hnm hB h1
  unfold Oper.wp
  simp [execOp, ho, resolve, invoke, builtin, hd, hx, hrun, Result.andThen]
  exact hK _ _ (h v' w' hOw hAp)
end
section
variable {P : Program} {ops : Array Oper} {Q : Exit → Act → World → Prop} {S : World → Prop} {s : Nat}
theorem ord_appendP {i : Nat} {o : Oper} {r : List (Nat × Option Bool)} {bb : Bool} {a : Act} {w : World} (h0 : ops[i]? = some o) (hg : o.guard = none) (d x : Operand) (t tx : TypeId) (ho : o.op = .call { callee := .builtin .append, args := #[d, x], argTypes := #[t, tx] }) (e : TypeId) (ht : P.underlying t = some (.slice e)) {z : Value} {bytes : Nat}
    (hinfo : (P.info? e).map (fun i => (i.zero, i.size, i.bytes)) = some (some z, 1, bytes)) (hb : bytes ≤ 16) (hz1 : z.cells.size = 1) {B n m : Nat} {v xv : Value} {xs news : List Value} (hd : a.eval d = v) (hx : a.eval x = xv) (hO : Ow w B v n xs) (hsrc : Src P 1 tx xv m news w)
    (hnm : n + m ≤ 1000000) (hB : B ≤ w.heap.size) (h1 : ∀ u ∈ xs, u.oneCell' = true)
    (h : ∀ v' w', Ow w' B v' (n + m) (xs ++ news) → Ap v v' w w' → (∀ g, blkOf v = some g → Row w' g 0 xs) → (ahead s i bb = true → S w') ∧ wpOrd P ops Q S s r (ahead s i bb) (a.put o.dst v') w') : wpOrd P ops Q S s ((i, none) :: r) bb a w :=
  ord_go h0 fun K hK => by
    rw [if_pos (by unfold Region.wanted; rw [hg])]
    obtain ⟨v', w', hrun, hOw, hAp, hold⟩ := run_appendP (P := P) w t tx o.type e ht hinfo hb hz1 hO hsrc hnm hB h1
    have hk := h v' w' hOw hAp hold
    unfold Oper.wp
    simp [execOp, ho, resolve, invoke, builtin, hd, hx, hrun, Result.andThen]
    exact hK.out _ _ hk.1 hk.2
end
end Go.Proofs.Ytknjmmbebkcnpaa
