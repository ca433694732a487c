/- What is stretched, walked: the texts of all rounds put together byte by byte. For passwords and salts of fewer than 2 to the power of 57 bytes, 1 to 64 rounds, blocks to 2 to the power of 31 less 1. -/
import Derived.Test.YtdcmjmmfclhfbaaKIter
import Derived.Test.YtdcmjmmfclhfbaaKNum
namespace Go.Proofs.Ytdcmjmmfclhfbaa
open Go.RowKit Go.Shelf Bk
set_option linter.unusedVariables false
set_option linter.unusedSimpArgs false
attribute [local go_sem] Oper.semAt_some

theorem Row.own {β : Type} (B b o : Nat) (f : β → List Value) : OwnFrom B (fun s W => Row W b o (f s)) := fun s W W' row hs hg hr =>
  ⟨Nat.lt_of_lt_of_le hs.lt hg.size, fun j v hj => cell_kept (hs.cell j v hj) hg (fun r e => (hr r e).2), fun j hj => by
    obtain ⟨v, hv⟩ : ∃ v, (f s)[j]? = some v := ⟨_, List.getElem?_eq_getElem hj⟩
    exact (frozen_kept (hs.cell j v hv) hg (fun r e => (hr r e).2)).trans (hs.free j hj)⟩

/-- What is stretched by n rounds. -/
def dst (p f : ByteArray) (n : Nat) : ByteArray := ⟨(kxo (sb p) (sb f) n).toArray⟩
theorem dst_size (p f : ByteArray) (n : Nat) : (dst p f n).size = 32 := by rw [← sb_length]; exact kxo_length _ _ _

theorem zero32 (w : World) : w.alloc (.cells #[.int .u8 0, .int .u8 0, .int .u8 0, .int .u8 0, .int .u8 0, .int .u8 0, .int .u8 0, .int .u8 0, .int .u8 0, .int .u8 0, .int .u8 0, .int .u8 0, .int .u8 0, .int .u8 0, .int .u8 0, .int .u8 0, .int .u8 0, .int .u8 0, .int .u8 0, .int .u8 0, .int .u8 0, .int .u8 0, .int .u8 0, .int .u8 0, .int .u8 0, .int .u8 0, .int .u8 0, .int .u8 0, .int .u8 0, .int .u8 0, .int .u8 0, .int .u8 0] 38) = w.alloc (.cells (bs (List.replicate 32 0)).toArray 38) := rfl

set_option maxRecDepth 100000 in
set_option maxHeartbeats 4000000 in
theorem stretched_in {w : World} (p s : ByteArray) (n b : Nat) (hp : p.size < 288230376151711744) (hs : s.size < 288230376151711744) (hn : n ≤ 64) (hb : b ≤ 2147483647) :
    CallsIn Fence.wide 5 Try.prog 16 #[.string p, .string s, .int .i64 n, .int .i64 b] w fun e w' => e = .returned (.string (dst p (s ++ nb4 b) n)) ∧ Below w.heap.size w w' := by
  have hro : Fence.wide.round = none := rfl
  refine callsIn_of_wp_marks Try.func16 rfl trivial ?_ hro
  simp only [Try.ntmps16, List.size_toArray, List.length_cons, List.length_nil, Nat.reduceAdd, Nat.reduceSub, Array.replicate_succ, Array.replicate_zero, List.push_toArray, List.append_toArray, List.nil_append, List.cons_append]
  gi_wp2_with fail
  rw [zero32]
  refine ⟨trivial, (callsIn_wide.2 (number_any b _ hb)).mono ?_⟩
  rintro e w1 ⟨rfl, hw1⟩
  obtain ⟨hR1, hB1, hl1⟩ : Row w1 w.heap.size 0 (bs (List.replicate 32 0)) ∧ Below w.heap.size w w1 ∧ w.heap.size < w1.heap.size := by
    have r := Row.newL w (bs (List.replicate 32 0)) 38
    exact ⟨r.below hw1 r.lt, ((Below.refl _ w).alloc (Nat.le_refl _) _).trans (hw1.mono (by simp)), Nat.lt_of_lt_of_le r.lt hw1.size⟩
  clear hw1
  obtain ⟨N4, eN⟩ : ∃ N4, nb4 b = N4 := ⟨_, rfl⟩
  obtain ⟨F, eF⟩ : ∃ F, s ++ N4 = F := ⟨_, rfl⟩
  have h4 : N4.size = 4 := by rw [← eN]; rfl
  have hF : F.size < 576460752303423488 := by
    rw [← eF, ByteArray.size_append, h4]; omega
  rw [eN]
  gi_wp2_with fail
  refine ⟨trivial, (told_in 4 p F n w1).mono ?_⟩
  rintro e w2 ⟨rfl, rfl⟩
  have bF := (((Boxed.new (w1.alloc (.cells #[.string p] 9)) 9 (.string F))).alloc (.cells #[.int .i64 n] 3))
  have bN := (Boxed.new ((w1.alloc (.cells #[.string p] 9)).alloc (.cells #[.string F] 9)) 3 (.int .i64 n))
  have bP := ((Boxed.new w1 9 (.string p)).alloc (.cells #[.string F] 9)).alloc (.cells #[.int .i64 n] 3)
  have hB0 := (((Below.refl w1.heap.size w1).alloc (Nat.le_refl _) (.cells #[.string p] 9)).alloc (by simp) (.cells #[.string F] 9)).alloc (by simp; omega) (.cells #[.int .i64 n] 3)
  simp only [World.size_alloc] at bF bN
  obtain ⟨W0, hW0⟩ : ∃ W0, (((w1.alloc (.cells #[.string p] 9)).alloc (.cells #[.string F] 9)).alloc (.cells #[.int .i64 n] 3)) = W0 := ⟨_, rfl⟩
  have hsz : W0.heap.size = w1.heap.size + 1 + 1 + 1 := by rw [← hW0]; simp
  rw [hW0] at bF bN bP hB0 ⊢
  have hR0 := hR1.below hB0 (by omega)
  have hBW := hB1.trans (hB0.mono (by omega))
  clear hW0 hR1 hB1 hB0
  gi_wp2_with fail
  have HE := hide (show s ++ nb4 b = F by rw [eN]; exact eF)
  clear eN eF
  have hmx : Try.prog.follows .mixedOrders = true := by kernel_rfl
  refine wpIn_rangeFunc_ownG hro (by decide) (gf := 27) (lb := #[.pointer (some ⟨w1.heap.size + 1, 0, none⟩), .pointer (some ⟨w1.heap.size + 1 + 1, 0, none⟩), .pointer (some ⟨w1.heap.size, 0, none⟩)]) rfl trivial (enters_of Try.func27 (by kernel_rfl) rfl)
    (told_stops _ (by decide) (w1.heap.size + 1) (w1.heap.size + 1 + 1) w1.heap.size n hn p F (by omega) hF W0 (by omega) (by omega) (by omega) bF.cell bN.cell bP.cell) kpD_t ?hKb (Below.refl _ _) (fun _ => rfl)
    (fun pre W => Row W w.heap.size 0 (bs (kall (sb p) (sb F) pre)) ∧ Below w.heap.size w W)
    (fun _ _ _ => False)
    (OwnFrom.and (Row.own _ _ _ (fun pre => bs (kall (sb p) (sb F) pre))) (ownFrom_below (Nat.le_refl _) (by omega)))
    (fun _ _ _ _ _ hs _ _ => hs)
    ⟨hR0, hBW⟩
    (fun y => { tmps := #[.string p, .string s, .int .i64 n, .int .i64 b, undef, undef, undef, undef, .string ⟨#[]⟩, .pointer (some ⟨w.heap.size, 0, none⟩), undef, .string (dtx p F y), undef, .string p, .string s, .int .i64 b, .string N4, .string F, .int .i64 n, .func (.func 27) #[] #[.pointer (some ⟨w1.heap.size + 1, 0, none⟩), .pointer (some ⟨w1.heap.size + 1 + 1, 0, none⟩), .pointer (some ⟨w1.heap.size, 0, none⟩)], .int .i64 (y : Int), .string (dtx p F y), undef, undef, undef, undef, undef, undef, undef, undef, undef, undef, undef, undef, undef, undef], defers := [] }) ?assign ?body ?done ?stop
  case hKb =>
    intro W l o o' hl h1 h2 _
    exact World.cell?_of_block (w := W) (World.putObj_heap_other (by show w1.heap.size ≠ l; omega))
  case assign =>
    intro l y W K hK
    simp only [encD]
    gi_wp2
    exact hK
  case body =>
    rintro l pre y W ⟨hR, hB⟩ _
    obtain ⟨T, eT⟩ : ∃ T, dtx p F y = T := ⟨_, rfl⟩
    obtain ⟨A, eA⟩ : ∃ A, kall (sb p) (sb F) pre = A := ⟨_, rfl⟩
    have lA : A.length = 32 := by rw [← eA]; exact kall_length _ _ _
    have lT : (sb T).length = 32 := by rw [← eT]; exact ktx_length _ _ _
    have zT : T.size = 32 := by rw [← sb_length]; exact lT
    have HK := hide (show kall (sb p) (sb F) (pre ++ [y]) = kx A (sb T) by rw [kall_snoc, eA, ← eT]; rfl)
    rw [eT]
    rw [eA] at hR
    clear eT eA
    have HR := hide (And.intro hR hB)
    clear hR hB
    gi_wp2_with fail
    gi_loopw [12, 22] (fun _ t wr => ∃ k : Nat, k ≤ 32 ∧ t = .int .i64 (k : Int) ∧ Row wr w.heap.size 0 (bs (kmid A (sb T) k)) ∧ Below w.heap.size w wr ∧ KeepsOthers W wr ∧ KpD w1.heap.size W wr)
      (fun _ t _ => 32 - (intOf t).toNat)
    case atStart => exact ⟨0, Nat.zero_le _, rfl, HR.out.1, HR.out.2, KeepsOthers.refl _, rfl⟩
    case round =>
      clear HR
      obtain ⟨k, hk, rfl, hR, hB, hO, hK⟩ := hrel
      by_cases hlt : k < 32
      · have hltI : (k : Int) < 32 := by omega
        have hc := hR.y0 k (by rw [kmid_length lA lT k hk]; exact hlt)
        rw [kmid_at lA lT k hlt] at hc
        have f0 := hR.f0 k (by rw [bs_length, kmid_length lA lT k hk]; exact hlt)
        have hidx : ∀ w, (Instr.index 9 (.string T) (.int .i64 (k : Int))).run Try.prog w = .ok (.int .u8 ((by' (sb T) k : Nat) : Int)) w := fun w => idx_str T k (by omega) w
        have h3 := hR.set0 (i := k) (by rw [bs_length, kmid_length lA lT k hk]; exact hlt) (.int .u8 ((UInt8.ofNat (by' A k) ^^^ UInt8.ofNat (by' (sb T) k)).toNat : Int))
        rw [← bs_setU, ← kmid_succ lA lT k hlt] at h3
        have hx := x8_int (UInt8.ofNat (by' A k)) (UInt8.ofNat (by' (sb T) k))
        obtain ⟨z, ez⟩ : ∃ z, (UInt8.ofNat (by' A k) ^^^ UInt8.ofNat (by' (sb T) k)).toNat = z := ⟨_, rfl⟩
        rw [ez] at hx h3
        have hzb : z < 256 := by rw [← ez]; exact UInt8.toNat_lt _
        have ba : by' A k < 256 := by_lt _ _
        have bt : by' (sb T) k < 256 := by_lt _ _
        rw [UInt8.toNat_ofNat_of_lt' ba, UInt8.toNat_ofNat_of_lt' bt] at hx
        obtain ⟨a1, e1⟩ : ∃ a, by' A k = a := ⟨_, rfl⟩
        obtain ⟨t1, e2⟩ : ∃ t, by' (sb T) k = t := ⟨_, rfl⟩
        rw [e1] at hc hx ba
        rw [e2] at hidx hx bt
        have HN := hide (And.intro h3 (And.intro (hB.setCell (p := ⟨w.heap.size, k, none⟩) (Nat.le_refl _) (.int .u8 (z : Int))) (And.intro (hO.trans (KeepsOthers.setCell wr ⟨w.heap.size, k, none⟩ (.int .u8 (z : Int)))) (show KpD w1.heap.size W (wr.setCell ⟨w.heap.size, k, none⟩ (.int .u8 (z : Int))) from
          (World.cell?_of_block (w := wr) (Below.heap_setCell _ _ _ _ (by show w1.heap.size ≠ w.heap.size; omega))).trans hK))))
        clear h3 ez e1 e2 hR hB hO hK
        gi_wp2_with fail
        refine region_tail_round 8 hmx (by kernel_rfl) (by kernel_rfl) ?_
        simp only [List.take_succ_cons, List.take_zero, List.drop_succ_cons, List.drop_zero]
        repeat still_step
        refine wpStill_nil ?_
        go_wp2
        gi_wp2
        go_roundw
        case rel => exact ⟨k + 1, by omega, by go_num, HN.out.1.drew, HN.out.2.1.drew, HN.out.2.2.1.trans (KeepsOthers.drew _), HN.out.2.2.2⟩
        case measure => simp [intOf]; omega
      · obtain rfl : k = 32 := by omega
        rw [kmid_all lA lT, ← HK.out] at hR
        have HE9 := hide (And.intro (hO.from W0.heap.size) (And.intro hK (And.intro hR hB)))
        clear hR hB hO hK
        gi_wp2
        exact HE9.out
  case done =>
    rintro D ys W hD rfl ⟨hR, hB⟩ hK
    have hx := run_textR (P := Try.prog) W 29 9 5 (c := 32) (n := 32) (l := kall (sb p) (sb F) (List.range n)) Try.underlying29 Try.underlying5 Try.underlying9 w.heap.size 0 rfl (kall_length _ _ _) hR.cell
    have HV := hide (show ByteArray.mk (kall (sb p) (sb F) (List.range n)).toArray = dst p F n from rfl)
    obtain ⟨V, eV⟩ : ∃ V, ByteArray.mk (kall (sb p) (sb F) (List.range n)).toArray = V := ⟨_, rfl⟩
    rw [eV] at hx HV
    have HV2 := hide (show dst p (s ++ nb4 b) n = V by rw [HE.out]; exact HV.out.symm)
    have HB := hide (hB.trans (belowK_b (w := w) (Nat.le_refl _) W D (.deferred (some [])) (.deferred none) (by omega) hK rfl rfl))
    clear eV HV hR hB
    gi_wp2
    refine ⟨by simp, .inl ⟨_, _, rfl, run_takeDeferred hK, ?_⟩⟩
    exact ⟨_, results_tmp rfl _ _ _, by rw [HV2.out]; rfl, HB.out⟩
  case stop =>
    rintro D c pre W _ _ h _
    exact h.elim

theorem stretched_any (p s : ByteArray) (n b : Nat) (w : World) (hp : p.size < 288230376151711744) (hs : s.size < 288230376151711744) (hn : n ≤ 64) (hb : b ≤ 2147483647) :
    Calls Try.prog 16 #[.string p, .string s, .int .i64 n, .int .i64 b] w fun e w' => e = .returned (.string (dst p (s ++ nb4 b) n)) ∧ Below w.heap.size w w' :=
  callsIn_wide.1 (stretched_in p s n b hp hs hn hb)
end Go.Proofs.Ytdcmjmmfclhfbaa
