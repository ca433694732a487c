/- Copy and Sum of a hash of SHA-256, Sum of bytes, and the calls on nil, walked. For fewer than 2 to the power of 60 bytes. -/
import Derived.Test.YtdcmjmmfclhfbaaSAdd
import Derived.Test.YtdcmjmmfclhfbaaSFill
namespace Go.Proofs.Ytdcmjmmfclhfbaa
open Go.RowKit Bk
set_option linter.unusedVariables false
set_option linter.unusedSimpArgs false

/-- A digest, a digest by a key, as strings. -/
def sdg (l : List UInt8) : ByteArray := ⟨(ssum l).toArray⟩
theorem sb_sdg (l : List UInt8) : sb (sdg l) = ssum l := rfl
theorem sdg_size (l : List UInt8) : (sdg l).size = 32 := by rw [← sb_length, sb_sdg, ssum_length]

def sfour (x : Nat) : List UInt8 := [UInt8.ofNat (x / 16777216 % 256), UInt8.ofNat (x / 65536 % 256), UInt8.ofNat (x / 256 % 256), UInt8.ofNat (x % 256)]
theorem sdig_succ (h : List Nat) (k : Nat) : sdig h (k + 1) = sdig h k ++ sfour (at' h k) := rfl
theorem sfour_bs (x : Nat) : bs (sfour x) = [.int .u8 ((x / 16777216 % 256 : Nat) : Int), .int .u8 ((x / 65536 % 256 : Nat) : Int), .int .u8 ((x / 256 % 256 : Nat) : Int), .int .u8 ((x % 256 : Nat) : Int)] := by
  simp only [bs, sfour, List.map_cons, List.map_nil]
  rw [sbyte_nat _ (Nat.mod_lt _ (by decide)), sbyte_nat _ (Nat.mod_lt _ (by decide)), sbyte_nat _ (Nat.mod_lt _ (by decide)), sbyte_nat _ (Nat.mod_lt _ (by decide))]
structure Dg (w0 w : World) (g : Nat) (G : List Nat) (k : Nat) : Prop where
  r : Row w g 0 (bs (sdig G k ++ List.replicate (32 - 4 * k) 0))
  be : Below w0.heap.size w0 w
  hg : w0.heap.size ≤ g
theorem Dg.next {w0 w : World} {g k x y0 y1 y2 y3 : Nat} {G : List Nat} (h : Dg w0 w g G k) (hk : k < 8) (hx : at' G k = x) (e0 : x / 16777216 % 256 = y0) (e1 : x / 65536 % 256 = y1) (e2 : x / 256 % 256 = y2) (e3 : x % 256 = y3) :
    ∃ W, w.alloc (.cells #[.int .u8 (y0 : Int), .int .u8 (y1 : Int), .int .u8 (y2 : Int), .int .u8 (y3 : Int)] 5) = W ∧ Row W g (0 + 4 * k) (bs (List.replicate 4 0)) ∧ Src Try.prog 1 29 (.slice (some ⟨w.heap.size, 0, none⟩) 4 4) 4 (bs (sfour x)) W ∧ Dg w0 (W.setCells g (0 + 4 * k) (bs (sfour x))) g G (k + 1) := by
  have e4 : bs (sfour x) = [.int .u8 (y0 : Int), .int .u8 (y1 : Int), .int .u8 (y2 : Int), .int .u8 (y3 : Int)] := by rw [sfour_bs, e0, e1, e2, e3]
  have l4 : (bs (sfour x)).length = 4 := by rw [e4]; rfl
  have hr := h.r
  rw [show 32 - 4 * k = 4 + (32 - 4 * (k + 1)) by omega, ← List.replicate_append_replicate, bs_app, bs_app] at hr
  have r1 := hr.left
  have r2 := hr.right
  rw [bs_length, sdig_length] at r2
  have r3 := r2.left
  have r4 := r2.right
  rw [bs_length, List.length_replicate] at r4
  refine ⟨_, rfl, r3.alloc _, ?_, ?_, ?_, h.hg⟩
  · have k1 := Row.newL w (bs (sfour x)) 5
    refine Src.ofSlice _ Try.underlying29 ⟨w.heap.size, 0, none⟩ 4 4 _ l4 (fun q u hq => ?_) (fun u hu => bs_one hu)
    rw [Addr.add_mid]
    rw [e4] at k1 hq
    exact k1.cell q u hq
  · rw [sdig_succ, hx, List.append_assoc, bs_app, bs_app]
    refine ((r1.alloc _).apart _ _ _ (.inr (.inl (by rw [bs_length, sdig_length]; omega)))).join ?_
    rw [bs_length, sdig_length]
    refine ((r3.alloc _).put (bs (sfour x)) (by rw [l4, bs_length, List.length_replicate])).join ?_
    rw [l4]
    exact (r4.alloc _).apart _ _ _ (.inr (.inr (by rw [l4]; exact Nat.le_refl _)))
  · exact (h.be.alloc (Nat.le_trans h.hg (Nat.le_of_lt r1.lt)) _).trans (below_setCells h.hg _ _ _)

/-- A hash, copied whole into a new block. -/
theorem Ss.twin {w : World} {b : Nat} {l : List UInt8} (H : Ss w b l) : ∃ C : List Value, Row w b 0 C ∧ C.length = 137 ∧ (∀ v ∈ C, v.oneCell' = true) ∧ ∀ (w' : World) (b' : Nat), Row w' b' 0 C → Ss w' b' l := by
  obtain ⟨B, eB, hM⟩ := H.ex
  exact ⟨_, hM.row, hM.len, fun v hv => scs_one hv, fun w' b' h => ⟨B, eB, Sm.of h hM.nN hM.nK hM.nB⟩⟩
theorem Ss.count {w : World} {b : Nat} {l : List UInt8} (H : Ss w b l) : w.cell? ⟨b, 136, none⟩ = some (.int .u64 (l.length : Int)) := by
  obtain ⟨B, eB, hM⟩ := H.ex
  exact hM.rl.cell 0 _ rfl
theorem Ss.nums {w : World} {b : Nat} {l : List UInt8} (H : Ss w b l) : Row w b 0 (us (sst skc siv l (l.length / 64))) := by
  obtain ⟨B, eB, hM⟩ := H.ex
  exact hM.rn

theorem hash_zero : ∃ Z : List Value, (Try.prog.info? 57).map (fun i => (i.zero, i.size)) = some (some (.agg Z.toArray), 137) ∧ Z.length = 137 := ⟨scs (List.replicate 8 0) (List.replicate 64 0) (List.replicate 64 0) 0, by kernel_rfl, by kernel_rfl⟩

set_option maxRecDepth 100000 in
theorem sadd_nil (w : World) (s : ByteArray) : Calls Try.prog 24 #[.pointer none, .string s] w fun e w' => e = .returned (.int .i64 2) ∧ w' = w := by
  go_enter Try.func24, Try.ntmps24
  go_wp2
  go_ret
  exact ⟨rfl, rfl⟩

set_option maxRecDepth 100000 in
set_option maxHeartbeats 16000000 in
theorem shsum_any {w : World} {b : Nat} {l : List UInt8} (H : Ss w b l) (hl : l.length < 1152921504606846976) :
    Calls Try.prog 25 #[.pointer (some ⟨b, 0, none⟩)] w fun e w' => e = .returned (.string (sdg l)) ∧ Below w.heap.size w w' := by
  obtain ⟨C, hC, lC, oC, tC⟩ := H.twin
  obtain ⟨Z, hz, lZ⟩ := hash_zero
  have hnew := Row.newL w Z 57
  have hlt := H.lt
  obtain ⟨c, W, hc, hW, k1, k2, k3, hcW⟩ : ∃ c W, w.heap.size = c ∧ (w.alloc (.cells Z.toArray 57)).setCells w.heap.size 0 C = W ∧ Row W c 0 C ∧ Below w.heap.size w W ∧ Ss W b l ∧ c < W.heap.size := by
    have q : Below w.heap.size w ((w.alloc (.cells Z.toArray 57)).setCells w.heap.size 0 C) := ((Below.refl _ w).alloc (Nat.le_refl _) _).trans (below_setCells (Nat.le_refl _) _ _ _)
    exact ⟨_, _, rfl, rfl, hnew.put C (by rw [lC, lZ]), q, H.below q, by rw [size_setCells]; simp⟩
  have hct := k3.count
  obtain ⟨n, en⟩ : ∃ n, l.length = n := ⟨_, rfl⟩
  rw [en] at hct hl
  have HN := hide hnew
  have HC := hide hC
  have HO := hide oC
  have HK := hide (And.intro (tC _ _ k1) k2)
  have HE := hide en
  rw [hc] at hW
  have hcl : w.heap.size ≤ c := Nat.le_of_eq hc
  clear hnew k1 k2 k3 hC oC tC H en hlt
  go_enter Try.func25, Try.ntmps25
  go_wp2_with (first | (refine wpList_loadR (op := ⟨some 12, _, _, _, _, _⟩) rfl 57 (.tmp 11) rfl rfl _ HC.out Try.underlying57 rfl (by rw [lC]; kernel_rfl) ?_) | (refine wpList_allocL (op := ⟨some 3, _, _, _, _, _⟩) rfl 57 rfl Z 137 hz ?_) | (refine wpList_storeR (op := ⟨none, _, _, _, _, _⟩) rfl 57 (.tmp 3) (.tmp 12) rfl rfl (vs := C) rfl HN.out (by rw [lC, lZ]) (by rw [lC]; kernel_rfl) HO.out ?_; rw [hc, hW]))
  clear hct hz hc hW HN HC
  refine (filling_any n _ (by omega)).mono ?_
  rintro e w1 ⟨rfl, hB1⟩
  have H1 := hide (HK.out.1.below hB1)
  have HB1 := hide (HK.out.2.trans (hB1.mono HK.out.2.size))
  clear hB1 HK hcW
  go_wp2_with fail
  refine (sadd_any ⟨(sfill n).toArray⟩ H1.out (by rw [← sb_length, sb_mk, sfill_length, HE.out]; omega)).mono ?_
  rintro e w2 ⟨rfl, hH2, hB2⟩
  rw [sb_mk] at hH2
  have hG : sst skc siv (l ++ sfill n) ((l ++ sfill n).length / 64) = sfin l := by rw [← HE.out]; rfl
  have r2 := hH2.nums
  rw [hG] at r2
  obtain ⟨G, eG⟩ : ∃ G, sfin l = G := ⟨_, rfl⟩
  have nG : G.length = 8 := eG ▸ sst_length siv_length _ _ _
  have lG : Lt G := eG ▸ sst_lt siv_length siv_lt _ _ _
  rw [eG] at r2
  have b2 : Below w.heap.size w w2 := HB1.out.trans (hB2.below hcl HB1.out.size)
  obtain ⟨T, eT⟩ : ∃ T, bs (List.replicate 32 0) = T := ⟨_, rfl⟩
  have hmk : ∀ w : World, (Instr.makeSlice 29 (.int .i64 0) (.int .i64 32)).run Try.prog w = .ok (.slice (some ⟨w.heap.size, 0, none⟩) 0 32) (w.alloc (.cells T.toArray 5)) := fun w => by rw [← eT]; kernel_rfl
  obtain ⟨g, W3, hg, hW3, q1, q2⟩ : ∃ g W, w2.heap.size = g ∧ w2.alloc (.cells T.toArray 5) = W ∧ Row W c 0 (us G) ∧ Dg w W g G 0 := by
    have k := Row.newL w2 T 5
    rw [← eT] at k ⊢
    exact ⟨_, _, rfl, rfl, r2.alloc _, k, b2.alloc b2.size _, b2.size⟩
  have HG := hide eG
  have HLG := hide lG
  have HR := hide q1
  have HD := hide q2
  clear hH2 hB2 hG r2 eG lG b2 q1 q2 H1 HB1 eT
  go_wp2_with (refine wpList_loadR (op := ⟨some 21, _, _, _, _, _⟩) rfl 52 (.tmp 20) rfl rfl _ HR.out Try.underlying52 rfl (by rw [us_length, nG]; kernel_rfl) ?_)
  clear hmk hg hW3 HR
  go_loopg [4, 6, 22] 8 (fun g9 v _ q wr => ∃ k : Nat, k + g9 = 8 ∧ q = .int .i64 k ∧ v = .slice (some ⟨g, 0, none⟩) (4 * k) 32 ∧ Dg w wr g G k)
  case atStart => exact ⟨0, rfl, rfl, rfl, HD.out⟩
  case round =>
    clear HD
    obtain ⟨k, hkg, rfl, rfl, hD⟩ := hrel
    by_cases hlt : k < 8
    · have hlt' : (k : Int) < 8 := by omega
      obtain ⟨g3, rfl⟩ : ∃ g3, gk = g3 + 1 := ⟨gk - 1, by omega⟩
      obtain ⟨x, ex⟩ : ∃ x, Bk.at' G k = x := ⟨_, rfl⟩
      have lx : x < 4294967296 := ex ▸ HLG.out k
      have hx : ∀ w, (Instr.index 52 (.agg (us G).toArray) (.int .i64 (k : Int))).run Try.prog w = .ok (.int .u32 (x : Int)) w := run_index_cell k Try.underlying52 hlt (by kernel_rfl) Try.underlying51 rfl (by have := us_get G k (by omega); rw [ex] at this; simpa using this)
      obtain ⟨y0, e0⟩ : ∃ y, x / 16777216 % 256 = y := ⟨_, rfl⟩
      obtain ⟨y1, e1⟩ : ∃ y, x / 65536 % 256 = y := ⟨_, rfl⟩
      obtain ⟨y2, e2⟩ : ∃ y, x / 256 % 256 = y := ⟨_, rfl⟩
      obtain ⟨y3, e3⟩ : ∃ y, x % 256 = y := ⟨_, rfl⟩
      obtain ⟨W4, hW4, q1, q2, q3⟩ := hD.next hlt ex e0 e1 e2 e3
      obtain ⟨W5, hW5, q3⟩ : ∃ W, W4.setCells g (0 + 4 * k) (bs (sfour x)) = W ∧ Dg w W g G (k + 1) := ⟨_, rfl, q3⟩
      obtain ⟨z0, f0⟩ : ∃ z, x / 16777216 = z := ⟨_, rfl⟩
      obtain ⟨z1, f1⟩ : ∃ z, x / 65536 = z := ⟨_, rfl⟩
      obtain ⟨z2, f2⟩ : ∃ z, x / 256 = z := ⟨_, rfl⟩
      rw [f0] at e0
      rw [f1] at e1
      rw [f2] at e2
      have i0 : (x : Int) / 16777216 = (z0 : Int) := by omega
      have i1 : (x : Int) / 65536 = (z1 : Int) := by omega
      have i2 : (x : Int) / 256 = (z2 : Int) := by omega
      have j0 : IntKind.u8.wrap (z0 : Int) = (y0 : Int) := by rw [IntKind.wrap_u8]; omega
      have j1 : IntKind.u8.wrap (z1 : Int) = (y1 : Int) := by rw [IntKind.wrap_u8]; omega
      have j2 : IntKind.u8.wrap (z2 : Int) = (y2 : Int) := by rw [IntKind.wrap_u8]; omega
      have j3 : IntKind.u8.wrap (x : Int) = (y3 : Int) := by rw [IntKind.wrap_u8]; omega
      have k0 : (z0 : Int) % 256 = (y0 : Int) := by omega
      have k1 : (z1 : Int) % 256 = (y1 : Int) := by omega
      have k2 : (z2 : Int) % 256 = (y2 : Int) := by omega
      have k3 : (x : Int) % 256 = (y3 : Int) := by omega
      have HQ1 := hide q1
      have HQ2 := hide q2
      have HQ3 := hide q3
      have hroom : 4 * k + 4 ≤ 32 := by omega
      clear hD q1 q2 q3 ex e0 e1 e2 e3 f0 f1 f2
      go_wp2_with (refine wpList_appendR (op := ⟨some 38, _, _, _, _, _⟩) rfl (.tmp 25) (.tmp 37) 29 29 rfl 5 Try.underlying29 (by kernel_rfl) rfl rfl HQ2.out hroom HQ1.out (by rw [bs_length, bs_length]; rfl) ?_; rw [hW5])
      go_roundg g3
      case measure => omega
      case rel => exact ⟨k + 1, by omega, by go_num, by rw [show 4 * (k + 1) = 4 * k + 4 by omega], HQ3.out⟩
    · obtain rfl : k = 8 := by omega
      have hl9 : (sdig G 8).length = 32 := sdig_length G 8
      have hr := hD.r
      rw [show List.replicate (32 - 4 * 8) (0 : UInt8) = [] from rfl, List.append_nil] at hr
      have hx := run_textR (P := Try.prog) wr 29 9 5 (c := 32) Try.underlying29 Try.underlying5 Try.underlying9 g 0 rfl hl9 hr.cell
      have HB := hide hD.be
      clear hD hr hl9
      go_wp2_with fail
      go_ret
      exact ⟨congrArg (fun z => Ending.returned (.string ⟨(sdig z 8).toArray⟩)) HG.out.symm, HB.out⟩

set_option maxRecDepth 100000 in
set_option maxHeartbeats 4000000 in
theorem ssum_any (s : ByteArray) (w : World) (hs : s.size < 1152921504606846976) : Calls Try.prog 18 #[.string s] w fun e w' => e = .returned (.string (sdg (sb s))) ∧ Below w.heap.size w w' := by
  go_enter Try.func18, Try.ntmps18
  go_wp2_with fail
  refine (snew_any _).mono ?_
  rintro e w1 ⟨b, rfl, hb, hH, hB⟩
  have HH := hide hH
  have HB := hide hB
  clear hH hB
  go_wp2_with fail
  refine (sadd_any s HH.out (by simp; omega)).mono ?_
  rintro e w2 ⟨rfl, hH2, hB2⟩
  rw [List.nil_append] at hH2
  have HH2 := hide hH2
  have HB2 := hide hB2
  clear hH2 hB2
  go_wp2_with fail
  refine (shsum_any HH2.out (by rw [sb_length]; omega)).mono ?_
  rintro e w3 ⟨rfl, hB3⟩
  have HB3 := hide hB3
  clear hB3
  go_wp2_with fail
  go_ret
  refine ⟨rfl, ?_⟩
  have q2 : Below w.heap.size w w2 := HB.out.trans (HB2.out.below hb HB.out.size)
  exact q2.trans (HB3.out.mono q2.size)

theorem shsum_nil (w : World) : Calls Try.prog 25 #[.pointer none] w fun e w' => e = .returned (.string (sdg [])) ∧ Below w.heap.size w w' := by
  go_enter Try.func25, Try.ntmps25
  go_wp2_with fail
  refine (ssum_any ⟨#[]⟩ _ (by decide)).mono ?_
  rintro e w1 ⟨rfl, hB⟩
  have HB := hide hB
  clear hB
  go_wp2_with fail
  go_ret
  exact ⟨rfl, HB.out⟩

end Go.Proofs.Ytdcmjmmfclhfbaa
