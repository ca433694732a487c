/- A block taken in, walked. For eight numbers of 32 bits, 64 more, a block of 64 bytes: the call returns what SMath says in memory of its own, and leaves what was there. -/
import Derived.Test.YtdcmjmmfclhfbaaSSpread
import Derived.Test.YtdcmjmmfclhfbaaBOps
namespace Go.Proofs.Ytdcmjmmfclhfbaa
open Go.RowKit Bk
set_option linter.unusedVariables false

theorem not_nat {x : Nat} (h : x < 4294967296) : 4294967295 ^^^ x = 4294967295 - x := by
  apply Nat.eq_of_testBit_eq
  intro i
  rw [show 4294967295 - x = 2 ^ 32 - (x + 1) by omega, Nat.testBit_two_pow_sub_succ (by omega), Nat.testBit_xor, show (4294967295 : Nat) = 2 ^ 32 - 1 by rfl, Nat.testBit_two_pow_sub_one]
  by_cases hi : i < 32
  · simp [hi]
  · have : x.testBit i = false := Nat.testBit_lt_two_pow (Nat.lt_of_lt_of_le h (Nat.pow_le_pow_right (show 2 > 0 by decide) (show 32 ≤ i by omega)))
    simp [hi, this]
theorem not_int {x : Nat} (h : x < 4294967296) : bits .xor .u32 4294967295 (x : Int) = ((4294967295 - x : Nat) : Int) := by
  rw [← not_nat h]; exact u32_xor_nat 4294967295 x (by decide) h
theorem eight {l : List Nat} (h : l.length = 8) : ∃ a b c d e f g i, l = [a, b, c, d, e, f, g, i] := by
  match l, h with
  | [a, b, c, d, e, f, g, i], _ => exact ⟨a, b, c, d, e, f, g, i, rfl⟩
theorem an_lt {a b : Nat} (h : a < 4294967296) : a &&& b < 4294967296 := Nat.lt_of_le_of_lt Nat.and_le_left h

structure Sf (w0 w : World) (h K v : List Nat) : Prop where
  s : Row w w0.heap.size 0 (us h)
  k : Row w (w0.heap.size + 1) 0 (us K)
  r : Row w (w0.heap.size + 1 + 1 + 1) 0 (us (List.replicate 8 0))
  v : Row w (w0.heap.size + 1 + 1 + 1 + 1) 0 (us v)
  be : Below w0.heap.size w0 w
theorem Sf.below {w0 w w' : World} {h K v : List Nat} (a : Sf w0 w h K v) (k : Below w.heap.size w w') : Sf w0 w' h K v :=
  ⟨a.s.below k a.s.lt, a.k.below k a.k.lt, a.r.below k a.r.lt, a.v.below k a.v.lt, a.be.trans (k.mono (Nat.le_of_lt a.s.lt))⟩
theorem Sf.drew {w0 w : World} {h K v : List Nat} (a : Sf w0 w h K v) : Sf w0 w.drew h K v := ⟨a.s.drew, a.k.drew, a.r.drew, a.v.drew, a.be.drew⟩
theorem Sf.setv {w0 w : World} {h K v : List Nat} (a : Sf w0 w h K v) (i x : Nat) (hi : i < v.length) : Sf w0 (w.setCell ⟨w0.heap.size + 1 + 1 + 1 + 1, i, none⟩ (.int .u32 (x : Int))) h K (v.set i x) := by
  refine ⟨a.s.other _ _ _ (.inl (by omega)), a.k.other _ _ _ (.inl (by omega)), a.r.other _ _ _ (.inl (by omega)), ?_, a.be.setCell (by simp; omega) _⟩
  rw [us_set]
  exact a.v.set0 (by rw [us_length]; exact hi) _
theorem Sf.seth {w0 w : World} {h K v : List Nat} (a : Sf w0 w h K v) (i x : Nat) (hi : i < h.length) : Sf w0 (w.setCell ⟨w0.heap.size, i, none⟩ (.int .u32 (x : Int))) (h.set i x) K v := by
  refine ⟨?_, a.k.other _ _ _ (.inl (by omega)), a.r.other _ _ _ (.inl (by omega)), a.v.other _ _ _ (.inl (by omega)), a.be.setCell (Nat.le_refl _) _⟩
  rw [us_set]
  exact a.s.set0 (by rw [us_length]; exact hi) _
theorem Sf.putv {w0 w : World} {h K v : List Nat} (a : Sf w0 w h K v) (u : List Nat) (hu : u.length = v.length) : Sf w0 (w.setCells (w0.heap.size + 1 + 1 + 1 + 1) 0 (us u)) h K u :=
  ⟨a.s.apart _ _ _ (.inl (by omega)), a.k.apart _ _ _ (.inl (by omega)), a.r.apart _ _ _ (.inl (by omega)), a.v.put _ (by rw [us_length, us_length, hu]), a.be.trans (below_setCells (by omega) _ _ _)⟩
/-- The numbers, one place up. -/
theorem Sf.up {w0 w : World} {h K : List Nat} {a b c d e f g i : Nat} (s : Sf w0 w h K [a, b, c, d, e, f, g, i]) : Sf w0 (w.setCells (w0.heap.size + 1 + 1 + 1 + 1) 1 (us [a, b, c, d, e, f, g])) h K [a, a, b, c, d, e, f, g] := by
  refine ⟨s.s.apart _ _ _ (.inl (by omega)), s.k.apart _ _ _ (.inl (by omega)), s.r.apart _ _ _ (.inl (by omega)), ?_, s.be.trans (below_setCells (by omega) _ _ _)⟩
  have k : Row w (w0.heap.size + 1 + 1 + 1 + 1) 0 (us [a] ++ us [b, c, d, e, f, g, i]) := s.v
  have k1 := k.left.apart (w0.heap.size + 1 + 1 + 1 + 1) 1 (us [a, b, c, d, e, f, g]) (.inr (.inl (by simp [us])))
  have k2 := k.right.put (us [a, b, c, d, e, f, g]) (by simp [us])
  exact k1.join k2

/-- The numbers behind the steps, k of eight taken into h. -/
def dupto (h v : List Nat) (k : Nat) : List Nat := tab 8 fun j => if j < k then ad (at' h j) (at' v j) else at' h j
theorem dupto_len (h v : List Nat) (k : Nat) : (dupto h v k).length = 8 := tab_length _ _
theorem dupto_zero (h v : List Nat) (h8 : h.length = 8) : dupto h v 0 = h := by
  have := at_tab h
  rw [h8] at this
  exact (tab_ext fun j hj => if_neg (by omega)).trans this
theorem dupto_at (h v : List Nat) (k : Nat) (hk : k < 8) : at' (dupto h v k) k = at' h k := by
  unfold dupto; rw [tab_at _ _ _ hk, if_neg (by omega)]
theorem dupto_succ (h v : List Nat) (k : Nat) (hk : k < 8) : dupto h v (k + 1) = (dupto h v k).set k (ad (at' h k) (at' v k)) := by
  apply at_ext (by rw [dupto_len, List.length_set, dupto_len])
  intro j hj
  rw [dupto_len] at hj
  rw [at_set _ _ _ _ (by rw [dupto_len]; exact hk)]
  unfold dupto
  rw [tab_at _ _ _ hj, tab_at _ _ _ hj]
  by_cases e : j = k
  · rw [if_pos (by omega), if_pos e, e]
  · rw [if_neg e]
    by_cases e2 : j < k
    · rw [if_pos e2, if_pos (by omega)]
    · rw [if_neg e2, if_neg (by omega)]
theorem dupto_all {h : List Nat} (h8 : h.length = 8) (K m : List Nat) : dupto h (srd K (swl m 48) h 64) 8 = scmp K h m := by
  apply at_ext (by rw [dupto_len, scmp_length h8])
  intro j hj
  rw [dupto_len] at hj
  rw [scmp_at h8 K m j hj]
  unfold dupto
  rw [tab_at _ _ _ hj, if_pos hj]


set_option maxRecDepth 100000 in
set_option maxHeartbeats 16000000 in
theorem safter_any (h K : List Nat) (l : List UInt8) (w : World) (h8 : h.length = 8) (lh : Lt h) (nK : K.length = 64) (lK : Lt K) (hl : l.length = 64) :
    Calls Try.prog 32 #[.agg (us h).toArray, .agg (us K).toArray, .agg (bs l).toArray] w fun e w' => e = .returned (.agg (us (scmp K h (bnums l))).toArray) ∧ Below w.heap.size w w' := by
  obtain ⟨W, eW⟩ : ∃ W, swl (bnums l) 48 = W := ⟨_, rfl⟩
  have nW : W.length = 64 := eW ▸ swl_length (bnums_length l) 48
  have lW : Lt W := eW ▸ swl_lt (bnums_length l) (bnums_lt l) 48
  have hF : dupto h (srd K W h 64) 8 = scmp K h (bnums l) := by rw [← eW]; exact dupto_all h8 K (bnums l)
  obtain ⟨W0, hW0, s0, s1, s2, s3, b0, z0⟩ : ∃ W0, (((w.alloc (.cells (us h).toArray 52)).alloc (.cells (us K).toArray 53)).alloc (.cells (bs l).toArray 54)).alloc (.cells #[.int .u32 0, .int .u32 0, .int .u32 0, .int .u32 0, .int .u32 0, .int .u32 0, .int .u32 0, .int .u32 0] 52) = W0 ∧ Row W0 w.heap.size 0 (us h) ∧ Row W0 (w.heap.size + 1) 0 (us K) ∧ Row W0 (w.heap.size + 1 + 1) 0 (bs l) ∧ Row W0 (w.heap.size + 1 + 1 + 1) 0 (us (List.replicate 8 0)) ∧ Below w.heap.size w W0 ∧ W0.heap.size = w.heap.size + 1 + 1 + 1 + 1 := by
    have b0 := (((((Below.refl _ w).alloc (Nat.le_refl _) (.cells (us h).toArray 52)).alloc (by simp) (.cells (us K).toArray 53))).alloc (by simp; omega) (.cells (bs l).toArray 54)).alloc (by simp; omega) (.cells #[.int .u32 0, .int .u32 0, .int .u32 0, .int .u32 0, .int .u32 0, .int .u32 0, .int .u32 0, .int .u32 0] 52)
    have s0 := (((Row.newL w (us h) 52).alloc (.cells (us K).toArray 53)).alloc (.cells (bs l).toArray 54)).alloc (.cells #[.int .u32 0, .int .u32 0, .int .u32 0, .int .u32 0, .int .u32 0, .int .u32 0, .int .u32 0, .int .u32 0] 52)
    have s1 := ((Row.newL (w.alloc (.cells (us h).toArray 52)) (us K) 53).alloc (.cells (bs l).toArray 54)).alloc (.cells #[.int .u32 0, .int .u32 0, .int .u32 0, .int .u32 0, .int .u32 0, .int .u32 0, .int .u32 0, .int .u32 0] 52)
    have s2 := (Row.newL ((w.alloc (.cells (us h).toArray 52)).alloc (.cells (us K).toArray 53)) (bs l) 54).alloc (.cells #[.int .u32 0, .int .u32 0, .int .u32 0, .int .u32 0, .int .u32 0, .int .u32 0, .int .u32 0, .int .u32 0] 52)
    have s3 := Row.new (((w.alloc (.cells (us h).toArray 52)).alloc (.cells (us K).toArray 53)).alloc (.cells (bs l).toArray 54)) #[.int .u32 0, .int .u32 0, .int .u32 0, .int .u32 0, .int .u32 0, .int .u32 0, .int .u32 0, .int .u32 0] 52
    simp only [World.size_alloc] at s1 s2 s3
    exact ⟨_, rfl, s0, s1, s2, s3, b0, by simp only [World.size_alloc]⟩
  obtain ⟨W1, hW1, c1, cb⟩ : ∃ W1, (W0.alloc (.cells #[.int .u32 0, .int .u32 0, .int .u32 0, .int .u32 0, .int .u32 0, .int .u32 0, .int .u32 0, .int .u32 0] 52)).setCells W0.heap.size 0 (us h) = W1 ∧ Sf w W1 h K h ∧ Row W1 (w.heap.size + 1 + 1) 0 (bs l) := by
    have r4 := Row.new W0 #[.int .u32 0, .int .u32 0, .int .u32 0, .int .u32 0, .int .u32 0, .int .u32 0, .int .u32 0, .int .u32 0] 52
    refine ⟨_, rfl, ⟨?_, ?_, ?_, ?_, ?_⟩, ?_⟩
    · exact (s0.alloc _).apart _ _ _ (.inl (by omega))
    · exact (s1.alloc _).apart _ _ _ (.inl (by omega))
    · exact (s3.alloc _).apart _ _ _ (.inl (by omega))
    · have r5 := r4.put (us h) (by rw [us_length, h8]; rfl)
      rwa [z0] at r5 ⊢
    · exact (b0.alloc (by omega) _).trans (below_setCells (by omega) _ _ _)
    · exact (s2.alloc _).apart _ _ _ (.inl (by omega))
  have r4 := Row.new W0 #[.int .u32 0, .int .u32 0, .int .u32 0, .int .u32 0, .int .u32 0, .int .u32 0, .int .u32 0, .int .u32 0] 52
  rw [z0] at hW1 r4
  have H0 := hide s0
  have HB0 := hide r4
  have H1 := hide c1
  have HB1 := hide cb
  have HF := hide hF
  have HW := hide eW
  have LW := hide lW
  have LK := hide lK
  have LH := hide lh
  clear s0 s1 s2 s3 b0 r4 c1 cb hF eW lW lK lh
  go_enter Try.func32, Try.ntmps32
  go_wp2_with (first
    | (refine wpList_loadR (op := ⟨some 21, _, _, _, _, _⟩) rfl 52 (.tmp 3) rfl rfl _ H0.out Try.underlying52 rfl (by rw [us_length, h8]; kernel_rfl) ?_)
    | (refine wpList_storeR (op := ⟨none, _, _, _, _, _⟩) rfl 52 (.tmp 7) (.tmp 21) rfl rfl (vs := us h) rfl HB0.out (by rw [us_length, h8]; rfl) (by rw [us_length, h8]; kernel_rfl) (fun v hv => us_one hv) ?_; rw [hW1])
    | (refine wpList_loadR (op := ⟨some 22, _, _, _, _, _⟩) rfl 54 (.tmp 5) rfl rfl _ HB1.out Try.underlying54 rfl (by rw [bs_length, hl]; kernel_rfl) ?_))
  refine (spread_any l _ hl).mono ?_
  rintro e w2 ⟨rfl, hB2⟩
  rw [HW.out]
  have ha2 := H1.out.below hB2
  have H2 := hide ha2
  clear hB2 ha2 H0 HB0 H1 HB1 hW0 hW1
  go_wp2_with fail
  go_loopg [8, 9, 10, 11, 12, 13, 14, 15, 16, 17, 18, 24] 64 (fun g _ _ _ _ _ _ _ _ _ _ _ q wr => ∃ k : Nat, k + g = 64 ∧ q = .int .i64 k ∧ Sf w wr h K (srd K W h k))
  case atStart => exact ⟨0, rfl, rfl, H2.out⟩
  case round =>
    clear H2
    obtain ⟨k, hkg, rfl, hA⟩ := hrel
    by_cases hlt : k < 64
    · have hlt' : (k : Int) < 64 := by omega
      obtain ⟨g3, rfl⟩ : ∃ g3, gk = g3 + 1 := ⟨gk - 1, by omega⟩
      have hS : srd K W h (k + 1) = ss1 (srd K W h k) (at' K k) (at' W k) := rfl
      have lV : Lt (srd K W h k) := srd_lt LH.out K W k
      obtain ⟨V, eV⟩ : ∃ V, srd K W h k = V := ⟨_, rfl⟩
      have nV : V.length = 8 := eV ▸ srd_length h8 K W k
      rw [eV] at hS lV hA
      obtain ⟨x0, x1, x2, x3, x4, x5, x6, x7, rfl⟩ := eight nV
      have hidx : ∀ w, (Instr.index 53 (.agg (us W).toArray) (.int .i64 (k : Int))).run Try.prog w = .ok (.int .u32 (Bk.at' W k : Nat)) w := run_index_cell k Try.underlying53 hlt (by kernel_rfl) Try.underlying51 rfl (by have := us_get W k (by rw [nW]; exact hlt); simpa using this)
      have ck := hA.k.u0 k (by rw [nK]; exact hlt)
      have c0 := hA.v.u0 0 (by simp)
      have c1 := hA.v.u0 1 (by simp)
      have c2 := hA.v.u0 2 (by simp)
      have c4 := hA.v.u0 4 (by simp)
      have c5 := hA.v.u0 5 (by simp)
      have c6 := hA.v.u0 6 (by simp)
      have c7 := hA.v.u0 7 (by simp)
      have m0 : Bk.at' [x0, x1, x2, x3, x4, x5, x6, x7] 0 = x0 := rfl
      have m1 : Bk.at' [x0, x1, x2, x3, x4, x5, x6, x7] 1 = x1 := rfl
      have m2 : Bk.at' [x0, x1, x2, x3, x4, x5, x6, x7] 2 = x2 := rfl
      have m4 : Bk.at' [x0, x1, x2, x3, x4, x5, x6, x7] 4 = x4 := rfl
      have m5 : Bk.at' [x0, x1, x2, x3, x4, x5, x6, x7] 5 = x5 := rfl
      have m6 : Bk.at' [x0, x1, x2, x3, x4, x5, x6, x7] 6 = x6 := rfl
      have m7 : Bk.at' [x0, x1, x2, x3, x4, x5, x6, x7] 7 = x7 := rfl
      have l0 : x0 < 4294967296 := lV 0
      have l1 : x1 < 4294967296 := lV 1
      have l2 : x2 < 4294967296 := lV 2
      have l4 : x4 < 4294967296 := lV 4
      have l5 : x5 < 4294967296 := lV 5
      have l6 : x6 < 4294967296 := lV 6
      rw [m0] at c0
      rw [m1] at c1
      rw [m2] at c2
      rw [m4] at c4
      rw [m5] at c5
      rw [m6] at c6
      rw [m7] at c7
      clear m0 m1 m2 m4 m5 m6 m7
      obtain ⟨kk, ekk⟩ : ∃ z, at' K k = z := ⟨_, rfl⟩
      obtain ⟨ww, eww⟩ : ∃ z, at' W k = z := ⟨_, rfl⟩
      rw [ekk] at ck hS
      rw [eww] at hS hidx
      have hS2 : ss1 [x0, x1, x2, x3, x4, x5, x6, x7] kk ww = [ad (sx x4 x5 x6 x7 kk ww) (sy x0 x1 x2), x0, x1, x2, ad x3 (sx x4 x5 x6 x7 kk ww), x4, x5, x6] := rfl
      rw [hS2] at hS
      clear hS2 lV nV
      obtain ⟨xx, exx⟩ : ∃ z, sx x4 x5 x6 x7 kk ww = z := ⟨_, rfl⟩
      obtain ⟨yy, eyy⟩ : ∃ z, sy x0 x1 x2 = z := ⟨_, rfl⟩
      rw [exx, eyy] at hS
      unfold sx sE sch at exx
      unfold sy sA smj at eyy
      obtain ⟨a6, ea6⟩ : ∃ z, tu 6 x4 = z := ⟨_, rfl⟩
      obtain ⟨a11, ea11⟩ : ∃ z, tu 11 x4 = z := ⟨_, rfl⟩
      obtain ⟨a25, ea25⟩ : ∃ z, tu 25 x4 = z := ⟨_, rfl⟩
      obtain ⟨b2, eb2⟩ : ∃ z, tu 2 x0 = z := ⟨_, rfl⟩
      obtain ⟨b13, eb13⟩ : ∃ z, tu 13 x0 = z := ⟨_, rfl⟩
      obtain ⟨b22, eb22⟩ : ∃ z, tu 22 x0 = z := ⟨_, rfl⟩
      have la6 : a6 < 4294967296 := ea6 ▸ tu_lt l4
      have la11 : a11 < 4294967296 := ea11 ▸ tu_lt l4
      have la25 : a25 < 4294967296 := ea25 ▸ tu_lt l4
      have lb2 : b2 < 4294967296 := eb2 ▸ tu_lt l0
      have lb13 : b13 < 4294967296 := eb13 ▸ tu_lt l0
      have lb22 : b22 < 4294967296 := eb22 ▸ tu_lt l0
      rw [ea6, ea11, ea25] at exx
      rw [eb2, eb13, eb22] at eyy
      have r1 := xr_int la6 la11
      have lo1 := xr_lt la6 la11
      obtain ⟨o1, eo1⟩ : ∃ z, a6 ^^^ a11 = z := ⟨_, rfl⟩
      rw [eo1] at r1 exx lo1
      have r2 := xr_int lo1 la25
      obtain ⟨o2, eo2⟩ : ∃ z, o1 ^^^ a25 = z := ⟨_, rfl⟩
      rw [eo2] at r2 exx
      have r3 := ad_wrap x7 o2
      obtain ⟨p1, ep1⟩ : ∃ z, ad x7 o2 = z := ⟨_, rfl⟩
      rw [ep1] at r3 exx
      have r4 := an_int l4 l5
      have ln1 := an_lt (b := x5) l4
      obtain ⟨n1, en1⟩ : ∃ z, x4 &&& x5 = z := ⟨_, rfl⟩
      rw [en1] at r4 exx ln1
      have r5 := not_int l4
      have lno : 4294967295 - x4 < 4294967296 := Nat.lt_of_le_of_lt (Nat.sub_le _ _) (by decide)
      obtain ⟨no, eno⟩ : ∃ z, 4294967295 - x4 = z := ⟨_, rfl⟩
      rw [eno] at r5 exx lno
      have r6 := an_int lno l6
      have ln2 := an_lt (b := x6) lno
      obtain ⟨n2, en2⟩ : ∃ z, no &&& x6 = z := ⟨_, rfl⟩
      rw [en2] at r6 exx ln2
      have r7 := xr_int ln1 ln2
      obtain ⟨ch, ech⟩ : ∃ z, n1 ^^^ n2 = z := ⟨_, rfl⟩
      rw [ech] at r7 exx
      have r8 := ad_wrap p1 ch
      obtain ⟨p2, ep2⟩ : ∃ z, ad p1 ch = z := ⟨_, rfl⟩
      rw [ep2] at r8 exx
      have r9 := ad_wrap p2 kk
      obtain ⟨p3, ep3⟩ : ∃ z, ad p2 kk = z := ⟨_, rfl⟩
      rw [ep3] at r9 exx
      have r10 := ad_wrap p3 ww
      rw [exx] at r10
      have s1 := xr_int lb2 lb13
      have lq1 := xr_lt lb2 lb13
      obtain ⟨q1, eq1⟩ : ∃ z, b2 ^^^ b13 = z := ⟨_, rfl⟩
      rw [eq1] at s1 eyy lq1
      have s2 := xr_int lq1 lb22
      obtain ⟨q2, eq2⟩ : ∃ z, q1 ^^^ b22 = z := ⟨_, rfl⟩
      rw [eq2] at s2 eyy
      have s3 := an_int l0 l1
      have lm1 := an_lt (b := x1) l0
      obtain ⟨j1, ej1⟩ : ∃ z, x0 &&& x1 = z := ⟨_, rfl⟩
      rw [ej1] at s3 eyy lm1
      have s4 := an_int l0 l2
      have lm2 := an_lt (b := x2) l0
      obtain ⟨j2, ej2⟩ : ∃ z, x0 &&& x2 = z := ⟨_, rfl⟩
      rw [ej2] at s4 eyy lm2
      have s5 := an_int l1 l2
      have lm3 := an_lt (b := x2) l1
      obtain ⟨j3, ej3⟩ : ∃ z, x1 &&& x2 = z := ⟨_, rfl⟩
      rw [ej3] at s5 eyy lm3
      have s6 := xr_int lm1 lm2
      have lj4 := xr_lt lm1 lm2
      obtain ⟨j4, ej4⟩ : ∃ z, j1 ^^^ j2 = z := ⟨_, rfl⟩
      rw [ej4] at s6 eyy lj4
      have s7 := xr_int lj4 lm3
      obtain ⟨j5, ej5⟩ : ∃ z, j4 ^^^ j3 = z := ⟨_, rfl⟩
      rw [ej5] at s7 eyy
      have s8 := ad_wrap q2 j5
      rw [eyy] at s8
      have s8' := ad_int q2 j5
      rw [eyy] at s8'
      have v1 := ad_wrap xx yy
      have v1' := ad_int xx yy
      obtain ⟨z0, ez0⟩ : ∃ z, ad xx yy = z := ⟨_, rfl⟩
      rw [ez0] at v1 v1' hS
      have v2 := ad_wrap x3 xx
      have v2' := ad_int x3 xx
      obtain ⟨z4, ez4⟩ : ∃ z, ad x3 xx = z := ⟨_, rfl⟩
      rw [ez4] at v2 v2' hS
      have HS := hide hS
      have L0 := hide l0
      have L4 := hide l4
      have E6 := hide ea6
      have E11 := hide ea11
      have E25 := hide ea25
      have E2 := hide eb2
      have E13 := hide eb13
      have E22 := hide eb22
      have HA := hide hA
      clear hS eV l0 l1 l2 l4 l5 l6 ekk eww exx eyy ea6 ea11 ea25 eb2 eb13 eb22 la6 la11 la25 lb2 lb13 lb22 lo1 eo1 eo2 ep1 ln1 en1 lno eno ln2 en2 ech ep2 ep3 lq1 eq1 eq2 lm1 ej1 lm2 ej2 lm3 ej3 lj4 ej4 ej5 ez0 ez4 hA
      have sg : IntKind.u32.signed = false := rfl
      have mx' : IntKind.u32.max = 4294967295 := by decide
      go_wp2_with fail
      refine wp_region_still_tail 8 (by kernel_rfl) (by kernel_rfl) ?_
      simp only [List.take_succ_cons, List.take_zero, List.drop_succ_cons, List.drop_zero]
      repeat still_step
      refine wpStill_nil ?_
      go_wp2_with fail
      clear c0 c1 c2
      generalize hX : ({ heap := wr.heap, tape := wr.tape, drawn := wr.drawn + 1, os := wr.os, output := wr.output } : World) = Wa
      have hd : wr.drew = Wa := hX
      replace c4 : Wa.cell? ⟨w.heap.size + 1 + 1 + 1 + 1, 4, none⟩ = some (.int .u32 (x4 : Int)) := by rw [← hd]; exact c4
      replace c5 : Wa.cell? ⟨w.heap.size + 1 + 1 + 1 + 1, 5, none⟩ = some (.int .u32 (x5 : Int)) := by rw [← hd]; exact c5
      replace c6 : Wa.cell? ⟨w.heap.size + 1 + 1 + 1 + 1, 6, none⟩ = some (.int .u32 (x6 : Int)) := by rw [← hd]; exact c6
      replace c7 : Wa.cell? ⟨w.heap.size + 1 + 1 + 1 + 1, 7, none⟩ = some (.int .u32 (x7 : Int)) := by rw [← hd]; exact c7
      replace ck : Wa.cell? ⟨w.heap.size + 1, k, none⟩ = some (.int .u32 (kk : Int)) := by rw [← hd]; exact ck
      replace HA : Hid (Sf w Wa h K [x0, x1, x2, x3, x4, x5, x6, x7]) := by rw [← hd]; exact HA.out.drew
      clear hX hd
      refine wp_region_still_tail 11 (by kernel_rfl) (by kernel_rfl) ?_
      simp only [List.take_succ_cons, List.take_zero, List.drop_succ_cons, List.drop_zero]
      repeat still_step
      refine wpStill_nil ?_
      go_wp2_with fail
      clear c4 c5 c6 c7
      generalize hX : ({ heap := Wa.heap, tape := Wa.tape, drawn := Wa.drawn + 1, os := Wa.os, output := Wa.output } : World) = Wb
      have hd : Wa.drew = Wb := hX
      replace ck : Wb.cell? ⟨w.heap.size + 1, k, none⟩ = some (.int .u32 (kk : Int)) := by rw [← hd]; exact ck
      replace HA : Hid (Sf w Wb h K [x0, x1, x2, x3, x4, x5, x6, x7]) := by rw [← hd]; exact HA.out.drew
      clear hX hd
      refine wp_region_still_tail 25 (by kernel_rfl) (by kernel_rfl) ?_
      simp only [List.take_succ_cons, List.take_zero, List.drop_succ_cons, List.drop_zero]
      repeat still_step
      still_call (sturn6e _ L4.out E6.out)
      repeat still_step
      still_call (sturn11e _ L4.out E11.out)
      repeat still_step
      still_call (sturn25e _ L4.out E25.out)
      repeat still_step
      refine wpStill_nil ?_
      clear r1 r2 r3 r4 r5 r6 r7 r8 r9 r10 ck
      go_wp2_with fail
      obtain ⟨Wc, hWc, HC⟩ : ∃ z, Wb.drew = z ∧ Hid (Sf w z h K [x0, x1, x2, x3, x4, x5, x6, x7]) := ⟨_, rfl, HA.out.drew⟩
      rw [hWc]
      clear hWc HA
      refine (sturn2e _ L0.out E2.out).mono ?_
      rintro e w3 ⟨rfl, hw3⟩
      obtain rfl := hw3.symm
      go_wp2_with fail
      refine (sturn13e _ L0.out E13.out).mono ?_
      rintro e w3 ⟨rfl, hw3⟩
      obtain rfl := hw3.symm
      go_wp2_with fail
      refine (sturn22e _ L0.out E22.out).mono ?_
      rintro e w3 ⟨rfl, hw3⟩
      obtain rfl := hw3.symm
      go_wp2_with fail
      clear s1 s2 s3 s4 s5 s6 s7 s8 s8'
      refine wp_region_still_tail 2 (by kernel_rfl) (by kernel_rfl) ?_
      simp only [List.take_succ_cons, List.take_zero, List.drop_succ_cons, List.drop_zero]
      repeat still_step
      refine wpStill_nil ?_
      generalize hX : ({ heap := Wc.heap, tape := Wc.tape, drawn := Wc.drawn + 1, os := Wc.os, output := Wc.output } : World) = Wd
      have hd : Wc.drew = Wd := hX
      have HD : Hid (Sf w Wd h K [x0, x1, x2, x3, x4, x5, x6, x7]) := by rw [← hd]; exact HC.out.drew
      clear hX hd HC
      have dsrc : Src Try.prog 1 76 (.slice (some ⟨w.heap.size + 1 + 1 + 1 + 1, 0, none⟩) 7 8) 7 (us [x0, x1, x2, x3, x4, x5, x6]) Wd := by
        refine Src.ofSlice Wd Try.underlying76 ⟨w.heap.size + 1 + 1 + 1 + 1, 0, none⟩ 7 8 _ (by simp [us]) (fun q u hq => ?_) (fun u hu => us_one hu)
        rw [Addr.add_mid]
        have k9 : Row Wd (w.heap.size + 1 + 1 + 1 + 1) 0 (us [x0, x1, x2, x3, x4, x5, x6] ++ us [x7]) := HD.out.v
        exact k9.left.cell q u hq
      have dtop : Row Wd (w.heap.size + 1 + 1 + 1 + 1) 1 (us [x1, x2, x3, x4, x5, x6, x7]) := by
        have k9 : Row Wd (w.heap.size + 1 + 1 + 1 + 1) 0 (us [x0] ++ us [x1, x2, x3, x4, x5, x6, x7]) := HD.out.v
        exact k9.right
      have HE := hide HD.out.up
      refine wpList_copyR (op := ⟨some 89, _, _, _, _, _⟩) rfl (.tmp 87) (.tmp 88) 76 76 rfl 51 Try.underlying76 (by kernel_rfl) rfl rfl dsrc (by decide) dtop (by simp [us]) ?_
      clear dsrc dtop HD
      obtain ⟨We, hWe, HE⟩ : ∃ z, Wd.setCells (w.heap.size + 1 + 1 + 1 + 1) 1 (us [x0, x1, x2, x3, x4, x5, x6]) = z ∧ Hid (Sf w z h K [x0, x0, x1, x2, x3, x4, x5, x6]) := ⟨_, rfl, HE⟩
      rw [hWe]
      clear hWe
      have g0 := HE.out.v.u0 0 (by simp)
      have f0 := HE.out.v.f0 0 (by simp [us])
      obtain ⟨Wf, hWf, HF1⟩ : ∃ z, We.setCell ⟨w.heap.size + 1 + 1 + 1 + 1, 0, none⟩ (.int .u32 (z0 : Int)) = z ∧ Hid (Sf w z h K [z0, x0, x1, x2, x3, x4, x5, x6]) := ⟨_, rfl, hide (HE.out.setv 0 z0 (by simp))⟩
      have g4 : Wf.cell? ⟨w.heap.size + 1 + 1 + 1 + 1, 4, none⟩ = some (.int .u32 (x3 : Int)) := HF1.out.v.u0 4 (by simp)
      have f4 := HF1.out.v.f0 4 (by simp [us])
      obtain ⟨Wg, hWg, HG⟩ : ∃ z, Wf.setCell ⟨w.heap.size + 1 + 1 + 1 + 1, 4, none⟩ (.int .u32 (z4 : Int)) = z ∧ Hid (Sf w z h K (srd K W h (k + 1))) := ⟨_, rfl, hide (by rw [HS.out]; exact HF1.out.setv 4 z4 (by simp))⟩
      clear HE HF1
      go_wp2_with fail
      go_roundg g3
      case measure => omega
      case rel => exact ⟨k + 1, by omega, by go_num, HG.out⟩
    · obtain rfl : k = 64 := by omega
      have lR : Lt (srd K W h 64) := srd_lt LH.out K W 64
      obtain ⟨R, eR⟩ : ∃ R, srd K W h 64 = R := ⟨_, rfl⟩
      have nR : R.length = 8 := eR ▸ srd_length h8 K W 64
      have HF := HF
      rw [eR] at hA HF lR
      have HA := hide hA
      clear hA eR lR
      go_wp2_with (refine wpList_loadR (op := ⟨some 100, _, _, _, _, _⟩) rfl 52 (.tmp 7) rfl rfl _ HA.out.v Try.underlying52 rfl (by rw [us_length, nR]; kernel_rfl) ?_)
      go_loopg [19, 20, 101] 8 (fun g _ _ q wr => ∃ k : Nat, k + g = 8 ∧ q = .int .i64 k ∧ Sf w wr (dupto h R k) K R)
      case atStart => exact ⟨0, rfl, rfl, by rw [dupto_zero h R h8]; exact HA.out⟩
      case round =>
        clear HA
        obtain ⟨k, hkg, rfl, hA⟩ := hrel
        by_cases hk : k < 8
        · have hk' : (k : Int) < 8 := by omega
          obtain ⟨g4, rfl⟩ : ∃ g4, gk = g4 + 1 := ⟨gk - 1, by omega⟩
          have hx : ∀ w, (Instr.index 52 (.agg (us R).toArray) (.int .i64 (k : Int))).run Try.prog w = .ok (.int .u32 (Bk.at' R k : Nat)) w := run_index_cell k Try.underlying52 hk (by kernel_rfl) Try.underlying51 rfl (by have := us_get R k (by rw [nR]; exact hk); simpa using this)
          have c0 := hA.s.u0 k (by rw [dupto_len]; exact hk)
          rw [dupto_at h R k hk] at c0
          have f0 := hA.s.f0 k (by rw [us_length, dupto_len]; exact hk)
          have r1 := ad_wrap (at' h k) (at' R k)
          have r1' := ad_int (at' h k) (at' R k)
          have a2 := hA.seth k (ad (at' h k) (at' R k)) (by rw [dupto_len]; exact hk)
          rw [← dupto_succ h R k hk] at a2
          obtain ⟨y0, ey0⟩ : ∃ z, at' h k = z := ⟨_, rfl⟩
          obtain ⟨y1, ey1⟩ : ∃ z, at' R k = z := ⟨_, rfl⟩
          obtain ⟨y2, ey2⟩ : ∃ z, ad y0 y1 = z := ⟨_, rfl⟩
          rw [ey1] at hx
          rw [ey0, ey1, ey2] at r1 r1' a2
          rw [ey0] at c0
          have H2 := hide a2
          clear hA a2 ey0 ey1 ey2
          go_wp2_with fail
          go_roundg g4
          case measure => omega
          case rel => exact ⟨k + 1, by omega, by go_num, H2.out⟩
        · obtain rfl : k = 8 := by omega
          rw [HF.out] at hA
          obtain ⟨D, eD⟩ : ∃ D, scmp K h (bnums l) = D := ⟨_, rfl⟩
          have nD : D.length = 8 := eD ▸ scmp_length h8 _ _
          rw [eD] at hA
          have HA := hide hA
          have HD := hide eD
          clear hA eD
          go_wp2_with (first
            | (refine wpList_loadR (op := ⟨some 112, _, _, _, _, _⟩) rfl 52 (.tmp 3) rfl rfl _ HA.out.s Try.underlying52 rfl (by rw [us_length, nD]; kernel_rfl) ?_)
            | (refine wpList_storeR (op := ⟨none, _, _, _, _, _⟩) rfl 52 (.tmp 6) (.tmp 112) rfl rfl (vs := us D) rfl HA.out.r (by rw [us_length, us_length, nD, List.length_replicate]) (by rw [us_length, nD]; kernel_rfl) (fun v hv => us_one hv) ?_))
          refine spost_row _ (HA.out.r.put (us D) (by rw [us_length, us_length, nD, List.length_replicate])) rfl rfl Try.underlying52 rfl (by rw [us_length, nD]; kernel_rfl) rfl ?_
          refine ⟨?_, HA.out.be.trans (below_setCells (by omega) _ _ _)⟩
          exact congrArg (fun z => Ending.returned (.agg (us z).toArray)) HD.out.symm
end Go.Proofs.Ytdcmjmmfclhfbaa

