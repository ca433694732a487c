/- For any key and any blocks the statement AesAgain returns true and its arguments read as before. No condition. -/
import Derived.Test.YtllhnbnddcghoaaATxt
namespace Go.Proofs.Ytllhnbnddcghoaa
open Go.ChangeShapes Go.WideShapes Go.ChangeAt Go.RowKit Bk
open Go.ChangeMaps (open_string shut_string)
set_option linter.unusedVariables false
set_option linter.unusedSimpArgs false

/-- What lies in memory: two ciphers, the blocks, a row of the frame's own from block B on. -/
structure Ma (w0 w : World) (b d B : Nat) (K : ByteArray) (sa : Option Addr) (n : Nat) (F : Nat → ByteArray) (v : Value) (m : Nat) (xs : List Value) : Prop where
  cc : Row w b 0 (bs (ciB (kw K)))
  dd : Row w d 0 (bs (ciB (kw K)))
  tt : Tx w sa n F
  own : Ow w B v m xs
  be : Below w0.heap.size w0 w
  hb : b < B
  hd : d < B
  hB : B ≤ w.heap.size
  h0 : w0.heap.size ≤ B
theorem Ma.below {w0 w w' : World} {b d B : Nat} {K : ByteArray} {sa : Option Addr} {n : Nat} {F : Nat → ByteArray} {v : Value} {m : Nat} {xs : List Value} (h : Ma w0 w b d B K sa n F v m xs) (k : Below w.heap.size w w') : Ma w0 w' b d B K sa n F v m xs :=
  ⟨h.cc.below k h.cc.lt, h.dd.below k h.dd.lt, h.tt.below k, h.own.keep k, h.be.trans (k.mono h.be.size), h.hb, h.hd, Nat.le_trans h.hB k.size, h.h0⟩
theorem Ma.grown {w0 w w' : World} {b d B : Nat} {K : ByteArray} {sa : Option Addr} {n : Nat} {F : Nat → ByteArray} {v v' : Value} {m m' : Nat} {xs xs' : List Value} (h : Ma w0 w b d B K sa n F v m xs) (ht : Tx w0 sa n F) (o : Ow w' B v' m' xs') (k : Below B w w') : Ma w0 w' b d B K sa n F v' m' xs' :=
  ⟨h.cc.below k h.hb, h.dd.below k h.hd, ht.below (h.be.trans (k.mono h.h0)), o, h.be.trans (k.mono h.h0), h.hb, h.hd, Nat.le_trans h.hB k.size, h.h0⟩

set_option maxRecDepth 100000 in
set_option maxHeartbeats 16000000 in
theorem aesAgain_key (K : ByteArray) (sa : Option Addr) (n c : Nat) (w : World) (hk : K.size ≠ 32) : Calls Try.prog 6 #[.string K, .slice sa n c] w fun e w' => e = .returned (.bool true) ∧ Below w.heap.size w w' := by
  have hK := hide hk
  clear hk
  go_enter Try.func6, Try.ntmps6
  have HS0 := hide (Below.refl w.heap.size w)
  go_wp2_with fail
  refine (aNew_bad K _ hK.out).mono ?_
  rintro e w1 ⟨rfl, hw⟩
  obtain rfl := hw.symm
  go_wp2_with fail
  refine (aNew_bad K _ hK.out).mono ?_
  rintro e w2 ⟨rfl, hw⟩
  obtain rfl := hw.symm
  go_wp2_with fail
  refine (works_any _).mono ?_
  rintro e w3 ⟨rfl, hB⟩
  have HS3 := hide (show Below w.heap.size w w3 from HS0.out.trans (hB.mono HS0.out.size))
  clear HS0 hB
  go_wp2_with fail
  refine (works_any _).mono ?_
  rintro e w4 ⟨rfl, hB⟩
  have HS4 := hide (show Below w.heap.size w w4 from HS3.out.trans (hB.mono HS3.out.size))
  clear HS3 hB
  go_wp2_with fail
  go_ret
  exact ⟨rfl, HS4.out⟩

set_option maxRecDepth 100000 in
set_option maxHeartbeats 16000000 in
theorem aesAgain_long (K : ByteArray) (sa : Option Addr) (n c : Nat) (w : World) (hk : K.size = 32) (hn : 30 < n) : Calls Try.prog 6 #[.string K, .slice sa n c] w fun e w' => e = .returned (.bool true) ∧ Below w.heap.size w w' := by
  have hK := hide hk
  have hl : (30 : Int) < (n : Int) := by omega
  clear hk hn
  go_enter Try.func6, Try.ntmps6
  have HS0 := hide (Below.refl w.heap.size w)
  go_wp2_with fail
  refine (new_c K _ hK.out).mono ?_
  rintro e w1 ⟨b, rfl, hR, hb, hB⟩
  have HS1 := hide (show Below w.heap.size w w1 ∧ Row w1 b 0 (bs (ciB (kw K))) from ⟨HS0.out.trans (hB.mono HS0.out.size), hR⟩)
  clear HS0 hB hR hb
  go_wp2_with fail
  refine (new_c K _ hK.out).mono ?_
  rintro e w2 ⟨d, rfl, hR, hb, hB⟩
  have HS2 := hide (show Below w.heap.size w w2 ∧ Row w2 b 0 (bs (ciB (kw K))) ∧ Row w2 d 0 (bs (ciB (kw K))) from ⟨HS1.out.1.trans (hB.mono HS1.out.1.size), HS1.out.2.below hB HS1.out.2.lt, hR⟩)
  clear HS1 hB hR hb
  go_wp2_with fail
  refine (works_any _).mono ?_
  rintro e w3 ⟨rfl, hB⟩
  have HS3 := hide (show Below w.heap.size w w3 ∧ Row w3 b 0 (bs (ciB (kw K))) ∧ Row w3 d 0 (bs (ciB (kw K))) from ⟨HS2.out.1.trans (hB.mono HS2.out.1.size), HS2.out.2.1.below hB HS2.out.2.1.lt, HS2.out.2.2.below hB HS2.out.2.2.lt⟩)
  clear HS2 hB
  go_wp2_with fail
  refine (works_any _).mono ?_
  rintro e w4 ⟨rfl, hB⟩
  have HS4 := hide (show Below w.heap.size w w4 ∧ Row w4 b 0 (bs (ciB (kw K))) ∧ Row w4 d 0 (bs (ciB (kw K))) from ⟨HS3.out.1.trans (hB.mono HS3.out.1.size), HS3.out.2.1.below hB HS3.out.2.1.lt, HS3.out.2.2.below hB HS3.out.2.2.lt⟩)
  clear HS3 hB
  go_wp2_with fail
  go_ret
  exact ⟨rfl, HS4.out.1⟩

set_option maxRecDepth 100000 in
set_option maxHeartbeats 16000000 in
theorem aesAgain_ok (K : ByteArray) (sa : Option Addr) (n c : Nat) (F : Nat → ByteArray) (w : World) (hk : K.size = 32) (hn : n ≤ 30) (ht : Tx w sa n F) : Calls Try.prog 6 #[.string K, .slice sa n c] w fun e w' => e = .returned (.bool true) ∧ Below w.heap.size w w' := by
  have hK := hide hk
  have hl : ¬ ((30 : Int) < (n : Int)) := by omega
  have HN := hide hn
  have HT := hide ht
  clear hk hn ht
  go_enter Try.func6, Try.ntmps6
  have HS0 := hide (Below.refl w.heap.size w)
  go_wp2_with fail
  refine (new_c K _ hK.out).mono ?_
  rintro e w1 ⟨b, rfl, hR, hb, hB⟩
  have HS1 := hide (show Below w.heap.size w w1 ∧ Row w1 b 0 (bs (ciB (kw K))) from ⟨HS0.out.trans (hB.mono HS0.out.size), hR⟩)
  clear HS0 hB hR hb
  go_wp2_with fail
  refine (new_c K _ hK.out).mono ?_
  rintro e w2 ⟨d, rfl, hR, hb, hB⟩
  have HS2 := hide (show Below w.heap.size w w2 ∧ Row w2 b 0 (bs (ciB (kw K))) ∧ Row w2 d 0 (bs (ciB (kw K))) from ⟨HS1.out.1.trans (hB.mono HS1.out.1.size), HS1.out.2.below hB HS1.out.2.lt, hR⟩)
  clear HS1 hB hR hb
  go_wp2_with fail
  refine (works_any _).mono ?_
  rintro e w3 ⟨rfl, hB⟩
  have HS3 := hide (show Below w.heap.size w w3 ∧ Row w3 b 0 (bs (ciB (kw K))) ∧ Row w3 d 0 (bs (ciB (kw K))) from ⟨HS2.out.1.trans (hB.mono HS2.out.1.size), HS2.out.2.1.below hB HS2.out.2.1.lt, HS2.out.2.2.below hB HS2.out.2.2.lt⟩)
  clear HS2 hB
  have HM := hide (show Ma w w3 b d w3.heap.size K sa n F (.slice none 0 0) 0 (ts (fun j => eb K (F j)) 0) from
    ⟨HS3.out.2.1, HS3.out.2.2, HT.out.below HS3.out.1, Ow.nil _ _, HS3.out.1, HS3.out.2.1.lt, HS3.out.2.2.lt, Nat.le_refl _, HS3.out.1.size⟩)
  clear HS3
  go_wp2_with fail
  clear hl
  go_loopg [9, 10, 11, 12] n (fun g v q _ _ wr => ∃ k : Nat, k + g = n ∧ q = .int .i64 k ∧ Ma w wr b d w3.heap.size K sa n F v k (ts (fun j => eb K (F j)) k))
  case atStart => exact ⟨0, by omega, rfl, HM.out⟩
  case round =>
    clear HM
    obtain ⟨k, hkg, rfl, hM⟩ := hrel
    by_cases hlt : k < n
    · have hlt' : (k : Int) < (n : Int) := by omega
      obtain ⟨g3, rfl⟩ : ∃ g3, gk = g3 + 1 := ⟨gk - 1, by omega⟩
      obtain ⟨tb, to, rfl, htb, c1⟩ := hM.tt.at' hlt
      obtain ⟨va, vc, rfl, hvc⟩ := hM.own.shape
      obtain ⟨X, eX⟩ : ∃ z, F k = z := ⟨_, rfl⟩
      obtain ⟨Y, eY⟩ : ∃ z, eb K (F k) = z := ⟨_, rfl⟩
      have hXY : eb K X = Y := by rw [← eX, ← eY]
      rw [eX] at c1
      have HM := hide hM
      have HX := hide (And.intro hXY eY)
      clear hM hXY eX eY htb hvc
      go_wp2_with fail
      refine (encE_c K X _ b hK.out HM.out.cc).mono ?_
      rintro e w4 ⟨rfl, hB⟩
      rw [HX.out.1]
      have HM3 := hide (HM.out.below hB)
      have HM4 := hide (HM3.out.below ((Below.refl w4.heap.size w4).alloc (Nat.le_refl _) (.cells #[.string Y] 9)))
      clear hB HM c1
      go_wp2_with (refine wpList_appendO rfl (.tmp 66) (.tmp 68) 30 30 rfl 9 Try.underlying30 infoSt (by decide) rfl (B := w3.heap.size) (n := k) (m := 1) (xs := ts (fun j => eb K (F j)) k) (news := [.string Y]) rfl rfl HM4.out.own ((Row.newL w4 [.string Y] 9).src (n := 1) (cap := 1) rfl Try.underlying30 (fun u hu => by simp at hu; subst hu; rfl)) (by have := HN.out; omega) HM4.out.hB (fun u hu => ts_one hu) ?_
                   intro v5 w5 hO5 hB5
                   have HM5 := hide (HM4.out.grown HT.out hO5 hB5)
                   clear hO5 hB5)
      go_roundg g3
      case measure => omega
      case rel => exact ⟨k + 1, by omega, by go_num, by rw [ts_succ, HX.out.2]; exact HM5.out⟩
    · obtain rfl : k = n := by omega
      have HM := hide hM
      have v0 := IntWalk.i64_in ((k : Int) - 1) (by have := HN.out; omega)
      clear hM
      go_wp2_with fail
      clear v0
      go_loopg [13, 14, 15, 16, 17, 18, 19] k (fun g q _ _ _ _ _ _ wr => ∃ j : Nat, j = g ∧ q = .int .i64 ((j : Int) - 1) ∧ j ≤ k ∧ Ma w wr b d w3.heap.size K sa k F u9 k (ts (fun j => eb K (F j)) k))
      case atStart => exact ⟨k, rfl, rfl, Nat.le_refl _, HM.out⟩
      case round =>
        clear HM
        obtain ⟨j, hjg, rfl, hjk, hM⟩ := hrel
        by_cases hj : 0 < j
        · obtain ⟨i, rfl⟩ : ∃ i, j = i + 1 := ⟨j - 1, by omega⟩
          obtain ⟨g4, rfl⟩ : ∃ g4, gk = g4 + 1 := ⟨gk - 1, by omega⟩
          have eI : ((i + 1 : Nat) : Int) - 1 = (i : Int) := by omega
          rw [eI]
          have hik : i < k := by omega
          have hi0 : (0 : Int) ≤ (i : Int) := by omega
          have hi1 : (i : Int) < (k : Int) := by omega
          have hi2 := IntWalk.i64_in ((i : Int) - 1) (by have := HN.out; omega)
          obtain ⟨tb, to, rfl, htb, _⟩ := hM.tt.at' hik
          obtain ⟨gb, cap, rfl, hg, hc, hR⟩ := hM.own.row (by omega)
          obtain ⟨X, eX⟩ : ∃ z, F i = z := ⟨_, rfl⟩
          obtain ⟨Y, eY⟩ : ∃ z, eb K (F i) = z := ⟨_, rfl⟩
          obtain ⟨Z, eZ⟩ : ∃ z, db K Y = z := ⟨_, rfl⟩
          have hXY : eb K X = Y := by rw [← eX, ← eY]
          have cells : ∀ wx : World, Below wr.heap.size wr wx → wx.cell? ⟨tb, to + i, none⟩ = some (.string X) ∧ wx.cell? ⟨gb, i, none⟩ = some (.string Y) := fun wx hB => by
            obtain ⟨tb', to', ht', _, h1⟩ := (hM.tt.below hB).at' hik
            obtain ⟨rfl, rfl⟩ : tb = tb' ∧ to = to' := by simpa using ht'
            have h2 := (hR.below hB hR.lt).at' (ts_at (fun j => eb K (F j)) k i hik)
            rw [Nat.zero_add] at h2
            rw [eX] at h1
            rw [show eb K (F i) = Y from eY] at h2
            exact ⟨h1, h2⟩
          have HC := hide cells
          have HM := hide hM
          have HX := hide (And.intro hXY eZ)
          have HJ := hide (And.intro hjg hjk)
          obtain ⟨c1, c2⟩ := cells wr (Below.refl _ _)
          clear cells hM hR hXY eX eY eI hj hjg hjk htb hg hc
          go_wp2_with fail
          refine (decE_c K Y _ b hK.out HM.out.cc).mono ?_
          rintro e w6 ⟨rfl, hB⟩
          rw [HX.out.2]
          have HB6 := hide hB
          clear c1 c2 hB
          obtain ⟨c1, c2⟩ := HC.out _ HB6.out
          go_wp2_with fail
          refine (encE_c K X _ b hK.out (HM.out.below HB6.out).cc).mono ?_
          rintro e w7 ⟨rfl, hB⟩
          rw [HX.out.1]
          have HB7 := hide (HB6.out.trans (hB.mono HB6.out.size))
          clear c1 c2 hB HB6
          obtain ⟨c1, c2⟩ := HC.out _ HB7.out
          go_wp2_with fail
          refine (encE_c K X _ d hK.out (HM.out.below HB7.out).dd).mono ?_
          rintro e w8 ⟨rfl, hB⟩
          rw [HX.out.1]
          have HB8 := hide (HB7.out.trans (hB.mono HB7.out.size))
          clear c1 c2 hB HB7
          obtain ⟨c1, c2⟩ := HC.out _ HB8.out
          have HM8 := hide (HM.out.below HB8.out)
          by_cases zX : X.size = 16
          · have hz : Z = X ∧ ee X = 0 ∧ ee Y = 0 := by
              have hY : Y = et K X := by rw [← HX.out.1]; exact eb_ok zX
              have zY : Y.size = 16 := by rw [hY]; exact et_size hK.out zX
              refine ⟨?_, ee_ok zX, ee_ok zY⟩
              rw [← HX.out.2, db_ok zY, hY]
              exact dt_et hK.out zX
            obtain ⟨hz1, hz2, hz3⟩ := hz
            have zXi : (X.size : Int) = 16 := by omega
            rw [hz1, hz2, hz3]
            clear hz1 hz2 hz3 zX
            go_wp2_with fail
            go_roundg g4
            case measure => omega
            case rel => exact ⟨i, by have := HJ.out; omega, rfl, by have := HJ.out; omega, HM8.out⟩
          · have hz2 : ee X = 1 := ee_no zX
            have zXi : ((X.size : Int) == 16) = false := by rw [beq_eq_false_iff_ne]; omega
            rw [hz2]
            clear hz2 zX
            go_wp2_with fail
            go_roundg g4
            case measure => omega
            case rel => exact ⟨i, by have := HJ.out; omega, rfl, by have := HJ.out; omega, HM8.out⟩
        · obtain rfl : j = 0 := by omega
          have HM := hide hM
          clear hM
          go_wp2_with fail
          go_ret
          exact ⟨rfl, HM.out.be⟩

theorem aesAgain_any (w : World) (K : ByteArray) (m0 : K.size ≤ 140737488351232) (sa : Option Addr) (n c : Nat) (F : Nat → ByteArray) (ht : Tx w sa n F) (hk : ∀ j, j < n → (F j).size ≤ 140737488351232) : Calls Try.prog 6 #[.string K, .slice sa n c] w fun e w' => e = .returned (.bool true) ∧ Below w.heap.size w w' := by
  by_cases hk : K.size = 32
  · by_cases hn : n ≤ 30
    · exact aesAgain_ok K sa n c F w hk hn ht
    · exact aesAgain_long K sa n c w hk (by omega)
  · exact aesAgain_key K sa n c w hk

theorem aesAgain_own : ownKnob Try.prog.godebug = none := by kernel_rfl
theorem aesAgain_laidOut : laidOutB Try.prog = true := by kernel_rfl

set_option maxRecDepth 100000 in
theorem aesAgain_lifted (os : Os) (started : os.Started) (H : Type) (enc : TypeId × Value → H) :
    ReturnsInHanded {} Try.checked os 6 .any (Rows.aesAgainSpec.pre6 enc Try.prog Try.f6 Rows.aesAgainRow.domain false) (Rows.aesAgainSpec.post enc Try.prog Try.f6 false true false false) := by
  refine returnsInHanded_of_change_sized (C := Try.checked) aesAgain_own started (by kernel_rfl) Try.func6
    (ChangeSpec.witness6 (enc := enc) (C := Try.checked) false ⟨#[], #[.string ⟨#[]⟩, .slice none 0 0], []⟩ 8 (by kernel_rfl) (by kernel_rfl) (by kernel_rfl) (by kernel_rfl)) ?_
  intro W base args ds gs before hval0 hW hcnd hsz0 _
  have hval : ∀ (j : Nat) t v, Try.f6.params[j]? = some t → args[j]? = some v → Value.okWide Try.prog W .any base t v := hval0
  have hW' := hW
  obtain ⟨p, q, hA0, hV, rfl, hfz, hnd⟩ := hW
  have hA : DataW.TrodAll enc Try.prog W 0 (fun _ => true) true Try.f6.params.toList args.toList ds p := hA0
  rw [Try.params6] at hA hval
  obtain ⟨v0, vs0, d0, ds0, p0, q0, hargs, rfl, rfl, h0, r0⟩ := trodAll_cons hA
  obtain ⟨v1, vs1, d1, ds1, p1, q1, rfl, rfl, rfl, h1, r1⟩ := trodAll_cons r0
  obtain ⟨rfl, rfl, rfl⟩ := trodAll_nil r1
  obtain rfl : args = #[v0, v1] := by cases args; simp_all
  obtain ⟨rfl, rfl⟩ := trodVars_none hV
  obtain ⟨a0, rfl, rfl, rfl, w0⟩ := open_string Try.underlying9 (hval 0 9 v0 rfl rfl) h0
  have s0 : a0.size ≤ 140737488351232 := sized_string hsz0 (j := 0) (t := 9) rfl rfl
  obtain ⟨a1, len1, cap1, rfl⟩ := okWide_slice Try.underlying30 (hval 1 30 v1 rfl rfl)
  have k1 := h1
  have lt1 : ∀ x ∈ p1, x.block < W.heap.size := by obtain ⟨m, hm⟩ := k1; exact DataW.trod_lt m _ _ _ hm
  obtain ⟨K1, w1⟩ : ∃ K, Tx W a1 len1 K ∧ (∀ j, j < len1 → (K j).size ≤ 140737488351232) := by obtain ⟨fuel, hf⟩ := h1; exact open_texts hf (fun n hn => of_decide_eq_true (List.all_eq_true.1 hsz0 n (DataW.weights_mem_each (j := 1) (t := 30) rfl rfl n hn)))
  clear hA0 hval0 hsz0
  simp only [List.append_nil] at hW'
  refine (aesAgain_any W a0 s0 a1 len1 cap1 K1 w1.1 w1.2).mono fun e W' ⟨he, bel⟩ => ?_
  subst he
  exact ⟨_, rfl, _, _, _, [], _, [], hW', trodAll_mk1 (shut_bool Try.underlying4 _), (trodAll_cons_mk (shut_string Try.underlying9 w0) (trodAll_cons_mk (Below.trod aesAgain_laidOut (by kernel_rfl) (of_decide_eq_true (by kernel_rfl)) k1 bel lt1) trodAll_mk0)), rfl, bel.frame _, fun h => by cases h⟩

theorem aesAgain_holds : Rows.AesAgainSaid :=
  OpenClaim.holds_of_wide 6 Try.f6 rfl rfl rfl rfl rfl rfl rfl ⟨rfl, rfl, rfl, rfl, rfl⟩ rfl rfl rfl rfl rfl (by kernel_rfl) Try.func6 (by kernel_rfl)
    (of_decide_eq_true (by kernel_rfl)) (by unfold Func.isWrapper; first | (rw [if_pos (by decide +kernel)]; kernel_rfl) | (rw [if_neg (by decide +kernel)]; exact ⟨rfl, rfl⟩))
    (fun os started H enc _ => aesAgain_lifted os started H enc)

#print axioms aesAgain_holds

end Go.Proofs.Ytllhnbnddcghoaa
