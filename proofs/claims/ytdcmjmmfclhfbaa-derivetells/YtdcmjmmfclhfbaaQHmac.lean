/- The document's Sum and Hmac, walked. For texts of at most 90000 bytes, and keys. -/
import Derived.Test.YtdcmjmmfclhfbaaQSums
import Derived.Test.YtdcmjmmfclhfbaaSHmac
namespace Go.Proofs.Ytdcmjmmfclhfbaa
open Go.RowKit Bk
set_option linter.unusedVariables false
set_option linter.unusedSimpArgs false

set_option maxRecDepth 100000 in
set_option maxHeartbeats 4000000 in
theorem rsum_any (s : ByteArray) (w : World) (hs : s.size ≤ 100000) : Calls Try.prog 22 #[.string s] w fun e w' => e = .returned (.string (sdg (sb s))) ∧ Below w.heap.size w w' := by
  have hR := hide (Row.newL w [.string s] 9)
  have hB := hide ((Below.refl _ w).alloc (Nat.le_refl _) (.cells #[.string s] 9))
  obtain ⟨D, eD⟩ : ∃ D, sdg (sb s) = D := ⟨_, rfl⟩
  have HD := hide eD
  rw [eD]
  clear eD
  go_enter Try.func22, Try.ntmps22
  go_wp2_with fail
  refine (rsums_any s hR.out hs).mono ?_
  rintro e w1 ⟨g, c, rfl, hR1, hB1⟩
  rw [HD.out] at hR1
  have hc := hR1.cell 0 _ rfl
  have HB := hide (hB.out.trans (hB1.mono hB.out.size))
  clear hR1 hB1 hR hB
  go_wp2_with fail
  go_ret
  exact ⟨rfl, HB.out⟩

section
variable {ops : Array Oper} {rest : List Oper} {o : Oper} {a : Act} {w0 : World} {Q : Exit → Act → World → Prop}
theorem appendYP (hg : o.guard = none) (d x : Operand) (ho : o.op = .call { callee := .builtin .append, args := #[d, x], argTypes := #[29, 29] })
    {B n : Nat} {z : UInt8} {v : Value} {xs : List UInt8} {zi : Int} (hz : (zi : Int) = ((z.toNat : Nat) : Int)) (hd : a.eval d = v) (hx : a.eval x = .slice (some ⟨w0.heap.size, 0, none⟩) 1 1) (hO : Ow w0 B v n (bs xs)) (hn : n + 1 ≤ 1000000) (hB : B ≤ w0.heap.size)
    (h : ∀ v' w', Ow w' B v' (n + 1) (bs (xs ++ [z])) → Ap v v' w0 w' → wpList Try.prog ops Q rest (a.put o.dst v') w') : wpList Try.prog ops Q (o :: rest) a (w0.alloc (.cells #[.int .u8 zi] 5)) := by
  subst hz
  have kb := (Below.refl _ w0).alloc (Nat.le_refl _) (.cells #[.int .u8 ((z.toNat : Nat) : Int)] 5)
  refine wpList_plain hg fun K hK => ?_
  obtain ⟨v', w', hrun, hOw, hAp, _⟩ := run_appendP (P := Try.prog) (w0.alloc (.cells #[.int .u8 ((z.toNat : Nat) : Int)] 5)) 29 29 o.type 5 Try.underlying29 info8q (by decide) rfl (hO.keep kb)
    ((Row.newL w0 [.int .u8 ((z.toNat : Nat) : Int)] 5).src (n := 1) (cap := 1) rfl Try.underlying29 (fun u hu => by simp at hu; subst hu; rfl)) hn (by simp; omega) (fun u hu => bs_one' hu)
  unfold Oper.wp
  simp [execOp, ho, resolve, invoke, builtin, hd, hx, hrun, Result.andThen]
  exact hK _ _ (h v' w' (by rw [bs_app']; exact hOw) (hAp.after kb))
end
theorem mapto_succ (P : List UInt8) (c : UInt8) (k : Nat) (h : k < P.length) : (P.take (k + 1)).map (· ^^^ c) = (P.take k).map (· ^^^ c) ++ [P[k] ^^^ c] := by
  rw [List.take_succ_eq_append_getElem h, List.map_append]; rfl
theorem pad_at (K : ByteArray) (m k : Nat) (h : k < (sb K ++ List.replicate m 0).length) : ((sb K ++ List.replicate m 0)[k]).toNat = if k < K.size then by' (sb K) k else 0 := by
  have hl := sb_length K
  by_cases hk : k < K.size
  · rw [if_pos hk, List.getElem_append_left (by omega)]
    simp [by', hl, hk]
  · rw [if_neg hk, List.getElem_append_right (by omega), List.getElem_replicate]
    rfl

set_option maxRecDepth 100000 in
set_option maxHeartbeats 16000000 in
theorem rhmac_short (k s : ByteArray) (w : World) (hk : k.size ≤ 64) (hk2 : k.size ≤ 100000) (hs : s.size ≤ 90000) : Calls Try.prog 17 #[.string k, .string s] w fun e w' => e = .returned (.string (shm k s)) ∧ Below w.heap.size w w' := by
  obtain ⟨K, eK⟩ : ∃ K, k = K := ⟨_, rfl⟩
  have hSK : skey (sb k) = sb K := by unfold skey; rw [if_neg (by rw [sb_length]; omega), eK]
  have hK : K.size ≤ 64 := by rw [← eK]; exact hk
  have h1 : ¬ ((64 : Int) < (K.size : Int)) := by omega
  obtain ⟨m, em⟩ : ∃ m, 64 - K.size = m := ⟨_, rfl⟩
  obtain ⟨P, eP⟩ : ∃ P, sb K ++ List.replicate m 0 = P := ⟨_, rfl⟩
  have lP : P.length = 64 := by rw [← eP, List.length_append, sb_length, List.length_replicate]; omega
  have hPk : ∀ k (h : k < P.length), (P[k]).toNat = if k < K.size then by' (sb K) k else 0 := by subst eP; exact fun k h => pad_at K m k h
  have hs92 : scmb (sb K) 92 = P.map (· ^^^ 92) := by unfold scmb; rw [sb_length, em, eP]
  have hs54 : scmb (sb K) 54 = P.map (· ^^^ 54) := by unfold scmb; rw [sb_length, em, eP]
  obtain ⟨C1, e1⟩ : ∃ C, ByteArray.mk (scmb (sb K) 92).toArray = C := ⟨_, rfl⟩
  obtain ⟨C2, e2⟩ : ∃ C, ByteArray.mk (scmb (sb K) 54).toArray = C := ⟨_, rfl⟩
  have s1 : C1.size = 64 := by rw [← e1, ← sb_length, sb_mk, scmb_length _ _ (by rw [sb_length]; exact hK)]
  have s2 : C2.size = 64 := by rw [← e2, ← sb_length, sb_mk, scmb_length _ _ (by rw [sb_length]; exact hK)]
  obtain ⟨D, eD⟩ : ∃ D, sdg (sb (C2 ++ s)) = D := ⟨_, rfl⟩
  have sD : D.size = 32 := eD ▸ sdg_size _
  obtain ⟨G, eG⟩ : ∃ G, shm k s = G := ⟨_, rfl⟩
  rw [eG]
  have hF : sdg (sb (C1 ++ D)) = G := by
    have i1 : sb C1 = scmb (sb K) 92 := by rw [← e1]; rfl
    have i2 : sb C2 = scmb (sb K) 54 := by rw [← e2]; rfl
    have i3 : sb D = ssum (sb (C2 ++ s)) := by rw [← eD]; rfl
    rw [← eG]
    unfold shm shmac sdg
    rw [sb_append, i1, i3, sb_append, i2, hSK]
  have ZC := hide (show ¬ (9223372036854775807 < C1.size + D.size) ∧ ¬ (9223372036854775807 < C2.size + s.size) by omega)
  have z2 : (C2 ++ s).size = 64 + s.size := by rw [← sb_length, sb_append, List.length_append, sb_length, sb_length, s2]
  have z1 : (C1 ++ D).size = 96 := by rw [← sb_length, sb_append, List.length_append, sb_length, sb_length, s1, sD]
  rw [hs92] at e1
  rw [hs54] at e2
  have E1 := hide e1
  have E2 := hide e2
  have ED := hide eD
  have HF := hide hF
  have Z := hide (show (C1 ++ D).size ≤ 100000 ∧ (C2 ++ s).size ≤ 100000 by omega)
  have HPK := hide hPk
  have HLP := hide lP
  rw [eK]
  have HB0 := hide (Below.refl w.heap.size w)
  clear e1 e2 eD hF z1 z2 eP em hs92 hs54 hSK s1 s2 sD eG lP hPk
  clear hk hk2 eK
  go_enter Try.func17, Try.ntmps17
  go_wp2_with fail
  go_loopg [5, 6, 7, 8] 64 (fun g vi vo q _ wr => ∃ k : Nat, k + g = 64 ∧ q = .int .i64 k ∧ Dj vi vo ∧ Ow wr w.heap.size vi k (bs ((P.take k).map (· ^^^ 54))) ∧ Ow wr w.heap.size vo k (bs ((P.take k).map (· ^^^ 92))) ∧ Below w.heap.size w wr)
  case atStart => exact ⟨0, rfl, rfl, Dj.nil _, Ow.nil _ _, Ow.nil _ _, HB0.out⟩
  case round =>
    clear HB0
    obtain ⟨k, hkg, rfl, hdj, hOi, hOo, hB⟩ := hrel
    obtain ⟨ai, ci, rfl, hci⟩ := hOi.shape
    obtain ⟨ao, co, rfl, hco⟩ := hOo.shape
    have DJ := hide hdj
    have OI := hide hOi
    have OO := hide hOo
    have HB := hide hB
    clear hdj hOi hOo hB
    by_cases hlt : k < 64
    · obtain ⟨g3, rfl⟩ : ∃ g3, gk = g3 + 1 := ⟨gk - 1, by omega⟩
      have hltI : (k : Int) < 64 := by omega
      have hp := HPK.out k (by rw [HLP.out]; exact hlt)
      have m54 := mapto_succ P 54 k (by rw [HLP.out]; exact hlt)
      have m92 := mapto_succ P 92 k (by rw [HLP.out]; exact hlt)
      obtain ⟨x, ex⟩ : ∃ x, P[k]'(by rw [HLP.out]; exact hlt) = x := ⟨_, rfl⟩
      rw [ex] at hp m54 m92
      have x54 := x8_int x 54
      have x92 := x8_int x 92
      obtain ⟨y, ey⟩ : ∃ y, x.toNat = y := ⟨_, rfl⟩
      rw [ey] at hp x54 x92
      obtain ⟨y54, e54⟩ : ∃ y, (x ^^^ 54).toNat = y := ⟨_, rfl⟩
      obtain ⟨y92, e92⟩ : ∃ y, (x ^^^ 92).toNat = y := ⟨_, rfl⟩
      rw [e54] at x54
      rw [e92] at x92
      have x54' : bits .xor .u8 (y : Int) 54 = (y54 : Int) := x54
      have x92' : bits .xor .u8 (y : Int) 92 = (y92 : Int) := x92
      have z54 := hide (show ((y54 : Nat) : Int) = (((x ^^^ 54).toNat : Nat) : Int) by rw [e54])
      have z92 := hide (show ((y92 : Nat) : Int) = (((x ^^^ 92).toNat : Nat) : Int) by rw [e92])
      have M54 := hide m54
      have M92 := hide m92
      have HG := hide (show k + 1 + g3 = 64 ∧ k + 1 ≤ 1000000 by omega)
      clear x54 x92 ex ey e54 e92 m54 m92 hkg
      by_cases hk : k < K.size
      · have hkI : (k : Int) < (K.size : Int) := by omega
        have hi := idx_str K k hk
        rw [if_pos hk] at hp
        rw [← hp] at hi
        clear hp hk hlt
        go_wp2_with (first
          | (refine appendYP (z := x ^^^ 54) (zi := (y54 : Int)) rfl (.tmp 25) (.tmp 28) rfl z54.out rfl rfl OI.out HG.out.2 HB.out.size ?_
             intro s1 w1 hS1 kA1
             have S1 := hide hS1
             have T1 := hide (OO.out.ap kA1 DJ.out)
             have B1 := hide (HB.out.trans (kA1.below OI.out HB.out.size))
             have D1 := hide (DJ.out.ap kA1 OO.out)
             clear hS1 kA1 OI OO HB DJ)
          | (refine appendYP (z := x ^^^ 92) (zi := (y92 : Int)) rfl (.tmp 30) (.tmp 33) rfl z92.out rfl rfl T1.out HG.out.2 B1.out.size ?_
             intro s2 w2 hS2 kA2
             have T2 := hide hS2
             have S2 := hide (S1.out.ap kA2 D1.out.symm)
             have B2 := hide (B1.out.trans (kA2.below T1.out B1.out.size))
             have D2 := hide (D1.out.symm.ap kA2 S1.out).symm
             clear hS2 kA2 S1 T1 B1 D1))
        go_roundg g3
        case measure => omega
        case rel => exact ⟨k + 1, HG.out.1, by go_num, D2.out, by rw [M54.out]; exact S2.out, by rw [M92.out]; exact T2.out, B2.out⟩
      · have hkI : ¬ ((k : Int) < (K.size : Int)) := by omega
        rw [if_neg hk] at hp
        subst hp
        have q54 : bits .xor .u8 0 54 = (y54 : Int) := x54'
        have q92 : bits .xor .u8 0 92 = (y92 : Int) := x92'
        clear hk hlt x54' x92'
        go_wp2_with (first
          | (refine appendYP (z := x ^^^ 54) (zi := (y54 : Int)) rfl (.tmp 25) (.tmp 28) rfl z54.out rfl rfl OI.out HG.out.2 HB.out.size ?_
             intro s1 w1 hS1 kA1
             have S1 := hide hS1
             have T1 := hide (OO.out.ap kA1 DJ.out)
             have B1 := hide (HB.out.trans (kA1.below OI.out HB.out.size))
             have D1 := hide (DJ.out.ap kA1 OO.out)
             clear hS1 kA1 OI OO HB DJ)
          | (refine appendYP (z := x ^^^ 92) (zi := (y92 : Int)) rfl (.tmp 30) (.tmp 33) rfl z92.out rfl rfl T1.out HG.out.2 B1.out.size ?_
             intro s2 w2 hS2 kA2
             have T2 := hide hS2
             have S2 := hide (S1.out.ap kA2 D1.out.symm)
             have B2 := hide (B1.out.trans (kA2.below T1.out B1.out.size))
             have D2 := hide (D1.out.symm.ap kA2 S1.out).symm
             clear hS2 kA2 S1 T1 B1 D1))
        go_roundg g3
        case measure => omega
        case rel => exact ⟨k + 1, HG.out.1, by go_num, D2.out, by rw [M54.out]; exact S2.out, by rw [M92.out]; exact T2.out, B2.out⟩
    · obtain rfl : k = 64 := by omega
      obtain ⟨gi, ci', hvi, hgi, hci', hRi⟩ := OI.out.row (by decide)
      obtain ⟨rfl, rfl⟩ : ai = some ⟨gi, 0, none⟩ ∧ ci = ci' := by simpa using hvi
      obtain ⟨go, co', hvo, hgo, hco', hRo⟩ := OO.out.row (by decide)
      obtain ⟨rfl, rfl⟩ : ao = some ⟨go, 0, none⟩ ∧ co = co' := by simpa using hvo
      have lP := HLP.out
      rw [List.take_of_length_le (by omega)] at hRi hRo
      have HRI := hide hRi
      have HRO := hide hRo
      have HCO : Hid (∀ w9, Below wr.heap.size wr w9 → (convert 29 9 (.slice (some ⟨go, 0, none⟩) 64 co)).run Try.prog w9 = .ok (.string C1) w9 ∧ (convert 29 9 (.slice (some ⟨gi, 0, none⟩) 64 ci)).run Try.prog w9 = .ok (.string C2) w9) := hide fun w9 h9 =>
        ⟨by rw [← E1.out]; exact run_textR (P := Try.prog) w9 29 9 5 Try.underlying29 Try.underlying5 Try.underlying9 go 0 rfl (by simpa using HLP.out) (HRO.out.below h9 HRO.out.lt).cell,
         by rw [← E2.out]; exact run_textR (P := Try.prog) w9 29 9 5 Try.underlying29 Try.underlying5 Try.underlying9 gi 0 rfl (by simpa using HLP.out) (HRI.out.below h9 HRI.out.lt).cell⟩
      clear hvi hvo hRi hRo lP OI OO DJ hkg hlt HRI HRO hci' hco'
      go_wp2_with fail
      refine wp_region_ord (fun w9 => (convert 29 9 (.slice (some ⟨go, 0, none⟩) 64 co)).run Try.prog w9 = .ok (.string C1) w9 ∧ (convert 29 9 (.slice (some ⟨gi, 0, none⟩) 64 ci)).run Try.prog w9 = .ok (.string C2) w9) 9 [(0, some true), (1, some false), (2, some true), (3, some false), (4, some true), (5, some true), (6, none), (7, some true), (8, none), (9, none)] (by kernel_rfl) (by kernel_rfl) (fun _ _ _ _ h => h) (HCO.out _ (Below.refl _ wr).drew) ?_
      refine ord_pureE (o := ⟨some 35, _, _, _, _, _⟩) rfl (by kernel_rfl) ⟨_, fun w9 => by (go_simp; try rfl), ?_⟩
      simp only [Act.put, List.setIfInBounds_toArray, List.set_cons_zero, List.set_cons_succ]
      refine ord_heldE (o := ⟨some 36, _, _, _, _, _⟩) rfl (by kernel_rfl) ⟨_, fun w9 h9 => by (obtain ⟨h91, h92⟩ := h9; go_simp; try rfl), ?_⟩
      simp only [Act.put, List.setIfInBounds_toArray, List.set_cons_zero, List.set_cons_succ]
      refine ord_pureE (o := ⟨some 37, _, _, _, _, _⟩) rfl (by kernel_rfl) ⟨_, fun w9 => by (go_simp; try rfl), ?_⟩
      simp only [Act.put, List.setIfInBounds_toArray, List.set_cons_zero, List.set_cons_succ]
      refine ord_heldE (o := ⟨some 38, _, _, _, _, _⟩) rfl (by kernel_rfl) ⟨_, fun w9 h9 => by (obtain ⟨h91, h92⟩ := h9; go_simp; try rfl), ?_⟩
      simp only [Act.put, List.setIfInBounds_toArray, List.set_cons_zero, List.set_cons_succ]
      refine ord_pureE (o := ⟨some 39, _, _, _, _, _⟩) rfl (by kernel_rfl) ⟨_, fun w9 => by (go_simp; try rfl), ?_⟩
      simp only [Act.put, List.setIfInBounds_toArray, List.set_cons_zero, List.set_cons_succ]
      refine ord_pureE (o := ⟨some 40, _, _, _, _, _⟩) rfl (by kernel_rfl) ⟨_, fun w9 => by (have h9 := ZC.out.2; go_simp; try rfl), ?_⟩
      simp only [Act.put, List.setIfInBounds_toArray, List.set_cons_zero, List.set_cons_succ]
      refine ord_go rfl (fun K9 hK => ?_)
      go_simp
      go_wp2_with fail
      refine (rsum_any (C2 ++ s) _ (by have := Z.out.2; omega)).mono ?_
      rintro e w5 ⟨rfl, hB5⟩
      rw [ED.out]
      dsimp only
      replace hB5 : Below wr.heap.size wr w5 := (Below.refl _ wr).drew.trans hB5
      have HB5 := hide hB5
      clear hB5
      refine hK.out _ _ (fun _ => HCO.out _ HB5.out) ?_
      clear hK K9
      refine ord_pureE (o := ⟨some 42, _, _, _, _, _⟩) rfl (by kernel_rfl) ⟨_, fun w9 => by (have h9 := ZC.out.1; go_simp; try rfl), ?_⟩
      simp only [Act.put, List.setIfInBounds_toArray, List.set_cons_zero, List.set_cons_succ]
      refine ord_go rfl (fun K9 hK => ?_)
      go_simp
      go_wp2_with fail
      refine (rsum_any (C1 ++ D) _ (by have := Z.out.1; omega)).mono ?_
      rintro e w6 ⟨rfl, hB6⟩
      rw [HF.out]
      dsimp only
      replace hB6 : Below wr.heap.size wr w6 := HB5.out.trans (hB6.mono HB5.out.size)
      have HB6 := hide hB6
      clear hB6
      refine hK.out _ _ (fun _ => HCO.out _ HB6.out) ?_
      clear hK K9
      refine ord_go rfl (fun K9 hK => ?_)
      go_simp
      refine hK.out _ _ (fun h => by cases h) ?_
      clear hK K9
      refine ord_end ?_
      go_wp2_with fail
      go_ret
      exact ⟨rfl, HB.out.trans (HB6.out.mono HB.out.size)⟩

set_option maxRecDepth 100000 in
set_option maxHeartbeats 16000000 in
theorem rhmac_long (k s : ByteArray) (w : World) (hk : 64 < k.size) (hk2 : k.size ≤ 100000) (hs : s.size ≤ 90000) : Calls Try.prog 17 #[.string k, .string s] w fun e w' => e = .returned (.string (shm k s)) ∧ Below w.heap.size w w' := by
  obtain ⟨K, eK⟩ : ∃ K, sdg (sb k) = K := ⟨_, rfl⟩
  have hSK : skey (sb k) = sb K := by unfold skey; rw [if_pos (by rw [sb_length]; omega), ← eK]; rfl
  have hK : K.size ≤ 64 := by rw [← eK, sdg_size]; decide
  have h1 : (64 : Int) < (k.size : Int) := by omega
  obtain ⟨m, em⟩ : ∃ m, 64 - K.size = m := ⟨_, rfl⟩
  obtain ⟨P, eP⟩ : ∃ P, sb K ++ List.replicate m 0 = P := ⟨_, rfl⟩
  have lP : P.length = 64 := by rw [← eP, List.length_append, sb_length, List.length_replicate]; omega
  have hPk : ∀ k (h : k < P.length), (P[k]).toNat = if k < K.size then by' (sb K) k else 0 := by subst eP; exact fun k h => pad_at K m k h
  have hs92 : scmb (sb K) 92 = P.map (· ^^^ 92) := by unfold scmb; rw [sb_length, em, eP]
  have hs54 : scmb (sb K) 54 = P.map (· ^^^ 54) := by unfold scmb; rw [sb_length, em, eP]
  obtain ⟨C1, e1⟩ : ∃ C, ByteArray.mk (scmb (sb K) 92).toArray = C := ⟨_, rfl⟩
  obtain ⟨C2, e2⟩ : ∃ C, ByteArray.mk (scmb (sb K) 54).toArray = C := ⟨_, rfl⟩
  have s1 : C1.size = 64 := by rw [← e1, ← sb_length, sb_mk, scmb_length _ _ (by rw [sb_length]; exact hK)]
  have s2 : C2.size = 64 := by rw [← e2, ← sb_length, sb_mk, scmb_length _ _ (by rw [sb_length]; exact hK)]
  obtain ⟨D, eD⟩ : ∃ D, sdg (sb (C2 ++ s)) = D := ⟨_, rfl⟩
  have sD : D.size = 32 := eD ▸ sdg_size _
  obtain ⟨G, eG⟩ : ∃ G, shm k s = G := ⟨_, rfl⟩
  rw [eG]
  have hF : sdg (sb (C1 ++ D)) = G := by
    have i1 : sb C1 = scmb (sb K) 92 := by rw [← e1]; rfl
    have i2 : sb C2 = scmb (sb K) 54 := by rw [← e2]; rfl
    have i3 : sb D = ssum (sb (C2 ++ s)) := by rw [← eD]; rfl
    rw [← eG]
    unfold shm shmac sdg
    rw [sb_append, i1, i3, sb_append, i2, hSK]
  have ZC := hide (show ¬ (9223372036854775807 < C1.size + D.size) ∧ ¬ (9223372036854775807 < C2.size + s.size) by omega)
  have z2 : (C2 ++ s).size = 64 + s.size := by rw [← sb_length, sb_append, List.length_append, sb_length, sb_length, s2]
  have z1 : (C1 ++ D).size = 96 := by rw [← sb_length, sb_append, List.length_append, sb_length, sb_length, s1, sD]
  rw [hs92] at e1
  rw [hs54] at e2
  have E1 := hide e1
  have E2 := hide e2
  have ED := hide eD
  have HF := hide hF
  have Z := hide (show (C1 ++ D).size ≤ 100000 ∧ (C2 ++ s).size ≤ 100000 by omega)
  have HPK := hide hPk
  have HLP := hide lP
  clear e1 e2 eD hF z1 z2 eP em hs92 hs54 hSK s1 s2 sD eG lP hPk
  have EK := hide eK
  have HK2 := hide hk2
  clear hk hk2 eK
  go_enter Try.func17, Try.ntmps17
  go_wp2_with fail
  refine (rsum_any k _ HK2.out).mono ?_
  rintro e w1 ⟨rfl, hB1⟩
  rw [EK.out]
  have HB0 := hide hB1
  clear hB1
  go_wp2_with fail
  go_loopg [5, 6, 7, 8] 64 (fun g vi vo q _ wr => ∃ k : Nat, k + g = 64 ∧ q = .int .i64 k ∧ Dj vi vo ∧ Ow wr w.heap.size vi k (bs ((P.take k).map (· ^^^ 54))) ∧ Ow wr w.heap.size vo k (bs ((P.take k).map (· ^^^ 92))) ∧ Below w.heap.size w wr)
  case atStart => exact ⟨0, rfl, rfl, Dj.nil _, Ow.nil _ _, Ow.nil _ _, HB0.out⟩
  case round =>
    clear HB0
    obtain ⟨k, hkg, rfl, hdj, hOi, hOo, hB⟩ := hrel
    obtain ⟨ai, ci, rfl, hci⟩ := hOi.shape
    obtain ⟨ao, co, rfl, hco⟩ := hOo.shape
    have DJ := hide hdj
    have OI := hide hOi
    have OO := hide hOo
    have HB := hide hB
    clear hdj hOi hOo hB
    by_cases hlt : k < 64
    · obtain ⟨g3, rfl⟩ : ∃ g3, gk = g3 + 1 := ⟨gk - 1, by omega⟩
      have hltI : (k : Int) < 64 := by omega
      have hp := HPK.out k (by rw [HLP.out]; exact hlt)
      have m54 := mapto_succ P 54 k (by rw [HLP.out]; exact hlt)
      have m92 := mapto_succ P 92 k (by rw [HLP.out]; exact hlt)
      obtain ⟨x, ex⟩ : ∃ x, P[k]'(by rw [HLP.out]; exact hlt) = x := ⟨_, rfl⟩
      rw [ex] at hp m54 m92
      have x54 := x8_int x 54
      have x92 := x8_int x 92
      obtain ⟨y, ey⟩ : ∃ y, x.toNat = y := ⟨_, rfl⟩
      rw [ey] at hp x54 x92
      obtain ⟨y54, e54⟩ : ∃ y, (x ^^^ 54).toNat = y := ⟨_, rfl⟩
      obtain ⟨y92, e92⟩ : ∃ y, (x ^^^ 92).toNat = y := ⟨_, rfl⟩
      rw [e54] at x54
      rw [e92] at x92
      have x54' : bits .xor .u8 (y : Int) 54 = (y54 : Int) := x54
      have x92' : bits .xor .u8 (y : Int) 92 = (y92 : Int) := x92
      have z54 := hide (show ((y54 : Nat) : Int) = (((x ^^^ 54).toNat : Nat) : Int) by rw [e54])
      have z92 := hide (show ((y92 : Nat) : Int) = (((x ^^^ 92).toNat : Nat) : Int) by rw [e92])
      have M54 := hide m54
      have M92 := hide m92
      have HG := hide (show k + 1 + g3 = 64 ∧ k + 1 ≤ 1000000 by omega)
      clear x54 x92 ex ey e54 e92 m54 m92 hkg
      by_cases hk : k < K.size
      · have hkI : (k : Int) < (K.size : Int) := by omega
        have hi := idx_str K k hk
        rw [if_pos hk] at hp
        rw [← hp] at hi
        clear hp hk hlt
        go_wp2_with (first
          | (refine appendYP (z := x ^^^ 54) (zi := (y54 : Int)) rfl (.tmp 25) (.tmp 28) rfl z54.out rfl rfl OI.out HG.out.2 HB.out.size ?_
             intro s1 w1 hS1 kA1
             have S1 := hide hS1
             have T1 := hide (OO.out.ap kA1 DJ.out)
             have B1 := hide (HB.out.trans (kA1.below OI.out HB.out.size))
             have D1 := hide (DJ.out.ap kA1 OO.out)
             clear hS1 kA1 OI OO HB DJ)
          | (refine appendYP (z := x ^^^ 92) (zi := (y92 : Int)) rfl (.tmp 30) (.tmp 33) rfl z92.out rfl rfl T1.out HG.out.2 B1.out.size ?_
             intro s2 w2 hS2 kA2
             have T2 := hide hS2
             have S2 := hide (S1.out.ap kA2 D1.out.symm)
             have B2 := hide (B1.out.trans (kA2.below T1.out B1.out.size))
             have D2 := hide (D1.out.symm.ap kA2 S1.out).symm
             clear hS2 kA2 S1 T1 B1 D1))
        go_roundg g3
        case measure => omega
        case rel => exact ⟨k + 1, HG.out.1, by go_num, D2.out, by rw [M54.out]; exact S2.out, by rw [M92.out]; exact T2.out, B2.out⟩
      · have hkI : ¬ ((k : Int) < (K.size : Int)) := by omega
        rw [if_neg hk] at hp
        subst hp
        have q54 : bits .xor .u8 0 54 = (y54 : Int) := x54'
        have q92 : bits .xor .u8 0 92 = (y92 : Int) := x92'
        clear hk hlt x54' x92'
        go_wp2_with (first
          | (refine appendYP (z := x ^^^ 54) (zi := (y54 : Int)) rfl (.tmp 25) (.tmp 28) rfl z54.out rfl rfl OI.out HG.out.2 HB.out.size ?_
             intro s1 w1 hS1 kA1
             have S1 := hide hS1
             have T1 := hide (OO.out.ap kA1 DJ.out)
             have B1 := hide (HB.out.trans (kA1.below OI.out HB.out.size))
             have D1 := hide (DJ.out.ap kA1 OO.out)
             clear hS1 kA1 OI OO HB DJ)
          | (refine appendYP (z := x ^^^ 92) (zi := (y92 : Int)) rfl (.tmp 30) (.tmp 33) rfl z92.out rfl rfl T1.out HG.out.2 B1.out.size ?_
             intro s2 w2 hS2 kA2
             have T2 := hide hS2
             have S2 := hide (S1.out.ap kA2 D1.out.symm)
             have B2 := hide (B1.out.trans (kA2.below T1.out B1.out.size))
             have D2 := hide (D1.out.symm.ap kA2 S1.out).symm
             clear hS2 kA2 S1 T1 B1 D1))
        go_roundg g3
        case measure => omega
        case rel => exact ⟨k + 1, HG.out.1, by go_num, D2.out, by rw [M54.out]; exact S2.out, by rw [M92.out]; exact T2.out, B2.out⟩
    · obtain rfl : k = 64 := by omega
      obtain ⟨gi, ci', hvi, hgi, hci', hRi⟩ := OI.out.row (by decide)
      obtain ⟨rfl, rfl⟩ : ai = some ⟨gi, 0, none⟩ ∧ ci = ci' := by simpa using hvi
      obtain ⟨go, co', hvo, hgo, hco', hRo⟩ := OO.out.row (by decide)
      obtain ⟨rfl, rfl⟩ : ao = some ⟨go, 0, none⟩ ∧ co = co' := by simpa using hvo
      have lP := HLP.out
      rw [List.take_of_length_le (by omega)] at hRi hRo
      have HRI := hide hRi
      have HRO := hide hRo
      have HCO : Hid (∀ w9, Below wr.heap.size wr w9 → (convert 29 9 (.slice (some ⟨go, 0, none⟩) 64 co)).run Try.prog w9 = .ok (.string C1) w9 ∧ (convert 29 9 (.slice (some ⟨gi, 0, none⟩) 64 ci)).run Try.prog w9 = .ok (.string C2) w9) := hide fun w9 h9 =>
        ⟨by rw [← E1.out]; exact run_textR (P := Try.prog) w9 29 9 5 Try.underlying29 Try.underlying5 Try.underlying9 go 0 rfl (by simpa using HLP.out) (HRO.out.below h9 HRO.out.lt).cell,
         by rw [← E2.out]; exact run_textR (P := Try.prog) w9 29 9 5 Try.underlying29 Try.underlying5 Try.underlying9 gi 0 rfl (by simpa using HLP.out) (HRI.out.below h9 HRI.out.lt).cell⟩
      clear hvi hvo hRi hRo lP OI OO DJ hkg hlt HRI HRO hci' hco'
      go_wp2_with fail
      refine wp_region_ord (fun w9 => (convert 29 9 (.slice (some ⟨go, 0, none⟩) 64 co)).run Try.prog w9 = .ok (.string C1) w9 ∧ (convert 29 9 (.slice (some ⟨gi, 0, none⟩) 64 ci)).run Try.prog w9 = .ok (.string C2) w9) 9 [(0, some true), (1, some false), (2, some true), (3, some false), (4, some true), (5, some true), (6, none), (7, some true), (8, none), (9, none)] (by kernel_rfl) (by kernel_rfl) (fun _ _ _ _ h => h) (HCO.out _ (Below.refl _ wr).drew) ?_
      refine ord_pureE (o := ⟨some 35, _, _, _, _, _⟩) rfl (by kernel_rfl) ⟨_, fun w9 => by (go_simp; try rfl), ?_⟩
      simp only [Act.put, List.setIfInBounds_toArray, List.set_cons_zero, List.set_cons_succ]
      refine ord_heldE (o := ⟨some 36, _, _, _, _, _⟩) rfl (by kernel_rfl) ⟨_, fun w9 h9 => by (obtain ⟨h91, h92⟩ := h9; go_simp; try rfl), ?_⟩
      simp only [Act.put, List.setIfInBounds_toArray, List.set_cons_zero, List.set_cons_succ]
      refine ord_pureE (o := ⟨some 37, _, _, _, _, _⟩) rfl (by kernel_rfl) ⟨_, fun w9 => by (go_simp; try rfl), ?_⟩
      simp only [Act.put, List.setIfInBounds_toArray, List.set_cons_zero, List.set_cons_succ]
      refine ord_heldE (o := ⟨some 38, _, _, _, _, _⟩) rfl (by kernel_rfl) ⟨_, fun w9 h9 => by (obtain ⟨h91, h92⟩ := h9; go_simp; try rfl), ?_⟩
      simp only [Act.put, List.setIfInBounds_toArray, List.set_cons_zero, List.set_cons_succ]
      refine ord_pureE (o := ⟨some 39, _, _, _, _, _⟩) rfl (by kernel_rfl) ⟨_, fun w9 => by (go_simp; try rfl), ?_⟩
      simp only [Act.put, List.setIfInBounds_toArray, List.set_cons_zero, List.set_cons_succ]
      refine ord_pureE (o := ⟨some 40, _, _, _, _, _⟩) rfl (by kernel_rfl) ⟨_, fun w9 => by (have h9 := ZC.out.2; go_simp; try rfl), ?_⟩
      simp only [Act.put, List.setIfInBounds_toArray, List.set_cons_zero, List.set_cons_succ]
      refine ord_go rfl (fun K9 hK => ?_)
      go_simp
      go_wp2_with fail
      refine (rsum_any (C2 ++ s) _ (by have := Z.out.2; omega)).mono ?_
      rintro e w5 ⟨rfl, hB5⟩
      rw [ED.out]
      dsimp only
      replace hB5 : Below wr.heap.size wr w5 := (Below.refl _ wr).drew.trans hB5
      have HB5 := hide hB5
      clear hB5
      refine hK.out _ _ (fun _ => HCO.out _ HB5.out) ?_
      clear hK K9
      refine ord_pureE (o := ⟨some 42, _, _, _, _, _⟩) rfl (by kernel_rfl) ⟨_, fun w9 => by (have h9 := ZC.out.1; go_simp; try rfl), ?_⟩
      simp only [Act.put, List.setIfInBounds_toArray, List.set_cons_zero, List.set_cons_succ]
      refine ord_go rfl (fun K9 hK => ?_)
      go_simp
      go_wp2_with fail
      refine (rsum_any (C1 ++ D) _ (by have := Z.out.1; omega)).mono ?_
      rintro e w6 ⟨rfl, hB6⟩
      rw [HF.out]
      dsimp only
      replace hB6 : Below wr.heap.size wr w6 := HB5.out.trans (hB6.mono HB5.out.size)
      have HB6 := hide hB6
      clear hB6
      refine hK.out _ _ (fun _ => HCO.out _ HB6.out) ?_
      clear hK K9
      refine ord_go rfl (fun K9 hK => ?_)
      go_simp
      refine hK.out _ _ (fun h => by cases h) ?_
      clear hK K9
      refine ord_end ?_
      go_wp2_with fail
      go_ret
      exact ⟨rfl, HB.out.trans (HB6.out.mono HB.out.size)⟩

theorem rhmac_any (k s : ByteArray) (w : World) (hk : k.size ≤ 100000) (hs : s.size ≤ 90000) : Calls Try.prog 17 #[.string k, .string s] w fun e w' => e = .returned (.string (shm k s)) ∧ Below w.heap.size w w' := by
  by_cases h : 64 < k.size
  · exact rhmac_long k s w h hk hs
  · exact rhmac_short k s w (by omega) hk hs
end Go.Proofs.Ytdcmjmmfclhfbaa
