/- For any key and any blocks the statement AesBlocks returns true and its arguments read as before. No condition. -/
import Derived.Test.YtllhnbnddcghoaaGDec
namespace Go.Proofs.Ytllhnbnddcghoaa
open Go.ChangeShapes Go.WideShapes Go.ChangeAt Go.RowKit Bk
open Go.ChangeMaps (open_string shut_string)
set_option linter.unusedVariables false
set_option linter.unusedSimpArgs false

/-- The blocks of 16 bytes among the first k. -/
def fl (F : Nat → ByteArray) : Nat → List ByteArray
  | 0 => []
  | k + 1 => if (F k).size = 16 then fl F k ++ [F k] else fl F k
def nth (l : List ByteArray) (j : Nat) : ByteArray := l.getD j ⟨#[]⟩
theorem fl_len (F : Nat → ByteArray) : ∀ k, (fl F k).length ≤ k
  | 0 => Nat.le_refl _
  | k + 1 => by
    have ih := fl_len F k
    unfold fl
    split
    · rw [List.length_append]; simp; omega
    · omega
theorem fl_size (F : Nat → ByteArray) : ∀ k, ∀ x ∈ fl F k, x.size = 16
  | 0, x, h => by cases h
  | k + 1, x, h => by
    unfold fl at h
    split at h
    · rcases List.mem_append.1 h with h | h
      · exact fl_size F k x h
      · obtain rfl := List.mem_singleton.1 h
        assumption
    · exact fl_size F k x h
theorem nth_size (F : Nat → ByteArray) (k j : Nat) (h : j < (fl F k).length) : (nth (fl F k) j).size = 16 := by
  refine fl_size F k _ ?_
  unfold nth
  rw [List.getD_eq_getElem?_getD, List.getElem?_eq_getElem h]
  exact List.getElem_mem _
theorem fl_yes {F : Nat → ByteArray} {k : Nat} (h : (F k).size = 16) : fl F (k + 1) = fl F k ++ [F k] := if_pos h
theorem fl_no {F : Nat → ByteArray} {k : Nat} (h : (F k).size ≠ 16) : fl F (k + 1) = fl F k := if_neg h
theorem fl_pre (F : Nat → ByteArray) (i : Nat) : ∀ k, i ≤ k → ∃ r, fl F k = fl F i ++ r
  | 0, h => ⟨[], by obtain rfl : i = 0 := by omega
                    rfl⟩
  | k + 1, h => by
    by_cases e : i = k + 1
    · subst e; exact ⟨[], by simp⟩
    · obtain ⟨r, hr⟩ := fl_pre F i k (by omega)
      by_cases hs : (F k).size = 16
      · exact ⟨r ++ [F k], by rw [fl_yes hs, hr, List.append_assoc]⟩
      · exact ⟨r, by rw [fl_no hs]; exact hr⟩
theorem fl_at (F : Nat → ByteArray) (i n : Nat) (h : i < n) (hs : (F i).size = 16) : (fl F i).length < (fl F n).length ∧ nth (fl F n) (fl F i).length = F i := by
  obtain ⟨r, hr⟩ := fl_pre F (i + 1) n (by omega)
  have e : fl F (i + 1) = fl F i ++ [F i] := by
    show (if (F i).size = 16 then fl F i ++ [F i] else fl F i) = _
    rw [if_pos hs]
  rw [e] at hr
  rw [hr]
  refine ⟨by simp, ?_⟩
  unfold nth
  simp
def tl (l : List ByteArray) : List Value := l.map Value.string
theorem tl_one {l : List ByteArray} {v : Value} (h : v ∈ tl l) : v.oneCell' = true := by
  simp only [tl, List.mem_map] at h
  obtain ⟨j, _, rfl⟩ := h
  rfl
theorem tl_at (l : List ByteArray) (j : Nat) (h : j < l.length) : (tl l)[j]? = some (.string (nth l j)) := by simp [tl, nth, h]
/-- A row of the frame's own, as texts that come in. -/
theorem tx_of {w : World} {B : Nat} {va : Option Addr} {vc : Nat} {l : List ByteArray} (h : Ow w B (.slice va l.length vc) l.length (tl l)) : Tx w va l.length (nth l) := by
  by_cases h0 : l.length = 0
  · exact .inl h0
  · obtain ⟨g, cap, hv, hg, hc, hR⟩ := h.row (by omega)
    obtain ⟨rfl, rfl⟩ : va = some ⟨g, 0, none⟩ ∧ vc = cap := by simpa using hv
    exact .inr ⟨g, 0, rfl, hR.lt, fun j hj => hR.cell j _ (tl_at l j hj)⟩
/-- What lies in memory while the answers are held against one another. -/
structure Mb (w0 w : World) (b : Nat) (K : ByteArray) (sa : Option Addr) (n : Nat) (F : Nat → ByteArray) (v1 v2 : Value) (m : Nat) (x1 x2 : List Value) (B1 B2 : Nat) : Prop where
  cc : Row w b 0 (bs (ciB (kw K)))
  tt : Tx w sa n F
  o1 : Ow w B1 v1 m x1
  o2 : Ow w B2 v2 m x2
  be : Below w0.heap.size w0 w
theorem Mb.below {w0 w w' : World} {b : Nat} {K : ByteArray} {sa : Option Addr} {n : Nat} {F : Nat → ByteArray} {v1 v2 : Value} {m : Nat} {x1 x2 : List Value} {B1 B2 : Nat} (h : Mb w0 w b K sa n F v1 v2 m x1 x2 B1 B2) (k : Below w.heap.size w w') : Mb w0 w' b K sa n F v1 v2 m x1 x2 B1 B2 :=
  ⟨h.cc.below k h.cc.lt, h.tt.below k, h.o1.keep k, h.o2.keep k, h.be.trans (k.mono h.be.size)⟩

set_option maxRecDepth 100000 in
set_option maxHeartbeats 16000000 in
theorem aesBlocks_long (K : ByteArray) (sa : Option Addr) (n c : Nat) (w : World) (hn : 60 < n) : Calls Try.prog 4 #[.string K, .slice sa n c] w fun e w' => e = .returned (.bool true) ∧ Below w.heap.size w w' := by
  have hl : (60 : Int) < (n : Int) := by omega
  have HB0 := hide (Below.refl w.heap.size w)
  go_enter Try.func4, Try.ntmps4
  go_wp2_with fail
  go_ret
  exact ⟨rfl, HB0.out⟩

set_option maxRecDepth 100000 in
set_option maxHeartbeats 16000000 in
theorem aesBlocks_key (K : ByteArray) (sa : Option Addr) (n c : Nat) (w : World) (hk : K.size ≠ 32) (hn : n ≤ 60) : Calls Try.prog 4 #[.string K, .slice sa n c] w fun e w' => e = .returned (.bool true) ∧ Below w.heap.size w w' := by
  have hl : ¬ ((60 : Int) < (n : Int)) := by omega
  have hz : ((K.size : Int) != 32) = true := by rw [bne_iff_ne]; omega
  have hK := hide hk
  clear hk hn
  go_enter Try.func4, Try.ntmps4
  have HS0 := hide (Below.refl w.heap.size w)
  go_wp2_with fail
  refine (aNew_bad K _ hK.out).mono ?_
  rintro e w1 ⟨rfl, hw⟩
  obtain rfl := hw.symm
  go_wp2_with fail
  go_ret
  exact ⟨rfl, HS0.out⟩

set_option maxRecDepth 100000 in
set_option maxHeartbeats 16000000 in
theorem aesBlocks_ok (K : ByteArray) (sa : Option Addr) (n c : Nat) (F : Nat → ByteArray) (w : World) (hk : K.size = 32) (hn : n ≤ 60) (ht : Tx w sa n F) : Calls Try.prog 4 #[.string K, .slice sa n c] w fun e w' => e = .returned (.bool true) ∧ Below w.heap.size w w' := by
  have hK := hide hk
  have hl : ¬ ((60 : Int) < (n : Int)) := by omega
  have hz : ((K.size : Int) != 32) = false := by rw [hk]; rfl
  have HN := hide hn
  have HT := hide ht
  clear hk hn ht
  go_enter Try.func4, Try.ntmps4
  have HS0 := hide (Below.refl w.heap.size w)
  go_wp2_with fail
  refine (new_c K _ hK.out).mono ?_
  rintro e w1 ⟨b, rfl, hR, hb, hB⟩
  have HS1 := hide (show Below w.heap.size w w1 ∧ Row w1 b 0 (bs (ciB (kw K))) from ⟨HS0.out.trans (hB.mono HS0.out.size), hR⟩)
  clear HS0 hB hR hb
  have HM := hide (show Row w1 b 0 (bs (ciB (kw K))) ∧ Ow w1 w1.heap.size (.slice none 0 0) (fl F 0).length (tl (fl F 0)) ∧ Below w.heap.size w w1 ∧ w1.heap.size ≤ w1.heap.size from ⟨HS1.out.2, Ow.nil _ _, HS1.out.1, Nat.le_refl _⟩)
  have HS0 := hide (And.intro HS1.out.1.size HS1.out.2.lt)
  clear HS1
  go_wp2_with fail
  clear hl hz
  go_loopg [7, 8] n (fun g v q wr => ∃ k : Nat, k + g = n ∧ q = .int .i64 k ∧ Row wr b 0 (bs (ciB (kw K))) ∧ Ow wr w1.heap.size v (fl F k).length (tl (fl F k)) ∧ Below w.heap.size w wr ∧ w1.heap.size ≤ wr.heap.size)
  case atStart => exact ⟨0, by omega, rfl, HM.out⟩
  case round =>
    clear HM
    obtain ⟨k, hkg, rfl, hC, hO, hB, hBL⟩ := hrel
    have HBL := hide hBL
    clear hBL
    by_cases hlt : k < n
    · have hlt' : (k : Int) < (n : Int) := by omega
      obtain ⟨g3, rfl⟩ : ∃ g3, gk = g3 + 1 := ⟨gk - 1, by omega⟩
      obtain ⟨tb, to, rfl, htb, c1⟩ := (HT.out.below hB).at' hlt
      obtain ⟨va, vc, rfl, hvc⟩ := hO.shape
      obtain ⟨X, eX⟩ : ∃ z, F k = z := ⟨_, rfl⟩
      rw [eX] at c1
      have hk60 := IntWalk.i64_in ((k : Int) + 1) (by have := HN.out; omega)
      have HE := hide eX
      by_cases zX : X.size = 16
      · have zXi : (X.size : Int) = 16 := by omega
        have HF := hide (show fl F (k + 1) = fl F k ++ [X] by rw [← eX]; exact fl_yes (by rw [eX]; exact zX))
        have HO := hide (hO.keep ((Below.refl wr.heap.size wr).alloc (Nat.le_refl _) (.cells #[.string X] 9)))
        have HB := hide (hB.alloc hB.size (.cells #[.string X] 9))
        have HCr := hide (hC.alloc (.cells #[.string X] 9))
        have HLw := hide HBL.out
        have HL := hide (fl_len F k)
        clear hC hO hB eX zX htb hvc
        go_wp2_with (refine wpList_appendO rfl (.tmp 46) (.tmp 51) 30 30 rfl 9 Try.underlying30 infoSt (by decide) rfl (B := w1.heap.size) (n := (fl F k).length) (m := 1) (xs := tl (fl F k)) (news := [.string X]) rfl rfl HO.out ((Row.newL wr [.string X] 9).src (n := 1) (cap := 1) rfl Try.underlying30 (fun u hu => by simp at hu; subst hu; rfl)) (by have := HN.out; have := HL.out; omega) (by rw [World.size_alloc]; have := HLw.out; omega) (fun u hu => tl_one hu) ?_
                     intro v5 w5 hO5 hB5
                     have HM5 := hide (show Row w5 b 0 (bs (ciB (kw K))) ∧ Ow w5 w1.heap.size v5 (fl F (k + 1)).length (tl (fl F (k + 1))) ∧ Below w.heap.size w w5 ∧ w1.heap.size ≤ w5.heap.size from ⟨HCr.out.below hB5 HS0.out.2, by
                       rw [HF.out]
                       unfold tl at hO5 ⊢
                       rw [List.length_append, List.map_append]
                       exact hO5, HB.out.trans (hB5.mono HS0.out.1), hB5.size |> Nat.le_trans (by rw [World.size_alloc]; have := HLw.out; omega)⟩)
                     clear hO5 hB5)
        go_roundg g3
        case measure => omega
        case rel => exact ⟨k + 1, by omega, by go_num, HM5.out⟩
      · have zXi : ((X.size : Int) == 16) = false := by rw [beq_eq_false_iff_ne]; omega
        have HF := hide (show fl F (k + 1) = fl F k from fl_no (by rw [eX]; exact zX))
        have HM5 := hide (And.intro hC (And.intro hO (And.intro hB HBL.out)))
        clear hC hO hB eX zX htb hvc
        go_wp2_with fail
        go_roundg g3
        case measure => omega
        case rel => exact ⟨k + 1, by omega, by go_num, by rw [HF.out]; exact HM5.out⟩
    · obtain ⟨wq, hwq⟩ : ∃ z, z = wr := ⟨_, rfl⟩
      subst hwq
      obtain rfl : k = n := by omega
      obtain ⟨va, vc, rfl, hvc⟩ := hO.shape
      have HM := hide (show Row wq b 0 (bs (ciB (kw K))) ∧ Tx wq va (fl F k).length (nth (fl F k)) ∧ Below w.heap.size w wq from ⟨hC, tx_of hO, hB⟩)
      clear hC hO hB hvc
      go_wp2_with fail
      refine (genc_any K va (fl F k).length vc (nth (fl F k)) _ hK.out (Nat.le_trans (fl_len F k) HN.out) HM.out.2.1 (fun j hj => nth_size F k j hj)).mono ?_
      rintro e w2 ⟨v1, rfl, hO1, hB1⟩
      obtain ⟨a1, c1, rfl, hc1⟩ := hO1.shape
      have HM2 := hide (show Row w2 b 0 (bs (ciB (kw K))) ∧ Tx w2 va (fl F k).length (nth (fl F k)) ∧ Below w.heap.size w w2 from ⟨HM.out.1.below hB1 HM.out.1.lt, HM.out.2.1.below hB1, HM.out.2.2.trans (hB1.mono HM.out.2.2.size)⟩)
      have HO1 := hide hO1
      clear hO1 hB1 HM hc1
      go_wp2_with fail
      refine (gdec_any K va (fl F k).length vc (nth (fl F k)) _ hK.out (Nat.le_trans (fl_len F k) HN.out) HM2.out.2.1 (fun j hj => nth_size F k j hj)).mono ?_
      rintro e w3 ⟨v2, rfl, hO2, hB2⟩
      obtain ⟨a2, c2, rfl, hc2⟩ := hO2.shape
      have hbe : Below w.heap.size w w3 := HM2.out.2.2.trans (hB2.mono HM2.out.2.2.size)
      have HM3 := hide (show Mb w w3 b K sa k F (.slice a1 (fl F k).length c1) (.slice a2 (fl F k).length c2) (fl F k).length (ts (fun j => et K (nth (fl F k) j)) (fl F k).length) (ts (fun j => dt K (nth (fl F k) j)) (fl F k).length) wq.heap.size w2.heap.size from ⟨HM2.out.1.below hB2 HM2.out.1.lt, HT.out.below hbe, HO1.out.keep hB2, hO2, hbe⟩)
      have HFl := hide (fun i (hi : i < k) (hs : (F i).size = 16) => fl_at F i k hi hs)
      have HFy := hide (fun i (hs : (F i).size = 16) => fl_yes (F := F) (k := i) hs)
      have HFn := hide (fun i (hs : (F i).size ≠ 16) => fl_no (F := F) (k := i) hs)
      have HL := hide (fl_len F)
      obtain ⟨G, eG⟩ : ∃ G, nth (fl F k) = G := ⟨_, rfl⟩
      obtain ⟨m, em⟩ : ∃ m, (fl F k).length = m := ⟨_, rfl⟩
      rw [eG, em] at HM3 HFl
      rw [em]
      clear hO2 hB2 hbe HM2 HO1 hc2 eG em
      go_wp2_with fail
      go_loopg [11, 12, 13, 14, 15, 16] k (fun g p q _ _ _ _ wr => ∃ i : Nat, i + g = k ∧ q = .int .i64 i ∧ p = .int .i64 ((fl F i).length : Nat) ∧ Mb w wr b K sa k F (.slice a1 m c1) (.slice a2 m c2) m (ts (fun j => et K (G j)) m) (ts (fun j => dt K (G j)) m) wq.heap.size w2.heap.size)
      case atStart => exact ⟨0, by omega, rfl, rfl, HM3.out⟩
      case round =>
        clear HM3
        obtain ⟨wo, hwo⟩ : ∃ z, z = wr := ⟨_, rfl⟩
        subst hwo
        obtain ⟨i, hig, rfl, rfl, hM⟩ := hrel
        by_cases hi : i < k
        · have hi' : (i : Int) < (k : Int) := by omega
          obtain ⟨g4, rfl⟩ : ∃ g4, gk = g4 + 1 := ⟨gk - 1, by omega⟩
          obtain ⟨tb, to, rfl, htb, -⟩ := hM.tt.at' hi
          obtain ⟨X, eX⟩ : ∃ z, F i = z := ⟨_, rfl⟩
          have cells : ∀ wy : World, Below wo.heap.size wo wy → wy.cell? ⟨tb, to + i, none⟩ = some (.string X) := fun wy hB => by
            obtain ⟨tb', to', ht', _, h1⟩ := (hM.tt.below hB).at' hi
            obtain ⟨rfl, rfl⟩ : tb = tb' ∧ to = to' := by simpa using ht'
            rw [eX] at h1
            exact h1
          have hk60 := IntWalk.i64_in ((i : Int) + 1) (by have := HN.out; omega)
          obtain ⟨q, eqq⟩ : ∃ q, (fl F i).length = q := ⟨_, rfl⟩
          have hq60 := IntWalk.i64_in ((q : Int) + 1) (by have := HN.out; have := HL.out i; omega)
          rw [eqq]
          have HC := hide cells
          have HM := hide hM
          have HJ := hide (And.intro hig (And.intro hi (And.intro eX eqq)))
          have cx := cells wo (Below.refl _ _)
          clear cells hM htb hig hi eX eqq
          go_wp2_with fail
          refine (encE_c K X _ b hK.out HM.out.cc).mono ?_
          rintro e w6 ⟨rfl, hB⟩
          have HB6 := hide hB
          clear cx hB
          have cx := HC.out _ HB6.out
          go_wp2_with fail
          refine (decE_c K X _ b hK.out (HM.out.below HB6.out).cc).mono ?_
          rintro e w7 ⟨rfl, hB⟩
          have HB7 := hide (HB6.out.trans (hB.mono HB6.out.size))
          clear cx hB HB6
          have cx := HC.out _ HB7.out
          have HM7 := hide (HM.out.below HB7.out)
          by_cases zX : X.size = 16
          · have zXi : (X.size : Int) = 16 := by omega
            have hfl := HFl.out i HJ.out.2.1 (by rw [HJ.out.2.2.1]; exact zX)
            rw [HJ.out.2.2.2, HJ.out.2.2.1] at hfl
            obtain ⟨g1, p1, hv1, _, _, hR1⟩ := HM7.out.o1.row (by omega)
            obtain ⟨rfl, rfl⟩ : a1 = some ⟨g1, 0, none⟩ ∧ c1 = p1 := by simpa using hv1
            obtain ⟨g2, p2, hv2, _, _, hR2⟩ := HM7.out.o2.row (by omega)
            obtain ⟨rfl, rfl⟩ : a2 = some ⟨g2, 0, none⟩ ∧ c2 = p2 := by simpa using hv2
            have d1 := hR1.at' (ts_at (fun j => et K (G j)) m q hfl.1)
            have d2 := hR2.at' (ts_at (fun j => dt K (G j)) m q hfl.1)
            rw [Nat.zero_add] at d1 d2
            rw [hfl.2] at d1 d2
            have hqm : (q : Int) < (m : Int) := by omega
            rw [eb_ok zX, db_ok zX, ee_ok zX]
            obtain ⟨Y, eY⟩ : ∃ y, et K X = y := ⟨_, rfl⟩
            obtain ⟨Z, eZ⟩ : ∃ y, dt K X = y := ⟨_, rfl⟩
            rw [eY] at d1 ⊢
            rw [eZ] at d2 ⊢
            have HF2 := hide (show (fl F (i + 1)).length = q + 1 by rw [HFy.out i (by rw [HJ.out.2.2.1]; exact zX), List.length_append, HJ.out.2.2.2]; rfl)
            clear hv1 hv2 hR1 hR2 eY eZ zX hfl
            go_wp2_with fail
            go_roundg g4
            case measure => omega
            case rel => exact ⟨i + 1, by have := HJ.out.1; omega, by go_num, by rw [HF2.out]; go_num, HM7.out⟩
          · have zXi : ((X.size : Int) != 16) = true := by rw [bne_iff_ne]; omega
            rw [eb_no zX, db_no zX, ee_no zX]
            have HF2 := hide (show (fl F (i + 1)).length = q by rw [HFn.out i (by rw [HJ.out.2.2.1]; exact zX), HJ.out.2.2.2])
            clear zX
            go_wp2_with fail
            go_roundg g4
            case measure => omega
            case rel => exact ⟨i + 1, by have := HJ.out.1; omega, by go_num, by rw [HF2.out], HM7.out⟩
        · obtain rfl : i = k := by omega
          have HM := hide hM
          clear hM
          go_wp2_with fail
          go_ret
          exact ⟨rfl, HM.out.be⟩

theorem aesBlocks_any (w : World) (K : ByteArray) (m0 : K.size ≤ 140737488351232) (sa : Option Addr) (n c : Nat) (F : Nat → ByteArray) (ht : Tx w sa n F) (hk : ∀ j, j < n → (F j).size ≤ 140737488351232) : Calls Try.prog 4 #[.string K, .slice sa n c] w fun e w' => e = .returned (.bool true) ∧ Below w.heap.size w w' := by
  by_cases hn : n ≤ 60
  · by_cases hk : K.size = 32
    · exact aesBlocks_ok K sa n c F w hk hn ht
    · exact aesBlocks_key K sa n c w hk hn
  · exact aesBlocks_long K sa n c w (by omega)

theorem aesBlocks_own : ownKnob Try.prog.godebug = none := by kernel_rfl
theorem aesBlocks_laidOut : laidOutB Try.prog = true := by kernel_rfl

set_option maxRecDepth 100000 in
theorem aesBlocks_lifted (os : Os) (started : os.Started) (H : Type) (enc : TypeId × Value → H) :
    ReturnsInHanded {} Try.checked os 4 .any (Rows.aesBlocksSpec.pre6 enc Try.prog Try.f4 Rows.aesBlocksRow.domain false) (Rows.aesBlocksSpec.post enc Try.prog Try.f4 false true false false) := by
  refine returnsInHanded_of_change_sized (C := Try.checked) aesBlocks_own started (by kernel_rfl) Try.func4
    (ChangeSpec.witness6 (enc := enc) (C := Try.checked) false ⟨#[], #[.string ⟨#[]⟩, .slice none 0 0], []⟩ 8 (by kernel_rfl) (by kernel_rfl) (by kernel_rfl) (by kernel_rfl)) ?_
  intro W base args ds gs before hval0 hW hcnd hsz0 _
  have hval : ∀ (j : Nat) t v, Try.f4.params[j]? = some t → args[j]? = some v → Value.okWide Try.prog W .any base t v := hval0
  have hW' := hW
  obtain ⟨p, q, hA0, hV, rfl, hfz, hnd⟩ := hW
  have hA : DataW.TrodAll enc Try.prog W 0 (fun _ => true) true Try.f4.params.toList args.toList ds p := hA0
  rw [Try.params4] at hA hval
  obtain ⟨v0, vs0, d0, ds0, p0, q0, hargs, rfl, rfl, h0, r0⟩ := trodAll_cons hA
  obtain ⟨v1, vs1, d1, ds1, p1, q1, rfl, rfl, rfl, h1, r1⟩ := trodAll_cons r0
  obtain ⟨rfl, rfl, rfl⟩ := trodAll_nil r1
  obtain rfl : args = #[v0, v1] := by cases args; simp_all
  obtain ⟨rfl, rfl⟩ := trodVars_none hV
  obtain ⟨a0, rfl, rfl, rfl, w0⟩ := open_string Try.underlying9 (hval 0 9 v0 rfl rfl) h0
  have s0 : a0.size ≤ 140737488351232 := sized_string hsz0 (j := 0) (t := 9) rfl rfl
  obtain ⟨a1, len1, cap1, rfl⟩ := okWide_slice Try.underlying30 (hval 1 30 v1 rfl rfl)
  have k1 := h1
  have lt1 : ∀ x ∈ p1, x.block < W.heap.size := by obtain ⟨m, hm⟩ := k1; exact DataW.trod_lt m _ _ _ hm
  obtain ⟨K1, w1⟩ : ∃ K, Tx W a1 len1 K ∧ (∀ j, j < len1 → (K j).size ≤ 140737488351232) := by obtain ⟨fuel, hf⟩ := h1; exact open_texts hf (fun n hn => of_decide_eq_true (List.all_eq_true.1 hsz0 n (DataW.weights_mem_each (j := 1) (t := 30) rfl rfl n hn)))
  clear hA0 hval0 hsz0
  simp only [List.append_nil] at hW'
  refine (aesBlocks_any W a0 s0 a1 len1 cap1 K1 w1.1 w1.2).mono fun e W' ⟨he, bel⟩ => ?_
  subst he
  exact ⟨_, rfl, _, _, _, [], _, [], hW', trodAll_mk1 (shut_bool Try.underlying4 _), (trodAll_cons_mk (shut_string Try.underlying9 w0) (trodAll_cons_mk (Below.trod aesBlocks_laidOut (by kernel_rfl) (of_decide_eq_true (by kernel_rfl)) k1 bel lt1) trodAll_mk0)), rfl, bel.frame _, fun h => by cases h⟩

theorem aesBlocks_holds : Rows.AesBlocksSaid :=
  OpenClaim.holds_of_wide 4 Try.f4 rfl rfl rfl rfl rfl rfl rfl ⟨rfl, rfl, rfl, rfl, rfl⟩ rfl rfl rfl rfl rfl (by kernel_rfl) Try.func4 (by kernel_rfl)
    (of_decide_eq_true (by kernel_rfl)) (by unfold Func.isWrapper; first | (rw [if_pos (by decide +kernel)]; kernel_rfl) | (rw [if_neg (by decide +kernel)]; exact ⟨rfl, rfl⟩))
    (fun os started H enc _ => aesBlocks_lifted os started H enc)

#print axioms aesBlocks_holds

end Go.Proofs.Ytllhnbnddcghoaa
