/- For any key, any block and any number of times the statement AesMany returns true and its arguments read as before. No condition. -/
import Derived.Test.YtllhnbnddcghoaaAWks
import Derived.Test.YtllhnbnddcghoaaIArgs
import Derived.Deep.LoopGhost
import Derived.SizedLaws
namespace Go.Proofs.Ytllhnbnddcghoaa
open Go.ChangeShapes Go.WideShapes Go.ChangeAt Go.RowKit Bk
open Go.ChangeMaps (open_string shut_string)
set_option linter.unusedVariables false
set_option linter.unusedSimpArgs false

theorem toList_beq (a b : ByteArray) : (a.toList == b.toList) = decide (b = a) := by
  by_cases h : b = a
  · subst h; simp
  · rw [decide_eq_false h]
    have : ¬ a.toList = b.toList := fun k => h (sb_inj (by rw [ByteArray.toList_eq, ByteArray.toList_eq] at k; exact k.symm))
    simp [this]
theorem toList_ne {a b : ByteArray} (h : a ≠ b) : (a.toList == b.toList) = false := by
  rw [toList_beq]
  exact decide_eq_false (fun e => h e.symm)

theorem infoSt : (Try.prog.info? 9).map (fun i => (i.zero, i.size, i.bytes)) = some (some (.string ⟨#[]⟩), 1, 16) := by kernel_rfl
/-- A block enciphered k times; the first k of them, as values. -/
def its (K x : ByteArray) : Nat → ByteArray
  | 0 => x
  | k + 1 => et K (its K x k)
theorem its_size {K x : ByteArray} (h : K.size = 32) (hx : x.size = 16) : ∀ k, (its K x k).size = 16
  | 0 => hx
  | k + 1 => et_size h (its_size h hx k)
theorem its_back {K x : ByteArray} (h : K.size = 32) (hx : x.size = 16) (k : Nat) : dt K (its K x (k + 1)) = its K x k := dt_et h (its_size h hx k)
def tx (K x : ByteArray) (m : Nat) : List Value := (List.range m).map fun j => .string (its K x j)
theorem tx_length (K x : ByteArray) (m : Nat) : (tx K x m).length = m := by simp [tx]
theorem tx_succ (K x : ByteArray) (m : Nat) : tx K x (m + 1) = tx K x m ++ [.string (its K x m)] := by unfold tx; rw [List.range_succ, List.map_append]; rfl
theorem tx_at (K x : ByteArray) (m j : Nat) (h : j < m) : (tx K x m)[j]? = some (.string (its K x j)) := by simp [tx, h]
theorem tx_one {K x : ByteArray} {m : Nat} {v : Value} (h : v ∈ tx K x m) : v.oneCell' = true := by
  simp only [tx, List.mem_map] at h
  obtain ⟨j, _, rfl⟩ := h
  rfl
/-- What lies in memory: the cipher, the row of blocks from block B on. -/
structure Mn (w0 w : World) (b B : Nat) (K : ByteArray) (v : Value) (m : Nat) (xs : List Value) : Prop where
  row : Row w b 0 (bs (ciB (kw K)))
  own : Ow w B v m xs
  be : Below w0.heap.size w0 w
  hb : b < B
  hB : B ≤ w.heap.size
  h0 : w0.heap.size ≤ B
theorem Mn.below {w0 w w' : World} {b B : Nat} {K : ByteArray} {v : Value} {m : Nat} {xs : List Value} (h : Mn w0 w b B K v m xs) (k : Below w.heap.size w w') : Mn w0 w' b B K v m xs :=
  ⟨h.row.below k h.row.lt, h.own.keep k, h.be.trans (k.mono h.be.size), h.hb, Nat.le_trans h.hB k.size, h.h0⟩
theorem Mn.grown {w0 w w' : World} {b B : Nat} {K : ByteArray} {v v' : Value} {m m' : Nat} {xs xs' : List Value} (h : Mn w0 w b B K v m xs) (o : Ow w' B v' m' xs') (k : Below B w w') : Mn w0 w' b B K v' m' xs' :=
  ⟨h.row.below k h.hb, o, h.be.trans (k.mono h.h0), h.hb, Nat.le_trans h.hB k.size, h.h0⟩

set_option maxRecDepth 100000 in
set_option maxHeartbeats 16000000 in
theorem aesMany_key (K a : ByteArray) (n : Int) (w : World) (hk : K.size ≠ 32) : Calls Try.prog 7 #[.string K, .string a, .int .i64 n] w fun e w' => e = .returned (.bool true) ∧ Below w.heap.size w w' := by
  have hK := hide hk
  clear hk
  obtain ⟨N, hN, hN20⟩ := u64_rest n 20 (by decide) (by decide)
  go_enter Try.func7, Try.ntmps7
  have HS0 := hide (Below.refl w.heap.size w)
  go_wp2_with fail
  refine (aNew_bad K _ hK.out).mono ?_
  rintro e w1 ⟨rfl, hw⟩
  obtain rfl := hw.symm
  go_wp2_with fail
  refine (works_any _).mono ?_
  rintro e w2 ⟨rfl, hB⟩
  have HS2 := hide (show Below w.heap.size w w2 from HS0.out.trans (hB.mono HS0.out.size))
  clear HS0 hB
  go_wp2_with fail
  refine (works_any _).mono ?_
  rintro e w3 ⟨rfl, hB⟩
  have HS3 := hide (show Below w.heap.size w w3 from HS2.out.trans (hB.mono HS2.out.size))
  clear HS2 hB
  go_wp2_with fail
  go_ret
  exact ⟨rfl, HS3.out⟩

set_option maxRecDepth 100000 in
set_option maxHeartbeats 16000000 in
theorem aesMany_a (K a : ByteArray) (n : Int) (w : World) (hk : K.size = 32) (ha : a.size ≠ 16) : Calls Try.prog 7 #[.string K, .string a, .int .i64 n] w fun e w' => e = .returned (.bool true) ∧ Below w.heap.size w w' := by
  have hK := hide hk
  have f1 : ((a.size : Int) != 16) = true := by rw [bne_iff_ne]; omega
  clear hk ha
  obtain ⟨N, hN, hN20⟩ := u64_rest n 20 (by decide) (by decide)
  go_enter Try.func7, Try.ntmps7
  have HS0 := hide (Below.refl w.heap.size w)
  go_wp2_with fail
  refine (new_c K _ hK.out).mono ?_
  rintro e w1 ⟨c, rfl, hR, hb, hB⟩
  have HS1 := hide (show Below w.heap.size w w1 ∧ Row w1 c 0 (bs (ciB (kw K))) from ⟨HS0.out.trans (hB.mono HS0.out.size), hR⟩)
  clear HS0 hB hR hb
  go_wp2_with fail
  refine (works_any _).mono ?_
  rintro e w2 ⟨rfl, hB⟩
  have HS2 := hide (show Below w.heap.size w w2 ∧ Row w2 c 0 (bs (ciB (kw K))) from ⟨HS1.out.1.trans (hB.mono HS1.out.1.size), HS1.out.2.below hB HS1.out.2.lt⟩)
  clear HS1 hB
  go_wp2_with fail
  refine (works_any _).mono ?_
  rintro e w3 ⟨rfl, hB⟩
  have HS3 := hide (show Below w.heap.size w w3 ∧ Row w3 c 0 (bs (ciB (kw K))) from ⟨HS2.out.1.trans (hB.mono HS2.out.1.size), HS2.out.2.below hB HS2.out.2.lt⟩)
  clear HS2 hB
  go_wp2_with fail
  go_ret
  exact ⟨rfl, HS3.out.1⟩

set_option maxRecDepth 100000 in
set_option maxHeartbeats 16000000 in
theorem aesMany_ok (K a : ByteArray) (n : Int) (w : World) (hk : K.size = 32) (ha : a.size = 16) : Calls Try.prog 7 #[.string K, .string a, .int .i64 n] w fun e w' => e = .returned (.bool true) ∧ Below w.heap.size w w' := by
  have f1 : ((a.size : Int) != 16) = false := by rw [ha]; rfl
  obtain ⟨N, hN, hN20⟩ := u64_rest n 20 (by decide) (by decide)
  have HL := hide (And.intro hk (And.intro ha (its_size hk ha)))
  have HI := hide (its_back hk ha)
  have HN := hide hN20
  clear hk ha
  go_enter Try.func7, Try.ntmps7
  have HS0 := hide (Below.refl w.heap.size w)
  go_wp2_with fail
  refine (new_c K _ HL.out.1).mono ?_
  rintro e w1 ⟨b, rfl, hR, hb, hB⟩
  have HS1 := hide (show Below w.heap.size w w1 ∧ Row w1 b 0 (bs (ciB (kw K))) from ⟨HS0.out.trans (hB.mono HS0.out.size), hR⟩)
  clear HS0 hB hR hb
  go_wp2_with fail
  refine (works_any _).mono ?_
  rintro e w2 ⟨rfl, hB⟩
  have HS2 := hide (show Below w.heap.size w w2 ∧ Row w2 b 0 (bs (ciB (kw K))) from ⟨HS1.out.1.trans (hB.mono HS1.out.1.size), HS1.out.2.below hB HS1.out.2.lt⟩)
  clear HS1 hB
  have HM := hide (show Mn w (w2.alloc (.cells #[.string a] 9)) b w2.heap.size K (.slice (some ⟨w2.heap.size, 0, none⟩) 1 1) 1 (tx K a 1) from
    ⟨HS2.out.2.alloc _, Ow.made w2 w2.heap.size (Nat.le_refl _) [.string a] 9, HS2.out.1.alloc HS2.out.1.size _, HS2.out.2.lt, by rw [World.size_alloc]; omega, HS2.out.1.size⟩)
  clear HS2
  go_wp2_with fail
  clear hN f1
  go_loopg [9, 10, 11, 12] N (fun g v q _ _ wr => ∃ k : Nat, k + g = N ∧ q = .int .i64 k ∧ Mn w wr b w2.heap.size K v (k + 1) (tx K a (k + 1)))
  case atStart => exact ⟨0, by omega, rfl, HM.out⟩
  case round =>
    clear HM
    obtain ⟨k, hkg, rfl, hM⟩ := hrel
    by_cases hlt : k < N
    · have hlt' : (k : Int) < (N : Int) := by omega
      obtain ⟨g3, rfl⟩ : ∃ g3, gk = g3 + 1 := ⟨gk - 1, by omega⟩
      obtain ⟨gb, cap, rfl, hg, hc, hR⟩ := hM.own.row (by omega)
      have c1 := hR.at' (tx_at K a (k + 1) k (by omega))
      rw [Nat.zero_add] at c1
      obtain ⟨X, eX⟩ : ∃ z, its K a k = z := ⟨_, rfl⟩
      obtain ⟨Y, eY⟩ : ∃ z, its K a (k + 1) = z := ⟨_, rfl⟩
      have hXY : et K X = Y := by rw [← eX, ← eY]; rfl
      have zX : X.size = 16 := eX ▸ HL.out.2.2 k
      have zY : Y.size = 16 := eY ▸ HL.out.2.2 (k + 1)
      have zYb : ((Y.size : Int) != 16) = false := by rw [zY]; rfl
      rw [eX] at c1
      have hq : (k : Int) < ((k + 1 : Nat) : Int) := by omega
      have HM := hide hM
      have HX := hide (And.intro hXY (And.intro zX eY))
      have HQ := hide HN.out
      clear hM hR hXY zX zY eX eY hg hc
      go_wp2_with fail
      refine (enc_c K X _ b HL.out.1 HX.out.2.1 HM.out.row).mono ?_
      rintro e w3 ⟨rfl, hB⟩
      rw [HX.out.1]
      have HM3 := hide (HM.out.below hB)
      have HM4 := hide (HM3.out.below ((Below.refl w3.heap.size w3).alloc (Nat.le_refl _) (.cells #[.string Y] 9)))
      clear hB HM c1
      go_wp2_with (refine wpList_appendO rfl (.tmp 61) (.tmp 63) 30 30 rfl 9 Try.underlying30 infoSt (by decide) rfl (B := w2.heap.size) (n := k + 1) (m := 1) (xs := tx K a (k + 1)) (news := [.string Y]) rfl rfl HM4.out.own ((Row.newL w3 [.string Y] 9).src (n := 1) (cap := 1) rfl Try.underlying30 (fun u hu => by simp at hu; subst hu; rfl)) (by have := HQ.out; omega) HM4.out.hB (fun u hu => tx_one hu) ?_
                   intro v5 w5 hO5 hB5
                   have HM5 := hide (HM4.out.grown hO5 hB5)
                   clear hO5 hB5)
      go_roundg g3
      case measure => omega
      case rel => exact ⟨k + 1, by omega, by go_num, by rw [tx_succ, HX.out.2.2]; exact HM5.out⟩
    · obtain rfl : k = N := by omega
      obtain ⟨gb, cap, rfl, hg, hc, hR⟩ := hM.own.row (by omega)
      have c1 := hR.at' (tx_at K a (k + 1) k (by omega))
      rw [Nat.zero_add] at c1
      have hq : (k : Int) < ((k + 1 : Nat) : Int) := by omega
      have HM := hide (show Row wr b 0 (bs (ciB (kw K))) ∧ Row wr gb 0 (tx K a (k + 1)) ∧ Below w.heap.size w wr from ⟨hM.row, hR, hM.be⟩)
      have HQ := hide HN.out
      clear hM hR hg hc
      have v0 := IntWalk.i64_in ((k : Int) - 1) (by have := HQ.out; omega)
      go_wp2_with fail
      clear v0
      go_loopg [13, 14, 15, 16] k (fun g x q _ _ wr => ∃ j : Nat, j = g ∧ x = .string (its K a j) ∧ q = .int .i64 ((j : Int) - 1) ∧ j ≤ k ∧ Row wr b 0 (bs (ciB (kw K))) ∧ Row wr gb 0 (tx K a (k + 1)) ∧ Below w.heap.size w wr)
      case atStart => exact ⟨k, rfl, rfl, rfl, Nat.le_refl _, HM.out⟩
      case round =>
        clear HM c1 hq
        obtain ⟨j, hjg, rfl, rfl, hjk, hM⟩ := hrel
        by_cases hj : 0 < j
        · obtain ⟨i, rfl⟩ : ∃ i, j = i + 1 := ⟨j - 1, by omega⟩
          obtain ⟨g4, rfl⟩ : ∃ g4, gk = g4 + 1 := ⟨gk - 1, by omega⟩
          have eI : ((i + 1 : Nat) : Int) - 1 = (i : Int) := by omega
          rw [eI]
          have hi0 : (0 : Int) ≤ (i : Int) := by omega
          have hi1 : (i : Int) < ((k + 1 : Nat) : Int) := by omega
          have hi2 := IntWalk.i64_in ((i : Int) - 1) (by have := HQ.out; omega)
          obtain ⟨X, eX⟩ : ∃ z, its K a (i + 1) = z := ⟨_, rfl⟩
          obtain ⟨Y, eY⟩ : ∃ z, its K a i = z := ⟨_, rfl⟩
          have hXY : dt K X = Y := by rw [← eX, ← eY]; exact HI.out i
          have zX : X.size = 16 := eX ▸ HL.out.2.2 (i + 1)
          have HM := hide hM
          have HX := hide (And.intro hXY (And.intro zX eY))
          have HJ := hide (And.intro hjg hjk)
          rw [eX]
          clear hM hXY zX eX eI hj hjg hjk
          go_wp2_with fail
          refine (dec_c K X _ b HL.out.1 HX.out.2.1 HM.out.1).mono ?_
          rintro e w6 ⟨rfl, hB⟩
          rw [HX.out.1]
          have HM6 := hide (show Row w6 b 0 (bs (ciB (kw K))) ∧ Row w6 gb 0 (tx K a (k + 1)) ∧ Below w.heap.size w w6 from ⟨HM.out.1.below hB HM.out.1.lt, HM.out.2.1.below hB HM.out.2.1.lt, HM.out.2.2.trans (hB.mono HM.out.2.2.size)⟩)
          have c2 := HM6.out.2.1.at' (tx_at K a (k + 1) i (by have := HJ.out; omega))
          rw [Nat.zero_add, HX.out.2.2] at c2
          clear hB HM
          go_wp2_with fail
          go_roundg g4
          case measure => omega
          case rel => exact ⟨i, by have := HJ.out; omega, by rw [HX.out.2.2], rfl, by have := HJ.out; omega, HM6.out⟩
        · obtain rfl : j = 0 := by omega
          have e0 : its K a 0 = a := rfl
          have HM := hide hM
          rw [e0]
          clear hM e0
          go_wp2_with fail
          go_ret
          exact ⟨rfl, HM.out.2.2⟩

theorem aesMany_any (w : World) (K : ByteArray) (m0 : K.size ≤ 140737488351232) (a : ByteArray) (m1 : a.size ≤ 140737488351232) (n : Int) (bn : -9223372036854775808 ≤ n ∧ n ≤ 9223372036854775807) : Calls Try.prog 7 #[.string K, .string a, .int .i64 n] w fun e w' => e = .returned (.bool true) ∧ Below w.heap.size w w' := by
  by_cases hk : K.size = 32
  · by_cases ha : a.size = 16
    · exact aesMany_ok K a n w hk ha
    · exact aesMany_a K a n w hk ha
  · exact aesMany_key K a n w hk

theorem aesMany_own : ownKnob Try.prog.godebug = none := by kernel_rfl
theorem aesMany_laidOut : laidOutB Try.prog = true := by kernel_rfl

set_option maxRecDepth 100000 in
theorem aesMany_lifted (os : Os) (started : os.Started) (H : Type) (enc : TypeId × Value → H) :
    ReturnsInHanded {} Try.checked os 7 .any (Rows.aesManySpec.pre6 enc Try.prog Try.f7 Rows.aesManyRow.domain false) (Rows.aesManySpec.post enc Try.prog Try.f7 false true false false) := by
  refine returnsInHanded_of_change_sized (C := Try.checked) aesMany_own started (by kernel_rfl) Try.func7
    (ChangeSpec.witness6 (enc := enc) (C := Try.checked) false ⟨#[], #[.string ⟨#[]⟩, .string ⟨#[]⟩, .int .i64 0], []⟩ 8 (by kernel_rfl) (by kernel_rfl) (by kernel_rfl) (by kernel_rfl)) ?_
  intro W base args ds gs before hval0 hW hcnd hsz0 _
  have hval : ∀ (j : Nat) t v, Try.f7.params[j]? = some t → args[j]? = some v → Value.okWide Try.prog W .any base t v := hval0
  have hW' := hW
  obtain ⟨p, q, hA0, hV, rfl, hfz, hnd⟩ := hW
  have hA : DataW.TrodAll enc Try.prog W 0 (fun _ => true) true Try.f7.params.toList args.toList ds p := hA0
  rw [Try.params7] at hA hval
  obtain ⟨v0, vs0, d0, ds0, p0, q0, hargs, rfl, rfl, h0, r0⟩ := trodAll_cons hA
  obtain ⟨v1, vs1, d1, ds1, p1, q1, rfl, rfl, rfl, h1, r1⟩ := trodAll_cons r0
  obtain ⟨v2, vs2, d2, ds2, p2, q2, rfl, rfl, rfl, h2, r2⟩ := trodAll_cons r1
  obtain ⟨rfl, rfl, rfl⟩ := trodAll_nil r2
  obtain rfl : args = #[v0, v1, v2] := by cases args; simp_all
  obtain ⟨rfl, rfl⟩ := trodVars_none hV
  obtain ⟨a0, rfl, rfl, rfl, w0⟩ := open_string Try.underlying9 (hval 0 9 v0 rfl rfl) h0
  have s0 : a0.size ≤ 140737488351232 := sized_string hsz0 (j := 0) (t := 9) rfl rfl
  obtain ⟨a1, rfl, rfl, rfl, w1⟩ := open_string Try.underlying9 (hval 1 9 v1 rfl rfl) h1
  have s1 : a1.size ≤ 140737488351232 := sized_string hsz0 (j := 1) (t := 9) rfl rfl
  obtain ⟨a2, rfl, rfl, rfl, w2⟩ := open_int Try.underlying3 (hval 2 3 v2 rfl rfl) h2
  clear hA0 hval0 hsz0
  simp only [List.append_nil] at hW'
  refine (aesMany_any W a0 s0 a1 s1 a2 (bounds_i64 w2)).mono fun e W' ⟨he, bel⟩ => ?_
  subst he
  exact ⟨_, rfl, _, _, _, [], _, [], hW', trodAll_mk1 (shut_bool Try.underlying4 _), (trodAll_cons_mk (shut_string Try.underlying9 w0) (trodAll_cons_mk (shut_string Try.underlying9 w1) (trodAll_cons_mk (shut_int Try.underlying3 w2) trodAll_mk0))), rfl, bel.frame _, fun h => by cases h⟩

theorem aesMany_holds : Rows.AesManySaid :=
  OpenClaim.holds_of_wide 7 Try.f7 rfl rfl rfl rfl rfl rfl rfl ⟨rfl, rfl, rfl, rfl, rfl⟩ rfl rfl rfl rfl rfl (by kernel_rfl) Try.func7 (by kernel_rfl)
    (of_decide_eq_true (by kernel_rfl)) (by unfold Func.isWrapper; first | (rw [if_pos (by decide +kernel)]; kernel_rfl) | (rw [if_neg (by decide +kernel)]; exact ⟨rfl, rfl⟩))
    (fun os started H enc _ => aesMany_lifted os started H enc)

#print axioms aesMany_holds

end Go.Proofs.Ytllhnbnddcghoaa
