/- For any slice of strings the statement ShaAdds returns true and its argument reads as before. No condition. -/
import Derived.Test.YtgcgflmgppplmaaSArgs
import Derived.Test.YtgcgflmgppplmaaQHmac
import Derived.SizedLaws
namespace Go.Proofs.Ytgcgflmgppplmaa
open Go.ChangeShapes Go.WideShapes Go.ChangeAt Go.RowKit Bk
open Go.ChangeMaps (open_string shut_string)
set_option linter.unusedVariables false
set_option linter.unusedSimpArgs false

/-- A slice of strings. -/
def Tx (w : World) (a : Option Addr) (n : Nat) (K : Nat → ByteArray) : Prop :=
  n = 0 ∨ ∃ b off, a = some ⟨b, off, none⟩ ∧ b < w.heap.size ∧ ∀ j, j < n → w.cell? ⟨b, off + j, none⟩ = some (.string (K j))
theorem Tx.below {w w' : World} {a : Option Addr} {n : Nat} {K : Nat → ByteArray} (h : Tx w a n K) (k : Below w.heap.size w w') : Tx w' a n K := by
  rcases h with h | ⟨b, off, ha, hb, hc⟩
  · exact .inl h
  · exact .inr ⟨b, off, ha, Nat.lt_of_lt_of_le hb k.size, fun j hj => (k.cell (p := ⟨b, off + j, none⟩) hb).trans (hc j hj)⟩
theorem Tx.at' {w : World} {a : Option Addr} {n : Nat} {K : Nat → ByteArray} (h : Tx w a n K) {j : Nat} (hj : j < n) : ∃ b off, a = some ⟨b, off, none⟩ ∧ b < w.heap.size ∧ w.cell? ⟨b, off + j, none⟩ = some (.string (K j)) := by
  rcases h with h | ⟨b, off, ha, hb, hc⟩
  · omega
  · exact ⟨b, off, ha, hb, hc j hj⟩
/-- What the first k count for; the first k, put together. -/
def sz (K : Nat → ByteArray) : Nat → Nat
  | 0 => 0
  | k + 1 => sz K k + (K k).size + 100
def cat (K : Nat → ByteArray) : Nat → List UInt8
  | 0 => []
  | k + 1 => cat K k ++ sb (K k)
theorem cat_length (K : Nat → ByteArray) (k : Nat) : (cat K k).length + 100 * k = sz K k := by
  induction k with
  | zero => rfl
  | succ k ih => simp only [cat, sz, List.length_append, sb_length]; omega
theorem sz_le (K : Nat → ByteArray) {j k : Nat} (h : j ≤ k) : sz K j ≤ sz K k := by
  induction k with
  | zero => obtain rfl : j = 0 := by omega
            exact Nat.le_refl _
  | succ k ih =>
    by_cases e : j = k + 1
    · subst e; exact Nat.le_refl _
    · have := ih (by omega)
      simp only [sz]; omega
theorem cat_le (K : Nat → ByteArray) {j k : Nat} (h : j ≤ k) : (cat K j).length ≤ (cat K k).length := by
  have h1 := cat_length K j
  induction k with
  | zero => obtain rfl : j = 0 := by omega
            exact Nat.le_refl _
  | succ k ih =>
    by_cases e : j = k + 1
    · subst e; exact Nat.le_refl _
    · have := ih (by omega)
      simp only [cat, List.length_append]; omega

set_option maxRecDepth 100000 in
set_option maxHeartbeats 8000000 in
theorem shaAdds_any (w : World) (a : Option Addr) (n c : Nat) (K : Nat → ByteArray) (ht : Tx w a n K) (hk : ∀ j, j < n → (K j).size ≤ 140737488351232) :
    Calls Try.prog 5 #[.slice a n c] w fun e w' => e = .returned (.bool true) ∧ Below w.heap.size w w' := by
  have HT := hide ht
  have HK := hide hk
  clear ht hk
  go_enter Try.func5, Try.ntmps5
  go_wp2_with fail
  go_loopg [3, 4] n (fun g v t wr => ∃ k : Nat, k + g = n ∧ t = .int .i64 k ∧ v = .int .i64 ((sz K k : Nat) : Int) ∧ (k = 0 ∨ sz K k < 140737488400000) ∧ wr = w)
  case atStart => exact ⟨0, by omega, rfl, rfl, .inl rfl, rfl⟩
  case round =>
    obtain ⟨k, hkg, rfl, rfl, hsz, rfl⟩ := hrel
    obtain ⟨S, eS⟩ : ∃ S, sz K k = S := ⟨_, rfl⟩
    have hS : S < 140737488400000 := by
      rcases hsz with h | h
      · subst h; have : S = 0 := eS.symm; omega
      · omega
    rw [eS]
    by_cases hcond : k < n ∧ S < 4000
    · have hlt : (k : Int) < (n : Int) := by omega
      have hS6 : (S : Int) < 4000 := by omega
      have hk40 : (k : Int) ≤ 40 := by have := cat_length K k; omega
      obtain ⟨g3, rfl⟩ : ∃ g3, gk = g3 + 1 := ⟨gk - 1, by omega⟩
      obtain ⟨b, off, rfl, hb, hc⟩ := HT.out.at' hcond.1
      have hkk := HK.out k hcond.1
      obtain ⟨x, ex⟩ : ∃ x, K k = x := ⟨_, rfl⟩
      rw [ex] at hc hkk
      have w1 : IntKind.i64.wrap ((S : Int) + (x.size : Int)) = (S : Int) + (x.size : Int) := IntWalk.i64_in _ (by omega)
      have w2 : IntKind.i64.wrap ((S : Int) + (x.size : Int) + 100) = (S : Int) + (x.size : Int) + 100 := IntWalk.i64_in _ (by omega)
      have HN := hide (show sz K (k + 1) = S + x.size + 100 ∧ S + x.size + 100 < 140737488400000 from ⟨by simp only [sz]; rw [eS, ex], by omega⟩)
      clear hcond hsz eS ex
      go_wp2_with fail
      go_roundg g3
      case measure => omega
      case rel =>
        refine ⟨k + 1, by omega, by go_num, ?_, .inr (by rw [HN.out.1]; exact HN.out.2), rfl⟩
        rw [HN.out.1]
        go_num
    · by_cases hbig : 4000 ≤ S
      · have hbI : (4000 : Int) ≤ (S : Int) := by omega
        have hnS : ¬ ((S : Int) < 4000) := by omega
        by_cases hkn : k < n
        · have hknI : (k : Int) < (n : Int) := by omega
          go_wp2_with fail
          go_ret
          exact ⟨rfl, Below.refl _ _⟩
        · have hknI : ¬ ((k : Int) < (n : Int)) := by omega
          go_wp2_with fail
          go_ret
          exact ⟨rfl, Below.refl _ _⟩
      · have hbI : ¬ ((4000 : Int) ≤ (S : Int)) := by omega
        obtain rfl : k = n := by omega
        have hknI : ¬ ((k : Int) < (k : Int)) := by omega
        have HS := hide (show sz K k < 4000 by omega)
        clear hcond hsz eS hbig hS
        obtain ⟨wr0, ewr⟩ : ∃ v, v = wr := ⟨_, rfl⟩
        subst ewr
        have HB0 := hide (Below.refl wr0.heap.size wr0)
        go_wp2_with fail
        refine (snew_any _).mono ?_
        rintro e w1 ⟨bh, rfl, hbw1, hHw1, hw1⟩
        have Lh := hide (Nat.le_trans HB0.out.size hbw1)
        have Kw1 := hide hHw1
        clear hbw1 hHw1
        have HBw1 := hide (HB0.out.trans (hw1.mono HB0.out.size))
        clear hw1 HB0
        go_wp2_with fail
        go_loopg [6, 7, 8] k (fun g v t _ wr => ∃ (i : Nat) (A : ByteArray), i + g = k ∧ t = .int .i64 i ∧ v = .string A ∧ sb A = cat K i ∧ Ss wr bh (cat K i) ∧ Below wr0.heap.size wr0 wr)
        case atStart => exact ⟨0, ⟨#[]⟩, by omega, rfl, rfl, rfl, Kw1.out, HBw1.out⟩
        case round =>
          clear Kw1 HBw1
          obtain ⟨i, A, hig, rfl, rfl, hA, hHh, hHB⟩ := hrel
          have Hh0 := hide hHh
          have HB0 := hide hHB
          have HBz := hide hHB
          clear hHh hHB
          have hci := cat_length K i
          have hsi : sz K i < 4000 := Nat.lt_of_le_of_lt (sz_le K (show i ≤ k by omega)) HS.out
          obtain ⟨D, eD⟩ : ∃ D, sdg (cat K i) = D := ⟨_, rfl⟩
          have HA := hide hA
          have hAs : A.size < 4000 := by rw [← sb_length, hA]; omega
          have HAL := hide (show (cat K i).length < 4000 by omega)
          have hi61 : i ≤ 40 := by omega
          clear hA hci hsi
          by_cases hlt : i < k
          · have hltI : (i : Int) < (k : Int) := by omega
            obtain ⟨g3, rfl⟩ : ∃ g3, gk = g3 + 1 := ⟨gk - 1, by omega⟩
            obtain ⟨b, off, rfl, hb, hc⟩ := (HT.out.below HB0.out).at' hlt
            obtain ⟨b', off', ha', hb', _⟩ := HT.out.at' hlt
            have hbw : b < wr0.heap.size := by have e9 : b = b' ∧ off = off' := by simpa using ha'
                                               rw [e9.1]; exact hb'
            clear ha' hb'
            have hsi1 : sz K (i + 1) < 4000 := Nat.lt_of_le_of_lt (sz_le K (show i + 1 ≤ k by omega)) HS.out
            have hc1 := cat_length K (i + 1)
            obtain ⟨x, ex⟩ : ∃ x, K i = x := ⟨_, rfl⟩
            rw [ex] at hc
            have hcat : cat K (i + 1) = cat K i ++ sb x := by simp only [cat]; rw [ex]
            have hxl : (cat K i).length + x.size < 4000 := by rw [hcat, List.length_append, sb_length] at hc1; omega
            obtain ⟨C1, eC1⟩ : ∃ C1, cat K i ++ sb x = C1 := ⟨_, rfl⟩
            obtain ⟨A1, eA1⟩ : ∃ A1, A ++ x = A1 := ⟨_, rfl⟩
            obtain ⟨A2, eA2⟩ : ∃ A2, A ++ (ByteArray.mk #[63]) = A2 := ⟨_, rfl⟩
            have sA1 : sb A1 = C1 := by rw [← eA1, sb_append, HA.out, eC1]
            have sA2 : sb A2 = cat K i ++ sb ⟨#[63]⟩ := by rw [← eA2, sb_append, HA.out]
            have p1 : ∀ w, (Op.stringOp .add A x).run Try.prog w = .ok (.string A1) w := fun w => by rw [run_string_add_sum _ _ _ (by omega), eA1]
            have p2 : ∀ w, (Op.stringOp .add A (ByteArray.mk #[63])).run Try.prog w = .ok (.string A2) w := fun w => by rw [run_string_add_sum _ _ _ (by have : (ByteArray.mk #[63]).size = 1 := rfl; omega), eA2]
            obtain ⟨D1, eD1⟩ : ∃ D1, sdg C1 = D1 := ⟨_, rfl⟩
            obtain ⟨D2, eD2⟩ : ∃ D2, sdg (cat K i ++ sb ⟨#[63]⟩) = D2 := ⟨_, rfl⟩
            have HC := hide (And.intro eC1 (And.intro sA1 (And.intro sA2 (And.intro eD1 (And.intro eD2 (And.intro eD (hcat.trans eC1)))))))
            have HXL := hide hxl
            have hA1s : A1.size < 4000 := by rw [← sb_length, sA1, ← eC1, List.length_append, sb_length]; exact hxl
            have hA2s : A2.size < 4001 := by rw [← sb_length, sA2, List.length_append]; have := HAL.out; show _ + 1 < _; omega
            have hC1s := hide (show C1.length < 4000 by rw [← eC1, List.length_append, sb_length]; exact hxl)
            clear eC1 eA1 eA2 sA1 sA2 eD1 eD2 eD hsi1 hc1 hcat hxl ex
            go_wp2_with fail
            refine (scopy_any Hh0.out).mono ?_
            rintro e v1 ⟨bq, rfl, hbv1, hHv1, hv1⟩
            have Nhq := hide (Hh0.out.ne hbv1)
            have Lq := hide (Nat.le_trans HB0.out.size hbv1)
            have Kv1 := hide hHv1
            clear hbv1 hHv1
            have Hhv1 := hide (Hh0.out.below hv1)
            have HBv1 := hide (HB0.out.trans (hv1.mono HB0.out.size))
            clear hv1 Hh0 HB0
            have hc9 : v1.cell? ⟨b, off + i, none⟩ = some (.string x) := by
              have h9 := (HBv1.out.cell (p := ⟨b, off + i, none⟩) hbw)
              have h8 := (HBz.out.cell (p := ⟨b, off + i, none⟩) hbw)
              exact h9.trans (h8.symm.trans hc)
            go_wp2_with fail
            refine (sadd_any x Hhv1.out (by have := HXL.out; omega)).mono ?_
            rintro e u1 ⟨rfl, hHu1, hu1⟩
            rw [HC.out.1] at hHu1
            have Hqu1 := hide (Kv1.out.bt hu1 Nhq.out.symm)
            have Hhu1 := hide hHu1
            have HBu1 := hide (HBv1.out.trans (hu1.below Lh.out HBv1.out.size))
            clear hHu1 hu1 Hhv1 Kv1 HBv1
            go_wp2_with fail
            refine (shsum_any Hqu1.out (by have := HAL.out; omega)).mono ?_
            rintro e u2 ⟨rfl, hu2⟩
            rw [HC.out.2.2.2.2.2.1]
            have Hhu2 := hide (Hhu1.out.below hu2)
            have Hqu2 := hide (Hqu1.out.below hu2)
            have HBu2 := hide (HBu1.out.trans (hu2.mono HBu1.out.size))
            clear hu2 Hhu1 Hqu1 HBu1
            go_wp2_with fail
            refine (rsum_any A _ (by omega)).mono ?_
            rintro e u3 ⟨rfl, hu3⟩
            rw [HA.out, HC.out.2.2.2.2.2.1]
            have Hhu3 := hide (Hhu2.out.below hu3)
            have Hqu3 := hide (Hqu2.out.below hu3)
            have HBu3 := hide (HBu2.out.trans (hu3.mono HBu2.out.size))
            clear hu3 Hhu2 Hqu2 HBu2
            go_wp2_with fail
            refine (sadd_any ⟨#[63]⟩ Hqu3.out (by have := HAL.out; show _ + 1 < _; omega)).mono ?_
            rintro e u4 ⟨rfl, hHu4, hu4⟩
            have Hhu4 := hide (Hhu3.out.bt hu4 Nhq.out)
            have Hqu4 := hide hHu4
            have HBu4 := hide (HBu3.out.trans (hu4.below Lq.out HBu3.out.size))
            clear hHu4 hu4 Hhu3 Hqu3 HBu3
            have hc8 : u4.cell? ⟨b, off + i, none⟩ = some (.string x) := by
              have h9 := (HBu4.out.cell (p := ⟨b, off + i, none⟩) hbw)
              have h8 := (HBz.out.cell (p := ⟨b, off + i, none⟩) hbw)
              exact h9.trans (h8.symm.trans hc)
            go_wp2_with fail
            refine (shsum_any Hhu4.out (by have := hC1s.out; omega)).mono ?_
            rintro e s1 ⟨rfl, hs1⟩
            rw [HC.out.2.2.2.1]
            have Hhs1 := hide (Hhu4.out.below hs1)
            have HBs1 := hide (HBu4.out.trans (hs1.mono HBu4.out.size))
            clear hs1 Hhu4 HBu4
            go_wp2_with fail
            refine (rsum_any A1 _ (by omega)).mono ?_
            rintro e s2 ⟨rfl, hs2⟩
            rw [HC.out.2.1, HC.out.2.2.2.1]
            have Hhs2 := hide (Hhs1.out.below hs2)
            have HBs2 := hide (HBs1.out.trans (hs2.mono HBs1.out.size))
            clear hs2 Hhs1 HBs1
            go_wp2_with fail
            go_roundg g3
            case measure => omega
            case rel => exact ⟨i + 1, A1, by omega, by go_num, rfl, HC.out.2.1.trans HC.out.2.2.2.2.2.2.symm, by rw [HC.out.2.2.2.2.2.2]; exact Hhs2.out, HBs2.out⟩
          · obtain rfl : i = k := by omega
            have hltI : ¬ ((i : Int) < (i : Int)) := by omega
            go_wp2_with fail
            refine (shsum_any Hh0.out (by have := HAL.out; omega)).mono ?_
            rintro e e1 ⟨rfl, he1⟩
            rw [eD]
            have Hhe1 := hide (Hh0.out.below he1)
            have HBe1 := hide (HB0.out.trans (he1.mono HB0.out.size))
            clear he1 Hh0 HB0
            go_wp2_with fail
            refine (rsum_any A _ (by omega)).mono ?_
            rintro e e2 ⟨rfl, he2⟩
            rw [HA.out, eD]
            have Hhe2 := hide (Hhe1.out.below he2)
            have HBe2 := hide (HBe1.out.trans (he2.mono HBe1.out.size))
            clear he2 Hhe1 HBe1
            go_wp2_with fail
            go_ret
            exact ⟨rfl, HBe2.out⟩

theorem mem_weightsAll {H : Type} {P : Program} {e : TypeId} {n : Nat} {d : DataW H} : ∀ (l : List (DataW H)), d ∈ l → n ∈ d.weights P e → n ∈ DataW.weightsAll P e l
  | [], h, _ => (by cases h)
  | x :: r, h, hn => by
    unfold DataW.weightsAll
    rcases List.mem_cons.1 h with rfl | h
    · exact List.mem_append_left _ hn
    · exact List.mem_append_right _ (mem_weightsAll r h hn)
theorem open_texts {H : Type} {enc : TypeId × Value → H} {w : World} {base : Nat} {spare : Nat → Bool} {held : Bool} {fuel : Nat} {a : Option Addr} {len cap : Nat} {x : DataW H × List MemPlace}
    (h : DataW.trod enc Try.prog w base spare held fuel 32 [.slice a len cap] = some x) (hb : ∀ n ∈ x.1.weights Try.prog 32, n ≤ reachBytes) : ∃ K : Nat → ByteArray, Tx w a len K ∧ ∀ j, j < len → (K j).size ≤ 140737488351232 := by
  have hcs : Try.prog.cellsOf 9 = 1 := by kernel_rfl
  rcases Go.Deep.open_strs Try.underlying32 Try.underlying9 hcs h with ⟨h0, _⟩ | ⟨a', len', cap', m, Sx, hc, hb0, hl, hm, hmm, hx, hcell⟩
  · simp at h0
    exact ⟨fun _ => ⟨#[]⟩, .inl h0.2.1, fun j hj => by omega⟩
  · simp at hc
    obtain ⟨rfl, rfl, rfl⟩ := hc
    have hlm : len ≤ m := by rw [hmm]; split <;> omega
    refine ⟨Sx, ?_, fun j hj => ?_⟩
    · by_cases h0 : len = 0
      · exact .inl h0
      · obtain ⟨b, off, spot⟩ := a'
        have hspot : spot = none := by
          have := World.cell?_spot (hcell 0 (by omega)).1
          simpa [Addr.add] using this
        subst hspot
        refine .inr ⟨b, off, rfl, ?_, fun j hj => ?_⟩
        · have := (hcell 0 (by omega)).1
          rw [Addr.add_mid] at this
          exact World.block_lt_of_cell? w _ this
        · have := (hcell j (by omega)).1
          rwa [Addr.add_mid] at this
    · have hw : (Sx j).data.toList.length ∈ x.1.weights Try.prog 32 := by
        rw [hx]
        unfold DataW.weights
        rw [Try.underlying32]
        refine List.mem_cons_of_mem _ (List.mem_append_left _ (mem_weightsAll _ (List.mem_map.2 ⟨j, List.mem_range.2 hj, rfl⟩) ?_))
        unfold DataW.weights
        exact List.mem_singleton.2 rfl
      have := hb _ hw
      rw [Array.length_toList] at this
      exact this

theorem shaAdds_own : ownKnob Try.prog.godebug = none := by kernel_rfl
theorem shaAdds_laidOut : laidOutB Try.prog = true := by kernel_rfl

set_option maxRecDepth 100000 in
theorem shaAdds_lifted (os : Os) (started : os.Started) (H : Type) (enc : TypeId × Value → H) :
    ReturnsInHanded {} Try.checked os 5 .any (Rows.shaAddsSpec.pre6 enc Try.prog Try.f5 Rows.shaAddsRow.domain false) (Rows.shaAddsSpec.post enc Try.prog Try.f5 false true false false) := by
  refine returnsInHanded_of_change_sized (C := Try.checked) shaAdds_own started (by kernel_rfl) Try.func5
    (ChangeSpec.witness6 (enc := enc) (C := Try.checked) false ⟨#[], #[.slice none 0 0], []⟩ 8 (by kernel_rfl) (by kernel_rfl) (by kernel_rfl) (by kernel_rfl)) ?_
  intro W base args ds gs before hval0 hW hcnd hsz0 _
  have hval : ∀ (j : Nat) t v, Try.f5.params[j]? = some t → args[j]? = some v → Value.okWide Try.prog W .any base t v := hval0
  have hW' := hW
  obtain ⟨p, q, hA0, hV, rfl, hfz, hnd⟩ := hW
  have hA : DataW.TrodAll enc Try.prog W 0 (fun _ => true) true Try.f5.params.toList args.toList ds p := hA0
  rw [Try.params5] at hA hval
  obtain ⟨v0, vs0, d0, ds0, p0, q0, hargs, rfl, rfl, h0, r0⟩ := trodAll_cons hA
  obtain ⟨rfl, rfl, rfl⟩ := trodAll_nil r0
  obtain rfl : args = #[v0] := by cases args; simp_all
  obtain ⟨rfl, rfl⟩ := trodVars_none hV
  obtain ⟨a0, len0, cap0, rfl⟩ := okWide_slice Try.underlying32 (hval 0 32 v0 rfl rfl)
  have k0 := h0
  have lt0 : ∀ x ∈ p0, x.block < W.heap.size := by obtain ⟨m, hm⟩ := k0; exact DataW.trod_lt m _ _ _ hm
  obtain ⟨K0, w0⟩ : ∃ K, Tx W a0 len0 K ∧ (∀ j, j < len0 → (K j).size ≤ 140737488351232) := by obtain ⟨fuel, hf⟩ := h0; exact open_texts hf (fun n hn => of_decide_eq_true (List.all_eq_true.1 hsz0 n (DataW.weights_mem_each (j := 0) (t := 32) rfl rfl n hn)))
  clear hA0 hval0 hsz0
  refine (shaAdds_any W a0 len0 cap0 K0 w0.1 w0.2).mono fun e W' ⟨he, bel⟩ => ?_
  subst he
  exact ⟨_, rfl, _, _, _, [], _, [], hW', trodAll_mk1 (shut_bool Try.underlying4 _), (trodAll_cons_mk (Below.trod shaAdds_laidOut (by kernel_rfl) (of_decide_eq_true (by kernel_rfl)) k0 bel lt0) trodAll_mk0), rfl, bel.frame _, fun h => by cases h⟩

theorem shaAdds_holds : Rows.ShaAddsSaid :=
  OpenClaim.holds_of_wide 5 Try.f5 rfl rfl rfl rfl rfl rfl rfl ⟨rfl, rfl, rfl, rfl, rfl⟩ rfl rfl rfl rfl rfl (by kernel_rfl) Try.func5 (by kernel_rfl)
    (of_decide_eq_true (by kernel_rfl)) (by unfold Func.isWrapper; first | (rw [if_pos (by decide +kernel)]; kernel_rfl) | (rw [if_neg (by decide +kernel)]; exact ⟨rfl, rfl⟩))
    (fun os started H enc _ => shaAdds_lifted os started H enc)

#print axioms shaAdds_holds

end Go.Proofs.Ytgcgflmgppplmaa
