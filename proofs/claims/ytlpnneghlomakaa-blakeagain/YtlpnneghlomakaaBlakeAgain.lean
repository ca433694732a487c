/- For any slice of pairs of strings the statement BlakeAgain returns true and its argument reads as before. No condition. -/
import Derived.Test.YtlpnneghlomakaaBArgs
import Derived.SizedLaws
import Derived.Maps.AppendAt
namespace Go.Proofs.Ytlpnneghlomakaa
open Go.ChangeShapes Go.WideShapes Go.ChangeAt Go.RowKit Bk
open Go.ChangeMaps (open_string shut_string)
set_option linter.unusedVariables false
set_option linter.unusedSimpArgs false

theorem owns_below {w w' : World} {base : Nat} {e : TypeId} {size : Nat} {v : Value} {n : Nat} {xs : List Value} (h : w.ownsRow base e size v n xs) (hB : Below w.heap.size w w') : w'.ownsRow base e size v n xs := by
  refine ⟨h.1, ?_⟩
  rcases h.2 with h0 | ⟨g, cap, cur, rfl, hg, hgb, r⟩
  · exact .inl h0
  · exact .inr ⟨g, cap, cur, rfl, hg, (hB.block g (Array.getElem?_eq_some_iff.1 hgb).1).trans hgb, r⟩
theorem owns_bt {w w' : World} {base b : Nat} {size : Nat} {v : Value} {n : Nat} {xs : List Value} (h : w.ownsRow base 9 size v n xs) (t : Ty w b) (k : Bt b w w') : w'.ownsRow base 9 size v n xs := by
  refine ⟨h.1, ?_⟩
  rcases h.2 with h0 | ⟨g, cap, cur, rfl, hg, hgb, r⟩
  · exact .inl h0
  · have hne : g ≠ b := by
      rintro rfl
      obtain ⟨C', fr', hb⟩ := t
      rw [hgb] at hb
      simp at hb
    exact .inr ⟨g, cap, cur, rfl, hg, (k.block g (Array.getElem?_eq_some_iff.1 hgb).1 hne).trans hgb, r⟩
/-- A slice of pairs of strings. -/
def Pw (w : World) (a : Option Addr) (n : Nat) (K T : Nat → ByteArray) : Prop :=
  n = 0 ∨ ∃ b off, a = some ⟨b, off, none⟩ ∧ b < w.heap.size ∧ ∀ j, j < n → w.cell? ⟨b, off + j * 2, none⟩ = some (.string (K j)) ∧ w.cell? ⟨b, off + j * 2 + 1, none⟩ = some (.string (T j))
theorem Pw.below {w w' : World} {a : Option Addr} {n : Nat} {K T : Nat → ByteArray} (h : Pw w a n K T) (k : Below w.heap.size w w') : Pw w' a n K T := by
  rcases h with h | ⟨b, off, ha, hb, hc⟩
  · exact .inl h
  · exact .inr ⟨b, off, ha, Nat.lt_of_lt_of_le hb k.size, fun j hj => ⟨(k.cell (p := ⟨b, off + j * 2, none⟩) hb).trans (hc j hj).1, (k.cell (p := ⟨b, off + j * 2 + 1, none⟩) hb).trans (hc j hj).2⟩⟩
theorem Pw.at' {w : World} {a : Option Addr} {n : Nat} {K T : Nat → ByteArray} (h : Pw w a n K T) {j : Nat} (hj : j < n) : ∃ b off, a = some ⟨b, off, none⟩ ∧ w.cell? ⟨b, off + j * 2, none⟩ = some (.string (K j)) ∧ w.cell? ⟨b, off + j * 2 + 1, none⟩ = some (.string (T j)) := by
  rcases h with h | ⟨b, off, ha, hb, hc⟩
  · omega
  · exact ⟨b, off, ha, hc j hj⟩
/-- The first k digests. -/
def svs (K T : Nat → ByteArray) (k : Nat) : List Value := (List.range k).map fun j => Value.string (kyv (K j) (T j))
theorem svs_succ (K T : Nat → ByteArray) (k : Nat) : svs K T (k + 1) = svs K T k ++ [.string (kyv (K k) (T k))] := by simp [svs, List.range_succ]
theorem owns_at {w : World} {base n : Nat} {v : Value} {K T : Nat → ByteArray} (h : w.ownsRow base 9 1 v n (svs K T n)) (j : Nat) (hj : j < n) : ∃ g cap, v = .slice (some ⟨g, 0, none⟩) n cap ∧ n ≤ cap ∧ w.cell? ⟨g, j, none⟩ = some (.string (kyv (K j) (T j))) := by
  rcases h.2 with ⟨_, h0⟩ | ⟨g, cap, cur, rfl, hg, hgb, hn, hm, hs, ht⟩
  · omega
  · refine ⟨g, cap, rfl, hn, ?_⟩
    rw [cell_of_row _ _ _ _ _ _ hgb]
    have hxs : (svs K T n)[j]? = some (.string (kyv (K j) (T j))) := by simp [svs, hj]
    first
      | (rw [← ht.1] at hxs; rw [List.getElem?_take_of_lt (by omega)] at hxs; simpa using hxs)
      | (rw [← ht] at hxs; rw [List.getElem?_take_of_lt (by omega)] at hxs; simpa using hxs)
theorem infoS : (Try.prog.info? 9).map (fun i => (i.zero, i.size, i.bytes)) = some (some (.string ⟨#[]⟩), 1, 16) := by kernel_rfl

set_option maxRecDepth 100000 in
set_option maxHeartbeats 8000000 in
theorem blakeAgain_big (a : Option Addr) (n c : Nat) (w : World) (h : 12 < n) : Calls Try.prog 8 #[.slice a n c] w fun e w' => e = .returned (.bool true) ∧ Below w.heap.size w w' := by
  have f0 : (12 : Int) < (n : Int) := by omega
  go_enter Try.func8, Try.ntmps8
  have HB0 := hide (Below.refl w.heap.size w)
  go_wp2_with fail
  refine (works_any _).mono ?_
  rintro e w1 ⟨rfl, hw1⟩
  have HBw1 := hide (HB0.out.trans (hw1.mono HB0.out.size))
  clear hw1 HB0
  go_wp2_with fail
  refine (works_any _).mono ?_
  rintro e w2 ⟨rfl, hw2⟩
  have HBw2 := hide (HBw1.out.trans (hw2.mono HBw1.out.size))
  clear hw2 HBw1
  go_wp2_with fail
  go_ret
  exact ⟨rfl, HBw2.out⟩

set_option maxRecDepth 100000 in
set_option maxHeartbeats 8000000 in
theorem blakeAgain_main (a : Option Addr) (n c : Nat) (K T : Nat → ByteArray) (w : World) (hp : Pw w a n K T) (hn : n ≤ 12) : Calls Try.prog 8 #[.slice a n c] w fun e w' => e = .returned (.bool true) ∧ Below w.heap.size w w' := by
  obtain ⟨i0, hi, hz0, hz1, hz2⟩ := info_parts infoS
  have f0 : ¬ ((12 : Int) < (n : Int)) := by omega
  have HP := hide hp
  clear hp
  go_enter Try.func8, Try.ntmps8
  have HB0 := hide (Below.refl w.heap.size w)
  go_wp2_with fail
  refine (works_any _).mono ?_
  rintro e w1 ⟨rfl, hw1⟩
  have HBw1 := hide (HB0.out.trans (hw1.mono HB0.out.size))
  clear hw1 HB0
  go_wp2_with fail
  go_loopg [3, 4, 5, 6] n (fun g v t _ _ wr => ∃ k : Nat, k + g = n ∧ t = .int .i64 k ∧ wr.ownsRow w.heap.size 9 1 v k (svs K T k) ∧ (∀ j, j < k → (K j).size ≤ 40 ∧ (T j).size ≤ 1000) ∧ Below w.heap.size w wr)
  case atStart => exact ⟨0, by omega, rfl, World.ownsRow_nil _ _ _ _, fun j hj => by omega, HBw1.out⟩
  case round =>
    clear HBw1
    obtain ⟨k, hkg, rfl, hO, hsz, hHB⟩ := hrel
    have HO := hide hO
    have HSZ := hide hsz
    have HB0 := hide hHB
    clear hO hsz hHB
    by_cases hlt : k < n
    · have hlt' : (k : Int) < (n : Int) := by omega
      obtain ⟨g3, rfl⟩ : ∃ g3, gk = g3 + 1 := ⟨gk - 1, by omega⟩
      obtain ⟨b, off, rfl, hc0, hc1⟩ := (HP.out.below HB0.out).at' hlt
      obtain ⟨key, ekey⟩ : ∃ key, K k = key := ⟨_, rfl⟩
      obtain ⟨txt, etxt⟩ : ∃ txt, T k = txt := ⟨_, rfl⟩
      rw [ekey] at hc0
      rw [etxt] at hc1
      have HE := hide (And.intro ekey etxt)
      clear ekey etxt
      by_cases c1 : 40 < key.size
      · have c1' : (40 : Int) < (key.size : Int) := by omega
        go_wp2_with fail
        go_ret
        exact ⟨rfl, HB0.out⟩
      · by_cases c2 : 1000 < txt.size
        · have c1' : ¬ ((40 : Int) < (key.size : Int)) := by omega
          have c2' : (1000 : Int) < (txt.size : Int) := by omega
          go_wp2_with fail
          go_ret
          exact ⟨rfl, HB0.out⟩
        · have c1' : ¬ ((40 : Int) < (key.size : Int)) := by omega
          have c2' : ¬ ((1000 : Int) < (txt.size : Int)) := by omega
          go_wp2_with fail
          obtain ⟨V, eV⟩ : ∃ V, kyv key txt = V := ⟨_, rfl⟩
          obtain ⟨E, eE⟩ : ∃ E, kye key = E := ⟨_, rfl⟩
          have HV := hide (And.intro eV eE)
          clear eV eE
          refine wp_region_ord (fun w9 => w9.cell? ⟨b, off + k * 2, none⟩ = some (.string key) ∧ w9.cell? ⟨b, off + k * 2 + 1, none⟩ = some (.string txt)) 10 [(0, some true), (1, some true), (2, some true), (3, some true), (4, some false), (5, some true), (6, some true), (7, some true), (8, some true), (9, some false), (10, none), (11, some true), (12, some true), (13, some true), (14, none), (15, none)] (by kernel_rfl) (by kernel_rfl) (fun _ _ _ _ h => h) ⟨hc0, hc1⟩ ?_
          refine ord_pure (o := ⟨some 42, _, _, _, _, _⟩) (.slice (some ⟨b, off, none⟩) n c) rfl (by kernel_rfl) (fun w9 => by go_simp) ?_
          simp only [Act.put, List.setIfInBounds_toArray, List.set_cons_zero, List.set_cons_succ]
          refine ord_pure (o := ⟨some 43, _, _, _, _, _⟩) (.int .i64 (k : Int)) rfl (by kernel_rfl) (fun w9 => by go_simp) ?_
          simp only [Act.put, List.setIfInBounds_toArray, List.set_cons_zero, List.set_cons_succ]
          refine ord_pure (o := ⟨some 44, _, _, _, _, _⟩) (.pointer (some ⟨b, off + k * 2, none⟩)) rfl (by kernel_rfl) (fun w9 => by go_simp) ?_
          simp only [Act.put, List.setIfInBounds_toArray, List.set_cons_zero, List.set_cons_succ]
          refine ord_pure (o := ⟨some 45, _, _, _, _, _⟩) (.pointer (some ⟨b, off + k * 2, none⟩)) rfl (by kernel_rfl) (fun w9 => by go_simp) ?_
          simp only [Act.put, List.setIfInBounds_toArray, List.set_cons_zero, List.set_cons_succ]
          refine ord_held (o := ⟨some 46, _, _, _, _, _⟩) (.string key) rfl (by kernel_rfl) (fun w9 h9 => by have h8 := h9.1; go_simp) ?_
          simp only [Act.put, List.setIfInBounds_toArray, List.set_cons_zero, List.set_cons_succ]
          refine ord_pure (o := ⟨some 47, _, _, _, _, _⟩) (.slice (some ⟨b, off, none⟩) n c) rfl (by kernel_rfl) (fun w9 => by go_simp) ?_
          simp only [Act.put, List.setIfInBounds_toArray, List.set_cons_zero, List.set_cons_succ]
          refine ord_pure (o := ⟨some 48, _, _, _, _, _⟩) (.int .i64 (k : Int)) rfl (by kernel_rfl) (fun w9 => by go_simp) ?_
          simp only [Act.put, List.setIfInBounds_toArray, List.set_cons_zero, List.set_cons_succ]
          refine ord_pure (o := ⟨some 49, _, _, _, _, _⟩) (.pointer (some ⟨b, off + k * 2, none⟩)) rfl (by kernel_rfl) (fun w9 => by go_simp) ?_
          simp only [Act.put, List.setIfInBounds_toArray, List.set_cons_zero, List.set_cons_succ]
          refine ord_pure (o := ⟨some 50, _, _, _, _, _⟩) (.pointer (some ⟨b, off + k * 2 + 1, none⟩)) rfl (by kernel_rfl) (fun w9 => by go_simp) ?_
          simp only [Act.put, List.setIfInBounds_toArray, List.set_cons_zero, List.set_cons_succ]
          refine ord_held (o := ⟨some 51, _, _, _, _, _⟩) (.string txt) rfl (by kernel_rfl) (fun w9 h9 => by have h8 := h9.2; go_simp) ?_
          simp only [Act.put, List.setIfInBounds_toArray, List.set_cons_zero, List.set_cons_succ]
          refine ord_go rfl (fun K9 hK => ?_)
          go_simp
          go_wp2_with fail
          refine (keyed_any key txt _ (by omega) (by omega)).mono ?_
          rintro e w2 ⟨rfl, hb2⟩
          rw [HV.out.1, HV.out.2]
          have HO2 := hide (owns_below (World.ownsRow.drew HO.out) hb2)
          have HB2 := hide (HB0.out.drew.trans (hb2.mono HB0.out.size))
          clear hb2 HO HB0
          have hsz := HB2.out.size
          dsimp only
          refine hK.out _ _ (fun h => by cases h) ?_
          clear hK K9
          refine ord_pure (o := ⟨some 41, _, _, _, _, _⟩) (.tuple #[.string V, .int .i64 E]) rfl (by kernel_rfl) (fun w9 => by go_simp) ?_
          simp only [Act.put, List.setIfInBounds_toArray, List.set_cons_zero, List.set_cons_succ]
          refine ord_pure (o := ⟨some 53, _, _, _, _, _⟩) (.string V) rfl (by kernel_rfl) (fun w9 => by go_simp) ?_
          simp only [Act.put, List.setIfInBounds_toArray, List.set_cons_zero, List.set_cons_succ]
          refine ord_pure (o := ⟨some 54, _, _, _, _, _⟩) (.int .i64 E) rfl (by kernel_rfl) (fun w9 => by go_simp) ?_
          simp only [Act.put, List.setIfInBounds_toArray, List.set_cons_zero, List.set_cons_succ]
          refine ord_go rfl (fun K9 hK => ?_)
          go_simp
          refine hK.out _ _ (fun h => by cases h) ?_
          clear hK K9
          refine ord_go rfl (fun K9 hK => ?_)
          go_simp
          refine hK.out _ _ (fun h => by cases h) ?_
          clear hK K9
          refine ord_end ?_
          go_wp2_with (at_builtin; refine wpList_append_own _ rfl _ _ 33 rfl w.heap.size 9 i0 (.string ⟨#[]⟩) 1 16 Try.underlying33 hi hz0 hz1 hz2 rfl (by decide) _ _ _ rfl (HO2.out.alloc _) ⟨w2.heap.size, 0, none⟩ 1 1 [.string V] rfl rfl (cell_one_new _ _ _) (fun x hx => by simp at hx; subst hx; rfl) (by unfold maxLen; omega) (by omega) (by simp; omega) ?_; intro v' w3 hown3 hgrow3 hnil3)
          have HO3 := hide hown3
          have HB3 := hide ((HB2.out.alloc hsz (.cells #[.string V] 9)).grown hgrow3 (by simp; omega) (fun j hj => (HO2.out.lt j hj).1))
          clear hown3 hgrow3 hnil3
          go_wp2_with fail
          go_roundg g3
          case measure => omega
          case rel =>
            refine ⟨k + 1, by omega, by go_num, ?_, ?_, HB3.out⟩
            · rw [svs_succ, HE.out.1, HE.out.2, HV.out.1]; exact HO3.out
            · intro j hj
              by_cases e : j = k
              · subst e; rw [HE.out.1, HE.out.2]; omega
              · exact HSZ.out j (by omega)
    · obtain rfl : k = n := by omega
      have hkI : IntKind.i64.wrap ((k : Int) - 1) = (k : Int) - 1 := IntWalk.i64_in _ (by omega)
      have HOk := hide (show wr.ownsRow w.heap.size 9 1 u3 k (svs K T k) from HO.out)
      clear HO
      go_wp2_with fail
      go_loopg [7, 8, 9, 10] k (fun g t _ _ _ wx => ((g = 0 ∧ t = .int .i64 (-1)) ∨ ∃ p : Nat, g = p + 1 ∧ p < k ∧ t = .int .i64 p) ∧ wx.ownsRow w.heap.size 9 1 u3 k (svs K T k) ∧ Below w.heap.size w wx)
      case atStart =>
        refine ⟨?_, HOk.out, HB0.out⟩
        by_cases hk0 : k = 0
        · subst hk0; exact .inl ⟨rfl, rfl⟩
        · exact .inr ⟨k - 1, by omega, by omega, congrArg (Value.int .i64) (show (k : Int) - 1 = ((k - 1 : Nat) : Int) by omega)⟩
      case round =>
        clear HOk HB0
        obtain ⟨hcase, hO, hHB⟩ := hrel
        have HO := hide hO
        have HB0 := hide hHB
        clear hO hHB
        rcases hcase with ⟨hg0, rfl⟩ | ⟨p, rfl, hpk, rfl⟩
        · go_wp2_with fail
          go_ret
          exact ⟨rfl, HB0.out⟩
        · have hp0 : (0 : Int) ≤ (p : Int) := by omega
          have hpI : (p : Int) < (k : Int) := by omega
          have hpw : IntKind.i64.wrap ((p : Int) - 1) = (p : Int) - 1 := IntWalk.i64_in _ (by omega)
          obtain ⟨b, off, rfl, hc0, hc1⟩ := (HP.out.below HB0.out).at' hpk
          obtain ⟨g, cap, rfl, hcap, hcg⟩ := owns_at HO.out p hpk
          have hcapI : (k : Int) ≤ (cap : Int) := by omega
          have hs := HSZ.out p hpk
          obtain ⟨key, ekey⟩ : ∃ key, K p = key := ⟨_, rfl⟩
          obtain ⟨txt, etxt⟩ : ∃ txt, T p = txt := ⟨_, rfl⟩
          rw [ekey] at hc0 hcg hs
          rw [etxt] at hc1 hcg hs
          obtain ⟨V, eV⟩ : ∃ V, kyv key txt = V := ⟨_, rfl⟩
          obtain ⟨E, eE⟩ : ∃ E, kye key = E := ⟨_, rfl⟩
          rw [eV] at hcg
          have HV := hide (And.intro eV eE)
          have hkc : key = ⟨#[]⟩ ∨ (key ≠ ⟨#[]⟩ ∧ key.size ≤ 32) ∨ (key ≠ ⟨#[]⟩ ∧ 32 < key.size) := by
            by_cases e : key = ⟨#[]⟩
            · exact .inl e
            · rcases Nat.lt_or_ge 32 key.size with h | h
              · exact .inr (.inr ⟨e, h⟩)
              · exact .inr (.inl ⟨e, h⟩)
          have hgb : g < wr.heap.size := World.block_lt_of_cell? wr _ hcg
          have hbb : b < wr.heap.size := World.block_lt_of_cell? wr _ hc0
          have hks : key.size ≤ 40 := hs.1
          have hts := hide hs.2
          clear ekey etxt eV eE hs
          rcases hkc with rfl | ⟨kn, hk⟩ | ⟨kn, hk⟩
          · skip
            have hE : E = 0 := by rw [← HV.out.2]; unfold kye; rw [if_neg (by decide)]
            have hD : Hid (dg 0 (sb txt) = V) := hide (by rw [← HV.out.1, kyv_none])
            go_wp2_with fail
            refine wp_region_ord (fun w9 => w9.cell? ⟨b, off + p * 2, none⟩ = some (.string ⟨#[]⟩) ∧ w9.cell? ⟨b, off + p * 2 + 1, none⟩ = some (.string txt)) 10 [(0, some true), (1, some true), (2, some true), (3, some true), (4, some false), (5, some true), (6, some true), (7, some true), (8, some true), (9, some false), (10, none), (11, some true), (12, some true), (13, some true), (14, none), (15, none)] (by kernel_rfl) (by kernel_rfl) (fun _ _ _ _ h => h) ⟨hc0, hc1⟩ ?_
            refine ord_pure (o := ⟨some 67, _, _, _, _, _⟩) (.slice (some ⟨b, off, none⟩) k c) rfl (by kernel_rfl) (fun w9 => by go_simp) ?_
            simp only [Act.put, List.setIfInBounds_toArray, List.set_cons_zero, List.set_cons_succ]
            refine ord_pure (o := ⟨some 68, _, _, _, _, _⟩) (.int .i64 (p : Int)) rfl (by kernel_rfl) (fun w9 => by go_simp) ?_
            simp only [Act.put, List.setIfInBounds_toArray, List.set_cons_zero, List.set_cons_succ]
            refine ord_pure (o := ⟨some 69, _, _, _, _, _⟩) (.pointer (some ⟨b, off + p * 2, none⟩)) rfl (by kernel_rfl) (fun w9 => by go_simp) ?_
            simp only [Act.put, List.setIfInBounds_toArray, List.set_cons_zero, List.set_cons_succ]
            refine ord_pure (o := ⟨some 70, _, _, _, _, _⟩) (.pointer (some ⟨b, off + p * 2, none⟩)) rfl (by kernel_rfl) (fun w9 => by go_simp) ?_
            simp only [Act.put, List.setIfInBounds_toArray, List.set_cons_zero, List.set_cons_succ]
            refine ord_held (o := ⟨some 71, _, _, _, _, _⟩) (.string ⟨#[]⟩) rfl (by kernel_rfl) (fun w9 h9 => by have h8 := h9.1; go_simp) ?_
            simp only [Act.put, List.setIfInBounds_toArray, List.set_cons_zero, List.set_cons_succ]
            refine ord_pure (o := ⟨some 72, _, _, _, _, _⟩) (.slice (some ⟨b, off, none⟩) k c) rfl (by kernel_rfl) (fun w9 => by go_simp) ?_
            simp only [Act.put, List.setIfInBounds_toArray, List.set_cons_zero, List.set_cons_succ]
            refine ord_pure (o := ⟨some 73, _, _, _, _, _⟩) (.int .i64 (p : Int)) rfl (by kernel_rfl) (fun w9 => by go_simp) ?_
            simp only [Act.put, List.setIfInBounds_toArray, List.set_cons_zero, List.set_cons_succ]
            refine ord_pure (o := ⟨some 74, _, _, _, _, _⟩) (.pointer (some ⟨b, off + p * 2, none⟩)) rfl (by kernel_rfl) (fun w9 => by go_simp) ?_
            simp only [Act.put, List.setIfInBounds_toArray, List.set_cons_zero, List.set_cons_succ]
            refine ord_pure (o := ⟨some 75, _, _, _, _, _⟩) (.pointer (some ⟨b, off + p * 2 + 1, none⟩)) rfl (by kernel_rfl) (fun w9 => by go_simp) ?_
            simp only [Act.put, List.setIfInBounds_toArray, List.set_cons_zero, List.set_cons_succ]
            refine ord_held (o := ⟨some 76, _, _, _, _, _⟩) (.string txt) rfl (by kernel_rfl) (fun w9 h9 => by have h8 := h9.2; go_simp) ?_
            simp only [Act.put, List.setIfInBounds_toArray, List.set_cons_zero, List.set_cons_succ]
            refine ord_go rfl (fun K9 hK => ?_)
            go_simp
            go_wp2_with fail
            refine (keyed_any ⟨#[]⟩ txt _ (by omega) (by have := hts.out; omega)).mono ?_
            rintro e w2 ⟨rfl, hb2⟩
            rw [HV.out.1, HV.out.2]
            have HO2 := hide (owns_below (World.ownsRow.drew HO.out) hb2)
            have HB2 := hide (HB0.out.drew.trans (hb2.mono HB0.out.size))
            have hc02 := (hb2.cell (p := ⟨b, off + p * 2, none⟩) hbb).trans hc0
            have hc12 := (hb2.cell (p := ⟨b, off + p * 2 + 1, none⟩) hbb).trans hc1
            have hcg2 := (hb2.cell (p := ⟨g, p, none⟩) hgb).trans hcg
            have hbb2 : b < w2.heap.size := Nat.lt_of_lt_of_le hbb hb2.size
            clear hb2 HO HB0
            dsimp only
            refine hK.out _ _ (fun h => by cases h) ?_
            clear hK K9
            refine ord_pure (o := ⟨some 66, _, _, _, _, _⟩) (.tuple #[.string V, .int .i64 E]) rfl (by kernel_rfl) (fun w9 => by go_simp) ?_
            simp only [Act.put, List.setIfInBounds_toArray, List.set_cons_zero, List.set_cons_succ]
            refine ord_pure (o := ⟨some 78, _, _, _, _, _⟩) (.string V) rfl (by kernel_rfl) (fun w9 => by go_simp) ?_
            simp only [Act.put, List.setIfInBounds_toArray, List.set_cons_zero, List.set_cons_succ]
            refine ord_pure (o := ⟨some 79, _, _, _, _, _⟩) (.int .i64 E) rfl (by kernel_rfl) (fun w9 => by go_simp) ?_
            simp only [Act.put, List.setIfInBounds_toArray, List.set_cons_zero, List.set_cons_succ]
            refine ord_go rfl (fun K9 hK => ?_)
            go_simp
            refine hK.out _ _ (fun h => by cases h) ?_
            clear hK K9
            refine ord_go rfl (fun K9 hK => ?_)
            go_simp
            refine hK.out _ _ (fun h => by cases h) ?_
            clear hK K9
            refine ord_end ?_
            subst hE
            go_wp2_with fail
            refine (new_any _).mono ?_
            rintro e w3 ⟨bh, rfl, hbh, hH3, h3⟩
            have hc03 := (h3.cell (p := ⟨b, off + p * 2, none⟩) hbb2).trans hc02
            have hc13 := (h3.cell (p := ⟨b, off + p * 2 + 1, none⟩) hbb2).trans hc12
            have hne : b ≠ bh := by omega
            have hb3 : b < w3.heap.size := Nat.lt_of_lt_of_le hbb2 h3.size
            have HB3 := hide (HB2.out.trans (h3.mono HB2.out.size))
            have HO3 := hide (owns_below HO2.out h3)
            have Lh := hide (Nat.le_trans HB2.out.size hbh)
            have HH3 := hide hH3
            clear hbh hH3 h3 HB2 HO2 hc02 hc12
            go_wp2_with fail
            refine (hadd_any txt HH3.out (h0_length 0) (h0_lt 0 (by decide)) (by have := hts.out; show 0 + txt.size < _; omega)).mono ?_
            rintro e w4 ⟨rfl, hH4, h4⟩
            rw [List.nil_append] at hH4
            have hc04 := (World.cell?_of_block (w := w3) (a := ⟨b, off + p * 2, none⟩) (h4.block b hb3 hne)).trans hc03
            have HB4 := hide (HB3.out.trans (h4.below Lh.out HB3.out.size))
            have HO4 := hide (owns_bt HO3.out HH3.out.ty h4)
            have HH4 := hide hH4
            clear hH4 h4 HB3 HO3 HH3 hc03 hc13 hne hb3
            go_wp2_with fail
            refine (hsum0_any HH4.out (by rw [sb_length]; have := hts.out; omega)).mono ?_
            rintro e w5 ⟨rfl, h5⟩
            rw [hD.out]
            have HB5 := hide (HB4.out.trans (h5.mono HB4.out.size))
            have HO5 := hide (owns_below HO4.out h5)
            clear h5 HB4 HO4
            go_wp2_with fail
            go_roundg (p)
            case measure => omega
            case rel =>
              refine ⟨?_, HO5.out, HB5.out⟩
              by_cases hp00 : p = 0
              · subst hp00; exact .inl ⟨rfl, rfl⟩
              · exact .inr ⟨p - 1, by omega, by omega, congrArg (Value.int .i64) (show (p : Int) - 1 = ((p - 1 : Nat) : Int) by omega)⟩
          · skip
            have hE : E = 0 := by rw [← HV.out.2]; unfold kye; rw [if_neg (by omega)]
            have hkI : (key.size : Int) ≤ 32 := by omega
            have kb : ¬ key.toList = [] := fun h => kn (sb_inj (show sb key = sb ⟨#[]⟩ by rw [ByteArray.toList_eq] at h; exact h))
            go_wp2_with fail
            refine wp_region_ord (fun w9 => w9.cell? ⟨b, off + p * 2, none⟩ = some (.string key) ∧ w9.cell? ⟨b, off + p * 2 + 1, none⟩ = some (.string txt)) 10 [(0, some true), (1, some true), (2, some true), (3, some true), (4, some false), (5, some true), (6, some true), (7, some true), (8, some true), (9, some false), (10, none), (11, some true), (12, some true), (13, some true), (14, none), (15, none)] (by kernel_rfl) (by kernel_rfl) (fun _ _ _ _ h => h) ⟨hc0, hc1⟩ ?_
            refine ord_pure (o := ⟨some 67, _, _, _, _, _⟩) (.slice (some ⟨b, off, none⟩) k c) rfl (by kernel_rfl) (fun w9 => by go_simp) ?_
            simp only [Act.put, List.setIfInBounds_toArray, List.set_cons_zero, List.set_cons_succ]
            refine ord_pure (o := ⟨some 68, _, _, _, _, _⟩) (.int .i64 (p : Int)) rfl (by kernel_rfl) (fun w9 => by go_simp) ?_
            simp only [Act.put, List.setIfInBounds_toArray, List.set_cons_zero, List.set_cons_succ]
            refine ord_pure (o := ⟨some 69, _, _, _, _, _⟩) (.pointer (some ⟨b, off + p * 2, none⟩)) rfl (by kernel_rfl) (fun w9 => by go_simp) ?_
            simp only [Act.put, List.setIfInBounds_toArray, List.set_cons_zero, List.set_cons_succ]
            refine ord_pure (o := ⟨some 70, _, _, _, _, _⟩) (.pointer (some ⟨b, off + p * 2, none⟩)) rfl (by kernel_rfl) (fun w9 => by go_simp) ?_
            simp only [Act.put, List.setIfInBounds_toArray, List.set_cons_zero, List.set_cons_succ]
            refine ord_held (o := ⟨some 71, _, _, _, _, _⟩) (.string key) rfl (by kernel_rfl) (fun w9 h9 => by have h8 := h9.1; go_simp) ?_
            simp only [Act.put, List.setIfInBounds_toArray, List.set_cons_zero, List.set_cons_succ]
            refine ord_pure (o := ⟨some 72, _, _, _, _, _⟩) (.slice (some ⟨b, off, none⟩) k c) rfl (by kernel_rfl) (fun w9 => by go_simp) ?_
            simp only [Act.put, List.setIfInBounds_toArray, List.set_cons_zero, List.set_cons_succ]
            refine ord_pure (o := ⟨some 73, _, _, _, _, _⟩) (.int .i64 (p : Int)) rfl (by kernel_rfl) (fun w9 => by go_simp) ?_
            simp only [Act.put, List.setIfInBounds_toArray, List.set_cons_zero, List.set_cons_succ]
            refine ord_pure (o := ⟨some 74, _, _, _, _, _⟩) (.pointer (some ⟨b, off + p * 2, none⟩)) rfl (by kernel_rfl) (fun w9 => by go_simp) ?_
            simp only [Act.put, List.setIfInBounds_toArray, List.set_cons_zero, List.set_cons_succ]
            refine ord_pure (o := ⟨some 75, _, _, _, _, _⟩) (.pointer (some ⟨b, off + p * 2 + 1, none⟩)) rfl (by kernel_rfl) (fun w9 => by go_simp) ?_
            simp only [Act.put, List.setIfInBounds_toArray, List.set_cons_zero, List.set_cons_succ]
            refine ord_held (o := ⟨some 76, _, _, _, _, _⟩) (.string txt) rfl (by kernel_rfl) (fun w9 h9 => by have h8 := h9.2; go_simp) ?_
            simp only [Act.put, List.setIfInBounds_toArray, List.set_cons_zero, List.set_cons_succ]
            refine ord_go rfl (fun K9 hK => ?_)
            go_simp
            go_wp2_with fail
            refine (keyed_any key txt _ (by omega) (by have := hts.out; omega)).mono ?_
            rintro e w2 ⟨rfl, hb2⟩
            rw [HV.out.1, HV.out.2]
            have HO2 := hide (owns_below (World.ownsRow.drew HO.out) hb2)
            have HB2 := hide (HB0.out.drew.trans (hb2.mono HB0.out.size))
            have hc02 := (hb2.cell (p := ⟨b, off + p * 2, none⟩) hbb).trans hc0
            have hc12 := (hb2.cell (p := ⟨b, off + p * 2 + 1, none⟩) hbb).trans hc1
            have hcg2 := (hb2.cell (p := ⟨g, p, none⟩) hgb).trans hcg
            have hbb2 : b < w2.heap.size := Nat.lt_of_lt_of_le hbb hb2.size
            clear hb2 HO HB0
            dsimp only
            refine hK.out _ _ (fun h => by cases h) ?_
            clear hK K9
            refine ord_pure (o := ⟨some 66, _, _, _, _, _⟩) (.tuple #[.string V, .int .i64 E]) rfl (by kernel_rfl) (fun w9 => by go_simp) ?_
            simp only [Act.put, List.setIfInBounds_toArray, List.set_cons_zero, List.set_cons_succ]
            refine ord_pure (o := ⟨some 78, _, _, _, _, _⟩) (.string V) rfl (by kernel_rfl) (fun w9 => by go_simp) ?_
            simp only [Act.put, List.setIfInBounds_toArray, List.set_cons_zero, List.set_cons_succ]
            refine ord_pure (o := ⟨some 79, _, _, _, _, _⟩) (.int .i64 E) rfl (by kernel_rfl) (fun w9 => by go_simp) ?_
            simp only [Act.put, List.setIfInBounds_toArray, List.set_cons_zero, List.set_cons_succ]
            refine ord_go rfl (fun K9 hK => ?_)
            go_simp
            refine hK.out _ _ (fun h => by cases h) ?_
            clear hK K9
            refine ord_go rfl (fun K9 hK => ?_)
            go_simp
            refine hK.out _ _ (fun h => by cases h) ?_
            clear hK K9
            refine ord_end ?_
            subst hE
            go_wp2_with fail
            refine (new_any _).mono ?_
            rintro e w3 ⟨bh, rfl, hbh, hH3, h3⟩
            have hc03 := (h3.cell (p := ⟨b, off + p * 2, none⟩) hbb2).trans hc02
            have hc13 := (h3.cell (p := ⟨b, off + p * 2 + 1, none⟩) hbb2).trans hc12
            have hne : b ≠ bh := by omega
            have hb3 : b < w3.heap.size := Nat.lt_of_lt_of_le hbb2 h3.size
            have HB3 := hide (HB2.out.trans (h3.mono HB2.out.size))
            have HO3 := hide (owns_below HO2.out h3)
            have Lh := hide (Nat.le_trans HB2.out.size hbh)
            have HH3 := hide hH3
            clear hbh hH3 h3 HB2 HO2 hc02 hc12
            go_wp2_with fail
            refine (hadd_any txt HH3.out (h0_length 0) (h0_lt 0 (by decide)) (by have := hts.out; show 0 + txt.size < _; omega)).mono ?_
            rintro e w4 ⟨rfl, hH4, h4⟩
            rw [List.nil_append] at hH4
            have hc04 := (World.cell?_of_block (w := w3) (a := ⟨b, off + p * 2, none⟩) (h4.block b hb3 hne)).trans hc03
            have HB4 := hide (HB3.out.trans (h4.below Lh.out HB3.out.size))
            have HO4 := hide (owns_bt HO3.out HH3.out.ty h4)
            have HH4 := hide hH4
            clear hH4 h4 HB3 HO3 HH3 hc03 hc13 hne hb3
            go_wp2_with fail
            go_roundg (p)
            case measure => omega
            case rel =>
              refine ⟨?_, HO4.out, HB4.out⟩
              by_cases hp00 : p = 0
              · subst hp00; exact .inl ⟨rfl, rfl⟩
              · exact .inr ⟨p - 1, by omega, by omega, congrArg (Value.int .i64) (show (p : Int) - 1 = ((p - 1 : Nat) : Int) by omega)⟩
          · skip
            have hE : E = 1 := by rw [← HV.out.2]; unfold kye; rw [if_pos hk]
            have hkI : ¬ ((key.size : Int) ≤ 32) := by omega
            have hkd : decide ((key.size : Int) ≤ 32) = false := decide_eq_false hkI
            have kb : ¬ key.toList = [] := fun h => kn (sb_inj (show sb key = sb ⟨#[]⟩ by rw [ByteArray.toList_eq] at h; exact h))
            go_wp2_with fail
            refine wp_region_ord (fun w9 => w9.cell? ⟨b, off + p * 2, none⟩ = some (.string key) ∧ w9.cell? ⟨b, off + p * 2 + 1, none⟩ = some (.string txt)) 10 [(0, some true), (1, some true), (2, some true), (3, some true), (4, some false), (5, some true), (6, some true), (7, some true), (8, some true), (9, some false), (10, none), (11, some true), (12, some true), (13, some true), (14, none), (15, none)] (by kernel_rfl) (by kernel_rfl) (fun _ _ _ _ h => h) ⟨hc0, hc1⟩ ?_
            refine ord_pure (o := ⟨some 67, _, _, _, _, _⟩) (.slice (some ⟨b, off, none⟩) k c) rfl (by kernel_rfl) (fun w9 => by go_simp) ?_
            simp only [Act.put, List.setIfInBounds_toArray, List.set_cons_zero, List.set_cons_succ]
            refine ord_pure (o := ⟨some 68, _, _, _, _, _⟩) (.int .i64 (p : Int)) rfl (by kernel_rfl) (fun w9 => by go_simp) ?_
            simp only [Act.put, List.setIfInBounds_toArray, List.set_cons_zero, List.set_cons_succ]
            refine ord_pure (o := ⟨some 69, _, _, _, _, _⟩) (.pointer (some ⟨b, off + p * 2, none⟩)) rfl (by kernel_rfl) (fun w9 => by go_simp) ?_
            simp only [Act.put, List.setIfInBounds_toArray, List.set_cons_zero, List.set_cons_succ]
            refine ord_pure (o := ⟨some 70, _, _, _, _, _⟩) (.pointer (some ⟨b, off + p * 2, none⟩)) rfl (by kernel_rfl) (fun w9 => by go_simp) ?_
            simp only [Act.put, List.setIfInBounds_toArray, List.set_cons_zero, List.set_cons_succ]
            refine ord_held (o := ⟨some 71, _, _, _, _, _⟩) (.string key) rfl (by kernel_rfl) (fun w9 h9 => by have h8 := h9.1; go_simp) ?_
            simp only [Act.put, List.setIfInBounds_toArray, List.set_cons_zero, List.set_cons_succ]
            refine ord_pure (o := ⟨some 72, _, _, _, _, _⟩) (.slice (some ⟨b, off, none⟩) k c) rfl (by kernel_rfl) (fun w9 => by go_simp) ?_
            simp only [Act.put, List.setIfInBounds_toArray, List.set_cons_zero, List.set_cons_succ]
            refine ord_pure (o := ⟨some 73, _, _, _, _, _⟩) (.int .i64 (p : Int)) rfl (by kernel_rfl) (fun w9 => by go_simp) ?_
            simp only [Act.put, List.setIfInBounds_toArray, List.set_cons_zero, List.set_cons_succ]
            refine ord_pure (o := ⟨some 74, _, _, _, _, _⟩) (.pointer (some ⟨b, off + p * 2, none⟩)) rfl (by kernel_rfl) (fun w9 => by go_simp) ?_
            simp only [Act.put, List.setIfInBounds_toArray, List.set_cons_zero, List.set_cons_succ]
            refine ord_pure (o := ⟨some 75, _, _, _, _, _⟩) (.pointer (some ⟨b, off + p * 2 + 1, none⟩)) rfl (by kernel_rfl) (fun w9 => by go_simp) ?_
            simp only [Act.put, List.setIfInBounds_toArray, List.set_cons_zero, List.set_cons_succ]
            refine ord_held (o := ⟨some 76, _, _, _, _, _⟩) (.string txt) rfl (by kernel_rfl) (fun w9 h9 => by have h8 := h9.2; go_simp) ?_
            simp only [Act.put, List.setIfInBounds_toArray, List.set_cons_zero, List.set_cons_succ]
            refine ord_go rfl (fun K9 hK => ?_)
            go_simp
            go_wp2_with fail
            refine (keyed_any key txt _ (by omega) (by have := hts.out; omega)).mono ?_
            rintro e w2 ⟨rfl, hb2⟩
            rw [HV.out.1, HV.out.2]
            have HO2 := hide (owns_below (World.ownsRow.drew HO.out) hb2)
            have HB2 := hide (HB0.out.drew.trans (hb2.mono HB0.out.size))
            have hc02 := (hb2.cell (p := ⟨b, off + p * 2, none⟩) hbb).trans hc0
            have hc12 := (hb2.cell (p := ⟨b, off + p * 2 + 1, none⟩) hbb).trans hc1
            have hcg2 := (hb2.cell (p := ⟨g, p, none⟩) hgb).trans hcg
            have hbb2 : b < w2.heap.size := Nat.lt_of_lt_of_le hbb hb2.size
            clear hb2 HO HB0
            dsimp only
            refine hK.out _ _ (fun h => by cases h) ?_
            clear hK K9
            refine ord_pure (o := ⟨some 66, _, _, _, _, _⟩) (.tuple #[.string V, .int .i64 E]) rfl (by kernel_rfl) (fun w9 => by go_simp) ?_
            simp only [Act.put, List.setIfInBounds_toArray, List.set_cons_zero, List.set_cons_succ]
            refine ord_pure (o := ⟨some 78, _, _, _, _, _⟩) (.string V) rfl (by kernel_rfl) (fun w9 => by go_simp) ?_
            simp only [Act.put, List.setIfInBounds_toArray, List.set_cons_zero, List.set_cons_succ]
            refine ord_pure (o := ⟨some 79, _, _, _, _, _⟩) (.int .i64 E) rfl (by kernel_rfl) (fun w9 => by go_simp) ?_
            simp only [Act.put, List.setIfInBounds_toArray, List.set_cons_zero, List.set_cons_succ]
            refine ord_go rfl (fun K9 hK => ?_)
            go_simp
            refine hK.out _ _ (fun h => by cases h) ?_
            clear hK K9
            refine ord_go rfl (fun K9 hK => ?_)
            go_simp
            refine hK.out _ _ (fun h => by cases h) ?_
            clear hK K9
            refine ord_end ?_
            subst hE
            go_wp2_with fail
            refine (new_any _).mono ?_
            rintro e w3 ⟨bh, rfl, hbh, hH3, h3⟩
            have hc03 := (h3.cell (p := ⟨b, off + p * 2, none⟩) hbb2).trans hc02
            have hc13 := (h3.cell (p := ⟨b, off + p * 2 + 1, none⟩) hbb2).trans hc12
            have hne : b ≠ bh := by omega
            have hb3 : b < w3.heap.size := Nat.lt_of_lt_of_le hbb2 h3.size
            have HB3 := hide (HB2.out.trans (h3.mono HB2.out.size))
            have HO3 := hide (owns_below HO2.out h3)
            have Lh := hide (Nat.le_trans HB2.out.size hbh)
            have HH3 := hide hH3
            clear hbh hH3 h3 HB2 HO2 hc02 hc12
            go_wp2_with fail
            refine (hadd_any txt HH3.out (h0_length 0) (h0_lt 0 (by decide)) (by have := hts.out; show 0 + txt.size < _; omega)).mono ?_
            rintro e w4 ⟨rfl, hH4, h4⟩
            rw [List.nil_append] at hH4
            have hc04 := (World.cell?_of_block (w := w3) (a := ⟨b, off + p * 2, none⟩) (h4.block b hb3 hne)).trans hc03
            have HB4 := hide (HB3.out.trans (h4.below Lh.out HB3.out.size))
            have HO4 := hide (owns_bt HO3.out HH3.out.ty h4)
            have HH4 := hide hH4
            clear hH4 h4 HB3 HO3 HH3 hc03 hc13 hne hb3
            go_wp2_with fail
            go_roundg (p)
            case measure => omega
            case rel =>
              refine ⟨?_, HO4.out, HB4.out⟩
              by_cases hp00 : p = 0
              · subst hp00; exact .inl ⟨rfl, rfl⟩
              · exact .inr ⟨p - 1, by omega, by omega, congrArg (Value.int .i64) (show (p : Int) - 1 = ((p - 1 : Nat) : Int) by omega)⟩

theorem blakeAgain_any (w : World) (a : Option Addr) (n c : Nat) (K T : Nat → ByteArray) (hp : Pw w a n K T) : Calls Try.prog 8 #[.slice a n c] w fun e w' => e = .returned (.bool true) ∧ Below w.heap.size w w' := by
  by_cases h : 12 < n
  · exact blakeAgain_big a n c w h
  · exact blakeAgain_main a n c K T w hp (by omega)

theorem open_pairs {H : Type} {enc : TypeId × Value → H} {w : World} {base : Nat} {spare : Nat → Bool} {held : Bool} {fuel : Nat} {a : Option Addr} {len cap : Nat} {x : DataW H × List MemPlace}
    (h : DataW.trod enc Try.prog w base spare held fuel 39 [.slice a len cap] = some x) : ∃ K T : Nat → ByteArray, Pw w a len K T := by
  have hcs : Try.prog.cellsOf 40 = 2 := by kernel_rfl
  have hcs1 : Try.prog.cellsOf 9 = 1 := by kernel_rfl
  rcases DataW.trod_slice Try.underlying39 h with ⟨h0, _⟩ | ⟨a', len', cap', elems, rest, n, _, hc, _, hb, hl, hm, hlen, hel, _, _⟩
  · simp at h0
    exact ⟨fun _ => ⟨#[]⟩, fun _ => ⟨#[]⟩, .inl h0.2.1⟩
  · simp at hc
    obtain ⟨rfl, rfl, rfl⟩ := hc
    have each : ∀ i, i < len → ∃ p : ByteArray × ByteArray, w.cell? (a'.add (i * 2)) = some (.string p.1) ∧ w.cell? (a'.add (i * 2 + 1)) = some (.string p.2) := by
      intro i hi
      have k := hel i hi
      rw [List.getElem?_eq_getElem (by omega), hcs] at k
      obtain ⟨cs, hcs2, htr⟩ := Option.bind_eq_some_iff.1 k
      obtain ⟨_, hl2, hcell⟩ := World.cells?_some hcs2
      obtain ⟨xs, m, _, _, _, hxl, hx⟩ := DataW.trod_array Try.underlying40 htr
      have h0 := hx 0 (by decide)
      have h1 := hx 1 (by decide)
      rw [List.getElem?_eq_getElem (by omega), hcs1] at h0 h1
      obtain ⟨s0, e0, _, _⟩ := DataW.trod_string Try.underlying9 h0
      obtain ⟨s1, e1, _, _⟩ := DataW.trod_string Try.underlying9 h1
      match cs, hl2, hcell, e0, e1 with
      | [u, v], _, hcell, e0, e1 =>
        simp at e0 e1
        have c0 := hcell 0 (by decide)
        have c1 := hcell 1 (by decide)
        rw [Addr.add_add] at c0 c1
        refine ⟨(s0, s1), ?_, ?_⟩
        · rw [← e0]; simpa using c0
        · rw [← e1]; simpa using c1
    obtain ⟨f, hf⟩ := Go.Deep.choose_lt each
    by_cases h0 : len = 0
    · exact ⟨fun _ => ⟨#[]⟩, fun _ => ⟨#[]⟩, .inl h0⟩
    · obtain ⟨b, off, spot⟩ := a'
      have hspot : spot = none := by
        have := World.cell?_spot (hf 0 (by omega)).1
        simpa [Addr.add] using this
      subst hspot
      refine ⟨fun i => (f i).1, fun i => (f i).2, .inr ⟨b, off, rfl, ?_, fun j hj => ?_⟩⟩
      · have := (hf 0 (by omega)).1
        rw [Addr.add_mid] at this
        exact World.block_lt_of_cell? w _ this
      · have k := hf j hj
        rw [Addr.add_mid, Addr.add_mid] at k
        exact ⟨k.1, by rw [Nat.add_assoc]; exact k.2⟩

theorem blakeAgain_own : ownKnob Try.prog.godebug = none := by kernel_rfl
theorem blakeAgain_laidOut : laidOutB Try.prog = true := by kernel_rfl

set_option maxRecDepth 100000 in
theorem blakeAgain_lifted (os : Os) (started : os.Started) (H : Type) (enc : TypeId × Value → H) :
    ReturnsInHanded {} Try.checked os 8 .any (Rows.blakeAgainSpec.pre6 enc Try.prog Try.f8 Rows.blakeAgainRow.domain false) (Rows.blakeAgainSpec.post enc Try.prog Try.f8 false true false false) := by
  refine returnsInHanded_of_change_sized (C := Try.checked) blakeAgain_own started (by kernel_rfl) Try.func8
    (ChangeSpec.witness6 (enc := enc) (C := Try.checked) false ⟨#[], #[.slice none 0 0], []⟩ 8 (by kernel_rfl) (by kernel_rfl) (by kernel_rfl) (by kernel_rfl)) ?_
  intro W base args ds gs before hval0 hW hcnd hsz0 _
  have hval : ∀ (j : Nat) t v, Try.f8.params[j]? = some t → args[j]? = some v → Value.okWide Try.prog W .any base t v := hval0
  have hW' := hW
  obtain ⟨p, q, hA0, hV, rfl, hfz, hnd⟩ := hW
  have hA : DataW.TrodAll enc Try.prog W 0 (fun _ => true) true Try.f8.params.toList args.toList ds p := hA0
  rw [Try.params8] at hA hval
  obtain ⟨v0, vs0, d0, ds0, p0, q0, hargs, rfl, rfl, h0, r0⟩ := trodAll_cons hA
  obtain ⟨rfl, rfl, rfl⟩ := trodAll_nil r0
  obtain rfl : args = #[v0] := by cases args; simp_all
  obtain ⟨rfl, rfl⟩ := trodVars_none hV
  obtain ⟨a0, len0, cap0, rfl⟩ := okWide_slice Try.underlying39 (hval 0 39 v0 rfl rfl)
  have k0 := h0
  have lt0 : ∀ x ∈ p0, x.block < W.heap.size := by obtain ⟨m, hm⟩ := k0; exact DataW.trod_lt m _ _ _ hm
  obtain ⟨K0, T0, w0⟩ : ∃ K T, Pw W a0 len0 K T := by obtain ⟨fuel, hf⟩ := h0; exact open_pairs hf
  clear hA0 hval0 hsz0
  refine (blakeAgain_any W a0 len0 cap0 K0 T0 w0).mono fun e W' ⟨he, bel⟩ => ?_
  subst he
  exact ⟨_, rfl, _, _, _, [], _, [], hW', trodAll_mk1 (shut_bool Try.underlying4 _), (trodAll_cons_mk (Below.trod blakeAgain_laidOut (by kernel_rfl) (of_decide_eq_true (by kernel_rfl)) k0 bel lt0) trodAll_mk0), rfl, bel.frame _, fun h => by cases h⟩

theorem blakeAgain_holds : Rows.BlakeAgainSaid :=
  OpenClaim.holds_of_wide 8 Try.f8 rfl rfl rfl rfl rfl rfl rfl ⟨rfl, rfl, rfl, rfl, rfl⟩ rfl rfl rfl rfl rfl (by kernel_rfl) Try.func8 (by kernel_rfl)
    (of_decide_eq_true (by kernel_rfl)) (by unfold Func.isWrapper; first | (rw [if_pos (by decide +kernel)]; kernel_rfl) | (rw [if_neg (by decide +kernel)]; exact ⟨rfl, rfl⟩))
    (fun os started H enc _ => blakeAgain_lifted os started H enc)

#print axioms blakeAgain_holds

end Go.Proofs.Ytlpnneghlomakaa
