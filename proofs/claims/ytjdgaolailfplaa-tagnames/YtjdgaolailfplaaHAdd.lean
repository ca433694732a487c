/- Add to a hash, walked. For a hash and bytes that have together fewer than 2 to the power of 62 bytes. -/
import Derived.Test.YtjdgaolailfplaaHSum
namespace Go.Proofs.Ytjdgaolailfplaa
open Go.RowKit Bk
set_option linter.unusedVariables false
set_option linter.unusedSimpArgs false

theorem sb_extract (s : ByteArray) (i j : Nat) : sb (s.extract i j) = ((sb s).drop i).take (j - i) := by
  have h := ByteArray.extract_mk (sb s) i j
  rw [mk_sb] at h
  rw [h, sb_mk]
theorem size_extract (s : ByteArray) (i j : Nat) (h : j ≤ s.size) : (s.extract i j).size = j - i := by
  rw [← sb_length, sb_extract, List.length_take, List.length_drop, sb_length]; omega
theorem sb_empty : sb ⟨#[]⟩ = [] := rfl
theorem sb_inj {s t : ByteArray} (h : sb s = sb t) : s = t := by rw [← mk_sb s, ← mk_sb t, h]

section
variable {P : Program} {ops : Array Oper} {Q : Exit → Act → World → Prop} {S : World → Prop} {s : Nat}
theorem ord_storeR {i : Nat} {o : Oper} {r : List (Nat × Option Bool)} {b : Bool} {a : Act} {w : World} (h0 : ops[i]? = some o) (hg : o.guard = none) (hd : o.dst = none) (ty : TypeId) (x y : Operand) (ho : o.op = .store ty x y) {bl off : Nat} (hx : a.eval x = .pointer (some ⟨bl, off, none⟩)) {cs vs : List Value} (hy : a.eval y = .agg vs.toArray) (hr : Row w bl off cs)
    (hl : vs.length = cs.length) (hi : (P.info? ty).map (·.size) = some vs.length) (h1 : ∀ v ∈ vs, v.oneCell' = true) (hS : ahead s i b = true → S (w.setCells bl off vs)) (h : wpOrd P ops Q S s r (ahead s i b) a (w.setCells bl off vs)) : wpOrd P ops Q S s ((i, none) :: r) b a w :=
  ord_go h0 fun K hK => by
    rw [if_pos (by unfold Region.wanted; rw [hg])]
    refine wp_store_mid ty x y ho bl off vs.toArray hx hy (by have := hr.there; rw [← hl] at this; simpa using this) (by simpa using hi) (all_oneCell_toArray h1) ?_
    exact hK.out _ _ (by simpa using hS) (by rw [hd]; simpa [Act.put] using h)
end

theorem info8 : ∃ i z, Try.prog.info? 5 = some i ∧ i.zero = some z ∧ i.size = 1 ∧ i.bytes = 1 := by
  have k : (Try.prog.info? 5).map (fun i => (i.zero.isSome, i.size, i.bytes)) = some (true, 1, 1) := by kernel_rfl
  obtain ⟨i, hi, he⟩ := Option.map_eq_some_iff.1 k
  simp only [Prod.mk.injEq] at he
  obtain ⟨z, hz⟩ := Option.isSome_iff_exists.1 he.1
  exact ⟨i, z, hi, hz, he.2.1, he.2.2⟩

/-- append of a string to bytes that fill their row. -/
theorem run_appendS (w : World) (ty : TypeId) (ap : Option Addr) (n : Nat) (l : List UInt8) (s : ByteArray) (h : Sb w ap n n l) (hn : n + s.size ≤ 4000) :
    ∃ a' c' w', (Builtin.append_ #[31, 9] ty #[.slice ap n n, .string s]).run Try.prog w = .ok (.slice a' (n + s.size) c') w' ∧ n + s.size ≤ c' ∧ Sb w' a' (n + s.size) c' (l ++ sb s) ∧ Below w.heap.size w w' := by
  obtain ⟨i, z, hi, hz, h1, h2⟩ := info8
  by_cases hs : s.size = 0
  · have es : sb s = [] := List.length_eq_zero_iff.1 (by rw [sb_length]; exact hs)
    rw [es, List.append_nil, hs, Nat.add_zero]
    have hnews : byteCells s = [] := by rw [sb_cells, es]; rfl
    cases ap with
    | none =>
      have h0 : n = 0 := by rcases h.at' with h | ⟨_, _, _, _, h, _⟩; exact h; cases h
      subst h0
      have hl : s = ⟨#[]⟩ := sb_inj es
      subst hl
      refine ⟨none, 0, w, ?_, Nat.le_refl _, h, Below.refl _ _⟩
      have hfc : (Builtin.firstCells 1 0 (.string ⟨#[]⟩)).run Try.prog w = .ok #[] w := firstCells_string ⟨#[]⟩ w
      simp [Builtin.append_, run_underlying Try.underlying31, run_underlying Try.underlying9, sizeOf, typeInfo, hi, h1, Builtin.lenOf, ByteArray.size, hfc]
    | some a =>
      refine ⟨some a, n, w, ?_, Nat.le_refl _, h, Below.refl _ _⟩
      have hx : (Builtin.firstCells 1 0 (.string s)).run Try.prog w = .ok #[] w := by have := firstCells_string (P := Try.prog) s w; rwa [hs, hnews] at this
      simp [Builtin.append_, run_underlying Try.underlying31, run_underlying Try.underlying9, sizeOf, typeInfo, hi, h1, Builtin.lenOf, hs, hx, storeCells]
  · have hsrc := str_src (P := Try.prog) (w := w) Try.underlying9 s
    have hold := ((h.src (P := Try.prog) Try.underlying31)).cellsD
    have hrun := run_append_grow_src (P := Try.prog) w 31 9 ty 5 i z Try.underlying31 hi hz ap n n (bs l) (by rw [h1]; exact hold) (.string s) s.size (bs (sb s)) (by rw [h1]; exact hsrc) (by omega) (by omega)
      (by rw [h2]; have := nextslicecap_le (need := n + s.size) (old := n) (by omega); omega)
    have hge := grownCap_ge w (n + s.size) n 5
    refine ⟨_, _, _, hrun, hge, ?_, ((Below.refl w.heap.size w).drew).alloc (Nat.le_refl _) _⟩
    refine ⟨by rw [List.length_append, h.len, sb_length], hge, .inr ⟨w.heap.size, 0, _, _, rfl, heap_alloc_last w.drew _, ?_⟩⟩
    have k := Row.new w.drew ((bs l ++ bs (sb s)).toArray ++ Builtin.zeroCells z.cells (grownCap w (n + s.size) n 5 - (n + s.size))) 5
    rw [Array.toList_append] at k
    have k2 := k.left.cell
    rw [bs_app]
    exact k2
theorem wpList_appendS {ops : Array Oper} {rest : List Oper} {o : Oper} {a : Act} {w : World} {Q : Exit → Act → World → Prop} (hg : o.guard = none) (d x : Operand) (ho : o.op = .call { callee := .builtin .append, args := #[d, x], argTypes := #[31, 9] })
    {ap : Option Addr} {n : Nat} {l : List UInt8} {s : ByteArray} (hd : a.eval d = .slice ap n n) (hx : a.eval x = .string s) (hS : Sb w ap n n l) (hn : n + s.size ≤ 4000)
    (h : ∀ a' c' w', n + s.size ≤ c' → Sb w' a' (n + s.size) c' (l ++ sb s) → Below w.heap.size w w' → wpList Try.prog ops Q rest (a.put o.dst (.slice a' (n + s.size) c')) w') : wpList Try.prog ops Q (o :: rest) a w := by
  refine wpList_plain hg fun K hK => ?_
  obtain ⟨a', c', w', hrun, hc, hSb, hB⟩ := run_appendS w o.type ap n l s hS hn
  unfold Oper.wp
  simp [execOp, ho, resolve, invoke, builtin, hd, hx, hrun, Result.andThen]
  exact hK _ _ (h a' c' w' hc hSb hB)

/-- The hash at block b on its way through L: q blocks were gone through, c bytes are taken in. -/
structure Hw (w : World) (b : Nat) (h : List Nat) (L : List UInt8) (q c : Nat) : Prop where
  ty : Ty w b
  lo : 64 * q ≤ c
  hi : c ≤ 64 * q + 64
  le : c ≤ L.length
  ok : q = 0 ∨ 64 * q < L.length
  ex : ∃ a, Row w b 0 (hcs (st h L q) (64 * q) a (c - 64 * q)) ∧ Sb w a (c - 64 * q) (c - 64 * q) ((L.drop (64 * q)).take (c - 64 * q))
theorem Hw.of {w : World} {b : Nat} {h : List Nat} {l x : List UInt8} (H : Hs w b h l) : Hw w b h (l ++ x) (qn l.length) l.length := by
  have k := qn_le l.length
  refine ⟨H.ty, k.1, k.2, by simp, ?_, ?_⟩
  · rw [List.length_append]; unfold qn; omega
  · obtain ⟨a, hr, hs⟩ := H.ex
    refine ⟨a, ?_, ?_⟩
    · rw [st_app h l x _ k.1]
      rw [lf_length] at hr
      exact hr
    · rw [lf_length] at hs
      have : ((l ++ x).drop (64 * qn l.length)).take (l.length - 64 * qn l.length) = lf l := by
        unfold lf
        rw [List.drop_append_of_le_length k.1, List.take_append_of_le_length (by simp), List.take_of_length_le (by simp)]
      rw [this]; exact hs

theorem Hw.row {w : World} {b : Nat} {h : List Nat} {L : List UInt8} {q c : Nat} (H : Hw w b h L q c) (h8 : h.length = 8) (lh : Lt h) :
    ∃ a N, Row w b 0 (stv N (64 * q)) ∧ Row w b 9 [.slice a (c - 64 * q) (c - 64 * q)] ∧ Sb w a (c - 64 * q) (c - 64 * q) ((L.drop (64 * q)).take (c - 64 * q)) ∧ N.length = 8 ∧ Lt N ∧ N = st h L q := by
  obtain ⟨a, hr, hs⟩ := H.ex
  have n8 : (st h L q).length = 8 := st_length h8 _ _
  refine ⟨a, st h L q, hr.left, ?_, hs, n8, st_lt lh _ _, rfl⟩
  have k : Row w b (0 + (stv (st h L q) (64 * q)).length) [.slice a (c - 64 * q) (c - 64 * q)] := hr.right
  rwa [stv_length, n8] at k
theorem nums_take (L : List UInt8) (q n m : Nat) (x : List UInt8) (hL : 64 * q + 64 ≤ L.length) (hnm : n + m = 64) (hx : x = L.drop (64 * q + n)) : nums (fill64 ((L.drop (64 * q)).take n) (x.take m)) = nums (L.drop (64 * q)) := by
  subst hx
  apply nums_ext
  intro j hj
  have e : (L.drop (64 * q)).take n ++ ((L.drop (64 * q + n)).take m) = (L.drop (64 * q)).take 64 := by
    rw [← List.drop_drop, ← hnm, List.take_add]
  unfold fill64
  rw [← List.append_assoc, e, by_app _ _ _ (by simp; omega)]
  simp [by', List.getD_eq_getElem?_getD, List.getElem?_take, hj]
theorem stv_setRow (N M : List Nat) (t u : Nat) (a : Option Addr) (n : Nat) (hN : N.length = 8) (hM : M.length = 8) : True := trivial
/-- A block was gone through: the numbers, and no bytes are left. -/
theorem Hw.next {w : World} {b : Nat} {h : List Nat} {L : List UInt8} {q : Nat} (hty : Ty w b) (hlen : 64 * (q + 1) < L.length) (r1 : Row w b 0 (stv (st h L (q + 1)) (64 * (q + 1)))) (r2 : Row w b 9 [.slice none 0 0]) (n8 : (st h L (q + 1)).length = 8) : Hw w b h L (q + 1) (64 * (q + 1)) := by
  refine ⟨hty, Nat.le_refl _, by omega, by omega, .inr hlen, none, ?_, ?_⟩
  · rw [Nat.sub_self]
    refine Row.join r1 ?_
    rw [stv_length, n8]
    exact r2
  · rw [Nat.sub_self, List.take_zero]; exact Sb.nil w
theorem Hw.drew {w : World} {b : Nat} {h : List Nat} {L : List UInt8} {q c : Nat} (H : Hw w b h L q c) : Hw w.drew b h L q c := by
  obtain ⟨a, hr, hs⟩ := H.ex
  exact ⟨H.ty, H.lo, H.hi, H.le, H.ok, a, hr.drew, hs.drew⟩
theorem sb_rest {x : ByteArray} {L : List UInt8} {c m n q : Nat} (hx : sb x = L.drop c) (h1 : n + m = 64) (h2 : c = 64 * q + n) : sb (x.extract m x.size) = L.drop (64 * (q + 1)) := by
  rw [sb_extract, hx, List.drop_drop, show c + m = 64 * (q + 1) by omega]
  apply List.take_of_length_le
  rw [← sb_length, hx, List.length_drop, List.length_drop]
  omega
/-- All is taken in. -/
theorem Hs.of {w : World} {b : Nat} {h : List Nat} {L : List UInt8} {q : Nat} {a : Option Addr} (hty : Ty w b) (hq : q = qn L.length) (n8 : (st h L q).length = 8) (r1 : Row w b 0 (stv (st h L q) (64 * q))) (r2 : Row w b 9 [.slice a (lf L).length (lf L).length]) (hs : Sb w a (lf L).length (lf L).length (lf L)) : Hs w b h L := by
  subst hq
  refine ⟨hty, a, Row.join r1 ?_, hs⟩
  rw [stv_length]
  show Row w b (0 + ((st h L (qn L.length)).length + 1)) _
  rw [n8]
  exact r2


set_option maxRecDepth 100000 in
set_option maxHeartbeats 4000000 in
theorem hadd_any {w : World} {b : Nat} {h : List Nat} {l : List UInt8} (s : ByteArray) (H : Hs w b h l) (h8 : h.length = 8) (lh : Lt h) (hl : l.length + s.size < 4611686018427387904) :
    Calls Try.prog 21 #[.pointer (some ⟨b, 0, none⟩), .string s] w fun e w' => e = .returned (.int .i64 0) ∧ Hs w' b h (l ++ sb s) ∧ Bt b w w' := by
  obtain ⟨L, eL⟩ : ∃ L, l ++ sb s = L := ⟨_, rfl⟩
  have lenL : L.length = l.length + s.size := by rw [← eL, List.length_append, sb_length]
  have hW : Hw w b h L (qn l.length) l.length := by rw [← eL]; exact Hw.of H
  have hx0 : sb s = L.drop l.length := by rw [← eL, List.drop_left]
  have hq0 := qn_le l.length
  have HE := hide eL
  have HHL := hide lenL
  rw [lenL.symm] at hl
  obtain ⟨q0, eq0⟩ : ∃ q0, qn l.length = q0 := ⟨_, rfl⟩
  rw [eq0] at hW hq0
  obtain ⟨c0, ec0⟩ : ∃ c0, l.length = c0 := ⟨_, rfl⟩
  rw [ec0] at hW hq0 hx0
  have hc0 := hW.le
  have HW := hide hW
  have HX := hide hx0
  rw [eL]
  clear eL lenL eq0 ec0 hW hx0 H
  have hSz : (s.size : Int) < 4611686018427387904 := by have := HHL.out; omega
  clear HHL HE
  go_enter Try.func21, Try.ntmps21
  go_wp2_with fail
  go_loopg [1, 5] (L.length - q0) (fun g v _ wr => ∃ (q c : Nat) (x : ByteArray), q + g = L.length ∧ v = .string x ∧ sb x = L.drop c ∧ Hw wr b h L q c ∧ Bt b w wr)
  case atStart => exact ⟨q0, c0, s, by omega, rfl, HX.out, HW.out, Bt.refl _ _⟩
  case round =>
    clear HW HX hc0 hq0 hSz
    obtain ⟨q, c, x, hqg, rfl, hx, hW, hBt⟩ := hrel
    obtain ⟨a, N, r1, r2, hs, nN, lN, eN⟩ := hW.row h8 lh
    have hlo := hW.lo
    have hhi := hW.hi
    have hle := hW.le
    have hok := hW.ok
    have hty := hW.ty
    have hxl : x.size = L.length - c := by rw [← sb_length, hx, List.length_drop]
    obtain ⟨n, en⟩ : ∃ n, c - 64 * q = n := ⟨_, rfl⟩
    rw [en] at r2 hs
    have hn64 : n ≤ 64 := by omega
    have hnI : (n : Int) ≤ 64 := by omega
    have hxI : (x.size : Int) < 4611686018427387904 := by omega
    have HX := hide hx
    have HTY := hide hty
    have HBT := hide hBt
    have HS := hide hs
    have HlN := hide lN
    have HeN := hide eN
    have HR := hide (And.intro r1 r2)
    have hc := r2.cell 0 _ rfl
    have hr1 := hide r1
    clear hx hW hty hs lN eN hBt r1 r2
    by_cases hlt : 64 * (q + 1) < L.length
    · obtain ⟨m, em⟩ : ∃ m, 64 - n = m := ⟨_, rfl⟩
      have hmI : (64 : Int) - (n : Int) = (m : Int) := by omega
      have hgt : ((m : Nat) : Int) < (x.size : Int) := by omega
      have hmx : m ≤ x.size := by omega
      obtain ⟨g3, rfl⟩ : ∃ g3, gk = g3 + 1 := ⟨gk - 1, by omega⟩
      have HQG := hide (show q + 1 + g3 = L.length by omega)
      have HNM := hide (show n + m = 64 ∧ c = 64 * q + n ∧ 64 * q + 64 < L.length by omega)
      obtain ⟨G, eG⟩ : ∃ G, st h L (q + 1) = G := ⟨_, rfl⟩
      have nG : G.length = 8 := eG ▸ st_length h8 _ _
      obtain ⟨F, eF⟩ : ∃ F, fill64 ((L.drop (64 * q)).take n) (sb (x.extract 0 m)) = F := ⟨_, rfl⟩
      have hsx : n + (x.extract 0 m).size ≤ 64 := by rw [size_extract _ _ _ hmx]; omega
      have hsbx : sb (x.extract 0 m) = (sb x).take m := by rw [sb_extract]; simp
      have lF : F.length = 64 := by rw [← eF]; exact fill64_length _ _ (by rw [hsbx]; simp; omega)
      have nF : nums F = nums (L.drop (64 * q)) := by rw [← eF, hsbx]; exact nums_take L q n m (sb x) (by omega) (by omega) (by rw [HX.out, show c = 64 * q + n by omega])
      obtain ⟨T, eT⟩ : ∃ T, 64 * q = T := ⟨_, rfl⟩
      obtain ⟨T1, eT1⟩ : ∃ T1, T + 64 = T1 := ⟨_, rfl⟩
      have hfin : cmp N T1 (nums F) false = G := by rw [← eG, HeN.out, nF, ← eT1, ← eT]; rfl
      have HFI := hide hfin
      have HF := hide eF
      have HlF := hide lF
      have HSX := hide hsx
      have HTl := hide (show T + 64 < 9223372036854775808 by omega)
      have HG := hide eG
      have HT1 := hide eT1
      have HT := hide (show 64 * q = T ∧ T1 = 64 * (q + 1) by omega)
      rw [eT] at HR
      clear hlt hxl hqg hlo hhi hle hok em en hl eF eG nF hfin lF hsx hsbx eT hr1 eT1
      go_wp2_with fail
      refine wp_region_ord (fun w9 => Row w9 b 0 (stv N T) ∧ w9.cell? ⟨b, 9, none⟩ = some (.slice a n n)) 16 [(0, some true), (1, some true), (2, some true), (3, some true), (4, some false), (5, some true), (6, some true), (7, some true), (8, some false), (9, some true), (10, some true), (11, some true), (12, none), (13, none), (14, some true), (15, some true), (16, none)] (by kernel_rfl) (by kernel_rfl) (fun _ _ _ _ h => h) ⟨HR.out.1.drew, hc⟩ ?_
      refine ord_pure (.pointer (some ⟨b, 0, none⟩)) rfl (by kernel_rfl) (fun w9 => by go_simp) ?_
      simp only [Act.put, List.setIfInBounds_toArray, List.set_cons_zero, List.set_cons_succ]
      refine ord_pure (.pointer (some ⟨b, 0, none⟩)) rfl (by kernel_rfl) (fun w9 => by go_simp) ?_
      simp only [Act.put, List.setIfInBounds_toArray, List.set_cons_zero, List.set_cons_succ]
      refine ord_pure (.pointer (some ⟨b, 0, none⟩)) rfl (by kernel_rfl) (fun w9 => by go_simp) ?_
      simp only [Act.put, List.setIfInBounds_toArray, List.set_cons_zero, List.set_cons_succ]
      refine ord_pure (.pointer (some ⟨b, 0, none⟩)) rfl (by kernel_rfl) (fun w9 => by go_simp) ?_
      simp only [Act.put, List.setIfInBounds_toArray, List.set_cons_zero, List.set_cons_succ]
      refine ord_load 58 (.tmp 27) rfl rfl (by kernel_rfl) rfl _ (fun w9 h9 => h9.1.cell) Try.underlying58 rfl (by rw [stv_length, nN]; kernel_rfl) ?_
      simp only [Act.put, List.setIfInBounds_toArray, List.set_cons_zero, List.set_cons_succ]
      refine ord_pure (.pointer (some ⟨b, 0, none⟩)) rfl (by kernel_rfl) (fun w9 => by go_simp) ?_
      simp only [Act.put, List.setIfInBounds_toArray, List.set_cons_zero, List.set_cons_succ]
      refine ord_pure (.pointer (some ⟨b, 0, none⟩)) rfl (by kernel_rfl) (fun w9 => by go_simp) ?_
      simp only [Act.put, List.setIfInBounds_toArray, List.set_cons_zero, List.set_cons_succ]
      refine ord_pure (.pointer (some ⟨b, 9, none⟩)) rfl (by kernel_rfl) (fun w9 => by go_simp) ?_
      simp only [Act.put, List.setIfInBounds_toArray, List.set_cons_zero, List.set_cons_succ]
      refine ord_held (.slice a n n) rfl (by kernel_rfl) (fun w9 h9 => by have h8 := h9.2; go_simp) ?_
      simp only [Act.put, List.setIfInBounds_toArray, List.set_cons_zero, List.set_cons_succ]
      refine ord_pure (.string x) rfl (by kernel_rfl) (fun w9 => by go_simp) ?_
      simp only [Act.put, List.setIfInBounds_toArray, List.set_cons_zero, List.set_cons_succ]
      refine ord_pure (.int .i64 (m : Int)) rfl (by kernel_rfl) (fun w9 => by go_simp) ?_
      simp only [Act.put, List.setIfInBounds_toArray, List.set_cons_zero, List.set_cons_succ]
      refine ord_pure (.string (x.extract 0 m)) rfl (by kernel_rfl) (fun w9 => by go_simp) ?_
      simp only [Act.put, List.setIfInBounds_toArray, List.set_cons_zero, List.set_cons_succ]
      refine ord_go rfl (fun K hK => ?_)
      go_simp
      go_wp2_with fail
      refine (filled_any _ a n n _ _ HS.out.drew HSX.out).mono ?_
      rintro e w5 ⟨rfl, hB5⟩
      rw [HF.out]
      dsimp only
      have h5 := HR.out.1.drew.below hB5 HR.out.1.lt
      have h5c := HR.out.2.drew.below hB5 HR.out.2.lt
      refine hK.out _ _ (fun _ => ⟨h5, h5c.cell 0 _ rfl⟩) ?_
      have HB5 := hide hB5
      have H5 := hide (And.intro h5 h5c)
      clear hK K hB5 h5 h5c
      refine ord_go rfl (fun K hK => ?_)
      go_simp
      go_wp2_with fail
      refine (after_any N T 64 F false _ nN HlN.out HlF.out HTl.out).mono ?_
      rintro e w6 ⟨rfl, hB6⟩
      rw [HT1.out, HFI.out]
      dsimp only
      have hb5 := H5.out.1.lt
      have h6 := H5.out.1.below hB6 hb5
      have h6c := H5.out.2.below hB6 hb5
      refine hK.out _ _ (fun _ => ⟨h6, h6c.cell 0 _ rfl⟩) ?_
      have HB6 := hide hB6
      have H6 := hide (And.intro h6 h6c)
      clear hK K hB6 h6 h6c
      refine ord_pure (o := ⟨some 38, _, _, _, _, _⟩) (.pointer (some ⟨b, 0, none⟩)) rfl (by kernel_rfl) (fun w9 => by go_simp) ?_
      simp only [Act.put, List.setIfInBounds_toArray, List.set_cons_zero, List.set_cons_succ]
      refine ord_pure (o := ⟨some 39, _, _, _, _, _⟩) (.pointer (some ⟨b, 0, none⟩)) rfl (by kernel_rfl) (fun w9 => by go_simp) ?_
      simp only [Act.put, List.setIfInBounds_toArray, List.set_cons_zero, List.set_cons_succ]
      obtain ⟨W7, hW7, z1, z2⟩ : ∃ W, w6.setCells b 0 (stv G T1) = W ∧ Row W b 0 (stv G T1) ∧ Row W b 9 [.slice a n n] :=
        ⟨_, rfl, H6.out.1.put _ (by rw [stv_length, stv_length, nG, nN]), H6.out.2.apart _ _ _ (.inr (.inr (by rw [stv_length, nG]; exact Nat.le_refl _)))⟩
      have q6 : Below wr.heap.size wr w6 := by
        have k5 : Below wr.heap.size wr w5 := (Below.refl wr.heap.size wr).drew.trans HB5.out
        exact k5.trans (HB6.out.mono k5.size)
      have hTy7 : Ty W7 b := by rw [← hW7]; exact (HTY.out.below q6 HR.out.1.lt).setCells _ _ _
      have hBt7 : Bt b w W7 := by rw [← hW7]; exact (HBT.out.trans (Bt.of_below q6)).setCells _ _
      have hcell7 : W7.cell? ⟨b, 9, none⟩ = some (.slice a n n) := z2.cell 0 _ rfl
      have hfree7 : W7.frozen? ⟨b, 9, none⟩ = false := z2.free 0 (by simp)
      obtain ⟨W8, hW8, hH8, hB8⟩ : ∃ W, W7.setCell ⟨b, 9, none⟩ (.slice none 0 0) = W ∧ Hw W b h L (q + 1) (64 * (q + 1)) ∧ Bt b w W := by
        refine ⟨_, rfl, Hw.next (hTy7.setCell _ _ _) (by have := HNM.out.2.2; omega) ?_ (z2.set (i := 0) (by simp) _) (by rw [HG.out]; exact nG), hBt7.setCell _ _⟩
        rw [HG.out, ← HT.out.2]
        exact z1.other _ _ _ (.inr (.inr (by rw [stv_length, nG]; exact Nat.le_refl _)))
      have HH8 := hide hH8
      have HB8 := hide hB8
      have HZ1 := hide z1
      clear hH8 hB8 z1 z2 hTy7 hBt7
      refine ord_storeR rfl rfl rfl 58 (.tmp 39) (.tmp 37) rfl rfl (cs := stv N T) (vs := stv G T1) rfl H6.out.1 (by rw [stv_length, stv_length, nG, nN]) (by rw [stv_length, nG]; kernel_rfl) (fun v hv => stv_one hv) (fun h => by cases h) ?_
      rw [hW7]
      refine ord_end ?_
      go_wp2_with fail
      refine wp_region_ord (fun _ => True) 6 [(0, some true), (1, some true), (2, some true), (3, some true), (4, some true), (5, some true), (6, none), (7, none)] (by kernel_rfl) (by kernel_rfl) (fun _ _ _ _ h => h) trivial ?_
      refine ord_pure (.pointer (some ⟨b, 0, none⟩)) rfl (by kernel_rfl) (fun w9 => by go_simp) ?_
      simp only [Act.put, List.setIfInBounds_toArray, List.set_cons_zero, List.set_cons_succ]
      refine ord_pure (.string x) rfl (by kernel_rfl) (fun w9 => by go_simp) ?_
      simp only [Act.put, List.setIfInBounds_toArray, List.set_cons_zero, List.set_cons_succ]
      refine ord_pure (.int .i64 (m : Int)) rfl (by kernel_rfl) (fun w9 => by go_simp) ?_
      simp only [Act.put, List.setIfInBounds_toArray, List.set_cons_zero, List.set_cons_succ]
      refine ord_pure (.string (x.extract m x.size)) rfl (by kernel_rfl) (fun w9 => by go_simp) ?_
      simp only [Act.put, List.setIfInBounds_toArray, List.set_cons_zero, List.set_cons_succ]
      refine ord_pure (.pointer (some ⟨b, 0, none⟩)) rfl (by kernel_rfl) (fun w9 => by go_simp) ?_
      simp only [Act.put, List.setIfInBounds_toArray, List.set_cons_zero, List.set_cons_succ]
      refine ord_pure (.pointer (some ⟨b, 9, none⟩)) rfl (by kernel_rfl) (fun w9 => by go_simp) ?_
      simp only [Act.put, List.setIfInBounds_toArray, List.set_cons_zero, List.set_cons_succ]
      refine ord_go rfl (fun K hK => ?_)
      go_simp
      refine hK.out _ _ (fun _ => trivial) ?_
      clear hK K
      refine ord_go rfl (fun K hK => ?_)
      go_simp
      refine hK.out _ _ (fun _ => trivial) ?_
      clear hK K
      refine ord_end ?_
      go_wp2_with fail
      go_roundg g3
      case measure => omega
      case rel => exact ⟨q + 1, 64 * (q + 1), x.extract m x.size, HQG.out, rfl, sb_rest HX.out HNM.out.1 HNM.out.2.1, HH8.out.drew, HB8.out.drew⟩
    · have hge : ¬ ((64 : Int) - (n : Int) < (x.size : Int)) := by omega
      have hq : q = qn L.length := qn_of (by omega) hok
      have hN8 : (st h L q).length = 8 := st_length h8 _ _
      have hxs : n + x.size ≤ 4000 := by omega
      have hlast : (L.drop (64 * q)).take n ++ sb x = lf L := by
        rw [HX.out, show c = 64 * q + n by omega, ← List.drop_drop, List.take_append_drop, hq]
        rfl
      have hll : n + x.size = (lf L).length := by rw [← hlast, List.length_append, List.length_take, List.length_drop, sb_length]; omega
      have hlr : HR.out.1.lt = HR.out.1.lt := rfl
      obtain ⟨k, ek⟩ : ∃ k, n + x.size = k := ⟨_, rfl⟩
      have hkI : (n : Int) + (x.size : Int) = (k : Int) := by omega
      have HQ := hide (And.intro hq hN8)
      have HLA := hide hlast
      have HXS := hide hxs
      have HLL := hide (show k = (lf L).length by omega)
      have HEK := hide ek
      have hkI2 : (k : Int) < 4611686018427387904 := by omega
      clear hlt hxl hqg hlo hhi hle hok en hq hN8 hxs hlast hll hlr ek hl hr1
      go_wp2_with (refine wpList_appendS rfl (.tmp 49) (.tmp 50) rfl rfl rfl HS.out HXS.out ?_
                   rw [HEK.out, HLA.out]
                   intro a1 c1 w2 hc1 hS2 hB2
                   have h2 := HR.out.2.below hB2 HR.out.2.lt
                   have h2c : w2.cell? ⟨b, 9, none⟩ = some (.slice a n n) := h2.cell 0 _ rfl
                   have h2f : w2.frozen? ⟨b, 9, none⟩ = false := h2.free 0 (by simp)
                   have hc1I : (k : Int) ≤ (c1 : Int) := by omega
                   have H2 := hide h2
                   have HS2 := hide hS2
                   have HB2 := hide hB2
                   clear h2 hS2 hB2)
      go_ret
      have h1 := HR.out.1.below HB2.out HR.out.1.lt
      have hT2 := HTY.out.below HB2.out HR.out.1.lt
      have hB := Bt.setCell (Bt.refl b w2) 9 (.slice a1 k k)
      have hS3 : Sb w2 a1 k k (lf L) := ⟨HS2.out.len, Nat.le_refl _, HS2.out.at'⟩
      have hN : N.length = 8 := nN
      refine ⟨rfl, Hs.of (a := a1) (hT2.setCell _ _ _) HQ.out.1 HQ.out.2 ?_ ?_ ?_, (HBT.out.trans (Bt.of_below HB2.out)).setCell _ _⟩
      · rw [← HeN.out]
        exact h1.other _ _ _ (.inr (.inr (by rw [stv_length, hN]; exact Nat.le_refl _)))
      · rw [← HLL.out]
        exact H2.out.set (i := 0) (by simp) _
      · rw [← HLL.out]
        exact hS3.bt hT2 hB

end Go.Proofs.Ytjdgaolailfplaa
