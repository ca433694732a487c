/- decode's way down: two polynomials beside one another, till one is short enough. For at most 255 sums. -/
import Derived.Test.YtdbdidohldhnhaaInts
import Derived.Deep.LoopGhost
import Derived.Deep.DeepCutAuto
namespace Go.Proofs.Ytdbdidohldhnhaa
open Go.RowKit Gf
set_option linter.unusedVariables false

/-- The sums, times what is gone, but for multiples of z to the power r. -/
def cutT (r : Nat) (f : Nat → Int) : Nat → Int := fun k => if k < r then f k else 0
theorem cutT16 {r : Nat} {f : Nat → Int} (hf : P16 f) : P16 (cutT r f) := fun k => by
  unfold cutT
  split
  · exact hf k
  · exact z16

/-- The slice's cells lie in none of these blocks. -/
def Nb (X : Nat → Prop) (a : Option Addr) (n : Nat) : Prop := n = 0 ∨ ∀ x, a = some x → ¬ X x.block
theorem Only.sl' {b : Nat} {w w' : World} (h : Only b w w') {X : Nat → Prop} {a : Option Addr} {n c : Nat} {f : Nat → Int} (hs : Sl w a n c f) (hne : Nb X a n) (hb : X b) : Sl w' a n c f := by
  rcases hne with h0 | h1
  · exact ⟨hs.bd, hs.out, hs.cap, hs.nil, .inl h0⟩
  · exact h.sl hs (fun x e hx => h1 x e (hx ▸ hb))
theorem New.nb {w w' : World} {a : Option Addr} {n c : Nat} {X : Nat → Prop} {f : Nat → Int} (h : New w w' a n c f) (hB : ∀ b, X b → b < w.heap.size) : Nb X a n := by
  rcases h.own with h0 | ⟨b, off, rfl, hb, _⟩
  · exact .inl h0
  · exact .inr fun x e => by
      cases e
      intro hx
      have := hB _ hx
      show False
      simp at this
      omega
/-- The two beside one another, as they lie in block B: that which is divided at place p. -/
structure Pair (X : Nat → Prop) (wr : World) (B p r q : Nat) (T : Nat → Int) (a1 : Nat) (al0 : Option Addr) (cl0 : Nat) (ab0 : Option Addr) (nb0 cb0 : Nat) (al1 : Option Addr) (cl1 : Nat) (ab1 : Option Addr) (cb1 : Nat) (l0 b0 l1 b1 : Nat → Int) (a0 k1 : Nat) : Prop where
  lt : B < wr.heap.size
  m0 : wr.cell? ⟨B, 2 * p, none⟩ = some (.slice al0 (a0 + 1) cl0)
  m1 : wr.cell? ⟨B, 2 * p + 1, none⟩ = some (.slice ab0 nb0 cb0)
  m2 : wr.cell? ⟨B, 2 * (1 - p), none⟩ = some (.slice al1 a1 cl1)
  m3 : wr.cell? ⟨B, 2 * (1 - p) + 1, none⟩ = some (.slice ab1 (k1 + 1) cb1)
  fz : ∀ o, wr.frozen? ⟨B, o, none⟩ = false
  s0 : Sl wr al0 (a0 + 1) cl0 l0
  s1 : Sl wr ab0 nb0 cb0 b0
  s2 : Sl wr al1 a1 cl1 l1
  s3 : Sl wr ab1 (k1 + 1) cb1 b1
  d0 : Nb X al0 (a0 + 1)
  d1 : Nb X ab0 nb0
  d2 : Nb X al1 a1
  d3 : Nb X ab1 (k1 + 1)
  nb : nb0 ≤ 300
  eu : Eu r T l0 b0 l1 b1 a0 a1 k1
  qa : q ≤ a0
theorem c_be {w w' : World} {b o : Nat} {v : Value} (h : Below w.heap.size w w') (hb : b < w.heap.size) (e : w.cell? ⟨b, o, none⟩ = some v) : w'.cell? ⟨b, o, none⟩ = some v := (h.cell (p := ⟨b, o, none⟩) hb).trans e
theorem set2 {w : World} {b o : Nat} {x y v0 v1 : Value} (hx : w.cell? ⟨b, o, none⟩ = some x) (hy : w.cell? ⟨b, o + 1, none⟩ = some y) :
    ((w.setCell ⟨b, o, none⟩ v0).setCell ⟨b, o + 1, none⟩ v1).cell? ⟨b, o, none⟩ = some v0 ∧ ((w.setCell ⟨b, o, none⟩ v0).setCell ⟨b, o + 1, none⟩ v1).cell? ⟨b, o + 1, none⟩ = some v1 ∧
    (∀ i, i ≠ o → i ≠ o + 1 → ((w.setCell ⟨b, o, none⟩ v0).setCell ⟨b, o + 1, none⟩ v1).cell? ⟨b, i, none⟩ = w.cell? ⟨b, i, none⟩) ∧ Only b w ((w.setCell ⟨b, o, none⟩ v0).setCell ⟨b, o + 1, none⟩ v1) ∧
    ∀ p, ((w.setCell ⟨b, o, none⟩ v0).setCell ⟨b, o + 1, none⟩ v1).frozen? p = w.frozen? p := by
  have h1 : (w.setCell ⟨b, o, none⟩ v0).cell? ⟨b, o, none⟩ = some v0 := World.cell?_setCell_same' _ _ _ (by rw [hx]; rfl)
  have h2 : (w.setCell ⟨b, o, none⟩ v0).cell? ⟨b, o + 1, none⟩ = some y := (World.cell?_setCell_other _ _ _ _ (by intro h; injection h with _ h; omega)).trans hy
  refine ⟨(World.cell?_setCell_other _ _ _ _ (by intro h; injection h with _ h; omega)).trans h1, World.cell?_setCell_same' _ _ _ (by rw [h2]; rfl), fun i hi hi' => ?_, (Only.setCell _ _ _ _).trans (Only.setCell _ _ _ _), fun p => by rw [World.frozen?_setCell, World.frozen?_setCell]⟩
  exact (World.cell?_setCell_other _ _ _ _ (by intro h; injection h with _ h; omega)).trans (World.cell?_setCell_other _ _ _ _ (by intro h; injection h with _ h; omega))
theorem Sl.drew {w : World} {a : Option Addr} {n c : Nat} {f : Nat → Int} (h : Sl w a n c f) : Sl w.drew a n c f := ⟨h.bd, h.out, h.cap, h.nil, h.at'⟩
theorem Pair.drew {X : Nat → Prop} {wr : World} {B p r q : Nat} {T : Nat → Int} {a1 : Nat} {al0 : Option Addr} {cl0 : Nat} {ab0 : Option Addr} {nb0 cb0 : Nat} {al1 : Option Addr} {cl1 : Nat} {ab1 : Option Addr} {cb1 : Nat} {l0 b0 l1 b1 : Nat → Int} {a0 k1 : Nat}
    (h : Pair X wr B p r q T a1 al0 cl0 ab0 nb0 cb0 al1 cl1 ab1 cb1 l0 b0 l1 b1 a0 k1) : Pair X wr.drew B p r q T a1 al0 cl0 ab0 nb0 cb0 al1 cl1 ab1 cb1 l0 b0 l1 b1 a0 k1 :=
  ⟨h.lt, h.m0, h.m1, h.m2, h.m3, h.fz, h.s0.drew, h.s1.drew, h.s2.drew, h.s3.drew, h.d0, h.d1, h.d2, h.d3, h.nb, h.eu, h.qa⟩
/-- One step down, in memory. -/
theorem Pair.next {X : Nat → Prop} {wr : World} {B p r q : Nat} {T : Nat → Int} {m : Nat} {al0 : Option Addr} {cl0 : Nat} {ab0 : Option Addr} {nb0 cb0 : Nat} {al1 : Option Addr} {cl1 : Nat} {ab1 : Option Addr} {cb1 : Nat} {l0 b0 l1 b1 : Nat → Int} {a0 k1 : Nat}
    (hp : Pair X wr B p r q T (m + 1) al0 cl0 ab0 nb0 cb0 al1 cl1 ab1 cb1 l0 b0 l1 b1 a0 k1) (hX : X B) (hp2 : p < 2) (hr : r ≤ 255) (hqm : q ≤ m) {w7 : World} (hb : Below wr.heap.size wr w7)
    {ar sa : Option Addr} {nq n2 cr ms cs : Nat} {q' l2 : Nat → Int} (hq16 : P16 q') (sq : Shr q' nq) (N2 : Sl w7 ar n2 cr l2) (D2 : Nb X ar n2) (s2 : Shr l2 n2) (hn2 : n2 ≤ m) (heq : addp (mulp q' l1) l2 = l0)
    (N3 : Sl w7 sa ms cs (addp b0 (mulp q' b1))) (D3 : Nb X sa ms) (s3 : Shr (addp b0 (mulp q' b1)) ms) :
    ∃ k2, ms = k2 + 1 ∧ Pair X ((w7.setCell ⟨B, 2 * p, none⟩ (.slice ar n2 cr)).setCell ⟨B, 2 * p + 1, none⟩ (.slice sa ms cs)) B (1 - p) r q T n2 al1 cl1 ab1 (k1 + 1) cb1 ar cr sa cs l1 b1 l2 (addp b0 (mulp q' b1)) m k2 := by
  obtain ⟨k2, hE⟩ := hp.eu.down hq16 N2.bd sq s2 hn2 heq
  obtain rfl : ms = k2 + 1 := s3.uniq hE.sb1
  have hsum := hp.eu.sum
  obtain ⟨e1, e2, e3, e4, e5⟩ := set2 (v0 := .slice ar n2 cr) (v1 := .slice sa (k2 + 1) cs) (c_be hb hp.lt hp.m0) (c_be hb hp.lt hp.m1)
  have hl7 : B < w7.heap.size := Nat.lt_of_lt_of_le hp.lt hb.size
  have ep : 1 - (1 - p) = p := by omega
  refine ⟨k2, rfl, by rw [e4.size]; exact hl7, ?_, ?_, ?_, ?_, fun o => ?_, e4.sl' (hp.s2.below hb) hp.d2 hX, e4.sl' (hp.s3.below hb) hp.d3 hX, e4.sl' N2 D2 hX, e4.sl' N3 D3 hX, hp.d2, hp.d3, D2, D3, by omega, hE, hqm⟩
  · rw [e3 _ (by omega) (by omega)]; exact c_be hb hp.lt hp.m2
  · rw [e3 _ (by omega) (by omega)]; exact c_be hb hp.lt hp.m3
  · rw [ep]; exact e1
  · rw [ep]; exact e2
  · rw [e5]; exact (hb.frozen (p := ⟨B, o, none⟩) hp.lt).trans (hp.fz o)
/-- The blocks that the way down writes. -/
def Xb (w w2 : World) (b : Nat) : Prop := b = w2.heap.size + 1 ∨ b = w2.heap.size + 1 + 1 ∨ b = w.heap.size
theorem xb_no {w w2 : World} {b : Nat} (h1 : b ≠ w2.heap.size + 1) (h2 : b ≠ w2.heap.size + 1 + 1) (h3 : b ≠ w.heap.size) : ¬ Xb w w2 b := fun h => by
  rcases h with h | h | h
  · exact h1 h
  · exact h2 h
  · exact h3 h
theorem new_cell (w : World) (arr : Array Value) (t : TypeId) (o : Nat) (v : Value) (h : arr[o]? = some v) : (w.alloc (.cells arr t)).cell? ⟨w.heap.size, o, none⟩ = some v := by
  have h1 := Go.Deep.blk_alloc_new w (.cells arr t)
  simp only [World.cell?, h1]
  exact h
theorem new_free (w : World) (arr : Array Value) (t : TypeId) (o : Nat) : (w.alloc (.cells arr t)).frozen? ⟨w.heap.size, o, none⟩ = false := by
  have h1 := Go.Deep.blk_alloc_new w (.cells arr t)
  simp only [World.frozen?, h1]
  simp
theorem f_al {w : World} {b o : Nat} (h : w.frozen? ⟨b, o, none⟩ = false) (hb : b < w.heap.size) (O : Obj) : (w.alloc O).frozen? ⟨b, o, none⟩ = false :=
  (((Below.refl _ w).alloc (Nat.le_refl _) O).frozen (p := ⟨b, o, none⟩) hb).trans h
theorem c_al {w : World} {b o : Nat} {v : Value} (h : w.cell? ⟨b, o, none⟩ = some v) (hb : b < w.heap.size) (O : Obj) : (w.alloc O).cell? ⟨b, o, none⟩ = some v :=
  (((Below.refl _ w).alloc (Nat.le_refl _) O).cell (p := ⟨b, o, none⟩) hb).trans h
theorem c_al2 {w : World} {b o : Nat} {v : Value} (h : w.cell? ⟨b, o, none⟩ = some v) (hb : b < w.heap.size) (O O' : Obj) : ((w.alloc O).alloc O').cell? ⟨b, o, none⟩ = some v :=
  c_al (c_al h hb O) (by simp; omega) O'
theorem min_nat (a b : Nat) (ats : Array TypeId) (ty : TypeId) : Builtin.min_ ats ty #[.int .i64 (a : Int), .int .i64 (b : Int)] = pure (.int .i64 ((min a b : Nat) : Int)) := by
  show (pure (Value.int .i64 (if (b : Int) < (a : Int) then (b : Int) else (a : Int))) : Sem Value) = _
  have e : (if (b : Int) < (a : Int) then (b : Int) else (a : Int)) = ((min a b : Nat) : Int) := by split <;> omega
  rw [e]

set_option maxRecDepth 100000 in
set_option maxHeartbeats 2000000 in
theorem descend_any {w : World} {a a' : Option Addr} {r c n' c' q : Nat} {s Γ : Nat → Int} (hs : Sl w a r c s) (hg : Sl w a' n' c' Γ) (hr : r ≤ 255) (hn' : n' ≤ 256) (hq0 : 0 < q) (hq : q ≤ r) :
    Calls Try.prog 39 #[.slice a r c, .slice a' n' c', .int .i64 (q : Int)] w fun e w' => ∃ al nl cl ab cb l0 b0 l1 b1 a0 k1,
      e = .returned (.agg #[.slice al nl cl, .slice ab (k1 + 1) cb]) ∧ Below w.heap.size w w' ∧ Sl w' al nl cl l1 ∧ Sl w' ab (k1 + 1) cb b1 ∧ Eu r (cutT r (mulp s Γ)) l0 b0 l1 b1 a0 nl k1 ∧ nl ≤ q ∧ q ≤ a0 := by
  have hmk := mk_int (r + 1) ((r : Int) + 1) (by omega) (by omega)
  have hw0 := Wr.made (w.alloc (.cells #[.slice none 0 0, .slice none 0 0] 62)) (r + 1)
  rw [World.size_alloc] at hw0
  have hfz : ((w.alloc (.cells #[.slice none 0 0, .slice none 0 0] 62)).alloc (.cells (madeCells #[.int .u16 0] (r + 1)) 29)).frozen? ⟨w.heap.size + 1, r, none⟩ = false := by have := hw0.free r (by omega); rwa [Nat.zero_add] at this
  have hcl : ((w.alloc (.cells #[.slice none 0 0, .slice none 0 0] 62)).alloc (.cells (madeCells #[.int .u16 0] (r + 1)) 29)).cell? ⟨w.heap.size + 1, r, none⟩ = some (.int .u16 0) := by have := hw0.cell r (by omega); rwa [Nat.zero_add] at this
  have hw1 : Wr ((w.alloc (.cells #[.slice none 0 0, .slice none 0 0] 62)).alloc (.cells ((madeCells #[.int .u16 0] (r + 1)).setIfInBounds r (.int .u16 1)) 29)) (w.heap.size + 1) 0 (r + 1) (zr r) := by
    have hsz : ((madeCells #[Value.int .u16 0] (r + 1)).setIfInBounds r (.int .u16 1)).size = r + 1 := by rw [Array.size_setIfInBounds, size_madeCells]
    have hr := World.rowIs_alloc (w.alloc (.cells #[.slice none 0 0, .slice none 0 0] 62)) ((madeCells #[.int .u16 0] (r + 1)).setIfInBounds r (.int .u16 1)) 29 (fun j => .int .u16 (zr r j)) (by
      intro j hj
      rw [hsz] at hj
      rw [Array.getElem?_setIfInBounds]
      by_cases e : r = j
      · subst e
        rw [if_pos rfl, if_pos (by rw [size_madeCells]; omega)]
        unfold zr
        rw [if_pos rfl]
      · rw [if_neg e]
        unfold zr
        rw [if_neg (by omega)]
        simp [madeCells, hj, Nat.mod_one])
    rw [hsz, World.size_alloc] at hr
    refine ⟨hr.lt, fun j hj => ?_, fun j _ => ?_⟩
    · rw [Nat.zero_add]; exact hr.cell hj
    · rw [Nat.zero_add]; exact hr.frozen j
  have hbl0 : Below w.heap.size w ((w.alloc (.cells #[.slice none 0 0, .slice none 0 0] 62)).alloc (.cells ((madeCells #[.int .u16 0] (r + 1)).setIfInBounds r (.int .u16 1)) 29)) := ((Below.refl _ _).alloc (Nat.le_refl _) _).alloc (by simp) _
  have hT := hw1.sl (r + 1) (Nat.le_refl _) (zr16 r) (zr_shr r).2
  have hS := (hs.below hbl0)
  have hG := (hg.below hbl0)
  have HW0 := hide (And.intro hbl0 (And.intro hT (And.intro hS hG)))
  have HG16 := hide hg.bd
  clear hw0 hw1 hbl0 hT hS hG hs hg
  go_enter Try.func39, Try.ntmps39
  go_wp2_with fail
  go_step3
  go_wp2_with fail
  obtain ⟨hB0, hT, hS, hG⟩ := HW0.out
  refine (pmul_any hS hG (by omega) (by omega)).mono ?_
  rintro e w1 ⟨ap, mp, cp, rfl, hmp, hsp, hP⟩
  have hR1 : w1.cell? ⟨w.heap.size, 0, none⟩ = some (.slice none 0 0) ∧ w1.cell? ⟨w.heap.size, 1, none⟩ = some (.slice none 0 0) ∧ (∀ o, w1.frozen? ⟨w.heap.size, o, none⟩ = false) ∧ w.heap.size + 1 < w1.heap.size := by
    have hsz := hP.bel.size
    simp at hsz
    refine ⟨(hP.bel.cell (p := ⟨w.heap.size, 0, none⟩) (by simp; omega)).trans (by simp), (hP.bel.cell (p := ⟨w.heap.size, 1, none⟩) (by simp; omega)).trans (by simp), fun o => (hP.bel.frozen (p := ⟨w.heap.size, o, none⟩) (by simp; omega)).trans (by simp), by omega⟩
  have hPT := hP.sl.take (m := min r mp) (g := cutT r (mulp s Γ)) (Nat.min_le_right _ _) (fun j hj => by unfold cutT; rw [if_pos (by omega)]) (fun j hj => by
    unfold cutT
    by_cases h : j < r
    · rw [if_pos h]; exact hsp.2 j (by omega)
    · rw [if_neg h])
  have hcapP := hP.sl.cap
  have HT := hide (hT.below hP.bel)
  have HB := hide (hB0.trans (hP.bel.mono hB0.size))
  obtain ⟨mm, hmm⟩ : ∃ mm, mm = min r mp := ⟨_, rfl⟩
  have hmin := fun ats ty => min_nat r mp ats ty
  rw [← hmm] at hPT hmin
  have hmle : mm ≤ mp := by omega
  have HM := hide hmm
  have HP := hide hPT
  clear hmm
  clear hS hG hB0 hT hP hPT HW0 hsp
  go_wp2_with fail
  refine (short_any HP.out (by omega)).mono ?_
  rintro e w2 ⟨aT, a1, cT, rfl, ha1, hsT, hTn⟩
  have hT2 := hTn.sl
  have HR : Hid (w2.cell? ⟨w.heap.size, 0, none⟩ = some (.slice none 0 0) ∧ w2.cell? ⟨w.heap.size, 1, none⟩ = some (.slice none 0 0) ∧ ∀ o, w2.frozen? ⟨w.heap.size, o, none⟩ = false) :=
    ⟨(hTn.bel.cell (p := ⟨w.heap.size, 0, none⟩) (by show w.heap.size < w1.heap.size; omega)).trans hR1.1, (hTn.bel.cell (p := ⟨w.heap.size, 1, none⟩) (by show w.heap.size < w1.heap.size; omega)).trans hR1.2.1, fun o => (hTn.bel.frozen (p := ⟨w.heap.size, o, none⟩) (by show w.heap.size < w1.heap.size; omega)).trans (hR1.2.2.1 o)⟩
  have hsz2 : w.heap.size + 1 < w2.heap.size := by have := hTn.bel.size; omega
  have HT2 := hide (HT.out.below hTn.bel)
  have HB2 := hide (HB.out.trans (hTn.bel.mono HB.out.size))
  have HL2 := hide hT2
  have HD2 : Hid (Nb (Xb w w2) aT a1) := by
    rcases hTn.own with h0 | ⟨b, off, rfl, hb, hw⟩
    · exact .inl h0
    · have h1 := hw.lt
      refine .inr fun x e => ?_
      cases e
      have := hR1.2.2.2
      exact xb_no (by show b ≠ _; omega) (by show b ≠ _; omega) (by show b ≠ _; omega)
  have HS2 := hide hsT
  clear HT HB HP hTn hT2 hsT hR1 hmin hmk hfz hcl
  go_wp2_with fail
  go_step3
  go_wp2_with fail
  have hP0 : Pair (Xb w w2) (((w2.alloc (.cells #[.int .u16 1] 29)).alloc (.cells #[.slice (some ⟨w.heap.size + 1, 0, none⟩) (r + 1) (r + 1), .slice none 0 0, .slice aT a1 cT, .slice (some ⟨w2.heap.size, 0, none⟩) 1 1] 75)).alloc (.cells #[.slice none 0 0, .slice none 0 0] 62))
      (w2.heap.size + 1) 0 r q (cutT r (mulp s Γ)) a1 (some ⟨w.heap.size + 1, 0, none⟩) (r + 1) none 0 0 aT cT (some ⟨w2.heap.size, 0, none⟩) 1 (zr r) nul (cutT r (mulp s Γ)) (cst 1) r 0 := by
    have hl : Sl (w2.alloc (.cells #[.int .u16 1] 29)) (some ⟨w2.heap.size, 0, none⟩) 1 1 (cst 1) := (sl_lit w2 [1] (by decide)).congr (funext fun j => by cases j <;> rfl)
    have ml := HM.out
    have hnc : ∀ (o : Nat) v, (#[.slice (some ⟨w.heap.size + 1, 0, none⟩) (r + 1) (r + 1), .slice none 0 0, .slice aT a1 cT, .slice (some ⟨w2.heap.size, 0, none⟩) 1 1] : Array Value)[o]? = some v →
        (((w2.alloc (.cells #[.int .u16 1] 29)).alloc (.cells #[.slice (some ⟨w.heap.size + 1, 0, none⟩) (r + 1) (r + 1), .slice none 0 0, .slice aT a1 cT, .slice (some ⟨w2.heap.size, 0, none⟩) 1 1] 75)).alloc (.cells #[.slice none 0 0, .slice none 0 0] 62)).cell? ⟨w2.heap.size + 1, o, none⟩ = some v := fun o v h => by
      have e := new_cell (w2.alloc (.cells #[.int .u16 1] 29)) _ 75 o v h
      rw [World.size_alloc] at e
      exact c_al e (by simp) _
    have hnf : ∀ (o : Nat), (((w2.alloc (.cells #[.int .u16 1] 29)).alloc (.cells #[.slice (some ⟨w.heap.size + 1, 0, none⟩) (r + 1) (r + 1), .slice none 0 0, .slice aT a1 cT, .slice (some ⟨w2.heap.size, 0, none⟩) 1 1] 75)).alloc (.cells #[.slice none 0 0, .slice none 0 0] 62)).frozen? ⟨w2.heap.size + 1, o, none⟩ = false := fun o => by
      have e := new_free (w2.alloc (.cells #[.int .u16 1] 29)) #[.slice (some ⟨w.heap.size + 1, 0, none⟩) (r + 1) (r + 1), .slice none 0 0, .slice aT a1 cT, .slice (some ⟨w2.heap.size, 0, none⟩) 1 1] 75 o
      rw [World.size_alloc] at e
      exact f_al e (by simp) _
    refine ⟨by simp, hnc 0 _ rfl, hnc 1 _ rfl, hnc 2 _ rfl, hnc 3 _ rfl, hnf, ((HT2.out.alloc _).alloc _).alloc _, sl_nil _, ((HL2.out.alloc _).alloc _).alloc _, (hl.alloc _).alloc _, .inr fun x e => ?_, .inl rfl, HD2.out, .inr fun x e => ?_, by omega, Eu.start (cutT16 (mulp16 HG16.out)) HS2.out (by omega), hq⟩
    · cases e
      exact xb_no (by show w.heap.size + 1 ≠ _; omega) (by show w.heap.size + 1 ≠ _; omega) (by show w.heap.size + 1 ≠ _; omega)
    · cases e
      exact xb_no (by show w2.heap.size ≠ _; omega) (by show w2.heap.size ≠ _; omega) (by show w2.heap.size ≠ _; omega)
  go_loopg [12, 13, 14, 15, 16, 17] a1 (fun g _ _ _ _ _ _ wr => ∃ al0 cl0 ab0 nb0 cb0 al1 cl1 ab1 cb1 l0 b0 l1 b1 a0 k1, Pair (Xb w w2) wr (w2.heap.size + 1) 0 r q (cutT r (mulp s Γ)) g al0 cl0 ab0 nb0 cb0 al1 cl1 ab1 cb1 l0 b0 l1 b1 a0 k1 ∧ Below w2.heap.size w2 wr ∧
    (∃ x y, wr.cell? ⟨w2.heap.size + 1 + 1, 0, none⟩ = some x ∧ wr.cell? ⟨w2.heap.size + 1 + 1, 1, none⟩ = some y) ∧ (∀ o, wr.frozen? ⟨w2.heap.size + 1 + 1, o, none⟩ = false) ∧ w2.heap.size + 1 + 1 < wr.heap.size)
  case atStart =>
    refine ⟨_, _, _, _, _, _, _, _, _, _, _, _, _, _, _, hP0, ?_, ⟨.slice none 0 0, .slice none 0 0, by have := new_cell ((w2.alloc (.cells #[.int .u16 1] 29)).alloc (.cells #[.slice (some ⟨w.heap.size + 1, 0, none⟩) (r + 1) (r + 1), .slice none 0 0, .slice aT a1 cT, .slice (some ⟨w2.heap.size, 0, none⟩) 1 1] 75)) #[.slice none 0 0, .slice none 0 0] 62 0 (.slice none 0 0) rfl; rw [World.size_alloc, World.size_alloc] at this; exact this, by have := new_cell ((w2.alloc (.cells #[.int .u16 1] 29)).alloc (.cells #[.slice (some ⟨w.heap.size + 1, 0, none⟩) (r + 1) (r + 1), .slice none 0 0, .slice aT a1 cT, .slice (some ⟨w2.heap.size, 0, none⟩) 1 1] 75)) #[.slice none 0 0, .slice none 0 0] 62 1 (.slice none 0 0) rfl; rw [World.size_alloc, World.size_alloc] at this; exact this⟩, fun o => by have := new_free ((w2.alloc (.cells #[.int .u16 1] 29)).alloc (.cells #[.slice (some ⟨w.heap.size + 1, 0, none⟩) (r + 1) (r + 1), .slice none 0 0, .slice aT a1 cT, .slice (some ⟨w2.heap.size, 0, none⟩) 1 1] 75)) #[.slice none 0 0, .slice none 0 0] 62 o; rw [World.size_alloc, World.size_alloc] at this; exact this, by simp⟩
    exact (((Below.refl _ _).alloc (Nat.le_refl _) _).alloc (by simp) _).alloc (by simp; omega) _
  case round =>
    obtain ⟨al0, cl0, ab0, nb0, cb0, al1, cl1, ab1, cb1, l0, b0, l1, b1, a0, k1, hp, hbl, hl, hlf, hls⟩ := hrel
    go_wp2_with fail
    obtain ⟨ga, hga⟩ : ∃ ga, ga = gk := ⟨_, rfl⟩
    rw [← hga] at hp
    have HGA := hide hga
    clear hga
    go_loopg [12, 13, 14, 15, 16, 17, 41] 2 (fun g _ _ _ _ _ _ t wr => ∃ (k a1' : Nat) (al0 : Option Addr) (cl0 : Nat) (ab0 : Option Addr) (nb0 cb0 : Nat) (al1 : Option Addr) (cl1 : Nat) (ab1 : Option Addr) (cb1 : Nat) (l0 b0 l1 b1 : Nat → Int) (a0 k1 : Nat), k + g = 2 ∧ t = .int .i64 k ∧ a1' + k ≤ ga ∧
      Pair (Xb w w2) wr (w2.heap.size + 1) (k % 2) r q (cutT r (mulp s Γ)) a1' al0 cl0 ab0 nb0 cb0 al1 cl1 ab1 cb1 l0 b0 l1 b1 a0 k1 ∧ Below w2.heap.size w2 wr ∧
      (∃ x y, wr.cell? ⟨w2.heap.size + 1 + 1, 0, none⟩ = some x ∧ wr.cell? ⟨w2.heap.size + 1 + 1, 1, none⟩ = some y) ∧ (∀ o, wr.frozen? ⟨w2.heap.size + 1 + 1, o, none⟩ = false) ∧ w2.heap.size + 1 + 1 < wr.heap.size)
    case atStart => exact ⟨0, ga, al0, cl0, ab0, nb0, cb0, al1, cl1, ab1, cb1, l0, b0, l1, b1, a0, k1, rfl, rfl, Nat.le_refl _, hp, hbl, hl, hlf, hls⟩
    case round =>
      clear hp hbl hl hlf hls
      obtain ⟨k, a1', al0, cl0, ab0, nb0, cb0, al1, cl1, ab1, cb1, l0, b0, l1, b1, a0, k1, hkg, rfl, hka, hp, hbl, hl, hlf, hls⟩ := hrel
      obtain rfl | rfl | rfl : k = 0 ∨ k = 1 ∨ k = 2 := by omega
      · -- the one that is divided is at place 0
        have m0 : wr.cell? ⟨w2.heap.size + 1, 0, none⟩ = some (.slice al0 (a0 + 1) cl0) := hp.m0
        have m1 : wr.cell? ⟨w2.heap.size + 1, 1, none⟩ = some (.slice ab0 nb0 cb0) := hp.m1
        have m2 : wr.cell? ⟨w2.heap.size + 1, 2, none⟩ = some (.slice al1 a1' cl1) := hp.m2
        have m3 : wr.cell? ⟨w2.heap.size + 1, 3, none⟩ = some (.slice ab1 (k1 + 1) cb1) := hp.m3
        have ew1 : IntKind.i64.wrap 1 = 1 := by decide
        have ew0 : IntKind.i64.wrap 0 = 0 := by decide
        have hlt := hp.lt
        have m0a := fun O => c_al m0 hlt O
        have m0b := fun O O' => c_al2 m0 hlt O O'
        have m1a := fun O => c_al m1 hlt O
        have m1b := fun O O' => c_al2 m1 hlt O O'
        have m2a := fun O => c_al m2 hlt O
        have m2b := fun O O' => c_al2 m2 hlt O O'
        have m3a := fun O => c_al m3 hlt O
        have m3b := fun O O' => c_al2 m3 hlt O O'
        have heu := hp.eu
        have hle := heu.le
        have hsum := heu.sum
        have hnb := hp.nb
        have HP := hide hp
        have HB := hide hbl
        clear hp hbl heu
        go_wp2_with fail
        go_cut [13, 14] (fun d v wx => ∃ bd bv, d = .pointer (some ⟨bd, 0, none⟩) ∧ v = .pointer (some ⟨bv, 0, none⟩) ∧ wr.heap.size ≤ bd ∧ wr.heap.size ≤ bv ∧ bd < wx.heap.size ∧ bv < wx.heap.size ∧ Below wr.heap.size wr wx ∧
          wx.cell? ⟨bd, 0, none⟩ = some (.slice al0 (a0 + 1) cl0) ∧ wx.cell? ⟨bd, 1, none⟩ = some (.slice ab0 nb0 cb0) ∧ wx.cell? ⟨bv, 0, none⟩ = some (.slice al1 a1' cl1) ∧ wx.cell? ⟨bv, 1, none⟩ = some (.slice ab1 (k1 + 1) cb1))
        case first =>
          go_region
          all_goals (
            go_wp2_with fail
            go_meet
            case rel =>
              refine ⟨_, _, rfl, rfl, by omega, by omega, by simp <;> omega, by simp <;> omega, (((Below.refl _ _).alloc (Nat.le_refl _) _).alloc (by simp) _).drew, ?_, ?_, ?_, ?_⟩ <;> simp)
        case rest =>
          obtain ⟨bd, bv, rfl, rfl, hbd, hbv, hbd', hbv', hbc, d0, d1, d2, d3⟩ := hcut
          have HBC := hide hbc
          have z0 : wc.frozen? ⟨w2.heap.size + 1, 0, none⟩ = false := (hbc.frozen (p := ⟨w2.heap.size + 1, 0, none⟩) hlt).trans (HP.out.fz _)
          have z1 : wc.frozen? ⟨w2.heap.size + 1, 1, none⟩ = false := (hbc.frozen (p := ⟨w2.heap.size + 1, 1, none⟩) hlt).trans (HP.out.fz _)
          have nn0 := c_be hbc hlt m0
          have nn1 := c_be hbc hlt m1
          have nn2 := c_be hbc hlt m2
          have nn3 := c_be hbc hlt m3
          clear m0 m1 m2 m3 m0a m0b m1a m1b m2a m2b m3a m3b hbc
          by_cases hqq : a1' ≤ q
          · have hq1 : (a1' : Int) ≤ (q : Int) := by omega
            obtain ⟨x, y, hx, hy⟩ := hl
            have hx := c_be HBC.out hls hx
            have hy := c_be HBC.out hls hy
            have zl0 : wc.frozen? ⟨w2.heap.size + 1 + 1, 0, none⟩ = false := (HBC.out.frozen (p := ⟨w2.heap.size + 1 + 1, 0, none⟩) hls).trans (hlf 0)
            have zl1 : wc.frozen? ⟨w2.heap.size + 1 + 1, 1, none⟩ = false := (HBC.out.frozen (p := ⟨w2.heap.size + 1 + 1, 1, none⟩) hls).trans (hlf 1)
            have hBc2 := HB.out.trans (HBC.out.mono HB.out.size)
            have r0 := c_be hBc2 (show w.heap.size < w2.heap.size by omega) HR.out.1
            have r1 := c_be hBc2 (show w.heap.size < w2.heap.size by omega) HR.out.2.1
            have rz0 : wc.frozen? ⟨w.heap.size, 0, none⟩ = false := (hBc2.frozen (p := ⟨w.heap.size, 0, none⟩) (by show w.heap.size < w2.heap.size; omega)).trans (HR.out.2.2 0)
            have rz1 : wc.frozen? ⟨w.heap.size, 1, none⟩ = false := (hBc2.frozen (p := ⟨w.heap.size, 1, none⟩) (by show w.heap.size < w2.heap.size; omega)).trans (HR.out.2.2 1)
            have HC2 := hide hBc2
            clear hBc2
            have hsets : ∀ v0 v1, (((( wc.setCell ⟨w2.heap.size + 1 + 1, 0, none⟩ v0).setCell ⟨w2.heap.size + 1 + 1, 1, none⟩ v1).setCell ⟨w.heap.size, 0, none⟩ v0).setCell ⟨w.heap.size, 1, none⟩ v1).cell? ⟨w.heap.size, 0, none⟩ = some v0 ∧
                (((( wc.setCell ⟨w2.heap.size + 1 + 1, 0, none⟩ v0).setCell ⟨w2.heap.size + 1 + 1, 1, none⟩ v1).setCell ⟨w.heap.size, 0, none⟩ v0).setCell ⟨w.heap.size, 1, none⟩ v1).cell? ⟨w.heap.size, 1, none⟩ = some v1 ∧
                Below w.heap.size w (((( wc.setCell ⟨w2.heap.size + 1 + 1, 0, none⟩ v0).setCell ⟨w2.heap.size + 1 + 1, 1, none⟩ v1).setCell ⟨w.heap.size, 0, none⟩ v0).setCell ⟨w.heap.size, 1, none⟩ v1) ∧
                Sl (((( wc.setCell ⟨w2.heap.size + 1 + 1, 0, none⟩ v0).setCell ⟨w2.heap.size + 1 + 1, 1, none⟩ v1).setCell ⟨w.heap.size, 0, none⟩ v0).setCell ⟨w.heap.size, 1, none⟩ v1) al1 a1' cl1 l1 ∧
                Sl (((( wc.setCell ⟨w2.heap.size + 1 + 1, 0, none⟩ v0).setCell ⟨w2.heap.size + 1 + 1, 1, none⟩ v1).setCell ⟨w.heap.size, 0, none⟩ v0).setCell ⟨w.heap.size, 1, none⟩ v1) ab1 (k1 + 1) cb1 b1 := by
              intro v0 v1
              obtain ⟨_, _, _, o1, _⟩ := set2 (v0 := v0) (v1 := v1) hx hy
              obtain ⟨e1, e2, _, o2, _⟩ := set2 (v0 := v0) (v1 := v1) ((o1.cell (p := ⟨w.heap.size, 0, none⟩) (by show w.heap.size ≠ w2.heap.size + 1 + 1; omega)).trans r0) ((o1.cell (p := ⟨w.heap.size, 1, none⟩) (by show w.heap.size ≠ w2.heap.size + 1 + 1; omega)).trans r1)
              exact ⟨e1, e2, (((HB2.out.trans (HC2.out.mono HB2.out.size)).trans (o1.below (by omega))).trans (o2.below (Nat.le_refl _))), o2.sl' (o1.sl' (HP.out.s2.below HBC.out) HP.out.d2 (.inr (.inl rfl))) HP.out.d2 (.inr (.inr rfl)), o2.sl' (o1.sl' (HP.out.s3.below HBC.out) HP.out.d3 (.inr (.inl rfl))) HP.out.d3 (.inr (.inr rfl))⟩
            have HS := hide (hsets (.slice al1 a1' cl1) (.slice ab1 (k1 + 1) cb1))
            clear hsets
            go_wp2_with fail
            rw [Exit.noGoto_ret]
            have hs0 := HS.out.1
            have hs1 := HS.out.2.1
            refine bodyPost_ret (v := .agg #[.slice al1 a1' cl1, .slice ab1 (k1 + 1) cb1]) (by simp [results, Try.results39, go_sem, hs0, hs1]) rfl ?_
            exact ⟨al1, a1', cl1, ab1, cb1, l0, b0, l1, b1, a0, k1, rfl, HS.out.2.2.1, HS.out.2.2.2.1, HS.out.2.2.2.2, HP.out.eu, hqq, HP.out.qa⟩
          · have hq1 : ¬ (a1' : Int) ≤ (q : Int) := by omega
            obtain ⟨m, rfl⟩ : ∃ m, a1' = m + 1 := ⟨a1' - 1, by omega⟩
            go_wp2_with fail
            refine (div_any (m := m) (HP.out.s0.below HBC.out) (HP.out.s2.below HBC.out) (by omega) (by omega) HP.out.eu.sl1).mono ?_
            rintro e w5 ⟨aq, nq, cq, ar, n2, cr, q', l2, rfl, hNq, hNr, sq, s2, hn2, hnq, hnr, heq, hro, hne⟩
            have B5 := HBC.out.trans (hNq.bel.mono HBC.out.size)
            have d1 := c_be hNq.bel hbd' d1
            have d3 := c_be hNq.bel hbv' d3
            have hs5 := hNq.bel.size
            have HQ := hide hNq
            have HRr := hide hNr
            have HB5 := hide B5
            have HEQ := hide heq
            have hXl : ∀ b, Xb w w2 b → b < wc.heap.size := by
              intro b hb
              unfold Xb at hb
              have := HBC.out.size
              omega
            have HX := hide hXl
            clear hNq hNr B5 heq hro hne d0 d2 nn0 nn1 nn2 nn3 z0 z1 hXl
            go_wp2_with fail
            have hq5 := HQ.out.sl.drew
            have hb5 := (HP.out.s3.below HB5.out).drew
            have ha5 := (HP.out.s1.below HB5.out).drew
            have H5 := hide (And.intro hq5 (And.intro hb5 ha5))
            clear hq5 hb5 ha5
            go_region_held (fun w' => w'.cell? ⟨bd, 1, none⟩ = some (.slice ab0 nb0 cb0) ∧ w'.cell? ⟨bv, 1, none⟩ = some (.slice ab1 (k1 + 1) cb1)) ((first | exact ⟨d1, d3⟩ | exact ⟨e1, e3⟩ | exact ⟨g1, g3⟩ | exact ⟨hst1 _ _, hst3 _ _⟩))
              ((first
                | (go_at_call 44
                   refine (pmul_any H5.out.1 H5.out.2.1 (by omega) (by omega)).mono ?_
                   rintro e w6 ⟨am, nm, cm, rfl, hnm, sm6, hNm⟩
                   have e1 := c_be hNm.bel (show bd < w5.heap.size by omega) d1
                   have e3 := c_be hNm.bel (show bv < w5.heap.size by omega) d3
                   have hs6 : w5.heap.size ≤ w6.heap.size := hNm.bel.size
                   have HM6 := hide hNm
                   have HA6 := hide (H5.out.2.2.below hNm.bel)
                   have HB6 := hide (HB5.out.drew.trans (hNm.bel.mono HB5.out.size))
                   clear hNm sm6)
                | (go_at_call 55
                   refine (padd_any HA6.out HM6.out.sl (by omega) (by omega)).mono ?_
                   rintro e w7 ⟨sa, ms, cs, rfl, hms, s7, hNs⟩
                   have hs7 : w6.heap.size ≤ w7.heap.size := hNs.bel.size
                   have hB7 := HB6.out.trans (hNs.bel.mono HB6.out.size)
                   have g1 := c_be hNs.bel (show bd < w6.heap.size by omega) e1
                   have g3 := c_be hNs.bel (show bv < w6.heap.size by omega) e3
                   have q0 := c_be hB7 hlt HP.out.m0
                   have q1 := c_be hB7 hlt HP.out.m1
                   have zz : ∀ o, w7.frozen? ⟨w2.heap.size + 1, o, none⟩ = false := fun o => (hB7.frozen (p := ⟨w2.heap.size + 1, o, none⟩) hlt).trans (HP.out.fz o)
                   have hst1 : ∀ v0 v1, ((w7.setCell ⟨w2.heap.size + 1, 0, none⟩ v0).setCell ⟨w2.heap.size + 1, 1, none⟩ v1).cell? ⟨bd, 1, none⟩ = some (.slice ab0 nb0 cb0) := fun v0 v1 =>
                     ((set2 (v0 := v0) (v1 := v1) q0 q1).2.2.2.1.cell (p := ⟨bd, 1, none⟩) (show bd ≠ w2.heap.size + 1 by omega)).trans g1
                   have hst3 : ∀ v0 v1, ((w7.setCell ⟨w2.heap.size + 1, 0, none⟩ v0).setCell ⟨w2.heap.size + 1, 1, none⟩ v1).cell? ⟨bv, 1, none⟩ = some (.slice ab1 (k1 + 1) cb1) := fun v0 v1 =>
                     ((set2 (v0 := v0) (v1 := v1) q0 q1).2.2.2.1.cell (p := ⟨bv, 1, none⟩) (show bv ≠ w2.heap.size + 1 by omega)).trans g3
                   have q0 : w7.cell? ⟨w2.heap.size + 1, 0, none⟩ = some (.slice al0 (a0 + 1) cl0) := q0
                   have q1 : w7.cell? ⟨w2.heap.size + 1, 1, none⟩ = some (.slice ab0 nb0 cb0) := q1
                   have HS7 := hide hNs
                   have HB7 := hide hB7
                   have HSH := hide s7
                   clear hNs hB7 s7)))
            go_wp2_with fail
            go_roundg 1
            case measure => omega
            case rel =>
              obtain ⟨k2, rfl, hnext⟩ := HP.out.next (.inl rfl) (by decide) hr (by omega) HB7.out HQ.out.sl.bd sq ((HRr.out.sl.drew.below HM6.out.bel).below HS7.out.bel) (HRr.out.nb HX.out) s2 hn2 HEQ.out HS7.out.sl (HS7.out.nb (fun b hb => by have := HX.out b hb; omega)) HSH.out
              obtain ⟨_, _, _, o1, _⟩ := set2 (v0 := .slice ar n2 cr) (v1 := .slice sa (k2 + 1) cs) q0 q1
              have hB7 := HB7.out
              refine ⟨0 + 1, n2, _, _, _, _, _, _, _, _, _, _, _, _, _, _, _, by omega, by go_num, by omega, hnext, (HB.out.trans (hB7.mono HB.out.size)).trans (o1.below (by omega)), ?_, fun o => ?_, by rw [o1.size]; have := hB7.size; omega⟩
              · obtain ⟨x, y, hx, hy⟩ := hl
                exact ⟨x, y, (o1.cell (p := ⟨w2.heap.size + 1 + 1, 0, none⟩) (by show w2.heap.size + 1 + 1 ≠ w2.heap.size + 1; omega)).trans (c_be hB7 hls hx), (o1.cell (p := ⟨w2.heap.size + 1 + 1, 1, none⟩) (by show w2.heap.size + 1 + 1 ≠ w2.heap.size + 1; omega)).trans (c_be hB7 hls hy)⟩
              · exact (o1.frozen (p := ⟨w2.heap.size + 1 + 1, o, none⟩) (by show w2.heap.size + 1 + 1 ≠ w2.heap.size + 1; omega)).trans ((hB7.frozen (p := ⟨w2.heap.size + 1 + 1, o, none⟩) hls).trans (hlf o))
      · -- the one that is divided is at place 1
        have m0 : wr.cell? ⟨w2.heap.size + 1, 2, none⟩ = some (.slice al0 (a0 + 1) cl0) := hp.m0
        have m1 : wr.cell? ⟨w2.heap.size + 1, 3, none⟩ = some (.slice ab0 nb0 cb0) := hp.m1
        have m2 : wr.cell? ⟨w2.heap.size + 1, 0, none⟩ = some (.slice al1 a1' cl1) := hp.m2
        have m3 : wr.cell? ⟨w2.heap.size + 1, 1, none⟩ = some (.slice ab1 (k1 + 1) cb1) := hp.m3
        have ew1 : IntKind.i64.wrap 1 = 1 := by decide
        have ew0 : IntKind.i64.wrap 0 = 0 := by decide
        have hlt := hp.lt
        have m0a := fun O => c_al m0 hlt O
        have m0b := fun O O' => c_al2 m0 hlt O O'
        have m1a := fun O => c_al m1 hlt O
        have m1b := fun O O' => c_al2 m1 hlt O O'
        have m2a := fun O => c_al m2 hlt O
        have m2b := fun O O' => c_al2 m2 hlt O O'
        have m3a := fun O => c_al m3 hlt O
        have m3b := fun O O' => c_al2 m3 hlt O O'
        have heu := hp.eu
        have hle := heu.le
        have hsum := heu.sum
        have hnb := hp.nb
        have HP := hide hp
        have HB := hide hbl
        clear hp hbl heu
        go_wp2_with fail
        go_cut [13, 14] (fun d v wx => ∃ bd bv, d = .pointer (some ⟨bd, 0, none⟩) ∧ v = .pointer (some ⟨bv, 0, none⟩) ∧ wr.heap.size ≤ bd ∧ wr.heap.size ≤ bv ∧ bd < wx.heap.size ∧ bv < wx.heap.size ∧ Below wr.heap.size wr wx ∧
          wx.cell? ⟨bd, 0, none⟩ = some (.slice al0 (a0 + 1) cl0) ∧ wx.cell? ⟨bd, 1, none⟩ = some (.slice ab0 nb0 cb0) ∧ wx.cell? ⟨bv, 0, none⟩ = some (.slice al1 a1' cl1) ∧ wx.cell? ⟨bv, 1, none⟩ = some (.slice ab1 (k1 + 1) cb1))
        case first =>
          go_region
          all_goals (
            go_wp2_with fail
            go_meet
            case rel =>
              refine ⟨_, _, rfl, rfl, by omega, by omega, by simp <;> omega, by simp <;> omega, (((Below.refl _ _).alloc (Nat.le_refl _) _).alloc (by simp) _).drew, ?_, ?_, ?_, ?_⟩ <;> simp)
        case rest =>
          obtain ⟨bd, bv, rfl, rfl, hbd, hbv, hbd', hbv', hbc, d0, d1, d2, d3⟩ := hcut
          have HBC := hide hbc
          have z0 : wc.frozen? ⟨w2.heap.size + 1, 2, none⟩ = false := (hbc.frozen (p := ⟨w2.heap.size + 1, 2, none⟩) hlt).trans (HP.out.fz _)
          have z1 : wc.frozen? ⟨w2.heap.size + 1, 3, none⟩ = false := (hbc.frozen (p := ⟨w2.heap.size + 1, 3, none⟩) hlt).trans (HP.out.fz _)
          have nn0 := c_be hbc hlt m0
          have nn1 := c_be hbc hlt m1
          have nn2 := c_be hbc hlt m2
          have nn3 := c_be hbc hlt m3
          clear m0 m1 m2 m3 m0a m0b m1a m1b m2a m2b m3a m3b hbc
          by_cases hqq : a1' ≤ q
          · have hq1 : (a1' : Int) ≤ (q : Int) := by omega
            obtain ⟨x, y, hx, hy⟩ := hl
            have hx := c_be HBC.out hls hx
            have hy := c_be HBC.out hls hy
            have zl0 : wc.frozen? ⟨w2.heap.size + 1 + 1, 0, none⟩ = false := (HBC.out.frozen (p := ⟨w2.heap.size + 1 + 1, 0, none⟩) hls).trans (hlf 0)
            have zl1 : wc.frozen? ⟨w2.heap.size + 1 + 1, 1, none⟩ = false := (HBC.out.frozen (p := ⟨w2.heap.size + 1 + 1, 1, none⟩) hls).trans (hlf 1)
            have hBc2 := HB.out.trans (HBC.out.mono HB.out.size)
            have r0 := c_be hBc2 (show w.heap.size < w2.heap.size by omega) HR.out.1
            have r1 := c_be hBc2 (show w.heap.size < w2.heap.size by omega) HR.out.2.1
            have rz0 : wc.frozen? ⟨w.heap.size, 0, none⟩ = false := (hBc2.frozen (p := ⟨w.heap.size, 0, none⟩) (by show w.heap.size < w2.heap.size; omega)).trans (HR.out.2.2 0)
            have rz1 : wc.frozen? ⟨w.heap.size, 1, none⟩ = false := (hBc2.frozen (p := ⟨w.heap.size, 1, none⟩) (by show w.heap.size < w2.heap.size; omega)).trans (HR.out.2.2 1)
            have HC2 := hide hBc2
            clear hBc2
            have hsets : ∀ v0 v1, (((( wc.setCell ⟨w2.heap.size + 1 + 1, 0, none⟩ v0).setCell ⟨w2.heap.size + 1 + 1, 1, none⟩ v1).setCell ⟨w.heap.size, 0, none⟩ v0).setCell ⟨w.heap.size, 1, none⟩ v1).cell? ⟨w.heap.size, 0, none⟩ = some v0 ∧
                (((( wc.setCell ⟨w2.heap.size + 1 + 1, 0, none⟩ v0).setCell ⟨w2.heap.size + 1 + 1, 1, none⟩ v1).setCell ⟨w.heap.size, 0, none⟩ v0).setCell ⟨w.heap.size, 1, none⟩ v1).cell? ⟨w.heap.size, 1, none⟩ = some v1 ∧
                Below w.heap.size w (((( wc.setCell ⟨w2.heap.size + 1 + 1, 0, none⟩ v0).setCell ⟨w2.heap.size + 1 + 1, 1, none⟩ v1).setCell ⟨w.heap.size, 0, none⟩ v0).setCell ⟨w.heap.size, 1, none⟩ v1) ∧
                Sl (((( wc.setCell ⟨w2.heap.size + 1 + 1, 0, none⟩ v0).setCell ⟨w2.heap.size + 1 + 1, 1, none⟩ v1).setCell ⟨w.heap.size, 0, none⟩ v0).setCell ⟨w.heap.size, 1, none⟩ v1) al1 a1' cl1 l1 ∧
                Sl (((( wc.setCell ⟨w2.heap.size + 1 + 1, 0, none⟩ v0).setCell ⟨w2.heap.size + 1 + 1, 1, none⟩ v1).setCell ⟨w.heap.size, 0, none⟩ v0).setCell ⟨w.heap.size, 1, none⟩ v1) ab1 (k1 + 1) cb1 b1 := by
              intro v0 v1
              obtain ⟨_, _, _, o1, _⟩ := set2 (v0 := v0) (v1 := v1) hx hy
              obtain ⟨e1, e2, _, o2, _⟩ := set2 (v0 := v0) (v1 := v1) ((o1.cell (p := ⟨w.heap.size, 0, none⟩) (by show w.heap.size ≠ w2.heap.size + 1 + 1; omega)).trans r0) ((o1.cell (p := ⟨w.heap.size, 1, none⟩) (by show w.heap.size ≠ w2.heap.size + 1 + 1; omega)).trans r1)
              exact ⟨e1, e2, (((HB2.out.trans (HC2.out.mono HB2.out.size)).trans (o1.below (by omega))).trans (o2.below (Nat.le_refl _))), o2.sl' (o1.sl' (HP.out.s2.below HBC.out) HP.out.d2 (.inr (.inl rfl))) HP.out.d2 (.inr (.inr rfl)), o2.sl' (o1.sl' (HP.out.s3.below HBC.out) HP.out.d3 (.inr (.inl rfl))) HP.out.d3 (.inr (.inr rfl))⟩
            have HS := hide (hsets (.slice al1 a1' cl1) (.slice ab1 (k1 + 1) cb1))
            clear hsets
            go_wp2_with fail
            rw [Exit.noGoto_ret]
            have hs0 := HS.out.1
            have hs1 := HS.out.2.1
            refine bodyPost_ret (v := .agg #[.slice al1 a1' cl1, .slice ab1 (k1 + 1) cb1]) (by simp [results, Try.results39, go_sem, hs0, hs1]) rfl ?_
            exact ⟨al1, a1', cl1, ab1, cb1, l0, b0, l1, b1, a0, k1, rfl, HS.out.2.2.1, HS.out.2.2.2.1, HS.out.2.2.2.2, HP.out.eu, hqq, HP.out.qa⟩
          · have hq1 : ¬ (a1' : Int) ≤ (q : Int) := by omega
            obtain ⟨m, rfl⟩ : ∃ m, a1' = m + 1 := ⟨a1' - 1, by omega⟩
            go_wp2_with fail
            refine (div_any (m := m) (HP.out.s0.below HBC.out) (HP.out.s2.below HBC.out) (by omega) (by omega) HP.out.eu.sl1).mono ?_
            rintro e w5 ⟨aq, nq, cq, ar, n2, cr, q', l2, rfl, hNq, hNr, sq, s2, hn2, hnq, hnr, heq, hro, hne⟩
            have B5 := HBC.out.trans (hNq.bel.mono HBC.out.size)
            have d1 := c_be hNq.bel hbd' d1
            have d3 := c_be hNq.bel hbv' d3
            have hs5 := hNq.bel.size
            have HQ := hide hNq
            have HRr := hide hNr
            have HB5 := hide B5
            have HEQ := hide heq
            have hXl : ∀ b, Xb w w2 b → b < wc.heap.size := by
              intro b hb
              unfold Xb at hb
              have := HBC.out.size
              omega
            have HX := hide hXl
            clear hNq hNr B5 heq hro hne d0 d2 nn0 nn1 nn2 nn3 z0 z1 hXl
            go_wp2_with fail
            have hq5 := HQ.out.sl.drew
            have hb5 := (HP.out.s3.below HB5.out).drew
            have ha5 := (HP.out.s1.below HB5.out).drew
            have H5 := hide (And.intro hq5 (And.intro hb5 ha5))
            clear hq5 hb5 ha5
            go_region_held (fun w' => w'.cell? ⟨bd, 1, none⟩ = some (.slice ab0 nb0 cb0) ∧ w'.cell? ⟨bv, 1, none⟩ = some (.slice ab1 (k1 + 1) cb1)) ((first | exact ⟨d1, d3⟩ | exact ⟨e1, e3⟩ | exact ⟨g1, g3⟩ | exact ⟨hst1 _ _, hst3 _ _⟩))
              ((first
                | (go_at_call 44
                   refine (pmul_any H5.out.1 H5.out.2.1 (by omega) (by omega)).mono ?_
                   rintro e w6 ⟨am, nm, cm, rfl, hnm, sm6, hNm⟩
                   have e1 := c_be hNm.bel (show bd < w5.heap.size by omega) d1
                   have e3 := c_be hNm.bel (show bv < w5.heap.size by omega) d3
                   have hs6 : w5.heap.size ≤ w6.heap.size := hNm.bel.size
                   have HM6 := hide hNm
                   have HA6 := hide (H5.out.2.2.below hNm.bel)
                   have HB6 := hide (HB5.out.drew.trans (hNm.bel.mono HB5.out.size))
                   clear hNm sm6)
                | (go_at_call 55
                   refine (padd_any HA6.out HM6.out.sl (by omega) (by omega)).mono ?_
                   rintro e w7 ⟨sa, ms, cs, rfl, hms, s7, hNs⟩
                   have hs7 : w6.heap.size ≤ w7.heap.size := hNs.bel.size
                   have hB7 := HB6.out.trans (hNs.bel.mono HB6.out.size)
                   have g1 := c_be hNs.bel (show bd < w6.heap.size by omega) e1
                   have g3 := c_be hNs.bel (show bv < w6.heap.size by omega) e3
                   have q0 := c_be hB7 hlt HP.out.m0
                   have q1 := c_be hB7 hlt HP.out.m1
                   have zz : ∀ o, w7.frozen? ⟨w2.heap.size + 1, o, none⟩ = false := fun o => (hB7.frozen (p := ⟨w2.heap.size + 1, o, none⟩) hlt).trans (HP.out.fz o)
                   have hst1 : ∀ v0 v1, ((w7.setCell ⟨w2.heap.size + 1, 2, none⟩ v0).setCell ⟨w2.heap.size + 1, 3, none⟩ v1).cell? ⟨bd, 1, none⟩ = some (.slice ab0 nb0 cb0) := fun v0 v1 =>
                     ((set2 (v0 := v0) (v1 := v1) q0 q1).2.2.2.1.cell (p := ⟨bd, 1, none⟩) (show bd ≠ w2.heap.size + 1 by omega)).trans g1
                   have hst3 : ∀ v0 v1, ((w7.setCell ⟨w2.heap.size + 1, 2, none⟩ v0).setCell ⟨w2.heap.size + 1, 3, none⟩ v1).cell? ⟨bv, 1, none⟩ = some (.slice ab1 (k1 + 1) cb1) := fun v0 v1 =>
                     ((set2 (v0 := v0) (v1 := v1) q0 q1).2.2.2.1.cell (p := ⟨bv, 1, none⟩) (show bv ≠ w2.heap.size + 1 by omega)).trans g3
                   have q0 : w7.cell? ⟨w2.heap.size + 1, 2, none⟩ = some (.slice al0 (a0 + 1) cl0) := q0
                   have q1 : w7.cell? ⟨w2.heap.size + 1, 3, none⟩ = some (.slice ab0 nb0 cb0) := q1
                   have HS7 := hide hNs
                   have HB7 := hide hB7
                   have HSH := hide s7
                   clear hNs hB7 s7)))
            go_wp2_with fail
            go_roundg 0
            case measure => omega
            case rel =>
              obtain ⟨k2, rfl, hnext⟩ := HP.out.next (.inl rfl) (by decide) hr (by omega) HB7.out HQ.out.sl.bd sq ((HRr.out.sl.drew.below HM6.out.bel).below HS7.out.bel) (HRr.out.nb HX.out) s2 hn2 HEQ.out HS7.out.sl (HS7.out.nb (fun b hb => by have := HX.out b hb; omega)) HSH.out
              obtain ⟨_, _, _, o1, _⟩ := set2 (v0 := .slice ar n2 cr) (v1 := .slice sa (k2 + 1) cs) q0 q1
              have hB7 := HB7.out
              refine ⟨1 + 1, n2, _, _, _, _, _, _, _, _, _, _, _, _, _, _, _, by omega, by go_num, by omega, hnext, (HB.out.trans (hB7.mono HB.out.size)).trans (o1.below (by omega)), ?_, fun o => ?_, by rw [o1.size]; have := hB7.size; omega⟩
              · obtain ⟨x, y, hx, hy⟩ := hl
                exact ⟨x, y, (o1.cell (p := ⟨w2.heap.size + 1 + 1, 0, none⟩) (by show w2.heap.size + 1 + 1 ≠ w2.heap.size + 1; omega)).trans (c_be hB7 hls hx), (o1.cell (p := ⟨w2.heap.size + 1 + 1, 1, none⟩) (by show w2.heap.size + 1 + 1 ≠ w2.heap.size + 1; omega)).trans (c_be hB7 hls hy)⟩
              · exact (o1.frozen (p := ⟨w2.heap.size + 1 + 1, o, none⟩) (by show w2.heap.size + 1 + 1 ≠ w2.heap.size + 1; omega)).trans ((hB7.frozen (p := ⟨w2.heap.size + 1 + 1, o, none⟩) hls).trans (hlf o))
      · -- both are done: once more
        have hga := HGA.out
        go_wp2_with fail
        go_roundg a1'
        case measure => omega
        case rel => exact ⟨_, _, _, _, _, _, _, _, _, _, _, _, _, _, _, hp, hbl, hl, hlf, hls⟩

end Go.Proofs.Ytdbdidohldhnhaa
