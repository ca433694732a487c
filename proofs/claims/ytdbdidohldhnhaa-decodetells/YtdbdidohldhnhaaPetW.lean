/- Peterson's way, step by step: the list of what is gone, Horner's values, the places that are found; what a try that fails tells, and one that comes out. Pure arithmetic. -/
import Derived.Test.YtdbdidohldhnhaaErased
namespace Go.Proofs.Ytdbdidohldhnhaa
open Go.RowKit Gf
set_option linter.unusedVariables false

/-- What is gone, as a list. -/
def gone (gl : Nat → Int) (m : Nat) : List Nat := (List.range m).map fun k => (gl k).toNat
theorem gone_len (gl : Nat → Int) (m : Nat) : (gone gl m).length = m := by unfold gone; simp
theorem gone_get {gl : Nat → Int} {m k : Nat} (hk : k < m) : (gone gl m).getD k 0 = (gl k).toNat := by
  rw [List.getD_eq_getElem?_getD]
  unfold gone
  rw [List.getElem?_map, List.getElem?_range hk]
  rfl
theorem gone_lg {gl : Nat → Int} {m n : Nat} (hG : Gn gl m n) (ho : ∀ j, m ≤ j → gl j = 0) : lg (gone gl m) = gl := funext fun j => by
  unfold lg
  by_cases hj : j < m
  · rw [gone_get hj]
    exact (gl_nat hG hj).1
  · rw [ho j (by omega), List.getD_eq_getElem?_getD, List.getElem?_eq_none (by rw [gone_len]; omega)]
    rfl
theorem gone_mem {gl : Nat → Int} {m n : Nat} (hG : Gn gl m n) (ho : ∀ j, m ≤ j → gl j = 0) {i : Nat} : i ∈ gone gl m ↔ gon gl m i = true := by
  have h := lg_mem (L := gone gl m) (i := i)
  rw [gone_lg hG ho, gone_len] at h
  exact h.symm
theorem gone_lt {gl : Nat → Int} {m n : Nat} (hG : Gn gl m n) : ∀ i ∈ gone gl m, i < n := fun i hi => by
  unfold gone at hi
  obtain ⟨k, hk, rfl⟩ := List.mem_map.1 hi
  exact (gl_nat hG (List.mem_range.1 hk)).2
theorem gone_nodup {gl : Nat → Int} {m n : Nat} (hG : Gn gl m n) : (gone gl m).Nodup := nodup_map List.nodup_range (fun x hx y hy e => by
  have h1 := gl_nat hG (List.mem_range.1 hx)
  have h2 := gl_nat hG (List.mem_range.1 hy)
  refine hG.2 x y (List.mem_range.1 hx) (List.mem_range.1 hy) ?_
  rw [← h1.1, ← h2.1, e])
theorem zat_cln {gl : Nat → Int} {m n : Nat} (hG : Gn gl m n) (ho : ∀ j, m ≤ j → gl j = 0) (f : Nat → Int) : zat (gone gl m) f = cln gl m f := funext fun j => by
  unfold zat cln
  by_cases h : gon gl m j = true
  · rw [if_pos h, if_pos ((gone_mem hG ho).2 h)]
  · rw [if_neg h, if_neg (fun h1 => h ((gone_mem hG ho).1 h1))]
/-- The sums, cut off. -/
def sgc (n : Nat) (gl f : Nat → Int) (i L : Nat) : Nat → Int := fun j => if j < L then sg n gl f i j else 0
theorem sgc16 {n : Nat} {gl f : Nat → Int} (hf : P16 f) (i L : Nat) : P16 (sgc n gl f i L) := fun j => by
  unfold sgc
  split
  · exact sg16 hf i j
  · exact z16
theorem sgc_out (n : Nat) (gl f : Nat → Int) (i L : Nat) : ∀ j, L ≤ j → sgc n gl f i L j = 0 := fun j hj => if_neg (by omega)
theorem sgc_vs (n : Nat) (gl f : Nat → Int) (r : Nat) : vs n f r = sgc n gl f 0 r := rfl
theorem sgc_step {n : Nat} {gl f : Nat → Int} {i L j : Nat} (hj : j + 1 < L) : xI (sgc n gl f i L (j + 1)) (gI (xa n (gl i).toNat) (sgc n gl f i L j)) = sg n gl f (i + 1) j := by
  unfold sgc
  rw [if_pos hj, if_pos (by omega)]
  rfl

/-- A polynomial with 1 at its highest place. -/
def mon (e : Nat) (y : Nat → Int) : Nat → Int := fun k => if k < e then y k else if k = e then 1 else 0
theorem mon16 {e : Nat} {y : Nat → Int} (hy : P16 y) : P16 (mon e y) := fun k => by
  unfold mon
  split
  · exact hy k
  · split
    · exact o16
    · exact z16
/-- Horner's way: t numbers are taken in. -/
def hnr (x : Int) (Y : Nat → Int) (e : Nat) : Nat → Int
  | 0 => Y e
  | t + 1 => xI (gI (hnr x Y e t) x) (Y (e - 1 - t))
theorem hnr16 {x : Int} {Y : Nat → Int} (hY : P16 Y) (e t : Nat) : 0 ≤ hnr x Y e t ∧ hnr x Y e t ≤ 65535 := by
  induction t with
  | zero => exact hY e
  | succ t ih => exact x16 (g16 ih) (hY _)
theorem hnr_atp {x : Int} {Y : Nat → Int} (hY : P16 Y) (e : Nat) : ∀ t, t ≤ e → hnr x Y e t = atp x (t + 1) (fun j => Y (e - t + j)) := by
  intro t
  induction t with
  | zero =>
    intro _
    show Y e = xI (gI 0 x) (Y (e - 0 + 0))
    rw [f12, x0 (hY _)]
    rfl
  | succ t ih =>
    intro ht
    show xI (gI (hnr x Y e t) x) (Y (e - 1 - t)) = xI (gI (atp x (t + 1) (tl (fun j => Y (e - (t + 1) + j)))) x) (Y (e - (t + 1) + 0))
    rw [ih (by omega), show e - (t + 1) + 0 = e - 1 - t from by omega]
    have e1 : (fun j => Y (e - t + j)) = tl (fun j => Y (e - (t + 1) + j)) := funext fun j => by
      show Y (e - t + j) = Y (e - (t + 1) + (j + 1))
      rw [show e - t + j = e - (t + 1) + (j + 1) from by omega]
    rw [e1]
theorem hnr_all {x : Int} {Y : Nat → Int} (hY : P16 Y) (e : Nat) : hnr x Y e e = atp x (e + 1) Y := by
  rw [hnr_atp hY e e (Nat.le_refl _)]
  have : (fun j => Y (e - e + j)) = Y := funext fun j => by rw [Nat.sub_self, Nat.zero_add]
  rw [this]

/-- Is the place found? -/
def fz (n : Nat) (gl : Nat → Int) (m e : Nat) (y : Nat → Int) (i : Nat) : Bool := decide (hnr (xa n i) (mon e y) e e = 0) && !gon gl m i
/-- The places that are found among the first k. -/
def fnd (n : Nat) (gl : Nat → Int) (m e : Nat) (y : Nat → Int) (k : Nat) : List Nat := (List.range k).filter (fz n gl m e y)
theorem fnd_mem {n m e k i : Nat} {gl y : Nat → Int} : i ∈ fnd n gl m e y k ↔ i < k ∧ fz n gl m e y i = true := by
  unfold fnd
  rw [List.mem_filter, List.mem_range]
/-- All places that are asked. -/
def alle (n : Nat) (gl : Nat → Int) (m e : Nat) (y : Nat → Int) (k : Nat) : List Nat := gone gl m ++ fnd n gl m e y k
theorem alle_len (n : Nat) (gl : Nat → Int) (m e : Nat) (y : Nat → Int) (k : Nat) : (alle n gl m e y k).length = m + (fnd n gl m e y k).length := by
  unfold alle
  rw [List.length_append, gone_len]
theorem alle_succ (n : Nat) (gl : Nat → Int) (m e : Nat) (y : Nat → Int) (k : Nat) : alle n gl m e y (k + 1) = if fz n gl m e y k = true then alle n gl m e y k ++ [k] else alle n gl m e y k := by
  unfold alle fnd
  rw [filter_succ]
  split
  · rw [List.append_assoc]
  · rfl
theorem alle_ok {n m e : Nat} {gl y : Nat → Int} (hG : Gn gl m n) (ho : ∀ j, m ≤ j → gl j = 0) (k : Nat) (hk : k ≤ n) : (alle n gl m e y k).Nodup ∧ ∀ i ∈ alle n gl m e y k, i < n := by
  unfold alle
  refine ⟨List.nodup_append.2 ⟨gone_nodup hG, List.nodup_range.filter _, fun i hi j hj e => ?_⟩, fun i hi => ?_⟩
  · subst e
    have h1 := (gone_mem hG ho).1 hi
    have h2 := (fnd_mem.1 hj).2
    unfold fz at h2
    rw [h1] at h2
    simp at h2
  · rcases List.mem_append.1 hi with h | h
    · exact gone_lt hG i h
    · have := (fnd_mem.1 h).1
      omega

section
variable {n r m : Nat} {f gl c : Nat → Int}
theorem lam_top : lam n gl m f c (cnt n (off gl m f c)) = 1 := by
  have := Qr_top ((els n gl m f c).map (xa n)) (fun y hy => by obtain ⟨i, _, rfl⟩ := List.mem_map.1 hy; exact al16 _)
  rw [List.length_map, els_len] at this
  exact this
theorem lam_out : ∀ k, cnt n (off gl m f c) + 1 ≤ k → lam n gl m f c k = 0 := fun k hk => Qr_out _ k (by rw [List.length_map, els_len]; exact hk)
theorem lam_mon {y : Nat → Int} (h : ∀ k, k < cnt n (off gl m f c) → y k = lam n gl m f c k) : mon (cnt n (off gl m f c)) y = lam n gl m f c := funext fun k => by
  unfold mon
  by_cases h1 : k < cnt n (off gl m f c)
  · rw [if_pos h1, h k h1]
  · rw [if_neg h1]
    by_cases h2 : k = cnt n (off gl m f c)
    · rw [if_pos h2, h2, lam_top]
    · rw [if_neg h2, lam_out k (by omega)]
theorem fnd_els (hn : n ≤ 255) {y : Nat → Int} (hl : ∀ k, k < cnt n (off gl m f c) → y k = lam n gl m f c k) : fnd n gl m (cnt n (off gl m f c)) y n = els n gl m f c := by
  unfold fnd els
  refine List.filter_congr fun i hi => ?_
  have hi' := List.mem_range.1 hi
  have hl16 : P16 (lam n gl m f c) := Qr16 _
  have hc : cnt n (off gl m f c) ≤ n := cnt_top _ _
  unfold fz
  rw [lam_mon hl, hnr_all hl16, ev_at _ (by omega) lam_out]
  have h1 := lam_val (n := n) (gl := gl) (m := m) (f := f) (c := c) hn hi'
  by_cases h2 : off gl m f c i = 0
  · rw [decide_eq_false (fun h => (h1.1 h) h2), decide_eq_false (fun h => h h2), Bool.false_and]
  · have hg : gon gl m i = false := by
      cases h3 : gon gl m i with
      | false => rfl
      | true => exact (h2 (by unfold off; rw [h3, if_pos rfl])).elim
    rw [decide_eq_true (h1.2 h2), decide_eq_true h2, hg]
    rfl
/-- The equations of a try, as the document lays them. -/
theorem pet_uq' (hf : P16 f) (hn : n ≤ 255) (hG : Gn gl m n) (hN : Near n f r m gl c) {M : Nat → Nat → Int} (hM : ∀ i, i < r - m - cnt n (off gl m f c) → ∀ k, k ≤ cnt n (off gl m f c) → sg n gl (cln gl m f) m (i + k) = M i k) :
    Uq M (r - m - cnt n (off gl m f c)) (cnt n (off gl m f c)) (lam n gl m f c) := (pet_uq hf hn hG hN).congr hM
/-- With the right number of wrong places the right ones are found. -/
theorem pet_found (hf : P16 f) (hn : n ≤ 255) (hG : Gn gl m n) (ho : ∀ j, m ≤ j → gl j = 0) (hN : Near n f r m gl c) {y : Nat → Int} (hy : ∀ k, k < cnt n (off gl m f c) → y k = lam n gl m f c k) :
    (alle n gl m (cnt n (off gl m f c)) y n).length = m + cnt n (off gl m f c) ∧ Er n f r (alle n gl m (cnt n (off gl m f c)) y n) c := by
  have e := fnd_els hn hy
  refine ⟨by rw [alle_len, e, els_len], hN.bd, hN.out, hN.rt, fun p hp hnp => ?_⟩
  unfold alle at hnp
  rw [e, List.mem_append, gone_mem hG ho, els_mem] at hnp
  by_cases hg : gon gl m p = true
  · exact (hnp (.inl hg)).elim
  · have h1 : off gl m f c p = 0 := Decidable.byContradiction fun h => hnp (.inr ⟨hp, h⟩)
    unfold off at h1
    rw [if_neg hg] at h1
    exact x_eq (hf p) (hN.bd p) h1
end
/-- What comes out right, with few places asked, is near enough. -/
theorem pet_near {n r m e : Nat} {f gl y F : Nat → Int} (hf : P16 f) (hG : Gn gl m n) (ho : ∀ j, m ≤ j → gl j = 0) (hF : P16 F) (hFo : ∀ j, n ≤ j → F j = 0) (hR : Rt n F r) (he : 2 * e + m ≤ r) (hl : (alle n gl m e y n).length ≤ m + e) (hs : ∀ p, p < n → p ∉ alle n gl m e y n → F p = f p) : Near n f r m gl F := by
  have h := near_spoilt (n := n) (r := r) (W := F) (F := f) (G := gone gl m) (T := fnd n gl m e y n) hF hf hFo hR (by rw [gone_len]; omega) (by rw [gone_len]; rw [alle_len] at hl; omega) (fun j hj hn => (hs j hj hn).symm)
  rw [gone_len, gone_lg hG ho] at h
  exact h

/-- append of a row to one of the call's own, at the operation. -/
theorem append_op {o : Oper} {a : Act} {K : Act → World → Prop} {Q : Exit → Act → World → Prop} {w : World} (s x : Operand)
    (ho : o.op = .call { callee := .builtin .append, args := #[s, x], argTypes := #[22, 22] }) (B : Nat) (v : Value) (n : Nat) (f : Nat → Int) (hs : a.eval s = v) (hown : w.ownsRow B 29 1 v n (vals f n))
    (ad : Addr) (m c : Nat) (g : Nat → Int) (hx : a.eval x = .slice (some ad) m c) (hS : Sl w (some ad) m c g) (hnm : n + m ≤ 4000) (hB : B ≤ w.heap.size) (w0 : World) (hb : Below B w0 w)
    (h : ∀ v' w', w'.ownsRow B 29 1 v' (n + m) (vals (cat n f g) (n + m)) → Below B w0 w' → K (a.put o.dst v') w') : Oper.wp Try.prog o a w K Q := by
  obtain ⟨i0, hi, hz0, hz1, hz2⟩ := info_parts info16
  refine wp_append_own w s x 22 ho B 29 i0 (.int .u16 0) 1 2 Try.underlying22 hi hz0 hz1 hz2 rfl (by decide) v n (vals f n) hs hown ad m c (vals g m) hx (by rw [vals_length, Nat.mul_one]) (fun j u hu => ?_) (fun u hu => vals_one hu) (by unfold maxLen; omega) (by omega) hB (fun v' w' hown' hgrow _ => ?_)
  · have hj : j < m := by
      have := (List.getElem?_eq_some_iff.1 hu).1
      rwa [vals_length] at this
    obtain ⟨b, off, e, hbl, hc⟩ := hS.at'.resolve_left (by omega)
    cases e
    rw [vals_get g m j hj] at hu
    cases hu
    rw [add_at]
    exact hc j hj
  · rw [vals_cat] at hown'
    refine h v' w' hown' (hb.grown hgrow hB (fun k e => ?_))
    rcases hown.2 with ⟨rfl, rfl⟩ | ⟨g', cap, cur, rfl, hg', _⟩
    · cases e
    · cases e; exact hg'

end Go.Proofs.Ytdbdidohldhnhaa
