/- Two polynomials that go down beside one another: what stays the same; that what they come to tells the wrong places, and what is wrong there. Pure arithmetic. -/
import Derived.Test.YtdbdidohldhnhaaDMath
namespace Go.Proofs.Ytdbdidohldhnhaa
open Go.RowKit Gf
set_option linter.unusedVariables false

/-- z to the power r. -/
def zr (r : Nat) : Nat → Int := fun k => if k = r then 1 else 0
theorem zr16 (r : Nat) : P16 (zr r) := fun k => by
  unfold zr
  split
  · exact o16
  · exact z16
theorem zr_shr (r : Nat) : Shr (zr r) (r + 1) := ⟨.inr (by show (if r + 1 - 1 = r then (1 : Int) else 0) ≠ 0; rw [if_pos (by omega)]; decide), fun j hj => by unfold zr; rw [if_neg (by omega)]⟩
theorem zr_succ (r : Nat) : zr (r + 1) = sh (zr r) := funext fun k => by
  show (if k = r + 1 then (1 : Int) else 0) = if k = 0 then 0 else if k - 1 = r then 1 else 0
  by_cases h0 : k = 0
  · rw [if_pos h0, if_neg (by omega)]
  · rw [if_neg h0]
    by_cases h1 : k = r + 1
    · rw [if_pos h1, if_pos (by omega)]
    · rw [if_neg h1, if_neg (by omega)]
theorem zr_ev {x : Int} (hx : 0 ≤ x ∧ x ≤ 65535) (h0 : x ≠ 0) (r : Nat) (hr : r ≤ 900) : ev x (zr r) ≠ 0 := by
  induction r with
  | zero =>
    show ev x (cst 1) ≠ 0
    rw [ev_cst x o16]
    decide
  | succ r ih =>
    rw [zr_succ, ev_sh (zr16 r) (n := r + 1) (by omega) (zr_shr r).2]
    exact f11 _ _ (ev16 x (zr16 r)) hx (ih (by omega)) h0

/-- The one that is divided (l0, by b0), and the divisor (l1, by b1). -/
structure Eu (r : Nat) (T l0 b0 l1 b1 : Nat → Int) (a0 a1 k1 : Nat) : Prop where
  T16 : P16 T
  l016 : P16 l0
  b016 : P16 b0
  l116 : P16 l1
  b116 : P16 b1
  sl0 : Shr l0 (a0 + 1)
  sl1 : Shr l1 a1
  le : a1 ≤ a0
  sb1 : Shr b1 (k1 + 1)
  sum : k1 + a0 = r
  b0o : ∀ j, k1 + 1 ≤ j → b0 j = 0
  det : addp (mulp b1 l0) (mulp b0 l1) = zr r
  c0 : ∀ k, k < r → l0 k = mulp b0 T k
  c1 : ∀ k, k < r → l1 k = mulp b1 T k

theorem cst_shr : Shr (cst 1) (0 + 1) := ⟨.inr (by decide), fun j hj => by unfold cst; rw [if_neg (by omega)]⟩
theorem Eu.start {r a : Nat} {T : Nat → Int} (hT : P16 T) (hs : Shr T a) (ha : a ≤ r) : Eu r T (zr r) nul T (cst 1) r a 0 := by
  refine ⟨hT, zr16 r, nul16, hT, cst16 o16, zr_shr r, hs, ha, cst_shr, by omega, fun _ _ => rfl, ?_, fun k hk => ?_, fun k _ => ?_⟩
  · rw [one_mulp (zr16 r), mulp_nul hT, addp_nul (zr16 r)]
  · rw [mulp_nul hT]
    unfold zr
    rw [if_neg (by omega)]
    rfl
  · rw [one_mulp hT]
theorem addp_shr_l {f g : Nat → Int} {n : Nat} (hf : P16 f) (h : Shr f (n + 1)) (hg : ∀ j, n ≤ j → g j = 0) : Shr (addp g f) (n + 1) := by
  refine ⟨.inr ?_, fun j hj => ?_⟩
  · show xI (g n) (f n) ≠ 0
    rw [hg n (Nat.le_refl _), x0 (hf n)]
    exact h.1.resolve_left (by omega)
  · show xI (g j) (f j) = 0
    rw [hg j (by omega), h.2 j hj, f7]
/-- One step down. -/
theorem Eu.down {r : Nat} {T l0 b0 l1 b1 q l2 : Nat → Int} {a0 m k1 nq n2 : Nat} (h : Eu r T l0 b0 l1 b1 a0 (m + 1) k1) (hq : P16 q) (h2 : P16 l2) (sq : Shr q nq) (s2 : Shr l2 n2) (hn2 : n2 ≤ m) (heq : addp (mulp q l1) l2 = l0) :
    ∃ k2, Eu r T l1 b1 l2 (addp b0 (mulp q b1)) m n2 k2 := by
  cases nq with
  | zero =>
    exfalso
    have e : q = nul := funext fun j => sq.2 j (Nat.zero_le _)
    rw [e, mulp_nul h.l116, nul_addp h2] at heq
    rw [heq] at s2
    have h1 := h.sl0.1.resolve_left (by omega)
    have := h.le
    exact h1 (s2.2 _ (by omega))
  | succ d =>
    have hm16 := mulp16 (f := q) h.b116
    have e2 : l2 = addp l0 (mulp q l1) := by
      rw [← heq]
      funext k
      show l2 k = xI (xI (mulp q l1 k) (l2 k)) (mulp q l1 k)
      rw [f1 (mulp q l1 k), f3, f7, f6 _ (h2 k).1]
    have htop : a0 = d + m := by
      have h1 : Shr (mulp q l1) (d + m + 1) := mulp_shr hq h.l116 sq h.sl1
      have h3 : Shr (addp l2 (mulp q l1)) (d + m + 1) := addp_shr_l (mulp16 h.l116) h1 (fun j hj => s2.2 j (by omega))
      rw [addp_comm, heq] at h3
      have := h3.uniq h.sl0
      omega
    have hd : 0 < d := by have := h.le; omega
    have hqb : Shr (mulp q b1) (d + k1 + 1) := mulp_shr hq h.b116 sq h.sb1
    refine ⟨d + k1, h.T16, h.l116, h.b116, h2, addp16 h.b016 hm16, h.sl1, s2, hn2, addp_shr_l hm16 hqb (fun j hj => h.b0o j (by omega)), by have := h.sum; omega, fun j hj => h.sb1.2 j (by omega), ?_, h.c1, fun k hk => ?_⟩
    · rw [mulp_addl h.b016 hm16 h.l116, e2, mulp_addr h.b116 h.l016 (mulp16 h.l116), mulp_comm hq h.b116, mulp_assoc h.b116 hq h.l116, addp_comm (mulp b0 l1), addp_swap, addp_comm (mulp b1 (mulp q l1)), addp_swap, addp_self, ← h.det]
      rw [addp_nul (addp16 (mulp16 h.l016) (mulp16 h.l116))]
    · rw [mulp_addl h.b016 hm16 h.T16, e2]
      show xI (l0 k) (mulp q l1 k) = xI (mulp b0 T k) (mulp (mulp q b1) T k)
      rw [h.c0 k hk, mulp_assoc hq h.b116 h.T16, mulp_low hq h.l116 (mulp16 h.T16) h.c1 k hk]

/-- The roots of the places. -/
def ro (n : Nat) : Nat → Int
  | 0 => pI 2 ((1 - (n : Int)) % 65535)
  | p + 1 => gI (ro n p) 2
theorem ro16 (n p : Nat) : 0 ≤ ro n p ∧ ro n p ≤ 65535 := by
  induction p with
  | zero =>
    have := pI_bd 2 ((1 - (n : Int)) % 65535) (by decide)
    exact ⟨this.1, by have := this.2; show pI 2 _ ≤ 65535; omega⟩
  | succ p ih => exact g16 ih
theorem gI_pw (i j : Nat) : gI ((pw 2 i : Nat) : Int) ((pw 2 j : Nat) : Int) = ((pw 2 (i + j) : Nat) : Int) := by
  rw [pw_add (by decide)]
  rfl
theorem ro_inv {n : Nat} (hn : n ≤ 60000) : ∀ p, p < n → gI (ro n p) (al (n - 1 - p)) = 1 := by
  intro p
  induction p with
  | zero =>
    intro h
    have e : ro n 0 = ((pw 2 ((1 - (n : Int)) % 65535).toNat : Nat) : Int) := rfl
    rw [e, al_nat, gI_pw]
    by_cases h1 : n = 1
    · subst h1
      rfl
    · have e2 : ((1 - (n : Int)) % 65535).toNat + (n - 1 - 0) = 65535 := by omega
      rw [e2, ord_one]
      rfl
  | succ p ih =>
    intro h
    rw [show n - 1 - (p + 1) = n - 2 - p from by omega]
    have h1 := ih (by omega)
    rw [show n - 1 - p = (n - 2 - p) + 1 from by omega, al_succ, g2 (al16 _) (by decide), ← g4 (ro16 n p) (by decide)] at h1
    exact h1
theorem ro_ne {n : Nat} (hn : n ≤ 60000) {p : Nat} (hp : p < n) : ro n p ≠ 0 := fun e => by
  have := ro_inv hn p hp
  rw [e, f12] at this
  cases this
theorem ro_inj {n : Nat} (hn : n ≤ 60000) {p q : Nat} (hp : p < n) (hq : q < n) (h : ro n p = ro n q) : p = q := by
  have h1 := ro_inv hn p hp
  have h2 := ro_inv hn q hq
  have e : al (n - 1 - p) = al (n - 1 - q) := by
    have h3 : gI (al (n - 1 - p)) (gI (ro n q) (al (n - 1 - q))) = al (n - 1 - p) := by rw [h2, f8 _ (al16 _).1]
    rw [← h3, ← g4 (al16 _) (ro16 n q), g2 (al16 _) (ro16 n q), ← h, h1, g2 o16 (al16 _), f8 _ (al16 _).1]
  have := al_inj (i := n - 1 - p) (j := n - 1 - q) (by omega) (by omega) e
  omega

/- Sums over lists of places. -/
def ls (g : Nat → Int) : List Nat → Int
  | [] => 0
  | i :: is => xI (g i) (ls g is)
theorem sm_split {n q : Nat} {g : Nat → Int} (hg : ∀ i, 0 ≤ g i ∧ g i ≤ 65535) (hq : q < n) : sm n g = xI (g q) (sm n (fun i => if i = q then 0 else g i)) := by
  have e : sm n g = sm n (fun i => xI (if i = q then g q else 0) (if i = q then 0 else g i)) := sm_congr fun i _ => by
    by_cases h : i = q
    · rw [if_pos h, if_pos h, h, f6 _ (hg q).1]
    · rw [if_neg h, if_neg h, x0 (hg i)]
  rw [e, sm_add, sm_one (q := q) hq (by rw [if_pos rfl]; exact hg q) (fun i _ h => if_neg h), if_pos rfl]
theorem ls_congr {g h : Nat → Int} {L : List Nat} (e : ∀ i ∈ L, g i = h i) : ls g L = ls h L := by
  induction L with
  | nil => rfl
  | cons i L ih =>
    show xI (g i) (ls g L) = xI (h i) (ls h L)
    rw [e i (by simp), ih (fun j hj => e j (by simp [hj]))]
theorem sm_ls {n : Nat} (L : List Nat) : ∀ (g : Nat → Int), (∀ i, 0 ≤ g i ∧ g i ≤ 65535) → L.Nodup → (∀ i ∈ L, i < n) → (∀ i, i < n → i ∉ L → g i = 0) → sm n g = ls g L := by
  induction L with
  | nil =>
    intro g hg _ _ h0
    have : ∀ m, m ≤ n → sm m g = 0 := by
      intro m
      induction m with
      | zero => intro _; rfl
      | succ m ih => intro hm; show xI (sm m g) (g m) = 0; rw [ih (by omega), h0 m (by omega) (by simp), f7]
    exact this n (Nat.le_refl _)
  | cons q L ih =>
    intro g hg hnd hlt h0
    have hq := hlt q (by simp)
    have hn := List.nodup_cons.1 hnd
    rw [sm_split hg hq, ih (fun i => if i = q then 0 else g i) (fun i => by
      show 0 ≤ (if i = q then 0 else g i) ∧ (if i = q then 0 else g i) ≤ 65535
      split
      · exact z16
      · exact hg i) hn.2 (fun i hi => hlt i (by simp [hi])) (fun i hi hni => by
      show (if i = q then 0 else g i) = 0
      by_cases h : i = q
      · rw [if_pos h]
      · rw [if_neg h]; exact h0 i hi (by simp [h, hni]))]
    show _ = xI (g q) (ls g L)
    rw [ls_congr (g := fun i => if i = q then 0 else g i) (h := g) (fun i hi => if_neg (fun (h : i = q) => hn.1 (h ▸ hi)))]

/-- A place's numbers. -/
def pl (n : Nat) (d : Nat → Int) (i : Nat) : Pl := ⟨ro n i, al (n - 1 - i), d i⟩
theorem pl_ok {n : Nat} (hn : n ≤ 60000) {d : Nat → Int} (hd : P16 d) {i : Nat} (hi : i < n) : (pl n d i).ok := ⟨ro16 n i, al16 _, hd i, ro_inv hn i hi⟩
theorem Sr_ls (n : Nat) (d : Nat → Int) (k : Nat) (L : List Nat) : Sr (L.map (pl n d)) k = ls (fun i => gI (d i) (pk (al (n - 1 - i)) k)) L ∨ ¬ P16 d := by
  by_cases hd : P16 d
  · left
    induction L with
    | nil => rfl
    | cons i L ih =>
      show xI (gI (pk (al (n - 1 - i)) k) (d i)) (Sr (L.map (pl n d)) k) = xI (gI (d i) (pk (al (n - 1 - i)) k)) (ls _ L)
      rw [ih, g2 (pk16 (al16 _) k) (hd i)]
  · exact .inr hd
theorem cnt_filter (n : Nat) (d : Nat → Int) : ((List.range n).filter fun i => decide (d i ≠ 0)).length = cnt n d := by
  induction n with
  | zero => rfl
  | succ n ih =>
    rw [List.range_succ, List.filter_append, List.length_append, ih]
    show cnt n d + _ = cnt n d + (if d n = 0 then 0 else 1)
    by_cases h : d n = 0 <;> simp [h]

/-- An inverse as Inv tells it: 0 of 0. -/
def iv (y : Int) : Int := if y = 0 then 0 else pI y 65534
theorem iv16 {y : Int} (hy : 0 ≤ y ∧ y ≤ 65535) : 0 ≤ iv y ∧ iv y ≤ 65535 := by
  unfold iv
  split
  · exact z16
  · have := pI_bd y 65534 (by omega)
    omega
/-- The roots of the places that are gone. -/
def gr (n : Nat) (gl : Nat → Int) : Nat → Int := fun k => ro n (gl k).toNat
/-- What is put at a place. -/
def put (n : Nat) (f b l s : Nat → Int) (p : Nat) : Int := xI (f p) (gI (ev (ro n p) l) (iv (gI (ro n p) (ev (ro n p) s))))

section
variable {n r m : Nat} {f gl c : Nat → Int}

theorem gl_nat (h : Gn gl m n) {k : Nat} (hk : k < m) : ((gl k).toNat : Int) = gl k ∧ (gl k).toNat < n := by
  have := h.1 k hk
  omega
theorem down_mem {m k : Nat} : k ∈ down m ↔ k < m := by
  induction m with
  | zero => simp [down]
  | succ m ih => simp [down, ih]; omega
theorem down_nodup (m : Nat) : (down m).Nodup := by
  induction m with
  | zero => exact List.nodup_nil
  | succ m ih => exact List.nodup_cons.2 ⟨fun h => by have := down_mem.1 h; omega, ih⟩
theorem down_length (m : Nat) : (down m).length = m := by
  induction m with
  | zero => rfl
  | succ m ih => simp [down, ih]
/-- The gone places, as a list. -/
def gls (gl : Nat → Int) (m : Nat) : List Nat := (down m).map fun k => (gl k).toNat
theorem gls_mem (h : Gn gl m n) {i : Nat} : i ∈ gls gl m ↔ gon gl m i = true := by
  rw [gon_iff]
  unfold gls
  rw [List.mem_map]
  constructor
  · rintro ⟨k, hk, rfl⟩
    exact ⟨k, down_mem.1 hk, (gl_nat h (down_mem.1 hk)).1.symm⟩
  · rintro ⟨k, hk, e⟩
    exact ⟨k, down_mem.2 hk, by omega⟩
theorem gls_lt (h : Gn gl m n) {i : Nat} (hi : i ∈ gls gl m) : i < n := by
  unfold gls at hi
  obtain ⟨k, hk, rfl⟩ := List.mem_map.1 hi
  exact (gl_nat h (down_mem.1 hk)).2
theorem nodup_map {α β : Type} {g : α → β} {L : List α} (h : L.Nodup) (hi : ∀ x ∈ L, ∀ y ∈ L, g x = g y → x = y) : (L.map g).Nodup := by
  induction L with
  | nil => exact List.nodup_nil
  | cons x L ih =>
    have hn := List.nodup_cons.1 h
    refine List.nodup_cons.2 ⟨fun hm => ?_, ih hn.2 (fun a ha b hb => hi a (by simp [ha]) b (by simp [hb]))⟩
    obtain ⟨y, hy, e⟩ := List.mem_map.1 hm
    have := hi y (by simp [hy]) x (by simp) e
    exact hn.1 (this ▸ hy)
theorem gls_nodup (h : Gn gl m n) : (gls gl m).Nodup := nodup_map (down_nodup m) (fun x hx y hy e => by
  have h1 := gl_nat h (down_mem.1 hx)
  have h2 := gl_nat h (down_mem.1 hy)
  have e' : (gl x).toNat = (gl y).toNat := e
  exact h.2 x y (down_mem.1 hx) (down_mem.1 hy) (by omega))
theorem gls_length : (gls gl m).length = m := by unfold gls; rw [List.length_map, down_length]
theorem gr_Qr : ofp (gr n gl) m = Qr ((gls gl m).map (ro n)) := by
  rw [ofp_Qr]
  unfold gls
  rw [List.map_map]
  rfl
/-- The wrong places, as a list. -/
def els (n : Nat) (gl : Nat → Int) (m : Nat) (f c : Nat → Int) : List Nat := (List.range n).filter fun i => decide (off gl m f c i ≠ 0)
theorem els_mem {i : Nat} : i ∈ els n gl m f c ↔ i < n ∧ off gl m f c i ≠ 0 := by
  unfold els
  rw [List.mem_filter, List.mem_range]
  simp

set_option maxHeartbeats 1000000 in
/-- Where there is a right word near enough, that is what comes out. -/
theorem mend_makes {T l0 b0 l1 b1 : Nat → Int} {a0 a1 k1 : Nat} (hf : P16 f) (hn : n ≤ 255) (hr1 : r ≤ n) (hr0 : 0 < r) (hG : Gn gl m n) (hN : Near n f r m gl c)
    (hT : ∀ k, k < r → T k = mulp (fun j => if j < r then vh (al j) n f else 0) (ofp (gr n gl) m) k) (hE : Eu r T l0 b0 l1 b1 a0 a1 k1) (hk : k1 ≤ (r - m) / 2) (ha : a1 ≤ r - (r - m) / 2) (p : Nat) (hp : p < n) :
    ((gon gl m p = true ∨ ev (ro n p) b1 = 0) → put n f b1 l1 (slp (mulp b1 (ofp (gr n gl) m))) p = c p) ∧ (¬ (gon gl m p = true ∨ ev (ro n p) b1 = 0) → f p = c p) := by
  have hfew := hN.few
  have hm : m ≤ r := by omega
  have hd16 : P16 (addp f c) := addp16 hf hN.bd
  have hx := ro16 n p
  have hxn := ro_ne (n := n) (by omega) hp
  -- the lists
  obtain ⟨E, hEd⟩ : ∃ E, E = els n gl m f c := ⟨_, rfl⟩
  obtain ⟨G, hGd⟩ : ∃ G, G = gls gl m := ⟨_, rfl⟩
  have hEl : E.length = cnt n (off gl m f c) := by rw [hEd]; exact cnt_filter n _
  have hGl : G.length = m := by rw [hGd]; exact gls_length
  have hEm : ∀ i, i ∈ E ↔ i < n ∧ off gl m f c i ≠ 0 := fun i => by rw [hEd]; exact els_mem
  have hGm : ∀ i, i ∈ G ↔ gon gl m i = true := fun i => by rw [hGd]; exact gls_mem hG
  have hElt : ∀ i ∈ E, i < n := fun i hi => ((hEm i).1 hi).1
  have hGlt : ∀ i ∈ G, i < n := fun i hi => gls_lt hG (hGd ▸ hi)
  have hEnd : E.Nodup := by rw [hEd]; exact List.nodup_range.filter _
  have hGnd : G.Nodup := by rw [hGd]; exact gls_nodup hG
  have hEG : ∀ i, i ∈ E → i ∉ G := fun i hi hg => by
    have h1 := ((hEm i).1 hi).2
    unfold off at h1
    rw [if_pos ((hGm i).1 hg)] at h1
    exact h1 rfl
  have hLnd : (E ++ G).Nodup := List.nodup_append.2 ⟨hEnd, hGnd, fun a ha b hb e => hEG a ha (e ▸ hb)⟩
  have hLlt : ∀ i ∈ E ++ G, i < n := fun i hi => (List.mem_append.1 hi).elim (hElt i) (hGlt i)
  have hsup : ∀ i, i < n → i ∉ E ++ G → addp f c i = 0 := fun i hi hni => by
    have h1 : i ∉ E := fun h => hni (List.mem_append.2 (.inl h))
    have h2 : i ∉ G := fun h => hni (List.mem_append.2 (.inr h))
    rw [hEm] at h1
    rw [hGm] at h2
    have h3 : off gl m f c i = 0 := Decidable.byContradiction fun h => h1 ⟨hi, h⟩
    unfold off at h3
    rw [if_neg h2] at h3
    exact h3
  obtain ⟨Γ, hΓ⟩ : ∃ Γ, Γ = Qr (G.map (ro n)) := ⟨_, rfl⟩
  obtain ⟨Λ, hΛ⟩ : ∃ Λ, Λ = Qr (E.map (ro n)) := ⟨_, rfl⟩
  have hΓo : ofp (gr n gl) m = Γ := by rw [hΓ, hGd]; exact gr_Qr
  have hΓ16 : P16 Γ := hΓ ▸ Qr16 _
  have hΛ16 : P16 Λ := hΛ ▸ Qr16 _
  have hΓout : ∀ j, m + 1 ≤ j → Γ j = 0 := fun j hj => by rw [hΓ]; exact Qr_out _ j (by simp [hGl]; omega)
  have hΛout : ∀ j, E.length + 1 ≤ j → Λ j = 0 := fun j hj => by rw [hΛ]; exact Qr_out _ j (by simp; omega)
  have hro16 : ∀ (L : List Nat), ∀ y ∈ L.map (ro n), 0 ≤ y ∧ y ≤ 65535 := fun L y hy => by
    obtain ⟨i, _, rfl⟩ := List.mem_map.1 hy
    exact ro16 n i
  obtain ⟨ps, hps⟩ : ∃ ps, ps = (E ++ G).map (pl n (addp f c)) := ⟨_, rfl⟩
  have hpsx : ps.map Pl.x = (E ++ G).map (ro n) := by rw [hps, List.map_map]; rfl
  have hpsl : ps.length = E.length + m := by rw [hps, List.length_map, List.length_append, hGl]
  have hpsok : ∀ q ∈ ps, q.ok := fun q hq => by
    rw [hps] at hq
    obtain ⟨i, hi, rfl⟩ := List.mem_map.1 hq
    exact pl_ok (by omega) hd16 (hLlt i hi)
  have hQ : Qr (ps.map Pl.x) = mulp Λ Γ := by rw [hpsx, List.map_append, Qr_app _ _ (hro16 E), hΛ, hΓ]
  have hS16 := Sr16 ps hpsok
  have hO16 := Om16 ps hpsok
  have hOout := Om_out ps
  rw [hpsl] at hOout
  have hSr : ∀ k, k < r → Sr ps k = vh (al k) n f := fun k hk => by
    have h1 : vh (al k) n (addp f c) = vh (al k) n f := by rw [vh_add (al16 k) n hf hN.bd, hN.rt k hk, f6 _ (vh16 hf n).1]
    rw [← h1, vh_al hd16, sm_ls (n := n) (E ++ G) (fun i => gI (addp f c i) (pk (al (n - 1 - i)) k)) (fun i => g16 (hd16 i)) hLnd hLlt (fun i hi hni => by show gI (addp f c i) _ = 0; rw [hsup i hi hni, f12])]
    rw [hps]
    exact (Sr_ls n (addp f c) k (E ++ G)).resolve_right (fun h => h hd16)
  have hT' : ∀ k, k < r → T k = mulp (Sr ps) Γ k := fun k hk => by
    rw [hT k hk, hΓo, mulp_comm hS16 hΓ16]
    have hv16 : P16 (fun j => if j < r then vh (al j) n f else 0) := fun j => by
      show 0 ≤ (if j < r then vh (al j) n f else 0) ∧ (if j < r then vh (al j) n f else 0) ≤ 65535
      split
      · exact vh16 hf n
      · exact z16
    rw [mulp_comm hv16 hΓ16]
    exact mulp_low hΓ16 hv16 hS16 (fun j hj => by rw [hSr j hj, if_pos hj]) k hk
  have hkey := key ps hpsok
  rw [hQ] at hkey
  -- by times what the sums come to is what is left times the wrong places
  have hb16 := hE.b116
  have hl16 := hE.l116
  have hE1 : mulp b1 (Om ps) = mulp Λ l1 := by
    have e1 : mulp b1 (Om ps) = mulp Λ (mulp b1 (mulp (Sr ps) Γ)) := by
      rw [← hkey, mulp_comm hΛ16 hΓ16, ← mulp_assoc hS16 hΓ16 hΛ16, ← mulp_assoc hb16 (mulp16 hΓ16) hΛ16, mulp_comm (mulp16 (mulp16 hΓ16)) hΛ16]
    have e2 : ∀ k, k < r → mulp b1 (mulp (Sr ps) Γ) k = l1 k := fun k hk => by
      rw [hE.c1 k hk]
      exact mulp_low hb16 (mulp16 hΓ16) hE.T16 (fun j hj => (hT' j hj).symm) k hk
    funext k
    by_cases hkr : k < r
    · rw [e1]
      exact mulp_low hΛ16 (mulp16 (mulp16 hΓ16)) hl16 e2 k hkr
    · have z1 : mulp b1 (Om ps) k = 0 := by
        by_cases h0 : E.length + m = 0
        · have : Om ps = nul := funext fun j => hOout j (by omega)
          rw [this, nul_r]
          rfl
        · exact mulp_out (n := k1 + 1) (m := E.length + m) hO16 hE.sb1.2 hOout (by omega) k (by omega)
      have z2 : mulp Λ l1 k = 0 := mulp_out (n := E.length + 1) (m := r - (r - m) / 2) hl16 hΛout (fun j hj => hE.sl1.2 j (by omega)) (by omega) k (by omega)
      rw [z1, z2]
  have hk1 : k1 ≤ 255 := by omega
  have ha1 : a1 ≤ 255 := by omega
  have ha0 : a0 ≤ 255 := by have := hE.sum; omega
  have hEr : E.length + m ≤ 255 := by omega
  have V1 : gI (ev (ro n p) b1) (ev (ro n p) (Om ps)) = gI (ev (ro n p) Λ) (ev (ro n p) l1) := by
    rw [← ev_mul hx hb16 hO16 hE.sb1.2 hOout (by omega), hE1, ev_mul hx hΛ16 hl16 hΛout hE.sl1.2 (by omega)]
  have V2 : ¬ (ev (ro n p) b1 = 0 ∧ ev (ro n p) l1 = 0) := by
    rintro ⟨h1, h2⟩
    have h3 : ev (ro n p) (addp (mulp b1 l0) (mulp b0 l1)) = ev (ro n p) (zr r) := by rw [hE.det]
    rw [ev_add hx (mulp16 hE.l016) (mulp16 hl16), ev_mul hx hb16 hE.l016 hE.sb1.2 hE.sl0.2 (by omega), ev_mul hx hE.b016 hl16 hE.b0o hE.sl1.2 (by omega), h1, h2, f12, f9, f7] at h3
    exact zr_ev hx hxn r (by omega) h3.symm
  have hb' := ev16 (ro n p) hb16
  have hl' := ev16 (ro n p) hl16
  have hO' := ev16 (ro n p) hO16
  have hΛ' := ev16 (ro n p) hΛ16
  have hinE : ∀ (L : List Nat), (∀ i ∈ L, i < n) → (ro n p ∈ L.map (ro n) ↔ p ∈ L) := fun L hL => by
    constructor
    · intro h
      obtain ⟨i, hi, e⟩ := List.mem_map.1 h
      rw [← ro_inj (n := n) (by omega) (hL i hi) hp e]
      exact hi
    · intro h
      exact List.mem_map.2 ⟨p, h, rfl⟩
  have hΛ0 : ev (ro n p) Λ = 0 ↔ p ∈ E := by rw [hΛ, Qr_ev _ (hro16 E) (by simp; omega) hx, hinE E hElt]
  have hΓ0 : ev (ro n p) Γ = 0 ↔ p ∈ G := by rw [hΓ, Qr_ev _ (hro16 G) (by simp; omega) hx, hinE G hGlt]
  have hnb : p ∉ E → ev (ro n p) b1 ≠ 0 := fun h1 h2 => by
    rw [h2, f12] at V1
    have h3 : ev (ro n p) l1 = 0 := Decidable.byContradiction fun h => f11 _ _ hΛ' hl' (fun h => h1 (hΛ0.1 h)) h V1.symm
    exact V2 ⟨h2, h3⟩
  rw [hΓo]
  refine ⟨fun hch => ?_, fun hch => ?_⟩
  · have hpL : p ∈ E ++ G := by
      rcases hch with h | h
      · exact List.mem_append.2 (.inr ((hGm p).2 h))
      · exact List.mem_append.2 (.inl (Decidable.byContradiction fun h2 => hnb h2 h))
    have hpp : pl n (addp f c) p ∈ ps := by rw [hps]; exact List.mem_map.2 ⟨p, hpL, rfl⟩
    have hnd : (ps.map Pl.x).Nodup := by
      rw [hpsx]
      exact nodup_map hLnd (fun a ha b hb e => ro_inj (n := n) (by omega) (hLlt a ha) (hLlt b hb) e)
    obtain ⟨R1, R2⟩ := root_at ps hpsok (by omega) hnd _ hpp
    have R1 : ev (ro n p) (slp (Qr (ps.map Pl.x))) ≠ 0 := R1
    have R2 : ev (ro n p) (Om ps) = gI (gI (addp f c p) (ro n p)) (ev (ro n p) (slp (Qr (ps.map Pl.x)))) := R2
    rw [hQ] at R1 R2
    have hQ16 : P16 (mulp Λ Γ) := mulp16 hΓ16
    have hQout : ∀ j, E.length + m + 1 ≤ j → mulp Λ Γ j = 0 := fun j hj => mulp_out hΓ16 hΛout hΓout (by omega) j (by omega)
    have hP16 : P16 (mulp b1 Γ) := mulp16 hΓ16
    have hPout : ∀ j, k1 + m + 1 ≤ j → mulp b1 Γ j = 0 := fun j hj => mulp_out hΓ16 hE.sb1.2 hΓout (by omega) j (by omega)
    have hPO : mulp (mulp b1 Γ) (Om ps) = mulp (mulp Λ Γ) l1 := by
      rw [mulp_comm hb16 hΓ16, mulp_assoc hΓ16 hb16 hO16, hE1, ← mulp_assoc hΓ16 hΛ16 hl16, mulp_comm hΓ16 hΛ16]
    have hP0 : ev (ro n p) (mulp b1 Γ) = 0 := by
      rw [ev_mul hx hb16 hΓ16 hE.sb1.2 hΓout (by omega)]
      rcases List.mem_append.1 hpL with h | h
      · have h1 := hΛ0.2 h
        rw [h1, f12] at V1
        have h2 : ev (ro n p) (Om ps) ≠ 0 := by
          rw [R2]
          have h3 : addp f c p ≠ 0 := by
            have h4 := ((hEm p).1 h).2
            unfold off at h4
            split at h4
            · exact (h4 rfl).elim
            · exact h4
          exact f11 _ _ (g16 (hd16 p)) (ev16 _ (slp16 hQ16)) (f11 _ _ (hd16 p) hx h3 hxn) R1
        rw [show ev (ro n p) b1 = 0 from Decidable.byContradiction fun h3 => f11 _ _ hb' hO' h3 h2 V1, f12]
      · rw [hΓ0.2 h, f9]
    have hQ0 : ev (ro n p) (mulp Λ Γ) = 0 := by
      rw [ev_mul hx hΛ16 hΓ16 hΛout hΓout (by omega)]
      rcases List.mem_append.1 hpL with h | h
      · rw [hΛ0.2 h, f12]
      · rw [hΓ0.2 h, f9]
    have V3 : gI (ev (ro n p) (Om ps)) (ev (ro n p) (slp (mulp b1 Γ))) = gI (ev (ro n p) l1) (ev (ro n p) (slp (mulp Λ Γ))) := by
      have h1 : ev (ro n p) (slp (mulp (mulp b1 Γ) (Om ps))) = ev (ro n p) (slp (mulp (mulp Λ Γ) l1)) := by rw [hPO]
      rw [slp_mul hP16 hO16, slp_mul hQ16 hl16, ev_add hx (mulp16 (slp16 hO16)) (mulp16 (slp16 hP16)), ev_add hx (mulp16 (slp16 hl16)) (mulp16 (slp16 hQ16)),
        ev_mul hx hP16 (slp16 hO16) hPout (slp_out hOout) (by omega), ev_mul hx hO16 (slp16 hP16) hOout (slp_out hPout) (by omega),
        ev_mul hx hQ16 (slp16 hl16) hQout (slp_out hE.sl1.2) (by omega), ev_mul hx hl16 (slp16 hQ16) hE.sl1.2 (slp_out hQout) (by omega), hP0, hQ0, f12, f12, x0 (g16 hO'), x0 (g16 hl')] at h1
      exact h1
    have hs' := ev16 (ro n p) (slp16 hP16)
    have hq' := ev16 (ro n p) (slp16 hQ16)
    -- what is left is what is wrong, times the root, times the slope
    have hyx : 0 ≤ gI (addp f c p) (ro n p) ∧ gI (addp f c p) (ro n p) ≤ 65535 := g16 (hd16 p)
    have V4 : ev (ro n p) l1 = gI (addp f c p) (gI (ro n p) (ev (ro n p) (slp (mulp b1 Γ)))) := by
      rw [R2, g4 hyx hq', g2 hq' hs', ← g4 hyx hs'] at V3
      rw [← g4 (hd16 p) hx]
      have h1 := congrArg (fun t => gI t (pI (ev (ro n p) (slp (mulp Λ Γ))) 65534)) V3
      have h1 : gI (gI (gI (gI (addp f c p) (ro n p)) (ev (ro n p) (slp (mulp b1 Γ)))) (ev (ro n p) (slp (mulp Λ Γ)))) (pI (ev (ro n p) (slp (mulp Λ Γ))) 65534) = gI (gI (ev (ro n p) l1) (ev (ro n p) (slp (mulp Λ Γ)))) (pI (ev (ro n p) (slp (mulp Λ Γ))) 65534) := h1
      rw [g4 (g16 hyx) hq', f10 _ hq' R1, f8 _ (g16 hyx).1, g4 hl' hq', f10 _ hq' R1, f8 _ hl'.1] at h1
      exact h1.symm
    have hsn : ev (ro n p) (slp (mulp b1 Γ)) ≠ 0 := by
      rcases List.mem_append.1 hpL with h | h
      · intro h0
        rw [h0, f9, f9] at V4
        have h1 := hΛ0.2 h
        have h2 : ev (ro n p) b1 = 0 := by
          have h3 := hP0
          rw [ev_mul hx hb16 hΓ16 hE.sb1.2 hΓout (by omega)] at h3
          exact Decidable.byContradiction fun h4 => f11 _ _ hb' (ev16 _ hΓ16) h4 (fun h5 => hEG p h (hΓ0.1 h5)) h3
        exact V2 ⟨h2, V4⟩
      · have hgok : ∀ q ∈ G.map (pl n (addp f c)), q.ok := fun q hq => by
          obtain ⟨i, hi, rfl⟩ := List.mem_map.1 hq
          exact pl_ok (by omega) hd16 (hGlt i hi)
        have hgx : (G.map (pl n (addp f c))).map Pl.x = G.map (ro n) := by rw [List.map_map]; rfl
        have h1 := (root_at (G.map (pl n (addp f c))) hgok (by simp; omega) (by rw [hgx]; exact nodup_map hGnd (fun a ha b hb e => ro_inj (n := n) (by omega) (hGlt a ha) (hGlt b hb) e)) (pl n (addp f c) p) (List.mem_map.2 ⟨p, h, rfl⟩)).1
        rw [hgx, ← hΓ] at h1
        have h1 : ev (ro n p) (slp Γ) ≠ 0 := h1
        rw [slp_mul hb16 hΓ16, ev_add hx (mulp16 (slp16 hΓ16)) (mulp16 (slp16 hb16)), ev_mul hx hb16 (slp16 hΓ16) hE.sb1.2 (slp_out hΓout) (by omega), ev_mul hx hΓ16 (slp16 hb16) hΓout (slp_out hE.sb1.2) (by omega), hΓ0.2 h, f12, f6 _ (g16 hb').1]
        exact f11 _ _ hb' (ev16 _ (slp16 hΓ16)) (hnb (fun h2 => hEG p h2 h)) h1
    have hzn : gI (ro n p) (ev (ro n p) (slp (mulp b1 Γ))) ≠ 0 := f11 _ _ hx hs' hxn hsn
    unfold put iv
    rw [if_neg hzn, V4, g4 (hd16 p) (g16 hx), f10 _ (g16 hx) hzn, f8 _ (hd16 p).1]
    exact xx (hN.bd p)
  · have h1 : p ∉ E ++ G := fun h => by
      rcases List.mem_append.1 h with h | h
      · -- a wrong place is found
        have hpp : pl n (addp f c) p ∈ ps := by rw [hps]; exact List.mem_map.2 ⟨p, List.mem_append.2 (.inl h), rfl⟩
        have hnd : (ps.map Pl.x).Nodup := by
          rw [hpsx]
          exact nodup_map hLnd (fun a ha b hb e => ro_inj (n := n) (by omega) (hLlt a ha) (hLlt b hb) e)
        obtain ⟨R1, R2⟩ := root_at ps hpsok (by omega) hnd _ hpp
        have R1 : ev (ro n p) (slp (Qr (ps.map Pl.x))) ≠ 0 := R1
        have R2 : ev (ro n p) (Om ps) = gI (gI (addp f c p) (ro n p)) (ev (ro n p) (slp (Qr (ps.map Pl.x)))) := R2
        have h3 : addp f c p ≠ 0 := by
          have h4 := ((hEm p).1 h).2
          unfold off at h4
          split at h4
          · exact (h4 rfl).elim
          · exact h4
        have h2 : ev (ro n p) (Om ps) ≠ 0 := by
          rw [R2]
          exact f11 _ _ (g16 (hd16 p)) (ev16 _ (slp16 (Qr16 _))) (f11 _ _ (hd16 p) hx h3 hxn) R1
        rw [hΛ0.2 h, f12] at V1
        exact hch (.inr (Decidable.byContradiction fun h3 => f11 _ _ hb' hO' h3 h2 V1))
      · exact hch (.inl ((hGm p).1 h))
    exact x_eq (hf p) (hN.bd p) (hsup p hp h1)

/-- No more places are turned than may be. -/
theorem mend_few {b1 g : Nat → Int} {k1 : Nat} (hn : n ≤ 255) (hb : P16 b1) (hs : Shr b1 (k1 + 1)) (hk : k1 ≤ 255) (h : ∀ p, p < n → gon gl m p = false → ev (ro n p) b1 ≠ 0 → f p = g p) : cnt n (off gl m f g) ≤ k1 := by
  rw [← cnt_filter]
  have hmem : ∀ i, i ∈ (List.range n).filter (fun i => decide (off gl m f g i ≠ 0)) ↔ i < n ∧ off gl m f g i ≠ 0 := fun i => by
    rw [List.mem_filter, List.mem_range]
    simp
  have := roots_bound (((List.range n).filter fun i => decide (off gl m f g i ≠ 0)).map (ro n)) b1 k1 hb hs
    (nodup_map (List.nodup_range.filter _) (fun a ha b hb e => ro_inj (n := n) (by omega) ((hmem a).1 ha).1 ((hmem b).1 hb).1 e)) (fun x hx => by
      obtain ⟨i, hi, rfl⟩ := List.mem_map.1 hx
      obtain ⟨h1, h2⟩ := (hmem i).1 hi
      refine ⟨ro16 n i, ?_⟩
      rw [ev_at _ (by omega) hs.2]
      refine Decidable.byContradiction fun h3 => h2 ?_
      unfold off
      split
      · rfl
      · rename_i hg
        rw [h i h1 (by simpa using hg) h3, f7])
  rw [List.length_map] at this
  exact this

end
end Go.Proofs.Ytdbdidohldhnhaa
