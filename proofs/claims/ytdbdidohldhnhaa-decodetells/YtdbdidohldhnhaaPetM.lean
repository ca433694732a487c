/- Peterson's way, in plain numbers: the sums without what is gone; the equations for the wrong places, and for what stands there, have just one solution. Pure arithmetic. -/
import Derived.Test.YtdbdidohldhnhaaGauss
namespace Go.Proofs.Ytdbdidohldhnhaa
open Go.RowKit Gf
set_option linter.unusedVariables false

/-- The word with noughts where it is gone. -/
def cln (gl : Nat → Int) (m : Nat) (f : Nat → Int) : Nat → Int := fun j => if gon gl m j = true then 0 else f j
theorem cln16 {gl : Nat → Int} {m : Nat} {f : Nat → Int} (hf : P16 f) : P16 (cln gl m f) := fun j => by
  unfold cln
  split
  · exact z16
  · exact hf j
/-- The sums when i places are taken out. -/
def sg (n : Nat) (gl : Nat → Int) (f : Nat → Int) : Nat → Nat → Int
  | 0 => fun j => vh (al j) n f
  | i + 1 => fun j => xI (sg n gl f i (j + 1)) (gI (al (n - 1 - (gl i).toNat)) (sg n gl f i j))
theorem sg16 {n : Nat} {gl f : Nat → Int} (hf : P16 f) (i : Nat) : P16 (sg n gl f i) := by
  induction i with
  | zero => exact fun j => vh16 hf n
  | succ i ih => exact fun j => x16 (ih _) (g16 (al16 _))
/-- What stands at the places, taken so. -/
def dg (n : Nat) (gl : Nat → Int) (d : Nat → Int) : Nat → Nat → Int
  | 0 => d
  | i + 1 => fun p => gI (dg n gl d i p) (xI (al (n - 1 - p)) (al (n - 1 - (gl i).toNat)))
theorem dg16 {n : Nat} {gl d : Nat → Int} (hd : P16 d) (i : Nat) : P16 (dg n gl d i) := by
  induction i with
  | zero => exact hd
  | succ i ih => exact fun p => g16 (ih p)
theorem sg_dg {n r : Nat} {gl f c : Nat → Int} (hf : P16 f) (hc : P16 c) (hR : Rt n c r) (i : Nat) : ∀ j, j + i < r → sg n gl f i j = sm n (fun p => gI (dg n gl (addp f c) i p) (pk (al (n - 1 - p)) j)) := by
  induction i with
  | zero =>
    intro j hj
    show vh (al j) n f = _
    have h1 : vh (al j) n (addp f c) = vh (al j) n f := by rw [vh_add (al16 j) n hf hc, hR j (by omega), f6 _ (vh16 hf n).1]
    rw [← h1, vh_al (addp16 hf hc)]
    rfl
  | succ i ih =>
    intro j hj
    show xI (sg n gl f i (j + 1)) (gI (al (n - 1 - (gl i).toNat)) (sg n gl f i j)) = _
    rw [ih (j + 1) (by omega), ih j (by omega), ← sm_mul, ← sm_add]
    refine sm_congr fun p _ => ?_
    have hD := dg16 (n := n) (gl := gl) (addp16 hf hc) i p
    have hp := pk16 (al16 (n - 1 - p)) j
    show xI (gI (dg n gl (addp f c) i p) (gI (pk (al (n - 1 - p)) j) (al (n - 1 - p)))) (gI (al (n - 1 - (gl i).toNat)) (gI (dg n gl (addp f c) i p) (pk (al (n - 1 - p)) j))) = gI (gI (dg n gl (addp f c) i p) (xI (al (n - 1 - p)) (al (n - 1 - (gl i).toNat)))) (pk (al (n - 1 - p)) j)
    rw [g4 hD (x16 (al16 _) (al16 _)), g5 (al16 _) (al16 _) hp, f5, g2 (al16 (n - 1 - p)) hp, g2 (al16 (n - 1 - (gl i).toNat)) hp, g2 (al16 (n - 1 - (gl i).toNat)) (g16 hD), g4 hD hp]
theorem dg_zero {n m : Nat} {gl d : Nat → Int} (hd : P16 d) (hn : n ≤ 60000) (hG : Gn gl m n) {p : Nat} (hp : p < n) : ∀ i, i ≤ m → (dg n gl d i p = 0 ↔ d p = 0 ∨ gon gl i p = true) := by
  intro i
  induction i with
  | zero =>
    intro _
    show d p = 0 ↔ _
    rw [gon_zero]
    simp
  | succ i ih =>
    intro hi
    have h1 := ih (by omega)
    have hg := gl_nat hG (show i < m by omega)
    show gI (dg n gl d i p) (xI (al (n - 1 - p)) (al (n - 1 - (gl i).toNat))) = 0 ↔ _
    rw [gon_succ, Bool.or_eq_true]
    constructor
    · intro h
      by_cases h2 : dg n gl d i p = 0
      · exact (h1.1 h2).imp id .inl
      · by_cases h3 : xI (al (n - 1 - p)) (al (n - 1 - (gl i).toNat)) = 0
        · have h4 := x_eq (al16 _) (al16 _) h3
          have h5 := al_inj (i := n - 1 - p) (j := n - 1 - (gl i).toNat) (by omega) (by omega) h4
          refine .inr (.inr ?_)
          have : gl i = (p : Int) := by omega
          simp [this]
        · exact (f11 _ _ (dg16 hd i p) (x16 (al16 _) (al16 _)) h2 h3 h).elim
    · rintro (h | h | h)
      · rw [h1.2 (.inl h), f12]
      · rw [h1.2 (.inr h), f12]
      · have h2 : gl i = (p : Int) := by simpa using h
        have h3 : (gl i).toNat = p := by omega
        rw [h3, f7, f9]

theorem sm_swap (n m : Nat) (g : Nat → Nat → Int) : sm n (fun i => sm m (fun j => g i j)) = sm m (fun j => sm n (fun i => g i j)) := by
  induction n with
  | zero =>
    show (0 : Int) = sm m (fun _ => 0)
    exact (sm_none fun _ _ => rfl).symm
  | succ n ih =>
    show xI (sm n (fun i => sm m (fun j => g i j))) (sm m (fun j => g n j)) = sm m (fun j => xI (sm n (fun i => g i j)) (g n j))
    rw [ih, ← sm_add]
theorem sm_front (n : Nat) (g : Nat → Int) (hg : ∀ i, 0 ≤ g i ∧ g i ≤ 65535) : sm (n + 1) g = xI (g 0) (sm n (fun i => g (i + 1))) := by
  induction n with
  | zero =>
    show xI 0 (g 0) = xI (g 0) 0
    rw [f1]
  | succ n ih =>
    show xI (sm (n + 1) g) (g (n + 1)) = xI (g 0) (xI (sm n (fun i => g (i + 1))) (g (n + 1)))
    rw [ih, f3]
/-- A polynomial's value as a sum. -/
theorem atp_sm {x : Int} (hx : 0 ≤ x ∧ x ≤ 65535) (n : Nat) {f : Nat → Int} (hf : P16 f) : atp x n f = sm n (fun k => gI (f k) (pk x k)) := by
  induction n generalizing f with
  | zero => rfl
  | succ n ih =>
    rw [sm_front n _ (fun i => g16 (hf i))]
    show xI (gI (atp x n (tl f)) x) (f 0) = xI (gI (f 0) 1) _
    rw [ih (tl16 hf), f8 _ (hf 0).1, f1, g2 (sm16 fun j _ => g16 (tl16 hf j)) hx, ← sm_mul]
    congr 1
    refine sm_congr fun k _ => ?_
    show gI x (gI (f (k + 1)) (pk x k)) = gI (f (k + 1)) (gI (pk x k) x)
    rw [g2 hx (g16 (hf _)), g4 (hf _) (pk16 hx k)]

/-- The numbers of the places. -/
def xa (n : Nat) (i : Nat) : Int := al (n - 1 - i)
theorem xa_inj {n : Nat} (hn : n ≤ 60000) {p q : Nat} (hp : p < n) (hq : q < n) (h : xa n p = xa n q) : p = q := by
  have := al_inj (i := n - 1 - p) (j := n - 1 - q) (by omega) (by omega) h
  omega
theorem Qr_top (xs : List Int) (h : ∀ y ∈ xs, 0 ≤ y ∧ y ≤ 65535) : Qr xs xs.length = 1 := by
  induction xs with
  | nil => rfl
  | cons x xs ih =>
    show xI (if xs.length + 1 = 0 then 0 else Qr xs (xs.length + 1 - 1)) (gI (Qr xs (xs.length + 1)) x) = 1
    rw [if_neg (by omega), show xs.length + 1 - 1 = xs.length from by omega, ih (fun y hy => h y (by simp [hy])), Qr_out xs _ (Nat.le_refl _), f12, f6 _ (by decide)]

section
variable {n r m : Nat} {f gl c : Nat → Int}

/-- The product of z and the numbers of the wrong places. -/
def lam (n : Nat) (gl : Nat → Int) (m : Nat) (f c : Nat → Int) : Nat → Int := Qr ((els n gl m f c).map (xa n))
theorem els_len : (els n gl m f c).length = cnt n (off gl m f c) := cnt_filter n _
theorem off_cln (i : Nat) : off gl m (cln gl m f) c i = off gl m f c i := by
  unfold off cln
  split
  · rfl
  · rfl
theorem lam_val (hn : n ≤ 255) {p : Nat} (hp : p < n) : ev (xa n p) (lam n gl m f c) = 0 ↔ off gl m f c p ≠ 0 := by
  unfold lam
  have hl : (els n gl m f c).length ≤ n := by rw [els_len]; exact cnt_top _ _
  rw [Qr_ev _ (fun y hy => by obtain ⟨i, _, rfl⟩ := List.mem_map.1 hy; exact al16 _) (by rw [List.length_map]; omega) (show 0 ≤ xa n p ∧ xa n p ≤ 65535 from al16 _)]
  constructor
  · intro h
    obtain ⟨i, hi, e⟩ := List.mem_map.1 h
    have h1 := els_mem.1 hi
    rw [← xa_inj (by omega) h1.1 hp e]
    exact h1.2
  · intro h
    exact List.mem_map.2 ⟨p, els_mem.2 ⟨hp, h⟩, rfl⟩

/-- The equations for the wrong places. -/
theorem pet_uq (hf : P16 f) (hn : n ≤ 255) (hG : Gn gl m n) (hN : Near n f r m gl c) :
    Uq (fun j k => sg n gl (cln gl m f) m (j + k)) (r - m - cnt n (off gl m f c)) (cnt n (off gl m f c)) (lam n gl m f c) := by
  have hfew := hN.few
  obtain ⟨e, he⟩ : ∃ e, cnt n (off gl m f c) = e := ⟨_, rfl⟩
  rw [he] at hfew ⊢
  have hcl := cln16 (gl := gl) (m := m) hf
  have hd16 : P16 (addp (cln gl m f) c) := addp16 hcl hN.bd
  obtain ⟨Y, hY⟩ : ∃ Y, dg n gl (addp (cln gl m f) c) m = Y := ⟨_, rfl⟩
  have hY16 : P16 Y := hY ▸ dg16 hd16 m
  have hY0 : ∀ p, p < n → (Y p = 0 ↔ off gl m f c p = 0) := fun p hp => by
    rw [← hY, dg_zero hd16 (by omega) hG hp m (Nat.le_refl _)]
    unfold off
    cases hg : gon gl m p with
    | true => simp
    | false =>
      rw [if_neg (by decide)]
      show xI (cln gl m f p) (c p) = 0 ∨ false = true ↔ _
      have : cln gl m f p = f p := by unfold cln; rw [hg, if_neg (by decide)]
      rw [this]
      simp
  have hS : ∀ j, j + m < r → sg n gl (cln gl m f) m j = sm n (fun p => gI (Y p) (pk (xa n p) j)) := fun j hj => by
    rw [sg_dg hcl hN.bd hN.rt m j hj, hY]
    rfl
  have hlen : (els n gl m f c).length = e := by rw [els_len, he]
  have hl16 : P16 (lam n gl m f c) := Qr16 _
  have hlout : ∀ k, e + 1 ≤ k → lam n gl m f c k = 0 := fun k hk => Qr_out _ k (by rw [List.length_map, hlen]; exact hk)
  have hltop : lam n gl m f c e = 1 := by
    have := Qr_top ((els n gl m f c).map (xa n)) (fun y hy => by obtain ⟨i, _, rfl⟩ := List.mem_map.1 hy; exact al16 _)
    rw [List.length_map, hlen] at this
    exact this
  have he255 : e ≤ 255 := by have := cnt_top n (off gl m f c); omega
  -- a row, times v, is a sum over the places
  have hrow : ∀ (v : Nat → Int), P16 v → ∀ j, j < r - m - e → dot e (fun k => sg n gl (cln gl m f) m (j + k)) v = sm n (fun p => gI (gI (Y p) (atp (xa n p) (e + 1) v)) (pk (xa n p) j)) := fun v hv j hj => by
    unfold dot
    have e1 : sm (e + 1) (fun k => gI (sg n gl (cln gl m f) m (j + k)) (v k)) = sm (e + 1) (fun k => sm n (fun p => gI (gI (Y p) (pk (xa n p) j)) (gI (v k) (pk (xa n p) k)))) := sm_congr fun k hk => by
      rw [hS (j + k) (by omega), g2 (sm16 fun p _ => g16 (hY16 p)) (hv k), ← sm_mul]
      refine sm_congr fun p _ => ?_
      have hx := al16 (n - 1 - p)
      have e2 : pk (xa n p) (j + k) = gI (pk (xa n p) j) (pk (xa n p) k) := by
        unfold xa
        rw [al_pk, al_pk, al_pk, al_nat, al_nat, al_nat, Nat.mul_add, pw_add (by decide)]
        rfl
      show gI (v k) (gI (Y p) (pk (xa n p) (j + k))) = gI (gI (Y p) (pk (xa n p) j)) (gI (v k) (pk (xa n p) k))
      have h1 := pk16 hx j
      have h2 := pk16 hx k
      have h1' : 0 ≤ pk (xa n p) j ∧ pk (xa n p) j ≤ 65535 := h1
      have h2' : 0 ≤ pk (xa n p) k ∧ pk (xa n p) k ≤ 65535 := h2
      rw [e2, ← g4 (hY16 p) h1', ← g4 (hv k) (g16 (hY16 p)), g2 (hv k) (g16 (hY16 p)), g4 (g16 (hY16 p)) (hv k)]
    rw [e1, sm_swap]
    refine sm_congr fun p _ => ?_
    have hx : 0 ≤ xa n p ∧ xa n p ≤ 65535 := al16 (n - 1 - p)
    have hA := atp16 (xa n p) (e + 1) v hv
    show sm (e + 1) (fun k => gI (gI (Y p) (pk (xa n p) j)) (gI (v k) (pk (xa n p) k))) = gI (gI (Y p) (atp (xa n p) (e + 1) v)) (pk (xa n p) j)
    rw [sm_mul, ← atp_sm hx (e + 1) hv, g4 (hY16 p) (pk16 hx j), g2 (pk16 hx j) hA, ← g4 (hY16 p) hA]
  refine ⟨hl16, hltop, fun j hj => ?_, fun v hv hK k hk => ?_⟩
  · show dot e (fun k => sg n gl (cln gl m f) m (j + k)) (lam n gl m f c) = 0
    rw [hrow _ hl16 j hj]
    exact sm_none fun p hp => by
      show gI (gI (Y p) (atp (xa n p) (e + 1) (lam n gl m f c))) _ = 0
      rw [ev_at (xa n p) (by omega) hlout]
      by_cases ho : off gl m f c p = 0
      · rw [(hY0 p hp).2 ho, f12, f12]
      · rw [(lam_val hn hp).2 ho, f9, f12]
  · -- V is 0 at each wrong place
    have hV : ∀ p, p < n → off gl m f c p ≠ 0 → atp (xa n p) (e + 1) v = 0 := by
      have hz := sparse (n := n) (b := xa n) (fun i => al16 _) (fun i j hi hj h => xa_inj (by omega) hi hj h) (r - m - e) (fun p => gI (Y p) (atp (xa n p) (e + 1) v)) (fun p => g16 (hY16 p)) (by
        have h1 := cnt_le (n := n) (d := off gl m f c) (d' := fun p => gI (Y p) (atp (xa n p) (e + 1) v)) (fun p hp h0 => by
          show gI (Y p) _ = 0
          rw [(hY0 p hp).2 h0, f12])
        rw [he] at h1
        omega) (fun j hj => by
        have := hK j hj
        rw [hrow v hv j hj] at this
        exact this)
      intro p hp ho
      have h1 : gI (Y p) (atp (xa n p) (e + 1) v) = 0 := hz p hp
      exact Decidable.byContradiction fun h2 => f11 _ _ (hY16 p) (atp16 _ _ _ hv) (fun h3 => ho ((hY0 p hp).1 h3)) h2 h1
    -- V less its highest coefficient times the product has too many roots
    obtain ⟨V, hVd⟩ : ∃ V : Nat → Int, V = fun k => if k ≤ e then v k else 0 := ⟨_, rfl⟩
    have hV16 : P16 V := fun k => by
      rw [hVd]
      show 0 ≤ (if k ≤ e then v k else 0) ∧ (if k ≤ e then v k else 0) ≤ 65535
      split
      · exact hv k
      · exact z16
    have hVo : ∀ k, e + 1 ≤ k → V k = 0 := fun k hk => by rw [hVd]; exact if_neg (by omega)
    have hVv : ∀ k, k ≤ e → V k = v k := fun k hk => by rw [hVd]; exact if_pos hk
    have hU16 : P16 (addp V (sc (v e) (lam n gl m f c))) := addp16 hV16 (sc16 hl16 _)
    have hUo : ∀ k, e ≤ k → addp V (sc (v e) (lam n gl m f c)) k = 0 := fun k hk => by
      show xI (V k) (gI (lam n gl m f c k) (v e)) = 0
      by_cases h1 : k = e
      · rw [h1, hVv e (Nat.le_refl _), hltop, g2 o16 (hv e), f8 _ (hv e).1, f7]
      · rw [hVo k (by omega), hlout k (by omega), f12, f7]
    have hUr : ∀ p, p < n → off gl m f c p ≠ 0 → ev (xa n p) (addp V (sc (v e) (lam n gl m f c))) = 0 := fun p hp ho => by
      have hx : 0 ≤ xa n p ∧ xa n p ≤ 65535 := al16 (n - 1 - p)
      rw [ev_add hx hV16 (sc16 hl16 _), ev_sc hx (hv e) hl16, (lam_val hn hp).2 ho, f12, ← ev_at (xa n p) (n := e + 1) (by omega) hVo]
      have : atp (xa n p) (e + 1) V = atp (xa n p) (e + 1) v := by
        rw [atp_sm hx _ hV16, atp_sm hx _ hv]
        exact sm_congr fun k hk => by
          show gI (V k) _ = gI (v k) _
          rw [hVv k (by omega)]
      rw [this, hV p hp ho, f7]
    obtain ⟨t, ht, hsh⟩ := shr_ex (addp V (sc (v e) (lam n gl m f c))) e hUo
    have hz : ∀ k, addp V (sc (v e) (lam n gl m f c)) k = 0 := by
      cases t with
      | zero => exact fun k => hsh.2 k (Nat.zero_le _)
      | succ t =>
        exfalso
        have h1 := roots_bound ((els n gl m f c).map (xa n)) _ t hU16 hsh (nodup_map (List.nodup_range.filter _) (fun a ha b hb e => xa_inj (by omega) (els_mem.1 ha).1 (els_mem.1 hb).1 e)) (fun y hy => by
          obtain ⟨i, hi, rfl⟩ := List.mem_map.1 hy
          have h2 := els_mem.1 hi
          exact ⟨al16 _, by rw [ev_at _ (by omega) hsh.2]; exact hUr i h2.1 h2.2⟩)
        rw [List.length_map, hlen] at h1
        omega
    have h3 : xI (V k) (gI (lam n gl m f c k) (v e)) = 0 := hz k
    rw [hVv k hk] at h3
    rw [x_eq (hv k) (g16 (hl16 k)) h3, g2 (hl16 k) (hv e)]

end

/- What stands at some places. -/
theorem sm_lst (g : Nat → Int) (hg : ∀ i, 0 ≤ g i ∧ g i ≤ 65535) (L : List Nat) : sm L.length (fun i => g (L.getD i 0)) = ls g L := by
  induction L with
  | nil => rfl
  | cons x L ih =>
    show sm (L.length + 1) _ = xI (g x) (ls g L)
    rw [sm_front _ _ (fun i => hg _), ← ih]
    rfl
/-- A right word that is as f but at the places A. -/
structure Er (n : Nat) (f : Nat → Int) (r : Nat) (A : List Nat) (c : Nat → Int) : Prop where
  bd : P16 c
  out : ∀ j, n ≤ j → c j = 0
  rt : Rt n c r
  same : ∀ p, p < n → p ∉ A → f p = c p
/-- f with noughts at the places A. -/
def zat (A : List Nat) (f : Nat → Int) : Nat → Int := fun p => if p ∈ A then 0 else f p
theorem zat16 {A : List Nat} {f : Nat → Int} (hf : P16 f) : P16 (zat A f) := fun p => by
  unfold zat
  split
  · exact z16
  · exact hf p
/-- The equations for them. -/
def em (n : Nat) (A : List Nat) (s : Nat → Int) : Nat → Nat → Int := fun j k => if k < A.length then al (j * (n - 1 - A.getD k 0)) else s j
theorem er_uq {n r : Nat} {f c : Nat → Int} {A : List Nat} (hf : P16 f) (hn : n ≤ 255) (hnd : A.Nodup) (hlt : ∀ p ∈ A, p < n) (hl : A.length ≤ r) (h : Er n f r A c) :
    Uq (em n A (fun j => vh (al j) n (zat A f))) r A.length (fun k => if k < A.length then c (A.getD k 0) else 1) := by
  have hz := zat16 (A := A) hf
  have hx16 : P16 (fun k => if k < A.length then c (A.getD k 0) else 1) := fun k => by
    show 0 ≤ (if k < A.length then c (A.getD k 0) else 1) ∧ (if k < A.length then c (A.getD k 0) else 1) ≤ 65535
    split
    · exact h.bd _
    · exact o16
  have hget : ∀ i, i < A.length → A.getD i 0 ∈ A := fun i hi => by rw [List.getD_eq_getElem?_getD, List.getElem?_eq_getElem hi]; exact List.getElem_mem hi
  have hpk : ∀ j p, pk (al (n - 1 - p)) j = al (j * (n - 1 - p)) := fun j p => by rw [al_pk, Nat.mul_comm]
  -- what stands there comes to the sums of the rest
  have hs : ∀ j, j < r → sm A.length (fun i => gI (al (j * (n - 1 - A.getD i 0))) (c (A.getD i 0))) = vh (al j) n (zat A f) := fun j hj => by
    have e1 : vh (al j) n (addp (zat A f) c) = vh (al j) n (zat A f) := by rw [vh_add (al16 j) n hz h.bd, h.rt j hj, f6 _ (vh16 hz n).1]
    rw [← e1, vh_al (addp16 hz h.bd), sm_lst (fun p => gI (al (j * (n - 1 - p))) (c p)) (fun p => g16 (al16 _)) A]
    rw [sm_ls (n := n) A (fun p => gI (addp (zat A f) c p) (pk (al (n - 1 - p)) j)) (fun p => g16 (addp16 hz h.bd p)) hnd hlt (fun p hp hnp => by
      show gI (xI (zat A f p) (c p)) _ = 0
      have : zat A f p = f p := if_neg hnp
      rw [this, h.same p hp hnp, f7, f12])]
    refine ls_congr fun p hp => ?_
    show gI (al (j * (n - 1 - p))) (c p) = gI (xI (zat A f p) (c p)) (pk (al (n - 1 - p)) j)
    have : zat A f p = 0 := if_pos hp
    rw [this, x0 (h.bd p), hpk, g2 (al16 _) (h.bd p)]
  have hdot : ∀ (v : Nat → Int), P16 v → ∀ j, dot A.length (em n A (fun j => vh (al j) n (zat A f)) j) v = xI (sm A.length (fun i => gI (al (j * (n - 1 - A.getD i 0))) (v i))) (gI (vh (al j) n (zat A f)) (v A.length)) := fun v hv j => by
    show xI (sm A.length _) (gI (em n A (fun j => vh (al j) n (zat A f)) j A.length) (v A.length)) = _
    congr 1
    · exact sm_congr fun i hi => by
        show gI (if i < A.length then al (j * (n - 1 - A.getD i 0)) else _) (v i) = _
        rw [if_pos hi]
    · show gI (if A.length < A.length then _ else vh (al j) n (zat A f)) (v A.length) = _
      rw [if_neg (by omega)]
  refine ⟨hx16, if_neg (by omega), fun j hj => ?_, fun v hv hK k hk => ?_⟩
  · rw [hdot _ hx16 j]
    show xI _ (gI _ (if A.length < A.length then _ else 1)) = 0
    rw [if_neg (by omega), f8 _ (vh16 hz n).1]
    have e1 : sm A.length (fun i => gI (al (j * (n - 1 - A.getD i 0))) (if i < A.length then c (A.getD i 0) else 1)) = sm A.length (fun i => gI (al (j * (n - 1 - A.getD i 0))) (c (A.getD i 0))) := sm_congr fun i hi => by
      show gI _ (if i < A.length then c (A.getD i 0) else 1) = _
      rw [if_pos hi]
    rw [e1, hs j hj, f7]
  · by_cases hkl : k < A.length
    · have hu16 : P16 (fun i => xI (v i) (gI (v A.length) (c (A.getD i 0)))) := fun i => x16 (hv i) (g16 (hv _))
      have h0 := sparse (n := A.length) (b := fun i => al (n - 1 - A.getD i 0)) (fun i => al16 _) (fun i j hi hj e => by
        have h1 := hlt _ (hget i hi)
        have h2 := hlt _ (hget j hj)
        have e1 := al_inj (i := n - 1 - A.getD i 0) (j := n - 1 - A.getD j 0) (by omega) (by omega) e
        have e2 : A.getD i 0 = A.getD j 0 := by omega
        rw [List.getD_eq_getElem?_getD, List.getElem?_eq_getElem hi, List.getD_eq_getElem?_getD, List.getElem?_eq_getElem hj] at e2
        exact (List.getElem_inj hnd).1 e2) r (fun i => xI (v i) (gI (v A.length) (c (A.getD i 0)))) hu16 (Nat.le_trans (cnt_top _ _) hl) (fun j hj => by
        have h1 := hK j hj
        rw [hdot v hv j, ← hs j hj, g2 (sm16 fun i _ => g16 (al16 _)) (hv _), ← sm_mul, ← sm_add] at h1
        rw [← h1]
        refine sm_congr fun i _ => ?_
        show gI (xI (v i) (gI (v A.length) (c (A.getD i 0)))) (pk (al (n - 1 - A.getD i 0)) j) = xI (gI (al (j * (n - 1 - A.getD i 0))) (v i)) (gI (v A.length) (gI (al (j * (n - 1 - A.getD i 0))) (c (A.getD i 0))))
        have ha := al16 (j * (n - 1 - A.getD i 0))
        rw [hpk, g5 (hv i) (g16 (hv _)) ha, g2 (hv i) ha, g4 (hv _) (h.bd _), g2 (h.bd _) ha])
      have h1 : xI (v k) (gI (v A.length) (c (A.getD k 0))) = 0 := h0 k hkl
      show v k = gI (v A.length) (if k < A.length then c (A.getD k 0) else 1)
      rw [if_pos hkl]
      exact x_eq (hv k) (g16 (hv _)) h1
    · obtain rfl : k = A.length := by omega
      show v A.length = gI (v A.length) (if A.length < A.length then _ else 1)
      rw [if_neg (by omega), f8 _ (hv _).1]

end Go.Proofs.Ytdbdidohldhnhaa
