/- AES-256: blocks as rows of 16 bytes: replaced, taken to the left, mixed, combined; what undoes each. No condition but lengths: pure arithmetic on bytes and lists. -/
import Derived.Test.YtllhnbnddcghoaaAMath
namespace Go.Proofs.Ytllhnbnddcghoaa.Bk
set_option linter.unusedVariables false
set_option linter.unusedSimpArgs false

theorem gy_ext {a b : List UInt8} {n : Nat} (ha : a.length = n) (hb : b.length = n) (h : ∀ j, j < n → gy a j = gy b j) : a = b := by
  apply List.ext_getElem (by omega)
  intro i h1 h2
  have := h i (by omega)
  simpa [gy, h1, h2] using this
theorem gy_get {l : List UInt8} {j : Nat} (h : j < l.length) : l[j]? = some (gy l j) := by simp [gy, h]
theorem gy_map {f : UInt8 → UInt8} {l : List UInt8} {j : Nat} (h : j < l.length) : gy (l.map f) j = f (gy l j) := by simp [gy, h]
theorem gy_range {f : Nat → UInt8} {n j : Nat} (h : j < n) : gy ((List.range n).map f) j = f j := by simp [gy, h]
theorem gy_drop (l : List UInt8) (k j : Nat) : gy (l.drop k) j = gy l (k + j) := by simp [gy, List.getD_eq_getElem?_getD, List.getElem?_drop]
theorem gy_take (l : List UInt8) (k j : Nat) (h : j < k) : gy (l.take k) j = gy l j := by simp [gy, List.getD_eq_getElem?_getD, h]
theorem gy_app (a b : List UInt8) (j : Nat) (h : j < a.length) : gy (a ++ b) j = gy a j := by simp [gy, List.getD_eq_getElem?_getD, List.getElem?_append_left h]
theorem gy_app2 (a b : List UInt8) (j : Nat) (h : a.length ≤ j) : gy (a ++ b) j = gy b (j - a.length) := by simp [gy, List.getD_eq_getElem?_getD, List.getElem?_append_right h]
theorem gy_set (l : List UInt8) (i j : Nat) (x : UInt8) (h : i < l.length) : gy (l.set i x) j = if j = i then x else gy l j := by
  unfold gy
  simp only [List.getD_eq_getElem?_getD, List.getElem?_set]
  by_cases e : i = j
  · subst e; simp [h]
  · rw [if_neg e, if_neg (fun k => e k.symm)]
theorem gy_zero (n j : Nat) : gy (List.replicate n 0) j = 0 := by
  simp only [gy, List.getD_eq_getElem?_getD, List.getElem?_replicate]
  split <;> rfl

/-- Some of a row's first bytes are others already. -/
def mixd (R s : List UInt8) (n : Nat) : List UInt8 := R.take n ++ s.drop n
theorem mixd_length {R s : List UInt8} {m : Nat} (hR : R.length = m) (hs : s.length = m) (n : Nat) (h : n ≤ m) : (mixd R s n).length = m := by simp [mixd]; omega
theorem mixd_zero (R s : List UInt8) : mixd R s 0 = s := by simp [mixd]
theorem mixd_all {R s : List UInt8} {m : Nat} (hR : R.length = m) (hs : s.length = m) : mixd R s m = R := by simp [mixd, ← hR]; omega
theorem gy_mixd {R s : List UInt8} {m n : Nat} (hR : R.length = m) (hs : s.length = m) (h : n ≤ m) (j : Nat) : gy (mixd R s n) j = if j < n then gy R j else gy s j := by
  unfold mixd
  by_cases e : j < n
  · rw [if_pos e, gy_app _ _ _ (by simp; omega), gy_take _ _ _ e]
  · rw [if_neg e, gy_app2 _ _ _ (by simp; omega), gy_drop]
    congr 1
    simp; omega
theorem mixd_set {R s : List UInt8} {m n : Nat} (hR : R.length = m) (hs : s.length = m) (h : n < m) : (mixd R s n).set n (gy R n) = mixd R s (n + 1) := by
  refine gy_ext (n := m) (by rw [List.length_set, mixd_length hR hs _ (by omega)]) (mixd_length hR hs _ (by omega)) fun j _ => ?_
  rw [gy_set _ _ _ _ (by rw [mixd_length hR hs _ (by omega)]; exact h), gy_mixd hR hs (by omega), gy_mixd hR hs (by omega)]
  by_cases e : j = n
  · subst e; simp
  · rw [if_neg e]
    by_cases e2 : j < n
    · rw [if_pos e2, if_pos (by omega)]
    · rw [if_neg e2, if_neg (by omega)]

/-- Replaced; combined; rows taken to the left; columns put together. -/
def repl (T s : List UInt8) : List UInt8 := s.map fun x => gy T x.toNat
def comb (s k : List UInt8) : List UInt8 := List.zipWith (fun a b => a ^^^ b) s k
def shf (t : Nat) (s : List UInt8) : List UInt8 := (List.range 16).map fun j => gy s (4 * ((j / 4 + t * (j % 4)) % 4) + j % 4)
def mixP (f s : List UInt8) (i r : Nat) : Nat → UInt8
  | 0 => 0
  | n + 1 => mixP f s i r n ^^^ mu (gy s (4 * i + n)) (gy f ((n + 4 - r) % 4))
def mixS (f s : List UInt8) : List UInt8 := (List.range 16).map fun j => mixP f s (j / 4) (j % 4) 4
theorem repl_length (T s : List UInt8) : (repl T s).length = s.length := by simp [repl]
theorem comb_length {s k : List UInt8} {n : Nat} (h : s.length = n) (h2 : k.length = n) : (comb s k).length = n := by simp [comb, h, h2]
theorem shf_length (t : Nat) (s : List UInt8) : (shf t s).length = 16 := by simp [shf]
theorem mixS_length (f s : List UInt8) : (mixS f s).length = 16 := by simp [mixS]
theorem gy_repl {T s : List UInt8} {j : Nat} (h : j < s.length) : gy (repl T s) j = gy T (gy s j).toNat := gy_map h
theorem gy_comb {s k : List UInt8} {j : Nat} (h : j < s.length) (h2 : j < k.length) : gy (comb s k) j = gy s j ^^^ gy k j := by simp [gy, comb, h, h2, List.getElem?_zipWith]
theorem gy_shf (t : Nat) (s : List UInt8) {j : Nat} (h : j < 16) : gy (shf t s) j = gy s (4 * ((j / 4 + t * (j % 4)) % 4) + j % 4) := gy_range h
theorem gy_mixS (f s : List UInt8) {j : Nat} (h : j < 16) : gy (mixS f s) j = mixP f s (j / 4) (j % 4) 4 := gy_range h
theorem comb_drop (s k : List UInt8) (n : Nat) : (comb s k).drop n = comb (s.drop n) (k.drop n) := List.drop_zipWith
theorem comb_take (s k : List UInt8) (n : Nat) : (comb s k).take n = comb (s.take n) (k.take n) := List.take_zipWith
theorem repl_drop (T s : List UInt8) (n : Nat) : (repl T s).drop n = repl T (s.drop n) := by simp [repl, List.map_drop]
theorem repl_take (T s : List UInt8) (n : Nat) : (repl T s).take n = repl T (s.take n) := by simp [repl, List.map_take]

/-- What undoes what. -/
theorem comb_comb {s k : List UInt8} (h : s.length = k.length) : comb (comb s k) k = s := by
  refine gy_ext (n := s.length) (comb_length (comb_length rfl h.symm) h.symm) rfl fun j hj => ?_
  have hl : (comb s k).length = s.length := comb_length rfl h.symm
  rw [gy_comb (by omega) (by omega), gy_comb hj (by omega), UInt8.xor_assoc, UInt8.xor_self, UInt8.xor_zero]
theorem repl_repl {T U s : List UInt8} (h : ∀ x : UInt8, gy U (gy T x.toNat).toNat = x) : repl U (repl T s) = s := by
  unfold repl
  rw [List.map_map]
  refine (List.map_congr_left fun x _ => ?_).trans (List.map_id s)
  exact h x
theorem shf_shf {s : List UInt8} (t u : Nat) (h : s.length = 16) (hi : ∀ j, j < 16 → (4 * ((j / 4 + u * (j % 4)) % 4) + j % 4) < 16 ∧ 4 * (((4 * ((j / 4 + u * (j % 4)) % 4) + j % 4) / 4 + t * ((4 * ((j / 4 + u * (j % 4)) % 4) + j % 4) % 4)) % 4) + (4 * ((j / 4 + u * (j % 4)) % 4) + j % 4) % 4 = j) : shf u (shf t s) = s := by
  refine gy_ext (n := 16) (shf_length _ _) h fun j hj => ?_
  rw [gy_shf _ _ hj, gy_shf _ _ (hi j hj).1, (hi j hj).2]
theorem shf13 {s : List UInt8} (h : s.length = 16) : shf 3 (shf 1 s) = s := shf_shf 1 3 h (by decide)
theorem shf31 {s : List UInt8} (h : s.length = 16) : shf 1 (shf 3 s) = s := shf_shf 3 1 h (by decide)

theorem mu_zero (f : UInt8) : mu 0 f = 0 := by
  have h := mu_xor 0 0 f
  rw [UInt8.xor_self] at h
  rw [h, UInt8.xor_self]
def fE : List UInt8 := [2, 3, 1, 1]
def fD : List UInt8 := [14, 11, 13, 9]
/-- What a byte at j of a column comes to at q, mixed and mixed back. -/
def bck (f d : List UInt8) (x : UInt8) (j q : Nat) : UInt8 :=
  ((mu (mu x (gy f ((j + 4 - 0) % 4))) (gy d ((0 + 4 - q) % 4)) ^^^ mu (mu x (gy f ((j + 4 - 1) % 4))) (gy d ((1 + 4 - q) % 4))) ^^^ mu (mu x (gy f ((j + 4 - 2) % 4))) (gy d ((2 + 4 - q) % 4))) ^^^ mu (mu x (gy f ((j + 4 - 3) % 4))) (gy d ((3 + 4 - q) % 4))
def okB (f d : List UInt8) : Bool := (List.range 256).all fun x => (List.range 4).all fun j => (List.range 4).all fun q => bck f d (UInt8.ofNat x) j q == if j = q then UInt8.ofNat x else 0
theorem okED : okB fE fD = true := by decide +kernel
theorem okDE : okB fD fE = true := by decide +kernel
theorem bck_is {f d : List UInt8} (h : okB f d = true) (x : UInt8) {j q : Nat} (hj : j < 4) (hq : q < 4) : bck f d x j q = if j = q then x else 0 := by
  unfold okB at h
  rw [List.all_eq_true] at h
  have h1 := h x.toNat (List.mem_range.2 (UInt8.toNat_lt x))
  rw [List.all_eq_true] at h1
  have h2 := h1 j (List.mem_range.2 hj)
  rw [List.all_eq_true] at h2
  have h3 := h2 q (List.mem_range.2 hq)
  rw [u8_of] at h3
  exact eq_of_beq h3
theorem mix_bck (f d s : List UInt8) (i q : Nat) : ((((0 ^^^ mu (mixP f s i 0 4) (gy d ((0 + 4 - q) % 4))) ^^^ mu (mixP f s i 1 4) (gy d ((1 + 4 - q) % 4))) ^^^ mu (mixP f s i 2 4) (gy d ((2 + 4 - q) % 4))) ^^^ mu (mixP f s i 3 4) (gy d ((3 + 4 - q) % 4))) =
    ((bck f d (gy s (4 * i + 0)) 0 q ^^^ bck f d (gy s (4 * i + 1)) 1 q) ^^^ bck f d (gy s (4 * i + 2)) 2 q) ^^^ bck f d (gy s (4 * i + 3)) 3 q := by
  simp only [mixP, mu_xor, UInt8.zero_xor, bck]
  ac_rfl
theorem mix_mix {f d s : List UInt8} (h : okB f d = true) (hs : s.length = 16) : mixS d (mixS f s) = s := by
  refine gy_ext (n := 16) (mixS_length _ _) hs fun j hj => ?_
  have e : ∀ r, r < 4 → gy (mixS f s) (4 * (j / 4) + r) = mixP f s (j / 4) r 4 := fun r hr => by
    rw [gy_mixS _ _ (by omega), show (4 * (j / 4) + r) / 4 = j / 4 by omega, show (4 * (j / 4) + r) % 4 = r by omega]
  have hq : j % 4 < 4 := by omega
  have hj4 : 4 * (j / 4) + j % 4 = j := by omega
  rw [gy_mixS _ _ hj]
  have hm : mixP d (mixS f s) (j / 4) (j % 4) 4 = ((((0 ^^^ mu (gy (mixS f s) (4 * (j / 4) + 0)) (gy d ((0 + 4 - j % 4) % 4))) ^^^ mu (gy (mixS f s) (4 * (j / 4) + 1)) (gy d ((1 + 4 - j % 4) % 4))) ^^^ mu (gy (mixS f s) (4 * (j / 4) + 2)) (gy d ((2 + 4 - j % 4) % 4))) ^^^ mu (gy (mixS f s) (4 * (j / 4) + 3)) (gy d ((3 + 4 - j % 4) % 4))) := rfl
  rw [hm, e 0 (by omega), e 1 (by omega), e 2 (by omega), e 3 (by omega), mix_bck, bck_is h _ (by omega) hq, bck_is h _ (by omega) hq, bck_is h _ (by omega) hq, bck_is h _ (by omega) hq]
  have hc : j % 4 = 0 ∨ j % 4 = 1 ∨ j % 4 = 2 ∨ j % 4 = 3 := by omega
  rcases hc with c | c | c | c <;> rw [c] at hj4 ⊢ <;> simp [hj4]
end Go.Proofs.Ytllhnbnddcghoaa.Bk
