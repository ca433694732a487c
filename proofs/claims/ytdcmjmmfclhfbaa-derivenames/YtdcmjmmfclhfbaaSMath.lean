/- SHA-256 in plain numbers: turns, the numbers w of a block, 64 steps, a block taken in, the digest of a row of bytes, and by a key. No condition: pure arithmetic on Nat and lists. -/
import Derived.Test.YtdcmjmmfclhfbaaBMath
namespace Go.Proofs.Ytdcmjmmfclhfbaa.Bk

def tu (n x : Nat) : Nat := rr (2 ^ (32 - n)) (2 ^ n) x
theorem tu_lt {n x : Nat} (h : x < 4294967296) : tu n x < 4294967296 := rr_lt h
def sE (e : Nat) : Nat := (tu 6 e ^^^ tu 11 e) ^^^ tu 25 e
def sA (a : Nat) : Nat := (tu 2 a ^^^ tu 13 a) ^^^ tu 22 a
def sF (x : Nat) : Nat := (tu 7 x ^^^ tu 18 x) ^^^ (x / 8)
def sN (x : Nat) : Nat := (tu 17 x ^^^ tu 19 x) ^^^ (x / 1024)
def sch (e f g : Nat) : Nat := (e &&& f) ^^^ ((4294967295 - e) &&& g)
def smj (a b c : Nat) : Nat := ((a &&& b) ^^^ (a &&& c)) ^^^ (b &&& c)
def sx (e f g h k w : Nat) : Nat := ad (ad (ad (ad h (sE e)) (sch e f g)) k) w
def sy (a b c : Nat) : Nat := ad (sA a) (smj a b c)
theorem sx_lt (e f g h k w : Nat) : sx e f g h k w < 4294967296 := ad_lt _ _
theorem sy_lt (a b c : Nat) : sy a b c < 4294967296 := ad_lt _ _

/-- One of the 64 steps. -/
def ss1 (v : List Nat) (k w : Nat) : List Nat :=
  let x := sx (at' v 4) (at' v 5) (at' v 6) (at' v 7) k w
  [ad x (sy (at' v 0) (at' v 1) (at' v 2)), at' v 0, at' v 1, at' v 2, ad (at' v 3) x, at' v 4, at' v 5, at' v 6]
theorem ss1_length (v : List Nat) (k w : Nat) : (ss1 v k w).length = 8 := rfl
theorem lt_cons {x : Nat} {l : List Nat} (h : x < 4294967296) (k : Lt l) : Lt (x :: l) := by
  intro j
  cases j with
  | zero => exact h
  | succ j => exact k j
theorem lt_nil : Lt [] := fun j => by show at' [] j < _; simp [at']
theorem ss1_lt {v : List Nat} (h : Lt v) (k w : Nat) : Lt (ss1 v k w) :=
  lt_cons (ad_lt _ _) (lt_cons (h 0) (lt_cons (h 1) (lt_cons (h 2) (lt_cons (ad_lt _ _) (lt_cons (h 4) (lt_cons (h 5) (lt_cons (h 6) lt_nil)))))))
def srd (K W v : List Nat) : Nat → List Nat
  | 0 => v
  | i + 1 => ss1 (srd K W v i) (at' K i) (at' W i)
theorem srd_length {v : List Nat} (h : v.length = 8) (K W : List Nat) (i : Nat) : (srd K W v i).length = 8 := by
  cases i with
  | zero => exact h
  | succ i => rfl
theorem srd_lt {v : List Nat} (h : Lt v) (K W : List Nat) (i : Nat) : Lt (srd K W v i) := by
  induction i with
  | zero => exact h
  | succ i ih => exact ss1_lt ih _ _

/-- The numbers w: sixteen, and 48 more. -/
def swn (l : List Nat) (i : Nat) : Nat := ad (ad (ad (at' l (i - 16)) (at' l (i - 7))) (sF (at' l (i - 15)))) (sN (at' l (i - 2)))
def swl (m : List Nat) : Nat → List Nat
  | 0 => m
  | i + 1 => swl m i ++ [swn (swl m i) (16 + i)]
theorem swl_length {m : List Nat} (h : m.length = 16) (i : Nat) : (swl m i).length = 16 + i := by
  induction i with
  | zero => exact h
  | succ i ih => show (swl m i ++ _).length = _; rw [List.length_append, ih]; rfl
theorem at_app (l x : List Nat) (j : Nat) (h : j < l.length) : at' (l ++ x) j = at' l j := by
  simp [at', List.getD_eq_getElem?_getD, List.getElem?_append_left h]
theorem at_app2 (l x : List Nat) (j : Nat) (h : l.length ≤ j) : at' (l ++ x) j = at' x (j - l.length) := by
  simp [at', List.getD_eq_getElem?_getD, List.getElem?_append_right h]
theorem swl_keep {m : List Nat} (h : m.length = 16) (i k j : Nat) (hj : j < 16 + i) : at' (swl m (i + k)) j = at' (swl m i) j := by
  induction k with
  | zero => rfl
  | succ k ih =>
    show at' (swl m (i + k) ++ _) j = _
    rw [at_app _ _ _ (by rw [swl_length h]; omega), ih]
theorem swl_low {m : List Nat} (h : m.length = 16) (n j : Nat) (hj : j < 16) : at' (swl m n) j = at' m j := by
  have := swl_keep h 0 n j (by omega)
  rwa [Nat.zero_add] at this
theorem one_at (y : Nat) : at' [y] 0 = y := rfl
theorem swl_at {m : List Nat} (h : m.length = 16) (n i : Nat) (hi : i < n) : at' (swl m n) (16 + i) = swn (swl m n) (16 + i) := by
  have e1 : at' (swl m n) (16 + i) = at' (swl m (i + 1)) (16 + i) := by
    have := swl_keep h (i + 1) (n - (i + 1)) (16 + i) (by omega)
    rwa [show i + 1 + (n - (i + 1)) = n by omega] at this
  have e2 : ∀ j, j < 16 + i → at' (swl m n) j = at' (swl m i) j := fun j hj => by
    have := swl_keep h i (n - i) j hj
    rwa [show i + (n - i) = n by omega] at this
  rw [e1]
  show at' (swl m i ++ _) (16 + i) = _
  rw [at_app2 _ _ _ (by rw [swl_length h]; omega), swl_length h, Nat.sub_self, one_at]
  unfold swn
  rw [e2 _ (by omega), e2 _ (by omega), e2 _ (by omega), e2 _ (by omega)]
theorem swn_lt (l : List Nat) (i : Nat) : swn l i < 4294967296 := ad_lt _ _
theorem swl_lt {m : List Nat} (h : m.length = 16) (l : Lt m) (n : Nat) : Lt (swl m n) := by
  intro j
  by_cases h1 : j < 16
  · rw [swl_low h n j h1]; exact l j
  · by_cases h2 : j < 16 + n
    · obtain ⟨i, rfl⟩ : ∃ i, j = 16 + i := ⟨j - 16, by omega⟩
      rw [swl_at h n i (by omega)]; exact swn_lt _ _
    · rw [at_out (by rw [swl_length h]; omega)]; decide

/-- A block taken in. -/
def scmp (K h m : List Nat) : List Nat := List.zipWith ad h (srd K (swl m 48) h 64)
theorem zip_at (f : Nat → Nat → Nat) : ∀ (l k : List Nat) (j : Nat), j < l.length → j < k.length → at' (List.zipWith f l k) j = f (at' l j) (at' k j)
  | [], _, _, h, _ => (by simp at h)
  | _ :: _, [], _, _, h => (by simp at h)
  | a :: l, b :: k, 0, _, _ => rfl
  | a :: l, b :: k, j + 1, h1, h2 => by
    have := zip_at f l k j (by simpa using h1) (by simpa using h2)
    simpa [at'] using this
theorem scmp_length {h : List Nat} (h8 : h.length = 8) (K m : List Nat) : (scmp K h m).length = 8 := by
  unfold scmp; rw [List.length_zipWith, h8, srd_length h8]; rfl
theorem scmp_at {h : List Nat} (h8 : h.length = 8) (K m : List Nat) (j : Nat) (hj : j < 8) : at' (scmp K h m) j = ad (at' h j) (at' (srd K (swl m 48) h 64) j) :=
  zip_at ad _ _ _ (by omega) (by rw [srd_length h8]; exact hj)
theorem scmp_lt {h : List Nat} (h8 : h.length = 8) (K m : List Nat) : Lt (scmp K h m) := by
  intro j
  by_cases hj : j < 8
  · rw [scmp_at h8 K m j hj]; exact ad_lt _ _
  · rw [at_out (by rw [scmp_length h8]; omega)]; decide

/-- A number of four bytes, the highest first; the sixteen of a block. -/
def bnum (l : List UInt8) (i : Nat) : Nat := 16777216 * by' l (4 * i) + 65536 * by' l (4 * i + 1) + 256 * by' l (4 * i + 2) + by' l (4 * i + 3)
theorem bnum_lt (l : List UInt8) (i : Nat) : bnum l i < 4294967296 := by
  have h0 := by_lt l (4 * i)
  have h1 := by_lt l (4 * i + 1)
  have h2 := by_lt l (4 * i + 2)
  have h3 := by_lt l (4 * i + 3)
  unfold bnum; omega
def bnums (l : List UInt8) : List Nat := tab 16 (bnum l)
theorem bnums_lt (l : List UInt8) : Lt (bnums l) := tab_lt fun j _ => bnum_lt l j
theorem bnums_length (l : List UInt8) : (bnums l).length = 16 := tab_length _ _
theorem bnums_ext {l k : List UInt8} (h : ∀ j, j < 64 → by' l j = by' k j) : bnums l = bnums k := by
  apply tab_ext
  intro j hj
  unfold bnum
  rw [h _ (by omega), h _ (by omega), h _ (by omega), h _ (by omega)]

/-- The numbers behind the first q blocks of l. -/
def sst (K h : List Nat) (l : List UInt8) : Nat → List Nat
  | 0 => h
  | q + 1 => scmp K (sst K h l q) (bnums (l.drop (64 * q)))
theorem sst_length {h : List Nat} (h8 : h.length = 8) (K : List Nat) (l : List UInt8) (q : Nat) : (sst K h l q).length = 8 := by
  induction q with
  | zero => exact h8
  | succ q ih => exact scmp_length ih _ _
theorem sst_lt {h : List Nat} (h8 : h.length = 8) (hh : Lt h) (K : List Nat) (l : List UInt8) (q : Nat) : Lt (sst K h l q) := by
  cases q with
  | zero => exact hh
  | succ q => exact scmp_lt (sst_length h8 _ _ _) _ _
theorem sst_app (K h : List Nat) (l x : List UInt8) (q : Nat) (hq : 64 * q ≤ l.length) : sst K h (l ++ x) q = sst K h l q := by
  induction q with
  | zero => rfl
  | succ q ih =>
    show scmp K _ _ = scmp K _ _
    rw [ih (by omega), bnums_ext (l := (l ++ x).drop (64 * q)) (k := l.drop (64 * q))]
    intro j hj
    rw [by_drop, by_drop, by_app _ _ _ (by omega)]

/-- What so many bytes are filled up by; the digest's bytes; the digest. -/
def sfill (n : Nat) : List UInt8 :=
  128 :: (List.replicate (63 - (n + 8) % 64) 0 ++
    [UInt8.ofNat (n * 8 / 72057594037927936 % 256), UInt8.ofNat (n * 8 / 281474976710656 % 256), UInt8.ofNat (n * 8 / 1099511627776 % 256), UInt8.ofNat (n * 8 / 4294967296 % 256),
     UInt8.ofNat (n * 8 / 16777216 % 256), UInt8.ofNat (n * 8 / 65536 % 256), UInt8.ofNat (n * 8 / 256 % 256), UInt8.ofNat (n * 8 % 256)])
theorem sfill_length (n : Nat) : (sfill n).length = 72 - (n + 8) % 64 := by unfold sfill; simp; omega
theorem sfill_whole (n : Nat) : (n + (sfill n).length) % 64 = 0 := by rw [sfill_length]; omega
def sdig (h : List Nat) : Nat → List UInt8
  | 0 => []
  | i + 1 => sdig h i ++ [UInt8.ofNat (at' h i / 16777216 % 256), UInt8.ofNat (at' h i / 65536 % 256), UInt8.ofNat (at' h i / 256 % 256), UInt8.ofNat (at' h i % 256)]
theorem sdig_length (h : List Nat) (i : Nat) : (sdig h i).length = 4 * i := by
  induction i with
  | zero => rfl
  | succ i ih => show (sdig h i ++ _).length = _; rw [List.length_append, ih]; simp; omega
def siv : List Nat := [1779033703, 3144134277, 1013904242, 2773480762, 1359893119, 2600822924, 528734635, 1541459225]
def skc : List Nat := [1116352408, 1899447441, 3049323471, 3921009573, 961987163, 1508970993, 2453635748, 2870763221, 3624381080, 310598401, 607225278, 1426881987, 1925078388, 2162078206, 2614888103, 3248222580, 3835390401, 4022224774, 264347078, 604807628, 770255983, 1249150122, 1555081692, 1996064986, 2554220882, 2821834349, 2952996808, 3210313671, 3336571891, 3584528711, 113926993, 338241895, 666307205, 773529912, 1294757372, 1396182291, 1695183700, 1986661051, 2177026350, 2456956037, 2730485921, 2820302411, 3259730800, 3345764771, 3516065817, 3600352804, 4094571909, 275423344, 430227734, 506948616, 659060556, 883997877, 958139571, 1322822218, 1537002063, 1747873779, 1955562222, 2024104815, 2227730452, 2361852424, 2428436474, 2756734187, 3204031479, 3329325298]
def sfin (l : List UInt8) : List Nat := sst skc siv (l ++ sfill l.length) ((l ++ sfill l.length).length / 64)
def ssum (l : List UInt8) : List UInt8 := sdig (sfin l) 8
theorem ssum_length (l : List UInt8) : (ssum l).length = 32 := sdig_length _ _
theorem siv_length : siv.length = 8 := rfl
theorem siv_lt : Lt siv := by
  intro j
  by_cases h : j < 8
  · simpa using all_of (p := fun j => decide (at' siv j < 4294967296)) 8 (by decide +kernel) j h
  · rw [at_out (by simpa [siv] using h)]; decide
theorem skc_length : skc.length = 64 := rfl
theorem skc_lt : Lt skc := by
  intro j
  by_cases h : j < 64
  · simpa using all_of (p := fun j => decide (at' skc j < 4294967296)) 64 (by decide +kernel) j h
  · rw [at_out (by simpa [skc] using h)]; decide

/-- A key, filled up, each byte combined; by a key. -/
def scmb (k : List UInt8) (c : UInt8) : List UInt8 := (k ++ List.replicate (64 - k.length) 0).map (· ^^^ c)
theorem scmb_length (k : List UInt8) (c : UInt8) (h : k.length ≤ 64) : (scmb k c).length = 64 := by unfold scmb; simp; omega
def skey (k : List UInt8) : List UInt8 := if 64 < k.length then ssum k else k
theorem skey_length (k : List UInt8) : (skey k).length ≤ 64 := by
  unfold skey
  split
  · rw [ssum_length]; decide
  · omega
def shmac (k s : List UInt8) : List UInt8 := ssum (scmb (skey k) 92 ++ ssum (scmb (skey k) 54 ++ s))
theorem shmac_length (k s : List UInt8) : (shmac k s).length = 32 := ssum_length _
end Go.Proofs.Ytdcmjmmfclhfbaa.Bk
