/- AES-256: all bytes' inverses and stand-ins, as the program reckons them, and the other way about: closed tables; a cipher's rounds, there and back. No condition but lengths: pure arithmetic on bytes and lists. -/
import Derived.Test.YtllhnbnddcghoaaAList
namespace Go.Proofs.Ytllhnbnddcghoaa.Bk
set_option linter.unusedVariables false
set_option linter.unusedSimpArgs false

/-- A byte turned by n. -/
def rot (n : Nat) (a : UInt8) : UInt8 := UInt8.ofNat ((a.toNat * 2 ^ n % 256) ||| (a.toNat / 2 ^ (8 - n)))
def sbf (i : UInt8) : UInt8 := ((((i ^^^ rot 1 i) ^^^ rot 2 i) ^^^ rot 3 i) ^^^ rot 4 i) ^^^ 99
/-- The table behind k powers of 3, the next power, and its inverse. -/
def ivs : Nat → List UInt8 × UInt8 × UInt8
  | 0 => (List.replicate 256 0, 1, 1)
  | k + 1 => ((ivs k).1.set (ivs k).2.1.toNat (ivs k).2.2, mu (ivs k).2.1 3, mu (ivs k).2.2 246)
theorem ivs_length : ∀ k, (ivs k).1.length = 256
  | 0 => List.length_replicate
  | k + 1 => by
    show ((ivs k).1.set _ _).length = 256
    rw [List.length_set]; exact ivs_length k
def IV : List UInt8 := (ivs 255).1
def SB : List UInt8 := IV.map sbf
theorem SB_length : SB.length = 256 := by unfold SB IV; rw [List.length_map]; exact ivs_length 255
def obs : Nat → List UInt8
  | 0 => List.replicate 256 0
  | k + 1 => (obs k).set (gy SB k).toNat (UInt8.ofNat k)
theorem obs_length : ∀ k, (obs k).length = 256
  | 0 => List.length_replicate
  | k + 1 => by
    show ((obs k).set _ _).length = 256
    rw [List.length_set]; exact obs_length k
def OB : List UInt8 := obs 256
theorem OB_length : OB.length = 256 := obs_length 256
def SBn : List Nat := [99, 124, 119, 123, 242, 107, 111, 197, 48, 1, 103, 43, 254, 215, 171, 118, 202, 130, 201, 125, 250, 89, 71, 240, 173, 212, 162, 175, 156, 164, 114, 192, 183, 253, 147, 38, 54, 63, 247, 204, 52, 165, 229, 241, 113, 216, 49, 21, 4, 199, 35, 195, 24, 150, 5, 154, 7, 18, 128, 226, 235, 39, 178, 117, 9, 131, 44, 26, 27, 110, 90, 160, 82, 59, 214, 179, 41, 227, 47, 132, 83, 209, 0, 237, 32, 252, 177, 91, 106, 203, 190, 57, 74, 76, 88, 207, 208, 239, 170, 251, 67, 77, 51, 133, 69, 249, 2, 127, 80, 60, 159, 168, 81, 163, 64, 143, 146, 157, 56, 245, 188, 182, 218, 33, 16, 255, 243, 210, 205, 12, 19, 236, 95, 151, 68, 23, 196, 167, 126, 61, 100, 93, 25, 115, 96, 129, 79, 220, 34, 42, 144, 136, 70, 238, 184, 20, 222, 94, 11, 219, 224, 50, 58, 10, 73, 6, 36, 92, 194, 211, 172, 98, 145, 149, 228, 121, 231, 200, 55, 109, 141, 213, 78, 169, 108, 86, 244, 234, 101, 122, 174, 8, 186, 120, 37, 46, 28, 166, 180, 198, 232, 221, 116, 31, 75, 189, 139, 138, 112, 62, 181, 102, 72, 3, 246, 14, 97, 53, 87, 185, 134, 193, 29, 158, 225, 248, 152, 17, 105, 217, 142, 148, 155, 30, 135, 233, 206, 85, 40, 223, 140, 161, 137, 13, 191, 230, 66, 104, 65, 153, 45, 15, 176, 84, 187, 22]
theorem SB_lit : SB = SBn.map UInt8.ofNat := by decide +kernel
theorem tabs_ok : ((List.range 256).all fun x => gy OB (gy SB x).toNat == UInt8.ofNat x && gy SB (gy OB x).toNat == UInt8.ofNat x) = true := by decide +kernel
theorem tab_there (x : UInt8) : gy OB (gy SB x.toNat).toNat = x := by
  have h := tabs_ok
  rw [List.all_eq_true] at h
  have h1 := h x.toNat (List.mem_range.2 (UInt8.toNat_lt x))
  rw [Bool.and_eq_true, u8_of] at h1
  exact eq_of_beq h1.1
theorem tab_back (x : UInt8) : gy SB (gy OB x.toNat).toNat = x := by
  have h := tabs_ok
  rw [List.all_eq_true] at h
  have h1 := h x.toNat (List.mem_range.2 (UInt8.toNat_lt x))
  rw [Bool.and_eq_true, u8_of] at h1
  exact eq_of_beq h1.2

/-- A key's words: k of them. -/
def ahd (T : List UInt8) (k : Nat) (x : List UInt8) : List UInt8 :=
  if k % 8 = 0 then (repl T [gy x 1, gy x 2, gy x 3, gy x 0]).set 0 (gy (repl T [gy x 1, gy x 2, gy x 3, gy x 0]) 0 ^^^ UInt8.ofNat (2 ^ (k / 8 - 1)))
  else if k % 8 = 4 then repl T x else x
def wat (l : List UInt8) (k : Nat) : List UInt8 := (l.drop (4 * k)).take 4
def nxt (T key l : List UInt8) (k : Nat) : List UInt8 := if k < 8 then wat key k else comb (wat l (k - 8)) (ahd T k (wat l (k - 1)))
def spr (T key : List UInt8) : Nat → List UInt8
  | 0 => []
  | k + 1 => spr T key k ++ nxt T key (spr T key k) k
theorem wat_length {l : List UInt8} {k : Nat} (h : 4 * k + 4 ≤ l.length) : (wat l k).length = 4 := by simp [wat]; omega
theorem ahd_length (T x : List UInt8) (k : Nat) (h : x.length = 4) : (ahd T k x).length = 4 := by
  unfold ahd
  split
  · simp [repl]
  · split
    · rw [repl_length]; exact h
    · exact h
theorem spr_length (T key : List UInt8) (hk : key.length = 32) : ∀ k, (spr T key k).length = 4 * k
  | 0 => rfl
  | k + 1 => by
    have ih := spr_length T key hk k
    show (spr T key k ++ nxt T key (spr T key k) k).length = 4 * (k + 1)
    rw [List.length_append, ih]
    unfold nxt
    split
    · rw [wat_length (by omega)]; omega
    · rw [comb_length (n := 4) (wat_length (by omega)) (ahd_length _ _ _ (wat_length (by omega)))]; omega
theorem nxt_length (T key : List UInt8) (hk : key.length = 32) (k : Nat) : (nxt T key (spr T key k) k).length = 4 := by
  have h := spr_length T key hk (k + 1)
  have h2 := spr_length T key hk k
  have h3 : (spr T key (k + 1)).length = (spr T key k).length + (nxt T key (spr T key k) k).length := List.length_append
  omega

/-- A round's key; a round, there and back; all of them. -/
def kR (W : List UInt8) (n : Nat) : List UInt8 := (W.drop (16 * n)).take 16
theorem kR_length {W : List UInt8} {n : Nat} (h : 16 * n + 16 ≤ W.length) : (kR W n).length = 16 := by simp [kR]; omega
def eR (W : List UInt8) (n : Nat) (s : List UInt8) : List UInt8 :=
  comb (if n < 14 then mixS fE (shf 1 (repl SB s)) else shf 1 (repl SB s)) (kR W n)
def dR (W : List UInt8) (n : Nat) (s : List UInt8) : List UInt8 :=
  repl OB (shf 3 (if 15 - n < 14 then mixS fD (comb s (kR W (15 - n))) else comb s (kR W (15 - n))))
def eN (W s : List UInt8) : Nat → List UInt8
  | 0 => s
  | n + 1 => eR W (n + 1) (eN W s n)
def dN (W s : List UInt8) : Nat → List UInt8
  | 0 => s
  | n + 1 => dR W (n + 1) (dN W s n)
def enc (W s : List UInt8) : List UInt8 := eN W (comb s (kR W 0)) 14
def dec (W s : List UInt8) : List UInt8 := comb (dN W s 14) (kR W 0)
theorem eR_length {W : List UInt8} {n : Nat} (s : List UInt8) (hW : W.length = 240) (hn : n ≤ 14) : (eR W n s).length = 16 := by
  refine comb_length ?_ (kR_length (by omega))
  split
  · exact mixS_length _ _
  · exact shf_length _ _
theorem dR_length (W : List UInt8) (n : Nat) (s : List UInt8) : (dR W n s).length = 16 := by
  unfold dR
  rw [repl_length]; exact shf_length _ _
theorem eN_length {W s : List UInt8} (hW : W.length = 240) (h : s.length = 16) : ∀ n, n ≤ 14 → (eN W s n).length = 16
  | 0, _ => h
  | n + 1, hn => eR_length _ hW hn
theorem dN_length {W s : List UInt8} (h : s.length = 16) : ∀ n, (dN W s n).length = 16
  | 0 => h
  | n + 1 => dR_length _ _ _
theorem enc_length {W s : List UInt8} (hW : W.length = 240) (h : s.length = 16) : (enc W s).length = 16 := eN_length hW (comb_length h (kR_length (by omega))) 14 (by decide)
theorem dec_length {W s : List UInt8} (hW : W.length = 240) (h : s.length = 16) : (dec W s).length = 16 := comb_length (dN_length h 14) (kR_length (by omega))
theorem dR_eR {W s : List UInt8} {n : Nat} (hW : W.length = 240) (hs : s.length = 16) (h1 : 1 ≤ n) (h2 : n ≤ 14) : dR W (15 - n) (eR W n s) = s := by
  have e : 15 - (15 - n) = n := by omega
  unfold dR
  rw [e]
  unfold eR
  have hk : (kR W n).length = 16 := kR_length (by omega)
  by_cases c : n < 14
  · rw [if_pos c, if_pos c, comb_comb (by rw [mixS_length, hk]), mix_mix okED (shf_length _ _), shf13 (by rw [repl_length]; exact hs), repl_repl tab_there]
  · rw [if_neg c, if_neg c, comb_comb (by rw [shf_length, hk]), shf13 (by rw [repl_length]; exact hs), repl_repl tab_there]
theorem eR_dR {W s : List UInt8} {n : Nat} (hW : W.length = 240) (hs : s.length = 16) (h1 : 1 ≤ n) (h2 : n ≤ 14) : eR W (15 - n) (dR W n s) = s := by
  unfold eR dR
  have hk : (kR W (15 - n)).length = 16 := kR_length (by omega)
  have hc : (comb s (kR W (15 - n))).length = 16 := comb_length hs hk
  rw [repl_repl tab_back]
  by_cases c : 15 - n < 14
  · rw [if_pos c, if_pos c, shf31 (mixS_length _ _), mix_mix okDE hc, comb_comb (by rw [hs, hk])]
  · rw [if_neg c, if_neg c, shf31 hc, comb_comb (by rw [hs, hk])]
theorem dN_eN {W s : List UInt8} (hW : W.length = 240) (h : s.length = 16) : ∀ k, k ≤ 14 → dN W (eN W s 14) k = eN W s (14 - k)
  | 0, _ => rfl
  | k + 1, hk => by
    show dR W (k + 1) (dN W (eN W s 14) k) = _
    rw [dN_eN hW h k (by omega)]
    have e : 14 - k = (14 - (k + 1)) + 1 := by omega
    rw [e]
    show dR W (k + 1) (eR W (14 - (k + 1) + 1) (eN W s (14 - (k + 1)))) = _
    have := dR_eR (W := W) (s := eN W s (14 - (k + 1))) (n := 14 - (k + 1) + 1) hW (eN_length hW h _ (by omega)) (by omega) (by omega)
    rwa [show 15 - (14 - (k + 1) + 1) = k + 1 by omega] at this
theorem eN_dN {W s : List UInt8} (hW : W.length = 240) (h : s.length = 16) : ∀ k, k ≤ 14 → eN W (dN W s 14) k = dN W s (14 - k)
  | 0, _ => rfl
  | k + 1, hk => by
    show eR W (k + 1) (eN W (dN W s 14) k) = _
    rw [eN_dN hW h k (by omega)]
    have e : 14 - k = (14 - (k + 1)) + 1 := by omega
    rw [e]
    show eR W (k + 1) (dR W (14 - (k + 1) + 1) (dN W s (14 - (k + 1)))) = _
    have := eR_dR (W := W) (s := dN W s (14 - (k + 1))) (n := 14 - (k + 1) + 1) hW (dN_length h _) (by omega) (by omega)
    rwa [show 15 - (14 - (k + 1) + 1) = k + 1 by omega] at this
theorem dec_enc {W s : List UInt8} (hW : W.length = 240) (h : s.length = 16) : dec W (enc W s) = s := by
  have hk : (kR W 0).length = 16 := kR_length (by omega)
  unfold dec enc
  rw [dN_eN hW (comb_length h hk) 14 (by decide)]
  exact comb_comb (by rw [h, hk])
theorem enc_dec {W s : List UInt8} (hW : W.length = 240) (h : s.length = 16) : enc W (dec W s) = s := by
  have hk : (kR W 0).length = 16 := kR_length (by omega)
  unfold dec enc
  rw [comb_comb (by rw [dN_length h, hk]), eN_dN hW h 14 (by decide)]
  rfl
end Go.Proofs.Ytllhnbnddcghoaa.Bk
