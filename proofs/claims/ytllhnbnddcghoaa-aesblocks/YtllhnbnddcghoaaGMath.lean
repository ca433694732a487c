/- The document's AES-256 in plain numbers: products of polynomials over bits, and stand-ins found by search; they are what ATab says. Closed, and pure arithmetic. -/
import Derived.Test.YtllhnbnddcghoaaATab
namespace Go.Proofs.Ytllhnbnddcghoaa.Bk
set_option linter.unusedVariables false
set_option linter.unusedSimpArgs false

def gp1 (a b : Nat) : Nat → Nat
  | 0 => 0
  | i + 1 => if b / 2 ^ i % 2 = 1 then gp1 a b i ^^^ a * 2 ^ i else gp1 a b i
/-- From bit 15 down: k bits taken away. -/
def gp2 : Nat → Nat → Nat
  | 0, p => p
  | k + 1, p => gp2 k (if p / 2 ^ (8 + k) % 2 = 1 then p ^^^ 283 * 2 ^ k else p)
def gmul (a b : Nat) : Nat := gp2 8 (gp1 a b 8) % 256

theorem mulpow_xor (a b i : Nat) : (a ^^^ b) * 2 ^ i = a * 2 ^ i ^^^ b * 2 ^ i := by
  rw [← Nat.shiftLeft_eq, ← Nat.shiftLeft_eq, ← Nat.shiftLeft_eq, Nat.shiftLeft_xor_distrib]
theorem divpow_xor (a b i : Nat) : (a ^^^ b) / 2 ^ i = a / 2 ^ i ^^^ b / 2 ^ i := by
  rw [← Nat.shiftRight_eq_div_pow, ← Nat.shiftRight_eq_div_pow, ← Nat.shiftRight_eq_div_pow, Nat.shiftRight_xor_distrib]
theorem mod2_xor (a b : Nat) : (a ^^^ b) % 2 = (a % 2 + b % 2) % 2 := by
  have h := Nat.xor_mod_two_pow (a := a) (b := b) (n := 1)
  rw [show 2 ^ 1 = 2 from rfl] at h
  rw [h]
  rcases Nat.mod_two_eq_zero_or_one a with e | e <;> rcases Nat.mod_two_eq_zero_or_one b with f | f <;> rw [e, f] <;> rfl
theorem gp1_xor (a a' b : Nat) : ∀ i, gp1 (a ^^^ a') b i = gp1 a b i ^^^ gp1 a' b i
  | 0 => by simp [gp1]
  | i + 1 => by
    have ih := gp1_xor a a' b i
    by_cases h : b / 2 ^ i % 2 = 1
    · simp only [gp1, if_pos h]
      rw [ih, mulpow_xor, xor4]
    · simp only [gp1, if_neg h]
      exact ih
theorem gp2_xor : ∀ (k p q : Nat), gp2 k (p ^^^ q) = gp2 k p ^^^ gp2 k q
  | 0, _, _ => rfl
  | k + 1, p, q => by
    show gp2 k _ = gp2 k _ ^^^ gp2 k _
    rw [← gp2_xor k]
    congr 1
    have hb : (p ^^^ q) / 2 ^ (8 + k) % 2 = (p / 2 ^ (8 + k) % 2 + q / 2 ^ (8 + k) % 2) % 2 := by rw [divpow_xor, mod2_xor]
    rw [hb]
    rcases Nat.mod_two_eq_zero_or_one (p / 2 ^ (8 + k)) with e | e <;> rcases Nat.mod_two_eq_zero_or_one (q / 2 ^ (8 + k)) with f | f <;> rw [e, f] <;> simp only [Nat.zero_add, Nat.add_zero, Nat.zero_mod, Nat.reduceAdd, Nat.reduceMod, if_pos rfl, if_false, if_true, Nat.zero_ne_one, reduceIte]
    · rw [Nat.xor_assoc]
    · rw [Nat.xor_assoc, Nat.xor_assoc, Nat.xor_comm q]
    · rw [xor4, Nat.xor_self, Nat.xor_zero]
theorem gmul_xor (a a' b : Nat) : gmul (a ^^^ a') b = gmul a b ^^^ gmul a' b := by
  unfold gmul
  rw [gp1_xor, gp2_xor]
  exact Nat.xor_mod_two_pow (n := 8)
theorem prN_xorb : ∀ (k s s' a b b' : Nat), prN k (s ^^^ s') a (b ^^^ b') = prN k s a b ^^^ prN k s' a b'
  | 0, _, _, _, _, _ => rfl
  | k + 1, s, s', a, b, b' => by
    show prN k ((s ^^^ s') ^^^ a * ((b ^^^ b') % 2)) (dbl a) ((b ^^^ b') / 2) = prN k (s ^^^ a * (b % 2)) (dbl a) (b / 2) ^^^ prN k (s' ^^^ a * (b' % 2)) (dbl a) (b' / 2)
    have h2 : (b ^^^ b') / 2 = b / 2 ^^^ b' / 2 := divpow_xor b b' 1
    have h3 : a * ((b ^^^ b') % 2) = a * (b % 2) ^^^ a * (b' % 2) := by
      rw [mod2_xor]
      rcases Nat.mod_two_eq_zero_or_one b with e | e <;> rcases Nat.mod_two_eq_zero_or_one b' with f | f <;> rw [e, f] <;> simp
    rw [h2, h3, xor4]
    exact prN_xorb k _ _ _ _ _
theorem pr_xorb (a b b' : Nat) : pr a (b ^^^ b') = pr a b ^^^ pr a b' := prN_xorb 8 0 0 a b b'
theorem pr_xora {a a' : Nat} (b : Nat) (h : a < 256) (h' : a' < 256) : pr (a ^^^ a') b = pr a b ^^^ pr a' b := prN_xor 8 0 0 a a' b h h'

/-- A number of eight bits, bit by bit. -/
theorem bits_ok : ((List.range 8).all fun j => (List.range 128).all fun x => !decide (x < 2 ^ j) || decide (2 ^ j + x = x ^^^ 2 ^ j)) = true := by decide +kernel
theorem add_xor {j x : Nat} (hj : j < 8) (hx : x < 2 ^ j) : 2 ^ j + x = x ^^^ 2 ^ j := by
  have h := bits_ok
  rw [List.all_eq_true] at h
  have h1 := h j (List.mem_range.2 hj)
  rw [List.all_eq_true] at h1
  have hp : 2 ^ j ≤ 2 ^ 7 := Nat.pow_le_pow_right (by decide) (by omega)
  have h2 := h1 x (List.mem_range.2 (by have : 2 ^ 7 = 128 := rfl; omega))
  simpa [hx] using h2
theorem same_of_bits {f g : Nat → Nat} (hf : ∀ a b, a < 256 → b < 256 → f (a ^^^ b) = f a ^^^ f b) (hg : ∀ a b, a < 256 → b < 256 → g (a ^^^ b) = g a ^^^ g b) (h0 : f 0 = g 0) (hb : ∀ j, j < 8 → f (2 ^ j) = g (2 ^ j)) : ∀ k, k ≤ 8 → ∀ a, a < 2 ^ k → f a = g a
  | 0, _, a, h => by
    obtain rfl : a = 0 := by simpa using h
    exact h0
  | k + 1, hk, a, h => by
    by_cases e : a < 2 ^ k
    · exact same_of_bits hf hg h0 hb k (by omega) a e
    · have hp : 2 ^ k ≤ 2 ^ 7 := Nat.pow_le_pow_right (by decide) (by omega)
      have hp7 : 2 ^ 7 = 128 := rfl
      rw [Nat.pow_succ] at h
      have hr : a - 2 ^ k < 2 ^ k := by omega
      have hx := add_xor (j := k) (by omega) hr
      rw [show 2 ^ k + (a - 2 ^ k) = a by omega] at hx
      rw [hx, hf _ _ (by omega) (by omega), hg _ _ (by omega) (by omega), hb k (by omega), same_of_bits hf hg h0 hb k (by omega) _ hr]
theorem gmul_basis : ((List.range 256).all fun b => (List.range 8).all fun j => gmul (2 ^ j) b == pr (2 ^ j) b) = true := by decide +kernel
theorem gmul_zero : ((List.range 256).all fun b => gmul 0 b == pr 0 b) = true := by decide +kernel
theorem gmul_pr {a b : Nat} (ha : a < 256) (hb : b < 256) : gmul a b = pr a b := by
  refine same_of_bits (f := fun a => gmul a b) (g := fun a => pr a b) (fun x y _ _ => gmul_xor x y b) (fun x y hx hy => pr_xora b hx hy) ?_ ?_ 8 (Nat.le_refl _) a ha
  · exact eq_of_beq (all256 gmul_zero hb)
  · intro j hj
    have h := all256 gmul_basis hb
    rw [List.all_eq_true] at h
    exact eq_of_beq (h j (List.mem_range.2 hj))

theorem gp1_lt {a : Nat} (b : Nat) (h : a < 256) : ∀ i, i ≤ 8 → gp1 a b i < 65536
  | 0, _ => Nat.zero_lt_succ _
  | i + 1, hi => by
    have ih := gp1_lt b h i (by omega)
    have hp : 2 ^ i ≤ 2 ^ 7 := Nat.pow_le_pow_right (by decide) (by omega)
    have hm : a * 2 ^ i < 65536 := by
      have h1 := Nat.mul_le_mul (show a ≤ 255 by omega) hp
      have : 2 ^ 7 = 128 := rfl
      omega
    show (if b / 2 ^ i % 2 = 1 then gp1 a b i ^^^ a * 2 ^ i else gp1 a b i) < 65536
    split
    · exact Nat.xor_lt_two_pow (n := 16) ih hm
    · exact ih
theorem gp2_step {k p x : Nat} (h : gp2 (k + 1) p = x) : gp2 k (if p / 2 ^ (8 + k) % 2 = 1 then p ^^^ 283 * 2 ^ k else p) = x := h
/-- The last x of 1 to k whose product with a is 1. -/
def sti (a : Nat) : Nat → Nat
  | 0 => 0
  | k + 1 => if pr a (k + 1) = 1 then k + 1 else sti a k
def dbls (f : Nat → Nat) : Nat → List Nat
  | 0 => [0]
  | j + 1 => dbls f j ++ (dbls f j).map (fun v => v ^^^ f (2 ^ j))
def srch : List Nat → Nat → Nat → Nat
  | [], _, acc => acc
  | v :: r, x, acc => srch r (x + 1) (if v = 1 then x else acc)
theorem pr_nul (a : Nat) : pr a 0 = 0 := prN_none 8 0 a
theorem dbls_is (a : Nat) : ∀ j, j ≤ 8 → dbls (pr a) j = (List.range (2 ^ j)).map (pr a)
  | 0, _ => by
    show [0] = [pr a 0]
    rw [pr_nul]
  | j + 1, h => by
    show dbls (pr a) j ++ (dbls (pr a) j).map (fun v => v ^^^ pr a (2 ^ j)) = _
    rw [dbls_is a j (by omega), Nat.pow_succ, Nat.mul_two, List.range_add, List.map_append, List.map_map, List.map_map]
    congr 1
    refine List.map_congr_left fun x hx => ?_
    show pr a x ^^^ pr a (2 ^ j) = pr a (2 ^ j + x)
    rw [add_xor (by omega) (List.mem_range.1 hx), pr_xorb]
theorem srch_is (a : Nat) : ∀ (n x : Nat), srch ((List.range' (x + 1) n).map (pr a)) (x + 1) (sti a x) = sti a (x + n)
  | 0, x => rfl
  | n + 1, x => by
    rw [List.range'_succ, List.map_cons]
    show srch _ (x + 1 + 1) (sti a (x + 1)) = _
    rw [srch_is a n (x + 1)]
    congr 1
    omega
theorem srch_ok : ((List.range 256).all fun a => srch ((dbls (pr a) 8).drop 1) 1 0 == (gy IV a).toNat) = true := by decide +kernel
theorem sti_is {a : Nat} (ha : a < 256) : sti a 255 = (gy IV a).toNat := by
  have h := eq_of_beq (all256 srch_ok ha)
  have e : (dbls (pr a) 8).drop 1 = (List.range' 1 255).map (pr a) := by
    rw [dbls_is a 8 (Nat.le_refl _), ← List.map_drop, List.range_eq_range', List.drop_range']
  rw [e] at h
  have h2 := srch_is a 255 0
  rw [Nat.zero_add] at h2
  rw [← h, ← h2]
  rfl
theorem sti_lt (a : Nat) : ∀ k, k < 256 → sti a k < 256
  | 0, _ => Nat.zero_lt_succ 255
  | k + 1, h => by
    show (if pr a (k + 1) = 1 then k + 1 else sti a k) < 256
    split
    · exact h
    · exact sti_lt a k (by omega)
end Go.Proofs.Ytllhnbnddcghoaa.Bk
