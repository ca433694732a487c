/- The field of 65536 numbers in plain numbers: products by bits, powers, the order of 2, logs. No condition: pure arithmetic on Nat. -/
namespace Go.Proofs.Ytdbdidohldhnhaa.Gf

/-- A step over the bits of b: s is what stands at the bit. -/
def gen (f : Nat → Nat) : Nat → Nat → Nat → Nat
  | 0, _, _ => 0
  | k + 1, s, b => (if b % 2 = 1 then s else 0) ^^^ gen f k (f s) (b / 2)

def xt (a : Nat) : Nat := (2 * a) ^^^ (if a.testBit 15 then 69643 else 0)
def dbl (a : Nat) : Nat := 2 * a
def gm (a b : Nat) : Nat := gen xt 16 a b
def cl (a b : Nat) : Nat := gen dbl 16 a b
def red (w : Nat) : Nat := (w % 65536) ^^^ gm 4107 (w / 65536)

def Lin (f : Nat → Nat) : Prop := ∀ a b, f (a ^^^ b) = f a ^^^ f b

theorem Lin.zero {f : Nat → Nat} (h : Lin f) : f 0 = 0 := by
  have := h 0 0
  simp at this
  exact this

theorem two_xor (a b : Nat) : 2 * (a ^^^ b) = (2 * a) ^^^ (2 * b) := by
  apply Nat.eq_of_testBit_eq
  intro i
  rw [Nat.testBit_xor]
  cases i with
  | zero => simp
  | succ i => simp [Nat.testBit_succ]

theorem mod_xor (a b k : Nat) : (a ^^^ b) % 2 ^ k = (a % 2 ^ k) ^^^ (b % 2 ^ k) := by
  apply Nat.eq_of_testBit_eq
  intro i
  simp [Nat.testBit_mod_two_pow, Nat.testBit_xor]
  by_cases h : i < k <;> simp [h]

theorem div_xor (a b k : Nat) : (a ^^^ b) / 2 ^ k = (a / 2 ^ k) ^^^ (b / 2 ^ k) := by
  apply Nat.eq_of_testBit_eq
  intro i
  simp [Nat.testBit_div_two_pow, Nat.testBit_xor]

theorem lin_dbl : Lin dbl := fun a b => two_xor a b

theorem lin_xt : Lin xt := by
  intro a b
  unfold xt
  rw [two_xor, Nat.testBit_xor]
  cases a.testBit 15 <;> cases b.testBit 15 <;> simp
  · ac_rfl
  · ac_rfl
  · apply Nat.eq_of_testBit_eq
    intro i
    simp only [Nat.testBit_xor]
    cases (2 * a).testBit i <;> cases (2 * b).testBit i <;> cases Nat.testBit 69643 i <;> rfl

theorem lin_gen_left {f : Nat → Nat} (hf : Lin f) (k b : Nat) : Lin fun s => gen f k s b := by
  induction k generalizing b with
  | zero => intro a c; simp [gen]
  | succ k ih =>
    intro a c
    have h := ih (b / 2) (f a) (f c)
    simp only [gen, hf a c] at h ⊢
    rw [h]
    by_cases hb : b % 2 = 1
    · simp only [hb, if_true]; ac_rfl
    · simp only [hb, if_false]; simp

theorem lin_gen_right (f : Nat → Nat) (k s : Nat) : Lin fun b => gen f k s b := by
  induction k generalizing s with
  | zero => intro a c; simp [gen]
  | succ k ih =>
    intro a c
    have h := ih (f s) (a / 2) (c / 2)
    have hd := div_xor a c 1
    have hm := mod_xor a c 1
    simp only [Nat.pow_one] at hd hm
    simp only [gen, hd] at h ⊢
    rw [h, hm]
    rcases Nat.mod_two_eq_zero_or_one a with ha | ha <;> rcases Nat.mod_two_eq_zero_or_one c with hc | hc <;> rw [ha, hc] <;> simp
    · ac_rfl
    · ac_rfl
    · apply Nat.eq_of_testBit_eq
      intro i
      simp only [Nat.testBit_xor]
      cases s.testBit i <;> cases (gen f k (f s) (a / 2)).testBit i <;> cases (gen f k (f s) (c / 2)).testBit i <;> rfl

theorem bit_split (a : Nat) : a = (a % 2) ^^^ (2 * (a / 2)) := by
  apply Nat.eq_of_testBit_eq
  intro i
  rw [Nat.testBit_xor]
  cases i with
  | zero => simp
  | succ i =>
    rw [Nat.testBit_succ, Nat.testBit_succ, Nat.testBit_succ, Nat.mul_div_cancel_left _ (by decide)]
    have : a % 2 / 2 = 0 := by omega
    rw [this]
    simp

/-- Two linear functions that agree at the bits are the same. -/
theorem lin_ext (k : Nat) : ∀ f g : Nat → Nat, Lin f → Lin g → (∀ i, i < k → f (2 ^ i) = g (2 ^ i)) → ∀ a, a < 2 ^ k → f a = g a := by
  induction k with
  | zero =>
    intro f g hf hg _ a ha
    have : a = 0 := by simpa using ha
    rw [this, hf.zero, hg.zero]
  | succ k ih =>
    intro f g hf hg he a ha
    have h2 : ∀ h : Nat → Nat, Lin h → Lin fun x => h (2 * x) := by
      intro h hh x y
      show h (2 * (x ^^^ y)) = _
      rw [two_xor, hh]
    have e := ih (fun x => f (2 * x)) (fun x => g (2 * x)) (h2 f hf) (h2 g hg) (by
      intro i hi
      have := he (i + 1) (by omega)
      rw [Nat.pow_succ, Nat.mul_comm] at this
      exact this) (a / 2) (by rw [Nat.pow_succ] at ha; omega)
    have e0 := he 0 (by omega)
    rw [bit_split a, hf, hg]
    have e' : f (2 * (a / 2)) = g (2 * (a / 2)) := e
    rw [e']
    rcases Nat.mod_two_eq_zero_or_one a with h | h <;> rw [h]
    · rw [hf.zero, hg.zero]
    · rw [show (1 : Nat) = 2 ^ 0 from rfl, e0]

theorem lin_gm_left (b : Nat) : Lin fun a => gm a b := lin_gen_left lin_xt 16 b
theorem lin_gm_right (a : Nat) : Lin fun b => gm a b := lin_gen_right xt 16 a
theorem lin_cl_left (b : Nat) : Lin fun a => cl a b := lin_gen_left lin_dbl 16 b
theorem lin_cl_right (a : Nat) : Lin fun b => cl a b := lin_gen_right dbl 16 a

theorem xor_lt {a b k : Nat} (ha : a < 2 ^ k) (hb : b < 2 ^ k) : a ^^^ b < 2 ^ k := Nat.xor_lt_two_pow ha hb

theorem xt_lt {a : Nat} (h : a < 65536) : xt a < 65536 := by
  unfold xt
  show _ < 2 ^ 16
  apply Nat.lt_pow_two_of_testBit
  intro i hi
  rw [Nat.testBit_xor]
  by_cases h16 : i = 16
  · subst h16
    rw [Nat.testBit_succ, Nat.mul_div_cancel_left _ (by decide)]
    cases a.testBit 15 <;> decide
  · have h1 : (2 * a).testBit i = false := Nat.testBit_lt_two_pow (by
      have : 2 ^ 17 ≤ 2 ^ i := Nat.pow_le_pow_right (by decide) (by omega)
      omega)
    have h2 : (if a.testBit 15 then 69643 else 0 : Nat).testBit i = false := Nat.testBit_lt_two_pow (by
      have : 2 ^ 17 ≤ 2 ^ i := Nat.pow_le_pow_right (by decide) (by omega)
      split <;> omega)
    rw [h1, h2]; rfl

theorem gen_lt (k : Nat) : ∀ a b, a < 65536 → gen xt k a b < 65536 := by
  induction k with
  | zero => intro a b _; simp [gen]
  | succ k ih =>
    intro a b ha
    show _ < 2 ^ 16
    simp only [gen]
    apply xor_lt
    · split
      · exact ha
      · decide
    · exact ih _ _ (xt_lt ha)

theorem gm_lt {a b : Nat} (ha : a < 65536) : gm a b < 65536 := gen_lt 16 a b ha

/-- Bilinear functions that agree at the bits are the same. -/
theorem bil_ext (k : Nat) (f g : Nat → Nat → Nat) (f1 : ∀ b, Lin fun a => f a b) (f2 : ∀ a, Lin fun b => f a b) (g1 : ∀ b, Lin fun a => g a b) (g2 : ∀ a, Lin fun b => g a b)
    (h : ∀ i, i < k → ∀ j, j < k → f (2 ^ i) (2 ^ j) = g (2 ^ i) (2 ^ j)) (a b : Nat) (ha : a < 2 ^ k) (hb : b < 2 ^ k) : f a b = g a b := by
  refine lin_ext k (fun a => f a b) (fun a => g a b) (f1 b) (g1 b) ?_ a ha
  intro i hi
  exact lin_ext k (fun b => f (2 ^ i) b) (fun b => g (2 ^ i) b) (f2 _) (g2 _) (fun j hj => h i hi j hj) b hb

theorem gm_comm {a b : Nat} (ha : a < 65536) (hb : b < 65536) : gm a b = gm b a :=
  bil_ext 16 gm (fun a b => gm b a) lin_gm_left lin_gm_right lin_gm_right lin_gm_left (by decide +kernel) a b ha hb

theorem gen_zero (k s : Nat) (f : Nat → Nat) : gen f k s 0 = 0 := by
  induction k generalizing s with
  | zero => rfl
  | succ k ih => simp [gen, ih]

theorem gm_one (a : Nat) : gm a 1 = a := by
  unfold gm
  simp [gen]

theorem gm_zero (a : Nat) : gm a 0 = 0 := gen_zero _ _ _
theorem zero_gm (a : Nat) : gm 0 a = 0 := (lin_gm_left a).zero
theorem one_gm {a : Nat} (h : a < 65536) : gm 1 a = a := by rw [gm_comm (by decide) h, gm_one]

theorem gen_xt (k : Nat) : ∀ a b, gen xt k (xt a) b = xt (gen xt k a b) := by
  induction k with
  | zero => intro a b; simp [gen, lin_xt.zero]
  | succ k ih =>
    intro a b
    simp only [gen, lin_xt _ _, ih]
    split
    · rfl
    · rw [lin_xt.zero]

theorem gen_gm (k : Nat) : ∀ a b c, gm (gen xt k a b) c = gen xt k (gm a c) b := by
  induction k with
  | zero => intro a b c; simp [gen, zero_gm]
  | succ k ih =>
    intro a b c
    have h := lin_gm_left c (if b % 2 = 1 then a else 0) (gen xt k (xt a) (b / 2))
    simp only [gen] at h ⊢
    rw [h, ih]
    have hx : gm (xt a) c = xt (gm a c) := gen_xt 16 a c
    rw [hx]
    split
    · rfl
    · rw [zero_gm]

theorem gm_swap (a b c : Nat) : gm (gm a b) c = gm (gm a c) b := gen_gm 16 a b c
theorem gm_assoc {a b c : Nat} (ha : a < 65536) (hb : b < 65536) : gm (gm a b) c = gm a (gm b c) := by
  rw [gm_comm ha hb, gm_swap, gm_comm (gm_lt hb) ha]

def pw (a : Nat) : Nat → Nat
  | 0 => 1
  | n + 1 => gm (pw a n) a

theorem pw_lt {a : Nat} (n : Nat) (_h : a < 65536) : pw a n < 65536 := by
  induction n with
  | zero => simp [pw]
  | succ n ih => exact gm_lt ih

theorem pw_add {a : Nat} (h : a < 65536) (m n : Nat) : pw a (m + n) = gm (pw a m) (pw a n) := by
  induction n with
  | zero => simp [pw, gm_one]
  | succ n ih =>
    show gm (pw a (m + n)) a = gm (pw a m) (gm (pw a n) a)
    rw [ih, gm_assoc (pw_lt m h) (pw_lt n h)]

theorem pw_mul {a : Nat} (h : a < 65536) (m n : Nat) : pw a (m * n) = pw (pw a m) n := by
  induction n with
  | zero => simp [pw]
  | succ n ih => rw [Nat.mul_succ, pw_add h, ih]; rfl

theorem pw_one (n : Nat) : pw 1 n = 1 := by
  induction n with
  | zero => rfl
  | succ n ih => simp [pw, ih, gm_one]

theorem pw_1 {a : Nat} (h : a < 65536) : pw a 1 = a := one_gm h

theorem pw_gm {a b : Nat} (ha : a < 65536) (hb : b < 65536) (n : Nat) : pw (gm a b) n = gm (pw a n) (pw b n) := by
  induction n with
  | zero => simp [pw, gm_one]
  | succ n ih =>
    have h1 := pw_lt n ha
    have h2 := pw_lt n hb
    simp only [pw, ih]
    rw [gm_assoc h1 h2, ← gm_assoc h2 ha, gm_comm h2 ha, gm_assoc ha h2, ← gm_assoc h1 ha]

/-- A power by squares: n is halved. -/
def fp : Nat → Nat → Nat → Nat
  | 0, _, _ => 1
  | k + 1, a, n => if n % 2 = 1 then gm (fp k (gm a a) (n / 2)) a else fp k (gm a a) (n / 2)

theorem fp_pw (k : Nat) : ∀ a n, a < 65536 → n < 2 ^ k → fp k a n = pw a n := by
  induction k with
  | zero => intro a n _ hn; have : n = 0 := by simpa using hn
            rw [this]; rfl
  | succ k ih =>
    intro a n ha hn
    have h1 := ih (gm a a) (n / 2) (gm_lt ha) (by rw [Nat.pow_succ] at hn; omega)
    have h2 : pw a (2 * (n / 2)) = pw (gm a a) (n / 2) := by
      rw [pw_mul ha]
      show pw (gm (gm 1 a) a) _ = _
      rw [one_gm ha]
    simp only [fp, h1]
    split
    · rename_i h
      have e : n = 2 * (n / 2) + 1 := by omega
      rw [← h2]
      conv => rhs; rw [e]
      rfl
    · rename_i h
      have e : n = 2 * (n / 2) := by omega
      rw [← h2, ← e]

theorem gm_xor (a b c : Nat) : gm a (b ^^^ c) = gm a b ^^^ gm a c := lin_gm_right a b c
theorem xor_gm (a b c : Nat) : gm (a ^^^ b) c = gm a c ^^^ gm b c := lin_gm_left c a b

theorem sq_xor {a b : Nat} (ha : a < 65536) (hb : b < 65536) : gm (a ^^^ b) (a ^^^ b) = gm a a ^^^ gm b b := by
  rw [gm_xor, xor_gm, xor_gm, gm_comm hb ha]
  apply Nat.eq_of_testBit_eq
  intro i
  simp only [Nat.testBit_xor]
  cases (gm a a).testBit i <;> cases (gm b b).testBit i <;> cases (gm a b).testBit i <;> rfl

def sq (a : Nat) : Nat := gm (a % 65536) (a % 65536)

theorem lin_sq : Lin sq := by
  intro a b
  unfold sq
  have h := mod_xor a b 16
  rw [show (65536 : Nat) = 2 ^ 16 from rfl, h]
  exact sq_xor (Nat.mod_lt _ (by decide)) (Nat.mod_lt _ (by decide))

theorem sq_eq {a : Nat} (h : a < 65536) : sq a = gm a a := by
  unfold sq
  rw [Nat.mod_eq_of_lt h]

def sqs : Nat → Nat → Nat
  | 0, a => a
  | k + 1, a => sqs k (sq a)

theorem lin_sqs (k : Nat) : Lin (sqs k) := by
  induction k with
  | zero => intro a b; rfl
  | succ k ih => intro a b; simp only [sqs, lin_sq a b, ih (sq a) (sq b)]

theorem sqs_16 {a : Nat} (h : a < 65536) : sqs 16 a = a :=
  lin_ext 16 (sqs 16) (fun a => a) (lin_sqs 16) (fun _ _ => rfl) (by decide +kernel) a h

theorem pw_sqs (k : Nat) : ∀ a, a < 65536 → pw a (2 ^ k) = sqs k a := by
  induction k with
  | zero => intro a h; exact pw_1 h
  | succ k ih =>
    intro a h
    rw [Nat.pow_succ, Nat.mul_comm, pw_mul h]
    show pw (gm (gm 1 a) a) _ = sqs k (sq a)
    rw [one_gm h, ih _ (gm_lt h), sq_eq h]

theorem frob {a : Nat} (h : a < 65536) : pw a 65536 = a := by
  have := pw_sqs 16 a h
  rw [sqs_16 h] at this
  exact this

/-- A linear function by its images of the bits. -/
def mat : List Nat → Nat → Nat
  | [], _ => 0
  | c :: l, b => (if b % 2 = 1 then c else 0) ^^^ mat l (b / 2)

theorem lin_mat (l : List Nat) : Lin (mat l) := by
  induction l with
  | nil => intro a c; simp [mat]
  | cons s l ih =>
    intro a c
    have h := ih (a / 2) (c / 2)
    have hd := div_xor a c 1
    have hm := mod_xor a c 1
    simp only [Nat.pow_one] at hd hm
    simp only [mat, hd]
    rw [h, hm]
    rcases Nat.mod_two_eq_zero_or_one a with ha | ha <;> rcases Nat.mod_two_eq_zero_or_one c with hc | hc <;> rw [ha, hc] <;> simp
    · ac_rfl
    · ac_rfl
    · apply Nat.eq_of_testBit_eq
      intro i
      simp only [Nat.testBit_xor]
      cases s.testBit i <;> cases (mat l (a / 2)).testBit i <;> cases (mat l (c / 2)).testBit i <;> rfl

def back : List Nat := [350, 42420, 42422, 7412, 42418, 10272, 7420, 1328, 42402, 38610, 10240, 5068, 7356, 0, 1456, 21936]

theorem xor_self_cancel {a b : Nat} (h : a ^^^ b = 0) : a = b := by
  apply Nat.eq_of_testBit_eq
  intro i
  have : (a ^^^ b).testBit i = (0 : Nat).testBit i := by rw [h]
  rw [Nat.testBit_xor, Nat.zero_testBit] at this
  cases ha : a.testBit i <;> cases hb : b.testBit i <;> simp_all

/-- Only 0 and 1 are their own squares. -/
theorem idem {e : Nat} (he : e < 65536) (h : gm e e = e) : e = 0 ∨ e = 1 := by
  have hl : Lin fun x => mat back (sq x ^^^ x) := by
    intro a b
    show mat back (sq (a ^^^ b) ^^^ (a ^^^ b)) = mat back (sq a ^^^ a) ^^^ mat back (sq b ^^^ b)
    rw [lin_sq, ← lin_mat back]
    congr 1
    ac_rfl
  have hr : Lin fun x => mat [0, 2, 4, 8, 16, 32, 64, 128, 256, 512, 1024, 2048, 4096, 8192, 16384, 32768] x := lin_mat _
  have hx := lin_ext 16 _ _ hl hr (by decide +kernel) e he
  have h0 : sq e ^^^ e = 0 := by rw [sq_eq he, h, Nat.xor_self]
  have hm : mat [0, 2, 4, 8, 16, 32, 64, 128, 256, 512, 1024, 2048, 4096, 8192, 16384, 32768] e = e ^^^ (e % 2) := by
    have h1 : Lin fun x => x ^^^ (x % 2) := by
      intro a b
      show (a ^^^ b) ^^^ ((a ^^^ b) % 2 ^ 1) = (a ^^^ (a % 2 ^ 1)) ^^^ (b ^^^ (b % 2 ^ 1))
      rw [mod_xor]
      ac_rfl
    exact lin_ext 16 _ _ hr h1 (by decide +kernel) e he
  have hz : e ^^^ (e % 2) = 0 := by
    rw [← hm, ← hx]
    show mat back (sq e ^^^ e) = 0
    rw [h0]
    rfl
  have := xor_self_cancel hz
  omega

theorem pw_ord {a : Nat} (h : a < 65536) (h0 : a ≠ 0) : pw a 65535 = 1 := by
  have hi : gm (pw a 65535) (pw a 65535) = pw a 65535 := by
    rw [← pw_add h, show 65535 + 65535 = 65536 + 65534 from rfl, pw_add h, frob h, gm_comm h (pw_lt _ h)]
    rfl
  rcases idem (pw_lt _ h) hi with h1 | h1
  · have : pw a 65536 = gm (pw a 65535) a := rfl
    rw [frob h, h1, zero_gm] at this
    exact absurd this h0
  · exact h1

theorem gm_inv {a : Nat} (h : a < 65536) (h0 : a ≠ 0) : gm a (pw a 65534) = 1 := by
  rw [gm_comm h (pw_lt _ h)]
  exact pw_ord h h0

theorem gm_eq_zero {a b : Nat} (ha : a < 65536) (hb : b < 65536) : gm a b = 0 ↔ a = 0 ∨ b = 0 := by
  constructor
  · intro h
    by_cases h0 : a = 0
    · exact Or.inl h0
    · right
      have h1 : gm (gm (pw a 65534) a) b = gm (pw a 65534) (gm a b) := gm_assoc (pw_lt _ ha) ha
      rw [h, gm_zero, show gm (pw a 65534) a = pw a 65535 from rfl, pw_ord ha h0, one_gm hb] at h1
      exact h1
  · rintro (rfl | rfl)
    · exact zero_gm _
    · exact gm_zero _

theorem ord_one : pw 2 65535 = 1 := pw_ord (by decide) (by decide)
theorem ord_3 : pw 2 21845 ≠ 1 := by rw [← fp_pw 16 2 21845 (by decide) (by decide)]; decide +kernel
theorem ord_5 : pw 2 13107 ≠ 1 := by rw [← fp_pw 16 2 13107 (by decide) (by decide)]; decide +kernel
theorem ord_17 : pw 2 3855 ≠ 1 := by rw [← fp_pw 16 2 3855 (by decide) (by decide)]; decide +kernel
theorem ord_257 : pw 2 255 ≠ 1 := by rw [← fp_pw 16 2 255 (by decide) (by decide)]; decide +kernel

theorem pw_mod {m n : Nat} (hm : pw 2 m = 1) (hn : pw 2 n = 1) : pw 2 (n % m) = 1 := by
  have h : pw 2 (m * (n / m) + n % m) = 1 := by rw [Nat.div_add_mod]; exact hn
  rw [pw_add (by decide), pw_mul (by decide), hm, pw_one, one_gm (pw_lt _ (by decide))] at h
  exact h

theorem pw_gcd (m n : Nat) : pw 2 m = 1 → pw 2 n = 1 → pw 2 (Nat.gcd m n) = 1 := by
  induction m, n using Nat.gcd.induction with
  | H0 n => intro _ h; rw [Nat.gcd_zero_left]; exact h
  | H1 m n _ ih => intro h1 h2; rw [Nat.gcd_rec]; exact ih (pw_mod h1 h2) h1

theorem divs : ∀ i, i < 128 → ∀ j, j < 256 → 65535 % (256 * i + j) ≠ 0 ∨ 21845 % (256 * i + j) = 0 ∨ 13107 % (256 * i + j) = 0 ∨ 3855 % (256 * i + j) = 0 ∨ 255 % (256 * i + j) = 0 := by decide +kernel

theorem pw_dvd {g n : Nat} (h : pw 2 g = 1) (hd : n % g = 0) : pw 2 n = 1 := by
  have e : n = g * (n / g) := by have := Nat.div_add_mod n g; omega
  rw [e, pw_mul (by decide), h, pw_one]

theorem ord_least {r : Nat} (h : pw 2 r = 1) (hr : r < 65535) : r = 0 := by
  by_cases h0 : r = 0
  · exact h0
  have hg := pw_gcd r 65535 h ord_one
  have hd : 65535 % Nat.gcd r 65535 = 0 := Nat.mod_eq_zero_of_dvd (Nat.gcd_dvd_right _ _)
  have hle : Nat.gcd r 65535 ≤ r := Nat.gcd_le_left _ (by omega)
  have hpos : 0 < Nat.gcd r 65535 := Nat.gcd_pos_of_pos_left _ (by omega)
  revert hg hd hle hpos
  generalize Nat.gcd r 65535 = g
  intro hg hd hle hpos
  have hlt : g < 32768 := by
    have e := Nat.div_add_mod 65535 g
    rw [hd] at e
    revert e
    generalize 65535 / g = q
    intro e
    have h2 : 2 ≤ q := by
      rcases Nat.lt_or_ge q 2 with h | h
      · have : q = 0 ∨ q = 1 := by omega
        rcases this with h | h <;> rw [h] at e <;> omega
      · exact h
    have := Nat.mul_le_mul_left g h2
    omega
  have hx := divs (g / 256) (by omega) (g % 256) (by omega)
  rw [Nat.div_add_mod] at hx
  rcases hx with h | h | h | h | h
  · exact absurd hd h
  · exact absurd (pw_dvd hg h) ord_3
  · exact absurd (pw_dvd hg h) ord_5
  · exact absurd (pw_dvd hg h) ord_17
  · exact absurd (pw_dvd hg h) ord_257

theorem pw2_ne (n : Nat) : pw 2 n ≠ 0 := by
  induction n with
  | zero => simp [pw]
  | succ n ih =>
    intro h
    have := (gm_eq_zero (pw_lt n (by decide)) (by decide : 2 < 65536)).1 h
    rcases this with h | h
    · exact ih h
    · cases h

theorem pw2_inj {i j : Nat} (hi : i < 65535) (hj : j < 65535) (h : pw 2 i = pw 2 j) : i = j := by
  have key : ∀ i j, i ≤ j → j < 65535 → pw 2 i = pw 2 j → i = j := by
    intro i j hij hj h
    have h1 : pw 2 (j + (65535 - i)) = 1 := by
      rw [pw_add (by decide), ← h, ← pw_add (by decide), show i + (65535 - i) = 65535 from by omega, ord_one]
    have h2 := pw_mod ord_one h1
    have h3 := ord_least h2 (Nat.mod_lt _ (by decide))
    omega
  rcases Nat.le_total i j with h' | h'
  · exact key i j h' hj h
  · exact (key j i h' hi h.symm).symm

theorem pigeon (n : Nat) : ∀ f : Nat → Nat, (∀ i, i < n → f i < n) → (∀ i j, i < n → j < n → f i = f j → i = j) → ∀ y, y < n → ∃ i, i < n ∧ f i = y := by
  induction n with
  | zero => intro f _ _ y hy; omega
  | succ n ih =>
    intro f hf hi y hy
    have hm := hf n (by omega)
    have h' := ih (fun i => if f i = n then f n else f i) (by
      intro i hin
      have h1 := hf i (by omega)
      show (if f i = n then f n else f i) < n
      split
      · rename_i h
        have : f n ≠ n := fun h2 => by have := hi i n (by omega) (by omega) (by omega); omega
        omega
      · omega) (by
      intro i j hin hjn
      show (if f i = n then f n else f i) = (if f j = n then f n else f j) → _
      have a1 := hi i j (by omega) (by omega)
      have a2 := hi n j (by omega) (by omega)
      have a3 := hi i n (by omega) (by omega)
      split <;> split <;> intro h
      · exact a1 (by omega)
      · have := a2 h; omega
      · have := a3 h; omega
      · exact a1 h)
    by_cases hyn : y = f n
    · exact ⟨n, by omega, hyn.symm⟩
    by_cases hy' : y = n
    · have hfn : f n < n := by omega
      obtain ⟨i, hin, he⟩ := h' (f n) hfn
      have he' : (if f i = n then f n else f i) = f n := he
      split at he'
      · exact ⟨i, by omega, by omega⟩
      · have := hi i n (by omega) (by omega) he'; omega
    · obtain ⟨i, hin, he⟩ := h' y (by omega)
      have he' : (if f i = n then f n else f i) = y := he
      split at he'
      · omega
      · exact ⟨i, by omega, he'⟩

theorem ex_log {a : Nat} (h : a < 65536) (h0 : a ≠ 0) : ∃ n, n < 65535 ∧ pw 2 n = a := by
  obtain ⟨n, hn, he⟩ := pigeon 65535 (fun i => pw 2 i - 1) (by
    intro i _
    have := pw_lt i (by decide : 2 < 65536)
    have := pw2_ne i
    show pw 2 i - 1 < 65535
    omega) (by
    intro i j hi hj he
    have h1 := pw2_ne i
    have h2 := pw2_ne j
    have he' : pw 2 i - 1 = pw 2 j - 1 := he
    exact pw2_inj hi hj (by omega)) (a - 1) (by omega)
  have he' : pw 2 n - 1 = a - 1 := he
  have := pw2_ne n
  exact ⟨n, hn, by omega⟩

theorem lin_red : Lin red := by
  intro a b
  unfold red
  have h1 := mod_xor a b 16
  have h2 := div_xor a b 16
  have h3 := gm_xor 4107 (a / 2 ^ 16) (b / 2 ^ 16)
  simp only [Nat.reducePow] at h1 h2 h3
  rw [h1, h2, h3]
  ac_rfl

theorem red_small {w : Nat} (h : w < 65536) : red w = w := by
  unfold red
  rw [Nat.mod_eq_of_lt h, Nat.div_eq_of_lt h, gm_zero, Nat.xor_zero]

theorem red_cl {a b : Nat} (ha : a < 65536) (hb : b < 65536) : red (cl a b) = gm a b :=
  bil_ext 16 (fun a b => red (cl a b)) gm (fun b x y => by
      show red (cl (x ^^^ y) b) = red (cl x b) ^^^ red (cl y b)
      rw [← lin_red]; exact congrArg red (lin_cl_left b x y)) (fun a x y => by
      show red (cl a (x ^^^ y)) = red (cl a x) ^^^ red (cl a y)
      rw [← lin_red]; exact congrArg red (lin_cl_right a x y)) lin_gm_left lin_gm_right (by decide +kernel) a b ha hb

theorem mul_xor (a b k : Nat) : (a ^^^ b) * 2 ^ k = (a * 2 ^ k) ^^^ (b * 2 ^ k) := by
  induction k with
  | zero => simp
  | succ k ih =>
    have e : ∀ x : Nat, x * 2 ^ (k + 1) = 2 * (x * 2 ^ k) := by intro x; rw [Nat.pow_succ, ← Nat.mul_assoc, Nat.mul_comm]
    rw [e, e, e, ih, two_xor]

/-- What a round makes of a wide number. -/
def step (w : Nat) : Nat := (((w % 65536 ^^^ (w / 65536) * 4096) ^^^ (w / 65536) * 8) ^^^ (w / 65536) * 2) ^^^ (w / 65536)

theorem red_step {w : Nat} (h : w < 4294967296) : red (step w) = red w := by
  unfold step
  have hh : w / 65536 < 2 ^ 16 := by omega
  have hx : red ((((w / 65536) * 4096) ^^^ ((w / 65536) * 8)) ^^^ (((w / 65536) * 2) ^^^ (w / 65536))) = gm 4107 (w / 65536) := by
    refine lin_ext 16 (fun h => red (((h * 4096) ^^^ (h * 8)) ^^^ ((h * 2) ^^^ h))) (fun h => gm 4107 h) ?_ (lin_gm_right 4107) (by decide +kernel) (w / 65536) hh
    intro x y
    show red ((((x ^^^ y) * 2 ^ 12) ^^^ ((x ^^^ y) * 2 ^ 3)) ^^^ (((x ^^^ y) * 2 ^ 1) ^^^ (x ^^^ y))) = red (((x * 2 ^ 12) ^^^ (x * 2 ^ 3)) ^^^ ((x * 2 ^ 1) ^^^ x)) ^^^ red (((y * 2 ^ 12) ^^^ (y * 2 ^ 3)) ^^^ ((y * 2 ^ 1) ^^^ y))
    rw [← lin_red, mul_xor, mul_xor, mul_xor]
    congr 1
    ac_rfl
  have e : (((w % 65536 ^^^ (w / 65536) * 4096) ^^^ (w / 65536) * 8) ^^^ (w / 65536) * 2) ^^^ (w / 65536) = (w % 65536) ^^^ ((((w / 65536) * 4096) ^^^ ((w / 65536) * 8)) ^^^ (((w / 65536) * 2) ^^^ (w / 65536))) := by ac_rfl
  rw [e, lin_red, hx, red_small (Nat.mod_lt _ (by decide))]
  rfl

theorem step_lt {w : Nat} (h : 65536 ≤ w) : step w < w := by
  unfold step
  have h1 : w / 65536 ≠ 0 := by omega
  have hlo := Nat.log2_self_le h1
  have hhi := Nat.lt_log2_self (n := w / 65536)
  have hw := Nat.div_add_mod w 65536
  have hm : w % 65536 < 65536 := Nat.mod_lt _ (by decide)
  revert hlo hhi hw hm h1
  generalize w / 65536 = q
  generalize w % 65536 = r
  generalize q.log2 = L
  intro h1 hlo hhi hw hm
  have key : ∀ K, 2 ^ 16 ≤ 2 ^ K → 2 ^ (L + 13) ≤ 2 ^ K → (((r ^^^ q * 4096) ^^^ q * 8) ^^^ q * 2) ^^^ q < 2 ^ K := by
    intro K k1 k2
    have e : 2 ^ (L + 13) = 4096 * 2 ^ (L + 1) := by rw [show L + 13 = 12 + (L + 1) from by omega, Nat.pow_add]
    refine xor_lt (xor_lt (xor_lt (xor_lt ?_ ?_) ?_) ?_) ?_ <;> omega
  have hL : 2 ^ (L + 16) = 65536 * 2 ^ L := by rw [show L + 16 = 16 + L from by omega, Nat.pow_add]
  by_cases hc : L + 13 ≤ 16
  · have := key 16 (Nat.le_refl _) (Nat.pow_le_pow_right (by decide) hc)
    omega
  · have := key (L + 13) (Nat.pow_le_pow_right (by decide) (by omega)) (Nat.le_refl _)
    have : 2 ^ (L + 13) ≤ 2 ^ (L + 16) := Nat.pow_le_pow_right (by decide) (by omega)
    omega

theorem step_lt32 {w : Nat} (h : w < 4294967296) : step w < 4294967296 := by
  by_cases hc : 65536 ≤ w
  · have := step_lt hc; omega
  · unfold step
    rw [Nat.div_eq_of_lt (by omega)]
    simp
    omega

theorem gen_dbl_lt (m : Nat) : ∀ h b, h < 2 ^ (32 - m) → m ≤ 32 → gen dbl m h b < 2 ^ 32 := by
  induction m with
  | zero => intro h b _ _; simp [gen]
  | succ m ih =>
    intro h b hh hm
    simp only [gen]
    have e : 2 ^ (32 - m) = 2 * 2 ^ (32 - (m + 1)) := by
      rw [show 32 - m = (32 - (m + 1)) + 1 from by omega, Nat.pow_succ, Nat.mul_comm]
    have e2 : 2 ^ (32 - (m + 1)) ≤ 2 ^ 32 := Nat.pow_le_pow_right (by decide) (by omega)
    apply xor_lt
    · split <;> omega
    · apply ih
      · show 2 * h < _
        omega
      · omega

theorem cl_lt {a b : Nat} (ha : a < 65536) : cl a b < 4294967296 := gen_dbl_lt 16 a b ha (by decide)

end Go.Proofs.Ytdbdidohldhnhaa.Gf
