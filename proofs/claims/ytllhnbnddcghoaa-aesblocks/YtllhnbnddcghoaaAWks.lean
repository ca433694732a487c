/- What each statement on ciphers asks first: the examples, walked. -/
import Derived.Test.YtllhnbnddcghoaaARow
import Derived.Test.YtllhnbnddcghoaaANew
import Derived.Test.YtllhnbnddcghoaaAEnc
import Derived.Test.YtllhnbnddcghoaaADec
namespace Go.Proofs.Ytllhnbnddcghoaa
open Go.RowKit Bk
set_option linter.unusedVariables false
set_option linter.unusedSimpArgs false

/-- A row of bytes as a text. -/
def rwt (n : Nat) (c : UInt8) : ByteArray := ⟨(rwl n c).toArray⟩
theorem rwt_size (n : Nat) (c : UInt8) : (rwt n c).size = n := by rw [← sb_length]; exact rwl_length n c
theorem rwt_sb (n : Nat) (c : UInt8) : sb (rwt n c) = rwl n c := rfl
/-- A cipher of key K's words in block b, in a world behind w. -/
def kw (K : ByteArray) : List UInt8 := spr SB (sb K) 60
theorem kw_length {K : ByteArray} (h : K.size = 32) : (kw K).length = 240 := spr_length SB (sb K) (by rw [sb_length, h]) 60
structure Ck (w w' : World) (b : Nat) (K : ByteArray) : Prop where
  row : Row w' b 0 (bs (ciB (kw K)))
  be : Below w.heap.size w w'
theorem Ck.below {w w' w2 : World} {b : Nat} {K : ByteArray} (h : Ck w w' b K) (k : Below w'.heap.size w' w2) : Ck w w2 b K := ⟨h.row.below k h.row.lt, h.be.trans (k.mono h.be.size)⟩
/-- Enciphered, deciphered: as texts. -/
def et (K x : ByteArray) : ByteArray := ⟨(enc (kw K) (sb x)).toArray⟩
def dt (K x : ByteArray) : ByteArray := ⟨(dec (kw K) (sb x)).toArray⟩
theorem et_sb (K x : ByteArray) : sb (et K x) = enc (kw K) (sb x) := by unfold et; exact sb_mk _
theorem dt_sb (K x : ByteArray) : sb (dt K x) = dec (kw K) (sb x) := by unfold dt; exact sb_mk _
theorem et_size {K x : ByteArray} (h : K.size = 32) (hx : x.size = 16) : (et K x).size = 16 := by rw [← sb_length, et_sb]; exact enc_length (kw_length h) (by rw [sb_length, hx])
theorem dt_size {K x : ByteArray} (h : K.size = 32) (hx : x.size = 16) : (dt K x).size = 16 := by rw [← sb_length, dt_sb]; exact dec_length (kw_length h) (by rw [sb_length, hx])
theorem dt_et {K x : ByteArray} (h : K.size = 32) (hx : x.size = 16) : dt K (et K x) = x := sb_inj (by rw [dt_sb, et_sb]; exact dec_enc (kw_length h) (by rw [sb_length, hx]))
theorem et_dt {K x : ByteArray} (h : K.size = 32) (hx : x.size = 16) : et K (dt K x) = x := sb_inj (by rw [et_sb, dt_sb]; exact enc_dec (kw_length h) (by rw [sb_length, hx]))
theorem et_inj {K x y : ByteArray} (h : K.size = 32) (hx : x.size = 16) (hy : y.size = 16) : et K x = et K y ↔ x = y := ⟨fun e => by rw [← dt_et h hx, e, dt_et h hy], fun e => by rw [e]⟩
theorem dt_inj {K x y : ByteArray} (h : K.size = 32) (hx : x.size = 16) (hy : y.size = 16) : dt K x = dt K y ↔ x = y := ⟨fun e => by rw [← et_dt h hx, e, et_dt h hy], fun e => by rw [e]⟩
/-- The calls, as the statements meet them. -/
theorem new_c (K : ByteArray) (w : World) (hk : K.size = 32) : Calls Try.prog 11 #[.string K] w fun e w' => ∃ b, e = .returned (.tuple #[.pointer (some ⟨b, 0, none⟩), .int .i64 0]) ∧ Row w' b 0 (bs (ciB (kw K))) ∧ w.heap.size ≤ b ∧ Below w.heap.size w w' := by
  refine (aNew_any K w hk).mono ?_
  rintro e w' ⟨b, rfl, h1, h2, h3⟩
  exact ⟨b, rfl, h2, h1, h3⟩
theorem enc_c (K x : ByteArray) (w : World) (b : Nat) (hk : K.size = 32) (hx : x.size = 16) (hR : Row w b 0 (bs (ciB (kw K)))) : Calls Try.prog 8 #[.pointer (some ⟨b, 0, none⟩), .string x] w fun e w' => e = .returned (.tuple #[.string (et K x), .int .i64 0]) ∧ Below w.heap.size w w' := aEnc_any x (kw K) w b hx (kw_length hk) hR
theorem dec_c (K x : ByteArray) (w : World) (b : Nat) (hk : K.size = 32) (hx : x.size = 16) (hR : Row w b 0 (bs (ciB (kw K)))) : Calls Try.prog 9 #[.pointer (some ⟨b, 0, none⟩), .string x] w fun e w' => e = .returned (.tuple #[.string (dt K x), .int .i64 0]) ∧ Below w.heap.size w w' := aDec_any x (kw K) w b hx (kw_length hk) hR
theorem row_32_1 (w : World) : Calls Try.prog 10 #[.int .i64 32, .int .u8 1] w fun e w' => e = .returned (.string (rwt 32 1)) ∧ Below w.heap.size w w' := arow_any 32 1 w (by decide) (by decide)
theorem row_31_1 (w : World) : Calls Try.prog 10 #[.int .i64 31, .int .u8 1] w fun e w' => e = .returned (.string (rwt 31 1)) ∧ Below w.heap.size w w' := arow_any 31 1 w (by decide) (by decide)
theorem row_16_17 (w : World) : Calls Try.prog 10 #[.int .i64 16, .int .u8 17] w fun e w' => e = .returned (.string (rwt 16 17)) ∧ Below w.heap.size w w' := arow_any 16 17 w (by decide) (by decide)
theorem row_15_17 (w : World) : Calls Try.prog 10 #[.int .i64 15, .int .u8 17] w fun e w' => e = .returned (.string (rwt 15 17)) ∧ Below w.heap.size w w' := arow_any 15 17 w (by decide) (by decide)
theorem row_16_0 (w : World) : Calls Try.prog 10 #[.int .i64 16, .int .u8 0] w fun e w' => e = .returned (.string (rwt 16 0)) ∧ Below w.heap.size w w' := arow_any 16 0 w (by decide) (by decide)
theorem row_32_0 (w : World) : Calls Try.prog 10 #[.int .i64 32, .int .u8 0] w fun e w' => e = .returned (.string (rwt 32 0)) ∧ Below w.heap.size w w' := arow_any 32 0 w (by decide) (by decide)
theorem row_33_0 (w : World) : Calls Try.prog 10 #[.int .i64 33, .int .u8 0] w fun e w' => e = .returned (.string (rwt 33 0)) ∧ Below w.heap.size w w' := arow_any 33 0 w (by decide) (by decide)
theorem row_17_0 (w : World) : Calls Try.prog 10 #[.int .i64 17, .int .u8 0] w fun e w' => e = .returned (.string (rwt 17 0)) ∧ Below w.heap.size w w' := arow_any 17 0 w (by decide) (by decide)
def exB : ByteArray := ⟨#[142, 162, 183, 202, 81, 103, 69, 191, 234, 252, 73, 144, 75, 73, 96, 137]⟩
theorem ex_text : et (rwt 32 1) (rwt 16 17) = exB := by
  show ByteArray.mk (enc (spr SB (sb (rwt 32 1)) 60) (sb (rwt 16 17))).toArray = exB
  rw [rwt_sb, rwt_sb, ex_ok]
  rfl

set_option maxRecDepth 100000 in
set_option maxHeartbeats 8000000 in
theorem works_any (w : World) : Calls Try.prog 12 #[] w fun e w' => e = .returned (.bool true) ∧ Below w.heap.size w w' := by
  obtain ⟨Z, eZ⟩ : ∃ Z, exB = Z := ⟨_, rfl⟩
  obtain ⟨K, eK⟩ : ∃ K, rwt 32 1 = K := ⟨_, rfl⟩
  obtain ⟨X, eX⟩ : ∃ X, rwt 16 17 = X := ⟨_, rfl⟩
  obtain ⟨K1, eK1⟩ : ∃ X, rwt 31 1 = X := ⟨_, rfl⟩
  obtain ⟨X1, eX1⟩ : ∃ X, rwt 15 17 = X := ⟨_, rfl⟩
  have HZ := hide (show (⟨#[142, 162, 183, 202, 81, 103, 69, 191, 234, 252, 73, 144, 75, 73, 96, 137]⟩ : ByteArray) = Z from eZ)
  have HE := hide (show et K X = Z by rw [← eK, ← eX, ← eZ]; exact ex_text)
  have HL := hide (show K.size = 32 ∧ X.size = 16 ∧ K1.size ≠ 32 ∧ X1.size ≠ 16 by
    rw [← eK, ← eX, ← eK1, ← eX1, rwt_size, rwt_size, rwt_size, rwt_size]
    decide)
  have HN := hide (And.intro eK (And.intro eX (And.intro eK1 eX1)))
  clear eZ eK eX eK1 eX1
  go_enter Try.func12, Try.ntmps12
  rw [HZ.out]
  go_wp2_with fail
  refine (row_32_1 _).mono ?_
  rintro e w1 ⟨rfl, hB⟩
  rw [HN.out.1]
  have HB1 := hide hB
  clear hB
  go_wp2_with fail
  refine (new_c K _ HL.out.1).mono ?_
  rintro e w2 ⟨b, rfl, hR, hb, hB⟩
  have HC2 := hide (show Ck w w2 b K from ⟨hR, HB1.out.trans (hB.mono HB1.out.size)⟩)
  clear hR hB hb HB1
  go_wp2_with fail
  refine (row_31_1 _).mono ?_
  rintro e w3 ⟨rfl, hB⟩
  rw [HN.out.2.2.1]
  have HC3 := hide (HC2.out.below hB)
  clear hB HC2
  go_wp2_with fail
  refine (aNew_bad K1 _ HL.out.2.2.1).mono ?_
  rintro e w4 ⟨rfl, hw⟩
  obtain rfl := hw.symm
  go_wp2_with fail
  refine (row_16_17 _).mono ?_
  rintro e w5 ⟨rfl, hB⟩
  rw [HN.out.2.1]
  have HC5 := hide (HC3.out.below hB)
  clear hB HC3
  go_wp2_with fail
  refine (enc_c K X _ b HL.out.1 HL.out.2.1 HC5.out.row).mono ?_
  rintro e w6 ⟨rfl, hB⟩
  rw [HE.out]
  have HC6 := hide (HC5.out.below hB)
  clear hB HC5
  go_wp2_with fail
  refine (row_15_17 _).mono ?_
  rintro e w7 ⟨rfl, hB⟩
  rw [HN.out.2.2.2]
  have HC7 := hide (HC6.out.below hB)
  clear hB HC6
  go_wp2_with fail
  refine (aEnc_bad X1 b _ HL.out.2.2.2).mono ?_
  rintro e w8 ⟨rfl, hB⟩
  have HC8 := hide (HC7.out.below hB)
  clear hB HC7
  go_wp2_with fail
  go_ret
  exact ⟨rfl, HC8.out.be⟩
end Go.Proofs.Ytllhnbnddcghoaa
