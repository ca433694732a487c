/- derive's calls, walked: what is allowed, Stretch, Key, with what stands beside an error. No condition. -/
import Derived.OwnWalk
import Derived.Test.YtdcmjmmfclhfbaaKStr
namespace Go.Proofs.Ytdcmjmmfclhfbaa
open Go.RowKit Bk
set_option linter.unusedVariables false
set_option linter.unusedSimpArgs false

/-- What is asked of a password, a salt, and rounds; and of a block. -/
abbrev okD (p s : ByteArray) (n : Int) : Prop := p.size ≤ 64 ∧ s.size = 16 ∧ 1 ≤ n ∧ n ≤ 64
abbrev okS (p s : ByteArray) (n b : Int) : Prop := okD p s n ∧ 1 ≤ b ∧ b ≤ 2147483647
/-- The key, the check and the error; what is stretched, and the error. -/
def kk (p s : ByteArray) (n : Int) : ByteArray := if okD p s n then dst p (s ++ nb4 1) n.toNat else ⟨#[]⟩
def kc (p s : ByteArray) (n : Int) : ByteArray := if okD p s n then (dst p (s ++ nb4 2) n.toNat).extract 0 8 else ⟨#[]⟩
def ke (p s : ByteArray) (n : Int) : Int := if okD p s n then 0 else 1
def st (p s : ByteArray) (n b : Int) : ByteArray := if okS p s n b then dst p (s ++ nb4 b.toNat) n.toNat else ⟨#[]⟩
def se (p s : ByteArray) (n b : Int) : Int := if okS p s n b then 0 else 1

set_option maxRecDepth 100000 in
theorem allowed_any (p s : ByteArray) (n : Int) (w : World) :
    Calls Try.prog 15 #[.string p, .string s, .int .i64 n] w fun e w' => e = .returned (.bool (decide (okD p s n))) ∧ w' = w := by
  by_cases h1 : p.size ≤ 64
  · have i1 : (p.size : Int) ≤ 64 := by omega
    by_cases h2 : s.size = 16
    · have i2 : (s.size : Int) = 16 := by omega
      have i2b : (Value.int .i64 (s.size : Int)) = .int .i64 16 := by rw [i2]
      by_cases h3 : 1 ≤ n
      · by_cases h4 : n ≤ 64
        · have hd : decide (okD p s n) = true := decide_eq_true ⟨h1, h2, h3, h4⟩
          rw [hd]
          clear hd h1 h2 i2
          go_enter Try.func15, Try.ntmps15
          go_wp2
          go_ret
          exact ⟨rfl, rfl⟩
        · have hd : decide (okD p s n) = false := decide_eq_false fun k => h4 k.2.2.2
          rw [hd]
          clear hd h1 h2 i2
          go_enter Try.func15, Try.ntmps15
          go_wp2
          go_ret
          exact ⟨rfl, rfl⟩
      · have hd : decide (okD p s n) = false := decide_eq_false fun k => h3 k.2.2.1
        rw [hd]
        clear hd h1 h2 i2
        go_enter Try.func15, Try.ntmps15
        go_wp2
        go_ret
        exact ⟨rfl, rfl⟩
    · have i2 : ¬ ((s.size : Int) = 16) := by omega
      have i2b : ¬ ((Value.int .i64 (s.size : Int)) = .int .i64 16) := fun k => i2 (by injection k)
      have hd : decide (okD p s n) = false := decide_eq_false fun k => h2 k.2.1
      rw [hd]
      clear hd h1 h2
      go_enter Try.func15, Try.ntmps15
      go_wp2
      go_ret
      exact ⟨rfl, rfl⟩
  · have i1 : ¬ ((p.size : Int) ≤ 64) := by omega
    have hd : decide (okD p s n) = false := decide_eq_false fun k => h1 k.1
    rw [hd]
    clear hd h1
    go_enter Try.func15, Try.ntmps15
    go_wp2
    go_ret
    exact ⟨rfl, rfl⟩

set_option maxRecDepth 100000 in
theorem stretch_any (p s : ByteArray) (n b : Int) (w : World) :
    Calls Try.prog 11 #[.string p, .string s, .int .i64 n, .int .i64 b] w fun e w' => e = .returned (.tuple #[.string (st p s n b), .int .i64 (se p s n b)]) ∧ Below w.heap.size w w' := by
  by_cases h : okD p s n
  · have hd : decide (okD p s n) = true := decide_eq_true h
    by_cases h1 : 1 ≤ b
    · by_cases h2 : b ≤ 2147483647
      · have e1 : se p s n b = 0 := if_pos ⟨h, h1, h2⟩
        have e2 : st p s n b = dst p (s ++ nb4 b.toNat) n.toNat := if_pos ⟨h, h1, h2⟩
        rw [e1, e2]
        obtain ⟨bn, rfl⟩ : ∃ k : Nat, b = (k : Int) := ⟨b.toNat, by omega⟩
        obtain ⟨nn, rfl⟩ : ∃ k : Nat, n = (k : Int) := ⟨n.toNat, by omega⟩
        have HO := hide (show p.size < 288230376151711744 ∧ s.size < 288230376151711744 ∧ nn ≤ 64 ∧ bn ≤ 2147483647 by omega)
        clear e1 e2 h
        rw [show (bn : Int).toNat = bn by simp, show (nn : Int).toNat = nn by simp]
        go_enter Try.func11, Try.ntmps11
        go_wp2_with fail
        refine (allowed_any p s nn _).mono ?_
        rintro e w1 ⟨rfl, hw1⟩
        obtain rfl := hw1.symm
        rw [hd]
        go_wp2_with fail
        refine (stretched_any p s nn bn _ HO.out.1 HO.out.2.1 HO.out.2.2.1 HO.out.2.2.2).mono ?_
        rintro e w2 ⟨rfl, hw2⟩
        go_wp2_with fail
        go_ret2
        exact ⟨rfl, hw2⟩
      · have e1 : se p s n b = 1 := if_neg fun k => h2 k.2.2
        have e2 : st p s n b = ⟨#[]⟩ := if_neg fun k => h2 k.2.2
        rw [e1, e2]
        clear e1 e2 h
        go_enter Try.func11, Try.ntmps11
        go_wp2_with fail
        refine (allowed_any p s n _).mono ?_
        rintro e w1 ⟨rfl, hw1⟩
        obtain rfl := hw1.symm
        rw [hd]
        go_wp2_with fail
        go_ret2
        exact ⟨rfl, Below.refl _ _⟩
    · have e1 : se p s n b = 1 := if_neg fun k => h1 k.2.1
      have e2 : st p s n b = ⟨#[]⟩ := if_neg fun k => h1 k.2.1
      rw [e1, e2]
      clear e1 e2 h
      go_enter Try.func11, Try.ntmps11
      go_wp2_with fail
      refine (allowed_any p s n _).mono ?_
      rintro e w1 ⟨rfl, hw1⟩
      obtain rfl := hw1.symm
      rw [hd]
      go_wp2_with fail
      go_ret2
      exact ⟨rfl, Below.refl _ _⟩
  · have hd : decide (okD p s n) = false := decide_eq_false h
    have e1 : se p s n b = 1 := if_neg fun k => h k.1
    have e2 : st p s n b = ⟨#[]⟩ := if_neg fun k => h k.1
    rw [e1, e2]
    clear e1 e2 h
    go_enter Try.func11, Try.ntmps11
    go_wp2_with fail
    refine (allowed_any p s n _).mono ?_
    rintro e w1 ⟨rfl, hw1⟩
    obtain rfl := hw1.symm
    rw [hd]
    go_wp2_with fail
    go_ret2
    exact ⟨rfl, Below.refl _ _⟩

set_option maxRecDepth 100000 in
theorem key_any (p s : ByteArray) (n : Int) (w : World) :
    Calls Try.prog 9 #[.string p, .string s, .int .i64 n] w fun e w' => e = .returned (.tuple #[.string (kk p s n), .string (kc p s n), .int .i64 (ke p s n)]) ∧ Below w.heap.size w w' := by
  by_cases h : okD p s n
  · have hd : decide (okD p s n) = true := decide_eq_true h
    have e0 : ke p s n = 0 := if_pos h
    have e1 : kk p s n = dst p (s ++ nb4 1) n.toNat := if_pos h
    have e2 : kc p s n = (dst p (s ++ nb4 2) n.toNat).extract 0 8 := if_pos h
    rw [e0, e1, e2]
    obtain ⟨nn, rfl⟩ : ∃ k : Nat, n = (k : Int) := ⟨n.toNat, by omega⟩
    have HO := hide (show p.size < 288230376151711744 ∧ s.size < 288230376151711744 ∧ nn ≤ 64 by omega)
    rw [show (nn : Int).toNat = nn by simp]
    obtain ⟨K1, k1⟩ : ∃ K, dst p (s ++ nb4 1) nn = K := ⟨_, rfl⟩
    obtain ⟨K2, k2⟩ : ∃ K, dst p (s ++ nb4 2) nn = K := ⟨_, rfl⟩
    have z2 : K2.size = 32 := by rw [← k2]; exact dst_size _ _ _
    obtain ⟨K8, k8⟩ : ∃ K, K2.extract 0 8 = K := ⟨_, rfl⟩
    rw [k1, k2, k8]
    have HK := hide (And.intro k1 k2)
    clear e0 e1 e2 h k1 k2
    go_enter Try.func9, Try.ntmps9
    go_wp2_with fail
    refine (allowed_any p s nn _).mono ?_
    rintro e w1 ⟨rfl, hw1⟩
    obtain rfl := hw1.symm
    rw [hd]
    go_wp2_with fail
    refine (stretched_any p s nn 1 _ HO.out.1 HO.out.2.1 HO.out.2.2 (by decide)).mono ?_
    rintro e w2 ⟨rfl, hw2⟩
    rw [HK.out.1]
    have HB := hide hw2
    clear hw2
    go_wp2_with fail
    refine (stretched_any p s nn 2 _ HO.out.1 HO.out.2.1 HO.out.2.2 (by decide)).mono ?_
    rintro e w3 ⟨rfl, hw3⟩
    rw [HK.out.2]
    have HB3 := hide (HB.out.trans (hw3.mono HB.out.size))
    clear hw3
    go_wp2_with fail
    go_ret3
    exact ⟨rfl, HB3.out⟩
  · have hd : decide (okD p s n) = false := decide_eq_false h
    have e0 : ke p s n = 1 := if_neg h
    have e1 : kk p s n = ⟨#[]⟩ := if_neg h
    have e2 : kc p s n = ⟨#[]⟩ := if_neg h
    rw [e0, e1, e2]
    clear e0 e1 e2 h
    go_enter Try.func9, Try.ntmps9
    go_wp2_with fail
    refine (allowed_any p s n _).mono ?_
    rintro e w1 ⟨rfl, hw1⟩
    obtain rfl := hw1.symm
    rw [hd]
    go_wp2_with fail
    go_ret3
    exact ⟨rfl, Below.refl _ _⟩
end Go.Proofs.Ytdcmjmmfclhfbaa
