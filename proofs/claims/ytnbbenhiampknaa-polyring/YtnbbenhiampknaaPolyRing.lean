/- For any three slices of numbers of 16 bits and any such number the statement PolyRing returns true and its arguments read as before. No condition. -/
import Derived.Test.YtnbbenhiampknaaArgs
import Derived.Test.YtnbbenhiampknaaRefsP
namespace Go.Proofs.Ytnbbenhiampknaa
open Go.ChangeShapes Go.WideShapes Go.ChangeAt Go.RowKit Gf
open Go.ChangeMaps (open_string shut_string)
set_option linter.unusedVariables false

theorem val_add {x : Int} {n m k : Nat} {f g : Nat → Int} (hx : 0 ≤ x ∧ x ≤ 65535) (hf : P16 f) (hg : P16 g) (hfo : ∀ j, n ≤ j → f j = 0) (hgo : ∀ j, m ≤ j → g j = 0) (hk : ∀ j, k ≤ j → addp f g j = 0) : atp x k (addp f g) = xI (atp x n f) (atp x m g) := by
  have h : ∀ j, n + m ≤ j → addp f g j = 0 := fun j hj => by show xI (f j) (g j) = 0; rw [hfo j (by omega), hgo j (by omega), f7]
  rw [atp_same x hk h, atp_add x hx _ hf hg, atp_more x hfo m, Nat.add_comm n m, atp_more x hgo n]
theorem val_mul {x : Int} {n m k : Nat} {f g : Nat → Int} (hx : 0 ≤ x ∧ x ≤ 65535) (hf : P16 f) (hg : P16 g) (hfo : ∀ j, n ≤ j → f j = 0) (hgo : ∀ j, m ≤ j → g j = 0) (hk : ∀ j, k ≤ j → mulp f g j = 0) : atp x k (mulp f g) = gI (atp x n f) (atp x m g) := by
  have h : ∀ j, k + (n + m) ≤ j → mulp f g j = 0 := fun j hj => hk j (by omega)
  rw [atp_same x hk h]
  exact atp_mul x hx hf hg hfo hgo (by omega)

set_option maxRecDepth 100000 in
set_option maxHeartbeats 4000000 in
theorem polyRing_any {w : World} {a0 a1 a2 : Option Addr} {n0 c0 n1 c1 n2 c2 : Nat} {p0 p1 p2 : Nat → Int} {x : Int} (h0 : Sl w a0 n0 c0 p0) (m0 : n0 ≤ maxLen) (h1 : Sl w a1 n1 c1 p1) (m1 : n1 ≤ maxLen) (h2 : Sl w a2 n2 c2 p2) (m2 : n2 ≤ maxLen) (hx : 0 ≤ x ∧ x ≤ 65535) :
    Calls Try.prog 5 #[.slice a0 n0 c0, .slice a1 n1 c1, .slice a2 n2 c2, .int .u16 x] w fun e w' => e = .returned (.bool true) ∧ Below w.heap.size w w' := by
  unfold maxLen at m0 m1 m2
  by_cases g0 : 40 < n0
  · go_enter Try.func5, Try.ntmps5
    go_wp2_with fail
    refine (awake_any _).mono ?_
    rintro e w' ⟨rfl, hB⟩
    go_wp2
    go_ret
    exact ⟨rfl, hB⟩
  by_cases g1 : 40 < n1
  · go_enter Try.func5, Try.ntmps5
    go_wp2_with fail
    refine (awake_any _).mono ?_
    rintro e w' ⟨rfl, hB⟩
    go_wp2
    go_ret
    exact ⟨rfl, hB⟩
  by_cases g2 : 40 < n2
  · go_enter Try.func5, Try.ntmps5
    go_wp2_with fail
    refine (awake_any _).mono ?_
    rintro e w' ⟨rfl, hB⟩
    go_wp2
    go_ret
    exact ⟨rfl, hB⟩
  have hT := Below.refl w.heap.size w
  have d0 := h0.bd
  have d1 := h1.bd
  have d2 := h2.bd
  have u0 := h0.out
  have u1 := h1.out
  have u2 := h2.out
  have HD := hide (And.intro d0 (And.intro d1 (And.intro d2 (And.intro u0 (And.intro u1 u2)))))
  clear d0 d1 d2 u0 u1 u2
  go_enter Try.func5, Try.ntmps5
  go_wp2_with fail
  refine (awake_any _).mono ?_
  rintro e w11 ⟨rfl, b11⟩
  replace h0 := h0.below b11
  replace h1 := h1.below b11
  replace h2 := h2.below b11
  replace hT := hT.trans (b11.mono hT.size)
  clear b11
  go_wp2_with fail
  refine (padd_any h0 h1 (by omega) (by omega)).mono ?_
  rintro e w12 ⟨a12, n12, c12, rfl, m12, s12, h12⟩
  replace h0 := h0.below h12.bel
  replace h1 := h1.below h12.bel
  replace h2 := h2.below h12.bel
  replace hT := hT.trans (h12.bel.mono hT.size)
  replace h12 := h12.sl
  go_wp2_with fail
  refine (padd_any h1 h0 (by omega) (by omega)).mono ?_
  rintro e w13 ⟨a13, n13, c13, rfl, m13, s13, h13⟩
  replace h0 := h0.below h13.bel
  replace h1 := h1.below h13.bel
  replace h2 := h2.below h13.bel
  replace h12 := h12.below h13.bel
  replace hT := hT.trans (h13.bel.mono hT.size)
  replace h13 := h13.sl
  go_wp2_with fail
  refine (same_sh h12 h13 s12 s13 (by omega) (addp_comm _ _)).mono ?_
  rintro e w14 ⟨rfl, b14⟩
  replace h0 := h0.below b14
  replace h1 := h1.below b14
  replace h2 := h2.below b14
  replace h12 := h12.below b14
  replace h13 := h13.below b14
  replace hT := hT.trans (b14.mono hT.size)
  clear b14
  clear h12 h13
  clear s12 s13
  go_wp2_with fail
  refine (pmul_any h0 h1 (by omega) (by omega)).mono ?_
  rintro e w15 ⟨a15, n15, c15, rfl, m15, s15, h15⟩
  replace h0 := h0.below h15.bel
  replace h1 := h1.below h15.bel
  replace h2 := h2.below h15.bel
  replace hT := hT.trans (h15.bel.mono hT.size)
  replace h15 := h15.sl
  go_wp2_with fail
  refine (pmul_any h1 h0 (by omega) (by omega)).mono ?_
  rintro e w16 ⟨a16, n16, c16, rfl, m16, s16, h16⟩
  replace h0 := h0.below h16.bel
  replace h1 := h1.below h16.bel
  replace h2 := h2.below h16.bel
  replace h15 := h15.below h16.bel
  replace hT := hT.trans (h16.bel.mono hT.size)
  replace h16 := h16.sl
  go_wp2_with fail
  refine (same_sh h15 h16 s15 s16 (by omega) (mulp_comm HD.out.1 HD.out.2.1)).mono ?_
  rintro e w17 ⟨rfl, b17⟩
  replace h0 := h0.below b17
  replace h1 := h1.below b17
  replace h2 := h2.below b17
  replace h15 := h15.below b17
  replace h16 := h16.below b17
  replace hT := hT.trans (b17.mono hT.size)
  clear b17
  clear h15 h16
  clear s15 s16
  go_wp2_with fail
  refine (pmul_any h0 h1 (by omega) (by omega)).mono ?_
  rintro e w18 ⟨a18, n18, c18, rfl, m18, s18, h18⟩
  replace h0 := h0.below h18.bel
  replace h1 := h1.below h18.bel
  replace h2 := h2.below h18.bel
  replace hT := hT.trans (h18.bel.mono hT.size)
  replace h18 := h18.sl
  go_wp2_with fail
  refine (pmul_any h18 h2 (by omega) (by omega)).mono ?_
  rintro e w19 ⟨a19, n19, c19, rfl, m19, s19, h19⟩
  replace h0 := h0.below h19.bel
  replace h1 := h1.below h19.bel
  replace h2 := h2.below h19.bel
  replace h18 := h18.below h19.bel
  replace hT := hT.trans (h19.bel.mono hT.size)
  replace h19 := h19.sl
  go_wp2_with fail
  refine (pmul_any h1 h2 (by omega) (by omega)).mono ?_
  rintro e w20 ⟨a20, n20, c20, rfl, m20, s20, h20⟩
  replace h0 := h0.below h20.bel
  replace h1 := h1.below h20.bel
  replace h2 := h2.below h20.bel
  replace h18 := h18.below h20.bel
  replace h19 := h19.below h20.bel
  replace hT := hT.trans (h20.bel.mono hT.size)
  replace h20 := h20.sl
  go_wp2_with fail
  refine (pmul_any h0 h20 (by omega) (by omega)).mono ?_
  rintro e w21 ⟨a21, n21, c21, rfl, m21, s21, h21⟩
  replace h0 := h0.below h21.bel
  replace h1 := h1.below h21.bel
  replace h2 := h2.below h21.bel
  replace h18 := h18.below h21.bel
  replace h19 := h19.below h21.bel
  replace h20 := h20.below h21.bel
  replace hT := hT.trans (h21.bel.mono hT.size)
  replace h21 := h21.sl
  go_wp2_with fail
  refine (same_sh h19 h21 s19 s21 (by omega) (mulp_assoc HD.out.1 HD.out.2.1 HD.out.2.2.1)).mono ?_
  rintro e w22 ⟨rfl, b22⟩
  replace h0 := h0.below b22
  replace h1 := h1.below b22
  replace h2 := h2.below b22
  replace h18 := h18.below b22
  replace h19 := h19.below b22
  replace h20 := h20.below b22
  replace h21 := h21.below b22
  replace hT := hT.trans (b22.mono hT.size)
  clear b22
  clear h19 h21
  clear s19 s21
  clear h18
  clear s18
  clear h20
  clear s20
  go_wp2_with fail
  refine (padd_any h1 h2 (by omega) (by omega)).mono ?_
  rintro e w23 ⟨a23, n23, c23, rfl, m23, s23, h23⟩
  replace h0 := h0.below h23.bel
  replace h1 := h1.below h23.bel
  replace h2 := h2.below h23.bel
  replace hT := hT.trans (h23.bel.mono hT.size)
  replace h23 := h23.sl
  go_wp2_with fail
  refine (pmul_any h0 h23 (by omega) (by omega)).mono ?_
  rintro e w24 ⟨a24, n24, c24, rfl, m24, s24, h24⟩
  replace h0 := h0.below h24.bel
  replace h1 := h1.below h24.bel
  replace h2 := h2.below h24.bel
  replace h23 := h23.below h24.bel
  replace hT := hT.trans (h24.bel.mono hT.size)
  replace h24 := h24.sl
  go_wp2_with fail
  refine (pmul_any h0 h1 (by omega) (by omega)).mono ?_
  rintro e w25 ⟨a25, n25, c25, rfl, m25, s25, h25⟩
  replace h0 := h0.below h25.bel
  replace h1 := h1.below h25.bel
  replace h2 := h2.below h25.bel
  replace h23 := h23.below h25.bel
  replace h24 := h24.below h25.bel
  replace hT := hT.trans (h25.bel.mono hT.size)
  replace h25 := h25.sl
  go_wp2_with fail
  refine (pmul_any h0 h2 (by omega) (by omega)).mono ?_
  rintro e w26 ⟨a26, n26, c26, rfl, m26, s26, h26⟩
  replace h0 := h0.below h26.bel
  replace h1 := h1.below h26.bel
  replace h2 := h2.below h26.bel
  replace h23 := h23.below h26.bel
  replace h24 := h24.below h26.bel
  replace h25 := h25.below h26.bel
  replace hT := hT.trans (h26.bel.mono hT.size)
  replace h26 := h26.sl
  go_wp2_with fail
  refine (padd_any h25 h26 (by omega) (by omega)).mono ?_
  rintro e w27 ⟨a27, n27, c27, rfl, m27, s27, h27⟩
  replace h0 := h0.below h27.bel
  replace h1 := h1.below h27.bel
  replace h2 := h2.below h27.bel
  replace h23 := h23.below h27.bel
  replace h24 := h24.below h27.bel
  replace h25 := h25.below h27.bel
  replace h26 := h26.below h27.bel
  replace hT := hT.trans (h27.bel.mono hT.size)
  replace h27 := h27.sl
  go_wp2_with fail
  refine (same_sh h24 h27 s24 s27 (by omega) (mulp_addr HD.out.1 HD.out.2.1 HD.out.2.2.1)).mono ?_
  rintro e w28 ⟨rfl, b28⟩
  replace h0 := h0.below b28
  replace h1 := h1.below b28
  replace h2 := h2.below b28
  replace h23 := h23.below b28
  replace h24 := h24.below b28
  replace h25 := h25.below b28
  replace h26 := h26.below b28
  replace h27 := h27.below b28
  replace hT := hT.trans (b28.mono hT.size)
  clear b28
  clear h24 h27
  clear s24 s27
  clear h23
  clear s23
  clear h25
  clear s25
  clear h26
  clear s26
  go_wp2_with fail
  refine (padd_any h0 h1 (by omega) (by omega)).mono ?_
  rintro e w29 ⟨a29, n29, c29, rfl, m29, s29, h29⟩
  replace h0 := h0.below h29.bel
  replace h1 := h1.below h29.bel
  replace h2 := h2.below h29.bel
  replace hT := hT.trans (h29.bel.mono hT.size)
  replace h29 := h29.sl
  have e1 := bne_no (val_add hx HD.out.1 HD.out.2.1 HD.out.2.2.2.1 HD.out.2.2.2.2.1 s29.2)
  go_wp2_with fail
  refine (at_any h29 (by omega) hx).mono ?_
  rintro e w30 ⟨rfl, b30⟩
  replace h0 := h0.below b30
  replace h1 := h1.below b30
  replace h2 := h2.below b30
  replace h29 := h29.below b30
  replace hT := hT.trans (b30.mono hT.size)
  clear b30
  go_wp2_with fail
  refine (at_any h0 (by omega) hx).mono ?_
  rintro e w31 ⟨rfl, b31⟩
  replace h0 := h0.below b31
  replace h1 := h1.below b31
  replace h2 := h2.below b31
  replace h29 := h29.below b31
  replace hT := hT.trans (b31.mono hT.size)
  clear b31
  have y0 := atp16 x n0 p0 HD.out.1
  go_wp2_with fail
  refine (at_any h1 (by omega) hx).mono ?_
  rintro e w32 ⟨rfl, b32⟩
  replace h0 := h0.below b32
  replace h1 := h1.below b32
  replace h2 := h2.below b32
  replace h29 := h29.below b32
  replace hT := hT.trans (b32.mono hT.size)
  clear b32
  have y1 := atp16 x n1 p1 HD.out.2.1
  have hxor := xI_bits _ _ (show 0 ≤ atp x n0 p0 ∧ atp x n0 p0 < 65536 by omega) (show 0 ≤ atp x n1 p1 ∧ atp x n1 p1 < 65536 by omega)
  clear h29
  clear s29
  go_wp2_with fail
  refine (pmul_any h0 h1 (by omega) (by omega)).mono ?_
  rintro e w33 ⟨a33, n33, c33, rfl, m33, s33, h33⟩
  replace h0 := h0.below h33.bel
  replace h1 := h1.below h33.bel
  replace h2 := h2.below h33.bel
  replace hT := hT.trans (h33.bel.mono hT.size)
  replace h33 := h33.sl
  have e2 := bne_no (val_mul hx HD.out.1 HD.out.2.1 HD.out.2.2.2.1 HD.out.2.2.2.2.1 s33.2)
  go_wp2_with fail
  refine (at_any h33 (by omega) hx).mono ?_
  rintro e w34 ⟨rfl, b34⟩
  replace h0 := h0.below b34
  replace h1 := h1.below b34
  replace h2 := h2.below b34
  replace h33 := h33.below b34
  replace hT := hT.trans (b34.mono hT.size)
  clear b34
  go_wp2_with fail
  refine (at_any h0 (by omega) hx).mono ?_
  rintro e w35 ⟨rfl, b35⟩
  replace h0 := h0.below b35
  replace h1 := h1.below b35
  replace h2 := h2.below b35
  replace h33 := h33.below b35
  replace hT := hT.trans (b35.mono hT.size)
  clear b35
  go_wp2_with fail
  refine (at_any h1 (by omega) hx).mono ?_
  rintro e w36 ⟨rfl, b36⟩
  replace h0 := h0.below b36
  replace h1 := h1.below b36
  replace h2 := h2.below b36
  replace h33 := h33.below b36
  replace hT := hT.trans (b36.mono hT.size)
  clear b36
  go_wp2_with fail
  refine (refMul_any _ _ _ (by omega) (by omega)).mono ?_
  rintro e w37 ⟨rfl, rfl⟩
  clear h33
  clear s33
  go_wp2_with fail
  refine (padd_any h0 h1 (by omega) (by omega)).mono ?_
  rintro e w38 ⟨a38, n38, c38, rfl, m38, s38, h38⟩
  replace h0 := h0.below h38.bel
  replace h1 := h1.below h38.bel
  replace h2 := h2.below h38.bel
  replace hT := hT.trans (h38.bel.mono hT.size)
  replace h38 := h38.sl
  go_wp2_with fail
  refine (slope_any h38 (by omega)).mono ?_
  rintro e w39 ⟨a39, n39, c39, rfl, m39, s39, h39⟩
  replace h0 := h0.below h39.bel
  replace h1 := h1.below h39.bel
  replace h2 := h2.below h39.bel
  replace h38 := h38.below h39.bel
  replace hT := hT.trans (h39.bel.mono hT.size)
  replace h39 := h39.sl
  go_wp2_with fail
  refine (slope_any h0 (by omega)).mono ?_
  rintro e w40 ⟨a40, n40, c40, rfl, m40, s40, h40⟩
  replace h0 := h0.below h40.bel
  replace h1 := h1.below h40.bel
  replace h2 := h2.below h40.bel
  replace h38 := h38.below h40.bel
  replace h39 := h39.below h40.bel
  replace hT := hT.trans (h40.bel.mono hT.size)
  replace h40 := h40.sl
  go_wp2_with fail
  refine (slope_any h1 (by omega)).mono ?_
  rintro e w41 ⟨a41, n41, c41, rfl, m41, s41, h41⟩
  replace h0 := h0.below h41.bel
  replace h1 := h1.below h41.bel
  replace h2 := h2.below h41.bel
  replace h38 := h38.below h41.bel
  replace h39 := h39.below h41.bel
  replace h40 := h40.below h41.bel
  replace hT := hT.trans (h41.bel.mono hT.size)
  replace h41 := h41.sl
  go_wp2_with fail
  refine (padd_any h40 h41 (by omega) (by omega)).mono ?_
  rintro e w42 ⟨a42, n42, c42, rfl, m42, s42, h42⟩
  replace h0 := h0.below h42.bel
  replace h1 := h1.below h42.bel
  replace h2 := h2.below h42.bel
  replace h38 := h38.below h42.bel
  replace h39 := h39.below h42.bel
  replace h40 := h40.below h42.bel
  replace h41 := h41.below h42.bel
  replace hT := hT.trans (h42.bel.mono hT.size)
  replace h42 := h42.sl
  go_wp2_with fail
  refine (same_sh h39 h42 s39 s42 (by omega) (slp_add _ _)).mono ?_
  rintro e w43 ⟨rfl, b43⟩
  replace h0 := h0.below b43
  replace h1 := h1.below b43
  replace h2 := h2.below b43
  replace h38 := h38.below b43
  replace h39 := h39.below b43
  replace h40 := h40.below b43
  replace h41 := h41.below b43
  replace h42 := h42.below b43
  replace hT := hT.trans (b43.mono hT.size)
  clear b43
  clear h39 h42
  clear s39 s42
  clear h38
  clear s38
  clear h40
  clear s40
  clear h41
  clear s41
  go_wp2_with fail
  refine (pmul_any h0 h1 (by omega) (by omega)).mono ?_
  rintro e w44 ⟨a44, n44, c44, rfl, m44, s44, h44⟩
  replace h0 := h0.below h44.bel
  replace h1 := h1.below h44.bel
  replace h2 := h2.below h44.bel
  replace hT := hT.trans (h44.bel.mono hT.size)
  replace h44 := h44.sl
  go_wp2_with fail
  refine (slope_any h44 (by omega)).mono ?_
  rintro e w45 ⟨a45, n45, c45, rfl, m45, s45, h45⟩
  replace h0 := h0.below h45.bel
  replace h1 := h1.below h45.bel
  replace h2 := h2.below h45.bel
  replace h44 := h44.below h45.bel
  replace hT := hT.trans (h45.bel.mono hT.size)
  replace h45 := h45.sl
  go_wp2_with fail
  refine (slope_any h1 (by omega)).mono ?_
  rintro e w46 ⟨a46, n46, c46, rfl, m46, s46, h46⟩
  replace h0 := h0.below h46.bel
  replace h1 := h1.below h46.bel
  replace h2 := h2.below h46.bel
  replace h44 := h44.below h46.bel
  replace h45 := h45.below h46.bel
  replace hT := hT.trans (h46.bel.mono hT.size)
  replace h46 := h46.sl
  go_wp2_with fail
  refine (pmul_any h0 h46 (by omega) (by omega)).mono ?_
  rintro e w47 ⟨a47, n47, c47, rfl, m47, s47, h47⟩
  replace h0 := h0.below h47.bel
  replace h1 := h1.below h47.bel
  replace h2 := h2.below h47.bel
  replace h44 := h44.below h47.bel
  replace h45 := h45.below h47.bel
  replace h46 := h46.below h47.bel
  replace hT := hT.trans (h47.bel.mono hT.size)
  replace h47 := h47.sl
  go_wp2_with fail
  refine (slope_any h0 (by omega)).mono ?_
  rintro e w48 ⟨a48, n48, c48, rfl, m48, s48, h48⟩
  replace h0 := h0.below h48.bel
  replace h1 := h1.below h48.bel
  replace h2 := h2.below h48.bel
  replace h44 := h44.below h48.bel
  replace h45 := h45.below h48.bel
  replace h46 := h46.below h48.bel
  replace h47 := h47.below h48.bel
  replace hT := hT.trans (h48.bel.mono hT.size)
  replace h48 := h48.sl
  go_wp2_with fail
  refine (pmul_any h1 h48 (by omega) (by omega)).mono ?_
  rintro e w49 ⟨a49, n49, c49, rfl, m49, s49, h49⟩
  replace h0 := h0.below h49.bel
  replace h1 := h1.below h49.bel
  replace h2 := h2.below h49.bel
  replace h44 := h44.below h49.bel
  replace h45 := h45.below h49.bel
  replace h46 := h46.below h49.bel
  replace h47 := h47.below h49.bel
  replace h48 := h48.below h49.bel
  replace hT := hT.trans (h49.bel.mono hT.size)
  replace h49 := h49.sl
  go_wp2_with fail
  refine (padd_any h47 h49 (by omega) (by omega)).mono ?_
  rintro e w50 ⟨a50, n50, c50, rfl, m50, s50, h50⟩
  replace h0 := h0.below h50.bel
  replace h1 := h1.below h50.bel
  replace h2 := h2.below h50.bel
  replace h44 := h44.below h50.bel
  replace h45 := h45.below h50.bel
  replace h46 := h46.below h50.bel
  replace h47 := h47.below h50.bel
  replace h48 := h48.below h50.bel
  replace h49 := h49.below h50.bel
  replace hT := hT.trans (h50.bel.mono hT.size)
  replace h50 := h50.sl
  go_wp2_with fail
  refine (same_sh h45 h50 s45 s50 (by omega) (slp_mul HD.out.1 HD.out.2.1)).mono ?_
  rintro e w51 ⟨rfl, b51⟩
  replace h0 := h0.below b51
  replace h1 := h1.below b51
  replace h2 := h2.below b51
  replace h44 := h44.below b51
  replace h45 := h45.below b51
  replace h46 := h46.below b51
  replace h47 := h47.below b51
  replace h48 := h48.below b51
  replace h49 := h49.below b51
  replace h50 := h50.below b51
  replace hT := hT.trans (b51.mono hT.size)
  clear b51
  clear h45 h50
  clear s45 s50
  go_wp2_with fail
  go_ret
  exact ⟨rfl, hT⟩

theorem polyRing_own : ownKnob Try.prog.godebug = none := by kernel_rfl
theorem polyRing_laidOut : laidOutB Try.prog = true := by kernel_rfl

set_option maxRecDepth 100000 in
theorem polyRing_lifted (os : Os) (started : os.Started) (H : Type) (enc : TypeId × Value → H) :
    ReturnsInHanded {} Try.checked os 5 .any (Rows.polyRingSpec.pre6 enc Try.prog Try.f5 Rows.polyRingRow.domain false) (Rows.polyRingSpec.post enc Try.prog Try.f5 false true false false) := by
  refine returnsInHanded_of_change (C := Try.checked) polyRing_own started (by kernel_rfl) Try.func5
    (ChangeSpec.witness6 (enc := enc) (C := Try.checked) false ⟨#[], #[.slice none 0 0, .slice none 0 0, .slice none 0 0, .int .u16 0], []⟩ 8 (by kernel_rfl) (by kernel_rfl) (by kernel_rfl) (by kernel_rfl)) ?_
  intro W base args ds gs before hval0 hW hcnd _
  have hval : ∀ (j : Nat) t v, Try.f5.params[j]? = some t → args[j]? = some v → Value.okWide Try.prog W .any base t v := hval0
  have hW' := hW
  obtain ⟨p, q, hA0, hV, rfl, hfz, hnd⟩ := hW
  have hA : DataW.TrodAll enc Try.prog W 0 (fun _ => true) true Try.f5.params.toList args.toList ds p := hA0
  rw [Try.params5] at hA hval
  obtain ⟨v0, vs0, d0, ds0, p0, q0, hargs, rfl, rfl, h0, r0⟩ := trodAll_cons hA
  obtain ⟨v1, vs1, d1, ds1, p1, q1, rfl, rfl, rfl, h1, r1⟩ := trodAll_cons r0
  obtain ⟨v2, vs2, d2, ds2, p2, q2, rfl, rfl, rfl, h2, r2⟩ := trodAll_cons r1
  obtain ⟨v3, vs3, d3, ds3, p3, q3, rfl, rfl, rfl, h3, r3⟩ := trodAll_cons r2
  obtain ⟨rfl, rfl, rfl⟩ := trodAll_nil r3
  obtain rfl : args = #[v0, v1, v2, v3] := by cases args; simp_all
  obtain ⟨rfl, rfl⟩ := trodVars_none hV
  obtain ⟨a0, len0, cap0, rfl⟩ := okWide_slice Try.underlying22 (hval 0 22 v0 rfl rfl)
  have k0 := h0
  have lt0 : ∀ x ∈ p0, x.block < W.heap.size := by obtain ⟨m, hm⟩ := k0; exact DataW.trod_lt m _ _ _ hm
  obtain ⟨z0, w0⟩ : ∃ zs, IsRow .u16 W a0 len0 cap0 zs := by
    obtain ⟨fuel, hf⟩ := h0
    rcases open_ints Try.underlying22 Try.underlying23 (by kernel_rfl) hf with ⟨hcs, _⟩ | ⟨x, l, c, zs, hcs, _, hl, hm, hz, _, hcell, hwz⟩
    · simp [Value.cells] at hcs
      obtain ⟨rfl, rfl, rfl⟩ := hcs
      exact ⟨[], .inl ⟨rfl, rfl, rfl, rfl⟩⟩
    · simp [Value.cells] at hcs
      obtain ⟨rfl, rfl, rfl⟩ := hcs
      exact ⟨zs, .inr ⟨_, rfl, hl, hm, by simpa using hz, hcell, hwz⟩⟩
  obtain ⟨a1, len1, cap1, rfl⟩ := okWide_slice Try.underlying22 (hval 1 22 v1 rfl rfl)
  have k1 := h1
  have lt1 : ∀ x ∈ p1, x.block < W.heap.size := by obtain ⟨m, hm⟩ := k1; exact DataW.trod_lt m _ _ _ hm
  obtain ⟨z1, w1⟩ : ∃ zs, IsRow .u16 W a1 len1 cap1 zs := by
    obtain ⟨fuel, hf⟩ := h1
    rcases open_ints Try.underlying22 Try.underlying23 (by kernel_rfl) hf with ⟨hcs, _⟩ | ⟨x, l, c, zs, hcs, _, hl, hm, hz, _, hcell, hwz⟩
    · simp [Value.cells] at hcs
      obtain ⟨rfl, rfl, rfl⟩ := hcs
      exact ⟨[], .inl ⟨rfl, rfl, rfl, rfl⟩⟩
    · simp [Value.cells] at hcs
      obtain ⟨rfl, rfl, rfl⟩ := hcs
      exact ⟨zs, .inr ⟨_, rfl, hl, hm, by simpa using hz, hcell, hwz⟩⟩
  obtain ⟨a2, len2, cap2, rfl⟩ := okWide_slice Try.underlying22 (hval 2 22 v2 rfl rfl)
  have k2 := h2
  have lt2 : ∀ x ∈ p2, x.block < W.heap.size := by obtain ⟨m, hm⟩ := k2; exact DataW.trod_lt m _ _ _ hm
  obtain ⟨z2, w2⟩ : ∃ zs, IsRow .u16 W a2 len2 cap2 zs := by
    obtain ⟨fuel, hf⟩ := h2
    rcases open_ints Try.underlying22 Try.underlying23 (by kernel_rfl) hf with ⟨hcs, _⟩ | ⟨x, l, c, zs, hcs, _, hl, hm, hz, _, hcell, hwz⟩
    · simp [Value.cells] at hcs
      obtain ⟨rfl, rfl, rfl⟩ := hcs
      exact ⟨[], .inl ⟨rfl, rfl, rfl, rfl⟩⟩
    · simp [Value.cells] at hcs
      obtain ⟨rfl, rfl, rfl⟩ := hcs
      exact ⟨zs, .inr ⟨_, rfl, hl, hm, by simpa using hz, hcell, hwz⟩⟩
  obtain ⟨a3, rfl, rfl, rfl, w3⟩ := open_int Try.underlying23 (hval 3 23 v3 rfl rfl) h3
  clear hA0 hval0
  simp only [List.append_nil] at hW'
  refine (polyRing_any (isRow_sl w0) (isRow_max w0) (isRow_sl w1) (isRow_max w1) (isRow_sl w2) (isRow_max w2) (bounds_u16 w3)).mono fun e W' ⟨he, bel⟩ => ?_
  subst he
  exact ⟨_, rfl, _, _, _, [], _, [], hW', trodAll_mk1 (shut_bool Try.underlying4 _), (trodAll_cons_mk (Below.trod polyRing_laidOut (by kernel_rfl) (of_decide_eq_true (by kernel_rfl)) k0 bel lt0) (trodAll_cons_mk (Below.trod polyRing_laidOut (by kernel_rfl) (of_decide_eq_true (by kernel_rfl)) k1 bel lt1) (trodAll_cons_mk (Below.trod polyRing_laidOut (by kernel_rfl) (of_decide_eq_true (by kernel_rfl)) k2 bel lt2) (trodAll_cons_mk (shut_int Try.underlying23 w3) trodAll_mk0)))), rfl, bel.frame _, fun h => by cases h⟩

theorem polyRing_holds : Rows.PolyRingSaid :=
  OpenClaim.holds_of_wide 5 Try.f5 rfl rfl rfl rfl rfl rfl rfl ⟨rfl, rfl, rfl, rfl, rfl⟩ rfl rfl rfl rfl rfl (by kernel_rfl) Try.func5 (by kernel_rfl)
    (of_decide_eq_true (by kernel_rfl)) (by unfold Func.isWrapper; first | (rw [if_pos (by decide +kernel)]; kernel_rfl) | (rw [if_neg (by decide +kernel)]; exact ⟨rfl, rfl⟩))
    (fun os started H enc _ => polyRing_lifted os started H enc)

#print axioms polyRing_holds

end Go.Proofs.Ytnbbenhiampknaa
