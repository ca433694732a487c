/- The turns of bits and the mixing of four numbers, walked. For numbers of 32 bits: each call returns what the plain numbers of BMath say, and leaves the world as it is. -/
import Derived.Test.YtjdgaolailfplaaRows
import Derived.Test.YtjdgaolailfplaaBMath
import Derived.WalkKit
import Derived.WalkSpells
import Derived.WalkLawsBesides
namespace Go.Proofs.Ytjdgaolailfplaa
open Go.RowKit Bk

theorem hide {p : Prop} (h : p) : Hid p := h
theorem ret_u32 {a b : Int} (h : a = b) : Ending.returned (.int .u32 a) = .returned (.int .u32 b) := by rw [h]
theorem or_rr (p q x : Nat) (hx : x < 4294967296) : bits .or .u32 ((x : Int) * (p : Int) % 4294967296) ((x : Int) / (q : Int)) = ((rr p q x : Nat) : Int) := by
  have e1 : (x : Int) * (p : Int) % 4294967296 = ((x * p % 4294967296 : Nat) : Int) := by rw [Int.natCast_emod, Int.natCast_mul]; rfl
  have e2 : (x : Int) / (q : Int) = ((x / q : Nat) : Int) := (Int.natCast_ediv x q).symm
  rw [e1, e2, u32_or_nat _ _ (Nat.mod_lt _ (by decide)) (Nat.lt_of_le_of_lt (Nat.div_le_self _ _) hx)]
  rfl
theorem w16 : bits BinOp.and IntKind.u64 (IntKind.u64.wrap (-16)) 31 = 16 := by decide
theorem w12 : bits BinOp.and IntKind.u64 (IntKind.u64.wrap (-12)) 31 = 20 := by decide
theorem w8 : bits BinOp.and IntKind.u64 (IntKind.u64.wrap (-8)) 31 = 24 := by decide
theorem w7 : bits BinOp.and IntKind.u64 (IntKind.u64.wrap (-7)) 31 = 25 := by decide

set_option maxHeartbeats 400000 in
theorem rotl16 (x : Nat) (w : World) (hx : x < 4294967296) :
    Calls Try.prog 42 #[.int .u32 x, .int .i64 (-16)] w fun e w' => e = .returned (.int .u32 (rr 65536 65536 x : Nat)) ∧ w' = w := by
  have h := w16
  go_enter Try.func42, Try.ntmps42
  go_wp2
  go_ret
  exact ⟨ret_u32 (or_rr 65536 65536 x hx), rfl⟩
set_option maxHeartbeats 400000 in
theorem rotl12 (x : Nat) (w : World) (hx : x < 4294967296) :
    Calls Try.prog 42 #[.int .u32 x, .int .i64 (-12)] w fun e w' => e = .returned (.int .u32 (rr 1048576 4096 x : Nat)) ∧ w' = w := by
  have h := w12
  go_enter Try.func42, Try.ntmps42
  go_wp2
  go_ret
  exact ⟨ret_u32 (or_rr 1048576 4096 x hx), rfl⟩
set_option maxHeartbeats 400000 in
theorem rotl8 (x : Nat) (w : World) (hx : x < 4294967296) :
    Calls Try.prog 42 #[.int .u32 x, .int .i64 (-8)] w fun e w' => e = .returned (.int .u32 (rr 16777216 256 x : Nat)) ∧ w' = w := by
  have h := w8
  go_enter Try.func42, Try.ntmps42
  go_wp2
  go_ret
  exact ⟨ret_u32 (or_rr 16777216 256 x hx), rfl⟩
set_option maxHeartbeats 400000 in
theorem rotl7 (x : Nat) (w : World) (hx : x < 4294967296) :
    Calls Try.prog 42 #[.int .u32 x, .int .i64 (-7)] w fun e w' => e = .returned (.int .u32 (rr 33554432 128 x : Nat)) ∧ w' = w := by
  have h := w7
  go_enter Try.func42, Try.ntmps42
  go_wp2
  go_ret
  exact ⟨ret_u32 (or_rr 33554432 128 x hx), rfl⟩

theorem turn16 (x : Nat) (w : World) (hx : x < 4294967296) :
    Calls Try.prog 41 #[.int .u32 x, .int .i64 16] w fun e w' => e = .returned (.int .u32 (rr 65536 65536 x : Nat)) ∧ w' = w := by
  go_enter Try.func41, Try.ntmps41
  go_wp2_with fail
  refine (rotl16 x _ hx).mono ?_
  rintro e w' ⟨rfl, rfl⟩
  go_wp2
  go_ret
  exact ⟨rfl, rfl⟩
theorem turn12 (x : Nat) (w : World) (hx : x < 4294967296) :
    Calls Try.prog 41 #[.int .u32 x, .int .i64 12] w fun e w' => e = .returned (.int .u32 (rr 1048576 4096 x : Nat)) ∧ w' = w := by
  go_enter Try.func41, Try.ntmps41
  go_wp2_with fail
  refine (rotl12 x _ hx).mono ?_
  rintro e w' ⟨rfl, rfl⟩
  go_wp2
  go_ret
  exact ⟨rfl, rfl⟩
theorem turn8 (x : Nat) (w : World) (hx : x < 4294967296) :
    Calls Try.prog 41 #[.int .u32 x, .int .i64 8] w fun e w' => e = .returned (.int .u32 (rr 16777216 256 x : Nat)) ∧ w' = w := by
  go_enter Try.func41, Try.ntmps41
  go_wp2_with fail
  refine (rotl8 x _ hx).mono ?_
  rintro e w' ⟨rfl, rfl⟩
  go_wp2
  go_ret
  exact ⟨rfl, rfl⟩
theorem turn7 (x : Nat) (w : World) (hx : x < 4294967296) :
    Calls Try.prog 41 #[.int .u32 x, .int .i64 7] w fun e w' => e = .returned (.int .u32 (rr 33554432 128 x : Nat)) ∧ w' = w := by
  go_enter Try.func41, Try.ntmps41
  go_wp2_with fail
  refine (rotl7 x _ hx).mono ?_
  rintro e w' ⟨rfl, rfl⟩
  go_wp2
  go_ret
  exact ⟨rfl, rfl⟩

theorem ad_int (p q : Nat) : ((p : Int) + (q : Int)) % 4294967296 = ((ad p q : Nat) : Int) := by
  unfold ad; rw [Int.natCast_emod, Int.natCast_add]; rfl
theorem xr_int {p q : Nat} (hp : p < 4294967296) (hq : q < 4294967296) : bits .xor .u32 (p : Int) (q : Int) = ((p ^^^ q : Nat) : Int) := u32_xor_nat p q hp hq

set_option maxHeartbeats 1000000 in
theorem mix_any (a b c d x y : Nat) (w : World) (hb : b < 4294967296) (hd : d < 4294967296) :
    Calls Try.prog 40 #[.int .u32 a, .int .u32 b, .int .u32 c, .int .u32 d, .int .u32 x, .int .u32 y] w fun e w' => e = .returned (.tuple #[.int .u32 (mixN a b c d x y).a, .int .u32 (mixN a b c d x y).b, .int .u32 (mixN a b c d x y).c, .int .u32 (mixN a b c d x y).d]) ∧ w' = w := by
  obtain ⟨a1, ea1⟩ : ∃ z, ad a (ad b x) = z := ⟨_, rfl⟩
  have la1 : a1 < 4294967296 := ea1 ▸ ad_lt _ _
  obtain ⟨d1, ed1⟩ : ∃ z, rr 65536 65536 (d ^^^ a1) = z := ⟨_, rfl⟩
  have ld1 : d1 < 4294967296 := ed1 ▸ rr_lt (xr_lt hd la1)
  obtain ⟨c1, ec1⟩ : ∃ z, ad c d1 = z := ⟨_, rfl⟩
  have lc1 : c1 < 4294967296 := ec1 ▸ ad_lt _ _
  obtain ⟨b1, eb1⟩ : ∃ z, rr 1048576 4096 (b ^^^ c1) = z := ⟨_, rfl⟩
  have lb1 : b1 < 4294967296 := eb1 ▸ rr_lt (xr_lt hb lc1)
  obtain ⟨a2, ea2⟩ : ∃ z, ad a1 (ad b1 y) = z := ⟨_, rfl⟩
  have la2 : a2 < 4294967296 := ea2 ▸ ad_lt _ _
  obtain ⟨d2, ed2⟩ : ∃ z, rr 16777216 256 (d1 ^^^ a2) = z := ⟨_, rfl⟩
  have ld2 : d2 < 4294967296 := ed2 ▸ rr_lt (xr_lt ld1 la2)
  obtain ⟨c2, ec2⟩ : ∃ z, ad c1 d2 = z := ⟨_, rfl⟩
  have lc2 : c2 < 4294967296 := ec2 ▸ ad_lt _ _
  obtain ⟨b2, eb2⟩ : ∃ z, rr 33554432 128 (b1 ^^^ c2) = z := ⟨_, rfl⟩
  have hm : mixN a b c d x y = ⟨a2, b2, c2, d2⟩ := by
    unfold mixN hf2 hf1
    simp only [ea1, ed1, ec1, eb1, ea2, ed2, ec2, eb2]
  have r1 := ad_int b x
  have r2 := ad_int a (ad b x)
  rw [ea1] at r2
  have r3 := xr_int hd la1
  have r4 := ad_int c d1
  rw [ec1] at r4
  have r5 := xr_int hb lc1
  have r6 := ad_int b1 y
  have r7 := ad_int a1 (ad b1 y)
  rw [ea2] at r7
  have r8 := xr_int ld1 la2
  have r9 := ad_int c1 d2
  rw [ec2] at r9
  have r10 := xr_int lb1 lc2
  have H := hide hm
  have t1 := xr_lt hd la1
  have t2 := xr_lt hb lc1
  have t3 := xr_lt ld1 la2
  have t4 := xr_lt lb1 lc2
  have T1 := hide t1
  have T2 := hide t2
  have T3 := hide t3
  have T4 := hide t4
  clear hm t1 t2 t3 t4 ea1 ec1 ea2 ec2 la1 ld1 lc1 lb1 la2 ld2 lc2 hb hd
  have E1 := hide ed1
  have E2 := hide eb1
  have E3 := hide ed2
  have E4 := hide eb2
  clear ed1 eb1 ed2 eb2
  go_enter Try.func40, Try.ntmps40
  go_wp2_with fail
  refine (turn16 _ _ T1.out).mono ?_
  rintro e w' ⟨rfl, rfl⟩
  rw [E1.out]
  go_wp2_with fail
  refine (turn12 _ _ T2.out).mono ?_
  rintro e w' ⟨rfl, rfl⟩
  rw [E2.out]
  go_wp2_with fail
  refine (turn8 _ _ T3.out).mono ?_
  rintro e w' ⟨rfl, rfl⟩
  rw [E3.out]
  go_wp2_with fail
  refine (turn7 _ _ T4.out).mono ?_
  rintro e w' ⟨rfl, rfl⟩
  rw [E4.out]
  go_wp2
  refine bodyPost_ret (v := .tuple #[.int .u32 (a2 : Nat), .int .u32 (b2 : Nat), .int .u32 (c2 : Nat), .int .u32 (d2 : Nat)]) (by simp [results, Try.results40, go_sem]) rfl ⟨by rw [H.out], rfl⟩
end Go.Proofs.Ytjdgaolailfplaa
