/- The value of a polynomial: for a slice of at most 4000 numbers of 16 bits and a number of 16 bits At returns what the plain function says; nothing that was there is changed. -/
import Derived.Test.YtdbdidohldhnhaaBridge
namespace Go.Proofs.Ytdbdidohldhnhaa
open Go.RowKit Go.Shelf Gf

attribute [local go_sem] Oper.semAt_some

/-- The value so far, when some coefficients have come from the highest one down. -/
def hor {n : Nat} (x : Int) (pre : List (It n)) : Int := pre.foldl (fun v y => xI (gI v x) y.1.2) 0
theorem hor_snoc {n : Nat} (x : Int) (pre : List (It n)) (y : It n) : hor x (pre ++ [y]) = xI (gI (hor x pre) x) y.1.2 := by simp [hor]
theorem hor16 {n : Nat} (x : Int) (pre : List (It n)) : 0 ≤ hor x pre ∧ hor x pre ≤ 65535 := by
  unfold hor
  suffices ∀ v : Int, (0 ≤ v ∧ v ≤ 65535) → 0 ≤ pre.foldl (fun v y => xI (gI v x) y.1.2) v ∧ pre.foldl (fun v y => xI (gI v x) y.1.2) v ≤ 65535 from this 0 z16
  induction pre with
  | nil => intro v hv; exact hv
  | cons y ys ih => intro v hv; exact ih _ (x16 (g16 hv) y.2.2)

set_option maxRecDepth 100000 in
set_option maxHeartbeats 2000000 in
theorem at_in {w : World} {a : Option Addr} {n c : Nat} {f : Nat → Int} {x : Int} (h : Sl w a n c f) (hn : n ≤ 4000) (hx : 0 ≤ x ∧ x ≤ 65535) :
    CallsIn Fence.wide 5 Try.prog 42 #[.slice a n c, .int .u16 x] w fun e w' => (∃ ys : List (It n), SB n (fun j y => y = f j) ys ∧ e = .returned (.int .u16 (hor x ys))) ∧ Below w.heap.size w w' := by
  have hro : Fence.wide.round = none := rfl
  refine callsIn_of_wp_marks Try.func42 rfl trivial ?_ hro
  simp only [Try.ntmps42, List.size_toArray, List.length_cons, List.length_nil, Nat.reduceAdd, Nat.reduceSub, Array.replicate_succ, Array.replicate_zero, List.push_toArray, List.append_toArray, List.nil_append, List.cons_append]
  gi_wp2_with (first
    | (refine ⟨trivial, ?_⟩; gi_at_call 35; refine (callsIn_wide.2 (new_any _)).mono ?_; rintro e w' ⟨rfl, rfl⟩)
    | (refine ⟨trivial, ?_⟩; gi_at_call 56; refine (back_in _ _ trivial rfl _ _ _ _).mono ?_; rintro e w' ⟨rfl, rfl⟩))
  obtain ⟨b, off, hat⟩ : ∃ b off, n = 0 ∨ (a = some ⟨b, off, none⟩ ∧ b < w.heap.size ∧ ∀ j, j < n → w.cell? ⟨b, off + j, none⟩ = some (.int .u16 (f j))) := by
    rcases h.at' with h0 | ⟨b, off, h1, h2, h3⟩
    · exact ⟨0, 0, .inl h0⟩
    · exact ⟨b, off, .inr ⟨h1, h2, h3⟩⟩
  have bX := (((((Boxed.new w 29 (.int .u16 x)).alloc (.cells #[] 73)).alloc (.cells #[.pointer (some ⟨w.heap.size + 1, 0, none⟩)] 58)).alloc (.cells #[.int .u16 0] 29)).alloc (.cells #[.slice a n c] 22))
  have bF := (((Boxed.new ((w.alloc (.cells #[.int .u16 x] 29)).alloc (.cells #[] 73)) 58 (.pointer (some ⟨w.heap.size + 1, 0, none⟩))).alloc (.cells #[.int .u16 0] 29)).alloc (.cells #[.slice a n c] 22))
  have bV := ((Boxed.new (((w.alloc (.cells #[.int .u16 x] 29)).alloc (.cells #[] 73)).alloc (.cells #[.pointer (some ⟨w.heap.size + 1, 0, none⟩)] 58)) 29 (.int .u16 0)).alloc (.cells #[.slice a n c] 22))
  have bS := (Boxed.new ((((w.alloc (.cells #[.int .u16 x] 29)).alloc (.cells #[] 73)).alloc (.cells #[.pointer (some ⟨w.heap.size + 1, 0, none⟩)] 58)).alloc (.cells #[.int .u16 0] 29)) 22 (.slice a n c))
  have hB0 := (((((Below.refl w.heap.size w).alloc (Nat.le_refl _) (.cells #[.int .u16 x] 29)).alloc (by simp) (.cells #[] 73)).alloc (by simp; omega) (.cells #[.pointer (some ⟨w.heap.size + 1, 0, none⟩)] 58)).alloc (by simp; omega) (.cells #[.int .u16 0] 29)).alloc (by simp; omega) (.cells #[.slice a n c] 22)
  simp only [World.size_alloc] at bF bV bS
  obtain ⟨W0, hW0⟩ : ∃ W0, (((((w.alloc (.cells #[.int .u16 x] 29)).alloc (.cells #[] 73)).alloc (.cells #[.pointer (some ⟨w.heap.size + 1, 0, none⟩)] 58)).alloc (.cells #[.int .u16 0] 29)).alloc (.cells #[.slice a n c] 22)) = W0 := ⟨_, rfl⟩
  have hsz : W0.heap.size = w.heap.size + 1 + 1 + 1 + 1 + 1 := by rw [← hW0]; simp
  rw [hW0] at bX bF bV bS hB0 ⊢
  have hI0 : n = 0 ∨ (a = some ⟨b, off, none⟩ ∧ b < W0.heap.size ∧ ∀ j, j < n → ∃ y, y = f j ∧ W0.cell? ⟨b, off + j, none⟩ = some (.int .u16 y)) := by
    rcases hat with h0 | ⟨h1, h2, h3⟩
    · exact .inl h0
    · exact .inr ⟨h1, by omega, fun j hj => ⟨_, rfl, (hB0.cell (p := ⟨b, off + j, none⟩) h2).trans (h3 j hj)⟩⟩
  have HAT : n = 0 ∨ b < w.heap.size := hat.imp id (fun h => h.2.1)
  clear hW0 hat
  refine wpIn_rangeFunc_ownG hro (by decide) (gf := 62) (lb := #[.pointer (some ⟨w.heap.size + 1 + 1 + 1 + 1, 0, none⟩)]) rfl trivial (enters_of Try.func62 (by kernel_rfl) rfl)
    (back_stops Fence.wide _ trivial hro (by decide) (w.heap.size + 1 + 1 + 1 + 1) b off n a c hn (fun j y => y = f j) (fun j y e => e ▸ h.bd j) W0 (by omega) bS.cell hI0) kpB_t ?hKb (Below.refl _ _) (fun _ => rfl)
    (fun pre W => (Boxed W w.heap.size 29 (.int .u16 x) ∧ Boxed W (w.heap.size + 1 + 1) 58 (.pointer (some ⟨w.heap.size + 1, 0, none⟩)) ∧ Boxed W (w.heap.size + 1 + 1 + 1) 29 (.int .u16 (hor x pre))) ∧ Below w.heap.size w W)
    (fun _ _ _ => False)
    (OwnFrom.and (Own.from (fun s A B row hs hg hr => ⟨boxed_own (β := List (It n)) _ _ (fun _ => _) s A B row hs.1 hg hr, boxed_own (β := List (It n)) _ _ (fun _ => _) s A B row hs.2.1 hg hr, boxed_own (β := List (It n)) _ _ (fun _ => _) s A B row hs.2.2 hg hr⟩) _) (ownFrom_below (Nat.le_refl _) (by omega)))
    (fun _ _ _ _ _ hs _ _ => hs)
    ⟨⟨bX, bF, bV⟩, hB0⟩
    (fun y => { tmps := #[.slice a n c, .int .u16 x, undef, .pointer (some ⟨w.heap.size, 0, none⟩), .int .u16 0, .pointer (some ⟨w.heap.size + 1 + 1, 0, none⟩), .pointer (some ⟨w.heap.size + 1 + 1 + 1, 0, none⟩), undef, .int .u16 y.1.2, .pointer (some ⟨w.heap.size + 1, 0, none⟩), .slice a n c, .func (.func 62) #[] #[.pointer (some ⟨w.heap.size + 1 + 1 + 1 + 1, 0, none⟩)], .int .i64 (y.1.1 : Int), .int .u16 y.1.2, undef, undef, undef, undef, undef, undef, undef, undef], defers := [] }) ?assign ?body ?done ?stop
  case hKb =>
    intro W l o o' hl h1 h2 _
    refine ⟨World.cell?_of_block (w := W) (World.putObj_heap_other (by show w.heap.size + 1 + 1 + 1 + 1 ≠ l; omega)), fun hh j hj => ?_⟩
    obtain ⟨y, e1, e2⟩ := hh j hj
    exact ⟨y, e1, cell_put h1 h2 e2⟩
  case assign =>
    intro l y W K hK
    simp only [encIt]
    gi_wp2
    exact hK
  case body =>
    rintro l pre y W ⟨⟨kX, kF, kV⟩, hB⟩ _
    have c1 := kX.cell
    have c2 := kF.cell
    have c3 := kV.cell
    have fz := kV.frozen
    have b1 := hor16 x pre
    have b2 := y.2
    have b3 := gI_bd (hor x pre) x (by omega)
    have HK := hide (show KeepsFrom W0.heap.size W (W.setCell ⟨w.heap.size + 1 + 1 + 1, 0, none⟩ (.int .u16 (xI (gI (hor x pre) x) y.1.2))).drew ∧ KpB (fun j y => y = f j) (w.heap.size + 1 + 1 + 1 + 1) b off n W (W.setCell ⟨w.heap.size + 1 + 1 + 1, 0, none⟩ (.int .u16 (xI (gI (hor x pre) x) y.1.2))).drew ∧
        ((Boxed (W.setCell ⟨w.heap.size + 1 + 1 + 1, 0, none⟩ (.int .u16 (xI (gI (hor x pre) x) y.1.2))).drew w.heap.size 29 (.int .u16 x) ∧ Boxed (W.setCell ⟨w.heap.size + 1 + 1 + 1, 0, none⟩ (.int .u16 (xI (gI (hor x pre) x) y.1.2))).drew (w.heap.size + 1 + 1) 58 (.pointer (some ⟨w.heap.size + 1, 0, none⟩)) ∧
          Boxed (W.setCell ⟨w.heap.size + 1 + 1 + 1, 0, none⟩ (.int .u16 (xI (gI (hor x pre) x) y.1.2))).drew (w.heap.size + 1 + 1 + 1) 29 (.int .u16 (hor x (pre ++ [y])))) ∧ Below w.heap.size w (W.setCell ⟨w.heap.size + 1 + 1 + 1, 0, none⟩ (.int .u16 (xI (gI (hor x pre) x) y.1.2))).drew) from by
      refine ⟨((KeepsOthers.setCell _ _ _).trans (KeepsOthers.drew _)).from _, ⟨?_, fun hh j hj => ?_⟩, ⟨kX.other (by omega) _, kF.other (by omega) _, ?_⟩, (hB.setCell (p := ⟨w.heap.size + 1 + 1 + 1, 0, none⟩) (show w.heap.size ≤ w.heap.size + 1 + 1 + 1 by omega) _).drew⟩
      · exact World.cell?_of_block (w := W) (Below.heap_setCell _ _ _ _ (by show w.heap.size + 1 + 1 + 1 + 1 ≠ w.heap.size + 1 + 1 + 1; omega))
      · obtain ⟨z, e1, e2⟩ := hh j hj
        have : b ≠ w.heap.size + 1 + 1 + 1 := by omega
        exact ⟨z, e1, (World.cell?_of_block (w := W) (Below.heap_setCell _ _ _ _ this)).trans e2⟩
      · rw [hor_snoc]
        exact Boxed.set _ kV)
    have hmx : Try.prog.follows .mixedOrders = true := by kernel_rfl
    gi_wp2
    refine region_tail_round 7 hmx (by kernel_rfl) (by kernel_rfl) ?_
    simp only [List.take_succ_cons, List.take_zero, List.drop_succ_cons, List.drop_zero]
    repeat still_step
    still_call (mul_any _ _ _ _ (by omega) (by omega))
    repeat still_step
    still_call (add_any _ _ _ _ (by omega) (by omega))
    refine wpStill_nil ?_
    go_wp2
    exact HK.out
  case done =>
    rintro D ys W hD hS ⟨⟨kX, kF, kV⟩, hB⟩ hK
    have c3 := kV.cell
    gi_wp2
    refine ⟨by simp, .inl ⟨_, _, rfl, run_takeDeferred hK, ?_⟩⟩
    exact ⟨_, results_tmp rfl _ _ _, ⟨ys, hS, rfl⟩, hB.trans (belowK_b (w := w) (Nat.le_refl _) W D _ _ (by omega) hK rfl rfl)⟩
  case stop =>
    rintro D c pre W _ _ h _
    exact h.elim

theorem hor_atp (x : Int) {N : Nat} (f : Nat → Int) : ∀ (n : Nat) (ys : List (It N)) (k : Nat), ys.map (fun y => y.1.1) = (down n).map (fun j => j + k) → (∀ y ∈ ys, y.1.2 = f y.1.1) → hor x ys = atp x n (fun j => f (j + k)) := by
  intro n
  induction n with
  | zero =>
    intro ys k h _
    have : ys = [] := by simpa [down] using h
    subst this
    rfl
  | succ n ih =>
    intro ys k h hv
    obtain ⟨zs, z, rfl, h1, h2⟩ : ∃ zs z, ys = zs ++ [z] ∧ zs.map (fun y => y.1.1) = (down n).map (fun j => j + (k + 1)) ∧ z.1.1 = k := by
      have hl : ∀ n, down (n + 1) = (down n).map (· + 1) ++ [0] := by
        intro n
        induction n with
        | zero => rfl
        | succ n ih => show (n + 1) :: down (n + 1) = (n + 1) :: ((down n).map (· + 1) ++ [0]); rw [← ih]
      rw [hl, List.map_append] at h
      obtain ⟨zs, l2, rfl, e1, e2⟩ := List.map_eq_append_iff.1 h
      obtain ⟨z, t, rfl, e3, e4⟩ := List.map_eq_cons_iff.1 e2
      have : t = [] := by simpa using e4
      subst this
      refine ⟨zs, z, rfl, ?_, by simpa using e3⟩
      rw [e1, List.map_map]
      apply List.map_congr_left
      intro j _
      simp [Function.comp]
      omega
    rw [hor_snoc, ih zs (k + 1) h1 (fun y hy => hv y (by simp [hy])), hv z (by simp), h2]
    show _ = xI (gI (atp x n (fun j => f (j + 1 + k))) x) (f (0 + k))
    rw [Nat.zero_add, show (fun j => f (j + (k + 1))) = (fun j => f (j + 1 + k)) from funext fun j => by rw [show j + (k + 1) = j + 1 + k from by omega]]

theorem at_any {w : World} {a : Option Addr} {n c : Nat} {f : Nat → Int} {x : Int} (h : Sl w a n c f) (hn : n ≤ 4000) (hx : 0 ≤ x ∧ x ≤ 65535) :
    Calls Try.prog 42 #[.slice a n c, .int .u16 x] w fun e w' => e = .returned (.int .u16 (atp x n f)) ∧ Below w.heap.size w w' := by
  refine (callsIn_wide.1 (at_in h hn hx)).mono ?_
  rintro e w' ⟨⟨ys, hS, rfl⟩, hB⟩
  refine ⟨?_, hB⟩
  rw [hor_atp x f n ys 0 (by rw [hS.1]; simp) hS.2]
  rfl

end Go.Proofs.Ytdbdidohldhnhaa
