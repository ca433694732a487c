/- Division of polynomials: for slices of at most 1000 numbers of 16 bits Div returns the error of a divisor that is 0, or a quotient and a rest as the steps of the division by hand make them, short, in new memory. -/
import Derived.Test.YtdbdidohldhnhaaAts
import Derived.RegionTactic
import Derived.ChangeAlike
import Derived.Deep.RegionHeld
namespace Go.Proofs.Ytdbdidohldhnhaa
open Go.RowKit Go.Shelf Gf
set_option linter.unusedVariables false

attribute [local go_sem] Oper.semAt_some

set_option maxRecDepth 100000 in
set_option maxHeartbeats 2000000 in
theorem div_zero {w : World} {a a' : Option Addr} {n c n' c' : Nat} {f g : Nat → Int} (h : Sl w a n c f) (h' : Sl w a' n' c' g) (hn : n ≤ 1000) (hn' : n' ≤ 1000) (hz : Shr g 0) :
    Calls Try.prog 54 #[.slice a n c, .slice a' n' c'] w fun e w' => e = .returned (.tuple #[.slice none 0 0, .slice none 0 0, .int .i64 1]) ∧ Below w.heap.size w w' := by
  have h2 := (h'.alloc (.cells #[.slice a' n' c'] 22)).alloc (.cells #[.slice none 0 0] 22) |>.alloc (.cells #[.slice none 0 0] 22)
  go_enter Try.func54, Try.ntmps54
  go_wp2_with fail
  refine (cut_at h2 (by omega) hz).mono ?_
  rintro e w1 ⟨rfl, rfl⟩
  go_wp2_with fail
  refine bodyPost_ret (v := .tuple #[.slice none 0 0, .slice none 0 0, .int .i64 1]) ?_ rfl ⟨rfl, (((Below.refl _ w).alloc (Nat.le_refl _) _).alloc (by simp) _).alloc (by simp; omega) _⟩
  simp [results, Try.f54, go_sem]

/-- A slice that holds f in memory from block L on. -/
structure Held (L : Nat) (w : World) (a : Option Addr) (n c : Nat) (f : Nat → Int) : Prop where
  sl : Sl w a n c f
  own : n = 0 ∨ ∃ b off, a = some ⟨b, off, none⟩ ∧ L ≤ b ∧ Wr w b off n f
theorem Held.only {L B : Nat} {w w' : World} {a : Option Addr} {n c : Nat} {f : Nat → Int} (h : Held L w a n c f) (ho : Only B w w') (hB : B < L) : Held L w' a n c f := by
  rcases h.own with h0 | ⟨b, off, ha, hb, hw⟩
  · exact ⟨⟨h.sl.bd, h.sl.out, h.sl.cap, h.sl.nil, .inl h0⟩, .inl h0⟩
  · have hw' := ho.wr hw (by omega)
    exact ⟨⟨h.sl.bd, h.sl.out, h.sl.cap, h.sl.nil, .inr ⟨b, off, ha, hw'.lt, hw'.cell⟩⟩, .inr ⟨b, off, ha, hb, hw'⟩⟩
theorem Held.drew {L : Nat} {w : World} {a : Option Addr} {n c : Nat} {f : Nat → Int} (h : Held L w a n c f) : Held L w.drew a n c f := by
  rcases h.own with h0 | ⟨b, off, ha, hb, hw⟩
  · exact ⟨⟨h.sl.bd, h.sl.out, h.sl.cap, h.sl.nil, .inl h0⟩, .inl h0⟩
  · exact ⟨⟨h.sl.bd, h.sl.out, h.sl.cap, h.sl.nil, .inr ⟨b, off, ha, hw.lt, hw.cell⟩⟩, .inr ⟨b, off, ha, hb, hw.drew1⟩⟩
theorem New.held {w w' : World} {a : Option Addr} {n c : Nat} {f : Nat → Int} (h : New w w' a n c f) : Held w.heap.size w' a n c f := ⟨h.sl, h.own⟩
theorem Held.new {L : Nat} {w w' : World} {a : Option Addr} {n c : Nat} {f : Nat → Int} (h : Held L w' a n c f) (hL : w.heap.size ≤ L) (hB : Below w.heap.size w w') : New w w' a n c f := by
  refine ⟨h.sl, hB, ?_⟩
  rcases h.own with h0 | ⟨b, off, ha, hb, hw⟩
  · exact .inl h0
  · exact .inr ⟨b, off, ha, by omega, hw⟩

set_option maxRecDepth 100000 in
set_option maxHeartbeats 2000000 in
theorem div_less {w : World} {a a' : Option Addr} {n c n' c' k m : Nat} {f g : Nat → Int} (h : Sl w a n c f) (h' : Sl w a' n' c' g) (hn : n ≤ 1000) (hn' : n' ≤ 1000) (hg : Shr g (m + 1)) (hf : Shr f k) (hlt : k < m + 1) :
    Calls Try.prog 54 #[.slice a n c, .slice a' n' c'] w fun e w' => ∃ ar cr, e = .returned (.tuple #[.slice none 0 0, .slice ar k cr, .int .i64 0]) ∧ New w w' ar k cr f := by
  have h2 := (h'.alloc (.cells #[.slice a' n' c'] 22)).alloc (.cells #[.slice none 0 0] 22) |>.alloc (.cells #[.slice none 0 0] 22)
  have h3 := (h.alloc (.cells #[.slice a' (m + 1) c'] 22)).alloc (.cells #[.slice none 0 0] 22) |>.alloc (.cells #[.slice none 0 0] 22)
  have hB0 := (((Below.refl w.heap.size w).alloc (Nat.le_refl _) (.cells #[.slice a' (m + 1) c'] 22)).alloc (by simp) (.cells #[.slice none 0 0] 22)).alloc (by simp; omega) (.cells #[.slice none 0 0] 22)
  have q1 : ((m : Int) + 1 == 0) = false := beq_no (by omega)
  have b0 := ((Boxed.new w 22 (.slice a' (m + 1) c')).alloc (.cells #[.slice none 0 0] 22)).alloc (.cells #[.slice none 0 0] 22)
  have b1 := (Boxed.new (w.alloc (.cells #[.slice a' (m + 1) c'] 22)) 22 (.slice none 0 0)).alloc (.cells #[.slice none 0 0] 22)
  have b2 := Boxed.new ((w.alloc (.cells #[.slice a' (m + 1) c'] 22)).alloc (.cells #[.slice none 0 0] 22)) 22 (.slice none 0 0)
  simp only [World.size_alloc] at b1 b2
  have HB := hide (And.intro b0 (And.intro b1 b2))
  have HB0 := hide hB0
  clear b0 b1 b2 hB0
  go_enter Try.func54, Try.ntmps54
  go_wp2_with fail
  refine (cut_at h2 (by omega) hg).mono ?_
  rintro e w1 ⟨rfl, rfl⟩
  go_wp2_with fail
  refine (short_any h3 (by omega)).mono ?_
  rintro e w2 ⟨ar, k', cr, rfl, hk', hs', hnew⟩
  obtain rfl := hs'.uniq hf
  have b0 := (HB.out.1).kept (row := none) ⟨hnew.bel.os, hnew.bel.tape, hnew.bel.output, hnew.bel.size, fun i hi _ => hnew.bel.block i hi⟩ (by simp)
  have b1 := (HB.out.2.1).kept (row := none) ⟨hnew.bel.os, hnew.bel.tape, hnew.bel.output, hnew.bel.size, fun i hi _ => hnew.bel.block i hi⟩ (by simp)
  have b2 := (HB.out.2.2).kept (row := none) ⟨hnew.bel.os, hnew.bel.tape, hnew.bel.output, hnew.bel.size, fun i hi _ => hnew.bel.block i hi⟩ (by simp)
  have c0 := b0.cell
  have c1 := b1.cell
  have c2 := b2.cell
  have z1 := b1.frozen
  have z2 := b2.frozen
  clear h2 h3
  have hh : Held (w.heap.size + 1 + 1 + 1) w2 ar k' cr f := by have := hnew.held; simpa only [World.size_alloc] using this
  have hB2 : Below w.heap.size w w2 := HB0.out.trans (hnew.bel.mono HB0.out.size)
  have HH := hide (And.intro hh hB2)
  clear hh hB2 hnew hs'
  have hW : ∃ W, w2.setCell ⟨w.heap.size + 1 + 1, 0, none⟩ (.slice ar k' cr) = W ∧ Boxed W (w.heap.size + 1) 22 (.slice none 0 0) ∧ Boxed W (w.heap.size + 1 + 1) 22 (.slice ar k' cr) ∧ Held (w.heap.size + 1 + 1 + 1) W ar k' cr f ∧ Below w.heap.size w W :=
    ⟨_, rfl, b1.other (by omega) _, b2.set _, HH.out.1.only (Only.setCell _ _ _ _) (by omega), HH.out.2.setCell (p := ⟨w.heap.size + 1 + 1, 0, none⟩) (show w.heap.size ≤ w.heap.size + 1 + 1 by omega) _⟩
  go_wp2_with fail
  obtain ⟨W, hWe, d1, d2, d3, d4⟩ := hW
  rw [hWe]
  clear hWe b0 b1 b2 c0 c1 c2 z1 z2
  have c1 := d1.cell
  have c2 := d2.cell
  have z1 := d1.frozen
  have z2 := d2.frozen
  have e1 := d2.other (B' := w.heap.size + 1) (by omega) (.slice none 0 0)
  have z3 := e1.frozen
  have HE := hide (And.intro (d1.set (.slice none 0 0)) (And.intro e1 (And.intro (And.intro d1 d2) (And.intro d3 d4))))
  clear d1 d2 d3 d4 e1
  go_region
  all_goals (
    go_wp2
    obtain ⟨g1, g2, _, d3, d4⟩ := HE.out
    have k1 := (g1.other (B' := w.heap.size + 1 + 1) (by omega) (.slice ar k' cr)).cell
    have k2 := (g2.set (.slice ar k' cr)).cell
    refine bodyPost_ret (v := .tuple #[.slice none 0 0, .slice ar k' cr, .int .i64 0]) ?_ rfl ⟨ar, cr, rfl, ?_⟩
    · simp [results, Try.f54, go_sem, k1, k2]
    · exact (((d3.only (Only.setCell _ _ _ _) (by omega)).only (Only.setCell _ _ _ _) (by omega)).drew).new (by omega) ((d4.setCell (p := ⟨w.heap.size + 1, 0, none⟩) (show w.heap.size ≤ w.heap.size + 1 by omega) _).setCell (p := ⟨w.heap.size + 1 + 1, 0, none⟩) (show w.heap.size ≤ w.heap.size + 1 + 1 by omega) _).drew)

/-- One step of the division at place i: the rest and the quotient so far. -/
def dst (m : Nat) (inv : Int) (B : Nat → Int) (s : (Nat → Int) × (Nat → Int)) (i : Nat) : (Nat → Int) × (Nat → Int) :=
  (fun k => if k < i then s.1 k else xI (s.1 k) (gI (B (k - i)) (gI (s.1 (i + m)) inv)), fun k => if k = i then gI (s.1 (i + m)) inv else s.2 k)
def dfold (m : Nat) (inv : Int) (B f : Nat → Int) (is : List Nat) : (Nat → Int) × (Nat → Int) := is.foldl (dst m inv B) (f, fun _ => 0)
theorem dfold_snoc (m : Nat) (inv : Int) (B f : Nat → Int) (is : List Nat) (i : Nat) : dfold m inv B f (is ++ [i]) = dst m inv B (dfold m inv B f is) i := by simp [dfold]
theorem dst16 {m : Nat} {inv : Int} {B : Nat → Int} {s : (Nat → Int) × (Nat → Int)} (hB : P16 B) (h : P16 s.1 ∧ P16 s.2) (i : Nat) : P16 (dst m inv B s i).1 ∧ P16 (dst m inv B s i).2 := by
  refine ⟨fun k => ?_, fun k => ?_⟩
  · show 0 ≤ (if k < i then s.1 k else xI (s.1 k) (gI (B (k - i)) (gI (s.1 (i + m)) inv))) ∧ (if k < i then s.1 k else xI (s.1 k) (gI (B (k - i)) (gI (s.1 (i + m)) inv))) ≤ 65535
    split
    · exact h.1 k
    · exact x16 (h.1 k) (g16 (hB _))
  · show 0 ≤ (if k = i then gI (s.1 (i + m)) inv else s.2 k) ∧ (if k = i then gI (s.1 (i + m)) inv else s.2 k) ≤ 65535
    split
    · exact g16 (h.1 _)
    · exact h.2 k
theorem dfold16 {m : Nat} {inv : Int} {B f : Nat → Int} (hB : P16 B) (hf : P16 f) (is : List Nat) : P16 (dfold m inv B f is).1 ∧ P16 (dfold m inv B f is).2 := by
  unfold dfold
  suffices ∀ s : (Nat → Int) × (Nat → Int), P16 s.1 ∧ P16 s.2 → P16 (is.foldl (dst m inv B) s).1 ∧ P16 (is.foldl (dst m inv B) s).2 from this _ ⟨hf, fun _ => z16⟩
  induction is with
  | nil => intro s h; exact h
  | cons i is ih => intro s h; exact ih _ (dst16 hB h i)

theorem wrap_small (x : Int) (h1 : 0 ≤ x) (h2 : x < 9223372036854775808) : IntKind.i64.wrap x = x := by
  rw [IntKind.wrap_i64]
  omega

theorem dfold_out {m d : Nat} {inv : Int} {B f : Nat → Int} (hB : ∀ j, m + 1 ≤ j → B j = 0) (hf : ∀ j, m + (d + 1) ≤ j → f j = 0) (is : List Nat) (his : ∀ i ∈ is, i ≤ d) : ∀ j, m + (d + 1) ≤ j → (dfold m inv B f is).1 j = 0 := by
  unfold dfold
  suffices ∀ s : (Nat → Int) × (Nat → Int), (∀ j, m + (d + 1) ≤ j → s.1 j = 0) → ∀ j, m + (d + 1) ≤ j → (is.foldl (dst m inv B) s).1 j = 0 from this _ hf
  induction is with
  | nil => intro s h; exact h
  | cons i is ih =>
    intro s h
    refine ih (fun k hk => his k (by simp [hk])) _ fun j hj => ?_
    have := his i (by simp)
    show (if j < i then s.1 j else xI (s.1 j) (gI (B (j - i)) (gI (s.1 (i + m)) inv))) = 0
    rw [if_neg (by omega), h j hj, hB _ (by omega), f12, f7]
theorem down_le (n : Nat) : ∀ i ∈ down (n + 1), i ≤ n := by
  induction n with
  | zero => intro i hi; simp [down] at hi; omega
  | succ n ih =>
    intro i hi
    have hi' : i ∈ (n + 1) :: down (n + 1) := hi
    rcases List.mem_cons.1 hi' with h | h
    · omega
    · have := ih i h; omega
theorem dfold2_out {m n : Nat} {inv : Int} {B f : Nat → Int} (is : List Nat) (his : ∀ i ∈ is, i < n) : ∀ j, n ≤ j → (dfold m inv B f is).2 j = 0 := by
  unfold dfold
  suffices ∀ s : (Nat → Int) × (Nat → Int), (∀ j, n ≤ j → s.2 j = 0) → ∀ j, n ≤ j → (is.foldl (dst m inv B) s).2 j = 0 from this _ (fun _ _ => rfl)
  induction is with
  | nil => intro s h; exact h
  | cons i is ih =>
    intro s h
    refine ih (fun k hk => his k (by simp [hk])) _ fun j hj => ?_
    have := his i (by simp)
    show (if j = i then gI (s.1 (i + m)) inv else s.2 j) = 0
    rw [if_neg (by omega), h j hj]

theorem wr_put {b o n l : Nat} {W : World} {f : Nat → Int} {ob ob' : Obj} (h : Wr W b o n f) (hl : W.heap[l]? = some ob) (hc : ob.isCells = false) : Wr (W.putObj l ob') b o n f :=
  ⟨by simpa using h.lt, fun j hj => cell_put hl hc (h.cell j hj), fun j hj => (frozen_kept (h.cell j hj) (grownBy_putObj' _ l ob') (fun r e => by cases e; exact ⟨_, hl, hc⟩)).trans (h.free j hj)⟩

theorem keeps_only {b o n : Nat} {w w' : World} {f : Nat → Int} (h : Only b w w') (hw : Wr w b o n f) (hn : 0 < n) : KeepsOthers w w' := by
  refine ⟨Nat.le_of_eq h.size.symm, fun k ob hk ho => ?_⟩
  by_cases e : k = b
  · subst e
    have hc := hw.cell 0 hn
    unfold World.cell? at hc
    rw [hk] at hc
    cases ob <;> simp_all [Obj.isCells]
  · exact (h.block k e).trans hk

theorem wr_own {β : Type} (b o n : Nat) (f : β → Nat → Int) : Own (fun s W => Wr W b o n (f s)) := fun s X Y row hs hg hr =>
  ⟨Nat.lt_of_lt_of_le hs.lt hg.size, fun j hj => cell_kept (hs.cell j hj) hg hr, fun j hj => (frozen_kept (hs.cell j hj) hg hr).trans (hs.free j hj)⟩

set_option maxRecDepth 100000 in
set_option maxHeartbeats 4000000 in
theorem div_in {w : World} {a a' : Option Addr} {n c n' c' d m : Nat} {f g : Nat → Int} (h : Sl w a n c f) (h' : Sl w a' n' c' g) (hn : n ≤ 1000) (hn' : n' ≤ 1000) (hg : Shr g (m + 1)) (hf : Shr f (m + (d + 1))) :
    CallsIn Fence.wide 6 Try.prog 54 #[.slice a n c, .slice a' n' c'] w fun e w' => ∃ (is : List Nat) (aq : Option Addr) (cq : Nat) (ar : Option Addr) (kr cr : Nat), is = down (d + 1) ∧
      e = .returned (.tuple #[.slice aq (d + 1) cq, .slice ar kr cr, .int .i64 0]) ∧ New w w' aq (d + 1) cq (dfold m (pI (g m) 65534) g f is).2 ∧ Shr (dfold m (pI (g m) 65534) g f is).1 kr ∧ New w w' ar kr cr (dfold m (pI (g m) 65534) g f is).1 ∧
      (∀ x y, aq = some x → ar = some y → x.block ≠ y.block) := by
  have hro : Fence.wide.round = none := rfl
  have hm1 : m + 1 ≤ 1000 := by
    rcases hg.1 with h0 | h0
    · omega
    · by_cases hc : m + 1 ≤ n'
      · omega
      · exact (h0 (h'.out _ (by omega))).elim
  have hk1 : m + (d + 1) ≤ 1000 := by
    rcases hf.1 with h0 | h0
    · omega
    · by_cases hc : m + (d + 1) ≤ n
      · omega
      · exact (h0 (h.out _ (by omega))).elim
  have h2 := (h'.alloc (.cells #[.slice a' n' c'] 22)).alloc (.cells #[.slice none 0 0] 22) |>.alloc (.cells #[.slice none 0 0] 22)
  have h3 := (h.alloc (.cells #[.slice a' (m + 1) c'] 22)).alloc (.cells #[.slice none 0 0] 22) |>.alloc (.cells #[.slice none 0 0] 22)
  have hB0 := (((Below.refl w.heap.size w).alloc (Nat.le_refl _) (.cells #[.slice a' (m + 1) c'] 22)).alloc (by simp) (.cells #[.slice none 0 0] 22)).alloc (by simp; omega) (.cells #[.slice none 0 0] 22)
  have q1 : ((m : Int) + 1 == 0) = false := beq_no (by omega)
  have b0 := ((Boxed.new w 22 (.slice a' (m + 1) c')).alloc (.cells #[.slice none 0 0] 22)).alloc (.cells #[.slice none 0 0] 22)
  have b1 := (Boxed.new (w.alloc (.cells #[.slice a' (m + 1) c'] 22)) 22 (.slice none 0 0)).alloc (.cells #[.slice none 0 0] 22)
  have b2 := Boxed.new ((w.alloc (.cells #[.slice a' (m + 1) c'] 22)).alloc (.cells #[.slice none 0 0] 22)) 22 (.slice none 0 0)
  simp only [World.size_alloc] at b1 b2
  have HB := hide (And.intro b0 (And.intro b1 b2))
  have HB0 := hide hB0
  clear b0 b1 b2 hB0
  refine callsIn_of_wp_marks Try.func54 rfl trivial ?_ hro
  simp only [Try.ntmps54, List.size_toArray, List.length_cons, List.length_nil, Nat.reduceAdd, Nat.reduceSub, Array.replicate_succ, Array.replicate_zero, List.push_toArray, List.append_toArray, List.nil_append, List.cons_append]
  gi_wp2_with (refine ⟨trivial, ?_⟩; gi_at_call 34; refine (callsIn_wide.2 (cut_at h2 (by omega) hg)).mono ?_; rintro e w1 ⟨rfl, rfl⟩)
  refine ⟨trivial, (callsIn_wide.2 (short_any h3 (by omega))).mono ?_⟩
  rintro e w2 ⟨ar, k', cr, rfl, hk', hs', hnew⟩
  obtain rfl := hs'.uniq hf
  have b0 := (HB.out.1).kept (row := none) ⟨hnew.bel.os, hnew.bel.tape, hnew.bel.output, hnew.bel.size, fun i hi _ => hnew.bel.block i hi⟩ (by simp)
  have b1 := (HB.out.2.1).kept (row := none) ⟨hnew.bel.os, hnew.bel.tape, hnew.bel.output, hnew.bel.size, fun i hi _ => hnew.bel.block i hi⟩ (by simp)
  have b2 := (HB.out.2.2).kept (row := none) ⟨hnew.bel.os, hnew.bel.tape, hnew.bel.output, hnew.bel.size, fun i hi _ => hnew.bel.block i hi⟩ (by simp)
  have hh : Held (w.heap.size + 1 + 1 + 1) w2 ar (m + (d + 1)) cr f := by have := hnew.held; simpa only [World.size_alloc] using this
  have hB2 : Below w.heap.size w w2 := HB0.out.trans (hnew.bel.mono HB0.out.size)
  obtain ⟨br, or, rfl, hbr, hwr⟩ := hh.own.resolve_left (by omega)
  obtain ⟨bb, ob, rfl, hbb, hcb⟩ := (h'.cut (m := m + 1) (by
    rcases hg.1 with h0 | h0
    · omega
    · by_cases hc : m + 1 ≤ n'
      · exact hc
      · exact (h0 (h'.out _ (by omega))).elim) hg.2).at'.resolve_left (by omega)
  have hW : ∃ W, w2.setCell ⟨w.heap.size + 1 + 1, 0, none⟩ (.slice (some ⟨br, or, none⟩) (m + (d + 1)) cr) = W ∧ Boxed W w.heap.size 22 (.slice (some ⟨bb, ob, none⟩) (m + 1) c') ∧ Boxed W (w.heap.size + 1) 22 (.slice none 0 0) ∧ Boxed W (w.heap.size + 1 + 1) 22 (.slice (some ⟨br, or, none⟩) (m + (d + 1)) cr) ∧
      Wr W br or (m + (d + 1)) f ∧ Below w.heap.size w W :=
    ⟨_, rfl, b0.other (by omega) _, b1.other (by omega) _, b2.set _, (Only.setCell _ _ _ _).wr hwr (by omega), hB2.setCell (p := ⟨w.heap.size + 1 + 1, 0, none⟩) (show w.heap.size ≤ w.heap.size + 1 + 1 by omega) _⟩
  have hcap : m + (d + 1) ≤ cr := hh.sl.cap
  have c2 := b2.cell
  have z2 := b2.frozen
  clear h2 h3 hB2 hnew hs' hh hwr
  obtain ⟨W, hWe, d0, d1, d2, d3, d4⟩ := hW
  have hH3 : ∃ W3, (((W.alloc (.cells #[] 73)).alloc (.cells #[.pointer (some ⟨W.heap.size, 0, none⟩)] 58)).alloc (.cells #[.int .i64 (m : Int)] 3)) = W3 ∧ W3.heap.size = W.heap.size + 1 + 1 + 1 ∧ Boxed W3 w.heap.size 22 (.slice (some ⟨bb, ob, none⟩) (m + 1) c') ∧ Boxed W3 (w.heap.size + 1) 22 (.slice none 0 0) ∧ Boxed W3 (w.heap.size + 1 + 1) 22 (.slice (some ⟨br, or, none⟩) (m + (d + 1)) cr) ∧
      Boxed W3 (W.heap.size + 1) 58 (.pointer (some ⟨W.heap.size, 0, none⟩)) ∧ Boxed W3 (W.heap.size + 1 + 1) 3 (.int .i64 (m : Int)) ∧ Wr W3 br or (m + (d + 1)) f ∧ Below w.heap.size w W3 := by
    have e1 := (Boxed.new (W.alloc (.cells #[] 73)) 58 (.pointer (some ⟨W.heap.size, 0, none⟩))).alloc (.cells #[.int .i64 (m : Int)] 3)
    have e2 := Boxed.new ((W.alloc (.cells #[] 73)).alloc (.cells #[.pointer (some ⟨W.heap.size, 0, none⟩)] 58)) 3 (.int .i64 (m : Int))
    simp only [World.size_alloc] at e1 e2
    exact ⟨_, rfl, by simp, ((d0.alloc _).alloc _).alloc _, ((d1.alloc _).alloc _).alloc _, ((d2.alloc _).alloc _).alloc _, e1, e2, ((d3.alloc _).alloc _).alloc _, ((d4.alloc d4.size _).alloc (by have := d4.size; simp; omega) _).alloc (by have := d4.size; simp; omega) _⟩
  have k0 := d0.cell
  have k2 := d2.cell
  have hbrl := d3.lt
  have k02 := ((d0.alloc (.cells #[] 73)).alloc (.cells #[.pointer (some ⟨W.heap.size, 0, none⟩)] 58)).cell
  have hNW : w.heap.size + 1 + 1 < W.heap.size := d2.lt
  have hgm : (g m == 0) = false := beq_no (hg.1.resolve_left (by omega))
  have hgb := h'.bd m
  clear d0 d1 d2 d3 d4 b0 b1 b2 HB HB0
  gi_wp2_with (refine ⟨trivial, ?_⟩; gi_at_call 35; refine (callsIn_wide.2 (new_any _)).mono ?_; rintro e w3 ⟨rfl, rfl⟩)
  clear hWe c2 z2 k0 k2 k02
  obtain ⟨W3, hW3, hsz, d0, d1, d2, d5, d6, d3, d4⟩ := hH3
  rw [hW3]
  clear hW3
  have k0 := d0.cell
  have k5 := d5.cell
  have k6 := d6.cell
  have hbb3 : W3.cell? ⟨bb, ob + m, none⟩ = some (.int .u16 (g m)) := (d4.cell (p := ⟨bb, ob + m, none⟩) hbb).trans (hcb m (by omega))
  have k0a := (d0.alloc (.cells #[.int .u16 0] 29)).cell
  have k5a := (d5.alloc (.cells #[.int .u16 0] 29)).cell
  have k6a := (d6.alloc (.cells #[.int .u16 0] 29)).cell
  have hbb3a : (W3.alloc (.cells #[.int .u16 0] 29)).cell? ⟨bb, ob + m, none⟩ = some (.int .u16 (g m)) := ((d4.alloc d4.size _).cell (p := ⟨bb, ob + m, none⟩) hbb).trans (hcb m (by omega))
  have k0b := (d0.alloc (.cells #[.int .u16 (pI (g m) 65534)] 29)).cell
  have k5b := (d5.alloc (.cells #[.int .u16 (pI (g m) 65534)] 29)).cell
  have k6b := (d6.alloc (.cells #[.int .u16 (pI (g m) 65534)] 29)).cell
  have hbb3b : (W3.alloc (.cells #[.int .u16 (pI (g m) 65534)] 29)).cell? ⟨bb, ob + m, none⟩ = some (.int .u16 (g m)) := ((d4.alloc d4.size _).cell (p := ⟨bb, ob + m, none⟩) hbb).trans (hcb m (by omega))
  have HD := hide (And.intro d0 (And.intro d1 (And.intro d2 (And.intro d3 (And.intro d4 (And.intro d5 d6))))))
  clear d0 d1 d2 d3 d4 d5 d6
  refine wpIn_wide.2 ?_
  have hmx : Try.prog.follows .mixedOrders = true := by kernel_rfl
  have hlm : (m : Int) < (m : Int) + 1 := by omega
  have hsz' := hsz
  have n1 : w.heap.size ≠ W3.heap.size := by omega
  have n2 : W.heap.size + 1 ≠ W3.heap.size := by omega
  have n3 : W.heap.size + 1 + 1 ≠ W3.heap.size := by omega
  have n4 : bb ≠ W3.heap.size := by omega
  refine wp_only (R := fun a' w' => a' = { tmps := #[.slice a n c, .slice (some ⟨bb, ob, none⟩) n' c', undef, .pointer (some ⟨w.heap.size, 0, none⟩), .pointer (some ⟨w.heap.size + 1, 0, none⟩), .pointer (some ⟨w.heap.size + 1 + 1, 0, none⟩), .int .i64 0, .pointer (some ⟨W.heap.size + 1, 0, none⟩), .pointer (some ⟨W.heap.size + 1 + 1, 0, none⟩), .pointer (some ⟨W.heap.size + 1 + 1 + 1, 0, none⟩), .bool true, undef, .slice (some ⟨bb, ob, none⟩) n' c', .slice (some ⟨bb, ob, none⟩) (m + 1) c', .slice (some ⟨bb, ob, none⟩) (m + 1) c', .int .i64 ((m : Int) + 1), .bool false, .slice a n c, .slice (some ⟨br, or, none⟩) (m + (d + 1)) cr, .slice (some ⟨br, or, none⟩) (m + (d + 1)) cr, .int .i64 ((m : Int) + ((d : Int) + 1)), .slice (some ⟨bb, ob, none⟩) (m + 1) c', .int .i64 ((m : Int) + 1), .bool (decide ((d : Int) + 1 < 1)), undef, .pointer (some ⟨W.heap.size, 0, none⟩), .slice (some ⟨bb, ob, none⟩) (m + 1) c', .int .i64 ((m : Int) + 1), .int .i64 (m : Int), .tuple #[.int .u16 (pI (g m) 65534), .bool true], .pointer (some ⟨W.heap.size, 0, none⟩), .slice (some ⟨bb, ob, none⟩) (m + 1) c', .int .i64 (m : Int), .pointer (some ⟨bb, ob + m, none⟩), .int .u16 (g m), .tuple #[.int .u16 (pI (g m) 65534), .bool true], .int .u16 (pI (g m) 65534), .bool true, undef, undef, undef, undef, undef, undef, undef, undef, undef, undef, undef, undef, undef, undef, undef, undef, undef, undef, undef, undef, undef, undef, undef, undef, undef, undef, undef, undef, undef, undef, undef, undef, undef, undef, undef, undef, undef], defers := [] } ∧ w' = (W3.alloc (.cells #[.int .u16 (pI (g m) 65534)] 29)).drew) ?r ?k
  case r =>
    go_region_held (fun w' => w'.cell? ⟨w.heap.size, 0, none⟩ = some (.slice (some ⟨bb, ob, none⟩) (m + 1) c') ∧ w'.cell? ⟨W.heap.size + 1, 0, none⟩ = some (.pointer (some ⟨W.heap.size, 0, none⟩)) ∧ w'.cell? ⟨W.heap.size + 1 + 1, 0, none⟩ = some (.int .i64 (m : Int)) ∧ w'.cell? ⟨bb, ob + m, none⟩ = some (.int .u16 (g m))) ((first | exact ⟨k0, k5, k6, hbb3⟩ | exact ⟨k0a, k5a, k6a, hbb3a⟩ | exact ⟨k0b, k5b, k6b, hbb3b⟩))
      ((go_at_call 45; refine (inv_any _ _ _ (by omega) hgm).mono ?_; rintro e w' ⟨rfl, rfl⟩))
    all_goals exact ⟨rfl, rfl⟩
  rintro a1 w1 ⟨rfl, rfl⟩
  clear k0 k5 k6 hbb3 k0a k5a k6a hbb3a k0b k5b k6b hbb3b
  have hH4 : ∃ W4, (W3.alloc (.cells #[.int .u16 (pI (g m) 65534)] 29)).drew = W4 ∧ W4.heap.size = W.heap.size + 1 + 1 + 1 + 1 ∧ Boxed W4 w.heap.size 22 (.slice (some ⟨bb, ob, none⟩) (m + 1) c') ∧ Boxed W4 (w.heap.size + 1) 22 (.slice none 0 0) ∧ Boxed W4 (w.heap.size + 1 + 1) 22 (.slice (some ⟨br, or, none⟩) (m + (d + 1)) cr) ∧
      Boxed W4 (W.heap.size + 1) 58 (.pointer (some ⟨W.heap.size, 0, none⟩)) ∧ Boxed W4 (W.heap.size + 1 + 1) 3 (.int .i64 (m : Int)) ∧ Boxed W4 (W.heap.size + 1 + 1 + 1) 29 (.int .u16 (pI (g m) 65534)) ∧ Wr W4 br or (m + (d + 1)) f ∧ Below w.heap.size w W4 := by
    obtain ⟨d0, d1, d2, d3, d4, d5, d6⟩ := HD.out
    have e1 := Boxed.new W3 29 (.int .u16 (pI (g m) 65534))
    rw [hsz] at e1
    exact ⟨_, rfl, by show (W3.alloc _).heap.size = _; simp [hsz], d0.alloc _, d1.alloc _, d2.alloc _, d5.alloc _, d6.alloc _, e1, (d3.alloc _).drew1, (d4.alloc d4.size _).drew⟩
  obtain ⟨W4, hW4, hsz4, d0, d1, d2, d5, d6, d7, d3, d4⟩ := hH4
  rw [hW4]
  clear hW4 hsz hsz' HD n1 n2 n3 n4
  have k2 := d2.cell
  have k6 := d6.cell
  have hmk := mk_int (d + 1) ((m : Int) + ((d : Int) + 1) - (m : Int)) (by omega) (by omega)
  have hmk2 := mk_int (d + 1) ((d : Int) + 1) (by omega) (by omega)
  have HD := hide (And.intro d0 (And.intro d1 (And.intro d2 (And.intro d3 (And.intro d4 (And.intro d5 (And.intro d6 d7)))))))
  have k1 := (d1.alloc (.cells (madeCells #[.int .u16 0] (d + 1)) 29)).cell
  have z1 := (d1.alloc (.cells (madeCells #[.int .u16 0] (d + 1)) 29)).frozen
  clear d0 d1 d2 d3 d4 d5 d6 d7
  gi_wp2_with (refine ⟨trivial, ?_⟩; gi_at_call 56; refine (back_in _ _ trivial rfl _ _ _ _).mono ?_; rintro e w' ⟨rfl, rfl⟩)
  have hH5 : ∃ W5, ((W4.alloc (.cells (madeCells #[.int .u16 0] (d + 1)) 29)).setCell ⟨w.heap.size + 1, 0, none⟩ (.slice (some ⟨W.heap.size + 1 + 1 + 1 + 1, 0, none⟩) (d + 1) (d + 1))).alloc (.cells #[.slice (some ⟨W.heap.size + 1 + 1 + 1 + 1, 0, none⟩) (d + 1) (d + 1)] 22) = W5 ∧ W5.heap.size = W.heap.size + 1 + 1 + 1 + 1 + 1 + 1 ∧
      (Boxed W5 w.heap.size 22 (.slice (some ⟨bb, ob, none⟩) (m + 1) c') ∧ Boxed W5 (w.heap.size + 1) 22 (.slice (some ⟨W.heap.size + 1 + 1 + 1 + 1, 0, none⟩) (d + 1) (d + 1)) ∧ Boxed W5 (w.heap.size + 1 + 1) 22 (.slice (some ⟨br, or, none⟩) (m + (d + 1)) cr) ∧
      Boxed W5 (W.heap.size + 1) 58 (.pointer (some ⟨W.heap.size, 0, none⟩)) ∧ Boxed W5 (W.heap.size + 1 + 1) 3 (.int .i64 (m : Int)) ∧ Boxed W5 (W.heap.size + 1 + 1 + 1) 29 (.int .u16 (pI (g m) 65534)) ∧ Wr W5 br or (m + (d + 1)) f ∧ Wr W5 (W.heap.size + 1 + 1 + 1 + 1) 0 (d + 1) (fun _ => 0)) ∧ Below w.heap.size w W5 ∧
      Boxed W5 (W.heap.size + 1 + 1 + 1 + 1 + 1) 22 (.slice (some ⟨W.heap.size + 1 + 1 + 1 + 1, 0, none⟩) (d + 1) (d + 1)) := by
    obtain ⟨d0, d1, d2, d3, d4, d5, d6, d7⟩ := HD.out
    have hq := Wr.made W4 (d + 1)
    rw [hsz4] at hq
    have hs5 : ((W4.alloc (.cells (madeCells #[.int .u16 0] (d + 1)) 29)).setCell ⟨w.heap.size + 1, 0, none⟩ (.slice (some ⟨W.heap.size + 1 + 1 + 1 + 1, 0, none⟩) (d + 1) (d + 1))).heap.size = W.heap.size + 1 + 1 + 1 + 1 + 1 := by simp [World.setCell, hsz4]
    have e1 := Boxed.new ((W4.alloc (.cells (madeCells #[.int .u16 0] (d + 1)) 29)).setCell ⟨w.heap.size + 1, 0, none⟩ (.slice (some ⟨W.heap.size + 1 + 1 + 1 + 1, 0, none⟩) (d + 1) (d + 1))) 22 (.slice (some ⟨W.heap.size + 1 + 1 + 1 + 1, 0, none⟩) (d + 1) (d + 1))
    rw [hs5] at e1
    refine ⟨_, rfl, by rw [World.size_alloc, hs5], ⟨((d0.alloc _).other (by omega) _).alloc _, ((d1.alloc _).set _).alloc _, ((d2.alloc _).other (by omega) _).alloc _, ((d5.alloc _).other (by omega) _).alloc _, ((d6.alloc _).other (by omega) _).alloc _, ((d7.alloc _).other (by omega) _).alloc _,
      ((Only.setCell _ _ _ _).wr (d3.alloc _) (by omega)).alloc _, ((Only.setCell _ _ _ _).wr hq (by omega)).alloc _⟩, ((d4.alloc d4.size _).setCell (p := ⟨w.heap.size + 1, 0, none⟩) (show w.heap.size ≤ w.heap.size + 1 by omega) _).alloc (by rw [hs5]; omega) _, e1⟩
  obtain ⟨W5, hW5, hsz5, hI5, hB5, bS⟩ := hH5
  rw [hW5]
  clear hW5 hsz4 HD k1 z1 k2 k6 hmk hmk2
  have hq0 : ∀ j, j < d + 1 → ∃ y, (0 ≤ y ∧ y ≤ 65535) ∧ W5.cell? ⟨W.heap.size + 1 + 1 + 1 + 1, 0 + j, none⟩ = some (.int .u16 y) := fun j hj => ⟨0, z16, hI5.2.2.2.2.2.2.2.cell j hj⟩
  have hmx2 : Try.prog.follows .mixedOrders = true := hmx
  refine wpIn_rangeFunc_ownG hro (by decide) (gf := 62) (lb := #[.pointer (some ⟨W.heap.size + 1 + 1 + 1 + 1 + 1, 0, none⟩)]) rfl trivial (enters_of Try.func62 (by kernel_rfl) rfl)
    (back_stops Fence.wide _ trivial hro (by decide) (W.heap.size + 1 + 1 + 1 + 1 + 1) (W.heap.size + 1 + 1 + 1 + 1) 0 (d + 1) (some ⟨W.heap.size + 1 + 1 + 1 + 1, 0, none⟩) (d + 1) (by omega) (fun _ y => 0 ≤ y ∧ y ≤ 65535) (fun _ _ e => e) W5 (by omega) bS.cell (.inr ⟨rfl, by omega, hq0⟩)) kpB_t ?hKb (Below.refl _ _) (fun _ => rfl)
    (fun pre W' => (Boxed W' w.heap.size 22 (.slice (some ⟨bb, ob, none⟩) (m + 1) c') ∧ Boxed W' (w.heap.size + 1) 22 (.slice (some ⟨W.heap.size + 1 + 1 + 1 + 1, 0, none⟩) (d + 1) (d + 1)) ∧ Boxed W' (w.heap.size + 1 + 1) 22 (.slice (some ⟨br, or, none⟩) (m + (d + 1)) cr) ∧
      Boxed W' (W.heap.size + 1) 58 (.pointer (some ⟨W.heap.size, 0, none⟩)) ∧ Boxed W' (W.heap.size + 1 + 1) 3 (.int .i64 (m : Int)) ∧ Boxed W' (W.heap.size + 1 + 1 + 1) 29 (.int .u16 (pI (g m) 65534)) ∧ Wr W' br or (m + (d + 1)) (dfold m (pI (g m) 65534) g f (pre.map fun y => y.1.1)).1 ∧ Wr W' (W.heap.size + 1 + 1 + 1 + 1) 0 (d + 1) (dfold m (pI (g m) 65534) g f (pre.map fun y => y.1.1)).2) ∧ Below w.heap.size w W')
    (fun _ _ _ => False)
    (OwnFrom.and (Own.from (fun s A B row hs hg hr => ⟨boxed_own (β := List (It (d + 1))) _ _ (fun _ => _) s A B row hs.1 hg hr, boxed_own (β := List (It (d + 1))) _ _ (fun _ => _) s A B row hs.2.1 hg hr, boxed_own (β := List (It (d + 1))) _ _ (fun _ => _) s A B row hs.2.2.1 hg hr, boxed_own (β := List (It (d + 1))) _ _ (fun _ => _) s A B row hs.2.2.2.1 hg hr,
        boxed_own (β := List (It (d + 1))) _ _ (fun _ => _) s A B row hs.2.2.2.2.1 hg hr, boxed_own (β := List (It (d + 1))) _ _ (fun _ => _) s A B row hs.2.2.2.2.2.1 hg hr, wr_own (β := List (It (d + 1))) _ _ _ (fun _ => _) s A B row hs.2.2.2.2.2.2.1 hg hr, wr_own (β := List (It (d + 1))) _ _ _ (fun _ => _) s A B row hs.2.2.2.2.2.2.2 hg hr⟩) _) (ownFrom_below (Nat.le_refl _) (by omega)))
    (fun _ _ _ _ _ hs _ _ => hs)
    ⟨hI5, hB5⟩
    (fun y => { tmps := #[.slice a n c, .slice (some ⟨bb, ob, none⟩) n' c', undef, .pointer (some ⟨w.heap.size, 0, none⟩), .pointer (some ⟨w.heap.size + 1, 0, none⟩), .pointer (some ⟨w.heap.size + 1 + 1, 0, none⟩), .int .i64 0, .pointer (some ⟨W.heap.size + 1, 0, none⟩), .pointer (some ⟨W.heap.size + 1 + 1, 0, none⟩), .pointer (some ⟨W.heap.size + 1 + 1 + 1, 0, none⟩), .bool true, .int .i64 (y.1.1 : Int), .slice (some ⟨bb, ob, none⟩) n' c', .slice (some ⟨bb, ob, none⟩) (m + 1) c', .slice (some ⟨bb, ob, none⟩) (m + 1) c', .int .i64 ((m : Int) + 1), .bool false, .slice a n c, .slice (some ⟨br, or, none⟩) (m + (d + 1)) cr, .slice (some ⟨br, or, none⟩) (m + (d + 1)) cr, .int .i64 ((m : Int) + ((d : Int) + 1)), .slice (some ⟨bb, ob, none⟩) (m + 1) c', .int .i64 ((m : Int) + 1), .bool (decide ((d : Int) + 1 < 1)), undef, .pointer (some ⟨W.heap.size, 0, none⟩), .slice (some ⟨bb, ob, none⟩) (m + 1) c', .int .i64 ((m : Int) + 1), .int .i64 (m : Int), .tuple #[.int .u16 (pI (g m) 65534), .bool true], .pointer (some ⟨W.heap.size, 0, none⟩), .slice (some ⟨bb, ob, none⟩) (m + 1) c', .int .i64 (m : Int), .pointer (some ⟨bb, ob + m, none⟩), .int .u16 (g m), .tuple #[.int .u16 (pI (g m) 65534), .bool true], .int .u16 (pI (g m) 65534), .bool true, .slice (some ⟨br, or, none⟩) (m + (d + 1)) cr, .int .i64 ((m : Int) + ((d : Int) + 1)), .int .i64 (m : Int), .int .i64 ((m : Int) + ((d : Int) + 1) - (m : Int)), .slice (some ⟨W.heap.size + 1 + 1 + 1 + 1, 0, none⟩) (d + 1) (d + 1), .slice (some ⟨W.heap.size + 1 + 1 + 1 + 1, 0, none⟩) (d + 1) (d + 1), .func (.func 62) #[] #[.pointer (some ⟨W.heap.size + 1 + 1 + 1 + 1 + 1, 0, none⟩)], .int .i64 (y.1.1 : Int), .int .u16 y.1.2, undef, undef, undef, undef, undef, undef, undef, undef, undef, undef, undef, undef, undef, undef, undef, undef, undef, undef, undef, undef, undef, undef, undef, undef, undef, undef, undef, undef], defers := [] }) ?assign ?body ?done ?stop
  case hKb =>
    intro W' l o o' hl h1 h2 _
    refine ⟨World.cell?_of_block (w := W') (World.putObj_heap_other (by show W.heap.size + 1 + 1 + 1 + 1 + 1 ≠ l; omega)), fun hh j hj => ?_⟩
    obtain ⟨y, e1, e2⟩ := hh j hj
    exact ⟨y, e1, cell_put h1 h2 e2⟩
  case assign =>
    intro l y W' K hK
    simp only [encIt]
    gi_wp2
    exact hK
  case body =>
    rintro l pre ⟨⟨i, v⟩, hi, hv⟩ W' ⟨⟨i0, i1, i2, i3, i4, i5, i6, i7⟩, hB⟩ _
    dsimp only at hi hv ⊢
    have h16 := dfold16 (m := m) (inv := pI (g m) 65534) h'.bd h.bd (pre.map fun y => y.1.1)
    have hstep := dfold_snoc m (pI (g m) 65534) g f (pre.map fun y => y.1.1) i
    have hmap : (pre ++ [(⟨(i, v), hi, hv⟩ : It (d + 1))]).map (fun y => y.1.1) = (pre.map fun y => y.1.1) ++ [i] := by simp
    have HM := hide hmap
    have HS := hide hstep
    clear hmap hstep
    revert i6 i7 h16 HS
    generalize dfold m (pI (g m) 65534) g f (pre.map fun y => y.1.1) = s
    intro i6 i7 h16 HS
    have c1 := i1.cell
    have c2 := i2.cell
    have c3 := i3.cell
    have c4 := i4.cell
    have c5 := i5.cell
    have cr1 := i6.cell (i + m) (by omega)
    have bR := h16.1 (i + m)
    have bI := pI_bd (g m) 65534 (by omega)
    revert cr1 bR
    generalize hr : s.1 (i + m) = r
    intro cr1 bR
    have cq1 := i7.cell i (by omega)
    have fq1 := i7.free i (by omega)
    rw [Nat.zero_add] at cq1 fq1
    have t1 : ((i : Int) + (m : Int)).toNat = i + m := by omega
    have t2 : (i : Int) + (m : Int) < (m : Int) + ((d : Int) + 1) := by omega
    have t3 : (i : Int) < (d : Int) + 1 := by omega
    have t4 : (0 : Int) ≤ (i : Int) + (m : Int) := by omega
    have t5 : IntKind.i64.wrap ((i : Int) + (m : Int)) = (i : Int) + (m : Int) := wrap_small _ (by omega) (by omega)
    have HW := hide (And.intro i0 (And.intro i1 (And.intro i2 (And.intro i3 (And.intro i4 (And.intro i5 (And.intro i6 (And.intro i7 hB))))))))
    clear i0 i1 i2 i3 i4 i5 i6 i7 hB hI5 hB5 bS hq0
    have H16 := hide h16
    have HR := hide hr
    clear h16 hr
    gi_wp2
    refine region_tail_round 12 hmx2 (by kernel_rfl) (by kernel_rfl) ?_
    simp only [List.take_succ_cons, List.take_zero, List.drop_succ_cons, List.drop_zero]
    repeat still_step
    still_call (mul_any _ _ _ _ (by omega) (by omega))
    repeat still_step
    refine wpStill_nil ?_
    go_wp2
    have hH6 : ∃ W6, (W'.setCell ⟨W.heap.size + 1 + 1 + 1 + 1, i, none⟩ (.int .u16 (gI r (pI (g m) 65534)))).drew = W6 ∧ Only (W.heap.size + 1 + 1 + 1 + 1) W' W6 ∧ Wr W6 (W.heap.size + 1 + 1 + 1 + 1) 0 (d + 1) (dst m (pI (g m) 65534) g s i).2 := by
      obtain ⟨i0, i1, i2, i3, i4, i5, i6, i7, hB⟩ := HW.out
      refine ⟨_, rfl, (Only.setCell _ _ _ _).drew, Wr.drew1 ?_⟩
      have h9 := i7.set i (by omega) (gI r (pI (g m) 65534))
      rw [Nat.zero_add] at h9
      refine h9.congr fun j _ => ?_
      show _ = (if j = i then gI (s.1 (i + m)) (pI (g m) 65534) else s.2 j)
      rw [HR.out]
    obtain ⟨W6, hW6, o6, q6⟩ := hH6
    rw [hW6]
    clear hW6 c1 c2 c3 c4 c5 cr1 cq1 fq1
    obtain ⟨i0, i1, i2, i3, i4, i5, i6, i7, hB⟩ := HW.out
    have j0 : Boxed W6 w.heap.size 22 _ := (o6.block _ (by omega)).trans i0
    have j1 : Boxed W6 (w.heap.size + 1) 22 _ := (o6.block _ (by omega)).trans i1
    have j2 : Boxed W6 (w.heap.size + 1 + 1) 22 _ := (o6.block _ (by omega)).trans i2
    have j3 : Boxed W6 (W.heap.size + 1) 58 _ := (o6.block _ (by omega)).trans i3
    have j4 : Boxed W6 (W.heap.size + 1 + 1) 3 _ := (o6.block _ (by omega)).trans i4
    have j5 : Boxed W6 (W.heap.size + 1 + 1 + 1) 29 _ := (o6.block _ (by omega)).trans i5
    have j6 : Wr W6 br or (m + (d + 1)) s.1 := o6.wr i6 (by omega)
    have hB6 : Below w.heap.size w W6 := hB.trans (o6.below (by omega))
    have cq6 : W6.cell? ⟨W.heap.size + 1 + 1 + 1 + 1, i, none⟩ = some (.int .u16 (gI r (pI (g m) 65534))) := by
      have := q6.cell i (by omega)
      rw [Nat.zero_add] at this
      rw [this]
      show some (Value.int .u16 (if i = i then gI (s.1 (i + m)) (pI (g m) 65534) else s.2 i)) = _
      rw [if_pos rfl, HR.out]
    have ho6 : KeepsOthers W' W6 := keeps_only o6 i7 (by omega)
    have c0 := j0.cell
    have c1 := j1.cell
    have c2 := j2.cell
    have c3 := j3.cell
    have HJ := hide (And.intro j0 (And.intro j1 (And.intro j2 (And.intro j3 (And.intro j4 (And.intro j5 (And.intro j6 (And.intro q6 (And.intro hB6 (And.intro o6 ho6))))))))))
    clear j0 j1 j2 j3 j4 j5 j6 q6 hB6 o6 ho6 i0 i1 i2 i3 i4 i5 i6 i7 hB HW
    have t6 : ((i : Int)).toNat = i := by omega
    have t7 : (i : Int) ≤ (m : Int) + ((d : Int) + 1) := by omega
    have bG := gI_bd r (pI (g m) 65534) (by omega)
    refine region_tail_round 12 hmx2 (by kernel_rfl) (by kernel_rfl) ?_
    simp only [List.take_succ_cons, List.take_zero, List.drop_succ_cons, List.drop_zero]
    repeat still_step
    refine wpStill_nil ?_
    go_wp2_with fail
    obtain ⟨j0, j1, j2, j3, j4, j5, j6, q6, hB6, o6, ho6⟩ := HJ.out
    refine (eachTimes_off br or i (m + (d + 1)) (m + (d + 1) - i) (cr - i) bb ob (m + 1) c' _ (gI r (pI (g m) 65534)) s.1 g W6.drew (by omega) (by omega) (by omega) (.inl (by omega)) H16.out.1 h'.bd hg.2 (by omega) j6.drew1 (fun j hj => (hB6.cell (p := ⟨bb, ob + j, none⟩) hbb).trans (hcb j hj))).mono ?_
    rintro e w7 ⟨⟨vv, rfl⟩, r7, o7⟩
    have o7' : Only br W6 w7 := ⟨o7.os, o7.tape, o7.output, o7.size, o7.block⟩
    have ho7 : KeepsOthers W6 w7 := keeps_only o7' j6 (by omega)
    have HF := hide (show KeepsFrom W5.heap.size W' w7 ∧ KpB (fun _ y => 0 ≤ y ∧ y ≤ 65535) (W.heap.size + 1 + 1 + 1 + 1 + 1) (W.heap.size + 1 + 1 + 1 + 1) 0 (d + 1) W' w7 ∧
        (Boxed w7 w.heap.size 22 (.slice (some ⟨bb, ob, none⟩) (m + 1) c') ∧ Boxed w7 (w.heap.size + 1) 22 (.slice (some ⟨W.heap.size + 1 + 1 + 1 + 1, 0, none⟩) (d + 1) (d + 1)) ∧ Boxed w7 (w.heap.size + 1 + 1) 22 (.slice (some ⟨br, or, none⟩) (m + (d + 1)) cr) ∧
        Boxed w7 (W.heap.size + 1) 58 (.pointer (some ⟨W.heap.size, 0, none⟩)) ∧ Boxed w7 (W.heap.size + 1 + 1) 3 (.int .i64 (m : Int)) ∧ Boxed w7 (W.heap.size + 1 + 1 + 1) 29 (.int .u16 (pI (g m) 65534)) ∧ Wr w7 br or (m + (d + 1)) (dfold m (pI (g m) 65534) g f ((pre ++ [(⟨(i, v), hi, hv⟩ : It (d + 1))]).map fun y => y.1.1)).1 ∧ Wr w7 (W.heap.size + 1 + 1 + 1 + 1) 0 (d + 1) (dfold m (pI (g m) 65534) g f ((pre ++ [(⟨(i, v), hi, hv⟩ : It (d + 1))]).map fun y => y.1.1)).2) ∧ Below w.heap.size w w7 from by
      rw [HM.out, HS.out]
      have q7 := o7'.wr q6 (by omega)
      refine ⟨(ho6.trans ho7).from _, ⟨?_, fun _ j hj => ⟨_, (dst16 h'.bd H16.out i).2 j, q7.cell j hj⟩⟩, ⟨(o7'.block _ (by omega)).trans j0, (o7'.block _ (by omega)).trans j1, (o7'.block _ (by omega)).trans j2, (o7'.block _ (by omega)).trans j3, (o7'.block _ (by omega)).trans j4, (o7'.block _ (by omega)).trans j5, ?_, q7⟩, hB6.trans (o7'.below (by omega))⟩
      · exact (o7'.cell (p := ⟨W.heap.size + 1 + 1 + 1 + 1 + 1, 0, none⟩) (show W.heap.size + 1 + 1 + 1 + 1 + 1 ≠ br by omega)).trans (o6.cell (p := ⟨W.heap.size + 1 + 1 + 1 + 1 + 1, 0, none⟩) (show W.heap.size + 1 + 1 + 1 + 1 + 1 ≠ W.heap.size + 1 + 1 + 1 + 1 by omega))
      · refine r7.congr fun j _ => ?_
        show _ = (if j < i then s.1 j else xI (s.1 j) (gI (g (j - i)) (gI (s.1 (i + m)) (pI (g m) 65534))))
        rw [HR.out])
    clear j0 j1 j2 j3 j4 j5 j6 q6 hB6 o6 ho6 r7 o7 o7' ho7 HJ
    go_wp2
    exact HF.out
  case done =>
    rintro D ys W' hD hS ⟨⟨i0, i1, i2, i3, i4, i5, i6, i7⟩, hB⟩ hK
    have hys : ys.map (fun y => y.1.1) = down (d + 1) := hS.1
    have h16 := dfold16 (m := m) (inv := pI (g m) 65534) h'.bd h.bd (ys.map fun y => y.1.1)
    rw [hys] at i6 i7 h16
    have HK := hide hK
    have c1 := i1.cell
    have c2 := i2.cell
    gi_wp2
    refine wpIn_wide.2 ?_
    have hout := dfold_out (m := m) (d := d) (inv := pI (g m) 65534) hg.2 hf.2 (down (d + 1)) (down_le d)
    have hout2 := dfold2_out (m := m) (n := d + 1) (inv := pI (g m) 65534) (B := g) (f := f) (down (d + 1)) (fun i hi => by have := down_le d i hi; omega)
    obtain ⟨kr, hkr, hsr⟩ := shr_ex _ _ hout
    have hSr : Sl W'.drew (some ⟨br, or, none⟩) (m + (d + 1)) cr (dfold m (pI (g m) 65534) g f (down (d + 1))).1 := i6.drew1.sl cr hcap h16.1 hout
    have z1 := i1.frozen
    have z2 := i2.frozen
    have c12 := (i2.other (B' := w.heap.size + 1) (by omega) (.slice (some ⟨W.heap.size + 1 + 1 + 1 + 1, 0, none⟩) (d + 1) (d + 1))).cell
    have z12 := (i2.other (B' := w.heap.size + 1) (by omega) (.slice (some ⟨W.heap.size + 1 + 1 + 1 + 1, 0, none⟩) (d + 1) (d + 1))).frozen
    have HI := hide (And.intro i1 (And.intro i2 (And.intro i6 (And.intro i7 (And.intro hB (And.intro hout hout2))))))
    have H16 := hide h16
    clear i0 i1 i2 i3 i4 i5 i6 i7 hB hout hout2 h16 hK hI5 hB5 bS hq0
    refine wp_region_still_tail 3 hmx2 (by kernel_rfl) ?_
    simp only [List.take_succ_cons, List.take_zero, List.drop_succ_cons, List.drop_zero]
    repeat still_step
    still_call (cut_at hSr (by omega) hsr)
    refine wpStill_nil ?_
    go_wp2
    gi_wp2
    obtain ⟨i1, i2, i6, i7, hB, hout, hout2⟩ := HI.out
    have hWF : ∃ WF, ((W'.setCell ⟨w.heap.size + 1, 0, none⟩ (.slice (some ⟨W.heap.size + 1 + 1 + 1 + 1, 0, none⟩) (d + 1) (d + 1))).setCell ⟨w.heap.size + 1 + 1, 0, none⟩ (.slice (some ⟨br, or, none⟩) kr cr)).drew = WF ∧ WF.heap[D]? = some (.deferred (some [])) ∧ Boxed WF (w.heap.size + 1) 22 (.slice (some ⟨W.heap.size + 1 + 1 + 1 + 1, 0, none⟩) (d + 1) (d + 1)) ∧ Boxed WF (w.heap.size + 1 + 1) 22 (.slice (some ⟨br, or, none⟩) kr cr) ∧
        Wr WF br or (m + (d + 1)) (dfold m (pI (g m) 65534) g f (down (d + 1))).1 ∧ Wr WF (W.heap.size + 1 + 1 + 1 + 1) 0 (d + 1) (dfold m (pI (g m) 65534) g f (down (d + 1))).2 ∧ Below w.heap.size w WF := by
      refine ⟨_, rfl, ?_, (i1.set _).other (by omega) _, (i2.other (by omega) _).set _, ((Only.setCell _ _ _ _).wr ((Only.setCell _ _ _ _).wr i6 (by omega)) (by omega)).drew1, ((Only.setCell _ _ _ _).wr ((Only.setCell _ _ _ _).wr i7 (by omega)) (by omega)).drew1, ((hB.setCell (p := ⟨w.heap.size + 1, 0, none⟩) (show w.heap.size ≤ w.heap.size + 1 by omega) _).setCell (p := ⟨w.heap.size + 1 + 1, 0, none⟩) (show w.heap.size ≤ w.heap.size + 1 + 1 by omega) _).drew⟩
      exact ((Only.setCell (w.heap.size + 1 + 1) 0 _ _).block D (by omega)).trans (((Only.setCell (w.heap.size + 1) 0 _ _).block D (by omega)).trans HK.out)
    obtain ⟨WF, hWFe, hKF, g1, g2, g6, g7, gB⟩ := hWF
    rw [hWFe]
    refine ⟨by simp, .inl ⟨_, _, rfl, run_takeDeferred hKF, ?_⟩⟩
    have x1 := cell_put (o' := .deferred none) hKF rfl g1.cell
    have x2 := cell_put (o' := .deferred none) hKF rfl g2.cell
    have y6 := wr_put (ob' := .deferred none) g6 hKF rfl
    have y7 := wr_put (ob' := .deferred none) g7 hKF rfl
    have yB : Below w.heap.size w (WF.putObj D (.deferred none)) := gB.trans (belowK_b (w := w) (Nat.le_refl _) WF D _ _ (by omega) hKF rfl rfl)
    refine ⟨.tuple #[.slice (some ⟨W.heap.size + 1 + 1 + 1 + 1, 0, none⟩) (d + 1) (d + 1), .slice (some ⟨br, or, none⟩) kr cr, .int .i64 0], ?_, down (d + 1), _, _, _, kr, _, rfl, rfl, New.of_wr y7 (by omega) yB (Nat.le_refl _) H16.out.2 hout2, hsr, (New.of_wr y6 (by omega) yB hcap H16.out.1 hout).cut hkr hsr.2, ?_⟩
    · simp [results, Try.f54, go_sem, x1, x2]
    · intro x y e1 e2
      cases e1
      cases e2
      show W.heap.size + 1 + 1 + 1 + 1 ≠ br
      omega
  case stop =>
    rintro D c pre W _ _ h _
    exact h.elim

end Go.Proofs.Ytdbdidohldhnhaa
