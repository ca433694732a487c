/- The document's words of a key, walked. For any key of 32 bytes, and a table in memory: the call returns what ATab says, in memory of its own; what was there is left. -/
import Derived.Test.YtknjmmbebkcnpaaRun14
import Derived.Test.YtknjmmbebkcnpaaRun7
import Derived.Deep.LoopGhost
namespace Go.Proofs.Ytknjmmbebkcnpaa
open Go.RowKit Bk
set_option linter.unusedVariables false
set_option linter.unusedSimpArgs false

theorem ahd_rot (T x : List UInt8) (k : Nat) (h : k % 8 = 0) : ahd T k x = [gy T (gy x 1).toNat ^^^ UInt8.ofNat (2 ^ (k / 8 - 1)), gy T (gy x 2).toNat, gy T (gy x 3).toNat, gy T (gy x 0).toNat] := by
  unfold ahd
  rw [if_pos h]
  rfl
theorem list4 {x : List UInt8} (h : x.length = 4) : x = [gy x 0, gy x 1, gy x 2, gy x 3] := by
  match x, h with
  | [a, b, c, d], _ => rfl
theorem ahd_four (T x : List UInt8) (k : Nat) (h : x.length = 4) (h8 : k % 8 = 4) : ahd T k x = [gy T (gy x 0).toNat, gy T (gy x 1).toNat, gy T (gy x 2).toNat, gy T (gy x 3).toNat] := by
  unfold ahd
  rw [if_neg (by omega), if_pos h8]
  conv => lhs; rw [list4 h]
  rfl
/-- The power that stands ready for word n. -/
def pw (n : Nat) : Nat := 2 ^ ((n - 1) / 8)
theorem pw_ok : ((List.range 60).all fun n => decide (pw n < 256) && (!decide (n % 8 = 0 ∧ 8 ≤ n) || (pw n == 2 ^ (n / 8 - 1) && pr (pw n) 2 == pw (n + 1))) && (!decide (n % 8 ≠ 0) || pw (n + 1) == pw n)) = true := by decide +kernel
theorem pw_facts {n : Nat} (h : n < 60) : pw n < 256 ∧ (n % 8 = 0 ∧ 8 ≤ n → pw n = 2 ^ (n / 8 - 1) ∧ pr (pw n) 2 = pw (n + 1)) ∧ (n % 8 ≠ 0 → pw (n + 1) = pw n) := by
  have k := pw_ok
  rw [List.all_eq_true] at k
  have k1 := k n (List.mem_range.2 h)
  rw [Bool.and_eq_true, Bool.and_eq_true] at k1
  refine ⟨of_decide_eq_true k1.1.1, fun e => ?_, fun e => ?_⟩
  · have k2 := k1.1.2
    rw [Bool.or_eq_true] at k2
    rcases k2 with k2 | k2
    · simp [e] at k2
    · rw [Bool.and_eq_true] at k2
      exact ⟨eq_of_beq k2.1, eq_of_beq k2.2⟩
  · have k2 := k1.2
    rw [Bool.or_eq_true] at k2
    rcases k2 with k2 | k2
    · simp [e] at k2
    · exact eq_of_beq k2
theorem spr_eight (T K : List UInt8) (hK : K.length = 32) : spr T K 8 = K := by
  have e : ∀ k, k ≤ 8 → spr T K k = K.take (4 * k) := fun k => by
    induction k with
    | zero => intro _; rfl
    | succ k ih =>
      intro h
      show spr T K k ++ nxt T K (spr T K k) k = _
      unfold nxt
      rw [if_pos (by omega), ih (by omega)]
      unfold wat
      rw [show 4 * (k + 1) = 4 * k + 4 by omega, List.take_add]
  rw [e 8 (Nat.le_refl _), List.take_of_length_le (by omega)]
theorem gy_wat {l : List UInt8} {k j : Nat} (h : j < 4) : gy (wat l k) j = gy l (4 * k + j) := by unfold wat; rw [gy_take _ _ _ h, gy_drop]
/-- Some of a word's bytes are behind the words. -/
def spk (T K : List UInt8) (n j : Nat) : List UInt8 := spr T K n ++ (nxt T K (spr T K n) n).take j
theorem spk_zero (T K : List UInt8) (n : Nat) : spk T K n 0 = spr T K n := by unfold spk; rw [List.take_zero, List.append_nil]
theorem spk_four (T K : List UInt8) (hK : K.length = 32) (n : Nat) : spk T K n 4 = spr T K (n + 1) := by
  unfold spk
  rw [List.take_of_length_le (by rw [nxt_length T K hK]; exact Nat.le_refl _)]
  rfl
theorem spk_length (T K : List UInt8) (hK : K.length = 32) (n j : Nat) (h : j ≤ 4) : (spk T K n j).length = 4 * n + j := by
  unfold spk
  rw [List.length_append, spr_length T K hK, List.length_take, nxt_length T K hK, Nat.min_eq_left h]
theorem spk_succ (T K : List UInt8) (hK : K.length = 32) (n j : Nat) (h : j < 4) : bs (spk T K n (j + 1)) = bs (spk T K n j) ++ [.int .u8 ((gy (nxt T K (spr T K n) n) j).toNat : Int)] := by
  unfold spk
  rw [bs_app, take_next _ _ (by rw [nxt_length T K hK]; exact h), bs_app, List.append_assoc]
theorem spk_old (T K : List UInt8) (hK : K.length = 32) (n j i : Nat) (h : i < 4 * n) : gy (spk T K n j) i = gy (spr T K n) i := gy_app _ _ _ (by rw [spr_length T K hK]; exact h)

/-- What lies in memory while words are made: the words so far, and another row of the call's own. -/
structure Gw (w0 w : World) (tb : Nat) (T : List UInt8) (v : Value) (m : Nat) (l : List UInt8) : Prop where
  t : Row w tb 0 (bs T)
  own : Ow w w0.heap.size v m (bs l)
  be : Below w0.heap.size w0 w
  lo : tb < w0.heap.size
theorem Gw.below {w0 w w' : World} {tb : Nat} {T : List UInt8} {v : Value} {m : Nat} {l : List UInt8} (h : Gw w0 w tb T v m l) (k : Below w.heap.size w w') : Gw w0 w' tb T v m l := ⟨h.t.below k h.t.lt, h.own.keep k, h.be.trans (k.mono h.be.size), h.lo⟩
theorem Gw.drew {w0 w : World} {tb : Nat} {T : List UInt8} {v : Value} {m : Nat} {l : List UInt8} (h : Gw w0 w tb T v m l) : Gw w0 w.drew tb T v m l := ⟨h.t.drew, h.own.drew, h.be.drew, h.lo⟩
theorem Gw.grown {w0 w w' : World} {tb : Nat} {T : List UInt8} {v v' : Value} {m m' : Nat} {l l' : List UInt8} (h : Gw w0 w tb T v m l) (o : Ow w' w0.heap.size v' m' (bs l')) (k : Below w0.heap.size w w') : Gw w0 w' tb T v' m' l' := ⟨h.t.below k h.lo, o, h.be.trans k, h.lo⟩

set_option maxRecDepth 100000 in
set_option maxHeartbeats 16000000 in
theorem gwords_any (T : List UInt8) (key : ByteArray) (w : World) (tb tc : Nat) (hk : key.size = 32) (hT : T.length = 256) (hR : Row w tb 0 (bs T)) :
    Calls Try.prog 60 #[.string key, .slice (some ⟨tb, 0, none⟩) 256 tc] w fun e w' => ∃ v, e = .returned v ∧ Ow w' w.heap.size v 240 (bs (spr T (sb key) 60)) ∧ Below w.heap.size w w' := by
  have hmx : Try.prog.follows .mixedOrders = true := by kernel_rfl
  obtain ⟨K, eK⟩ : ∃ K, sb key = K := ⟨_, rfl⟩
  have lK : K.length = 32 := by rw [← eK, sb_length, hk]
  obtain ⟨v0, w1, hrun, hO, hB1⟩ := run_bytesO (P := Try.prog) w 9 28 5 key Try.underlying9 Try.underlying28 Try.underlying5
  rw [hk, eK] at hO
  obtain ⟨va, vc, rfl, hvc⟩ := hO.shape
  have HG := hide (show Gw w w1 tb T (.slice va 32 vc) (4 * 8) (spr T K 8) from ⟨hR.below hB1 hR.lt, by rw [spr_eight T K lK]; exact hO, hB1, hR.lt⟩)
  have HX := hide (And.intro lK hT)
  rw [eK]
  clear hO hB1 hR hT eK hvc hk
  go_enter Try.func60, Try.ntmps60
  go_wp2_with fail
  clear hrun
  go_loopg [5, 6, 7, 8, 9] 52 (fun g v p q _ _ wr => ∃ n : Nat, n + g = 60 ∧ 8 ≤ n ∧ q = .int .i64 n ∧ p = .int .u8 (pw n : Nat) ∧ Gw w wr tb T v (4 * n) (spr T K n))
  case atStart => exact ⟨8, rfl, by decide, rfl, rfl, HG.out⟩
  case round =>
    clear HG
    obtain ⟨wo, hwo⟩ : ∃ z, z = wr := ⟨_, rfl⟩
    subst hwo
    obtain ⟨n, hng, hn8, rfl, rfl, hG⟩ := hrel
    by_cases hlt : n < 60
    · have hlt' : (n : Int) < 60 := by omega
      obtain ⟨g3, rfl⟩ : ∃ g3, gk = g3 + 1 := ⟨gk - 1, by omega⟩
      obtain ⟨gb, gc, rfl, hg, hc, hR⟩ := hG.own.row (by omega)
      have lS : (spr T K n).length = 4 * n := spr_length T K HX.out.1 n
      have v1 := IntWalk.i64_in (4 * (n : Int)) (by omega)
      obtain ⟨u, eu⟩ : ∃ u, 4 * n - 4 = u := ⟨_, rfl⟩
      have v2 : 4 * (n : Int) - 4 = (u : Int) := by omega
      have v3 := IntWalk.i64_in (u : Int) (by omega)
      obtain ⟨X, eX⟩ : ∃ x, wat (spr T K n) (n - 1) = x := ⟨_, rfl⟩
      have lX : X.length = 4 := by rw [← eX]; exact wat_length (by omega)
      have hp := hR.part0 u 4 (by omega)
      have eX2 : ((spr T K n).drop u).take 4 = X := by
        rw [← eX]
        unfold wat
        rw [show u = 4 * (n - 1) by omega]
      rw [eX2] at hp
      obtain ⟨Y, eY⟩ : ∃ x, ahd T n X = x := ⟨_, rfl⟩
      have lY : Y.length = 4 := eY ▸ ahd_length _ _ _ lX
      have hnx : nxt T K (spr T K n) n = comb (wat (spr T K n) (n - 8)) Y := by
        unfold nxt
        rw [if_neg (by omega), eX, eY]
      have hsrc : Src Try.prog 1 28 (.slice (some ⟨gb, u, none⟩) 4 (gc - u)) 4 (bs X) (wo.alloc (.cells #[] 5)) := (hp.alloc (.cells #[] 5)).src (by rw [bs_length, lX]) Try.underlying28 (fun y hy => bs_one hy)
      have m4 : 4 * n - u = 4 := by omega
      have HSr := hide (show Src Try.prog 1 28 (.slice (some ⟨gb, u, none⟩) (4 * n - u) (gc - u)) 4 (bs X) (wo.alloc (.cells #[] 5)) by rw [m4]; exact hsrc)
      have HG := hide hG
      have HGb := hide hg
      have HL := hide (And.intro lX (And.intro lY lS))
      have HE := hide (And.intro eX (And.intro eY hnx))
      have HN := hide (And.intro hlt hn8)
      have HGl := hide hR.lt
      have hgu : ¬ (gc = u) := by omega
      have hb1 : (0 : Int) ≤ 4 * (n : Int) := by omega
      have hb2 : 4 * (n : Int) ≤ (gc : Int) := by omega
      have hb3 : (u : Int) ≤ 4 * (n : Int) := by omega
      have pf := pw_facts hlt
      have HPF := hide pf
      have HV := hide (And.intro eu v2)
      clear hG hg hc hR lS eX lX hp eX2 eY lY hnx hsrc pf
      by_cases c0' : n % 8 = 0
      · have n0 : (n : Int).tmod 8 = 0 := by rw [Int.tmod_eq_emod_of_nonneg (by omega)]; omega
        have n0b : ((n : Int) % 8 == 0) = true := by rw [beq_iff_eq]; omega
        go_wp2_with (refine wpList_appendO rfl (.tmp 16) (.tmp 23) 28 28 rfl 5 Try.underlying28 infoY (by decide) rfl (B := wo.heap.size) (n := 0) (m := 4) (xs := []) (news := bs X) rfl rfl (Ow.made wo wo.heap.size (Nat.le_refl _) [] 5) HSr.out (by decide) (by simp) (fun y hy => by cases hy) ?_
                     intro v5 w5 hO5 hB5
                     obtain ⟨xb, xc, rfl, hxb, hxc, hxR⟩ := hO5.row (by decide)
                     rw [List.nil_append] at hxR
                     have HX5 := hide (And.intro hxR hxb)
                     have HG5 := hide (HG.out.below (((Below.refl wo.heap.size wo).alloc (Nat.le_refl _) (.cells #[] 5)).trans hB5))
                     have HB5 := hide (((Below.refl wo.heap.size wo).alloc (Nat.le_refl _) (.cells #[] 5)).trans hB5)
                     clear hO5 hB5 hxR hxb hxc)
        clear HSr m4 v1 v2 v3 hgu hb1 hb2 hb3
        have d5 := HX5.out.1.drew
        have t5 := HG5.out.t.drew
        have c1 := d5.g0 1 (by rw [HL.out.1]; decide)
        have r1 := t5.g0 (gy X 1).toNat (by rw [HX.out.2]; exact UInt8.toNat_lt _)
        have l1 : ((gy X 1).toNat : Int) < 256 := by have := UInt8.toNat_lt (gy X 1); omega
        obtain ⟨x1, ex1⟩ : ∃ z, (gy X 1).toNat = z := ⟨_, rfl⟩
        rw [ex1] at c1 r1 l1
        obtain ⟨t1, et1⟩ : ∃ z, gy T x1 = z := ⟨_, rfl⟩
        rw [et1] at r1
        have c2 := d5.g0 2 (by rw [HL.out.1]; decide)
        have r2 := t5.g0 (gy X 2).toNat (by rw [HX.out.2]; exact UInt8.toNat_lt _)
        have l2 : ((gy X 2).toNat : Int) < 256 := by have := UInt8.toNat_lt (gy X 2); omega
        obtain ⟨x2, ex2⟩ : ∃ z, (gy X 2).toNat = z := ⟨_, rfl⟩
        rw [ex2] at c2 r2 l2
        obtain ⟨t2, et2⟩ : ∃ z, gy T x2 = z := ⟨_, rfl⟩
        rw [et2] at r2
        have c3 := d5.g0 3 (by rw [HL.out.1]; decide)
        have r3 := t5.g0 (gy X 3).toNat (by rw [HX.out.2]; exact UInt8.toNat_lt _)
        have l3 : ((gy X 3).toNat : Int) < 256 := by have := UInt8.toNat_lt (gy X 3); omega
        obtain ⟨x3, ex3⟩ : ∃ z, (gy X 3).toNat = z := ⟨_, rfl⟩
        rw [ex3] at c3 r3 l3
        obtain ⟨t3, et3⟩ : ∃ z, gy T x3 = z := ⟨_, rfl⟩
        rw [et3] at r3
        have c0 := d5.g0 0 (by rw [HL.out.1]; decide)
        have r0 := t5.g0 (gy X 0).toNat (by rw [HX.out.2]; exact UInt8.toNat_lt _)
        have l0 : ((gy X 0).toNat : Int) < 256 := by have := UInt8.toNat_lt (gy X 0); omega
        obtain ⟨x0, ex0⟩ : ∃ z, (gy X 0).toNat = z := ⟨_, rfl⟩
        rw [ex0] at c0 r0 l0
        obtain ⟨t0, et0⟩ : ∃ z, gy T x0 = z := ⟨_, rfl⟩
        rw [et0] at r0
        have hp8 := HPF.out.2.1 ⟨c0', HN.out.2⟩
        have ep : (UInt8.ofNat (pw n)).toNat = pw n := UInt8.toNat_ofNat_of_lt' HPF.out.1
        obtain ⟨p8, ep8⟩ : ∃ z, UInt8.ofNat (pw n) = z := ⟨_, rfl⟩
        rw [ep8] at ep
        have hxo := x8_int t1 p8
        rw [ep] at hxo
        obtain ⟨z1, ez1⟩ : ∃ z, t1 ^^^ p8 = z := ⟨_, rfl⟩
        rw [ez1] at hxo
        have HY8 := hide (show Y = [z1, t2, t3, t0] by
          rw [← HE.out.2.1, ahd_rot T X n c0', ← hp8.1, ep8, ex1, ex2, ex3, ex0, et1, et2, et3, et0, ez1])
        have HP8 := hide hp8.2
        have ds := HX5.out.1.lt
        have HI := hide (show Gw w (w5.drew.alloc (.cells #[.int .u8 (z1.toNat : Int), .int .u8 (t2.toNat : Int), .int .u8 (t3.toNat : Int), .int .u8 (t0.toNat : Int)] 5)) tb T (.slice (some ⟨gb, 0, none⟩) (4 * n) gc) (4 * n) (spr T K n) ∧ Row (w5.drew.alloc (.cells #[.int .u8 (z1.toNat : Int), .int .u8 (t2.toNat : Int), .int .u8 (t3.toNat : Int), .int .u8 (t0.toNat : Int)] 5)) w5.heap.size 0 (bs Y) ∧ blkOf (.slice (some ⟨gb, 0, none⟩) (4 * n) gc) ≠ some w5.heap.size from
          ⟨HG5.out.drew.below ((Below.refl w5.drew.heap.size w5.drew).alloc (Nat.le_refl _) _), by rw [HY8.out]; exact Row.newL w5.drew (bs [z1, t2, t3, t0]) 5, fun h9 => by
            have h8 : gb = w5.heap.size := by simpa [blkOf] using h9
            have h7 := HGl.out
            have h6 := HB5.out.size
            omega⟩)
        clear ex0 ex1 ex2 ex3 et0 et1 et2 et3 d5 t5 ds ep8 ez1 hp8
        (try go_wp2_with fail)
        go_still_tail 26, hmx
        go_wp2_with fail
        refine (gmul_any (pw n) 2 _ HPF.out.1 (by decide)).mono ?_
        rintro e w7 ⟨rfl, hw⟩
        obtain rfl := hw.symm
        rw [HP8.out]
        clear hxo ep
        go_wp2_with fail
        clear c0 c1 c2 c3 r0 r1 r2 r3 l0 l1 l2 l3 n0 n0b
        clear HG5 HX5 HB5 HG HGb HPF HV
        go_loopg [5, 9] 4 (fun g v q wr => ∃ j : Nat, j + g = 4 ∧ q = .int .i64 j ∧ Gw w wr tb T v (4 * n + j) (spk T K n j) ∧ Row wr w5.heap.size 0 (bs Y) ∧ blkOf v ≠ some w5.heap.size)
        case atStart => exact ⟨0, rfl, rfl, by rw [spk_zero]; exact HI.out⟩
        case round =>
          clear HI
          obtain ⟨wy, hwy⟩ : ∃ z, z = wr := ⟨_, rfl⟩
          subst hwy
          obtain ⟨j, hjg, rfl, hG, hY, hD⟩ := hrel
          by_cases hj : j < 4
          · have hj' : (j : Int) < 4 := by omega
            obtain ⟨g4, rfl⟩ : ∃ g4, gk = g4 + 1 := ⟨gk - 1, by omega⟩
            obtain ⟨ga, gd, rfl, hga, hgd, hRa⟩ := hG.own.row (by have := HN.out.2; omega)
            have hn8 := HN.out.2
            have hn60 := HN.out.1
            have z1 := IntWalk.i64_in (4 * (n : Int)) (by omega)
            obtain ⟨u8, eu8⟩ : ∃ z, 4 * n - 32 = z := ⟨_, rfl⟩
            have z2 : 4 * (n : Int) - 32 = (u8 : Int) := by omega
            have z3 := IntWalk.i64_in (u8 : Int) (by omega)
            obtain ⟨m, em⟩ : ∃ z, u8 + j = z := ⟨_, rfl⟩
            have z4 : (u8 : Int) + (j : Int) = (m : Int) := by omega
            have z5 := IntWalk.i64_in (m : Int) (by omega)
            have z6 : (m : Int) < ((4 * n + j : Nat) : Int) := by omega
            have z7 : (m : Int) < 4 * (n : Int) + (j : Int) := by omega
            have c1 := hRa.drew.g0 m (by rw [spk_length T K HX.out.1 n j (by omega)]; omega)
            rw [spk_old T K HX.out.1 n j m (by omega)] at c1
            have e1 : gy (spr T K n) m = gy (wat (spr T K n) (n - 8)) j := by rw [gy_wat hj, show 4 * (n - 8) + j = m by omega]
            rw [e1] at c1
            have c2 := hY.drew.g0 j (by rw [HL.out.2.1]; exact hj)
            have e2 : gy (wat (spr T K n) (n - 8)) j ^^^ gy Y j = gy (nxt T K (spr T K n) n) j := by
              rw [HE.out.2.2, gy_comb (by rw [wat_length (by rw [HL.out.2.2]; omega)]; exact hj) (by rw [HL.out.2.1]; exact hj)]
            have hxo := x8_int (gy (wat (spr T K n) (n - 8)) j) (gy Y j)
            rw [e2] at hxo
            obtain ⟨y1, f1⟩ : ∃ y, gy (wat (spr T K n) (n - 8)) j = y := ⟨_, rfl⟩
            obtain ⟨y2, f2⟩ : ∃ y, gy Y j = y := ⟨_, rfl⟩
            obtain ⟨y3, f3⟩ : ∃ y, gy (nxt T K (spr T K n) n) j = y := ⟨_, rfl⟩
            rw [f1] at c1 hxo
            rw [f2] at c2 hxo
            rw [f3] at hxo
            have HO := hide (hG.drew.own.keep ((Below.refl wy.drew.heap.size wy.drew).alloc (Nat.le_refl _) (.cells #[.int .u8 (y3.toNat : Int)] 5)))
            have HGd := hide (show Gw w (wy.drew.alloc (.cells #[.int .u8 (y3.toNat : Int)] 5)) tb T (.slice (some ⟨ga, 0, none⟩) (4 * n + j) gd) (4 * n + j) (spk T K n j) ∧ Row (wy.drew.alloc (.cells #[.int .u8 (y3.toNat : Int)] 5)) w5.heap.size 0 (bs Y) from ⟨hG.drew.below ((Below.refl wy.drew.heap.size wy.drew).alloc (Nat.le_refl _) _), hY.drew.alloc _⟩)
            have HSrc := hide (show Src Try.prog 1 28 (.slice (some ⟨wy.heap.size, 0, none⟩) 1 1) 1 [.int .u8 (y3.toNat : Int)] (wy.drew.alloc (.cells #[.int .u8 (y3.toNat : Int)] 5)) from (Row.newL wy.drew [.int .u8 (y3.toNat : Int)] 5).src (n := 1) (cap := 1) rfl Try.underlying28 (fun y hy => by simp at hy; subst hy; rfl))
            have HDj := hide hD
            have HJ := hide (And.intro hj f3)
            have HW0 := hide (show w.heap.size ≤ (wy.drew.alloc (.cells #[.int .u8 (y3.toNat : Int)] 5)).heap.size from (hG.drew.be.alloc hG.drew.be.size _).size)
            clear hG hY hD hga hgd hRa e1 e2 f1 f2 f3 eu8 em
            have HC1 := hide c1
            have HC2 := hide c2
            clear c1 c2
            go_wp2_with fail
            refine wp_region_ord (fun w9 => w9.cell? ⟨ga, m, none⟩ = some (.int .u8 (y1.toNat : Int)) ∧ w9.cell? ⟨w5.heap.size, j, none⟩ = some (.int .u8 (y2.toNat : Int))) 13 [(0, some true), (1, some true), (2, some true), (3, some true), (4, some true), (5, some true), (6, some true), (7, some true), (8, some false), (9, some true), (10, some true), (11, some true), (12, some false), (13, none), (14, none), (15, none), (16, none)] (by kernel_rfl) (by kernel_rfl) (fun _ _ _ _ h => h) ⟨HC1.out, HC2.out⟩ ?_
            refine ord_pureE (o := ⟨some 89, _, _, _, _, _⟩) rfl (by kernel_rfl) ⟨_, fun w9 => by (go_simp; try rfl), ?_⟩
            simp only [Act.put, List.setIfInBounds_toArray, List.set_cons_zero, List.set_cons_succ]
            refine ord_pureE (o := ⟨some 90, _, _, _, _, _⟩) rfl (by kernel_rfl) ⟨_, fun w9 => by (go_simp; try rfl), ?_⟩
            simp only [Act.put, List.setIfInBounds_toArray, List.set_cons_zero, List.set_cons_succ]
            refine ord_pureE (o := ⟨some 91, _, _, _, _, _⟩) rfl (by kernel_rfl) ⟨_, fun w9 => by (go_simp; try rfl), ?_⟩
            simp only [Act.put, List.setIfInBounds_toArray, List.set_cons_zero, List.set_cons_succ]
            refine ord_pureE (o := ⟨some 92, _, _, _, _, _⟩) rfl (by kernel_rfl) ⟨_, fun w9 => by (go_simp; try rfl), ?_⟩
            simp only [Act.put, List.setIfInBounds_toArray, List.set_cons_zero, List.set_cons_succ]
            refine ord_pureE (o := ⟨some 93, _, _, _, _, _⟩) rfl (by kernel_rfl) ⟨_, fun w9 => by (go_simp; try rfl), ?_⟩
            simp only [Act.put, List.setIfInBounds_toArray, List.set_cons_zero, List.set_cons_succ]
            refine ord_pureE (o := ⟨some 94, _, _, _, _, _⟩) rfl (by kernel_rfl) ⟨_, fun w9 => by (go_simp; try rfl), ?_⟩
            simp only [Act.put, List.setIfInBounds_toArray, List.set_cons_zero, List.set_cons_succ]
            refine ord_pureE (o := ⟨some 95, _, _, _, _, _⟩) rfl (by kernel_rfl) ⟨_, fun w9 => by (go_simp; try rfl), ?_⟩
            simp only [Act.put, List.setIfInBounds_toArray, List.set_cons_zero, List.set_cons_succ]
            refine ord_pureE (o := ⟨some 96, _, _, _, _, _⟩) rfl (by kernel_rfl) ⟨_, fun w9 => by (go_simp; try rfl), ?_⟩
            simp only [Act.put, List.setIfInBounds_toArray, List.set_cons_zero, List.set_cons_succ]
            refine ord_heldE (o := ⟨some 97, _, _, _, _, _⟩) rfl (by kernel_rfl) ⟨_, fun w9 h9 => by (obtain ⟨q1, q2⟩ := h9; go_simp; try rfl), ?_⟩
            simp only [Act.put, List.setIfInBounds_toArray, List.set_cons_zero, List.set_cons_succ]
            refine ord_pureE (o := ⟨some 98, _, _, _, _, _⟩) rfl (by kernel_rfl) ⟨_, fun w9 => by (go_simp; try rfl), ?_⟩
            simp only [Act.put, List.setIfInBounds_toArray, List.set_cons_zero, List.set_cons_succ]
            refine ord_pureE (o := ⟨some 99, _, _, _, _, _⟩) rfl (by kernel_rfl) ⟨_, fun w9 => by (go_simp; try rfl), ?_⟩
            simp only [Act.put, List.setIfInBounds_toArray, List.set_cons_zero, List.set_cons_succ]
            refine ord_pureE (o := ⟨some 100, _, _, _, _, _⟩) rfl (by kernel_rfl) ⟨_, fun w9 => by (go_simp; try rfl), ?_⟩
            simp only [Act.put, List.setIfInBounds_toArray, List.set_cons_zero, List.set_cons_succ]
            refine ord_heldE (o := ⟨some 101, _, _, _, _, _⟩) rfl (by kernel_rfl) ⟨_, fun w9 h9 => by (obtain ⟨q1, q2⟩ := h9; go_simp; try rfl), ?_⟩
            simp only [Act.put, List.setIfInBounds_toArray, List.set_cons_zero, List.set_cons_succ]
            refine ord_go rfl (fun K9 hK => ?_)
            go_simp
            skip
            refine hK.out _ _ (fun h => by cases h) ?_
            clear hK K9
            refine ord_go rfl (fun K9 hK => ?_)
            go_simp
            skip
            refine hK.out _ _ (fun h => by cases h) ?_
            clear hK K9
            refine ord_appendP (o := ⟨some 104, _, _, _, _, _⟩) rfl rfl (.tmp 89) (.tmp 103) 28 28 rfl 5 Try.underlying28 infoY (by decide) rfl (B := w.heap.size) (n := 4 * n + j) (m := 1) (xs := bs (spk T K n j)) (news := [.int .u8 (y3.toNat : Int)]) rfl rfl HO.out HSrc.out (by have := HN.out.1; have := HJ.out.1; omega) HW0.out (fun y hy => bs_one hy) ?_
            intro v6 w6 hO6 hA6 hold6
            have HG6 := hide (show Gw w w6 tb T v6 (4 * n + (j + 1)) (spk T K n (j + 1)) ∧ Row w6 w5.heap.size 0 (bs Y) ∧ blkOf v6 ≠ some w5.heap.size from
              ⟨HGd.out.1.grown (by rw [spk_succ T K HX.out.1 n j HJ.out.1, HJ.out.2]; exact hO6) (hA6.below HO.out HW0.out), HGd.out.2.ap hA6 HDj.out, fun h9 => by
                rcases hA6.fresh _ h9 with h7 | h7
                · exact HDj.out h7
                · have h5 := HGd.out.2.lt
                  have h4 : (wy.drew.alloc (.cells #[.int .u8 (y3.toNat : Int)] 5)).heap.size ≤ w5.heap.size := h7
                  exact Nat.lt_irrefl _ (Nat.lt_of_lt_of_le h5 h4)⟩)
            clear hO6 hA6 hold6
            refine ⟨(fun h => (by cases h)), ?_⟩
            simp only [Act.put, List.setIfInBounds_toArray, List.set_cons_zero, List.set_cons_succ]
            refine ord_go rfl (fun K9 hK => ?_)
            go_simp
            skip
            refine hK.out _ _ (fun h => by cases h) ?_
            clear hK K9
            refine ord_end ?_
            go_wp2_with fail
            go_roundg g4
            case measure => omega
            case rel => exact ⟨j + 1, by omega, by go_num, HG6.out⟩
          · obtain rfl : j = 4 := by omega
            rw [spk_four T K HX.out.1 n] at hG
            have HG := hide hG
            clear hG hY hD
            go_wp2_with fail
            go_roundg g3
            case measure => omega
            case rel => exact ⟨n + 1, by have := HN.out; omega, by have := HN.out; omega, by go_num, rfl, by rw [show 4 * (n + 1) = 4 * n + 4 by omega]; exact HG.out⟩
      · by_cases c4 : n % 8 = 4
        · have n0 : (n : Int).tmod 8 = 4 := by rw [Int.tmod_eq_emod_of_nonneg (by omega)]; omega
          have n0b : ((n : Int) % 8 == 0) = false := by rw [beq_eq_false_iff_ne]; omega
          have n0c : ((n : Int) % 8 == 4) = true := by rw [beq_iff_eq]; omega
          go_wp2_with (refine wpList_appendO rfl (.tmp 16) (.tmp 23) 28 28 rfl 5 Try.underlying28 infoY (by decide) rfl (B := wo.heap.size) (n := 0) (m := 4) (xs := []) (news := bs X) rfl rfl (Ow.made wo wo.heap.size (Nat.le_refl _) [] 5) HSr.out (by decide) (by simp) (fun y hy => by cases hy) ?_
                       intro v5 w5 hO5 hB5
                       obtain ⟨xb, xc, rfl, hxb, hxc, hxR⟩ := hO5.row (by decide)
                       rw [List.nil_append] at hxR
                       have HX5 := hide (And.intro hxR hxb)
                       have HG5 := hide (HG.out.below (((Below.refl wo.heap.size wo).alloc (Nat.le_refl _) (.cells #[] 5)).trans hB5))
                       have HB5 := hide (((Below.refl wo.heap.size wo).alloc (Nat.le_refl _) (.cells #[] 5)).trans hB5)
                       clear hO5 hB5 hxR hxb hxc)
          clear HSr m4 v1 v2 v3 hgu hb1 hb2 hb3
          have d5 := HX5.out.1.drew
          have t5 := HG5.out.t.drew
          have c0 := d5.g0 0 (by rw [HL.out.1]; decide)
          have r0 := t5.g0 (gy X 0).toNat (by rw [HX.out.2]; exact UInt8.toNat_lt _)
          have l0 : ((gy X 0).toNat : Int) < 256 := by have := UInt8.toNat_lt (gy X 0); omega
          obtain ⟨x0, ex0⟩ : ∃ z, (gy X 0).toNat = z := ⟨_, rfl⟩
          rw [ex0] at c0 r0 l0
          obtain ⟨t0, et0⟩ : ∃ z, gy T x0 = z := ⟨_, rfl⟩
          rw [et0] at r0
          have c1 := d5.g0 1 (by rw [HL.out.1]; decide)
          have r1 := t5.g0 (gy X 1).toNat (by rw [HX.out.2]; exact UInt8.toNat_lt _)
          have l1 : ((gy X 1).toNat : Int) < 256 := by have := UInt8.toNat_lt (gy X 1); omega
          obtain ⟨x1, ex1⟩ : ∃ z, (gy X 1).toNat = z := ⟨_, rfl⟩
          rw [ex1] at c1 r1 l1
          obtain ⟨t1, et1⟩ : ∃ z, gy T x1 = z := ⟨_, rfl⟩
          rw [et1] at r1
          have c2 := d5.g0 2 (by rw [HL.out.1]; decide)
          have r2 := t5.g0 (gy X 2).toNat (by rw [HX.out.2]; exact UInt8.toNat_lt _)
          have l2 : ((gy X 2).toNat : Int) < 256 := by have := UInt8.toNat_lt (gy X 2); omega
          obtain ⟨x2, ex2⟩ : ∃ z, (gy X 2).toNat = z := ⟨_, rfl⟩
          rw [ex2] at c2 r2 l2
          obtain ⟨t2, et2⟩ : ∃ z, gy T x2 = z := ⟨_, rfl⟩
          rw [et2] at r2
          have c3 := d5.g0 3 (by rw [HL.out.1]; decide)
          have r3 := t5.g0 (gy X 3).toNat (by rw [HX.out.2]; exact UInt8.toNat_lt _)
          have l3 : ((gy X 3).toNat : Int) < 256 := by have := UInt8.toNat_lt (gy X 3); omega
          obtain ⟨x3, ex3⟩ : ∃ z, (gy X 3).toNat = z := ⟨_, rfl⟩
          rw [ex3] at c3 r3 l3
          obtain ⟨t3, et3⟩ : ∃ z, gy T x3 = z := ⟨_, rfl⟩
          rw [et3] at r3
          have HP8 := hide (HPF.out.2.2 (by omega))
          have HY8 := hide (show Y = [t0, t1, t2, t3] by
            rw [← HE.out.2.1, ahd_four T X n HL.out.1 c4, ex0, ex1, ex2, ex3, et0, et1, et2, et3])
          have ds := HX5.out.1.lt
          have HI := hide (show Gw w (w5.drew.alloc (.cells #[.int .u8 (t0.toNat : Int), .int .u8 (t1.toNat : Int), .int .u8 (t2.toNat : Int), .int .u8 (t3.toNat : Int)] 5)) tb T (.slice (some ⟨gb, 0, none⟩) (4 * n) gc) (4 * n) (spr T K n) ∧ Row (w5.drew.alloc (.cells #[.int .u8 (t0.toNat : Int), .int .u8 (t1.toNat : Int), .int .u8 (t2.toNat : Int), .int .u8 (t3.toNat : Int)] 5)) w5.heap.size 0 (bs Y) ∧ blkOf (.slice (some ⟨gb, 0, none⟩) (4 * n) gc) ≠ some w5.heap.size from
            ⟨HG5.out.drew.below ((Below.refl w5.drew.heap.size w5.drew).alloc (Nat.le_refl _) _), by rw [HY8.out]; exact Row.newL w5.drew (bs [t0, t1, t2, t3]) 5, fun h9 => by
              have h8 : gb = w5.heap.size := by simpa [blkOf] using h9
              have h7 := HGl.out
              have h6 := HB5.out.size
              omega⟩)
          clear ex0 ex1 ex2 ex3 et0 et1 et2 et3 d5 t5 ds
          (try go_wp2_with fail)
          go_still_tail 24, hmx
          go_wp2_with fail
          rw [← HP8.out]
          clear c0 c1 c2 c3 r0 r1 r2 r3 l0 l1 l2 l3 n0 n0b n0c
          clear HG5 HX5 HB5 HG HGb HPF HV
          go_loopg [5, 9] 4 (fun g v q wr => ∃ j : Nat, j + g = 4 ∧ q = .int .i64 j ∧ Gw w wr tb T v (4 * n + j) (spk T K n j) ∧ Row wr w5.heap.size 0 (bs Y) ∧ blkOf v ≠ some w5.heap.size)
          case atStart => exact ⟨0, rfl, rfl, by rw [spk_zero]; exact HI.out⟩
          case round =>
            clear HI
            obtain ⟨wy, hwy⟩ : ∃ z, z = wr := ⟨_, rfl⟩
            subst hwy
            obtain ⟨j, hjg, rfl, hG, hY, hD⟩ := hrel
            by_cases hj : j < 4
            · have hj' : (j : Int) < 4 := by omega
              obtain ⟨g4, rfl⟩ : ∃ g4, gk = g4 + 1 := ⟨gk - 1, by omega⟩
              obtain ⟨ga, gd, rfl, hga, hgd, hRa⟩ := hG.own.row (by have := HN.out.2; omega)
              have hn8 := HN.out.2
              have hn60 := HN.out.1
              have z1 := IntWalk.i64_in (4 * (n : Int)) (by omega)
              obtain ⟨u8, eu8⟩ : ∃ z, 4 * n - 32 = z := ⟨_, rfl⟩
              have z2 : 4 * (n : Int) - 32 = (u8 : Int) := by omega
              have z3 := IntWalk.i64_in (u8 : Int) (by omega)
              obtain ⟨m, em⟩ : ∃ z, u8 + j = z := ⟨_, rfl⟩
              have z4 : (u8 : Int) + (j : Int) = (m : Int) := by omega
              have z5 := IntWalk.i64_in (m : Int) (by omega)
              have z6 : (m : Int) < ((4 * n + j : Nat) : Int) := by omega
              have z7 : (m : Int) < 4 * (n : Int) + (j : Int) := by omega
              have c1 := hRa.drew.g0 m (by rw [spk_length T K HX.out.1 n j (by omega)]; omega)
              rw [spk_old T K HX.out.1 n j m (by omega)] at c1
              have e1 : gy (spr T K n) m = gy (wat (spr T K n) (n - 8)) j := by rw [gy_wat hj, show 4 * (n - 8) + j = m by omega]
              rw [e1] at c1
              have c2 := hY.drew.g0 j (by rw [HL.out.2.1]; exact hj)
              have e2 : gy (wat (spr T K n) (n - 8)) j ^^^ gy Y j = gy (nxt T K (spr T K n) n) j := by
                rw [HE.out.2.2, gy_comb (by rw [wat_length (by rw [HL.out.2.2]; omega)]; exact hj) (by rw [HL.out.2.1]; exact hj)]
              have hxo := x8_int (gy (wat (spr T K n) (n - 8)) j) (gy Y j)
              rw [e2] at hxo
              obtain ⟨y1, f1⟩ : ∃ y, gy (wat (spr T K n) (n - 8)) j = y := ⟨_, rfl⟩
              obtain ⟨y2, f2⟩ : ∃ y, gy Y j = y := ⟨_, rfl⟩
              obtain ⟨y3, f3⟩ : ∃ y, gy (nxt T K (spr T K n) n) j = y := ⟨_, rfl⟩
              rw [f1] at c1 hxo
              rw [f2] at c2 hxo
              rw [f3] at hxo
              have HO := hide (hG.drew.own.keep ((Below.refl wy.drew.heap.size wy.drew).alloc (Nat.le_refl _) (.cells #[.int .u8 (y3.toNat : Int)] 5)))
              have HGd := hide (show Gw w (wy.drew.alloc (.cells #[.int .u8 (y3.toNat : Int)] 5)) tb T (.slice (some ⟨ga, 0, none⟩) (4 * n + j) gd) (4 * n + j) (spk T K n j) ∧ Row (wy.drew.alloc (.cells #[.int .u8 (y3.toNat : Int)] 5)) w5.heap.size 0 (bs Y) from ⟨hG.drew.below ((Below.refl wy.drew.heap.size wy.drew).alloc (Nat.le_refl _) _), hY.drew.alloc _⟩)
              have HSrc := hide (show Src Try.prog 1 28 (.slice (some ⟨wy.heap.size, 0, none⟩) 1 1) 1 [.int .u8 (y3.toNat : Int)] (wy.drew.alloc (.cells #[.int .u8 (y3.toNat : Int)] 5)) from (Row.newL wy.drew [.int .u8 (y3.toNat : Int)] 5).src (n := 1) (cap := 1) rfl Try.underlying28 (fun y hy => by simp at hy; subst hy; rfl))
              have HDj := hide hD
              have HJ := hide (And.intro hj f3)
              have HW0 := hide (show w.heap.size ≤ (wy.drew.alloc (.cells #[.int .u8 (y3.toNat : Int)] 5)).heap.size from (hG.drew.be.alloc hG.drew.be.size _).size)
              clear hG hY hD hga hgd hRa e1 e2 f1 f2 f3 eu8 em
              have HC1 := hide c1
              have HC2 := hide c2
              clear c1 c2
              go_wp2_with fail
              refine wp_region_ord (fun w9 => w9.cell? ⟨ga, m, none⟩ = some (.int .u8 (y1.toNat : Int)) ∧ w9.cell? ⟨w5.heap.size, j, none⟩ = some (.int .u8 (y2.toNat : Int))) 13 [(0, some true), (1, some true), (2, some true), (3, some true), (4, some true), (5, some true), (6, some true), (7, some true), (8, some false), (9, some true), (10, some true), (11, some true), (12, some false), (13, none), (14, none), (15, none), (16, none)] (by kernel_rfl) (by kernel_rfl) (fun _ _ _ _ h => h) ⟨HC1.out, HC2.out⟩ ?_
              refine ord_pureE (o := ⟨some 89, _, _, _, _, _⟩) rfl (by kernel_rfl) ⟨_, fun w9 => by (go_simp; try rfl), ?_⟩
              simp only [Act.put, List.setIfInBounds_toArray, List.set_cons_zero, List.set_cons_succ]
              refine ord_pureE (o := ⟨some 90, _, _, _, _, _⟩) rfl (by kernel_rfl) ⟨_, fun w9 => by (go_simp; try rfl), ?_⟩
              simp only [Act.put, List.setIfInBounds_toArray, List.set_cons_zero, List.set_cons_succ]
              refine ord_pureE (o := ⟨some 91, _, _, _, _, _⟩) rfl (by kernel_rfl) ⟨_, fun w9 => by (go_simp; try rfl), ?_⟩
              simp only [Act.put, List.setIfInBounds_toArray, List.set_cons_zero, List.set_cons_succ]
              refine ord_pureE (o := ⟨some 92, _, _, _, _, _⟩) rfl (by kernel_rfl) ⟨_, fun w9 => by (go_simp; try rfl), ?_⟩
              simp only [Act.put, List.setIfInBounds_toArray, List.set_cons_zero, List.set_cons_succ]
              refine ord_pureE (o := ⟨some 93, _, _, _, _, _⟩) rfl (by kernel_rfl) ⟨_, fun w9 => by (go_simp; try rfl), ?_⟩
              simp only [Act.put, List.setIfInBounds_toArray, List.set_cons_zero, List.set_cons_succ]
              refine ord_pureE (o := ⟨some 94, _, _, _, _, _⟩) rfl (by kernel_rfl) ⟨_, fun w9 => by (go_simp; try rfl), ?_⟩
              simp only [Act.put, List.setIfInBounds_toArray, List.set_cons_zero, List.set_cons_succ]
              refine ord_pureE (o := ⟨some 95, _, _, _, _, _⟩) rfl (by kernel_rfl) ⟨_, fun w9 => by (go_simp; try rfl), ?_⟩
              simp only [Act.put, List.setIfInBounds_toArray, List.set_cons_zero, List.set_cons_succ]
              refine ord_pureE (o := ⟨some 96, _, _, _, _, _⟩) rfl (by kernel_rfl) ⟨_, fun w9 => by (go_simp; try rfl), ?_⟩
              simp only [Act.put, List.setIfInBounds_toArray, List.set_cons_zero, List.set_cons_succ]
              refine ord_heldE (o := ⟨some 97, _, _, _, _, _⟩) rfl (by kernel_rfl) ⟨_, fun w9 h9 => by (obtain ⟨q1, q2⟩ := h9; go_simp; try rfl), ?_⟩
              simp only [Act.put, List.setIfInBounds_toArray, List.set_cons_zero, List.set_cons_succ]
              refine ord_pureE (o := ⟨some 98, _, _, _, _, _⟩) rfl (by kernel_rfl) ⟨_, fun w9 => by (go_simp; try rfl), ?_⟩
              simp only [Act.put, List.setIfInBounds_toArray, List.set_cons_zero, List.set_cons_succ]
              refine ord_pureE (o := ⟨some 99, _, _, _, _, _⟩) rfl (by kernel_rfl) ⟨_, fun w9 => by (go_simp; try rfl), ?_⟩
              simp only [Act.put, List.setIfInBounds_toArray, List.set_cons_zero, List.set_cons_succ]
              refine ord_pureE (o := ⟨some 100, _, _, _, _, _⟩) rfl (by kernel_rfl) ⟨_, fun w9 => by (go_simp; try rfl), ?_⟩
              simp only [Act.put, List.setIfInBounds_toArray, List.set_cons_zero, List.set_cons_succ]
              refine ord_heldE (o := ⟨some 101, _, _, _, _, _⟩) rfl (by kernel_rfl) ⟨_, fun w9 h9 => by (obtain ⟨q1, q2⟩ := h9; go_simp; try rfl), ?_⟩
              simp only [Act.put, List.setIfInBounds_toArray, List.set_cons_zero, List.set_cons_succ]
              refine ord_go rfl (fun K9 hK => ?_)
              go_simp
              skip
              refine hK.out _ _ (fun h => by cases h) ?_
              clear hK K9
              refine ord_go rfl (fun K9 hK => ?_)
              go_simp
              skip
              refine hK.out _ _ (fun h => by cases h) ?_
              clear hK K9
              refine ord_appendP (o := ⟨some 104, _, _, _, _, _⟩) rfl rfl (.tmp 89) (.tmp 103) 28 28 rfl 5 Try.underlying28 infoY (by decide) rfl (B := w.heap.size) (n := 4 * n + j) (m := 1) (xs := bs (spk T K n j)) (news := [.int .u8 (y3.toNat : Int)]) rfl rfl HO.out HSrc.out (by have := HN.out.1; have := HJ.out.1; omega) HW0.out (fun y hy => bs_one hy) ?_
              intro v6 w6 hO6 hA6 hold6
              have HG6 := hide (show Gw w w6 tb T v6 (4 * n + (j + 1)) (spk T K n (j + 1)) ∧ Row w6 w5.heap.size 0 (bs Y) ∧ blkOf v6 ≠ some w5.heap.size from
                ⟨HGd.out.1.grown (by rw [spk_succ T K HX.out.1 n j HJ.out.1, HJ.out.2]; exact hO6) (hA6.below HO.out HW0.out), HGd.out.2.ap hA6 HDj.out, fun h9 => by
                  rcases hA6.fresh _ h9 with h7 | h7
                  · exact HDj.out h7
                  · have h5 := HGd.out.2.lt
                    have h4 : (wy.drew.alloc (.cells #[.int .u8 (y3.toNat : Int)] 5)).heap.size ≤ w5.heap.size := h7
                    exact Nat.lt_irrefl _ (Nat.lt_of_lt_of_le h5 h4)⟩)
              clear hO6 hA6 hold6
              refine ⟨(fun h => (by cases h)), ?_⟩
              simp only [Act.put, List.setIfInBounds_toArray, List.set_cons_zero, List.set_cons_succ]
              refine ord_go rfl (fun K9 hK => ?_)
              go_simp
              skip
              refine hK.out _ _ (fun h => by cases h) ?_
              clear hK K9
              refine ord_end ?_
              go_wp2_with fail
              go_roundg g4
              case measure => omega
              case rel => exact ⟨j + 1, by omega, by go_num, HG6.out⟩
            · obtain rfl : j = 4 := by omega
              rw [spk_four T K HX.out.1 n] at hG
              have HG := hide hG
              clear hG hY hD
              go_wp2_with fail
              go_roundg g3
              case measure => omega
              case rel => exact ⟨n + 1, by have := HN.out; omega, by have := HN.out; omega, by go_num, rfl, by rw [show 4 * (n + 1) = 4 * n + 4 by omega]; exact HG.out⟩
        · obtain ⟨m8, em⟩ : ∃ m, n % 8 = m := ⟨_, rfl⟩
          have n0 : (n : Int).tmod 8 = (m8 : Int) := by rw [Int.tmod_eq_emod_of_nonneg (by omega)]; omega
          have n0b : ((n : Int) % 8 == 0) = false := by rw [beq_eq_false_iff_ne]; omega
          have n0c : ((n : Int) % 8 == 4) = false := by rw [beq_eq_false_iff_ne]; omega
          have n1 := IntWalk.i64_in (m8 : Int) (by omega)
          have q0 : ((m8 : Int) == 0) = false := by rw [beq_eq_false_iff_ne]; omega
          have q4 : ((m8 : Int) == 4) = false := by rw [beq_eq_false_iff_ne]; omega
          go_wp2_with (refine wpList_appendO rfl (.tmp 16) (.tmp 23) 28 28 rfl 5 Try.underlying28 infoY (by decide) rfl (B := wo.heap.size) (n := 0) (m := 4) (xs := []) (news := bs X) rfl rfl (Ow.made wo wo.heap.size (Nat.le_refl _) [] 5) HSr.out (by decide) (by simp) (fun y hy => by cases hy) ?_
                       intro v5 w5 hO5 hB5
                       obtain ⟨xb, xc, rfl, hxb, hxc, hxR⟩ := hO5.row (by decide)
                       rw [List.nil_append] at hxR
                       have HX5 := hide (And.intro hxR hxb)
                       have HG5 := hide (HG.out.below (((Below.refl wo.heap.size wo).alloc (Nat.le_refl _) (.cells #[] 5)).trans hB5))
                       have HB5 := hide (((Below.refl wo.heap.size wo).alloc (Nat.le_refl _) (.cells #[] 5)).trans hB5)
                       clear hO5 hB5 hxR hxb hxc)
          clear HSr m4 v1 v2 v3 hgu hb1 hb2 hb3
          have HP8 := hide (HPF.out.2.2 (by omega))
          have hYX : X = Y := by
            rw [← HE.out.2.1]
            unfold ahd
            rw [if_neg c0', if_neg c4]
          have HI := hide (show Gw w w5 tb T (.slice (some ⟨gb, 0, none⟩) (4 * n) gc) (4 * n) (spr T K n) ∧ Row w5 xb 0 (bs Y) ∧ blkOf (.slice (some ⟨gb, 0, none⟩) (4 * n) gc) ≠ some xb from
            ⟨HG5.out, by rw [← hYX]; exact HX5.out.1, fun h9 => by
              have h8 : gb = xb := by simpa [blkOf] using h9
              have h7 := HGl.out
              have h6 := HX5.out.2
              omega⟩)
          clear hYX em
          rw [← HP8.out]
          clear n0 n0b n0c n1 q0 q4
          clear HG5 HX5 HB5 HG HGb HPF HV
          go_loopg [5, 9] 4 (fun g v q wr => ∃ j : Nat, j + g = 4 ∧ q = .int .i64 j ∧ Gw w wr tb T v (4 * n + j) (spk T K n j) ∧ Row wr xb 0 (bs Y) ∧ blkOf v ≠ some xb)
          case atStart => exact ⟨0, rfl, rfl, by rw [spk_zero]; exact HI.out⟩
          case round =>
            clear HI
            obtain ⟨wy, hwy⟩ : ∃ z, z = wr := ⟨_, rfl⟩
            subst hwy
            obtain ⟨j, hjg, rfl, hG, hY, hD⟩ := hrel
            by_cases hj : j < 4
            · have hj' : (j : Int) < 4 := by omega
              obtain ⟨g4, rfl⟩ : ∃ g4, gk = g4 + 1 := ⟨gk - 1, by omega⟩
              obtain ⟨ga, gd, rfl, hga, hgd, hRa⟩ := hG.own.row (by have := HN.out.2; omega)
              have hn8 := HN.out.2
              have hn60 := HN.out.1
              have z1 := IntWalk.i64_in (4 * (n : Int)) (by omega)
              obtain ⟨u8, eu8⟩ : ∃ z, 4 * n - 32 = z := ⟨_, rfl⟩
              have z2 : 4 * (n : Int) - 32 = (u8 : Int) := by omega
              have z3 := IntWalk.i64_in (u8 : Int) (by omega)
              obtain ⟨m, em⟩ : ∃ z, u8 + j = z := ⟨_, rfl⟩
              have z4 : (u8 : Int) + (j : Int) = (m : Int) := by omega
              have z5 := IntWalk.i64_in (m : Int) (by omega)
              have z6 : (m : Int) < ((4 * n + j : Nat) : Int) := by omega
              have z7 : (m : Int) < 4 * (n : Int) + (j : Int) := by omega
              have c1 := hRa.drew.g0 m (by rw [spk_length T K HX.out.1 n j (by omega)]; omega)
              rw [spk_old T K HX.out.1 n j m (by omega)] at c1
              have e1 : gy (spr T K n) m = gy (wat (spr T K n) (n - 8)) j := by rw [gy_wat hj, show 4 * (n - 8) + j = m by omega]
              rw [e1] at c1
              have c2 := hY.drew.g0 j (by rw [HL.out.2.1]; exact hj)
              have e2 : gy (wat (spr T K n) (n - 8)) j ^^^ gy Y j = gy (nxt T K (spr T K n) n) j := by
                rw [HE.out.2.2, gy_comb (by rw [wat_length (by rw [HL.out.2.2]; omega)]; exact hj) (by rw [HL.out.2.1]; exact hj)]
              have hxo := x8_int (gy (wat (spr T K n) (n - 8)) j) (gy Y j)
              rw [e2] at hxo
              obtain ⟨y1, f1⟩ : ∃ y, gy (wat (spr T K n) (n - 8)) j = y := ⟨_, rfl⟩
              obtain ⟨y2, f2⟩ : ∃ y, gy Y j = y := ⟨_, rfl⟩
              obtain ⟨y3, f3⟩ : ∃ y, gy (nxt T K (spr T K n) n) j = y := ⟨_, rfl⟩
              rw [f1] at c1 hxo
              rw [f2] at c2 hxo
              rw [f3] at hxo
              have HO := hide (hG.drew.own.keep ((Below.refl wy.drew.heap.size wy.drew).alloc (Nat.le_refl _) (.cells #[.int .u8 (y3.toNat : Int)] 5)))
              have HGd := hide (show Gw w (wy.drew.alloc (.cells #[.int .u8 (y3.toNat : Int)] 5)) tb T (.slice (some ⟨ga, 0, none⟩) (4 * n + j) gd) (4 * n + j) (spk T K n j) ∧ Row (wy.drew.alloc (.cells #[.int .u8 (y3.toNat : Int)] 5)) xb 0 (bs Y) from ⟨hG.drew.below ((Below.refl wy.drew.heap.size wy.drew).alloc (Nat.le_refl _) _), hY.drew.alloc _⟩)
              have HSrc := hide (show Src Try.prog 1 28 (.slice (some ⟨wy.heap.size, 0, none⟩) 1 1) 1 [.int .u8 (y3.toNat : Int)] (wy.drew.alloc (.cells #[.int .u8 (y3.toNat : Int)] 5)) from (Row.newL wy.drew [.int .u8 (y3.toNat : Int)] 5).src (n := 1) (cap := 1) rfl Try.underlying28 (fun y hy => by simp at hy; subst hy; rfl))
              have HDj := hide hD
              have HJ := hide (And.intro hj f3)
              have HW0 := hide (show w.heap.size ≤ (wy.drew.alloc (.cells #[.int .u8 (y3.toNat : Int)] 5)).heap.size from (hG.drew.be.alloc hG.drew.be.size _).size)
              clear hG hY hD hga hgd hRa e1 e2 f1 f2 f3 eu8 em
              have HC1 := hide c1
              have HC2 := hide c2
              clear c1 c2
              go_wp2_with fail
              refine wp_region_ord (fun w9 => w9.cell? ⟨ga, m, none⟩ = some (.int .u8 (y1.toNat : Int)) ∧ w9.cell? ⟨xb, j, none⟩ = some (.int .u8 (y2.toNat : Int))) 13 [(0, some true), (1, some true), (2, some true), (3, some true), (4, some true), (5, some true), (6, some true), (7, some true), (8, some false), (9, some true), (10, some true), (11, some true), (12, some false), (13, none), (14, none), (15, none), (16, none)] (by kernel_rfl) (by kernel_rfl) (fun _ _ _ _ h => h) ⟨HC1.out, HC2.out⟩ ?_
              refine ord_pureE (o := ⟨some 89, _, _, _, _, _⟩) rfl (by kernel_rfl) ⟨_, fun w9 => by (go_simp; try rfl), ?_⟩
              simp only [Act.put, List.setIfInBounds_toArray, List.set_cons_zero, List.set_cons_succ]
              refine ord_pureE (o := ⟨some 90, _, _, _, _, _⟩) rfl (by kernel_rfl) ⟨_, fun w9 => by (go_simp; try rfl), ?_⟩
              simp only [Act.put, List.setIfInBounds_toArray, List.set_cons_zero, List.set_cons_succ]
              refine ord_pureE (o := ⟨some 91, _, _, _, _, _⟩) rfl (by kernel_rfl) ⟨_, fun w9 => by (go_simp; try rfl), ?_⟩
              simp only [Act.put, List.setIfInBounds_toArray, List.set_cons_zero, List.set_cons_succ]
              refine ord_pureE (o := ⟨some 92, _, _, _, _, _⟩) rfl (by kernel_rfl) ⟨_, fun w9 => by (go_simp; try rfl), ?_⟩
              simp only [Act.put, List.setIfInBounds_toArray, List.set_cons_zero, List.set_cons_succ]
              refine ord_pureE (o := ⟨some 93, _, _, _, _, _⟩) rfl (by kernel_rfl) ⟨_, fun w9 => by (go_simp; try rfl), ?_⟩
              simp only [Act.put, List.setIfInBounds_toArray, List.set_cons_zero, List.set_cons_succ]
              refine ord_pureE (o := ⟨some 94, _, _, _, _, _⟩) rfl (by kernel_rfl) ⟨_, fun w9 => by (go_simp; try rfl), ?_⟩
              simp only [Act.put, List.setIfInBounds_toArray, List.set_cons_zero, List.set_cons_succ]
              refine ord_pureE (o := ⟨some 95, _, _, _, _, _⟩) rfl (by kernel_rfl) ⟨_, fun w9 => by (go_simp; try rfl), ?_⟩
              simp only [Act.put, List.setIfInBounds_toArray, List.set_cons_zero, List.set_cons_succ]
              refine ord_pureE (o := ⟨some 96, _, _, _, _, _⟩) rfl (by kernel_rfl) ⟨_, fun w9 => by (go_simp; try rfl), ?_⟩
              simp only [Act.put, List.setIfInBounds_toArray, List.set_cons_zero, List.set_cons_succ]
              refine ord_heldE (o := ⟨some 97, _, _, _, _, _⟩) rfl (by kernel_rfl) ⟨_, fun w9 h9 => by (obtain ⟨q1, q2⟩ := h9; go_simp; try rfl), ?_⟩
              simp only [Act.put, List.setIfInBounds_toArray, List.set_cons_zero, List.set_cons_succ]
              refine ord_pureE (o := ⟨some 98, _, _, _, _, _⟩) rfl (by kernel_rfl) ⟨_, fun w9 => by (go_simp; try rfl), ?_⟩
              simp only [Act.put, List.setIfInBounds_toArray, List.set_cons_zero, List.set_cons_succ]
              refine ord_pureE (o := ⟨some 99, _, _, _, _, _⟩) rfl (by kernel_rfl) ⟨_, fun w9 => by (go_simp; try rfl), ?_⟩
              simp only [Act.put, List.setIfInBounds_toArray, List.set_cons_zero, List.set_cons_succ]
              refine ord_pureE (o := ⟨some 100, _, _, _, _, _⟩) rfl (by kernel_rfl) ⟨_, fun w9 => by (go_simp; try rfl), ?_⟩
              simp only [Act.put, List.setIfInBounds_toArray, List.set_cons_zero, List.set_cons_succ]
              refine ord_heldE (o := ⟨some 101, _, _, _, _, _⟩) rfl (by kernel_rfl) ⟨_, fun w9 h9 => by (obtain ⟨q1, q2⟩ := h9; go_simp; try rfl), ?_⟩
              simp only [Act.put, List.setIfInBounds_toArray, List.set_cons_zero, List.set_cons_succ]
              refine ord_go rfl (fun K9 hK => ?_)
              go_simp
              skip
              refine hK.out _ _ (fun h => by cases h) ?_
              clear hK K9
              refine ord_go rfl (fun K9 hK => ?_)
              go_simp
              skip
              refine hK.out _ _ (fun h => by cases h) ?_
              clear hK K9
              refine ord_appendP (o := ⟨some 104, _, _, _, _, _⟩) rfl rfl (.tmp 89) (.tmp 103) 28 28 rfl 5 Try.underlying28 infoY (by decide) rfl (B := w.heap.size) (n := 4 * n + j) (m := 1) (xs := bs (spk T K n j)) (news := [.int .u8 (y3.toNat : Int)]) rfl rfl HO.out HSrc.out (by have := HN.out.1; have := HJ.out.1; omega) HW0.out (fun y hy => bs_one hy) ?_
              intro v6 w6 hO6 hA6 hold6
              have HG6 := hide (show Gw w w6 tb T v6 (4 * n + (j + 1)) (spk T K n (j + 1)) ∧ Row w6 xb 0 (bs Y) ∧ blkOf v6 ≠ some xb from
                ⟨HGd.out.1.grown (by rw [spk_succ T K HX.out.1 n j HJ.out.1, HJ.out.2]; exact hO6) (hA6.below HO.out HW0.out), HGd.out.2.ap hA6 HDj.out, fun h9 => by
                  rcases hA6.fresh _ h9 with h7 | h7
                  · exact HDj.out h7
                  · have h5 := HGd.out.2.lt
                    have h4 : (wy.drew.alloc (.cells #[.int .u8 (y3.toNat : Int)] 5)).heap.size ≤ xb := h7
                    exact Nat.lt_irrefl _ (Nat.lt_of_lt_of_le h5 h4)⟩)
              clear hO6 hA6 hold6
              refine ⟨(fun h => (by cases h)), ?_⟩
              simp only [Act.put, List.setIfInBounds_toArray, List.set_cons_zero, List.set_cons_succ]
              refine ord_go rfl (fun K9 hK => ?_)
              go_simp
              skip
              refine hK.out _ _ (fun h => by cases h) ?_
              clear hK K9
              refine ord_end ?_
              go_wp2_with fail
              go_roundg g4
              case measure => omega
              case rel => exact ⟨j + 1, by omega, by go_num, HG6.out⟩
            · obtain rfl : j = 4 := by omega
              rw [spk_four T K HX.out.1 n] at hG
              have HG := hide hG
              clear hG hY hD
              go_wp2_with fail
              go_roundg g3
              case measure => omega
              case rel => exact ⟨n + 1, by have := HN.out; omega, by have := HN.out; omega, by go_num, rfl, by rw [show 4 * (n + 1) = 4 * n + 4 by omega]; exact HG.out⟩
    · obtain rfl : n = 60 := by omega
      obtain ⟨gb, gc, rfl, hg, hc, hR⟩ := hG.own.row (by omega)
      have HG := hide hG
      clear hG hg hc hR
      go_wp2_with fail
      go_ret
      exact ⟨_, rfl, HG.out.own, HG.out.be⟩
end Go.Proofs.Ytknjmmbebkcnpaa
