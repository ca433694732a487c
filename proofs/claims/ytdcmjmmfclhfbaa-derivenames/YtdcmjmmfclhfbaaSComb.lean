/- A key filled up and combined, walked. For keys of at most 64 bytes. -/
import Derived.Test.YtdcmjmmfclhfbaaBMade
import Derived.Test.YtdcmjmmfclhfbaaSMath
import Derived.Test.YtdcmjmmfclhfbaaOw
import Derived.Test.YtdcmjmmfclhfbaaRLay
import Derived.Deep.LoopGhost
import Derived.Laws.BitsAllLaws
namespace Go.Proofs.Ytdcmjmmfclhfbaa
open Go.RowKit Bk
set_option linter.unusedVariables false
set_option linter.unusedSimpArgs false

theorem sb_append (a b : ByteArray) : sb (a ++ b) = sb a ++ sb b := by
  unfold sb
  rw [ByteArray.data_append]
  simp
theorem repeat_one (x : UInt8) (c : Nat) : Lib.repeatL [x] c = List.replicate c x := by
  have := Lib.repeatL_replicate x 1 c
  simpa using this
theorem x8_int (x y : UInt8) : bits .xor .u8 (x.toNat : Int) (y.toNat : Int) = (((x ^^^ y).toNat : Nat) : Int) := by
  rw [UInt8.toNat_xor]
  exact u8_xor_nat x.toNat y.toNat (UInt8.toNat_lt _) (UInt8.toNat_lt _)

/-- The first k bytes combined. -/
def cmbTo (l : List UInt8) (c : UInt8) (k : Nat) : List UInt8 := (l.take k).map (· ^^^ c) ++ l.drop k
theorem cmbTo_zero (l : List UInt8) (c : UInt8) : cmbTo l c 0 = l := rfl
theorem cmbTo_all (l : List UInt8) (c : UInt8) : cmbTo l c l.length = l.map (· ^^^ c) := by unfold cmbTo; simp
theorem cmbTo_len (l : List UInt8) (c : UInt8) (k : Nat) : (cmbTo l c k).length = l.length := by unfold cmbTo; simp; omega
theorem cmbTo_at (l : List UInt8) (c : UInt8) (k : Nat) (hk : k < l.length) : (bs (cmbTo l c k))[k]? = some (.int .u8 ((l[k]).toNat : Int)) := by
  unfold cmbTo bs
  rw [List.getElem?_map, List.getElem?_append_right (by simp; omega)]
  simp [List.getElem?_drop, Nat.min_eq_left (Nat.le_of_lt hk), hk]
theorem cmbTo_succ (l : List UInt8) (c : UInt8) (k : Nat) (hk : k < l.length) : bs (cmbTo l c (k + 1)) = (bs (cmbTo l c k)).set k (.int .u8 ((l[k] ^^^ c).toNat : Int)) := by
  have e : cmbTo l c (k + 1) = (cmbTo l c k).set k (l[k] ^^^ c) := by
    unfold cmbTo
    rw [List.set_append_right _ _ (by simp; omega), List.take_succ_eq_append_getElem hk, List.map_append, List.drop_eq_getElem_cons hk]
    simp [Nat.min_eq_left (Nat.le_of_lt hk)]
    rw [List.drop_eq_getElem_cons hk, List.set_cons_zero]
  rw [e]
  simp [bs, List.map_set]

set_option maxRecDepth 100000 in
set_option maxHeartbeats 8000000 in
theorem combined_any (key : ByteArray) (c : UInt8) (w : World) (hk : key.size ≤ 64) :
    Calls Try.prog 19 #[.string key, .int .u8 (c.toNat : Int)] w fun e w' => e = .returned (.string ⟨(scmb (sb key) c).toArray⟩) ∧ Below w.heap.size w w' := by
  obtain ⟨n, en⟩ : ∃ n, 64 - key.size = n := ⟨_, rfl⟩
  have h1 : IntKind.i64.wrap (64 - (key.size : Int)) = (n : Int) := by rw [IntWalk.i64_in _ (by omega)]; omega
  have h1' : (64 : Int) - (key.size : Int) = (n : Int) := by omega
  obtain ⟨P, eP⟩ : ∃ P, sb key ++ List.replicate n 0 = P := ⟨_, rfl⟩
  have lP : P.length = 64 := by rw [← eP, List.length_append, sb_length, List.length_replicate]; omega
  have hP : scmb (sb key) c = P.map (· ^^^ c) := by unfold scmb; rw [sb_length, en, eP]
  obtain ⟨Z, eZ⟩ : ∃ Z, ByteArray.mk (List.replicate n (0 : UInt8)).toArray = Z := ⟨_, rfl⟩
  have hsb : sb (key ++ Z) = P := by rw [sb_append, ← eZ]; exact eP
  have hsz : (key ++ Z).size = 64 := by rw [← sb_length, hsb, lP]
  have hzs : Z.size = n := by rw [← eZ, ← sb_length, sb_mk, List.length_replicate]
  obtain ⟨y, ey⟩ : ∃ y, c.toNat = y := ⟨_, rfl⟩
  rw [ey]
  have HP := hide hP
  have HY := hide ey
  clear hP eP ey
  go_enter Try.func19, Try.ntmps19
  go_wp2_with fail
  refine (repeat_any ⟨#[0]⟩ n _ (by omega) (by show 1 * n ≤ _; omega)).mono ?_
  rintro e w1 ⟨rfl, hB1⟩
  rw [show (ByteArray.mk #[0]).data.toList = [0] from rfl, repeat_one, eZ]
  obtain ⟨v, w2, hrun, hO, hB2⟩ := run_bytesO (P := Try.prog) w1 9 29 5 (key ++ Z) Try.underlying9 Try.underlying29 Try.underlying5
  rw [hsz, hsb] at hO
  obtain ⟨g, cap, rfl, hg, hcap, hR⟩ := hO.row (by decide)
  have hB : Below w.heap.size w w2 := hB1.trans (hB2.mono hB1.size)
  have hg2 : w.heap.size ≤ g := Nat.le_trans hB1.size hg
  have HR := hide hR
  have HB := hide hB
  clear hB1 hB2 hO hR hB hsz hsb eZ
  go_wp2_with fail
  go_loopg [6, 16] 64 (fun g9 _ q wr => ∃ k : Nat, k + g9 = 64 ∧ q = .int .i64 k ∧ Row wr g 0 (bs (cmbTo P c k)) ∧ Below w.heap.size w wr)
  case atStart => exact ⟨0, rfl, rfl, HR.out, HB.out⟩
  case round =>
    clear HR HB hrun
    obtain ⟨k, hkg, rfl, hR, hB⟩ := hrel
    by_cases hlt : k < 64
    · have hlt' : (k : Int) < 64 := by omega
      obtain ⟨g3, rfl⟩ : ∃ g3, gk = g3 + 1 := ⟨gk - 1, by omega⟩
      have hkP : k < P.length := by omega
      have c0 : wr.cell? ⟨g, k, none⟩ = some (.int .u8 ((P[k]).toNat : Int)) := by
        have := hR.cell k _ (cmbTo_at P c k hkP)
        rwa [Nat.zero_add] at this
      have f0 := hR.f0 k (by rw [bs_length, cmbTo_len]; exact hkP)
      have hx := x8_int P[k] c
      obtain ⟨x, ex⟩ : ∃ x, (P[k]).toNat = x := ⟨_, rfl⟩
      obtain ⟨z, ez⟩ : ∃ z, (P[k] ^^^ c).toNat = z := ⟨_, rfl⟩
      rw [ex, HY.out, ez] at hx
      rw [ex] at c0
      have h3 := hR.set0 (i := k) (by rw [bs_length, cmbTo_len]; exact hkP) (.int .u8 (z : Int))
      rw [← ez, ← cmbTo_succ P c k hkP, ez] at h3
      have H3 := hide h3
      have HB := hide (hB.setCell (p := ⟨g, k, none⟩) hg2 (.int .u8 (z : Int)))
      have hcap' : (k : Int) < 64 := hlt'
      clear hR hB h3 ex ez
      go_wp2_with fail
      go_roundg g3
      case measure => omega
      case rel => exact ⟨k + 1, by omega, by go_num, H3.out, HB.out⟩
    · obtain rfl : k = 64 := by omega
      have e9 : cmbTo P c 64 = P.map (· ^^^ c) := by rw [← lP]; exact cmbTo_all P c
      rw [e9, ← HP.out] at hR
      have hl9 : (scmb (sb key) c).length = 64 := scmb_length _ _ (by rw [sb_length]; exact hk)
      have hx := run_textR (P := Try.prog) wr 29 9 5 (c := cap) Try.underlying29 Try.underlying5 Try.underlying9 g 0 rfl hl9 hR.cell
      have HB := hide hB
      clear hR hB hl9 e9
      go_wp2_with fail
      go_ret
      exact ⟨rfl, HB.out⟩

end Go.Proofs.Ytdcmjmmfclhfbaa
