/- Blocks that came in as a slice of strings: read in the walks of the laws; the calls on ciphers with whatever text. No condition. -/
import Derived.Test.YtllhnbnddcghoaaAWks
import Derived.Test.YtllhnbnddcghoaaIArgs
import Derived.Deep.LoopGhost
import Derived.SizedLaws
namespace Go.Proofs.Ytllhnbnddcghoaa
open Go.ChangeShapes Go.WideShapes Go.ChangeAt Go.RowKit Bk
open Go.ChangeMaps (open_string shut_string)
set_option linter.unusedVariables false
set_option linter.unusedSimpArgs false

theorem toList_beq (a b : ByteArray) : (a.toList == b.toList) = decide (b = a) := by
  by_cases h : b = a
  · subst h; simp
  · rw [decide_eq_false h]
    have : ¬ a.toList = b.toList := fun k => h (sb_inj (by rw [ByteArray.toList_eq, ByteArray.toList_eq] at k; exact k.symm))
    simp [this]
theorem toList_ne {a b : ByteArray} (h : a ≠ b) : (a.toList == b.toList) = false := by
  rw [toList_beq]
  exact decide_eq_false (fun e => h e.symm)

theorem infoSt : (Try.prog.info? 9).map (fun i => (i.zero, i.size, i.bytes)) = some (some (.string ⟨#[]⟩), 1, 16) := by kernel_rfl
/-- A slice of strings. -/
def Tx (w : World) (a : Option Addr) (n : Nat) (K : Nat → ByteArray) : Prop :=
  n = 0 ∨ ∃ b off, a = some ⟨b, off, none⟩ ∧ b < w.heap.size ∧ ∀ j, j < n → w.cell? ⟨b, off + j, none⟩ = some (.string (K j))
theorem Tx.below {w w' : World} {a : Option Addr} {n : Nat} {K : Nat → ByteArray} (h : Tx w a n K) (k : Below w.heap.size w w') : Tx w' a n K := by
  rcases h with h | ⟨b, off, ha, hb, hc⟩
  · exact .inl h
  · exact .inr ⟨b, off, ha, Nat.lt_of_lt_of_le hb k.size, fun j hj => (k.cell (p := ⟨b, off + j, none⟩) hb).trans (hc j hj)⟩
theorem Tx.at' {w : World} {a : Option Addr} {n : Nat} {K : Nat → ByteArray} (h : Tx w a n K) {j : Nat} (hj : j < n) : ∃ b off, a = some ⟨b, off, none⟩ ∧ b < w.heap.size ∧ w.cell? ⟨b, off + j, none⟩ = some (.string (K j)) := by
  rcases h with h | ⟨b, off, ha, hb, hc⟩
  · omega
  · exact ⟨b, off, ha, hb, hc j hj⟩
theorem mem_weightsAll {H : Type} {P : Program} {e : TypeId} {n : Nat} {d : DataW H} : ∀ (l : List (DataW H)), d ∈ l → n ∈ d.weights P e → n ∈ DataW.weightsAll P e l
  | [], h, _ => (by cases h)
  | x :: r, h, hn => by
    unfold DataW.weightsAll
    rcases List.mem_cons.1 h with rfl | h
    · exact List.mem_append_left _ hn
    · exact List.mem_append_right _ (mem_weightsAll r h hn)
theorem open_texts {H : Type} {enc : TypeId × Value → H} {w : World} {base : Nat} {spare : Nat → Bool} {held : Bool} {fuel : Nat} {a : Option Addr} {len cap : Nat} {x : DataW H × List MemPlace}
    (h : DataW.trod enc Try.prog w base spare held fuel 30 [.slice a len cap] = some x) (hb : ∀ n ∈ x.1.weights Try.prog 30, n ≤ reachBytes) : ∃ K : Nat → ByteArray, Tx w a len K ∧ ∀ j, j < len → (K j).size ≤ 140737488351232 := by
  have hcs : Try.prog.cellsOf 9 = 1 := by kernel_rfl
  rcases Go.Deep.open_strs Try.underlying30 Try.underlying9 hcs h with ⟨h0, _⟩ | ⟨a', len', cap', m, Sx, hc, hb0, hl, hm, hmm, hx, hcell⟩
  · simp at h0
    exact ⟨fun _ => ⟨#[]⟩, .inl h0.2.1, fun j hj => by omega⟩
  · simp at hc
    obtain ⟨rfl, rfl, rfl⟩ := hc
    have hlm : len ≤ m := by rw [hmm]; split <;> omega
    refine ⟨Sx, ?_, fun j hj => ?_⟩
    · by_cases h0 : len = 0
      · exact .inl h0
      · obtain ⟨b, off, spot⟩ := a'
        have hspot : spot = none := by
          have := World.cell?_spot (hcell 0 (by omega)).1
          simpa [Addr.add] using this
        subst hspot
        refine .inr ⟨b, off, rfl, ?_, fun j hj => ?_⟩
        · have := (hcell 0 (by omega)).1
          rw [Addr.add_mid] at this
          exact World.block_lt_of_cell? w _ this
        · have := (hcell j (by omega)).1
          rwa [Addr.add_mid] at this
    · have hw : (Sx j).data.toList.length ∈ x.1.weights Try.prog 30 := by
        rw [hx]
        unfold DataW.weights
        rw [Try.underlying30]
        refine List.mem_cons_of_mem _ (List.mem_append_left _ (mem_weightsAll _ (List.mem_map.2 ⟨j, List.mem_range.2 hj, rfl⟩) ?_))
        unfold DataW.weights
        exact List.mem_singleton.2 rfl
      have := hb _ hw
      rw [Array.length_toList] at this
      exact this


/-- Enciphered, deciphered, whatever the text; the error. -/
def eb (K x : ByteArray) : ByteArray := if x.size = 16 then et K x else ⟨#[]⟩
def db (K x : ByteArray) : ByteArray := if x.size = 16 then dt K x else ⟨#[]⟩
def ee (x : ByteArray) : Int := if x.size = 16 then 0 else 1
theorem eb_ok {K x : ByteArray} (h : x.size = 16) : eb K x = et K x := if_pos h
theorem eb_no {K x : ByteArray} (h : x.size ≠ 16) : eb K x = ⟨#[]⟩ := if_neg h
theorem db_ok {K x : ByteArray} (h : x.size = 16) : db K x = dt K x := if_pos h
theorem db_no {K x : ByteArray} (h : x.size ≠ 16) : db K x = ⟨#[]⟩ := if_neg h
theorem ee_ok {x : ByteArray} (h : x.size = 16) : ee x = 0 := if_pos h
theorem ee_no {x : ByteArray} (h : x.size ≠ 16) : ee x = 1 := if_neg h
theorem encE_c (K x : ByteArray) (w : World) (b : Nat) (hk : K.size = 32) (hR : Row w b 0 (bs (ciB (kw K)))) : Calls Try.prog 8 #[.pointer (some ⟨b, 0, none⟩), .string x] w fun e w' => e = .returned (.tuple #[.string (eb K x), .int .i64 (ee x)]) ∧ Below w.heap.size w w' := by
  by_cases h : x.size = 16
  · rw [eb_ok h, ee_ok h]; exact enc_c K x w b hk h hR
  · rw [eb_no h, ee_no h]; exact aEnc_bad x b w h
theorem decE_c (K x : ByteArray) (w : World) (b : Nat) (hk : K.size = 32) (hR : Row w b 0 (bs (ciB (kw K)))) : Calls Try.prog 9 #[.pointer (some ⟨b, 0, none⟩), .string x] w fun e w' => e = .returned (.tuple #[.string (db K x), .int .i64 (ee x)]) ∧ Below w.heap.size w w' := by
  by_cases h : x.size = 16
  · rw [db_ok h, ee_ok h]; exact dec_c K x w b hk h hR
  · rw [db_no h, ee_no h]; exact aDec_bad x b w h
/-- The first m of a row of texts, as values. -/
def ts (F : Nat → ByteArray) (m : Nat) : List Value := (List.range m).map fun j => .string (F j)
theorem ts_length (F : Nat → ByteArray) (m : Nat) : (ts F m).length = m := by simp [ts]
theorem ts_succ (F : Nat → ByteArray) (m : Nat) : ts F (m + 1) = ts F m ++ [.string (F m)] := by unfold ts; rw [List.range_succ, List.map_append]; rfl
theorem ts_at (F : Nat → ByteArray) (m j : Nat) (h : j < m) : (ts F m)[j]? = some (.string (F j)) := by simp [ts, h]
theorem ts_one {F : Nat → ByteArray} {m : Nat} {v : Value} (h : v ∈ ts F m) : v.oneCell' = true := by
  simp only [ts, List.mem_map] at h
  obtain ⟨j, _, rfl⟩ := h
  rfl
end Go.Proofs.Ytllhnbnddcghoaa
