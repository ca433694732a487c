/- Lists of places as rows of ints; a right word that was spoilt at few places is near enough. Pure arithmetic. -/
import Derived.Test.YtdbdidohldhnhaaDArgs
namespace Go.Proofs.Ytdbdidohldhnhaa
open Go.RowKit Gf
set_option linter.unusedVariables false

/-- A list of places as a row of ints. -/
def lg (L : List Nat) : Nat → Int := fun j => ((L.getD j 0 : Nat) : Int)
theorem lg_mem {L : List Nat} {i : Nat} : gon (lg L) L.length i = true ↔ i ∈ L := by
  rw [gon_iff]
  unfold lg
  constructor
  · rintro ⟨k, hk, e⟩
    rw [List.getD_eq_getElem?_getD, List.getElem?_eq_getElem hk] at e
    have e' : ((L[k] : Nat) : Int) = (i : Int) := by simpa using e
    have : L[k] = i := by omega
    rw [← this]
    exact List.getElem_mem hk
  · intro h
    obtain ⟨k, hk, e⟩ := List.mem_iff_getElem.1 h
    exact ⟨k, hk, by rw [List.getD_eq_getElem?_getD, List.getElem?_eq_getElem hk]; show ((L[k] : Nat) : Int) = (i : Int); rw [e]⟩
theorem lg_gn {L : List Nat} {n : Nat} (hd : L.Nodup) (hl : ∀ i ∈ L, i < n) : Gn (lg L) L.length n := by
  refine ⟨fun k hk => ?_, fun i j hi hj e => ?_⟩
  · unfold lg
    have := hl (L.getD k 0) (by rw [List.getD_eq_getElem?_getD, List.getElem?_eq_getElem hk]; exact List.getElem_mem hk)
    omega
  · unfold lg at e
    rw [List.getD_eq_getElem?_getD, List.getElem?_eq_getElem hi, List.getD_eq_getElem?_getD, List.getElem?_eq_getElem hj] at e
    have e' : ((L[i] : Nat) : Int) = ((L[j] : Nat) : Int) := by simpa using e
    exact (List.getElem_inj hd).1 (by omega)
theorem cnt_list {n : Nat} {d : Nat → Int} {T : List Nat} (h : ∀ i, i < n → d i ≠ 0 → i ∈ T) : cnt n d ≤ T.length := by
  have h1 := cnt_three (n := n) (d := d) (a := fun _ => 0) (b := fun _ => 0) (p := gon (lg T) T.length) (fun i hi hp _ _ => by
    refine Classical.byContradiction fun hne => ?_
    have := lg_mem.2 (h i hi hne)
    rw [hp] at this
    cases this)
  have h2 := cb_gon (lg T) T.length n
  have h0 := cnt_none (n := n) (d := fun _ => (0 : Int)) (fun _ _ => rfl)
  rw [h0] at h1
  omega
/-- A right word that was spoilt at few places is near enough. -/
theorem near_spoilt {n r : Nat} {W F : Nat → Int} {G T : List Nat} (hW : P16 W) (hF : P16 F) (ho : ∀ j, n ≤ j → W j = 0) (hR : Rt n W r) (hG : G.length ≤ r) (hT : T.length ≤ (r - G.length) / 2) (h : ∀ j, j < n → j ∉ G ++ T → F j = W j) : Near n F r G.length (lg G) W := by
  refine ⟨hW, ho, hR, ?_⟩
  have := cnt_list (n := n) (d := off (lg G) G.length F W) (T := T) (fun i hi hne => by
    refine Classical.byContradiction fun hnt => hne ?_
    unfold off
    split
    · rfl
    · rename_i hg
      rw [h i hi (fun hm => (List.mem_append.1 hm).elim (fun h1 => hg (lg_mem.2 h1)) hnt), f7])
  omega

end Go.Proofs.Ytdbdidohldhnhaa
