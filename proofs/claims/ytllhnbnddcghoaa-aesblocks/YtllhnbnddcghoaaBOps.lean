/- Bytes in memory: slices of bytes, copy, append and string(..) of them, as one operation each. No call is walked here. -/
import Derived.Test.YtllhnbnddcghoaaArr
import Derived.Deep.AppendSrc
import Derived.Laws.IdiomStrings
import Derived.Laws.CopyOwn
namespace Go.Proofs.Ytllhnbnddcghoaa
open Go.RowKit Bk
set_option linter.unusedVariables false

/-- The bytes of a string. -/
def sb (s : ByteArray) : List UInt8 := s.data.toList
theorem sb_length (s : ByteArray) : (sb s).length = s.size := by unfold sb; rw [Array.length_toList]; rfl
theorem sb_mk (l : List UInt8) : sb ⟨l.toArray⟩ = l := rfl
theorem mk_sb (s : ByteArray) : (⟨(sb s).toArray⟩ : ByteArray) = s := by cases s; simp [sb]
theorem sb_cells (s : ByteArray) : byteCells s = bs (sb s) := rfl

/-- A slice that holds bytes, in a row of bytes. -/
structure Sb (w : World) (a : Option Addr) (n c : Nat) (l : List UInt8) : Prop where
  len : l.length = n
  cap : n ≤ c
  at' : n = 0 ∨ ∃ b o C fr, a = some ⟨b, o, none⟩ ∧ w.heap[b]? = some (.cells C 5 fr) ∧ w.rangeAt b o (bs l)
theorem Sb.nil (w : World) : Sb w none 0 0 [] := ⟨rfl, Nat.le_refl _, .inl rfl⟩
theorem Sb.block {w w' : World} {a : Option Addr} {n c : Nat} {l : List UInt8} (h : Sb w a n c l) (k : ∀ (b : Nat) C fr, w.heap[b]? = some (Obj.cells C 5 fr) → w'.heap[b]? = some (Obj.cells C 5 fr)) : Sb w' a n c l := by
  refine ⟨h.len, h.cap, ?_⟩
  rcases h.at' with h0 | ⟨b, o, C, fr, ha, hb, hr⟩
  · exact .inl h0
  · refine .inr ⟨b, o, C, fr, ha, k b C fr hb, fun j v hj => ?_⟩
    have h1 := hr j v hj
    rw [cell_of_row _ _ _ _ _ _ hb] at h1
    rw [cell_of_row _ _ _ _ _ _ (k b C fr hb)]
    exact h1
theorem Sb.below {w w' : World} {a : Option Addr} {n c : Nat} {l : List UInt8} (h : Sb w a n c l) (k : Below w.heap.size w w') : Sb w' a n c l :=
  h.block fun b C fr hb => by
    have : b < w.heap.size := (Array.getElem?_eq_some_iff.1 hb).1
    rw [k.block b this]; exact hb
theorem Sb.drew {w : World} {a : Option Addr} {n c : Nat} {l : List UInt8} (h : Sb w a n c l) : Sb w.drew a n c l := ⟨h.len, h.cap, h.at'⟩

section
variable {P : Program} {ops : Array Oper} {rest : List Oper} {op : Oper} {a : Act} {w : World} {Q : Exit → Act → World → Prop}

/-- copy into a row, of what the source yields. -/
theorem run_copyR (w : World) (dT sT ty elem : TypeId) (b o dLen dCap n : Nat) (x : Value) (cs news : List Value) (hu : P.underlying dT = some (.slice elem)) (hs : (P.info? elem).map (·.size) = some 1) (hlen : ∀ w', (Builtin.lenOf x).run P w' = .ok n w') (hn : n ≤ dLen)
    (hc : (Builtin.firstCells 1 n x).run P w = .ok news.toArray w) (hr : Row w b o cs) (hl : news.length = cs.length) (h1 : ∀ v ∈ news, v.oneCell' = true) :
    (Builtin.copy_ #[dT, sT] ty #[.slice (some ⟨b, o, none⟩) dLen dCap, x]).run P w = .ok (goInt n) (w.setCells b o news) := by
  have ht := hr.there
  rw [← hl] at ht
  have hst := run_storeCells_cells (P := P) b o news 0 w (fun j hj => by simpa using (ht j hj).1) (fun j hj => by simpa using (ht j hj).2) h1
  simp only [Nat.add_zero] at hst
  cases hq : P.info? elem with
  | none => simp [hq] at hs
  | some i =>
    have hi : i.size = 1 := by simpa [hq] using hs
    have hm : Nat.min n dLen = n := Nat.min_eq_left hn
    simp [Builtin.copy_, run_underlying hu, hlen, sizeOf, typeInfo, hq, hi, hm, hc, hst]
theorem wpList_copyR (hg : op.guard = none) (d x : Operand) (dT sT : TypeId) (ho : op.op = .call { callee := .builtin .copy, args := #[d, x], argTypes := #[dT, sT] }) (elem : TypeId) (hu : P.underlying dT = some (.slice elem)) (hs : (P.info? elem).map (·.size) = some 1)
    {b o dLen dCap n : Nat} {xv : Value} {cs news : List Value} (hd : a.eval d = .slice (some ⟨b, o, none⟩) dLen dCap) (hx : a.eval x = xv) (hsrc : Src P 1 sT xv n news w) (hn : n ≤ dLen) (hr : Row w b o cs) (hl : news.length = cs.length)
    (h : wpList P ops Q rest (a.put op.dst (goInt n)) (w.setCells b o news)) : wpList P ops Q (op :: rest) a w := by
  refine wpList_plain hg fun K hK => ?_
  have hrun := run_copyR (P := P) w dT sT op.type elem b o dLen dCap n xv cs news hu hs hsrc.len hn hsrc.cells hr hl hsrc.one
  unfold Oper.wp
  simp [execOp, ho, resolve, invoke, builtin, hd, hx, hrun, Result.andThen]
  exact hK _ _ h
theorem Sb.src {w : World} {x : Option Addr} {n c : Nat} {l : List UInt8} {tx e' : TypeId} (h : Sb w x n c l) (hk : P.underlying tx = some (.slice e')) : Src P 1 tx (.slice x n c) n (bs l) w := by
  rcases h.at' with h0 | ⟨b, o, C, fr, rfl, hb, hr⟩
  · have hl := h.len
    subst h0
    obtain rfl : l = [] := List.length_eq_zero_iff.1 hl
    have hz : ∀ w' : World, (Builtin.firstCells 1 0 (.slice x 0 c)).run P w' = .ok #[] w' := fun w' => by
      cases x with
      | none => simp [Builtin.firstCells]
      | some a => simpa [Builtin.firstCells] using run_loadCells_list (P := P) w' a [] (by simp)
    exact ⟨.inl ⟨e', hk⟩, fun _ => rfl, hz w, hz w.drew, by simp [bs], fun u hu => by simp [bs] at hu⟩
  · exact Src.ofSlice w hk ⟨b, o, none⟩ n c (bs l) (by rw [bs_length, h.len, Nat.mul_one]) (fun j u hj => by rw [Addr.add_mid]; exact hr j u hj) (fun u hu => bs_one hu)
theorem str_src {w : World} {tx : TypeId} (hk : P.underlying tx = some .string) (s : ByteArray) : Src P 1 tx (.string s) s.size (bs (sb s)) w := Src.ofString w hk s

/-- append where there is room. -/
theorem wpList_appendR (hg : op.guard = none) (d x : Operand) (t tx : TypeId) (ho : op.op = .call { callee := .builtin .append, args := #[d, x], argTypes := #[t, tx] }) (e : TypeId) (ht : P.underlying t = some (.slice e)) (hs : (P.info? e).map (·.size) = some 1)
    {b off len cap n : Nat} {xv : Value} {cs news : List Value} (hd : a.eval d = .slice (some ⟨b, off, none⟩) len cap) (hx : a.eval x = xv) (hsrc : Src P 1 tx xv n news w) (hroom : len + n ≤ cap) (hr : Row w b (off + len) cs) (hl : news.length = cs.length)
    (h : wpList P ops Q rest (a.put op.dst (.slice (some ⟨b, off, none⟩) (len + n) cap)) (w.setCells b (off + len) news)) : wpList P ops Q (op :: rest) a w := by
  refine wpList_plain hg fun K hK => ?_
  cases hq : P.info? e with
  | none => simp [hq] at hs
  | some i =>
    have hi : i.size = 1 := by simpa [hq] using hs
    have ht' := hr.there
    rw [← hl] at ht'
    have hrun := run_append_room_src (P := P) w t tx op.type e i ht hq b off len cap xv n news (by rw [hi]; exact hsrc) hroom (fun j hj => by rw [hi, Nat.mul_one]; exact (ht' j hj).1) (fun j hj => by rw [hi, Nat.mul_one]; exact (ht' j hj).2)
    rw [hi, Nat.mul_one] at hrun
    unfold Oper.wp
    simp [execOp, ho, resolve, invoke, builtin, hd, hx, hrun, Result.andThen]
    exact hK _ _ h
/-- string(..) of bytes. -/
theorem run_textR (w : World) (src dst e : TypeId) {x : Option Addr} {n c : Nat} {l : List UInt8} (hs : P.underlying src = some (.slice e)) (he : P.underlying e = some (.int .u8)) (hd : P.underlying dst = some .string) (b o : Nat) (hx : x = some ⟨b, o, none⟩) (hl : l.length = n) (hr : w.rangeAt b o (bs l)) :
    (convert src dst (.slice x n c)).run P w = .ok (.string ⟨l.toArray⟩) w := by
  subst hx hl
  refine run_convert_bytes_back w src dst e ⟨b, o, none⟩ c l hs he hd (fun j hj => ?_)
  rw [Addr.add_mid]
  have := hr j _ (bs_get l j hj)
  rw [this]
  simp [by', hj]
end
theorem sb_extract (s : ByteArray) (i j : Nat) : sb (s.extract i j) = ((sb s).drop i).take (j - i) := by
  have h := ByteArray.extract_mk (sb s) i j
  rw [mk_sb] at h
  rw [h, sb_mk]
theorem size_extract (s : ByteArray) (i j : Nat) (h : j ≤ s.size) : (s.extract i j).size = j - i := by
  rw [← sb_length, sb_extract, List.length_take, List.length_drop, sb_length]; omega
theorem sb_empty : sb ⟨#[]⟩ = [] := rfl
theorem sb_inj {s t : ByteArray} (h : sb s = sb t) : s = t := by rw [← mk_sb s, ← mk_sb t, h]
theorem firstCells_str {P : Program} (s : ByteArray) (k : Nat) (w : World) : (Builtin.firstCells 1 k (.string s)).run P w = .ok (bs ((sb s).take k)).toArray w := by
  have e : sb (s.extract 0 k) = (sb s).take k := by rw [sb_extract]; simp
  have e2 : ((s.extract 0 k).data.map fun b => Value.int .u8 b.toNat) = (bs ((sb s).take k)).toArray := by
    apply Array.ext'
    rw [← e]
    simp [bs, sb]
  have e3 : Builtin.firstCells 1 k (.string s) = pure ((s.extract 0 k).data.map fun b => Value.int .u8 b.toNat) := rfl
  rw [e3, e2]
  rfl
section
variable {P : Program} {ops : Array Oper} {rest : List Oper} {op : Oper} {a : Act} {w : World} {Q : Exit → Act → World → Prop}
/-- copy of a string's first bytes into a row, as many as there is room for. -/
theorem run_copyS (w : World) (dT sT ty elem : TypeId) (b o dLen dCap k : Nat) (s : ByteArray) (cs : List Value) (hu : P.underlying dT = some (.slice elem)) (hs : (P.info? elem).map (·.size) = some 1) (hk : Nat.min s.size dLen = k)
    (hr : Row w b o cs) (hl : cs.length = k) : (Builtin.copy_ #[dT, sT] ty #[.slice (some ⟨b, o, none⟩) dLen dCap, .string s]).run P w = .ok (goInt k) (w.setCells b o (bs ((sb s).take k))) := by
  have hlen : (bs ((sb s).take k)).length = cs.length := by rw [bs_length, List.length_take, sb_length, hl, ← hk]; exact Nat.min_eq_left (Nat.min_le_left _ _)
  have ht := hr.there
  rw [← hlen] at ht
  have hst := run_storeCells_cells (P := P) b o (bs ((sb s).take k)) 0 w (fun j hj => by simpa using (ht j hj).1) (fun j hj => by simpa using (ht j hj).2) (fun v hv => bs_one hv)
  simp only [Nat.add_zero] at hst
  have hlo : ∀ w', (Builtin.lenOf (.string s)).run P w' = .ok s.size w' := fun _ => rfl
  have hc := firstCells_str (P := P) s k w
  cases hq : P.info? elem with
  | none => simp [hq] at hs
  | some i =>
    have hi : i.size = 1 := by simpa [hq] using hs
    simp [Builtin.copy_, run_underlying hu, hlo, sizeOf, typeInfo, hq, hi, hk, hc, hst]
theorem wpList_copyS (hg : op.guard = none) (d x : Operand) (dT sT : TypeId) (ho : op.op = .call { callee := .builtin .copy, args := #[d, x], argTypes := #[dT, sT] }) (elem : TypeId) (hu : P.underlying dT = some (.slice elem)) (hs : (P.info? elem).map (·.size) = some 1)
    {b o dLen dCap k : Nat} {s : ByteArray} {cs : List Value} (hd : a.eval d = .slice (some ⟨b, o, none⟩) dLen dCap) (hx : a.eval x = .string s) (hk : Nat.min s.size dLen = k) (hr : Row w b o cs) (hl : cs.length = k)
    (h : wpList P ops Q rest (a.put op.dst (goInt k)) (w.setCells b o (bs ((sb s).take k)))) : wpList P ops Q (op :: rest) a w := by
  refine wpList_plain hg fun K hK => ?_
  have hrun := run_copyS (P := P) w dT sT op.type elem b o dLen dCap k s cs hu hs hk hr hl
  unfold Oper.wp
  simp [execOp, ho, resolve, invoke, builtin, hd, hx, hrun, Result.andThen]
  exact hK _ _ h
end
end Go.Proofs.Ytllhnbnddcghoaa
