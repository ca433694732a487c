/- What lies in memory in a round: a cipher, its pointer in a cell, the block. No call is walked here. -/
import Derived.Test.YtllhnbnddcghoaaAKey
import Derived.Test.YtllhnbnddcghoaaASqR
import Derived.Test.YtllhnbnddcghoaaASqC
import Derived.Test.YtllhnbnddcghoaaASqS
import Derived.Test.YtllhnbnddcghoaaASqM
namespace Go.Proofs.Ytllhnbnddcghoaa
open Go.RowKit Bk
set_option linter.unusedVariables false
set_option linter.unusedSimpArgs false

/-- A cipher of the words W in block b, its pointer in block bp. -/
structure Cw (w : World) (bp b : Nat) (W : List UInt8) : Prop where
  ptr : w.cell? ⟨bp, 0, none⟩ = some (.pointer (some ⟨b, 0, none⟩))
  lt : bp < w.heap.size
  row : Row w b 0 (bs (ciB W))
  len : W.length = 240
theorem Cw.below {w w' : World} {bp b : Nat} {W : List UInt8} (h : Cw w bp b W) (k : Below w.heap.size w w') : Cw w' bp b W :=
  ⟨(k.cell (p := ⟨bp, 0, none⟩) h.lt).trans h.ptr, Nat.lt_of_lt_of_le h.lt k.size, h.row.below k h.row.lt, h.len⟩
/-- A round's block, its result's cells. -/
structure Rn (w wr : World) (s : List UInt8) : Prop where
  s : Row wr w.heap.size 0 (bs s)
  z : Row wr (w.heap.size + 1) 0 (bs (zr 16))
  be : Below w.heap.size w wr
theorem Rn.below {w wr w2 : World} {s : List UInt8} (h : Rn w wr s) (k : Below wr.heap.size wr w2) : Rn w w2 s := ⟨h.s.below k h.s.lt, h.z.below k h.z.lt, h.be.trans (k.mono h.be.size)⟩
theorem Rn.drew {w wr : World} {s : List UInt8} (h : Rn w wr s) : Rn w wr.drew s := ⟨h.s.drew, h.z.drew, h.be.drew⟩
theorem Rn.put {w wr : World} {s : List UInt8} (h : Rn w wr s) (v : List UInt8) (hs : s.length = 16) (hv : v.length = 16) : Rn w (wr.setCells w.heap.size 0 (bs v)) v :=
  ⟨h.s.put (bs v) (by rw [bs_length, bs_length, hs, hv]), h.z.apart _ _ _ (.inl (by omega)), h.be.trans (below_setCells (Nat.le_refl _) _ _ _)⟩
theorem Rn.start (w : World) (s : List UInt8) : Rn w ((w.alloc (.cells (bs s).toArray 40)).alloc (.cells #[.int .u8 0, .int .u8 0, .int .u8 0, .int .u8 0, .int .u8 0, .int .u8 0, .int .u8 0, .int .u8 0, .int .u8 0, .int .u8 0, .int .u8 0, .int .u8 0, .int .u8 0, .int .u8 0, .int .u8 0, .int .u8 0] 40)) s :=
  ⟨(Row.newL w (bs s) _).alloc _, row2 w _ (bs (zr 16)) _, below2 w _ _⟩
theorem sqShift_1 (s : List UInt8) (w : World) (hs : s.length = 16) : Calls Try.prog 22 #[.agg (bs s).toArray, .int .i64 1] w fun e w' => e = .returned (.agg (bs (shf 1 s)).toArray) ∧ Below w.heap.size w w' := sqShift_any 1 s w hs (by decide)
theorem sqShift_3 (s : List UInt8) (w : World) (hs : s.length = 16) : Calls Try.prog 22 #[.agg (bs s).toArray, .int .i64 3] w fun e w' => e = .returned (.agg (bs (shf 3 s)).toArray) ∧ Below w.heap.size w w' := sqShift_any 3 s w hs (by decide)
end Go.Proofs.Ytllhnbnddcghoaa
