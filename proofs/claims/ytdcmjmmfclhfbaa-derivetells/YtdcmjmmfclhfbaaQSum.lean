/- What the document reckons of a text, in plain numbers: its text filled up, the numbers of a block, the steps. No call is walked here. -/
import Derived.Test.YtdcmjmmfclhfbaaQRoots
import Derived.Test.YtdcmjmmfclhfbaaQPrimes
import Derived.Test.YtdcmjmmfclhfbaaSFill
import Derived.Test.YtdcmjmmfclhfbaaQApp
namespace Go.Proofs.Ytdcmjmmfclhfbaa
open Go.RowKit Bk
set_option linter.unusedVariables false

namespace Bk
theorem rq_cb : rq cbW 64 = skc := by
  have e : spr.take 64 = [2, 3, 5, 7, 11, 13, 17, 19, 23, 29, 31, 37, 41, 43, 47, 53] ++ ([59, 61, 67, 71, 73, 79, 83, 89, 97, 101, 103, 107, 109, 113, 127, 131] ++ ([137, 139, 149, 151, 157, 163, 167, 173, 179, 181, 191, 193, 197, 199, 211, 223] ++ [227, 229, 233, 239, 241, 251, 257, 263, 269, 271, 277, 281, 283, 293, 307, 311])) := rfl
  unfold rq
  rw [e, List.map_append, List.map_append, List.map_append, rts_cb0, rts_cb1, rts_cb2, rts_cb3]
  rfl
theorem rq_sq : (rq sqW 64).take 8 = siv := by
  unfold rq
  rw [← List.map_take, show (spr.take 64).take 8 = [2, 3, 5, 7, 11, 13, 17, 19] from rfl]
  exact rts_sq
/-- A text, filled up. -/
def qfl (l : List UInt8) : List UInt8 := l ++ sfill l.length
theorem qfl_eq (l : List UInt8) (m : Nat) (hm : 63 - (l.length + 8) % 64 = m) : qfl l = ((l ++ [128]) ++ List.replicate m 0) ++ se8 l.length := by
  unfold qfl; rw [sfill_eq _ m hm]; simp
theorem qfl_length (l : List UInt8) (m : Nat) (hm : 63 - (l.length + 8) % 64 = m) : (qfl l).length = l.length + 1 + m + 8 := by
  rw [qfl_eq l m hm]; simp [se8]; omega
theorem ssum_qfl (l : List UInt8) : ssum l = sdig (sst skc siv (qfl l) ((qfl l).length / 64)) 8 := rfl
theorem qswn (l : List Nat) (i : Nat) : ad (ad (ad (at' l (i - 16)) (sF (at' l (i - 15)))) (at' l (i - 7))) (sN (at' l (i - 2))) = swn l i := by
  unfold swn ad; omega
theorem take_at (l : List Nat) (i : Nat) (h : i < l.length) : l.take (i + 1) = l.take i ++ [at' l i] := by
  rw [List.take_add_one]
  congr 1
  simp [at', h]
theorem at_take (l : List Nat) (i j : Nat) (h : j < i) : at' (l.take i) j = at' l j := by
  simp [at', List.getD_eq_getElem?_getD, h]
theorem bnum_at (P : List UInt8) (f i : Nat) : bnum (P.drop f) i = 16777216 * by' P (f + 4 * i) + 65536 * by' P (f + 4 * i + 1) + 256 * by' P (f + 4 * i + 2) + by' P (f + 4 * i + 3) := by
  unfold bnum
  rw [by_drop, by_drop, by_drop, by_drop, show f + (4 * i + 1) = f + 4 * i + 1 by omega, show f + (4 * i + 2) = f + 4 * i + 2 by omega, show f + (4 * i + 3) = f + 4 * i + 3 by omega]
end Bk
end Go.Proofs.Ytdcmjmmfclhfbaa
