/- Rows of bytes that are made; the digits of bytes. No call is walked here. -/
import Derived.Test.YtllhnbnddcghoaaBOps
import Derived.Deep.OwnRows
import Derived.BigQuiet
namespace Go.Proofs.Ytllhnbnddcghoaa
open Go.RowKit Bk
set_option linter.unusedVariables false
set_option linter.unusedSimpArgs false

theorem made_bytes (n : Nat) : (madeCells #[.int .u8 0] n).toList = bs (List.replicate n 0) := by
  apply List.ext_getElem
  · simp [madeCells, bs]
  · intro i h1 h2
    simp [madeCells, bs, Nat.mod_one]
theorem row_made (w : World) (n : Nat) : Row (w.alloc (.cells (madeCells #[.int .u8 0] n) 5)) w.heap.size 0 (bs (List.replicate n 0)) := by
  have k := Row.new w (madeCells #[.int .u8 0] n) 5
  rwa [made_bytes] at k
theorem info8' : (Try.prog.info? 5).map (fun i => (i.zero, i.size, i.bytes)) = some (some (.int .u8 0), 1, 1) := by kernel_rfl
theorem mk_bytes (n : Nat) (hn : n ≤ 1000000) (w : World) : (Instr.makeSlice 55 (.int .i64 (n : Int)) (.int .i64 (n : Int))).run Try.prog w = .ok (.slice (some ⟨w.heap.size, 0, none⟩) n n) (w.alloc (.cells (madeCells #[.int .u8 0] n) 5)) :=
  run_make_row' 55 5 (.int .u8 0) 1 Try.underlying55 info8' rfl .i64 .i64 n (by omega) (by omega) w
theorem bs_setU (l : List UInt8) (i : Nat) (x : UInt8) : bs (l.set i x) = (bs l).set i (.int .u8 (x.toNat : Int)) := by simp [bs, List.map_set]
theorem rep_set (c : UInt8) (k n : Nat) (h : k < n) : (List.replicate k c ++ List.replicate (n - k) 0).set k c = List.replicate (k + 1) c ++ List.replicate (n - (k + 1)) 0 := by
  rw [List.set_append_right _ _ (by simp), List.length_replicate, Nat.sub_self, show n - k = (n - (k + 1)) + 1 by omega, List.replicate_succ, List.set_cons_zero, List.replicate_succ']
  simp

/-- A digit of sixteen; two of them a byte. -/
def hd (x : Nat) : List UInt8 := ([48, 49, 50, 51, 52, 53, 54, 55, 56, 57, 97, 98, 99, 100, 101, 102].drop x).take 1
def hxs (l : List UInt8) : List UInt8 := l.flatMap fun c => hd (c.toNat / 16) ++ hd (c.toNat % 16)
theorem hxs_take (l : List UInt8) (k : Nat) (hk : k < l.length) : hxs (l.take (k + 1)) = hxs (l.take k) ++ (hd (by' l k / 16) ++ hd (by' l k % 16)) := by
  unfold hxs
  rw [List.take_add_one, List.flatMap_append]
  simp [by', hk]
theorem idx_str (s : ByteArray) (k : Nat) (hk : k < s.size) (w : World) : (Instr.index 9 (.string s) (.int .i64 (k : Int))).run Try.prog w = .ok (.int .u8 ((by' (sb s) k : Nat) : Int)) w := by
  have h1 : (0 : Int) ≤ (k : Int) := Int.natCast_nonneg k
  have h2 : (k : Int) < (s.size : Int) := Int.ofNat_lt.2 hk
  rw [run_index_string _ _ _ _ _ Try.underlying9, dif_pos (And.intro h1 h2)]
  congr 2
  simp only [Int.toNat_natCast, by', sb, List.getD_eq_getElem?_getD, Array.getElem?_toList]
  rw [Array.getElem?_eq_getElem (show k < s.data.size from hk)]
  rfl

theorem ext_digit (x : Nat) (hx : x < 16) : (ByteArray.mk #[48, 49, 50, 51, 52, 53, 54, 55, 56, 57, 97, 98, 99, 100, 101, 102]).extract x (x + 1) = ⟨(hd x).toArray⟩ := by
  have h := ByteArray.extract_mk [48, 49, 50, 51, 52, 53, 54, 55, 56, 57, 97, 98, 99, 100, 101, 102] x (x + 1)
  rw [Nat.add_sub_cancel_left] at h
  exact h
theorem mk_append (a b : List UInt8) : ByteArray.mk a.toArray ++ ByteArray.mk b.toArray = ByteArray.mk (a ++ b).toArray := by
  apply ByteArray.ext
  simp

end Go.Proofs.Ytllhnbnddcghoaa
