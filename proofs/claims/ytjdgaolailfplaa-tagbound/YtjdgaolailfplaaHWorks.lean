/- What the laws ask first: a byte so often, bytes as hexadecimal digits, the examples; walked. -/
import Derived.Test.YtjdgaolailfplaaHTop
import Derived.Deep.OwnRows
import Derived.BigQuiet
namespace Go.Proofs.Ytjdgaolailfplaa
open Go.RowKit Bk
set_option linter.unusedVariables false
set_option linter.unusedSimpArgs false

theorem made_bytes (n : Nat) : (madeCells #[.int .u8 0] n).toList = bs (List.replicate n 0) := by
  apply List.ext_getElem
  · simp [madeCells, bs]
  · intro i h1 h2
    simp [madeCells, bs, Nat.mod_one]
theorem row_made (w : World) (n : Nat) : Row (w.alloc (.cells (madeCells #[.int .u8 0] n) 5)) w.heap.size 0 (bs (List.replicate n 0)) := by
  have k := Row.new w (madeCells #[.int .u8 0] n) 5
  rwa [made_bytes] at k
theorem info8' : (Try.prog.info? 5).map (fun i => (i.zero, i.size, i.bytes)) = some (some (.int .u8 0), 1, 1) := by kernel_rfl
theorem mk_bytes (n : Nat) (hn : n ≤ 1000000) (w : World) : (Instr.makeSlice 31 (.int .i64 (n : Int)) (.int .i64 (n : Int))).run Try.prog w = .ok (.slice (some ⟨w.heap.size, 0, none⟩) n n) (w.alloc (.cells (madeCells #[.int .u8 0] n) 5)) :=
  run_make_row' 31 5 (.int .u8 0) 1 Try.underlying31 info8' rfl .i64 .i64 n (by omega) (by omega) w
theorem bs_setU (l : List UInt8) (i : Nat) (x : UInt8) : bs (l.set i x) = (bs l).set i (.int .u8 (x.toNat : Int)) := by simp [bs, List.map_set]
theorem rep_set (c : UInt8) (k n : Nat) (h : k < n) : (List.replicate k c ++ List.replicate (n - k) 0).set k c = List.replicate (k + 1) c ++ List.replicate (n - (k + 1)) 0 := by
  rw [List.set_append_right _ _ (by simp), List.length_replicate, Nat.sub_self, show n - k = (n - (k + 1)) + 1 by omega, List.replicate_succ, List.set_cons_zero, List.replicate_succ']
  simp

/-- A digit of sixteen; two of them a byte. -/
def hd (x : Nat) : List UInt8 := ([48, 49, 50, 51, 52, 53, 54, 55, 56, 57, 97, 98, 99, 100, 101, 102].drop x).take 1
def hxs (l : List UInt8) : List UInt8 := l.flatMap fun c => hd (c.toNat / 16) ++ hd (c.toNat % 16)
theorem hxs_take (l : List UInt8) (k : Nat) (hk : k < l.length) : hxs (l.take (k + 1)) = hxs (l.take k) ++ (hd (by' l k / 16) ++ hd (by' l k % 16)) := by
  unfold hxs
  rw [List.take_add_one, List.flatMap_append]
  simp [by', hk]
theorem idx_str (s : ByteArray) (k : Nat) (hk : k < s.size) (w : World) : (Instr.index 9 (.string s) (.int .i64 (k : Int))).run Try.prog w = .ok (.int .u8 ((by' (sb s) k : Nat) : Int)) w := by
  have h1 : (0 : Int) ≤ (k : Int) := Int.natCast_nonneg k
  have h2 : (k : Int) < (s.size : Int) := Int.ofNat_lt.2 hk
  rw [run_index_string _ _ _ _ _ Try.underlying9, dif_pos (And.intro h1 h2)]
  congr 2
  simp only [Int.toNat_natCast, by', sb, List.getD_eq_getElem?_getD, Array.getElem?_toList]
  rw [Array.getElem?_eq_getElem (show k < s.data.size from hk)]
  rfl

theorem ext_digit (x : Nat) (hx : x < 16) : (ByteArray.mk #[48, 49, 50, 51, 52, 53, 54, 55, 56, 57, 97, 98, 99, 100, 101, 102]).extract x (x + 1) = ⟨(hd x).toArray⟩ := by
  have h := ByteArray.extract_mk [48, 49, 50, 51, 52, 53, 54, 55, 56, 57, 97, 98, 99, 100, 101, 102] x (x + 1)
  rw [Nat.add_sub_cancel_left] at h
  exact h
theorem mk_append (a b : List UInt8) : ByteArray.mk a.toArray ++ ByteArray.mk b.toArray = ByteArray.mk (a ++ b).toArray := by
  apply ByteArray.ext
  simp

theorem sum_empty : sum 0 [] = [105, 33, 122, 48, 121, 144, 128, 148, 225, 17, 33, 208, 66, 53, 74, 124, 31, 85, 182, 72, 44, 161, 165, 30, 27, 37, 13, 253, 30, 208, 238, 249] := by kernel_rfl
theorem sum_abc : sum 0 [97, 98, 99] = [80, 140, 94, 140, 50, 124, 20, 226, 225, 167, 43, 163, 78, 235, 69, 47, 55, 69, 139, 32, 158, 214, 58, 41, 77, 153, 155, 76, 134, 103, 89, 130] := by kernel_rfl

def sA : ByteArray := ⟨(hxs (sum 0 [])).toArray⟩
def sB : ByteArray := ⟨(hxs (sum 0 [97, 98, 99])).toArray⟩
theorem hx_empty : hxs (sum 0 []) = [54, 57, 50, 49, 55, 97, 51, 48, 55, 57, 57, 48, 56, 48, 57, 52, 101, 49, 49, 49, 50, 49, 100, 48, 52, 50, 51, 53, 52, 97, 55, 99, 49, 102, 53, 53, 98, 54, 52, 56, 50, 99, 97, 49, 97, 53, 49, 101, 49, 98, 50, 53, 48, 100, 102, 100, 49, 101, 100, 48, 101, 101, 102, 57] := by rw [sum_empty]; kernel_rfl
theorem hx_abc : hxs (sum 0 [97, 98, 99]) = [53, 48, 56, 99, 53, 101, 56, 99, 51, 50, 55, 99, 49, 52, 101, 50, 101, 49, 97, 55, 50, 98, 97, 51, 52, 101, 101, 98, 52, 53, 50, 102, 51, 55, 52, 53, 56, 98, 50, 48, 57, 101, 100, 54, 51, 97, 50, 57, 52, 100, 57, 57, 57, 98, 52, 99, 56, 54, 54, 55, 53, 57, 56, 50] := by rw [sum_abc]; kernel_rfl
theorem sA_size : sA.size = 64 := by rw [← sb_length]; unfold sA; rw [sb_mk, hx_empty]; kernel_rfl
theorem sB_size : sB.size = 64 := by rw [← sb_length]; unfold sB; rw [sb_mk, hx_abc]; kernel_rfl
set_option maxRecDepth 10000 in
theorem sA_16 : sA.extract 0 16 = ByteArray.mk #[54, 57, 50, 49, 55, 97, 51, 48, 55, 57, 57, 48, 56, 48, 57, 52] := by
  unfold sA; rw [hx_empty]; exact ByteArray.extract_mk _ 0 16
set_option maxRecDepth 10000 in
theorem sB_16 : sB.extract 0 16 = ByteArray.mk #[53, 48, 56, 99, 53, 101, 56, 99, 51, 50, 55, 99, 49, 52, 101, 50] := by
  unfold sB; rw [hx_abc]; exact ByteArray.extract_mk _ 0 16
set_option maxRecDepth 10000 in
theorem sB_8 : sB.extract 56 64 = ByteArray.mk #[56, 54, 54, 55, 53, 57, 56, 50] := by
  unfold sB; rw [hx_abc]; exact ByteArray.extract_mk _ 56 64

end Go.Proofs.Ytjdgaolailfplaa
