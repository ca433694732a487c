/- What the laws on keys take in. No call is walked here. -/
import Derived.Test.YtdcmjmmfclhfbaaKXor
import Derived.Test.YtdcmjmmfclhfbaaIArgs
import Derived.SizedLaws
namespace Go.Proofs.Ytdcmjmmfclhfbaa
open Go.RowKit Bk
set_option linter.unusedVariables false

theorem kk_size {p s : ByteArray} {n : Int} (h : okD p s n) : (kk p s n).size = 32 := by rw [kk_ok h]; exact dst_size _ _ _
theorem kc_size {p s : ByteArray} {n : Int} (h : okD p s n) : (kc p s n).size = 8 := by rw [kc_ok h, ByteArray.size_extract, dst_size]; rfl
theorem dst_pad (p f : ByteArray) (n : Nat) (h : p.size < 64) : dst (p ++ (⟨#[0]⟩ : ByteArray)) f n = dst p f n := by
  unfold dst
  rw [sb_append]
  exact congrArg (fun l => (⟨l.toArray⟩ : ByteArray)) (kxo_pad (sb p) (sb f) n (by rw [sb_length]; exact h))
theorem okD_pad {p s : ByteArray} {n : Int} (h : p.size < 64) : okD (p ++ (⟨#[0]⟩ : ByteArray)) s n ↔ okD p s n := by
  have e : (p ++ (⟨#[0]⟩ : ByteArray)).size = p.size + 1 := by rw [ByteArray.size_append]; rfl
  unfold okD
  rw [e]
  constructor <;> intro k <;> exact ⟨by omega, k.2⟩
theorem ke_pad {p s : ByteArray} {n : Int} (h : p.size < 64) : ke (p ++ (⟨#[0]⟩ : ByteArray)) s n = ke p s n := by
  by_cases k : okD p s n
  · rw [ke_ok k, ke_ok ((okD_pad h).2 k)]
  · rw [ke_no k, ke_no (fun j => k ((okD_pad h).1 j))]
theorem kk_pad {p s : ByteArray} {n : Int} (h : p.size < 64) : kk (p ++ (⟨#[0]⟩ : ByteArray)) s n = kk p s n := by
  by_cases k : okD p s n
  · rw [kk_ok k, kk_ok ((okD_pad h).2 k), dst_pad _ _ _ h]
  · rw [kk_no k, kk_no (fun j => k ((okD_pad h).1 j))]
theorem kc_pad {p s : ByteArray} {n : Int} (h : p.size < 64) : kc (p ++ (⟨#[0]⟩ : ByteArray)) s n = kc p s n := by
  by_cases k : okD p s n
  · rw [kc_ok k, kc_ok ((okD_pad h).2 k), dst_pad _ _ _ h]
  · rw [kc_no k, kc_no (fun j => k ((okD_pad h).1 j))]
/-- The four bytes of a number as a text, in whatever world they are laid. -/
theorem number_text (b : Nat) (hb : b ≤ 2147483647) (W : World) :
    (convert 29 9 (.slice (some ⟨W.heap.size, 0, none⟩) 4 4)).run Try.prog (W.alloc (.cells #[.int .u8 ((b : Int) / 16777216), .int .u8 ((b : Int) / 65536 % 256), .int .u8 ((b : Int) / 256 % 256), .int .u8 ((b : Int) % 256)] 5)) =
      .ok (.string (nb4 b)) (W.alloc (.cells #[.int .u8 ((b : Int) / 16777216), .int .u8 ((b : Int) / 65536 % 256), .int .u8 ((b : Int) / 256 % 256), .int .u8 ((b : Int) % 256)] 5)) := by
  rw [kn4_bs b hb]
  exact run_textR (P := Try.prog) _ 29 9 5 (c := 4) (n := 4) (l := kn4 b) Try.underlying29 Try.underlying5 Try.underlying9 W.heap.size 0 rfl rfl (Row.newL _ _ _).cell
end Go.Proofs.Ytdcmjmmfclhfbaa
