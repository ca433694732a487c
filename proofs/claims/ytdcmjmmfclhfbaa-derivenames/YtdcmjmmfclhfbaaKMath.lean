/- Texts of rounds, put together by exclusive or: in plain lists of bytes. No condition. -/
import Derived.Test.YtdcmjmmfclhfbaaSMath
namespace Go.Proofs.Ytdcmjmmfclhfbaa.Bk
set_option linter.unusedVariables false

/-- A block's number in four bytes, the highest first. -/
def kn4 (b : Nat) : List UInt8 := [UInt8.ofNat (b / 16777216), UInt8.ofNat (b / 65536), UInt8.ofNat (b / 256), UInt8.ofNat b]
theorem kn4_length (b : Nat) : (kn4 b).length = 4 := rfl
/-- The text of round k (from 0 on). -/
def ktx (p f : List UInt8) : Nat → List UInt8
  | 0 => shmac p f
  | k + 1 => shmac p (ktx p f k)
theorem ktx_length (p f : List UInt8) (k : Nat) : (ktx p f k).length = 32 := by cases k <;> exact shmac_length _ _
/-- Byte by byte, put together. -/
def kx (a b : List UInt8) : List UInt8 := List.zipWith (· ^^^ ·) a b
theorem kx_length {a b : List UInt8} {n : Nat} (h : a.length = n) (k : b.length = n) : (kx a b).length = n := by unfold kx; simp [h, k]
theorem x8_zero (x : UInt8) : 0 ^^^ x = x := by
  apply UInt8.toNat_inj.1
  rw [UInt8.toNat_xor]
  simp
theorem kx_zero : ∀ (b : List UInt8), kx (List.replicate b.length 0) b = b
  | [] => rfl
  | x :: b => by
    have := kx_zero b
    unfold kx at this ⊢
    simp only [List.length_cons, List.replicate_succ, List.zipWith_cons_cons, x8_zero, this]
/-- The first k of them, put together. -/
def kmid (a t : List UInt8) (k : Nat) : List UInt8 := (kx a t).take k ++ a.drop k
theorem kmid_zero (a t : List UInt8) : kmid a t 0 = a := rfl
theorem kmid_length {a t : List UInt8} {n : Nat} (h : a.length = n) (h' : t.length = n) (k : Nat) (hk : k ≤ n) : (kmid a t k).length = n := by
  unfold kmid
  rw [List.length_append, List.length_take, List.length_drop, kx_length h h', h]
  omega
theorem kmid_all {a t : List UInt8} {n : Nat} (h : a.length = n) (h' : t.length = n) : kmid a t n = kx a t := by
  unfold kmid
  rw [List.take_of_length_le (by rw [kx_length h h']; omega), List.drop_of_length_le (by omega), List.append_nil]
theorem kmid_at {a t : List UInt8} {n : Nat} (h : a.length = n) (h' : t.length = n) (k : Nat) (hk : k < n) : by' (kmid a t k) k = by' a k := by
  unfold kmid by'
  have hl : ((kx a t).take k).length = k := by rw [List.length_take, kx_length h h']; omega
  congr 1
  simp only [List.getD_eq_getElem?_getD]
  rw [List.getElem?_append_right (by omega), hl, Nat.sub_self, List.getElem?_drop, Nat.add_zero]
theorem kmid_succ {a t : List UInt8} {n : Nat} (h : a.length = n) (h' : t.length = n) (k : Nat) (hk : k < n) : kmid a t (k + 1) = (kmid a t k).set k (UInt8.ofNat (by' a k) ^^^ UInt8.ofNat (by' t k)) := by
  unfold kmid
  have hl : ((kx a t).take k).length = k := by rw [List.length_take, kx_length h h']; omega
  have ha : a.drop k = a[k]'(by omega) :: a.drop (k + 1) := List.drop_eq_getElem_cons (by omega)
  have hxl : k < (kx a t).length := by rw [kx_length h h']; omega
  have hx : (kx a t)[k]'hxl = a[k]'(by omega) ^^^ t[k]'(by omega) := List.getElem_zipWith
  have e1 : UInt8.ofNat (by' a k) = a[k]'(by omega) := by simp [by', List.getD_eq_getElem?_getD, List.getElem?_eq_getElem (show k < a.length by omega)]
  have e2 : UInt8.ofNat (by' t k) = t[k]'(by omega) := by simp [by', List.getD_eq_getElem?_getD, List.getElem?_eq_getElem (show k < t.length by omega)]
  rw [e1, e2, ha, List.set_append_right _ _ (by omega), hl, Nat.sub_self, List.set_cons_zero, List.take_succ_eq_append_getElem hxl, hx, List.append_assoc]
  rfl
/-- What some texts come to. -/
def kall (p f : List UInt8) (xs : List Nat) : List UInt8 := xs.foldl (fun v x => kx v (ktx p f x)) (List.replicate 32 0)
theorem kall_snoc (p f : List UInt8) (xs : List Nat) (x : Nat) : kall p f (xs ++ [x]) = kx (kall p f xs) (ktx p f x) := by unfold kall; simp
theorem kx32 {a b : List UInt8} (h : a.length = 32) (k : b.length = 32) : (kx a b).length = 32 := kx_length h k
theorem kfold_length (p f : List UInt8) : ∀ (xs : List Nat) (v : List UInt8), v.length = 32 → (xs.foldl (fun v x => kx v (ktx p f x)) v).length = 32
  | [], _, h => h
  | x :: xs, v, h => kfold_length p f xs _ (kx32 h (ktx_length _ _ _))
theorem kall_length (p f : List UInt8) (xs : List Nat) : (kall p f xs).length = 32 := kfold_length p f xs _ (by simp)
/-- What is stretched by n rounds. -/
def kxo (p f : List UInt8) (n : Nat) : List UInt8 := kall p f (List.range n)
theorem kxo_length (p f : List UInt8) (n : Nat) : (kxo p f n).length = 32 := kall_length _ _ _
theorem kxo_succ (p f : List UInt8) (n : Nat) : kxo p f (n + 1) = kx (kxo p f n) (ktx p f n) := by unfold kxo; rw [List.range_succ, kall_snoc]
theorem kxo_one (p f : List UInt8) : kxo p f 1 = shmac p f := by
  rw [kxo_succ]
  have h : kxo p f 0 = List.replicate (ktx p f 0).length 0 := by rw [ktx_length]; rfl
  rw [h, kx_zero]
  rfl
/-- A key that is filled up is the same by a byte 0 behind. -/
theorem scmb_pad (p : List UInt8) (c : UInt8) (h : p.length < 64) : scmb (p ++ [0]) c = scmb p c := by
  unfold scmb
  obtain ⟨n, hn⟩ : ∃ n, 64 - p.length = n + 1 := ⟨63 - p.length, by omega⟩
  have e : 64 - (p ++ [0]).length = n := by simp; omega
  rw [e, hn, List.replicate_succ, List.append_assoc]
  rfl
theorem shmac_pad (p s : List UInt8) (h : p.length < 64) : shmac (p ++ [0]) s = shmac p s := by
  have e1 : skey (p ++ [0]) = p ++ [0] := by unfold skey; rw [if_neg (by simp; omega)]
  have e2 : skey p = p := by unfold skey; rw [if_neg (by omega)]
  unfold shmac
  rw [e1, e2, scmb_pad p _ h, scmb_pad p _ h]
theorem ktx_pad (p f : List UInt8) (h : p.length < 64) : ∀ k, ktx (p ++ [0]) f k = ktx p f k
  | 0 => shmac_pad p f h
  | k + 1 => by show shmac _ _ = shmac _ _; rw [ktx_pad p f h k, shmac_pad p _ h]
theorem kxo_pad (p f : List UInt8) (n : Nat) (h : p.length < 64) : kxo (p ++ [0]) f n = kxo p f n := by
  unfold kxo kall
  congr 1
  funext v x
  rw [ktx_pad p f h]
end Go.Proofs.Ytdcmjmmfclhfbaa.Bk
