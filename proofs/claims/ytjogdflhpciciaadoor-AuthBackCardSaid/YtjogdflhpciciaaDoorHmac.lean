/- The answer of P4.1, over lists of bytes: plain facts, of no program. -/
import Derived.Test.YtjogdflhpciciaaDoorMd5
namespace Go.Proofs.YtjogdflhpciciaaDoor
namespace Hm

/-- The key, or what stands for it. -/
def key (k : List UInt8) : List UInt8 := if 64 < k.length then Md5.sum k else k
/-- The key with noughts behind it, up to 64. -/
def pad (k : List UInt8) : List UInt8 := key k ++ List.replicate (64 - (key k).length) 0
def xor (x : UInt8) (l : List UInt8) : List UInt8 := l.map (· ^^^ x)
def inner (k b : List UInt8) : List UInt8 := Md5.sum (xor 54 (pad k) ++ b)
def sum (k b : List UInt8) : List UInt8 := Md5.sum (xor 92 (pad k) ++ inner k b)

theorem key_le (k : List UInt8) : (key k).length ≤ 64 := by
  unfold key
  split
  · rw [Md5.sum_len]; decide
  · omega
theorem pad_len (k : List UInt8) : (pad k).length = 64 := by
  have := key_le k
  simp only [pad, List.length_append, List.length_replicate]
  omega
theorem xor_len (x : UInt8) (l : List UInt8) : (xor x l).length = l.length := by simp [xor]
theorem sum_len (k b : List UInt8) : (sum k b).length = 16 := Md5.sum_len _
theorem inner_len (k b : List UInt8) : (inner k b).length = 16 := Md5.sum_len _

theorem key_short {k : List UInt8} (h : k.length ≤ 64) : key k = k := if_neg (by omega)
theorem key_long {k : List UInt8} (h : 64 < k.length) : key k = Md5.sum k := if_pos h
/-- P4.3: noughts behind a key do not matter, as long as it is no longer than 64. -/
theorem pad_noughts {k : List UInt8} {z : Nat} (h : k.length + z ≤ 64) : pad (k ++ List.replicate z 0) = pad k := by
  rw [pad, pad, key_short (by rw [List.length_append, List.length_replicate]; exact h), key_short (by omega), List.append_assoc, List.replicate_append_replicate]
  congr 2
  rw [List.length_append, List.length_replicate]
  omega
theorem sum_noughts {k b : List UInt8} {z : Nat} (h : k.length + z ≤ 64) : sum (k ++ List.replicate z 0) b = sum k b := by
  rw [sum, sum, inner, inner, pad_noughts h]
/-- A long key is as good as what stands for it. -/
theorem pad_stands {k : List UInt8} (h : 64 < k.length) : pad (Md5.sum k) = pad k := by
  rw [pad, pad, key_long h, key_short (by rw [Md5.sum_len]; decide)]
theorem sum_stands {k b : List UInt8} (h : 64 < k.length) : sum (Md5.sum k) b = sum k b := by
  rw [sum, sum, inner, inner, pad_stands h]

/-- The i-th byte of the key with noughts behind it. -/
theorem pad_at {k : List UInt8} (i : Nat) (h : k.length ≤ 64) : (pad k).getD i 0 = k.getD i 0 := by
  rw [pad, key_short h, List.getD_eq_getElem?_getD, List.getD_eq_getElem?_getD]
  by_cases hi : i < k.length
  · rw [List.getElem?_append_left hi]
  · rw [List.getElem?_append_right (by omega), List.getElem?_eq_none (by omega : k.length ≤ i), List.getElem?_replicate]
    split <;> rfl

/-- The first i bytes of the padded key, each with x. -/
def someX (x : UInt8) (k : List UInt8) (i : Nat) : List UInt8 := xor x ((pad k).take i)
theorem someX_zero (x : UInt8) (k : List UInt8) : someX x k 0 = [] := by simp [someX, xor]
theorem someX_step (x : UInt8) (k : List UInt8) {i : Nat} (h : i < 64) : someX x k (i + 1) = someX x k i ++ [(pad k).getD i 0 ^^^ x] := by
  have hl := pad_len k
  rw [someX, List.take_add_one, List.getElem?_eq_getElem (by omega), xor, List.map_append, List.getD_eq_getElem?_getD, List.getElem?_eq_getElem (by omega)]
  rfl
theorem someX_all (x : UInt8) (k : List UInt8) : someX x k 64 = xor x (pad k) := by
  rw [someX, List.take_of_length_le (by rw [pad_len]; exact Nat.le_refl _)]

theorem sum_jefe : Md5.hex (sum [74, 101, 102, 101] [119, 104, 97, 116, 32, 100, 111, 32, 121, 97, 32, 119, 97, 110, 116, 32, 102, 111, 114, 32, 110, 111, 116, 104, 105, 110, 103, 63]) =
    [55, 53, 48, 99, 55, 56, 51, 101, 54, 97, 98, 48, 98, 53, 48, 51, 101, 97, 97, 56, 54, 101, 51, 49, 48, 97, 53, 100, 98, 55, 51, 56] := by decide +kernel

end Hm
end Go.Proofs.YtjogdflhpciciaaDoor
