/- The digest of P3.1, over natural numbers, and letters of bytes: plain facts, of no program. -/
import Derived.WalkKit
import Derived.Lib.Strings
namespace Go.Proofs.YtjogdflhpciciaaDoor
namespace Md5

def ks : List Nat := [3614090360, 3905402710, 606105819, 3250441966, 4118548399, 1200080426, 2821735955, 4249261313, 1770035416, 2336552879, 4294925233, 2304563134, 1804603682, 4254626195, 2792965006, 1236535329,
  4129170786, 3225465664, 643717713, 3921069994, 3593408605, 38016083, 3634488961, 3889429448, 568446438, 3275163606, 4107603335, 1163531501, 2850285829, 4243563512, 1735328473, 2368359562,
  4294588738, 2272392833, 1839030562, 4259657740, 2763975236, 1272893353, 4139469664, 3200236656, 681279174, 3936430074, 3572445317, 76029189, 3654602809, 3873151461, 530742520, 3299628645,
  4096336452, 1126891415, 2878612391, 4237533241, 1700485571, 2399980690, 4293915773, 2240044497, 1873313359, 4264355552, 2734768916, 1309151649, 4149444226, 3174756917, 718787259, 3951481745]
def ss : List Nat := [7, 12, 17, 22, 5, 9, 14, 20, 4, 11, 16, 23, 6, 10, 15, 21]

/-- A word turned to the left. -/
def rot (x s : Nat) : Nat := x * 2 ^ s % 4294967296 ||| x / 2 ^ (32 - s)
/-- A word with each bit turned. -/
def inv (x : Nat) : Nat := 4294967295 - x
def mixF (i b c d : Nat) : Nat :=
  if i / 16 = 0 then (b &&& c) ||| (inv b &&& d) else if i / 16 = 1 then (d &&& b) ||| (inv d &&& c) else if i / 16 = 2 then (b ^^^ c) ^^^ d else c ^^^ (b ||| inv d)
def mixG (i : Nat) : Nat :=
  if i / 16 = 0 then i else if i / 16 = 1 then (5 * i + 1) % 16 else if i / 16 = 2 then (3 * i + 5) % 16 else 7 * i % 16
/-- The word of four bytes, the lowest first. -/
def word (l : List UInt8) (p : Nat) : Nat := (l.getD p 0).toNat + (l.getD (p + 1) 0).toNat * 256 + (l.getD (p + 2) 0).toNat * 65536 + (l.getD (p + 3) 0).toNat * 16777216

structure St where
  a : Nat
  b : Nat
  c : Nat
  d : Nat

/-- One of the 64 steps over the bytes from p on. -/
def step (l : List UInt8) (p i : Nat) (s : St) : St :=
  ⟨s.d, (s.b + rot ((s.a + mixF i s.b s.c s.d + ks.getD i 0 + word l (p + 4 * mixG i)) % 4294967296) (ss.getD (i / 16 * 4 + i % 4) 0)) % 4294967296, s.b, s.c⟩
/-- The first k steps. -/
def steps (l : List UInt8) (p : Nat) : Nat → St → St
  | 0, s => s
  | k + 1, s => step l p k (steps l p k s)
def block (l : List UInt8) (p : Nat) (s : St) : St :=
  let t := steps l p 64 s
  ⟨(s.a + t.a) % 4294967296, (s.b + t.b) % 4294967296, (s.c + t.c) % 4294967296, (s.d + t.d) % 4294967296⟩
def start : St := ⟨1732584193, 4023233417, 2562383102, 271733878⟩
/-- The first k blocks. -/
def blocks (l : List UInt8) : Nat → St
  | 0 => start
  | k + 1 => block l (64 * k) (blocks l k)

def zeros (n : Nat) : Nat := (119 - n % 64) % 64
def bitsOf (n : Nat) : List UInt8 := (List.range 8).map fun i => UInt8.ofNat (n * 8 % 18446744073709551616 / 2 ^ (8 * i))
def padded (l : List UInt8) : List UInt8 := l ++ [128] ++ List.replicate (zeros l.length) 0 ++ bitsOf l.length

def bytes (s : St) : List UInt8 := (List.range 16).map fun i => UInt8.ofNat ((if i / 4 = 0 then s.a else if i / 4 = 1 then s.b else if i / 4 = 2 then s.c else s.d) / 2 ^ (8 * (i % 4)))
def sum (l : List UInt8) : List UInt8 := bytes (blocks (padded l) ((padded l).length / 64))

structure Ok (s : St) : Prop where
  a : s.a < 4294967296
  b : s.b < 4294967296
  c : s.c < 4294967296
  d : s.d < 4294967296

theorem ok_step {l : List UInt8} {p i : Nat} {s : St} (h : Ok s) : Ok (step l p i s) := ⟨h.d, Nat.mod_lt _ (by decide), h.b, h.c⟩
theorem ok_steps {l : List UInt8} {p : Nat} {s : St} (h : Ok s) : ∀ k, Ok (steps l p k s)
  | 0 => h
  | k + 1 => ok_step (ok_steps h k)
theorem ok_block {l : List UInt8} {p : Nat} {s : St} : Ok (block l p s) := ⟨Nat.mod_lt _ (by decide), Nat.mod_lt _ (by decide), Nat.mod_lt _ (by decide), Nat.mod_lt _ (by decide)⟩
theorem ok_blocks {l : List UInt8} : ∀ k, Ok (blocks l k)
  | 0 => ⟨(by decide : (1732584193 : Nat) < 4294967296), (by decide : (4023233417 : Nat) < 4294967296), (by decide : (2562383102 : Nat) < 4294967296), (by decide : (271733878 : Nat) < 4294967296)⟩
  | _ + 1 => ok_block

theorem padded_len (l : List UInt8) : (padded l).length % 64 = 0 ∧ (padded l).length = l.length + 9 + zeros l.length := by
  simp only [padded, zeros, bitsOf, List.length_append, List.length_cons, List.length_nil, List.length_replicate, List.length_map, List.length_range]
  omega

theorem sum_len (l : List UInt8) : (sum l).length = 16 := by simp [sum, bytes]

/-- Two letters for a byte, the higher half first. -/
def hl (n : Nat) : UInt8 := ([48, 49, 50, 51, 52, 53, 54, 55, 56, 57, 97, 98, 99, 100, 101, 102] : List UInt8).getD n 0
def hex : List UInt8 → List UInt8
  | [] => []
  | b :: r => hl (b.toNat / 16) :: hl (b.toNat % 16) :: hex r
/-- The number of a letter, -1 for what is none. -/
def half (c : UInt8) : Int := if 48 ≤ c.toNat ∧ c.toNat ≤ 57 then (c.toNat : Int) - 48 else if 97 ≤ c.toNat ∧ c.toNat ≤ 102 then (c.toNat : Int) - 97 + 10 else -1

theorem all_bytes {p : UInt8 → Prop} (h : ∀ n : Fin 256, p (UInt8.ofNat n.val)) (c : UInt8) : p c := by
  have := h ⟨c.toNat, c.toNat_lt⟩
  simpa using this
theorem half_hl : ∀ n : Fin 16, half (hl n.val) = n.val := by decide +kernel
theorem half_of {n : Nat} (h : n < 16) : half (hl n) = n := half_hl ⟨n, h⟩
theorem hl_half (c : UInt8) : half c < 0 ∨ ∃ n : Fin 16, half c = n.val ∧ hl n.val = c :=
  all_bytes (p := fun c => half c < 0 ∨ ∃ n : Fin 16, half c = n.val ∧ hl n.val = c) (by decide +kernel) c
theorem half_small (c : UInt8) : -1 ≤ half c ∧ half c ≤ 15 := by
  unfold half
  split
  · omega
  · split <;> omega

theorem hex_len : ∀ l : List UInt8, (hex l).length = 2 * l.length
  | [] => rfl
  | b :: r => by simp only [hex, List.length_cons, hex_len r]; omega
theorem hex_app : ∀ a b : List UInt8, hex (a ++ b) = hex a ++ hex b
  | [], _ => rfl
  | x :: a, b => by simp only [List.cons_append, hex, hex_app a b]

/-- The bytes that letters say, or none. -/
def unhex : List UInt8 → Option (List UInt8)
  | [] => some []
  | [_] => none
  | a :: b :: r => if half a < 0 ∨ half b < 0 then none else (unhex r).map fun l => UInt8.ofNat ((half a).toNat * 16 + (half b).toNat) :: l

theorem unhex_hex : ∀ l : List UInt8, unhex (hex l) = some l
  | [] => rfl
  | b :: r => by
    have hb := b.toNat_lt
    have h1 := half_of (n := b.toNat / 16) (by omega)
    have h2 := half_of (n := b.toNat % 16) (by omega)
    rw [hex, unhex, h1, h2, if_neg (by omega), unhex_hex r]
    have e : UInt8.ofNat ((b.toNat / 16) * 16 + b.toNat % 16) = b := by
      rw [← UInt8.toNat_inj, UInt8.toNat_ofNat']; simp; omega
    rw [Option.map_some, Int.toNat_natCast, Int.toNat_natCast, e]

theorem hex_unhex : ∀ (s l : List UInt8), unhex s = some l → hex l = s
  | [], l, h => by cases h; rfl
  | [_], l, h => by cases h
  | a :: b :: r, l, h => by
    rw [unhex] at h
    split at h
    · cases h
    · rename_i hn
      cases hr : unhex r with
      | none => rw [hr] at h; cases h
      | some t =>
        rw [hr] at h
        have e : l = UInt8.ofNat ((half a).toNat * 16 + (half b).toNat) :: t := by simpa using h.symm
        rcases hl_half a with h1 | ⟨n, h1, h2⟩
        · exact absurd (Or.inl h1) hn
        rcases hl_half b with h3 | ⟨m, h3, h4⟩
        · exact absurd (Or.inr h3) hn
        have hx : (UInt8.ofNat ((half a).toNat * 16 + (half b).toNat)).toNat = n.val * 16 + m.val := by
          rw [h1, h3, UInt8.toNat_ofNat']
          have := n.isLt; have := m.isLt
          simp; omega
        rw [e, hex, hx, hex_unhex r t hr, show (n.val * 16 + m.val) / 16 = n.val by have := m.isLt; omega, show (n.val * 16 + m.val) % 16 = m.val by have := m.isLt; omega, h2, h4]

theorem hex_inj {a b : List UInt8} (h : hex a = hex b) : a = b := by
  have := unhex_hex a
  rw [h, unhex_hex b] at this
  exact (Option.some.inj this).symm

theorem unhex_iff {s l : List UInt8} : unhex s = some l ↔ hex l = s :=
  ⟨hex_unhex s l, fun h => by rw [← h]; exact unhex_hex l⟩
theorem unhex_no {s : List UInt8} (h : unhex s = none) : ∀ b, hex b ≠ s := fun b hb => by rw [unhex_iff.2 hb] at h; cases h
theorem hex_odd {s : List UInt8} (h : s.length % 2 = 1) : ∀ b, hex b ≠ s := fun b hb => by
  rw [← hb, hex_len] at h
  omega

theorem hex_letters : ∀ (l : List UInt8), ∀ c ∈ hex l, 0 ≤ half c
  | [], c, h => by cases h
  | b :: r, c, h => by
    have hb := b.toNat_lt
    rw [hex] at h
    rcases List.mem_cons.1 h with rfl | h
    · rw [half_of (by omega)]; omega
    rcases List.mem_cons.1 h with rfl | h
    · rw [half_of (by omega)]; omega
    exact hex_letters r c h

theorem unhex_some : ∀ (s : List UInt8), s.length % 2 = 0 → (∀ c ∈ s, 0 ≤ half c) → ∃ l, hex l = s
  | [], _, _ => ⟨[], rfl⟩
  | [_], h, _ => by simp at h
  | a :: b :: r, h, hc => by
    obtain ⟨l, hl⟩ := unhex_some r (by simp at h; omega) (fun c hm => hc c (by simp [hm]))
    have ha := hc a (by simp)
    have hb := hc b (by simp)
    refine ⟨UInt8.ofNat ((half a).toNat * 16 + (half b).toNat) :: l, hex_unhex _ _ ?_⟩
    rw [unhex, if_neg (by omega), unhex_iff.2 hl]
    rfl

/-- One letter of written bytes put in another's place: it says bytes, if it is a letter, and otherwise none. -/
theorem hex_turned {b : List UInt8} {i : Nat} {c : UInt8} (hi : i < (hex b).length) :
    (0 ≤ half c ∧ ∃ l, hex l = (hex b).take i ++ [c] ++ (hex b).drop (i + 1)) ∨ (half c < 0 ∧ ∀ l, hex l ≠ (hex b).take i ++ [c] ++ (hex b).drop (i + 1)) := by
  by_cases hc : half c < 0
  · right
    refine ⟨hc, fun l hl => ?_⟩
    have := hex_letters l c (by rw [hl]; simp)
    omega
  · left
    refine ⟨by omega, unhex_some _ ?_ ?_⟩
    · have := hex_len b
      simp only [List.length_append, List.length_take, List.length_drop, List.length_cons, List.length_nil]
      omega
    · intro d hd
      rcases List.mem_append.1 hd with hd | hd
      · rcases List.mem_append.1 hd with hd | hd
        · exact hex_letters b d (List.mem_of_mem_take hd)
        · simp at hd
          subst hd
          omega
      · exact hex_letters b d (List.mem_of_mem_drop hd)

theorem sum_none : hex (sum []) = [100, 52, 49, 100, 56, 99, 100, 57, 56, 102, 48, 48, 98, 50, 48, 52, 101, 57, 56, 48, 48, 57, 57, 56, 101, 99, 102, 56, 52, 50, 55, 101] := by decide +kernel
theorem sum_abc : hex (sum [97, 98, 99]) = [57, 48, 48, 49, 53, 48, 57, 56, 51, 99, 100, 50, 52, 102, 98, 48, 100, 54, 57, 54, 51, 102, 55, 100, 50, 56, 101, 49, 55, 102, 55, 50] := by decide +kernel
theorem sum_eighty : hex (sum (List.replicate 8 [49, 50, 51, 52, 53, 54, 55, 56, 57, 48]).flatten) = [53, 55, 101, 100, 102, 52, 97, 50, 50, 98, 101, 51, 99, 57, 53, 53, 97, 99, 52, 57, 100, 97, 50, 101, 50, 49, 48, 55, 98, 54, 55, 97] := by decide +kernel

end Md5
end Go.Proofs.YtjogdflhpciciaaDoor
