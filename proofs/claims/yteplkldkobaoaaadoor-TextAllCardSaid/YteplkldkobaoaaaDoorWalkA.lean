/- Walks of the small functions. -/
import Derived.Test.YteplkldkobaoaaaDoorRows
import Derived.Test.YteplkldkobaoaaaDoorPure
import Derived.WalkKit
import Derived.WalkSpells
import Derived.WalkSmall
import Derived.WalkLawsBesides
import Derived.Outline
import Derived.Lib.Hide
namespace Go.Proofs.YteplkldkobaoaaaDoor
open Go.RowKit

def shortOf (s : ByteArray) : ByteArray := if 400 < s.size then s.extract 0 400 else s

theorem short_any (s : ByteArray) (w : World) (hs : s.size ≤ maxLen) :
    Calls Tryd.prog 6 #[.string s] w fun e w' => e = .returned (.string (shortOf s)) ∧ w = w' := by
  unfold maxLen at hs
  by_cases h : 400 < s.size
  · have e : shortOf s = s.extract 0 400 := if_pos h
    rw [e]; clear e
    go_enter Tryd.func6, Tryd.ntmps6
    go_wp2
    go_ret
    exact ⟨rfl, rfl⟩
  · have e : shortOf s = s := if_neg h
    rw [e]; clear e
    go_enter Tryd.func6, Tryd.ntmps6
    go_wp2
    go_ret
    exact ⟨rfl, rfl⟩

def blankB (r : Int) : Bool := r == 32 || r == 9

theorem blank_any (r : Int) (w : World) :
    Calls Tryd.prog 21 #[.int .i32 r] w fun e w' => e = .returned (.bool (blankB r)) ∧ w = w' := by
  go_enter Tryd.func21, Tryd.ntmps21
  go_wp2
  all_goals (go_ret; refine ⟨?_, rfl⟩; simp_all [blankB])

def digitB (r : Int) : Bool := decide (48 ≤ r) && decide (r ≤ 57)

theorem digit_any (r : Int) (w : World) :
    Calls Tryd.prog 20 #[.int .i32 r] w fun e w' => e = .returned (.bool (digitB r)) ∧ w = w' := by
  go_enter Tryd.func20, Tryd.ntmps20
  go_wp2
  all_goals (go_ret; refine ⟨?_, rfl⟩; simp_all [digitB]; try omega)

/-- Of a rune below 128 that is one byte, of whatever runes above. -/
theorem seg_plain {s : ByteArray} {pos r n : Nat} {seg : List UInt8} (h : Tx.Rune s pos r n seg) : Tx.plain seg = (decide (32 ≤ r) && decide (r ≤ 126)) := by
  by_cases hr : r < 128
  · obtain ⟨b, rfl, rfl⟩ := h.low hr
    simp [Tx.plain, Tx.plainB]
  · have hh := h.high (by omega)
    have : seg ≠ [] := fun e => by have := h.one; have := h.len; rw [e] at this; simp at this; omega
    obtain ⟨b, t, rfl⟩ := List.exists_cons_of_ne_nil this
    have hb := hh b (by simp)
    have e1 : decide (b.toNat ≤ 126) = false := decide_eq_false (by omega)
    have e2 : decide (r ≤ 126) = false := decide_eq_false (by omega)
    rw [Tx.plain, List.all_cons, Tx.plainB, e1, e2, Bool.and_false, Bool.and_false, Bool.false_and]

theorem plain_not {s : ByteArray} {pos r n : Nat} {seg : List UInt8} (h1 : Tx.plain (s.data.toList.take pos) = true) (h2 : Tx.plain seg = (decide (32 ≤ r) && decide (r ≤ 126))) (h : Tx.Rune s pos r n seg)
    (h3 : (decide (32 ≤ r) && decide (r ≤ 126)) = false) : Tx.plain s.data.toList = false := by
  have e : s.data.toList = s.data.toList.take (pos + n) ++ s.data.toList.drop (pos + n) := (List.take_append_drop _ _).symm
  rw [e, h.take, Tx.plain_app, Tx.plain_app, h1, h2, h3]
  rfl

theorem plain_any (s : ByteArray) (w : World) :
    Calls Tryd.prog 14 #[.string s] w fun e w' => e = .returned (.bool (Tx.plain s.data.toList)) ∧ Below w.heap.size w w' := by
  go_enter Tryd.func14, Tryd.ntmps14
  go_wp2
  go_loopw [] (fun w' => ∃ pos : Nat, w'.heap[w.heap.size]? = some (.stringIter s pos) ∧ pos ≤ s.size ∧ Tx.plain (s.data.toList.take pos) = true ∧ Below w.heap.size w w') (fun w' => s.size - w'.iterPos w.heap.size)
  case atStart => exact ⟨0, World.iter_heap _ _ _, Nat.zero_le _, rfl, (Below.refl _ _).alloc (Nat.le_refl _) _⟩
  case round =>
    obtain ⟨pos, hit, hp, hc, hb⟩ := hrel
    have HC := Lib.hid hc
    clear hc
    have hpos := iterPos_of hit
    by_cases hlt : pos < s.size
    · obtain ⟨r, n, seg, hR, hnx⟩ := Tx.next_rune (P := Tryd.prog) wr w.heap.size s pos hit hlt
      have HP := Lib.hid (seg_plain hR)
      have HN := Lib.hid hpos
      clear hpos
      by_cases h1 : 32 ≤ r
      · by_cases h2 : r ≤ 126
        · go_wp2
          go_roundw
          case rel =>
            refine ⟨pos + n, Lib.iterAt_heap _ _ _ _ _ hit, hR.fits, ?_, Lib.below_iterAt hb (Nat.le_refl _) _ _⟩
            rw [hR.take, Tx.plain_app, HC.out, HP.out]
            simp [h1, h2]
          case measure =>
            rw [iterPos_of (Lib.iterAt_heap _ _ _ _ _ hit), HN.out]
            have := hR.one; omega
        · go_wp2
          go_ret
          exact ⟨by rw [plain_not HC.out HP.out hR (by simp; omega)]; rfl, Lib.below_iterAt hb (Nat.le_refl _) _ _⟩
      · go_wp2
        go_ret
        exact ⟨by rw [plain_not HC.out HP.out hR (by simp; omega)]; rfl, Lib.below_iterAt hb (Nat.le_refl _) _ _⟩
    · have hnx := fun ty => Lib.run_next_end_at (P := Tryd.prog) wr w.heap.size s pos ty hit hlt
      have HN := Lib.hid hpos
      clear hpos
      go_wp2
      go_ret
      obtain rfl : pos = s.size := by omega
      refine ⟨?_, hb⟩
      have h := HC.out
      rw [Lib.size_eq, List.take_length] at h
      rw [h]
      rfl

/-- What a text's bytes are as a value. -/
def sv (l : List UInt8) : Value := .string ⟨l.toArray⟩

theorem info_str : (Tryd.prog.info? 9).map (fun i => (i.zero, i.size, i.bytes)) = some (some (.string ByteArray.empty), 1, 16) := by kernel_rfl

theorem low_blk {s : ByteArray} {pos r n : Nat} {seg : List UInt8} (h : Tx.Rune s pos r n seg) (hb : blankB r = true) : ∃ b, seg = [b] ∧ n = 1 ∧ Tx.blk b = true := by
  have hr : r < 128 := by simp [blankB] at hb; omega
  obtain ⟨b, rfl, rfl⟩ := h.low hr
  refine ⟨b, rfl, by have := h.len; simpa using this.symm, ?_⟩
  simp [blankB] at hb
  simp [Tx.blk]
  omega

theorem high_blk {s : ByteArray} {pos r n : Nat} {seg : List UInt8} (h : Tx.Rune s pos r n seg) (hb : blankB r = false) : ∀ b ∈ seg, Tx.blk b = false := by
  intro b hb2
  by_cases hr : r < 128
  · obtain ⟨c, rfl, rfl⟩ := h.low hr
    simp at hb2
    subst hb2
    simp [blankB] at hb
    simp [Tx.blk]
    omega
  · have := h.high (by omega) b hb2
    simp [Tx.blk]
    omega

end Go.Proofs.YteplkldkobaoaaaDoor
