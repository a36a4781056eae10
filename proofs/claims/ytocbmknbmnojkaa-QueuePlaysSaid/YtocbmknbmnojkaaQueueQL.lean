/- A queue as a law has it: its contracts, told from the world in which the law began. -/
import Derived.Test.YtocbmknbmnojkaaQueueLaw
import Derived.OpenShut
namespace Go.Proofs.Ytocbmknbmnojkaa
open Go.RowKit

/-- A text of bytes. -/
def kb (xs : List UInt8) : ByteArray := ⟨xs.toArray⟩
theorem kb_size (xs : List UInt8) : (kb xs).size = xs.length := rfl
theorem kb_append (xs ys : List UInt8) : kb (xs ++ ys) = kb xs ++ kb ys := by
  apply ByteArray.ext
  simp [kb, ByteArray.data_append]
theorem kb_inj {xs ys : List UInt8} (h : kb xs = kb ys) : xs = ys := by
  have := congrArg (fun b : ByteArray => b.data.toList) h
  simpa [kb] using this
/-- 'string(b)'. -/
theorem str_of {w : World} {v : Value} {xs : List UInt8} (h : Rd w v (xs.map bv)) {K : ByteArray} (hK : K = kb xs) : (convert 28 9 v).run Try.prog w = .ok (.string K) w := by
  rw [hK]
  exact bytes_string h

/-- A queue, where below the law's beginning nothing has turned. -/
structure QL (W : World) (g : Nat) (s : Value) (most : Int) (xs : List UInt8) (t : Nat) (wr : World) : Prop where
  q : QO wr W.heap.size g s most xs t
  below : Below W.heap.size W wr
section
variable {W wr w' : World} {g t : Nat} {s : Value} {most : Int} {xs : List UInt8}
theorem QL.next (h : QL W g s most xs t wr) (hb : Below wr.heap.size wr w') : QL W g s most xs t w' := ⟨h.q.next hb, h.below.trans (hb.mono h.below.size)⟩
theorem QL.turn (h : QL W g s most xs t wr) (hT : Turn g s wr w') : Below W.heap.size W w' := h.q.below_of hT h.below (Nat.le_refl _)
theorem QL.drew (h : QL W g s most xs t wr) : QL W g s most xs t wr.drew := h.next ((Below.refl _ _).drew)

theorem QL.new (hb : Below W.heap.size W wr) (m : Int) (hm : m < 9223372036854775808) (h0 : 0 ≤ m) :
    Calls Try.prog 9 #[.int .i64 m] wr fun e w' => ∃ g, e = .returned (.pointer (some ⟨g, 0, none⟩)) ∧ QL W g (.slice none 0 0) m [] 0 w' := by
  refine (new_any m hm wr).mono ?_
  rintro e w' ⟨rfl, h1, h2⟩
  rw [show max 0 m = m by omega] at h2
  exact ⟨_, rfl, h2.lower hb.size, hb.trans (h1.mono hb.size)⟩
theorem QL.len (h : QL W g s most xs t wr) {D : Nat} (hD : D = xs.length - t) : Calls Try.prog 17 #[.pointer (some ⟨g, 0, none⟩)] wr fun e w' => e = .returned (.int .i64 (D : Int)) ∧ QL W g s most xs t w' := by
  refine (len_any h.q).mono ?_
  rintro e w' ⟨rfl, hb⟩
  exact ⟨by rw [hD], h.next hb⟩
theorem QL.total (h : QL W g s most xs t wr) {L : Nat} (hL : L = xs.length) : Calls Try.prog 18 #[.pointer (some ⟨g, 0, none⟩)] wr fun e w' => e = .returned (.int .i64 (L : Int)) ∧ QL W g s most xs t w' := by
  refine (total_any h.q).mono ?_
  rintro e w' ⟨rfl, rfl⟩
  exact ⟨by rw [hL], h⟩
theorem QL.all (h : QL W g s most xs t wr) {K : ByteArray} (hK : K = kb xs) {n : Nat} (hn : n = xs.length) : Calls Try.prog 21 #[.pointer (some ⟨g, 0, none⟩)] wr fun e w' => ∃ xo xc, e = .returned (.slice xo n xc) ∧
    (convert 28 9 (.slice xo n xc)).run Try.prog w' = .ok (.string K) w' ∧ QL W g s most xs t w' := by
  refine (all_any h.q).mono ?_
  rintro e w' ⟨v, rfl, hb, hf⟩
  obtain ⟨xo, xc, rfl⟩ := hf.form
  rw [hn]
  exact ⟨xo, xc, rfl, str_of hf.rd hK, h.next hb⟩
theorem QL.taken (h : QL W g s most xs t wr) {K : ByteArray} (hK : K = kb (xs.take t)) {n : Nat} (hn : n = t) : Calls Try.prog 19 #[.pointer (some ⟨g, 0, none⟩)] wr fun e w' => ∃ xo xc, e = .returned (.slice xo n xc) ∧
    (convert 28 9 (.slice xo n xc)).run Try.prog w' = .ok (.string K) w' ∧ QL W g s most xs t w' := by
  refine (taken_any h.q).mono ?_
  rintro e w' ⟨v, rfl, hb, hf⟩
  obtain ⟨xo, xc, rfl⟩ := hf.form
  have e1 : (xs.take t).length = t := by rw [List.length_take]; have := h.q.ht; omega
  rw [hn]
  refine ⟨xo, xc, by rw [e1], ?_, h.next hb⟩
  have := str_of hf.rd hK
  rwa [e1] at this
theorem QL.take (h : QL W g s most xs t wr) (n : Int) {k : Nat} (hk : k = min (max n 0).toNat (xs.length - t)) {K : ByteArray} (hK : K = kb ((xs.drop t).take k)) : Calls Try.prog 14 #[.pointer (some ⟨g, 0, none⟩), .int .i64 n] wr fun e w' => ∃ xo xc, e = .returned (.slice xo k xc) ∧
    (convert 28 9 (.slice xo k xc)).run Try.prog w' = .ok (.string K) w' ∧ QL W g s most xs (t + k) w' := by
  refine (take_any h.q n k hk).mono ?_
  rintro e w' ⟨v, rfl, hq, hT, hf⟩
  obtain ⟨xo, xc, rfl⟩ := hf.form
  have e1 : ((xs.drop t).take k).length = k := by rw [List.length_take, List.length_drop]; omega
  refine ⟨xo, xc, by rw [e1], ?_, hq, h.turn hT⟩
  have := str_of hf.rd hK
  rwa [e1] at this
theorem QL.takeF (h : QL W g s most xs t wr) (n : Int) {k : Nat} (hk : k = min (max n 0).toNat (xs.length - t)) {zs : List UInt8} (hz : zs = (xs.drop t).take k) : Calls Try.prog 14 #[.pointer (some ⟨g, 0, none⟩), .int .i64 n] wr fun e w' => ∃ xo xc, e = .returned (.slice xo k xc) ∧
    Fr w' wr.heap.size (.slice xo k xc) zs ∧ QL W g s most xs (t + k) w' ∧ Turn g s wr w' := by
  refine (take_any h.q n k hk).mono ?_
  rintro e w' ⟨v, rfl, hq, hT, hf⟩
  obtain ⟨xo, xc, rfl⟩ := hf.form
  have e1 : ((xs.drop t).take k).length = k := by rw [List.length_take, List.length_drop]; omega
  rw [e1] at hf
  exact ⟨xo, xc, by rw [e1], by rw [hz]; exact hf, ⟨hq, h.turn hT⟩, hT⟩
theorem QL.full (h : QL W g s most xs t wr) (v : Value) (ys : List UInt8) (hr : Rd wr v (ys.map bv)) (hys : ys.length ≤ 1000) (hfull : most < ((xs.length + ys.length : Nat) : Int)) :
    Calls Try.prog 11 #[.pointer (some ⟨g, 0, none⟩), v] wr fun e w' => e = .returned (.bool false) ∧ QL W g s most xs t w' := by
  refine (put_full h.q v ys hr (by unfold maxLen; omega) hfull).mono ?_
  rintro e w' ⟨rfl, hb⟩
  exact ⟨rfl, h.next hb⟩
theorem QL.put (h : QL W g s most xs t wr) (v : Value) (ys : List UInt8) (hr : Rd wr v (ys.map bv)) (hys : xs.length + ys.length ≤ 16777216) (hroom : ((xs.length + ys.length : Nat) : Int) ≤ most) :
    Calls Try.prog 11 #[.pointer (some ⟨g, 0, none⟩), v] wr fun e w' => ∃ s', e = .returned (.bool true) ∧ QL W g s' most (xs ++ ys) t w' := by
  refine (put_room h.q v ys hr hys hroom h.below.size).mono ?_
  rintro e w' ⟨s', rfl, hq, hT, _⟩
  exact ⟨s', rfl, hq, h.turn hT⟩
end
end Go.Proofs.Ytocbmknbmnojkaa
