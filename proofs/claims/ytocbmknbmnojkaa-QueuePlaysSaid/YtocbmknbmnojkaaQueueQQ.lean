/- Two queues, each apart from the other. -/
import Derived.Test.YtocbmknbmnojkaaQueueQL
namespace Go.Proofs.Ytocbmknbmnojkaa
open Go.RowKit

/-- Two queues' blocks and rows have nothing of each other. -/
structure Ap (g : Nat) (s : Value) (g2 : Nat) (s2 : Value) : Prop where
  a : g ≠ g2
  b : s2.ownBlock ≠ some g
  c : s.ownBlock ≠ some g2
  d : s.ownBlock = none ∨ s.ownBlock ≠ s2.ownBlock
theorem Ap.swap {g g2 : Nat} {s s2 : Value} (h : Ap g s g2 s2) : Ap g2 s2 g s := ⟨h.a.symm, h.c, h.b, by
  rcases h.d with e | e
  · cases h2 : s2.ownBlock
    · exact .inl rfl
    · rw [e]; exact .inr (by simp)
  · exact .inr e.symm⟩

structure QQ (W : World) (g : Nat) (s : Value) (m : Int) (xs : List UInt8) (t : Nat) (g2 : Nat) (s2 : Value) (m2 : Int) (ys : List UInt8) (u : Nat) (wr : World) : Prop where
  q : QO wr W.heap.size g s m xs t
  c : QO wr W.heap.size g2 s2 m2 ys u
  ap : Ap g s g2 s2
  below : Below W.heap.size W wr
section
variable {W wr w' : World} {g g2 t u : Nat} {s s2 : Value} {m m2 : Int} {xs ys : List UInt8}
theorem QQ.swap (h : QQ W g s m xs t g2 s2 m2 ys u wr) : QQ W g2 s2 m2 ys u g s m xs t wr := ⟨h.c, h.q, h.ap.swap, h.below⟩
theorem QQ.one (h : QQ W g s m xs t g2 s2 m2 ys u wr) : QL W g s m xs t wr := ⟨h.q, h.below⟩
theorem QQ.next (h : QQ W g s m xs t g2 s2 m2 ys u wr) (hb : Below wr.heap.size wr w') : QQ W g s m xs t g2 s2 m2 ys u w' := ⟨h.q.next hb, h.c.next hb, h.ap, h.below.trans (hb.mono h.below.size)⟩
theorem QQ.turn (h : QQ W g s m xs t g2 s2 m2 ys u wr) (hT : Turn g s wr w') : QO w' W.heap.size g2 s2 m2 ys u ∧ Below W.heap.size W w' :=
  ⟨h.c.apart hT h.ap.a.symm h.ap.c h.ap.b h.ap.swap.d, h.one.turn hT⟩
theorem QQ.len (h : QQ W g s m xs t g2 s2 m2 ys u wr) {D : Nat} (hD : D = xs.length - t) : Calls Try.prog 17 #[.pointer (some ⟨g, 0, none⟩)] wr fun e w' => e = .returned (.int .i64 (D : Int)) ∧ QQ W g s m xs t g2 s2 m2 ys u w' := by
  refine (len_any h.q).mono ?_
  rintro e w' ⟨rfl, hb⟩
  exact ⟨by rw [hD], h.next hb⟩
theorem QQ.all (h : QQ W g s m xs t g2 s2 m2 ys u wr) {K : ByteArray} (hK : K = kb xs) {n : Nat} (hn : n = xs.length) : Calls Try.prog 21 #[.pointer (some ⟨g, 0, none⟩)] wr fun e w' => ∃ xo xc, e = .returned (.slice xo n xc) ∧
    (convert 28 9 (.slice xo n xc)).run Try.prog w' = .ok (.string K) w' ∧ QQ W g s m xs t g2 s2 m2 ys u w' := by
  refine (all_any h.q).mono ?_
  rintro e w' ⟨v, rfl, hb, hf⟩
  obtain ⟨xo, xc, rfl⟩ := hf.form
  rw [hn]
  exact ⟨xo, xc, rfl, str_of hf.rd hK, h.next hb⟩
theorem QQ.take (h : QQ W g s m xs t g2 s2 m2 ys u wr) (n : Int) {k : Nat} (hk : k = min (max n 0).toNat (xs.length - t)) {K : ByteArray} (hK : K = kb ((xs.drop t).take k)) : Calls Try.prog 14 #[.pointer (some ⟨g, 0, none⟩), .int .i64 n] wr fun e w' => ∃ xo xc, e = .returned (.slice xo k xc) ∧
    (convert 28 9 (.slice xo k xc)).run Try.prog w' = .ok (.string K) w' ∧ QQ W g s m xs (t + k) g2 s2 m2 ys u w' := by
  refine (take_any h.q n k hk).mono ?_
  rintro e w' ⟨v, rfl, hq, hT, hf⟩
  obtain ⟨xo, xc, rfl⟩ := hf.form
  have e1 : ((xs.drop t).take k).length = k := by rw [List.length_take, List.length_drop]; omega
  refine ⟨xo, xc, by rw [e1], ?_, hq, (h.turn hT).1, h.ap, (h.turn hT).2⟩
  have := str_of hf.rd hK
  rwa [e1] at this
theorem QQ.full (h : QQ W g s m xs t g2 s2 m2 ys u wr) (v : Value) (zs : List UInt8) (hr : Rd wr v (zs.map bv)) (hys : zs.length ≤ 1000) (hfull : m < ((xs.length + zs.length : Nat) : Int)) :
    Calls Try.prog 11 #[.pointer (some ⟨g, 0, none⟩), v] wr fun e w' => e = .returned (.bool false) ∧ QQ W g s m xs t g2 s2 m2 ys u w' := by
  refine (put_full h.q v zs hr (by unfold maxLen; omega) hfull).mono ?_
  rintro e w' ⟨rfl, hb⟩
  exact ⟨rfl, h.next hb⟩
theorem QQ.put (h : QQ W g s m xs t g2 s2 m2 ys u wr) (v : Value) (zs : List UInt8) (hr : Rd wr v (zs.map bv)) (hys : xs.length + zs.length ≤ 16777216) (hroom : ((xs.length + zs.length : Nat) : Int) ≤ m) :
    Calls Try.prog 11 #[.pointer (some ⟨g, 0, none⟩), v] wr fun e w' => ∃ s', e = .returned (.bool true) ∧ QQ W g s' m (xs ++ zs) t g2 s2 m2 ys u w' := by
  refine (put_room h.q v zs hr hys hroom h.below.size).mono ?_
  rintro e w' ⟨s', rfl, hq, hT, hs⟩
  have h1 := h.c.lt
  have h2 := h.c.slt
  refine ⟨s', rfl, hq, (h.turn hT).1, ⟨h.ap.a, h.ap.b, ?_, ?_⟩, (h.turn hT).2⟩
  · rcases hs with e | e
    · rw [e]; exact h.ap.c
    · rw [e]
      intro e
      cases e
      omega
  · rcases hs with e | e
    · rw [e]; exact h.ap.d
    · rw [e]
      refine .inr fun e => ?_
      have := h2 _ e.symm
      omega
/-- 'Clone'. -/
theorem QL.clone (h : QL W g s m xs t wr) : Calls Try.prog 16 #[.pointer (some ⟨g, 0, none⟩)] wr fun e w' => ∃ g2 s2, e = .returned (.pointer (some ⟨g2, 0, none⟩)) ∧ QQ W g s m xs t g2 s2 m xs t w' := by
  refine (clone_any h.q).mono ?_
  rintro e w' ⟨g2, s2, rfl, hq, hb⟩
  have h1 := h.q.lt
  have h2 := h.q.slt
  have h3 := hq.hg
  have h4 := hq.slt
  refine ⟨g2, s2, rfl, h.q.next hb, hq.lower h.below.size, ⟨by omega, fun e => ?_, fun e => ?_, ?_⟩, h.below.trans (hb.mono h.below.size)⟩
  · have := (h4 _ e).1
    omega
  · have := (h2 _ e).2
    omega
  · cases hs : s.ownBlock with
    | none => exact .inl rfl
    | some k =>
      refine .inr fun e => ?_
      have := (h2 _ hs).2
      have := (h4 _ e.symm).1
      omega
end
end Go.Proofs.Ytocbmknbmnojkaa
