/- A queue and the reference's one, apart from each other, with a block that neither has. -/
import Derived.Test.YtocbmknbmnojkaaQueueQQ
import Derived.Test.YtocbmknbmnojkaaQueueRefTake
namespace Go.Proofs.Ytocbmknbmnojkaa
open Go.RowKit

structure PL (W : World) (m : Int) (g : Nat) (s : Value) (xs : List UInt8) (t gy : Nat) (sy : Value) (ys : List UInt8) (u : Nat) (wr : World) : Prop where
  q : QO wr W.heap.size g s m xs t
  y : RO wr W.heap.size gy sy m ys u
  ap : Ap g s gy sy
  below : Below W.heap.size W wr
section
variable {W wr w' : World} {g gy t u : Nat} {s sy : Value} {m : Int} {xs ys : List UInt8}
theorem PL.next (h : PL W m g s xs t gy sy ys u wr) (hb : Below wr.heap.size wr w') : PL W m g s xs t gy sy ys u w' := ⟨h.q.next hb, h.y.next hb, h.ap, h.below.trans (hb.mono h.below.size)⟩
theorem PL.one (h : PL W m g s xs t gy sy ys u wr) : QL W g s m xs t wr := ⟨h.q, h.below⟩
theorem PL.drew (h : PL W m g s xs t gy sy ys u wr) : PL W m g s xs t gy sy ys u wr.drew := h.next ((Below.refl _ _).drew)

theorem PL.put (h : PL W m g s xs t gy sy ys u wr) (v : Value) (zs : List UInt8) (hr : Rd wr v (zs.map bv)) (hys : xs.length + zs.length ≤ 16777216) (hroom : ((xs.length + zs.length : Nat) : Int) ≤ m) :
    Calls Try.prog 11 #[.pointer (some ⟨g, 0, none⟩), v] wr fun e w' => ∃ s', e = .returned (.bool true) ∧ PL W m g s' (xs ++ zs) t gy sy ys u w' ∧ Turn g s wr w' := by
  refine (put_room h.q v zs hr hys hroom h.below.size).mono ?_
  rintro e w' ⟨s', rfl, hq, hT, hs⟩
  have h1 := h.y.lt
  have h2 := h.y.slt
  refine ⟨s', rfl, ⟨hq, h.y.apart hT h.ap.a.symm h.ap.c h.ap.b h.ap.swap.d, ⟨h.ap.a, h.ap.b, ?_, ?_⟩, h.one.turn hT⟩, hT⟩
  · rcases hs with e | e
    · rw [e]; exact h.ap.c
    · rw [e]
      intro e
      cases e
      omega
  · rcases hs with e | e
    · rw [e]; exact h.ap.d
    · rw [e]
      refine .inr fun e => ?_
      have := h2 _ e.symm
      omega
theorem PL.full (h : PL W m g s xs t gy sy ys u wr) (v : Value) (zs : List UInt8) (hr : Rd wr v (zs.map bv)) (hys : zs.length ≤ 1000) (hfull : m < ((xs.length + zs.length : Nat) : Int)) :
    Calls Try.prog 11 #[.pointer (some ⟨g, 0, none⟩), v] wr fun e w' => e = .returned (.bool false) ∧ PL W m g s xs t gy sy ys u w' ∧ Turn g s wr w' := by
  refine (put_full h.q v zs hr (by unfold maxLen; omega) hfull).mono ?_
  rintro e w' ⟨rfl, hb⟩
  exact ⟨rfl, h.next hb, .of_below hb⟩
theorem PL.rput (h : PL W m g s xs t gy sy ys u wr) (v : Value) (zs : List UInt8) (hr : Rd wr v (zs.map bv)) (hys : ys.length + zs.length ≤ 16777216) (hroom : ((ys.length + zs.length : Nat) : Int) ≤ m) :
    Calls Try.prog 13 #[.pointer (some ⟨gy, 0, none⟩), v] wr fun e w' => ∃ s', e = .returned (.bool true) ∧ PL W m g s xs t gy s' (ys ++ zs) u w' := by
  refine (rput_any h.y v zs hr hys hroom h.below.size).mono ?_
  rintro e w' ⟨s', rfl, hq, hT, hs⟩
  have h1 := h.q.lt
  have h2 := h.q.slt
  have hn : s.ownBlock = none ∨ s.ownBlock ≠ (Value.slice none 0 0).ownBlock := by
    cases hs : s.ownBlock with
    | none => exact .inl rfl
    | some k => exact .inr (fun e => by cases e)
  refine ⟨s', rfl, ⟨h.q.apart hT h.ap.a (fun e => by cases e) h.ap.c hn, hq, ⟨h.ap.a, fun e => ?_, h.ap.c, ?_⟩, h.below.trans (hT.below (Nat.le_trans (Nat.le_refl _) h.y.hg) (fun k e => by cases e) h.below.size)⟩⟩
  · have := hs _ e
    omega
  · cases hso : s.ownBlock with
    | none => exact .inl rfl
    | some k =>
      refine .inr fun e => ?_
      have := hs _ e.symm
      have := (h2 _ hso).2
      omega
theorem PL.rfull (h : PL W m g s xs t gy sy ys u wr) (v : Value) (zs : List UInt8) (hr : Rd wr v (zs.map bv)) (hfull : m < ((ys.length + zs.length : Nat) : Int)) :
    Calls Try.prog 13 #[.pointer (some ⟨gy, 0, none⟩), v] wr fun e w' => e = .returned (.bool false) ∧ PL W m g s xs t gy sy ys u w' := by
  refine (rfull_any h.y v zs hr hfull).mono ?_
  rintro e w' ⟨rfl, hb⟩
  exact ⟨rfl, h.next hb⟩
theorem PL.take (h : PL W m g s xs t gy sy ys u wr) (n : Int) {k : Nat} (hk : k = min (max n 0).toNat (xs.length - t)) {zs : List UInt8} (hz : zs = (xs.drop t).take k) : Calls Try.prog 14 #[.pointer (some ⟨g, 0, none⟩), .int .i64 n] wr fun e w' => ∃ xo xc, e = .returned (.slice xo k xc) ∧
    Fr w' wr.heap.size (.slice xo k xc) zs ∧ PL W m g s xs (t + k) gy sy ys u w' ∧ Turn g s wr w' := by
  refine (h.one.takeF n hk hz).mono ?_
  rintro e w' ⟨xo, xc, rfl, hf, hq, hT⟩
  exact ⟨xo, xc, rfl, hf, ⟨hq.q, h.y.apart hT h.ap.a.symm h.ap.c h.ap.b h.ap.swap.d, h.ap, hq.below⟩, hT⟩
theorem PL.rtake (h : PL W m g s xs t gy sy ys u wr) (n : Int) {k : Nat} (hk : k = min (max n 0).toNat (ys.length - u)) {zs : List UInt8} (hz : zs = (ys.drop u).take k) : Calls Try.prog 15 #[.pointer (some ⟨gy, 0, none⟩), .int .i64 n] wr fun e w' => ∃ xo xc, e = .returned (.slice xo k xc) ∧
    Rd w' (.slice xo k xc) (zs.map bv) ∧ PL W m g s xs t gy sy ys (u + k) w' ∧ Turn gy (.slice none 0 0) wr w' := by
  refine (rtake_any h.y n k hk).mono ?_
  rintro e w' ⟨v, rfl, ⟨xo, xc, rfl⟩, hy, hT, hr⟩
  have hn : s.ownBlock = none ∨ s.ownBlock ≠ (Value.slice none 0 0).ownBlock := by
    cases hs : s.ownBlock with
    | none => exact .inl rfl
    | some k => exact .inr (fun e => by cases e)
  exact ⟨xo, xc, rfl, by rw [hz]; exact hr, ⟨h.q.apart hT h.ap.a (fun e => by cases e) h.ap.c hn, hy, h.ap, h.below.trans (hT.below h.y.hg (fun k e => by cases e) h.below.size)⟩, hT⟩
theorem Fr.turn {gb B : Nat} {v : Value} {zs : List UInt8} (h : Fr wr B v zs) (hT : Turn gb (.slice none 0 0) wr w') (hg : gb < B) : Fr w' B v zs := by
  rcases h with h | ⟨h1, h2⟩
  · exact .inl h
  · have h3 := h2.lt
    refine .inr ⟨h1, hT.own h2 (fun e => by have := (h3 _ e).1; omega) ?_⟩
    cases hv : v.ownBlock with
    | none => exact .inl rfl
    | some k => exact .inr (fun e => by cases e)
/-- A store into a block that neither has. -/
theorem PL.other (h : PL W m g s xs t gy sy ys u wr) {gb : Nat} (h1 : g ≠ gb) (h2 : s.ownBlock ≠ some gb) (h3 : gy ≠ gb) (h4 : sy.ownBlock ≠ some gb) (hW : W.heap.size ≤ gb) (i : Nat) (u' : Value) : PL W m g s xs t gy sy ys u (wr.setCell ⟨gb, i, none⟩ u') := by
  have hn : ∀ s : Value, s.ownBlock = none ∨ s.ownBlock ≠ (Value.slice none 0 0).ownBlock := fun s => by
    cases hs : s.ownBlock with
    | none => exact .inl rfl
    | some k => exact .inr (fun e => by cases e)
  exact ⟨h.q.apart (turn_setCell wr gb i (.slice none 0 0) u') h1 (fun e => by cases e) h2 (hn s), h.y.apart (turn_setCell wr gb i (.slice none 0 0) u') h3 (fun e => by cases e) h4 (hn sy), h.ap, h.below.setCell hW u'⟩
theorem PL.len (h : PL W m g s xs t gy sy ys u wr) {D : Nat} (hD : D = xs.length - t) : Calls Try.prog 17 #[.pointer (some ⟨g, 0, none⟩)] wr fun e w' => e = .returned (.int .i64 (D : Int)) ∧ PL W m g s xs t gy sy ys u w' := by
  refine (len_any h.q).mono ?_
  rintro e w' ⟨rfl, hb⟩
  exact ⟨by rw [hD], h.next hb⟩
theorem PL.total (h : PL W m g s xs t gy sy ys u wr) {L : Nat} (hL : L = xs.length) : Calls Try.prog 18 #[.pointer (some ⟨g, 0, none⟩)] wr fun e w' => e = .returned (.int .i64 (L : Int)) ∧ PL W m g s xs t gy sy ys u w' := by
  refine (total_any h.q).mono ?_
  rintro e w' ⟨rfl, rfl⟩
  exact ⟨by rw [hL], h⟩
theorem PL.taken (h : PL W m g s xs t gy sy ys u wr) {K : ByteArray} (hK : K = kb (xs.take t)) : Calls Try.prog 19 #[.pointer (some ⟨g, 0, none⟩)] wr fun e w' => ∃ xo xc, e = .returned (.slice xo t xc) ∧
    Rd w' (.slice xo t xc) ((xs.take t).map bv) ∧ (convert 28 9 (.slice xo t xc)).run Try.prog w' = .ok (.string K) w' ∧ PL W m g s xs t gy sy ys u w' := by
  refine (taken_any h.q).mono ?_
  rintro e w' ⟨v, rfl, hb, hf⟩
  obtain ⟨xo, xc, rfl⟩ := hf.form
  have e1 : (xs.take t).length = t := by rw [List.length_take]; have := h.q.ht; omega
  refine ⟨xo, xc, by rw [e1], ?_, ?_, h.next hb⟩
  · have := hf.rd
    rwa [e1] at this
  · have := str_of hf.rd hK
    rwa [e1] at this
theorem PL.rtaken (h : PL W m g s xs t gy sy ys u wr) {K : ByteArray} (hK : K = kb (ys.take u)) : Calls Try.prog 20 #[.pointer (some ⟨gy, 0, none⟩)] wr fun e w' => ∃ xo xc, e = .returned (.slice xo u xc) ∧
    (convert 28 9 (.slice xo u xc)).run Try.prog w' = .ok (.string K) w' ∧ PL W m g s xs t gy sy ys u w' ∧ Below wr.heap.size wr w' := by
  refine (rtaken_any h.y).mono ?_
  rintro e w' ⟨v, rfl, hb, ⟨xo, xc, rfl⟩, hr⟩
  exact ⟨xo, xc, rfl, str_of hr hK, h.next hb, hb⟩
theorem PL.all (h : PL W m g s xs t gy sy ys u wr) {K : ByteArray} (hK : K = kb xs) {n : Nat} (hn : n = xs.length) : Calls Try.prog 21 #[.pointer (some ⟨g, 0, none⟩)] wr fun e w' => ∃ xo xc, e = .returned (.slice xo n xc) ∧
    (convert 28 9 (.slice xo n xc)).run Try.prog w' = .ok (.string K) w' ∧ PL W m g s xs t gy sy ys u w' ∧ Below wr.heap.size wr w' := by
  refine (all_any h.q).mono ?_
  rintro e w' ⟨v, rfl, hb, hf⟩
  obtain ⟨xo, xc, rfl⟩ := hf.form
  rw [hn]
  exact ⟨xo, xc, rfl, str_of hf.rd hK, h.next hb, hb⟩

/-- Behind a clone: the elder one, the new one, the reference's. -/
structure P3 (W : World) (m : Int) (go : Nat) (so : Value) (zs : List UInt8) (z g : Nat) (s : Value) (xs : List UInt8) (t gy : Nat) (sy : Value) (ys : List UInt8) (u : Nat) (wr : World) : Prop where
  p : PL W m g s xs t gy sy ys u wr
  o : QO wr W.heap.size go so m zs z
  a1 : Ap go so g s
  a2 : Ap go so gy sy
variable {go z : Nat} {so : Value} {zs : List UInt8}
theorem PL.clone (h : PL W m g s xs t gy sy ys u wr) : Calls Try.prog 16 #[.pointer (some ⟨g, 0, none⟩)] wr fun e w' => ∃ g2 s2, e = .returned (.pointer (some ⟨g2, 0, none⟩)) ∧ P3 W m g s xs t g2 s2 xs t gy sy ys u w' := by
  refine (clone_any h.q).mono ?_
  rintro e w' ⟨g2, s2, rfl, hq, hb⟩
  have h1 := h.q.lt
  have h2 := h.q.slt
  have h3 := hq.hg
  have h4 := hq.slt
  have h5 := h.y.lt
  have h6 := h.y.slt
  have apart : ∀ (g0 : Nat) (s0 : Value), g0 < wr.heap.size → (∀ k, s0.ownBlock = some k → k < wr.heap.size) → Ap g0 s0 g2 s2 := fun g0 s0 k1 k2 => by
    refine ⟨by omega, fun e => ?_, fun e => ?_, ?_⟩
    · have := (h4 _ e).1
      omega
    · have := k2 _ e
      omega
    · cases hs : s0.ownBlock with
      | none => exact .inl rfl
      | some k =>
        refine .inr fun e => ?_
        have := k2 _ hs
        have := (h4 _ e.symm).1
        omega
  exact ⟨g2, s2, rfl, ⟨hq.lower h.below.size, h.y.next hb, (apart gy sy h5 (fun k e => (h6 k e).2)).swap, h.below.trans (hb.mono h.below.size)⟩, h.q.next hb, apart g s h1 (fun k e => (h2 k e).2), h.ap⟩
theorem P3.next (h : P3 W m go so zs z g s xs t gy sy ys u wr) (hb : Below wr.heap.size wr w') : P3 W m go so zs z g s xs t gy sy ys u w' := ⟨h.p.next hb, h.o.next hb, h.a1, h.a2⟩
theorem P3.turn (h : P3 W m go so zs z g s xs t gy sy ys u wr) (hT : Turn go so wr w') : PL W m g s xs t gy sy ys u w' :=
  ⟨h.p.q.apart hT h.a1.a.symm h.a1.c h.a1.b h.a1.swap.d, h.p.y.apart hT h.a2.a.symm h.a2.c h.a2.b h.a2.swap.d, h.p.ap, h.o.below_of hT h.p.below (Nat.le_refl _)⟩
theorem P3.put (h : P3 W m go so zs z g s xs t gy sy ys u wr) (v : Value) (ws : List UInt8) (hr : Rd wr v (ws.map bv)) (hys : zs.length + ws.length ≤ 16777216) (hroom : ((zs.length + ws.length : Nat) : Int) ≤ m) :
    Calls Try.prog 11 #[.pointer (some ⟨go, 0, none⟩), v] wr fun e w' => ∃ s', e = .returned (.bool true) ∧ P3 W m go s' (zs ++ ws) z g s xs t gy sy ys u w' := by
  refine (put_room h.o v ws hr hys hroom h.p.below.size).mono ?_
  rintro e w' ⟨s', rfl, hq, hT, hs⟩
  have h1 := h.p.q.lt
  have h2 := h.p.q.slt
  have h3 := h.p.y.lt
  have h4 := h.p.y.slt
  have apart : ∀ (g0 : Nat) (s0 : Value), g0 < wr.heap.size → (∀ k, s0.ownBlock = some k → k < wr.heap.size) → Ap go so g0 s0 → Ap go s' g0 s0 := fun g0 s0 k1 k2 hap => by
    refine ⟨hap.a, hap.b, ?_, ?_⟩
    · rcases hs with e | e
      · rw [e]; exact hap.c
      · rw [e]
        intro e
        cases e
        omega
    · rcases hs with e | e
      · rw [e]; exact hap.d
      · rw [e]
        refine .inr fun e => ?_
        have := k2 _ e.symm
        omega
  exact ⟨s', rfl, h.turn hT, hq, apart g s h1 (fun k e => (h2 k e).2) h.a1, apart gy sy h3 (fun k e => (h4 k e).2) h.a2⟩
theorem P3.full (h : P3 W m go so zs z g s xs t gy sy ys u wr) (v : Value) (ws : List UInt8) (hr : Rd wr v (ws.map bv)) (hys : ws.length ≤ 1000) (hfull : m < ((zs.length + ws.length : Nat) : Int)) :
    Calls Try.prog 11 #[.pointer (some ⟨go, 0, none⟩), v] wr fun e w' => e = .returned (.bool false) ∧ P3 W m go so zs z g s xs t gy sy ys u w' := by
  refine (put_full h.o v ws hr (by unfold maxLen; omega) hfull).mono ?_
  rintro e w' ⟨rfl, hb⟩
  exact ⟨rfl, h.next hb⟩
theorem P3.take (h : P3 W m go so zs z g s xs t gy sy ys u wr) (n : Int) : Calls Try.prog 14 #[.pointer (some ⟨go, 0, none⟩), .int .i64 n] wr fun e w' => ∃ v, e = .returned v ∧ PL W m g s xs t gy sy ys u w' := by
  refine (take_any h.o n _ rfl).mono ?_
  rintro e w' ⟨v, rfl, _, hT, _⟩
  exact ⟨v, rfl, h.turn hT⟩
end
end Go.Proofs.Ytocbmknbmnojkaa
