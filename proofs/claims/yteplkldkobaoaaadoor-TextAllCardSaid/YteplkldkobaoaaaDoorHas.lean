/- text.Has walked; what stands in a text. -/
import Derived.Test.YteplkldkobaoaaaDoorSame
import Derived.Test.YteplkldkobaoaaaDoorShelf
import Derived.Deep.RegionHeld3
namespace Go.Proofs.YteplkldkobaoaaaDoor
open Go.RowKit

/-- The library's variable holds some number. -/
def MX (w : World) : Prop := ∃ m, w.cell? ⟨0, 0, none⟩ = some (.int .i64 m)
theorem MX.below {w w' : World} (h : MX w) (hb : Below w.heap.size w w') : MX w' := by
  obtain ⟨m, hm⟩ := h
  exact ⟨m, (hb.cell (World.block_lt_of_cell? w _ hm)).trans hm⟩
theorem MX.of_shape {w : World} (h : w.ShapedOpen Tryd.prog) : MX w := Tryd.laysM144.s1_3 w h

theorem contains_any (s sub : ByteArray) (w : World) (hm : MX w) (hs : s.size ≤ 1048576) :
    Calls Tryd.prog 23 #[.string s, .string sub] w fun e w' => e = .returned (.bool (Lib.contains s.data.toList sub.data.toList)) ∧ w = w' := by
  obtain ⟨m, hm⟩ := hm
  refine (Tryd.strings_Contains s sub m w (by omega) hm).mono ?_
  rintro e w' ⟨rfl, rfl⟩
  exact ⟨rfl, rfl⟩

namespace Tx
def has (l p : List UInt8) : Bool := Lib.contains (up l) (up p)

theorem contains_iff (s p : List UInt8) : Lib.contains s p = true ↔ ∃ a b, s = a ++ p ++ b := by
  unfold Lib.contains
  rw [decide_eq_true_eq]
  constructor
  · intro h
    rcases Lib.index_spec s p with ⟨h1, _⟩ | ⟨i, h1, h2, h3, _⟩
    · omega
    · unfold Lib.occAt at h3
      obtain ⟨t, ht⟩ := List.isPrefixOf_iff_prefix.1 h3
      exact ⟨s.take i, t, by rw [List.append_assoc, ht, List.take_append_drop]⟩
  · rintro ⟨a, b, rfl⟩
    rcases Lib.index_spec (a ++ p ++ b) p with ⟨_, h2⟩ | ⟨i, h1, _⟩
    · have := h2 a.length (by simp)
      unfold Lib.occAt at this
      rw [List.append_assoc, List.drop_left] at this
      rw [List.isPrefixOf_iff_prefix.2 (List.prefix_append p b)] at this
      cases this
    · omega

theorem upB_upB (b : UInt8) : upB (upB b) = upB b := by
  by_cases h : 97 ≤ b.toNat ∧ b.toNat ≤ 122
  · have := upB_low h.1 h.2
    exact upB_other (by omega)
  · rw [upB_other h, upB_other h]
theorem up_up (l : List UInt8) : up (up l) = up l := by simp [up, upB_upB]
theorem up_app (a b : List UInt8) : up (a ++ b) = up a ++ up b := by simp [up]
theorem up_len (l : List UInt8) : (up l).length = l.length := by simp [up]
theorem has_up (l p : List UInt8) : has (up l) p = has l p := by rw [has, has, up_up]
theorem has_upp (l p : List UInt8) : has l (up p) = has l p := by rw [has, has, up_up]
theorem has_mid (a p b : List UInt8) : has (a ++ p ++ b) p = true := (contains_iff _ _).2 ⟨up a, up b, by rw [up_app, up_app]⟩
theorem has_len {l p : List UInt8} (h : has l p = true) : p.length ≤ l.length := by
  obtain ⟨a, b, e⟩ := (contains_iff _ _).1 h
  have := congrArg List.length e
  rw [up_len] at this
  simp [up_len] at this
  omega
theorem blk_up (b : UInt8) : blk (upB b) = blk b := by
  by_cases h : 97 ≤ b.toNat ∧ b.toNat ≤ 122
  · have := upB_low h.1 h.2
    unfold blk
    have e1 : ((upB b).toNat == 32) = false := beq_eq_false_iff_ne.2 (by omega)
    have e2 : ((upB b).toNat == 9) = false := beq_eq_false_iff_ne.2 (by omega)
    have e3 : (b.toNat == 32) = false := beq_eq_false_iff_ne.2 (by omega)
    have e4 : (b.toNat == 9) = false := beq_eq_false_iff_ne.2 (by omega)
    rw [e1, e2, e3, e4]
  · rw [upB_other h]
theorem wordsGo_up : ∀ (l cur : List UInt8), wordsGo (up cur) (up l) = (wordsGo cur l).map up
  | [], cur => by
    show wordsGo (up cur) [] = _
    rw [wordsGo, wordsGo]
    by_cases h : cur = []
    · subst h; rfl
    · rw [if_neg h, if_neg (by simpa [up] using h)]; rfl
  | c :: r, cur => by
    show wordsGo (up cur) (upB c :: up r) = _
    rw [wordsGo, wordsGo, blk_up]
    have e := wordsGo_up r (cur ++ [c])
    rw [up_app] at e
    have e0 := wordsGo_up r []
    have e1 : (up cur = []) ↔ (cur = []) := by simp [up]
    by_cases hb : blk c
    · rw [if_pos hb, if_pos hb]
      by_cases h : cur = []
      · rw [if_pos h, if_pos (e1.2 h)]; exact e0
      · rw [if_neg h, if_neg (fun h2 => h (e1.1 h2)), List.map_cons, ← e0]; rfl
    · rw [if_neg hb, if_neg hb]; exact e
theorem words_up (l : List UInt8) : words (up l) = (words l).map up := wordsGo_up l []
end Tx

theorem has_any (s p : ByteArray) (w : World) (hm : MX w) (hs : s.size ≤ 1048576) (hp : p.size ≤ 1048576) :
    Calls Tryd.prog 18 #[.string s, .string p] w fun e w' => e = .returned (.bool (Tx.has s.data.toList p.data.toList)) ∧ Below w.heap.size w w' := by
  obtain ⟨us, hus⟩ : ∃ us, us = Tx.up s.data.toList := ⟨_, rfl⟩
  obtain ⟨ut, hut⟩ : ∃ ut, ut = Tx.up p.data.toList := ⟨_, rfl⟩
  have hul : us.length ≤ 1048576 := by rw [hus, Tx.up_len, ← Lib.size_eq]; exact hs
  have e : Tx.has s.data.toList p.data.toList = Lib.contains us ut := by rw [Tx.has, hus, hut]
  rw [e]
  have HUS := Lib.hid hus
  have HUT := Lib.hid hut
  clear hus hut e
  go_enter Tryd.func18, Tryd.ntmps18
  go_wp2_with fail
  refine (upper_at HUS.out _ hs).mono ?_
  rintro e w2 ⟨rfl, hb2⟩
  have hm2 := hm.below hb2
  go_wp2_with fail
  refine (upper_at HUT.out _ hp).mono ?_
  rintro e w3 ⟨rfl, hb3⟩
  have hm3 := hm2.below hb3
  have c3 := hb2.trans (hb3.mono hb2.size)
  clear hb2 hb3 hm hm2
  go_wp2_with fail
  refine (contains_any _ _ _ hm3 (by exact hul)).mono ?_
  rintro e w4 ⟨rfl, rfl⟩
  go_wp2
  go_ret
  exact ⟨rfl, c3⟩

theorem has_of {s p : ByteArray} {b : Bool} (h : b = Tx.has s.data.toList p.data.toList) (w : World) (hm : MX w) (hs : s.size ≤ 1048576) (hp : p.size ≤ 1048576) :
    Calls Tryd.prog 18 #[.string s, .string p] w fun e w' => e = .returned (.bool b) ∧ Below w.heap.size w w' := by
  subst h
  exact has_any s p w hm hs hp

theorem has_mid_any (s t : ByteArray) (w : World) (hm : MX w) (hs : s.size ≤ 400) (hp : t.size ≤ 400) :
    Calls Tryd.prog 18 #[.string (s ++ t ++ s), .string t] w fun e w' => e = .returned (.bool true) ∧ Below w.heap.size w w' := by
  refine has_of ?_ w hm (by rw [ByteArray.size_append', ByteArray.size_append']; omega) (by omega)
  rw [show (s ++ t ++ s).data.toList = s.data.toList ++ t.data.toList ++ s.data.toList from by simp, Tx.has_mid]

end Go.Proofs.YteplkldkobaoaaaDoor
