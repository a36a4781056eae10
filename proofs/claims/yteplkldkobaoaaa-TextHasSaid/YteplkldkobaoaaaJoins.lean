/- append of whole slices of texts; the law TextJoins walked. -/
import Derived.Test.YteplkldkobaoaaaLawWords
import Derived.Laws.AppendOwnNone
namespace Go.Proofs.Yteplkldkobaoaaa
open Go.RowKit

/-- 'append(xs, ys...)' on a row of texts that the call owns, ys whatever slice. -/
theorem append_strs {ops : Array Oper} {rest : List Oper} {o : Oper} {a : Act} {Q : Exit → Act → World → Prop} {w : World} {B n : Nat} {v : Value} {xs : List Value}
    (hgd : o.guard = none) (s x : Operand) (ho : o.op = .call { callee := .builtin .append, args := #[s, x], argTypes := #[24, 24] })
    (hs : a.eval s = v) (hown : w.ownsRow B 9 1 v n xs) (ys : List Value) (hx : Rd w (a.eval x) ys)
    (h1 : ∀ u ∈ ys, u.oneCell' = true) (hn : n + ys.length ≤ 2097152) (hB : B ≤ w.heap.size)
    (h : ∀ v' w', w'.ownsRow B 9 1 v' (n + ys.length) (xs ++ ys) → w.grownBy w' v.ownBlock → wpList Try.prog ops Q rest (a.put o.dst v') w') : wpList Try.prog ops Q (o :: rest) a w := by
  obtain ⟨i0, hi, hz0, hz1, hz2⟩ := info_parts info_str
  rcases hx with ⟨rfl, ao, cap, ha, hx⟩ | ⟨b, off, cap, hx, g1, g2, g3⟩
  · cases ao with
    | none =>
      obtain rfl := ha rfl
      have h2 := h v w (by simpa using hown) ⟨rfl, rfl, rfl, Nat.le_refl _, fun _ _ _ => rfl⟩
      exact wpList_append_own_none hgd s x 24 ho B 9 i0 1 Try.underlying24 hi v n xs hs hown hx h2
    | some ad =>
      refine wpList_append_own _ hgd s x 24 ho B 9 i0 (.string ByteArray.empty) 1 16 Try.underlying24 hi hz0 hz1 hz2 rfl (by decide) v n xs hs hown ad 0 cap [] hx rfl (fun j u hj => by simp at hj) (fun u hu => by simp at hu) ?_ ?_ hB (fun v' w' h2 h3 _ => h v' w' h2 h3)
      · simp at hn; unfold maxLen; omega
      · simp at hn; omega
  · refine wpList_append_own _ hgd s x 24 ho B 9 i0 (.string ByteArray.empty) 1 16 Try.underlying24 hi hz0 hz1 hz2 rfl (by decide) v n xs hs hown ⟨b, off, none⟩ ys.length cap ys hx (by simp) (fun j u hj => by rw [Addr.add_lit]; exact g3 j u hj) h1 ?_ ?_ hB (fun v' w' h2 h3 _ => h v' w' h2 h3)
    · unfold maxLen; omega
    · omega

namespace Tx
theorem blk_gap (tab : Bool) : blk (if tab then 9 else 32) = true := by cases tab <;> rfl

theorem wordsGo_joins (c : UInt8) (hc : blk c = true) : ∀ (l cur r : List UInt8), wordsGo cur (l ++ c :: r) = wordsGo cur l ++ wordsGo [] r
  | [], cur, r => by
    rw [List.nil_append, wordsGo_blank c cur r hc, wordsGo]
  | b :: l, cur, r => by
    show wordsGo cur (b :: (l ++ c :: r)) = _
    rw [wordsGo]
    conv => rhs; rw [wordsGo]
    split
    · split
      · exact wordsGo_joins c hc l [] r
      · rw [wordsGo_joins c hc l [] r]; rfl
    · exact wordsGo_joins c hc l _ r

theorem words_joins (c : UInt8) (hc : blk c = true) (l r : List UInt8) : words (l ++ c :: r) = words l ++ words r := wordsGo_joins c hc l [] r
end Tx

theorem words_size {s : ByteArray} (ht : s.size ≤ 400) : (Tx.words s.data.toList).length ≤ 400 := by
  have := (Tx.words_len s.data.toList).2
  rw [← Lib.size_eq] at this
  omega

theorem sv_cell (xs : List (List UInt8)) : ∀ u ∈ xs.map sv, u.oneCell' = true := by
  intro u hu
  obtain ⟨x, _, rfl⟩ := List.mem_map.1 hu
  rfl

/-- The words of both texts and the gap. -/
theorem words_both (s t : ByteArray) (c : UInt8) (hc : Tx.blk c = true) (w : World) (hs : s.size ≤ 400) (ht : t.size ≤ 400) :
    Calls Try.prog 9 #[.string (s ++ ⟨#[c]⟩ ++ t)] w fun e w' => ∃ v, e = .returned v ∧ Rd w' v ((Tx.words s.data.toList ++ Tx.words t.data.toList).map sv) ∧ Below w.heap.size w w' := by
  have e : (s ++ ⟨#[c]⟩ ++ t).data.toList = s.data.toList ++ c :: t.data.toList := by simp
  refine (words_any _ w (by rw [ByteArray.size_append', ByteArray.size_append']; show s.size + 1 + t.size ≤ _; omega)).mono ?_
  rintro e1 w' ⟨v, rfl, hown, hb⟩
  refine ⟨v, rfl, ?_, hb⟩
  rw [e, Tx.words_joins c hc] at hown
  exact Rd.of_own hown

theorem plain_at {s : ByteArray} {b : Bool} (h : Tx.plain s.data.toList = b) (w : World) :
    Calls Try.prog 13 #[.string s] w fun e w' => e = .returned (.bool b) ∧ Below w.heap.size w w' := by
  subst h
  exact plain_any s w

theorem plain_cat {s t : ByteArray} {b1 b2 : Bool} (h1 : Tx.plain s.data.toList = b1) (h2 : Tx.plain t.data.toList = b2) (w : World) :
    Calls Try.prog 13 #[.string (s ++ t)] w fun e w' => e = .returned (.bool (b1 && b2)) ∧ Below w.heap.size w w' := by
  refine plain_at ?_ w
  rw [show (s ++ t).data.toList = s.data.toList ++ t.data.toList from by simp, Tx.plain_app, h1, h2]

theorem upper_at {s : ByteArray} {us : List UInt8} (h : us = Tx.up s.data.toList) (w : World) (hs : s.size ≤ 1048576) :
    Calls Try.prog 11 #[.string s] w fun e w' => e = .returned (.string ⟨us.toArray⟩) ∧ Below w.heap.size w w' := by
  subst h
  exact upper_any s w hs

theorem upper_cat {s t : ByteArray} {us ut : List UInt8} (h1 : us = Tx.up s.data.toList) (h2 : ut = Tx.up t.data.toList) (w : World) (hs : s.size + t.size ≤ 1048576) :
    Calls Try.prog 11 #[.string (s ++ t)] w fun e w' => e = .returned (.string (⟨us.toArray⟩ ++ ⟨ut.toArray⟩)) ∧ Below w.heap.size w w' := by
  subst h1 h2
  refine (upper_any (s ++ t) w (by rw [ByteArray.size_append']; exact hs)).mono ?_
  rintro e w' ⟨rfl, hb⟩
  refine ⟨?_, hb⟩
  rw [show (s ++ t).data.toList = s.data.toList ++ t.data.toList from by simp, ByteArray.mk_append_mk, sv, Tx.up, List.map_append]
  rfl

set_option maxHeartbeats 2000000 in
theorem lawJoins (a0 a1 : ByteArray) (tab : Bool) (w0 : a0.size ≤ maxLen) (w1 : a1.size ≤ maxLen) (w : World) :
    Calls Try.prog 6 #[.string a0, .string a1, .bool tab] w fun e w' => e = .returned (.bool true) ∧ Below w.heap.size w w' := by
  have hs0 := shortOf_le a0
  have ht0 := shortOf_le a1
  have hs := fun w => short_any a0 w w0
  have ht := fun w => short_any a1 w w1
  generalize shortOf a0 = s at hs0 hs
  generalize shortOf a1 = t at ht0 ht
  have HS := Lib.hid hs
  have HT := Lib.hid ht
  clear hs ht
  obtain ⟨c, hc, HG⟩ : ∃ c, Tx.blk c = true ∧ ((tab = false ∧ c = 32) ∨ (tab = true ∧ c = 9)) := by cases tab <;> simp [Tx.blk]
  rcases HG with ⟨rfl, rfl⟩ | ⟨rfl, rfl⟩
  all_goals
    go_enter Try.func6, Try.ntmps6
    go_wp2_with fail
    refine (shown_any _).mono ?_
    rintro e w2 ⟨rfl, hb1⟩
    go_wp2_with fail
    refine (HS.out _).mono ?_
    rintro e w2' ⟨rfl, rfl⟩
    go_wp2_with fail
    refine (HT.out _).mono ?_
    rintro e w2' ⟨rfl, rfl⟩
    go_wp2_with fail
    refine (words_any s _ (by omega)).mono ?_
    rintro e w3 ⟨v1, rfl, hown1, hb2⟩
    have hr1 := Rd.of_own hown1
    clear hown1
    go_wp2_with fail
    refine (words_any t _ (by omega)).mono ?_
    rintro e w4 ⟨v2, rfl, hown2, hb3⟩
    have hr2 := Rd.of_own hown2
    have hr1b := hr1.below hb3
    clear hown2 hr1
    go_wp2_with fail
    refine (words_both s t _ hc _ hs0 ht0).mono ?_
    rintro e w5 ⟨v3, rfl, hr3, hb4⟩
    have hr1c := hr1b.below hb4
    have hr2c := hr2.below hb4
    clear hr1b hr2
    have hbn : Below w5.heap.size w5 (w5.alloc (.cells #[] 9)) := (Below.refl _ _).alloc (Nat.le_refl _) _
    have hr1d := hr1c.below hbn
    have hls := words_size hs0
    have hlt := words_size ht0
    go_wp2_with (first
      | (at_builtin; refine append_strs rfl (.tmp 30) (.tmp 31) rfl rfl (World.ownsRow_made (base := w5.heap.size) w5 #[] 0 (Nat.le_refl _) (Nat.zero_le _) rfl) ((Tx.words s.data.toList).map sv) hr1d ?_ ?_ ?_ ?_)
      | fail)
    case refine_1 => exact sv_cell _
    case refine_2 => rw [List.length_map]; omega
    case refine_3 => simp
    intro v4 w6 hown6 hg6
    have hb6 : Below w5.heap.size w5 w6 := hbn.grown hg6 (by simp) (fun k hk => by cases hk; exact Nat.le_refl _)
    have hr2d := hr2c.below hb6
    clear hg6 hbn hr1c hr1d hr2c
    go_wp2_with (first
      | (at_builtin; refine append_strs rfl (.tmp 32) (.tmp 33) rfl rfl hown6 ((Tx.words t.data.toList).map sv) hr2d ?_ ?_ ?_ ?_)
      | fail)
    case refine_1 => exact sv_cell _
    case refine_2 =>
      rw [List.length_map]
      omega
    case refine_3 => exact hb6.size
    intro v5 w7 hown7 hg7
    have hb7 : Below w5.heap.size w5 w7 := hb6.grown hg7 hb6.size (fun k hk => (hown6.lt k hk).1)
    have hr3e := hr3.below hb7
    rw [← List.map_append] at hown7
    have hr7 := Rd.of_own hown7
    clear hg7 hown7 hown6 hr2d hr3 hb6 hls hlt
    go_wp2_with fail
    refine (same_any _ _ _ _ _ hr3e hr7).mono ?_
    rintro e w8 ⟨rfl, hb8⟩
    rw [show (Tx.words s.data.toList ++ Tx.words t.data.toList == Tx.words s.data.toList ++ Tx.words t.data.toList) = true from by simp]
    have c8 : Below w.heap.size w w8 := by
      have c3 := hb1.trans (hb2.mono hb1.size)
      have c4 := c3.trans (hb3.mono c3.size)
      have c5 := c4.trans (hb4.mono c4.size)
      have c7 := c5.trans (hb7.mono c5.size)
      exact c7.trans (hb8.mono c7.size)
    clear hb1 hb2 hb3 hb4 hb7 hb8 hr3e hr7
    obtain ⟨us, hus⟩ : ∃ us, us = Tx.up s.data.toList := ⟨_, rfl⟩
    obtain ⟨ut, hut⟩ : ∃ ut, ut = Tx.up t.data.toList := ⟨_, rfl⟩
    have hul : us.length ≤ 400 := by rw [hus, Tx.up, List.length_map, ← Lib.size_eq]; exact hs0
    have htl : ut.length ≤ 400 := by rw [hut, Tx.up, List.length_map, ← Lib.size_eq]; exact ht0
    have HUS := Lib.hid hus
    have HUT := Lib.hid hut
    clear hus hut
    generalize hp1 : Tx.plain s.data.toList = b1
    generalize hp2 : Tx.plain t.data.toList = b2
    have HP1 := Lib.hid hp1
    have HP2 := Lib.hid hp2
    clear hp1 hp2
    cases b1
    · go_wp2_with fail
      refine (plain_cat HP1.out HP2.out _).mono ?_
      rintro e w9 ⟨rfl, hb9⟩
      have c9 := c8.trans (hb9.mono c8.size)
      clear hb9
      go_wp2_with fail
      refine (plain_at HP1.out _).mono ?_
      rintro e w10 ⟨rfl, hb10⟩
      have c10 := c9.trans (hb10.mono c9.size)
      clear hb10
      have c11 := c10
      go_wp2_with fail
      refine (upper_cat HUS.out HUT.out _ (by omega)).mono ?_
      rintro e w12 ⟨rfl, hb12⟩
      have c12 := c11.trans (hb12.mono c11.size)
      clear hb12
      go_wp2_with fail
      refine (upper_at HUS.out _ (by omega)).mono ?_
      rintro e w13 ⟨rfl, hb13⟩
      have c13 := c12.trans (hb13.mono c12.size)
      clear hb13
      go_wp2_with fail
      refine (upper_at HUT.out _ (by omega)).mono ?_
      rintro e w14 ⟨rfl, hb14⟩
      have c14 := c13.trans (hb14.mono c13.size)
      clear hb14
      go_wp2
      go_ret
      exact ⟨rfl, c14⟩
    · cases b2
      all_goals
        go_wp2_with fail
        refine (plain_cat HP1.out HP2.out _).mono ?_
        rintro e w9 ⟨rfl, hb9⟩
        have c9 := c8.trans (hb9.mono c8.size)
        clear hb9
        go_wp2_with fail
        refine (plain_at HP1.out _).mono ?_
        rintro e w10 ⟨rfl, hb10⟩
        have c10 := c9.trans (hb10.mono c9.size)
        clear hb10
        go_wp2_with fail
        refine (plain_at HP2.out _).mono ?_
        rintro e w11 ⟨rfl, hb11⟩
        have c11 := c10.trans (hb11.mono c10.size)
        clear hb11
        go_wp2_with fail
        refine (upper_cat HUS.out HUT.out _ (by omega)).mono ?_
        rintro e w12 ⟨rfl, hb12⟩
        have c12 := c11.trans (hb12.mono c11.size)
        clear hb12
        go_wp2_with fail
        refine (upper_at HUS.out _ (by omega)).mono ?_
        rintro e w13 ⟨rfl, hb13⟩
        have c13 := c12.trans (hb13.mono c12.size)
        clear hb13
        go_wp2_with fail
        refine (upper_at HUT.out _ (by omega)).mono ?_
        rintro e w14 ⟨rfl, hb14⟩
        have c14 := c13.trans (hb14.mono c13.size)
        clear hb14
        go_wp2
        go_ret
        exact ⟨rfl, c14⟩

end Go.Proofs.Yteplkldkobaoaaa
