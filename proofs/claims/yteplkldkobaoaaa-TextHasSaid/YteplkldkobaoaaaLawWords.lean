/- For every text, the law TextWords holds: the words, with blanks between, have the same words; none is empty or has a blank; together they are all bytes but the blanks. No condition. -/
import Derived.Test.YteplkldkobaoaaaSame
import Derived.ProofKit
import Derived.OpenShut
import Derived.ShutString
namespace Go.Proofs.Yteplkldkobaoaaa
open Go.RowKit

namespace Tx
/-- Words with a blank between. -/
def joinW : List (List UInt8) → List UInt8
  | [] => []
  | [x] => x
  | x :: y :: r => x ++ 32 :: joinW (y :: r)

theorem words_ne : ∀ (l cur : List UInt8), ∀ x ∈ wordsGo cur l, x ≠ []
  | [], cur, x, h => by
    rw [wordsGo] at h
    split at h
    · cases h
    · simp at h; subst h; assumption
  | c :: r, cur, x, h => by
    rw [wordsGo] at h
    split at h
    · split at h
      · exact words_ne r [] x h
      · simp at h
        rcases h with rfl | h
        · assumption
        · exact words_ne r [] x h
    · exact words_ne r _ x h

theorem words_bare : ∀ (l cur : List UInt8), (∀ b ∈ cur, blk b = false) → ∀ x ∈ wordsGo cur l, ∀ b ∈ x, blk b = false
  | [], cur, hc, x, h => by
    rw [wordsGo] at h
    split at h
    · cases h
    · simp at h; subst h; exact hc
  | c :: r, cur, hc, x, h => by
    rw [wordsGo] at h
    split at h
    · split at h
      · exact words_bare r [] (by simp) x h
      · simp at h
        rcases h with rfl | h
        · exact hc
        · exact words_bare r [] (by simp) x h
    · rename_i hb
      refine words_bare r _ (fun b hb2 => ?_) x h
      simp at hb2
      rcases hb2 with h1 | rfl
      · exact hc b h1
      · simpa using hb

theorem words_flat : ∀ (l cur : List UInt8), (∀ b ∈ cur, blk b = false) → (wordsGo cur l).flatten = cur ++ l.filter (fun b => !blk b)
  | [], cur, _ => by
    rw [wordsGo]
    split
    · simp [*]
    · simp
  | c :: r, cur, hc => by
    rw [wordsGo]
    split
    · rename_i hb
      split
      · rw [words_flat r [] (by simp)]; simp [*]
      · rw [List.flatten_cons, words_flat r [] (by simp)]; simp [*]
    · rename_i hb
      rw [words_flat r (cur ++ [c]) (fun b hb2 => by
        simp at hb2
        rcases hb2 with h1 | rfl
        · exact hc b h1
        · simpa using hb)]
      simp at hb
      simp [hb]

theorem words_join : ∀ (ws : List (List UInt8)), (∀ x ∈ ws, x ≠ []) → (∀ x ∈ ws, ∀ b ∈ x, blk b = false) → words (joinW ws) = ws
  | [], _, _ => rfl
  | [x], h1, h2 => by
    show wordsGo [] x = _
    have := wordsGo_run x [] [] (h2 x (by simp))
    rw [List.append_nil] at this
    rw [this, wordsGo, if_neg (by simpa using h1 x (by simp))]
    rfl
  | x :: y :: r, h1, h2 => by
    show wordsGo [] (x ++ 32 :: joinW (y :: r)) = _
    rw [wordsGo_run x [] _ (h2 x (by simp)), wordsGo_blank 32 _ _ (by decide), List.nil_append, if_neg (h1 x (by simp))]
    have := words_join (y :: r) (fun z hz => h1 z (by simp [hz])) (fun z hz => h2 z (by simp [hz]))
    rw [words] at this
    rw [this]
    rfl

theorem words_again (l : List UInt8) : words (joinW (words l)) = words l := words_join _ (words_ne l []) (words_bare l [] (by simp))

/-- What stands in the line behind k words. -/
def lineTo (ws : List (List UInt8)) (k : Nat) : List UInt8 := joinW (ws.take k)

theorem joinW_snoc : ∀ (ws : List (List UInt8)) (x : List UInt8), joinW (ws ++ [x]) = if ws = [] then x else joinW ws ++ 32 :: x
  | [], x => rfl
  | [y], x => rfl
  | y :: z :: r, x => by
    show y ++ 32 :: joinW (z :: (r ++ [x])) = _
    have := joinW_snoc (z :: r) x
    rw [if_neg (by simp)] at this
    rw [show z :: (r ++ [x]) = (z :: r) ++ [x] from rfl, this, if_neg (by simp)]
    simp [joinW]

theorem lineTo_succ (ws : List (List UInt8)) (k : Nat) (h : k < ws.length) : lineTo ws (k + 1) = if k = 0 then ws.getD k [] else lineTo ws k ++ 32 :: ws.getD k [] := by
  have e : ws.getD k [] = ws[k] := by rw [List.getD_eq_getElem?_getD, List.getElem?_eq_getElem h]; rfl
  rw [lineTo, List.take_succ_eq_append_getElem h, joinW_snoc, e]
  by_cases hk : k = 0
  · subst hk; simp
  · rw [if_neg (fun e2 => by have := congrArg List.length e2; rw [List.length_take, List.length_nil] at this; omega), if_neg hk]
    rfl

theorem flat_succ (ws : List (List UInt8)) (k : Nat) (h : k < ws.length) : (ws.take (k + 1)).flatten = (ws.take k).flatten ++ ws.getD k [] := by
  have e : ws.getD k [] = ws[k] := by rw [List.getD_eq_getElem?_getD, List.getElem?_eq_getElem h]; rfl
  rw [List.take_succ_eq_append_getElem h, List.flatten_append, e]
  simp

theorem joinW_len : ∀ (ws : List (List UInt8)), (joinW ws).length ≤ ws.flatten.length + ws.length
  | [] => Nat.le_refl _
  | [x] => by simp [joinW]
  | x :: y :: r => by
    have := joinW_len (y :: r)
    simp [joinW] at this ⊢
    omega

theorem flat_take (ws : List (List UInt8)) (k : Nat) : (ws.take k).flatten.length ≤ ws.flatten.length := by
  have : ws.flatten = (ws.take k).flatten ++ (ws.drop k).flatten := by rw [← List.flatten_append, List.take_append_drop]
  rw [this]; simp

theorem words_len (l : List UInt8) : (words l).flatten.length ≤ l.length ∧ (words l).length ≤ l.length := by
  have h := words_flat l [] (by simp)
  have hf : (words l).flatten.length ≤ l.length := by
    rw [words, h]; simpa using List.length_filter_le _ _
  refine ⟨hf, Nat.le_trans ?_ hf⟩
  have hne := words_ne l []
  rw [words]
  generalize wordsGo [] l = ws at hne
  clear h hf
  induction ws with
  | nil => simp
  | cons x r ih =>
    have h1 := ih (fun z hz => hne z (by simp [hz]))
    have h2 : x.length ≠ 0 := fun e => hne x (by simp) (List.length_eq_zero_iff.1 e)
    simp at h1 ⊢
    omega
def barB (b : UInt8) : Bool := !blk b
theorem filt_succ (l : List UInt8) (k : Nat) (h : k < l.length) : (l.take (k + 1)).filter barB = (l.take k).filter barB ++ if barB (l.getD k 0) then [l.getD k 0] else [] := by
  have e : l.getD k 0 = l[k] := by rw [List.getD_eq_getElem?_getD, List.getElem?_eq_getElem h]; rfl
  rw [List.take_succ_eq_append_getElem h, List.filter_append, e]
  by_cases hb : barB l[k] <;> simp [hb]
end Tx

theorem shortOf_le (s : ByteArray) : (shortOf s).size ≤ 400 := by
  unfold shortOf
  split
  · simp; omega
  · omega

theorem cat2 (a b : List UInt8) : Value.string ((⟨a.toArray⟩ : ByteArray) ++ ⟨b.toArray⟩) = .string ⟨(a ++ b).toArray⟩ := by rw [ByteArray.mk_append_mk]
theorem cat3 (a b : List UInt8) (c : UInt8) : Value.string ((⟨a.toArray⟩ : ByteArray) ++ ⟨#[c]⟩ ++ ⟨b.toArray⟩) = .string ⟨(a ++ c :: b).toArray⟩ := by
  have h := ByteArray.mk_append_mk a [c]
  have h2 : (⟨a.toArray⟩ : ByteArray) ++ ⟨#[c]⟩ = ⟨(a ++ [c]).toArray⟩ := h
  rw [h2, ByteArray.mk_append_mk]
  simp

theorem cat_byte (a : List UInt8) (s : ByteArray) (j : Nat) (h : j < s.size) : Value.string ((⟨a.toArray⟩ : ByteArray) ++ s.extract j (j + 1)) = .string ⟨(a ++ [s[j]'h]).toArray⟩ := by
  have e : s.extract j (j + 1) = ⟨[s[j]'h].toArray⟩ := by
    rw [Lib.extract_eq, show j + 1 - j = 1 from by omega, List.drop_eq_getElem_cons (by rw [← Lib.size_eq]; exact h)]
    rfl
  rw [e, ByteArray.mk_append_mk]

theorem words_line {l : List UInt8} {ws : List (List UInt8)} {ln : List UInt8} (h : ws = Tx.words l) (hln : ln = Tx.joinW ws) (w : World) (hs : ln.length ≤ 1000) :
    Calls Try.prog 9 #[.string ⟨ln.toArray⟩] w fun e w' => ∃ v, e = .returned v ∧ Rd w' v (ws.map sv) ∧ Below w.heap.size w w' := by
  refine (words_any ⟨ln.toArray⟩ w (by simp [ByteArray.size]; omega)).mono ?_
  rintro e w' ⟨v, rfl, hown, hb⟩
  refine ⟨v, rfl, ?_, hb⟩
  have e : Tx.words ln = ws := by rw [hln, h]; exact Tx.words_again l
  have := Rd.of_own hown
  rwa [show (⟨ln.toArray⟩ : ByteArray).data.toList = ln from rfl, e] at this

theorem own_shape {w : World} {B : Nat} {e : TypeId} {v : Value} {xs : List (List UInt8)} (h : w.ownsRow B e 1 v xs.length (xs.map sv)) :
    ∃ ao cap, v = .slice ao xs.length cap ∧ (0 < xs.length → ∃ g, ao = some ⟨g, 0, none⟩ ∧ xs.length ≤ cap ∧ cap ≤ maxLen ∧ ∀ j, j < xs.length → w.cell? ⟨g, j, none⟩ = some (.string ⟨(xs.getD j []).toArray⟩)) := by
  rcases Nat.eq_zero_or_pos xs.length with h0 | hpos
  · rcases h.2 with ⟨rfl, _⟩ | ⟨g, cap, cur, rfl, _⟩
    · exact ⟨_, _, by rw [h0], fun h => absurd h (by omega)⟩
    · exact ⟨_, _, rfl, fun h => absurd h (by omega)⟩
  · obtain ⟨g, cap, rfl, _, h2, h3, h4⟩ := own_pos h hpos
    exact ⟨_, _, rfl, fun _ => ⟨g, rfl, h2, h3, fun j hj => h4 j _ (svs_at hj)⟩⟩

theorem word_ne {l : List UInt8} {ws : List (List UInt8)} {k : Nat} {x : List UInt8} (h : ws = Tx.words l) (hk : k < ws.length) (hx : x = ws.getD k []) : (x == []) = false := by
  have e : x ∈ ws := by
    rw [hx, List.getD_eq_getElem?_getD, List.getElem?_eq_getElem hk]
    exact List.getElem_mem _
  rw [h] at e
  exact beq_eq_false_iff_ne.2 (Tx.words_ne l [] x e)

theorem word_len {ws : List (List UInt8)} {k : Nat} {x : List UInt8} (hk : k < ws.length) (hx : x = ws.getD k []) : x.length ≤ ws.flatten.length := by
  have h1 := Tx.flat_succ ws k hk
  have h2 := Tx.flat_take ws (k + 1)
  rw [← hx] at h1
  have h3 := congrArg List.length h1
  rw [List.length_append] at h3
  omega

theorem line_len (ws : List (List UInt8)) (k : Nat) : (Tx.lineTo ws k).length ≤ ws.flatten.length + ws.length := by
  have h1 := Tx.joinW_len (ws.take k)
  have h2 := Tx.flat_take ws k
  have h3 : (ws.take k).length ≤ ws.length := by rw [List.length_take]; omega
  unfold Tx.lineTo
  omega

set_option maxHeartbeats 1000000 in
theorem lawWords (a0 : ByteArray) (w0 : a0.size ≤ maxLen) (w : World) :
    Calls Try.prog 3 #[.string a0] w fun e w' => e = .returned (.bool true) ∧ Below w.heap.size w w' := by
  have ht := shortOf_le a0
  have hs := fun w => short_any a0 w w0
  generalize shortOf a0 = s at ht hs
  have HS := Lib.hid hs
  clear hs
  have hwl := Tx.words_len s.data.toList
  rw [← Lib.size_eq] at hwl
  obtain ⟨ws, hws⟩ : ∃ ws, ws = Tx.words s.data.toList := ⟨_, rfl⟩
  rw [← hws] at hwl
  obtain ⟨hf, hn⟩ := hwl
  have HW := Lib.hid hws
  clear hws
  go_enter Try.func3, Try.ntmps3
  go_wp2_with (first
    | (go_at_call 7; refine (shown_any _).mono ?_; rintro e w1 ⟨rfl, hb1⟩)
    | (go_at_call 8; refine (HS.out _).mono ?_; rintro e w1' ⟨rfl, rfl⟩)
    | (go_at_call 9; refine (words_any s _ (by omega)).mono ?_; rintro e w2 ⟨v, rfl, hown, hb2⟩; rw [← HW.out] at hown))
  have hRd := Rd.of_own hown
  obtain ⟨ao, cap, rfl, hcl⟩ := own_shape hown
  have HC := Lib.hid hcl
  clear hcl hown
  go_loop [5, 6, 7] (fun line bare i => ∃ k : Nat, k ≤ ws.length ∧ i = .int .i64 k ∧ line = .string ⟨(Tx.lineTo ws k).toArray⟩ ∧ bare = .string ⟨(ws.take k).flatten.toArray⟩) (fun _ _ i => ws.length - (intOf i).toNat)
  case atStart => exact ⟨0, Nat.zero_le _, rfl, rfl, rfl⟩
  case round =>
    obtain ⟨k, hk, rfl, rfl, rfl⟩ := hrel
    by_cases hlt : k < ws.length
    · obtain ⟨g, rfl, hg1, hg2, hg3⟩ := HC.out (by omega)
      have hc := hg3 k hlt
      clear hg3
      unfold maxLen at hg2
      have hl1 := line_len ws k
      have hl2 := Tx.flat_take ws k
      obtain ⟨x, hx⟩ : ∃ x, x = ws.getD k [] := ⟨_, rfl⟩
      have hxn : (x == []) = false := word_ne HW.out hlt hx
      have hxl := word_len hlt hx
      rw [← hx] at hc
      have HX := Lib.hid hx
      clear hx
      obtain ⟨ln, hln⟩ : ∃ ln, ln = Tx.lineTo ws k := ⟨_, rfl⟩
      obtain ⟨bl, hbl⟩ : ∃ bl, bl = (ws.take k).flatten := ⟨_, rfl⟩
      rw [← hln] at hl1 ⊢
      rw [← hbl] at hl2 ⊢
      have HLN := Lib.hid hln
      have HBL := Lib.hid hbl
      clear hln hbl
      by_cases h0 : k = 0
      · subst h0
        go_wp2
        go_round
        case rel =>
          refine ⟨1, by omega, rfl, ?_, ?_⟩
          · rw [Tx.lineTo_succ ws 0 hlt, if_pos rfl, ← HX.out, HLN.out, ByteArray.mk_append_mk]
            rfl
          · rw [Tx.flat_succ ws 0 hlt, ← HX.out, HBL.out]
            exact (cat2 _ _)
        case measure => simp [intOf]; omega
      · have h0' : 0 < k := by omega
        have H0 := Lib.hid h0
        clear h0
        go_wp2
        go_round
        case rel =>
          refine ⟨k + 1, by omega, by go_num, ?_, ?_⟩
          · rw [Tx.lineTo_succ ws k hlt, if_neg H0.out, ← HX.out, HLN.out]
            exact (cat3 _ _ _)
          · rw [Tx.flat_succ ws k hlt, ← HX.out, HBL.out]
            exact (cat2 _ _)
        case measure => simp [intOf]; omega
    · obtain rfl : k = ws.length := by omega
      obtain ⟨ln, hln⟩ : ∃ ln, ln = Tx.joinW ws := ⟨_, rfl⟩
      obtain ⟨bl, hbl⟩ : ∃ bl, bl = ws.flatten := ⟨_, rfl⟩
      have hl1 : ln.length ≤ 1000 := by
        rw [hln]
        have := Tx.joinW_len ws
        omega
      rw [Tx.lineTo, List.take_length, ← hln, ← hbl]
      have HLN := Lib.hid hln
      have HBL := Lib.hid hbl
      clear hln hbl hf hn hlt hk
      go_wp2
      go_loop [8, 9] (fun left i => ∃ j : Nat, j ≤ s.size ∧ i = .int .i64 j ∧ left = .string ⟨((s.data.toList.take j).filter Tx.barB).toArray⟩) (fun _ i => s.size - (intOf i).toNat)
      case atStart => exact ⟨0, Nat.zero_le _, rfl, rfl⟩
      case round =>
        obtain ⟨j, hj, rfl, rfl⟩ := hrel
        by_cases hlt : j < s.size
        · have hfl : ((s.data.toList.take j).filter Tx.barB).length ≤ 400 := by
            refine Nat.le_trans (List.length_filter_le _ _) ?_
            rw [List.length_take]
            omega
          have hst := Tx.filt_succ s.data.toList j (by rw [← Lib.size_eq]; exact hlt)
          rw [← Tx.get_eq s j hlt] at hst
          have HST := Lib.hid hst
          clear hst
          obtain ⟨fl, hfl2⟩ : ∃ fl, fl = (s.data.toList.take j).filter Tx.barB := ⟨_, rfl⟩
          rw [← hfl2] at hfl ⊢
          have HFL := Lib.hid hfl2
          clear hfl2
          by_cases h32 : (s[j]'hlt).toNat = 32
          · have q1 : (((s[j]'hlt).toNat : Int) != 32) = false := by simp [h32]
            have q2 : (((s[j]'hlt).toNat : Int) == 32) = true := by simp [h32]
            have H := Lib.hid h32
            clear h32
            go_wp2
            go_round
            case rel =>
              refine ⟨j + 1, by omega, by go_num, ?_⟩
              rw [HST.out, HFL.out, if_neg (by simp [Tx.barB, Tx.blk, H.out]), List.append_nil]
            case measure => simp [intOf]; omega
          · have q1 : (((s[j]'hlt).toNat : Int) != 32) = true := by simp; omega
            have q2 : (((s[j]'hlt).toNat : Int) == 32) = false := by simp; omega
            by_cases h9 : (s[j]'hlt).toNat = 9
            · have q3 : (((s[j]'hlt).toNat : Int) != 9) = false := by simp [h9]
              have q4 : (((s[j]'hlt).toNat : Int) == 9) = true := by simp [h9]
              have H := Lib.hid h9
              clear h32 h9
              go_wp2
              go_round
              case rel =>
                refine ⟨j + 1, by omega, by go_num, ?_⟩
                rw [HST.out, HFL.out, if_neg (by simp [Tx.barB, Tx.blk, H.out]), List.append_nil]
              case measure => simp [intOf]; omega
            · have q3 : (((s[j]'hlt).toNat : Int) != 9) = true := by simp; omega
              have q4 : (((s[j]'hlt).toNat : Int) == 9) = false := by simp; omega
              have hbb : Tx.barB (s[j]'hlt) = true := by simp [Tx.barB, Tx.blk]; omega
              have H := Lib.hid hbb
              clear h32 h9 hbb
              go_wp2
              go_round
              case rel =>
                refine ⟨j + 1, by omega, by go_num, ?_⟩
                rw [HST.out, HFL.out, if_pos H.out]
                exact cat_byte _ _ _ hlt
              case measure => simp [intOf]; omega
        · obtain rfl : j = s.size := by omega
          have hfin : bl = (s.data.toList.take s.size).filter Tx.barB := by
            rw [HBL.out, HW.out, Lib.size_eq, List.take_length]
            exact Tx.words_flat _ [] (by simp)
          rw [← hfin]
          clear hfin hj hlt
          go_wp2_with (first
            | (go_at_call 9; refine (words_line HW.out HLN.out _ hl1).mono ?_; rintro e w3 ⟨v3, rfl, hr3, hb3⟩; have hR2 := hRd.below hb3)
            | (go_at_call 10; refine (same_any _ _ _ _ _ hr3 hR2).mono ?_; rintro e w4 ⟨rfl, hb4⟩))
          go_ret
          have c2 := hb1.trans (hb2.mono hb1.size)
          have c3 := c2.trans (hb3.mono c2.size)
          exact ⟨rfl, c3.trans (hb4.mono c3.size)⟩

end Go.Proofs.Yteplkldkobaoaaa
