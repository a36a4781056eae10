/- The reference's Stamp walked. -/
import Derived.Test.YtjogdflhpciciaaDoorAuthStamp
namespace Go.Proofs.YtjogdflhpciciaaDoor
open Go.RowKit

namespace Au
/-- What the reference holds at the head of a round: f is where the first mark is, or nothing is found yet. -/
def Fr (l : List UInt8) (i : Nat) (f : Int) : Prop := (f = -1 ∧ ∀ j, j < i → l[j]? ≠ some 60) ∨ ∃ k : Nat, f = (k : Int) ∧ k < i ∧ l[k]? = some 60 ∧ (∀ j, j < k → l[j]? ≠ some 60) ∧ ∀ j, k < j → j < i → l[j]? ≠ some 62

theorem behind_of {c : UInt8} : ∀ {l : List UInt8} {k : Nat}, l[k]? = some c → (∀ j, j < k → l[j]? ≠ some c) → behind c l = some (l.drop (k + 1)) ∧ upTo c l = l.take k
  | [], k, h, _ => by simp at h
  | b :: l, 0, h, _ => by
    simp only [List.getElem?_cons_zero, Option.some.injEq] at h
    rw [behind, upTo, if_pos h, if_pos h]
    exact ⟨rfl, rfl⟩
  | b :: l, k + 1, h, hf => by
    have hb : b ≠ c := fun e => hf 0 (Nat.succ_pos _) (by simp [e])
    rw [behind, upTo, if_neg hb, if_neg hb]
    obtain ⟨h1, h2⟩ := behind_of (l := l) (k := k) (by simpa using h) (fun j hj => by simpa using hf (j + 1) (by omega))
    exact ⟨by rw [h1]; rfl, by rw [h2]; rfl⟩
theorem behind_no {c : UInt8} {l : List UInt8} (h : ∀ j, j < l.length → l[j]? ≠ some c) : behind c l = none := by
  rw [behind_none]
  intro hm
  obtain ⟨j, hj, e⟩ := List.getElem_of_mem hm
  exact h j hj (by rw [List.getElem?_eq_getElem hj, e])

theorem Fr.start (l : List UInt8) : Fr l 0 (-1) := .inl ⟨rfl, fun j hj => by omega⟩
/-- The first mark. -/
theorem Fr.open {l : List UInt8} {i : Nat} (h : Fr l i (-1)) (hc : l[i]? = some 60) : Fr l (i + 1) (i : Int) := by
  rcases h with ⟨_, h⟩ | ⟨k, h, _⟩
  · exact .inr ⟨i, rfl, Nat.lt_succ_self _, hc, h, fun j hj hj2 => by omega⟩
  · omega
/-- Neither the first mark, nor the second one behind it. -/
theorem Fr.skip {l : List UInt8} {i : Nat} {f : Int} (h : Fr l i f) (h1 : f = -1 → l[i]? ≠ some 60) (h2 : f ≠ -1 → l[i]? ≠ some 62) : Fr l (i + 1) f := by
  rcases h with ⟨rfl, h⟩ | ⟨k, rfl, a, b, c, d⟩
  · refine .inl ⟨rfl, fun j hj => ?_⟩
    rcases Nat.lt_or_ge j i with hlt | hge
    · exact h j hlt
    · obtain rfl : j = i := by omega
      exact h1 rfl
  · refine .inr ⟨k, rfl, by omega, b, c, fun j hj hj2 => ?_⟩
    rcases Nat.lt_or_ge j i with hlt | hge
    · exact d j hj hlt
    · obtain rfl : j = i := by omega
      exact h2 (by omega)
/-- The end: there is no stamp. -/
theorem Fr.none {l : List UInt8} {f : Int} (h : Fr l l.length f) : stamp l = none := by
  rcases h with ⟨rfl, h⟩ | ⟨k, rfl, a, b, c, d⟩
  · rw [stamp, behind_no h]
  · rw [stamp, (behind_of b c).1]
    simp only
    rw [behind_no (l := l.drop (k + 1)) (c := 62) (fun j hj => by
      rw [List.length_drop] at hj
      rw [List.getElem?_drop]
      exact d _ (by omega) (by omega))]
/-- The second mark. -/
theorem Fr.shut {l : List UInt8} {i : Nat} {f : Int} (h : Fr l i f) (h0 : 0 ≤ f) (hc : l[i]? = some 62) : ∃ k : Nat, f = (k : Int) ∧ k < i ∧ stamp l = if i = k + 1 then Option.none else some ((l.drop k).take (i + 1 - k)) := by
  rcases h with ⟨rfl, h⟩ | ⟨k, rfl, a, b, c, d⟩
  · omega
  · refine ⟨k, rfl, a, ?_⟩
    have g := behind_of (c := 62) (l := l.drop (k + 1)) (k := i - (k + 1)) (by rw [List.getElem?_drop, show k + 1 + (i - (k + 1)) = i by omega]; exact hc) (fun j hj => by rw [List.getElem?_drop]; exact d _ (by omega) (by omega))
    rw [stamp, (behind_of b c).1]
    simp only
    rw [g.1]
    simp only
    rw [g.2]
    have hi : i < l.length := (List.getElem?_eq_some_iff.1 hc).1
    by_cases hik : i = k + 1
    · rw [if_pos hik, if_pos (by rw [show i - (k + 1) = 0 by omega]; rfl)]
    · rw [if_neg hik, if_neg (fun e => by
        have := congrArg List.length e
        rw [List.length_take, List.length_drop, List.length_nil] at this
        omega)]
      congr 1
      have hk : k < l.length := by omega
      have hkv : l[k] = 60 := by rw [List.getElem?_eq_getElem hk] at b; exact Option.some.inj b
      rw [List.drop_eq_getElem_cons hk, hkv, show i + 1 - k = (i - (k + 1) + 1) + 1 by omega, List.take_succ_cons, List.take_add_one, List.getElem?_drop, show k + 1 + (i - (k + 1)) = i by omega, hc]
      rfl
end Au

theorem neg_or {z : Int} (h : -1 ≤ z) : z = -1 ∨ ∃ m : Nat, z = (m : Int) := by
  rcases Int.lt_or_le z 0 with h0 | h0
  · exact .inl (by omega)
  · exact .inr ⟨z.toNat, by omega⟩

set_option maxHeartbeats 1000000 in
theorem refStamp_any (s : ByteArray) (w : World) (hs : s.size ≤ 1048576) :
    Calls Tryd.prog 12 #[.string s] w fun e w' => e = .returned (stampV s.data.toList) ∧ w = w' := by
  obtain ⟨n, hn⟩ : ∃ n, n = s.size := ⟨_, rfl⟩
  have hsz := hn.symm
  obtain ⟨l, hl⟩ : ∃ l, l = s.data.toList := ⟨_, rfl⟩
  have hll : l.length = n := by rw [hl, ← Lib.size_eq, hn]
  rw [← hl]
  rw [← hn] at hs
  have HL := Lib.hid hl
  have HLL := Lib.hid hll
  have HST := Lib.hid (Au.Fr.start l)
  clear hn hl hll
  go_enter Tryd.func12, Tryd.ntmps12
  go_wp2
  go_loopw [4, 5] (fun f i wr => ∃ (k : Nat) (z : Int), k ≤ n ∧ i = .int .i64 k ∧ f = .int .i64 z ∧ -1 ≤ z ∧ z ≤ (n : Int) ∧ Hid (Au.Fr l k z) ∧ wr = w) (fun _ i _ => n - (intOf i).toNat)
  case atStart => exact ⟨0, -1, Nat.zero_le _, rfl, rfl, by omega, by omega, HST, rfl⟩
  case round =>
    obtain ⟨k, z, hk, rfl, rfl, hz1, hz2, hR, rfl⟩ := hrel
    by_cases hlt : k < n
    · have hks : k < s.size := by rw [hsz]; exact hlt
      have hc : l[k]? = some (s[k]'hks) := by
        rw [byte_at s k hks, ← HL.out, List.getD_eq_getElem?_getD, List.getElem?_eq_getElem (by rw [HLL.out]; exact hlt)]
        rfl
      rcases neg_or hz1 with rfl | ⟨m, rfl⟩
      · by_cases h60 : s[k]'hks = 60
        · have RS := hR.out.open (by rw [hc, h60])
          have RS := Lib.hid RS
          have hx : (s[k]'hks).toNat = 60 := by rw [h60]; rfl
          clear hc h60 hR
          go_wp2
          go_roundw
          case rel => exact ⟨k + 1, k, by omega, by go_num, rfl, by omega, by omega, RS, by first | rfl | trivial⟩
          case measure => simp [intOf]; omega
        · have RS := hR.out.skip (fun _ => by rw [hc]; simpa using h60) (fun e => absurd rfl e)
          have RS := Lib.hid RS
          have hx : (((s[k]'hks).toNat : Int) == 60) = false := by
            rw [beq_eq_false_iff_ne]
            intro e
            exact h60 (by rw [← UInt8.toNat_inj]; show _ = 60; omega)
          clear hc h60 hR
          go_wp2
          all_goals
            go_roundw
            case rel => exact ⟨k + 1, -1, by omega, by go_num, rfl, by omega, by omega, RS, by first | rfl | trivial⟩
            case measure => simp [intOf]; omega
      · by_cases h62 : s[k]'hks = 62
        · obtain ⟨m', hm', hmk, hst⟩ := hR.out.shut (by omega) (by rw [hc, h62])
          obtain rfl : m = m' := by omega
          have hx : (s[k]'hks).toNat = 62 := by rw [h62]; rfl
          by_cases hkm : k = m + 1
          · rw [if_pos hkm] at hst
            have hv := Lib.hid (stampV_none hst)
            have hne : ((k : Int) == (m : Int) + 1) = true := by
              rw [beq_iff_eq]
              omega
            clear hc h62 hR hst hm' hkm
            go_wp2
            go_ret2
            exact ⟨(congrArg Ending.returned hv.out).symm, rfl⟩
          · rw [if_neg hkm] at hst
            have hv := stampV_some hst
            have hX : sv ((l.drop m).take (k + 1 - m)) = .string (s.extract m (k + 1)) := by
              rw [Lib.extract_eq, ← HL.out]
              rfl
            rw [hX] at hv
            have HV := Lib.hid hv
            have hne : ((k : Int) == (m : Int) + 1) = false := by
              rw [beq_eq_false_iff_ne]
              omega
            clear hc h62 hR hst hm' hX hv hkm
            go_wp2
            go_ret2
            exact ⟨(congrArg Ending.returned HV.out).symm, rfl⟩
        · have RS := hR.out.skip (fun e => by omega) (fun _ => by rw [hc]; simpa using h62)
          have RS := Lib.hid RS
          have hx : (((s[k]'hks).toNat : Int) == 62) = false := by
            rw [beq_eq_false_iff_ne]
            intro e
            exact h62 (by rw [← UInt8.toNat_inj]; show _ = 62; omega)
          clear hc h62 hR
          by_cases h60 : (((s[k]'hks).toNat : Int) == 60) = true
          · go_wp2
            go_roundw
            case rel => exact ⟨k + 1, m, by omega, by go_num, rfl, by omega, by omega, RS, by first | rfl | trivial⟩
            case measure => simp [intOf]; omega
          · have h60 : (((s[k]'hks).toNat : Int) == 60) = false := by simpa using h60
            go_wp2
            go_roundw
            case rel => exact ⟨k + 1, m, by omega, by go_num, rfl, by omega, by omega, RS, by first | rfl | trivial⟩
            case measure => simp [intOf]; omega
    · obtain rfl : k = n := by omega
      have hno := Au.Fr.none (l := l) (f := z) (by rw [HLL.out]; exact hR.out)
      have hv := Lib.hid (stampV_none hno)
      clear hno hR
      go_wp2
      go_ret2
      exact ⟨(congrArg Ending.returned hv.out).symm, rfl⟩
end Go.Proofs.YtjogdflhpciciaaDoor
