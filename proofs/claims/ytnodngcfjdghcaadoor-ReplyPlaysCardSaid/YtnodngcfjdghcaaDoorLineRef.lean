/- The reference's digit, rest and Status, walked. -/
import Derived.Test.YtnodngcfjdghcaaDoorSt3
import Derived.Test.YtnodngcfjdghcaaDoorIndex1
namespace Go.Proofs.YtnodngcfjdghcaaDoor
open Go.RowKit

theorem rdigit_any (c : UInt8) (w : World) : Calls Tryd.prog 27 #[.int .u8 (c.toNat : Int)] w fun e w' => e = .returned (.bool (Ln.digit c)) ∧ w' = w := by
  by_cases h1 : (48 : Int) ≤ (c.toNat : Int)
  · by_cases h2 : (c.toNat : Int) ≤ 57
    · have hv : Ln.digit c = true := Ln.digit_iff.2 ⟨by omega, by omega⟩
      rw [hv]
      clear hv
      go_enter Tryd.func27, Tryd.ntmps27
      go_wp2
      go_ret
      exact ⟨rfl, rfl⟩
    · have hv : Ln.digit c = false := by rw [Bool.eq_false_iff]; intro h; rw [Ln.digit_iff] at h; omega
      have h3 : ((c.toNat : Int) ≤ 57) = False := eq_false h2
      rw [hv]
      clear hv h2
      go_enter Tryd.func27, Tryd.ntmps27
      go_wp2
      go_ret
      exact ⟨rfl, rfl⟩
  · have hv : Ln.digit c = false := by rw [Bool.eq_false_iff]; intro h; rw [Ln.digit_iff] at h; omega
    have h3 : ((48 : Int) ≤ (c.toNat : Int)) = False := eq_false h1
    rw [hv]
    clear hv h1
    go_enter Tryd.func27, Tryd.ntmps27
    go_wp2
    go_ret
    exact ⟨rfl, rfl⟩

/-- What 'rest' tells. -/
def rsv (o : Option (List UInt8)) : Array Value := #[.string (ba (o.getD [])), .bool o.isSome]

set_option maxHeartbeats 1000000 in
theorem rrest_any (s b : List UInt8) (hs : s.length ≤ 16777216) (_hb : b.length ≤ 16) (w : World) :
    Calls Tryd.prog 26 #[.string (ba s), .string (ba b)] w fun e w' => e = .returned (.tuple (rsv (Ln.rest b s))) ∧ w' = w := by
  have z1 : (ba s).size = s.length := rfl
  have z2 : (ba b).size = b.length := rfl
  obtain ⟨n, hn⟩ : ∃ n, n = b.length := ⟨_, rfl⟩
  rw [← hn] at z2
  by_cases hlt : (s.length : Int) < (n : Int)
  · have hv : Ln.rest b s = none := by
      unfold Ln.rest
      rw [if_neg]
      intro h
      have := (List.isPrefixOf_iff_prefix.1 h).length_le
      omega
    rw [hv]
    clear hv hn
    go_enter Tryd.func26, Tryd.ntmps26
    go_wp2
    go_ret2
    exact ⟨rfl, rfl⟩
  have hge : (n : Int) ≤ (s.length : Int) := by omega
  have hx : (ba s).extract 0 n = ba (s.take n) := by rw [ba, ba_extract]; simp [ba]
  have hcmp : ((ba (s.take n)).toList == (ba b).toList) = decide (s.take n = b) := by
    rw [Lib.toList_data, Lib.toList_data, Bool.eq_iff_iff]
    show (s.take n == b) = true ↔ _
    simp
  obtain ⟨P, hP⟩ : ∃ P, P = ba (s.take n) := ⟨_, rfl⟩
  rw [← hP] at hx hcmp
  by_cases hp : s.take n = b
  · rw [decide_eq_true hp] at hcmp
    have hpre : b.isPrefixOf s = true := by rw [List.isPrefixOf_iff_prefix, ← hp]; exact List.take_prefix _ _
    by_cases he : s.length = n
    · have hv : Ln.rest b s = some [] := by
        unfold Ln.rest
        rw [if_pos hpre, ← hn, List.drop_of_length_le (by omega)]
      have he2 : ((s.length : Int) == (n : Int)) = true := beq_iff_eq.2 (by omega)
      rw [hv]
      clear hv hn he hp hpre hP
      go_enter Tryd.func26, Tryd.ntmps26
      go_wp2
      go_ret2
      exact ⟨rfl, rfl⟩
    · have he2 : ((s.length : Int) == (n : Int)) = false := beq_eq_false_iff_ne.2 (by omega)
      have he3 : ((s.length : Int) = (n : Int)) = False := eq_false (by omega)
      have hlt2 : n < s.length := by omega
      obtain ⟨x, hxx⟩ : ∃ x, x = s.getD n 0 := ⟨_, rfl⟩
      have hidx : ∀ h : n < (ba s).size, (ba s)[n]'h = x := fun h => by rw [byte_at, ba_list]; exact hxx.symm
      have hdrop : s.drop n = x :: s.drop (n + 1) := by
        rw [hxx, List.getD_eq_getElem?_getD, List.getElem?_eq_getElem hlt2]
        exact List.drop_eq_getElem_cons hlt2
      have hv : Ln.rest b s = if x = 32 then some (s.drop (n + 1)) else none := by
        unfold Ln.rest
        rw [if_pos hpre, ← hn, hdrop]
      have hx2 : (ba s).extract (n + 1) s.length = ba (s.drop (n + 1)) := by rw [ba, ba_extract]; simp [ba]
      have hli : (n : Int) < (s.length : Int) := by omega
      have hli2 : (n : Int) + 1 ≤ (s.length : Int) := by omega
      by_cases h32 : x = 32
      · subst h32
        rw [hv, if_pos rfl]
        clear hv hn he hp hpre hP hxx hdrop
        go_enter Tryd.func26, Tryd.ntmps26
        go_wp2
        go_ret2
        exact ⟨rfl, rfl⟩
      · rw [hv, if_neg h32]
        have k32 : (x.toNat : Int) ≠ 32 := fun e => h32 (UInt8.toNat_inj.1 (by show x.toNat = 32; omega))
        have k1 : ((x.toNat : Int) == 32) = false := beq_eq_false_iff_ne.2 k32
        have k2 : ((x.toNat : Int) = 32) = False := eq_false k32
        clear hv hn he hp hpre hP hxx hdrop h32 k32
        go_enter Tryd.func26, Tryd.ntmps26
        go_wp2
        go_ret2
        exact ⟨rfl, rfl⟩
  · rw [decide_eq_false hp] at hcmp
    have hv : Ln.rest b s = none := by
      unfold Ln.rest
      rw [if_neg]
      intro h
      exact hp (by rw [hn]; exact (List.prefix_iff_eq_take.1 (List.isPrefixOf_iff_prefix.1 h)).symm)
    rw [hv]
    clear hv hn hp hP
    go_enter Tryd.func26, Tryd.ntmps26
    go_wp2
    go_ret2
    exact ⟨rfl, rfl⟩
end Go.Proofs.YtnodngcfjdghcaaDoor
