/- When it is too late, and how many may wait: Due, Window, walked. -/
import Derived.Test.YtimieknphedniaaPipeW
namespace Go.Proofs.Ytimieknphedniaa
open Go.RowKit

def dues (l : List Wt) : List Int := l.map (·.due)

theorem window_any (p a : Int) (b : Bool) (w : World) : Calls Try.prog 18 #[.int .i64 p, .int .i64 a, .bool b] w fun e w' => e = .returned (.int .i64 (Pi.window (p == 3) b a)) ∧ w = w' := by
  unfold Pi.window
  by_cases h : p = 3
  · subst h
    show Calls _ _ _ _ fun e w' => e = .returned (.int .i64 1) ∧ _
    go_enter Try.func18, Try.ntmps18
    go_wp2
    go_ret
    exact ⟨rfl, rfl⟩
  · have h1 : (p == 3) = false := beq_eq_false_iff_ne.2 h
    have h2 : (p = 3) = False := eq_false h
    rw [h1]
    cases b with
    | false =>
      show Calls _ _ _ _ fun e w' => e = .returned (.int .i64 1) ∧ _
      go_enter Try.func18, Try.ntmps18
      go_wp2
      go_ret
      exact ⟨rfl, rfl⟩
    | true =>
      show Calls _ _ _ _ fun e w' => e = .returned (.int .i64 (min (max a 1) 8)) ∧ _
      go_enter Try.func18, Try.ntmps18
      go_wp2
      all_goals
        go_ret
        exact ⟨ret_i (by omega), rfl⟩

section
variable {w : World} {g : Nat} {l : List Wt}
theorem due_any (h : PO w g l) : Calls Try.prog 16 #[.pointer (some ⟨g, 0, none⟩)] w fun e w' => e = .returned (.int .i64 (Pi.due (dues l))) ∧ w = w' := by
  have c0 := h.cnt
  have hx : ∀ k x, l[k]? = some x → w.cell? ⟨g, k * 4 + 3, none⟩ = some (.int .i64 x.due) := fun k x hk => h.at (full_at hk) (i := 3) rfl
  have hs : ∀ k x, l[k]? = some x → Pi.due ((dues l).take (k + 1)) = min (Pi.due ((dues l).take k)) x.due := fun k x hk => by
    obtain ⟨hkl, rfl⟩ := List.getElem?_eq_some_iff.1 hk
    have := Pi.due_take (dues l) k (by rw [dues, List.length_map]; exact hkl)
    simpa [dues] using this
  have hall : (dues l).take l.length = dues l := List.take_of_length_le (by simp [dues])
  have hle := h.le
  have HX := Lib.hid hx
  have HS := Lib.hid hs
  clear hx hs h
  generalize hn : l.length = n at *
  have HN := Lib.hid hn
  clear hn
  have HA := Lib.hid hall
  clear hall
  go_enter Try.func16, Try.ntmps16
  go_wp2
  go_loop [9, 4, 3] (fun i _ d => ∃ k : Nat, k ≤ n ∧ i = .int .i64 (k : Int) ∧ d = .int .i64 (Pi.due ((dues l).take k))) (fun i _ _ => n - (intOf i).toNat)
  case atStart => exact ⟨0, Nat.zero_le _, rfl, rfl⟩
  case round =>
    obtain ⟨k, hk, rfl, rfl⟩ := hrel
    by_cases hlt : k < n
    · obtain ⟨x, hx⟩ : ∃ x, l[k]? = some x := ⟨_, List.getElem?_eq_getElem (by rw [HN.out]; exact hlt)⟩
      have y0 := HX.out k x hx
      have hst := HS.out k x hx
      obtain ⟨e, he⟩ : ∃ e, e = x.due := ⟨_, rfl⟩
      rw [← he] at y0 hst
      have HST := Lib.hid hst
      clear hst hx he
      generalize Pi.due ((dues l).take k) = D at *
      have h8 : (k : Int) < 8 := by omega
      go_wp2
      go_roundw
      case rel => exact ⟨k + 1, hlt, by go_num, by rw [HST.out]; exact congrArg (Value.int .i64) (by omega)⟩
      case measure => simp [intOf]; omega
    · obtain rfl : k = n := by omega
      rw [HA.out]
      go_wp2
      go_ret
      exact ⟨rfl, rfl⟩
end
end Go.Proofs.Ytimieknphedniaa
