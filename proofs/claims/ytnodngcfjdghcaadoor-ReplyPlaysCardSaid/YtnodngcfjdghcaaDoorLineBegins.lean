/- line.beginsCode walked. -/
import Derived.Test.YtnodngcfjdghcaaDoorTrimSet
import Derived.Test.YtnodngcfjdghcaaDoorLineP
namespace Go.Proofs.YtnodngcfjdghcaaDoor
open Go.RowKit

theorem digit_contains (x : UInt8) : [48, 49, 50, 51, 52, 53, 54, 55, 56, 57].contains x = Ln.digit x := by
  have h : ∀ n : Fin 256, [48, 49, 50, 51, 52, 53, 54, 55, 56, 57].contains (UInt8.ofNat n.val) = Ln.digit (UInt8.ofNat n.val) := by decide +kernel
  have := h ⟨x.toNat, x.toNat_lt⟩
  simpa using this
theorem pattern_one (a : UInt8) (r : List UInt8) : Ln.pattern 1 (a :: r) = (Ln.first a && r.all Ln.digit && decide (r.length ≤ 2)) := rfl

set_option maxHeartbeats 2000000 in
theorem begins_any (l : List UInt8) (hl : l.length ≤ 16777216) (w : World) :
    Calls Tryd.prog 34 #[.string ⟨l.toArray⟩] w fun e w' => e = .returned (.bool (Ln.pattern 1 l)) ∧ Below w.heap.size w w' := by
  cases l with
  | nil =>
    have hz : (⟨([] : List UInt8).toArray⟩ : ByteArray).toList.isEmpty = true := by rw [Lib.toList_data]; rfl
    go_enter Tryd.func34, Tryd.ntmps34
    go_wp2
    go_ret
    exact ⟨rfl, Below.refl _ _⟩
  | cons a r =>
    obtain ⟨q, hq⟩ : ∃ q, q = a :: r := ⟨_, rfl⟩
    have hqe : q.isEmpty = false := by rw [hq]; rfl
    have hz : (⟨q.toArray⟩ : ByteArray).size = r.length + 1 := by show q.toArray.size = _; rw [hq]; simp
    have hx : ∀ h, (⟨q.toArray⟩ : ByteArray)[0]'h = a := fun h => by rw [byte_at, hq]; rfl
    have hT := sTrim ls q (by rw [hq]; exact hl) (by rw [hq]; simp) ⟨#[48, 49, 50, 51, 52, 53, 54, 55, 56, 57]⟩ (by decide) (by decide) (fun j b hb => by have := (List.all_eq_true.1 (show ([48, 49, 50, 51, 52, 53, 54, 55, 56, 57] : List UInt8).all (fun c => decide (c.toNat < 128)) = true by decide)) b (List.mem_of_getElem? hb); simpa using this) w
    have hrl : r.length + 1 ≤ 16777216 := hl
    have hp := pattern_one a r
    have hd : q.all ([48, 49, 50, 51, 52, 53, 54, 55, 56, 57].contains) = (Ln.digit a && r.all Ln.digit) := by
      rw [show ([48, 49, 50, 51, 52, 53, 54, 55, 56, 57] : List UInt8).contains = Ln.digit from funext digit_contains, hq, List.all_cons]
    rw [← hq]
    rw [← hq] at hp
    have HD := Lib.hid hd
    have HP := Lib.hid hp
    clear hq hl hd hp
    by_cases h3 : (3 : Int) < (r.length : Int) + 1
    · have hv : Ln.pattern 1 q = false := by rw [HP.out, decide_eq_false (show ¬ r.length ≤ 2 by omega), Bool.and_false]
      rw [hv]
      clear hv
      go_enter Tryd.func34, Tryd.ntmps34
      go_wp2
      go_ret
      exact ⟨rfl, Below.refl _ _⟩
    by_cases h1 : (a.toNat : Int) < 49
    · have hv : Ln.pattern 1 q = false := by rw [HP.out, show Ln.first a = false by rw [Bool.eq_false_iff]; intro h; rw [Ln.first_iff] at h; omega]; rfl
      rw [hv]
      clear hv
      go_enter Tryd.func34, Tryd.ntmps34
      go_wp2
      go_ret
      exact ⟨rfl, Below.refl _ _⟩
    by_cases h5 : (53 : Int) < (a.toNat : Int)
    · have hv : Ln.pattern 1 q = false := by rw [HP.out, show Ln.first a = false by rw [Bool.eq_false_iff]; intro h; rw [Ln.first_iff] at h; omega]; rfl
      rw [hv]
      clear hv
      go_enter Tryd.func34, Tryd.ntmps34
      go_wp2
      go_ret
      exact ⟨rfl, Below.refl _ _⟩
    have hf : Ln.first a = true := Ln.first_iff.2 ⟨by omega, by omega⟩
    have hv : Ln.pattern 1 q = q.all ([48, 49, 50, 51, 52, 53, 54, 55, 56, 57].contains) := by
      rw [HP.out, HD.out, hf, Ln.first_digit hf, decide_eq_true (show r.length ≤ 2 by omega), Bool.and_true]
    rw [hv]
    clear hv hf
    go_enter Tryd.func34, Tryd.ntmps34
    go_wp2_with (go_at_call 40; refine hT.mono ?_; rintro e w' ⟨x, rfl, h, hxl, hb⟩)
    go_ret
    refine ⟨ret_b ?_, hb⟩
    show x.isEmpty = _
    cases hx2 : q.all ([48, 49, 50, 51, 52, 53, 54, 55, 56, 57].contains) with
    | true => rw [h.2 hx2]; rfl
    | false =>
      cases x with
      | nil => exact absurd (h.1 rfl) (by show ¬ q.all ([48, 49, 50, 51, 52, 53, 54, 55, 56, 57].contains) = true; rw [hx2]; simp)
      | cons _ _ => rfl
end Go.Proofs.YtnodngcfjdghcaaDoor
