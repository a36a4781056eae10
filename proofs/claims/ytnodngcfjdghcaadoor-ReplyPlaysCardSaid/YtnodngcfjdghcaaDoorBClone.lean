/- The library's calls of a body: bytes.Clone, strings.TrimPrefix; bytes as numbers. -/
import Derived.Test.YtnodngcfjdghcaaDoorRdB
import Derived.Test.YtnodngcfjdghcaaDoorStuffP
import Derived.Test.YtnodngcfjdghcaaDoorShelf
namespace Go.Proofs.YtnodngcfjdghcaaDoor
open Go.RowKit

/-- Bytes as numbers. -/
def nums (xs : List UInt8) : List Int := xs.map fun c => (c.toNat : Int)
theorem nums_len (xs : List UInt8) : (nums xs).length = xs.length := List.length_map _
theorem nums_byte (xs : List UInt8) : ∀ x ∈ nums xs, 0 ≤ x ∧ x < 256 := by
  intro x hx
  obtain ⟨c, _, rfl⟩ := List.mem_map.1 hx
  have := c.toNat_lt
  omega
theorem nums_at (xs : List UInt8) {j : Nat} (hj : j < xs.length) : (nums xs).getD j 0 = ((xs.getD j 0).toNat : Int) := by
  unfold nums
  rw [List.getD_eq_getElem?_getD, List.getD_eq_getElem?_getD, List.getElem?_map, List.getElem?_eq_getElem hj]
  rfl
theorem below_drewN (w : World) (q : Nat) : Below w.heap.size w (w.drewN q) := ⟨rfl, rfl, rfl, Nat.le_refl _, fun _ _ => rfl⟩

/-- 'bytes.Clone'. -/
theorem bclone_own (v : Value) (xs : List UInt8) (w : World) (h : Rd w v (xs.map bv)) (hs : xs.length ≤ 16777216) :
    Calls Tryd.prog 44 #[v] w fun e w' => ∃ ao c, e = .returned (.slice ao xs.length c) ∧ w'.ownsRow w.heap.size 5 1 (.slice ao xs.length c) xs.length (xs.map bv) ∧ Below w.heap.size w w' := by
  obtain ⟨ao, cap, rfl, hcap, hc⟩ := h.form
  cases ao with
  | none =>
    have h0 : xs = [] := by
      rcases Nat.eq_zero_or_pos xs.length with h0 | hp
      · exact List.eq_nil_of_length_eq_zero h0
      · obtain ⟨b, o, e, _⟩ := hc hp
        cases e
    subst h0
    refine (Tryd.bytes_Clone_nil _ cap w).mono ?_
    rintro e w' ⟨rfl, rfl⟩
    exact ⟨none, 0, rfl, World.ownsRow_nil _ _ _ _, Below.refl _ _⟩
  | some a =>
    refine (Tryd.bytes_Clone_at a xs.length cap (nums xs) w (nums_len _) (by omega) (fun i hi => ?_)).mono ?_
    · obtain ⟨b, o, e, _, hcell⟩ := hc (by omega)
      obtain rfl := Option.some.inj e
      rw [Addr.add_lit, hcell i hi, nums_at xs hi]
      rfl
    · rintro e w' ⟨v', rfl, ho, hne, hb⟩
      have e : (nums xs).map (Value.int .u8) = xs.map bv := by
        unfold nums
        rw [List.map_map]
        rfl
      rw [e] at ho
      obtain ⟨ao', cap', e2⟩ : ∃ ao cap, v' = .slice ao xs.length cap := by
        rcases ho.2 with ⟨e, hn⟩ | ⟨b, cap, cur, e, _, _, h1, h2, _⟩
        · exact ⟨none, 0, by rw [e, hn]⟩
        · exact ⟨_, cap, e⟩
      subst e2
      exact ⟨ao', cap', rfl, ho, hb⟩

theorem bclone_any (v : Value) (xs : List UInt8) (w : World) (h : Rd w v (xs.map bv)) (hs : xs.length ≤ 16777216) :
    Calls Tryd.prog 44 #[v] w fun e w' => ∃ ao c, e = .returned (.slice ao xs.length c) ∧ Rd w' (.slice ao xs.length c) (xs.map bv) ∧ Below w.heap.size w w' := by
  refine (bclone_own v xs w h hs).mono ?_
  rintro e w' ⟨ao, c, rfl, ho, hb⟩
  exact ⟨ao, c, rfl, .of_own ho, hb⟩

/-- 'strings.TrimPrefix' of a dot. -/
theorem trim_dot (s : ByteArray) (w : World) :
    Calls Tryd.prog 43 #[.string s, .string ⟨#[46]⟩] w fun e w' => e = .returned (sv (St.bare s.data.toList)) ∧ w = w' := by
  refine (Tryd.strings_TrimPrefix s ⟨#[46]⟩ w).mono ?_
  rintro e w' ⟨rfl, rfl⟩
  have h : Lib.trimPrefix s.data.toList [46] = St.bare s.data.toList := by
    unfold Lib.trimPrefix Lib.hasPrefix St.bare
    cases hs : s.data.toList with
    | nil => rfl
    | cons x xs =>
      by_cases hx : x = 46
      · subst hx; simp
      · have hx2 : ¬ 46 = x := fun e => hx e.symm
        simp [hx, hx2]
  rw [← h]
  exact ⟨rfl, rfl⟩

end Go.Proofs.YtnodngcfjdghcaaDoor
