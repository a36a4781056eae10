/- The library's calls of stuff: bytes.Index of an end, bytes.HasPrefix, bytes.HasSuffix, bytes.Clone, strings.TrimPrefix. -/
import Derived.Test.YthfefbpfgepbjaaMx
import Derived.Test.YthfefbpfgepbjaaRdB
import Derived.Test.YthfefbpfgepbjaaStuffP
import Derived.Test.YthfefbpfgepbjaaShelf
import Derived.Lib.IndexMore
namespace Go.Proofs.Ythfefbpfgepbjaa
open Go.RowKit

/-- Bytes as numbers. -/
def nums (xs : List UInt8) : List Int := xs.map fun c => (c.toNat : Int)
theorem nums_len (xs : List UInt8) : (nums xs).length = xs.length := List.length_map _
theorem bytes_nums (xs : List UInt8) : Lib.bytesOf (nums xs) = xs := by
  unfold Lib.bytesOf nums
  rw [List.map_map]
  conv => rhs; rw [← List.map_id xs]
  apply List.map_congr_left
  intro c _
  simp
theorem nums_byte (xs : List UInt8) : ∀ x ∈ nums xs, 0 ≤ x ∧ x < 256 := by
  intro x hx
  obtain ⟨c, _, rfl⟩ := List.mem_map.1 hx
  have := c.toNat_lt
  omega
theorem nums_at (xs : List UInt8) {j : Nat} (hj : j < xs.length) : (nums xs).getD j 0 = ((xs.getD j 0).toNat : Int) := by
  unfold nums
  rw [List.getD_eq_getElem?_getD, List.getD_eq_getElem?_getD, List.getElem?_map, List.getElem?_eq_getElem hj]
  rfl
theorem Rd.bytesIn {w : World} {ao : Option Addr} {n cap : Nat} {xs : List UInt8} (h : Rd w (.slice ao n cap) (xs.map bv)) (hn : n = xs.length) : Lib.BytesIn w ao n (nums xs) := by
  obtain ⟨ao', cap', e, _, hc⟩ := h.form
  simp only [Value.slice.injEq] at e
  obtain ⟨rfl, _, rfl⟩ := e
  subst hn
  rcases Nat.eq_zero_or_pos xs.length with h0 | hp
  · obtain rfl := List.eq_nil_of_length_eq_zero h0
    exact Lib.BytesIn.nil _ _ _
  · obtain ⟨b, o, rfl, _, hcell⟩ := hc hp
    exact Lib.BytesIn.of_cells fun i hi => by rw [Addr.add_lit, hcell i hi, nums_at xs hi]; rfl

theorem below_drewN (w : World) (q : Nat) : Below w.heap.size w (w.drewN q) := ⟨rfl, rfl, rfl, Nat.le_refl _, fun _ _ => rfl⟩

/-- 'bytes.Index' of two bytes. -/
theorem index_any (v v2 : Value) (xs : List UInt8) (a c : UInt8) (w : World) (h : Rd w v (xs.map bv)) (hp : 0 < xs.length) (hs : xs.length ≤ 16777216) (h2 : Rd w v2 ([a, c].map bv)) (hm : MX w) :
    Calls Try.prog 27 #[v, v2] w fun e w' => e = .returned (.int .i64 (Lib.index xs [a, c])) ∧ Below w.heap.size w w' := by
  obtain ⟨m, hm⟩ := hm
  obtain ⟨ao, cap, rfl, hcap, hc⟩ := h.form
  obtain ⟨b, o, rfl, _, hcell⟩ := hc hp
  obtain ⟨ao2, cap2, rfl, hcap2, hc2⟩ := h2.form
  obtain ⟨b2, o2, rfl, _, hcell2⟩ := hc2 (Nat.zero_lt_succ _)
  refine (Try.bytes_Index_at ⟨b, o, none⟩ ⟨b2, o2, none⟩ xs.length cap 2 cap2 (nums xs) (nums [a, c]) m w (nums_len _) rfl (nums_byte _) (nums_byte _) (fun i hi => ?_) (fun i hi => ?_) hcap (by omega) (by decide) hm).mono ?_
  · rw [Addr.add_lit, hcell i hi, nums_at xs hi]; rfl
  · rw [Addr.add_lit, hcell2 i hi, nums_at [a, c] hi]; rfl
  · rintro e w' ⟨rfl, q, rfl⟩
    rw [bytes_nums, bytes_nums]
    exact ⟨rfl, below_drewN _ _⟩

/-- 'bytes.HasPrefix'. -/
theorem bprefix_any (v v2 : Value) (xs ys : List UInt8) (w : World) (h : Rd w v (xs.map bv)) (h2 : Rd w v2 (ys.map bv)) :
    Calls Try.prog 21 #[v, v2] w fun e w' => e = .returned (.bool (ys.isPrefixOf xs)) ∧ w = w' := by
  obtain ⟨ao, cap, rfl, hcap, _⟩ := h.form
  obtain ⟨ao2, cap2, rfl, hcap2, _⟩ := h2.form
  refine (Try.bytes_HasPrefix_all ao ao2 xs.length cap ys.length cap2 (nums xs) (nums ys) w (nums_len _) (nums_len _) hcap (h.bytesIn rfl) (h2.bytesIn rfl)).mono ?_
  rintro e w' ⟨rfl, rfl⟩
  rw [bytes_nums, bytes_nums]
  exact ⟨rfl, rfl⟩
/-- 'bytes.HasSuffix'. -/
theorem bsuffix_any (v v2 : Value) (xs ys : List UInt8) (w : World) (h : Rd w v (xs.map bv)) (h2 : Rd w v2 (ys.map bv)) (hs : xs.length ≤ maxLen) :
    Calls Try.prog 23 #[v, v2] w fun e w' => e = .returned (.bool (ys.isSuffixOf xs)) ∧ w = w' := by
  unfold maxLen at hs
  obtain ⟨ao, cap, rfl, hcap, _⟩ := h.form
  obtain ⟨ao2, cap2, rfl, hcap2, _⟩ := h2.form
  refine (Try.bytes_HasSuffix_all ao ao2 xs.length cap ys.length cap2 (nums xs) (nums ys) w (nums_len _) (nums_len _) hcap (by omega) (h.bytesIn rfl) (h2.bytesIn rfl)).mono ?_
  rintro e w' ⟨rfl, rfl⟩
  rw [bytes_nums, bytes_nums]
  exact ⟨rfl, rfl⟩

/-- 'bytes.Clone'. -/
theorem bclone_any (v : Value) (xs : List UInt8) (w : World) (h : Rd w v (xs.map bv)) (hs : xs.length ≤ 16777216) :
    Calls Try.prog 24 #[v] w fun e w' => ∃ ao c, e = .returned (.slice ao xs.length c) ∧ Rd w' (.slice ao xs.length c) (xs.map bv) ∧ Below w.heap.size w w' := by
  obtain ⟨ao, cap, rfl, hcap, hc⟩ := h.form
  cases ao with
  | none =>
    have h0 : xs = [] := by
      rcases Nat.eq_zero_or_pos xs.length with h0 | hp
      · exact List.eq_nil_of_length_eq_zero h0
      · obtain ⟨b, o, e, _⟩ := hc hp
        cases e
    subst h0
    refine (Try.bytes_Clone_nil _ cap w).mono ?_
    rintro e w' ⟨rfl, rfl⟩
    exact ⟨none, 0, rfl, .inl ⟨rfl, none, 0, fun _ => rfl, rfl⟩, Below.refl _ _⟩
  | some a =>
    refine (Try.bytes_Clone_at a xs.length cap (nums xs) w (nums_len _) (by omega) (fun i hi => ?_)).mono ?_
    · obtain ⟨b, o, e, _, hcell⟩ := hc (by omega)
      obtain rfl := Option.some.inj e
      rw [Addr.add_lit, hcell i hi, nums_at xs hi]
      rfl
    · rintro e w' ⟨v', rfl, ho, hne, hb⟩
      have hr := Rd.of_own ho
      have e : (nums xs).map (Value.int .u8) = xs.map bv := by
        unfold nums
        rw [List.map_map]
        rfl
      rw [e] at hr
      obtain ⟨ao', cap', rfl, _⟩ := hr.form
      exact ⟨ao', cap', rfl, hr, hb⟩

/-- 'strings.TrimPrefix' of a dot. -/
theorem trim_dot (s : ByteArray) (w : World) :
    Calls Try.prog 26 #[.string s, .string ⟨#[46]⟩] w fun e w' => e = .returned (sv (St.bare s.data.toList)) ∧ w = w' := by
  refine (Try.strings_TrimPrefix s ⟨#[46]⟩ w).mono ?_
  rintro e w' ⟨rfl, rfl⟩
  have h : Lib.trimPrefix s.data.toList [46] = St.bare s.data.toList := by
    unfold Lib.trimPrefix Lib.hasPrefix St.bare
    cases hs : s.data.toList with
    | nil => rfl
    | cons x xs =>
      by_cases hx : x = 46
      · subst hx; simp
      · have hx2 : ¬ 46 = x := fun e => hx e.symm
        simp [hx, hx2]
  rw [← h]
  exact ⟨rfl, rfl⟩

namespace St
theorem dot_prefix (xs : List UInt8) : ([46] : List UInt8).isPrefixOf xs = decide (xs.head? = some 46) := by
  cases xs with
  | nil => rfl
  | cons x xs =>
    by_cases hx : x = 46
    · subst hx; simp
    · have hx2 : (46 == x) = false := beq_eq_false_iff_ne.2 fun e => hx e.symm
      show ((46 == x) && _) = _
      rw [hx2]
      simp [hx]
theorem end_suffix (xs : List UInt8) : ([13, 10] : List UInt8).isSuffixOf xs = ends xs := by
  rw [Bool.eq_iff_iff, List.isSuffixOf_iff_suffix, ends_iff]
  constructor
  · rintro ⟨ys, h⟩; exact ⟨ys, h.symm⟩
  · rintro ⟨ys, h⟩; exact ⟨ys, h.symm⟩
end St
end Go.Proofs.Ythfefbpfgepbjaa
