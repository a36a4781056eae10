/- The small functions of the laws of layer 12, walked. -/
import Derived.Test.YtomeoploojjacaaDoorCapsOf
import Derived.Test.YtomeoploojjacaaDoorCapsHasC
import Derived.Test.YtomeoploojjacaaDoorBa
import Derived.Lib.SmallJoins
namespace Go.Proofs.YtomeoploojjacaaDoor
open Go.RowKit

/-- At most 200 bytes. -/
theorem cshort_any (s : ByteArray) (w : World) :
    Calls Tryd.prog 10 #[.string s] w fun e w' => ∃ x : List UInt8, e = .returned (sv x) ∧ x.length ≤ 200 ∧ w' = w := by
  by_cases h : (200 : Int) < s.size
  · have h2 : (200 : Int) ≤ s.size := by omega
    have e : Value.string (s.extract 0 200) = sv (s.data.toList.take 200) := by
      rw [sv, Lib.extract_eq]
      rfl
    have HE := Lib.hid e
    clear e
    go_enter Tryd.func10, Tryd.ntmps10
    go_wp2
    go_ret
    exact ⟨_, congrArg Ending.returned HE.out, List.length_take_le _ _, rfl⟩
  · have h2 : ((200 : Int) < s.size) = False := eq_false h
    have h3 : s.data.toList.length ≤ 200 := by rw [← Lib.size_eq]; omega
    clear h
    go_enter Tryd.func10, Tryd.ntmps10
    go_wp2
    go_ret
    exact ⟨s.data.toList, rfl, h3, rfl⟩

theorem one_byte_at (s : ByteArray) (k : Nat) (h : k < s.size) : s.extract k (k + 1) = ⟨[s[k]'h].toArray⟩ := by
  have e : s.data.toList.drop k = (s[k]'h) :: s.data.toList.drop (k + 1) := by
    rw [List.drop_eq_getElem_cons (by rw [← Lib.size_eq]; exact h)]
    rfl
  rw [Lib.extract_eq, e, show k + 1 - k = 1 from by omega]
  rfl
set_option maxRecDepth 20000 in
/-- A text without CRs and LFs, at most 200 bytes. -/
theorem bare_any (s : ByteArray) (w : World) :
    Calls Tryd.prog 17 #[.string s] w fun e w' => ∃ x : List UInt8, e = .returned (sv x) ∧ x.length ≤ 200 ∧ (∀ b ∈ x, b ≠ 13 ∧ b ≠ 10) ∧ w' = w := by
  go_enter Tryd.func17, Tryd.ntmps17
  go_wp2
  go_loopw [3, 4] (fun o i wr => ∃ (k m : Nat) (x : ByteArray), k ≤ s.size ∧ k ≤ 200 ∧ i = .int .i64 k ∧ o = .string x ∧ x.size = m ∧ m ≤ k ∧ Hid (∀ b ∈ x.data.toList, b ≠ 13 ∧ b ≠ 10) ∧ wr = w) (fun _ i _ => 200 - (intOf i).toNat)
  case atStart => exact ⟨0, 0, ⟨#[]⟩, Nat.zero_le _, Nat.zero_le _, rfl, rfl, rfl, Nat.le_refl _, (fun b hb => by simp at hb), rfl⟩
  case round =>
    obtain ⟨k, m, x, hk1, hk2, rfl, rfl, hm, hmk, HX, rfl⟩ := hrel
    by_cases hlt : k < s.size
    · by_cases h2 : k < 200
      · have hone := one_byte_at s k hlt
        obtain ⟨c, hc⟩ : ∃ c, c = s[k]'hlt := ⟨_, rfl⟩
        have hci : ∀ z : UInt8, c = z → (((s[k]'hlt).toNat : Int) != (z.toNat : Int)) = false := fun z e => by rw [← hc, e]; simp
        have hcn : ∀ z : UInt8, c ≠ z → (((s[k]'hlt).toNat : Int) != (z.toNat : Int)) = true := fun z e => by
          rw [← hc]
          exact bne_iff_ne.2 fun e2 => e (UInt8.toNat_inj.1 (by omega))
        rw [← hc] at hone
        by_cases h13 : c = 13
        · have q1 : (((s[k]'hlt).toNat : Int) != 13) = false := hci 13 h13
          clear hone hci hcn h13 hc
          go_wp2
          go_roundw
          case rel => exact ⟨k + 1, m, x, by omega, by omega, by go_num, rfl, hm, by omega, HX.out, trivial⟩
          case measure => simp [intOf]; omega
        · have q1 : (((s[k]'hlt).toNat : Int) != 13) = true := hcn 13 h13
          by_cases h10 : c = 10
          · have q2 : (((s[k]'hlt).toNat : Int) != 10) = false := hci 10 h10
            clear hone hci hcn h13 h10 hc
            go_wp2
            go_roundw
            case rel => exact ⟨k + 1, m, x, by omega, by omega, by go_num, rfl, hm, by omega, HX.out, trivial⟩
            case measure => simp [intOf]; omega
          · have q2 : (((s[k]'hlt).toNat : Int) != 10) = true := hcn 10 h10
            have HY := Lib.hid (show ∀ b ∈ (x ++ (⟨[c].toArray⟩ : ByteArray)).data.toList, b ≠ 13 ∧ b ≠ 10 by
              intro b hb
              rw [Go.Joins.data_append] at hb
              rcases List.mem_append.1 hb with hb | hb
              · exact HX.out b hb
              · rw [List.mem_singleton.1 hb]
                exact ⟨h13, h10⟩)
            have hsz : (⟨[c].toArray⟩ : ByteArray).size = 1 := rfl
            have hxs : (x ++ (⟨[c].toArray⟩ : ByteArray)).size = m + 1 := by rw [ByteArray.size_append, hm, hsz]
            have HXS := Lib.hid hxs
            clear hci hcn h13 h10 hc hxs
            go_wp2
            go_roundw
            case rel => exact ⟨k + 1, m + 1, _, by omega, by omega, by go_num, rfl, HXS.out, by omega, HY.out, trivial⟩
            case measure => simp [intOf]; omega
      · go_wp2
        go_ret
        exact ⟨x.data.toList, rfl, by rw [← Lib.size_eq]; omega, HX.out, rfl⟩
    · go_wp2
      go_ret
      exact ⟨x.data.toList, rfl, by rw [← Lib.size_eq]; omega, HX.out, rfl⟩

set_option maxRecDepth 20000 in
/-- Letters A to Z, at most twelve. -/
theorem letters_any (s : ByteArray) (w : World) (hs0 : s.size ≤ maxLen) :
    Calls Tryd.prog 19 #[.string s] w fun e w' => ∃ x : List UInt8, e = .returned (sv x) ∧ x.length ≤ 12 ∧ (∀ b ∈ x, 65 ≤ b.toNat ∧ b.toNat ≤ 90) ∧ w' = w := by
  have hs : s.size ≤ 9223372036854775807 := by unfold maxLen at hs0; omega
  clear hs0
  go_enter Tryd.func19, Tryd.ntmps19
  go_wp2
  go_loopw [3, 4] (fun o i wr => ∃ (k m : Nat) (x : ByteArray), k ≤ s.size ∧ i = .int .i64 k ∧ o = .string x ∧ x.size = m ∧ m ≤ 12 ∧ Hid (∀ b ∈ x.data.toList, 65 ≤ b.toNat ∧ b.toNat ≤ 90) ∧ wr = w) (fun _ i _ => s.size - (intOf i).toNat)
  case atStart => exact ⟨0, 0, ⟨#[]⟩, Nat.zero_le _, rfl, rfl, rfl, Nat.zero_le _, (fun b hb => by simp at hb), rfl⟩
  case round =>
    obtain ⟨k, m, x, hk1, rfl, rfl, hm, hmk, HX, rfl⟩ := hrel
    by_cases hlt : k < s.size
    · by_cases h2 : m < 12
      · have hone := one_byte_at s k hlt
        obtain ⟨c, hc⟩ : ∃ c, c = s[k]'hlt := ⟨_, rfl⟩
        rw [← hc] at hone
        have hcn : ((s[k]'hlt).toNat : Int) = (c.toNat : Int) := by rw [hc]
        by_cases h65 : 65 ≤ c.toNat
        · have q1 : ((65 : Int) ≤ ((s[k]'hlt).toNat : Int)) = True := eq_true (by omega)
          by_cases h90 : c.toNat ≤ 90
          · have q2 : (((s[k]'hlt).toNat : Int) ≤ 90) = True := eq_true (by omega)
            have HY := Lib.hid (show ∀ b ∈ (x ++ (⟨[c].toArray⟩ : ByteArray)).data.toList, 65 ≤ b.toNat ∧ b.toNat ≤ 90 by
              intro b hb
              rw [Go.Joins.data_append] at hb
              rcases List.mem_append.1 hb with hb | hb
              · exact HX.out b hb
              · rw [List.mem_singleton.1 hb]
                exact ⟨h65, h90⟩)
            have hsz : (⟨[c].toArray⟩ : ByteArray).size = 1 := rfl
            have hxs : (x ++ (⟨[c].toArray⟩ : ByteArray)).size = m + 1 := by rw [ByteArray.size_append, hm, hsz]
            have HXS := Lib.hid hxs
            clear hcn h65 h90 hc hxs
            go_wp2
            go_roundw
            case rel => exact ⟨k + 1, m + 1, _, by omega, by go_num, rfl, HXS.out, by omega, HY.out, trivial⟩
            case measure => simp [intOf]; omega
          · have q2 : (((s[k]'hlt).toNat : Int) ≤ 90) = False := eq_false (by omega)
            clear hone hcn h65 h90 hc
            go_wp2
            go_roundw
            case rel => exact ⟨k + 1, m, x, by omega, by go_num, rfl, hm, hmk, HX.out, trivial⟩
            case measure => simp [intOf]; omega
        · have q1 : ((65 : Int) ≤ ((s[k]'hlt).toNat : Int)) = False := eq_false (by omega)
          clear hone hcn h65 hc
          go_wp2
          go_roundw
          case rel => exact ⟨k + 1, m, x, by omega, by go_num, rfl, hm, hmk, HX.out, trivial⟩
          case measure => simp [intOf]; omega
      · go_wp2
        go_ret
        exact ⟨x.data.toList, rfl, by rw [← Lib.size_eq]; omega, HX.out, rfl⟩
    · go_wp2
      go_ret
      exact ⟨x.data.toList, rfl, by rw [← Lib.size_eq]; omega, HX.out, rfl⟩

/-- Texts in a new block, as a slice of them. -/
theorem Rd.rowOf (w : World) (ls : List (List UInt8)) (fr : Nat × Nat) (t : TypeId) (hl : ls.length ≤ 1000) : Rd (w.alloc (.cells (ls.map sv).toArray t fr)) (.slice (some ⟨w.heap.size, 0, none⟩) ls.length ls.length) (ls.map sv) :=
  .inr ⟨_, 0, ls.length, by rw [List.length_map], by rw [List.length_map]; exact Nat.le_refl _, by unfold maxLen; omega, fun j u hj => by
    rw [cell_of_row _ _ _ _ _ _ (heap_alloc_new w _), Nat.zero_add]
    simpa using hj⟩
/-- Of, of lines told in a new row (Smtp). -/
theorem of_row (proto : Int) (ls : List (List UInt8)) (w : World) (h1 : ls.length ≤ 1000) (h3 : ∀ x ∈ ls, x.length ≤ 1000) (hm : MX w) :
    Calls Tryd.prog 11 #[.int .i64 proto, .agg #[.string ⟨#[]⟩, .slice (some ⟨w.heap.size, 0, none⟩) ls.length ls.length, .slice none 0 0]] (w.alloc (.cells (ls.map sv).toArray 9 (0, 0))) fun e w' => ∃ v, e = .returned v ∧ CL w' v (Cp.of proto ls []) ∧ Below w.heap.size w w' := by
  have hal : Below w.heap.size w (w.alloc (.cells (ls.map sv).toArray 9 (0, 0))) := (Below.refl _ _).alloc (Nat.le_refl _) _
  refine (of_any proto ⟨#[]⟩ _ _ ls [] _ (Rd.rowOf w ls (0, 0) 9 h1) (.inl ⟨rfl, _, _, fun _ => rfl, rfl⟩) h1 (by simp) h3 (hm.below hal)).mono ?_
  rintro e w' ⟨v, rfl, hc, hb⟩
  exact ⟨v, rfl, hc, hal.trans (hb.mono hal.size)⟩

set_option maxHeartbeats 1000000 in
theorem cshown_any (w : World) (hm : MX w) : Calls Tryd.prog 8 #[] w fun e w' => e = .returned (.bool true) ∧ Below w.heap.size w w' := by
  have C1 := Lib.hid (of_row 1 [[109, 101], [65, 85, 84, 72, 32, 112, 108, 97, 105, 110, 32, 76, 79, 71, 73, 78]] w (by decide) (by decide) hm)
  have hcs : Cp.of 1 [[109, 101], [65, 85, 84, 72, 32, 112, 108, 97, 105, 110, 32, 76, 79, 71, 73, 78]] [] = [⟨[65, 85, 84, 72], [[80, 76, 65, 73, 78], [76, 79, 71, 73, 78]]⟩] := by kernel_rfl
  rw [hcs] at C1
  have e1 : Cp.has [⟨[65, 85, 84, 72], [[80, 76, 65, 73, 78], [76, 79, 71, 73, 78]]⟩] (⟨#[97, 117, 116, 104, 32, 108, 111, 103, 105, 110]⟩ : ByteArray).data.toList = true := by kernel_rfl
  have e2 : Cp.has [⟨[65, 85, 84, 72], [[80, 76, 65, 73, 78], [76, 79, 71, 73, 78]]⟩] (⟨#[65, 85, 84, 72, 32, 99, 114, 97, 109, 45, 109, 100, 53]⟩ : ByteArray).data.toList = false := by kernel_rfl
  have e3 : ([⟨[65, 85, 84, 72], [[80, 76, 65, 73, 78], [76, 79, 71, 73, 78]]⟩] : List Cp.Cap).length ≤ 1048576 := by decide
  have e4 : ∀ c ∈ ([⟨[65, 85, 84, 72], [[80, 76, 65, 73, 78], [76, 79, 71, 73, 78]]⟩] : List Cp.Cap), c.args.length ≤ 1048576 := by
    intro c hc
    rw [List.mem_singleton.1 hc]
    decide
  generalize ([⟨[65, 85, 84, 72], [[80, 76, 65, 73, 78], [76, 79, 71, 73, 78]]⟩] : List Cp.Cap) = cs at C1 e1 e2 e3 e4
  have C2 := Lib.hid (fun v w1 (h : CL w1 v cs) => chas_any v cs ⟨#[97, 117, 116, 104, 32, 108, 111, 103, 105, 110]⟩ w1 h e3 e4 (by decide))
  have C3 := Lib.hid (fun v w1 (h : CL w1 v cs) => chas_any v cs ⟨#[65, 85, 84, 72, 32, 99, 114, 97, 109, 45, 109, 100, 53]⟩ w1 h e3 e4 (by decide))
  rw [e1] at C2
  rw [e2] at C3
  clear hcs e1 e2 e3 e4 hm
  go_enter Tryd.func8, Tryd.ntmps8
  go_wp2_with fail
  refine C1.out.mono ?_
  rintro e w1 ⟨v, rfl, hv, hb1⟩
  have HV := Lib.hid hv
  have HB := Lib.hid hb1
  clear hv hb1 C1
  go_wp2_with fail
  refine (C2.out _ _ HV.out).mono ?_
  rintro e w2 ⟨rfl, hb2⟩
  have HV2 := Lib.hid (HV.out.below hb2)
  have HB2 := Lib.hid (HB.out.trans (hb2.mono HB.out.size))
  clear hb2
  go_wp2_with fail
  refine (C3.out _ _ HV2.out).mono ?_
  rintro e w3 ⟨rfl, hb3⟩
  have HB3 := Lib.hid (HB2.out.trans (hb3.mono HB2.out.size))
  clear hb3
  go_wp2
  go_ret
  exact ⟨rfl, HB3.out⟩
end Go.Proofs.YtomeoploojjacaaDoor
