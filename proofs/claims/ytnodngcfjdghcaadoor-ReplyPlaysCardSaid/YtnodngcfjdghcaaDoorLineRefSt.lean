/- The reference's Status walked. (Laid by wip/tools/gen_lref.py.) -/
import Derived.Test.YtnodngcfjdghcaaDoorLineRef
import Derived.StillTailTactics
namespace Go.Proofs.YtnodngcfjdghcaaDoor
open Go.RowKit

set_option maxHeartbeats 2000000 in
theorem rpop1 (l : List UInt8) (T : ByteArray) 
    (R1 : ∀ w, Calls Tryd.prog 26 #[.string (ba l), .string ⟨#[43, 79, 75]⟩] w fun e w' => e = .returned (.tuple #[.string T, .bool true]) ∧ w' = w) (w : World) :
    Calls Tryd.prog 21 #[.int .i64 2, .string (ba l)] w fun e w' => e = .returned (.tuple #[.agg #[.string ⟨#[43]⟩, .bool false, .string T], .bool true]) ∧ Below w.heap.size w w' := by
  go_enter Tryd.func21, Tryd.ntmps21
  go_wp2_with (go_at_call 26; first
    | (refine (R1 _).mono ?_; rintro e w' ⟨rfl, hw⟩; rw [hw]; clear hw R1))
  have hs := St3.new w ⟨#[43]⟩ T false
  have hb2 := Below.alloc (Below.refl _ w) (Nat.le_refl _) (.cells #[.string ⟨#[43]⟩, .bool false, .string T] 54)
  generalize World.alloc _ _ = wz at hs hb2 ⊢
  have d0 := hs.c0
  have d1 := hs.c1
  have d2 := hs.c2
  exact bodyPost_ret (v := .tuple #[.agg #[.string ⟨#[43]⟩, .bool false, .string T], .bool true]) (by simp [results, Tryd.f21, go_sem, d0, d1, d2]) rfl ⟨rfl, hb2⟩

set_option maxHeartbeats 2000000 in
theorem rpop2 (l : List UInt8) (T : ByteArray) 
    (R1 : ∀ w, Calls Tryd.prog 26 #[.string (ba l), .string ⟨#[43, 79, 75]⟩] w fun e w' => e = .returned (.tuple #[.string ⟨#[]⟩, .bool false]) ∧ w' = w)
    (R2 : ∀ w, Calls Tryd.prog 26 #[.string (ba l), .string ⟨#[45, 69, 82, 82]⟩] w fun e w' => e = .returned (.tuple #[.string T, .bool true]) ∧ w' = w) (w : World) :
    Calls Tryd.prog 21 #[.int .i64 2, .string (ba l)] w fun e w' => e = .returned (.tuple #[.agg #[.string ⟨#[45]⟩, .bool false, .string T], .bool true]) ∧ Below w.heap.size w w' := by
  go_enter Tryd.func21, Tryd.ntmps21
  go_wp2_with (go_at_call 26; first
    | (refine (R1 _).mono ?_; rintro e w' ⟨rfl, hw⟩; rw [hw]; clear hw R1)
    | (refine (R2 _).mono ?_; rintro e w' ⟨rfl, hw⟩; rw [hw]; clear hw R2))
  have hs := St3.new w ⟨#[45]⟩ T false
  have hb2 := Below.alloc (Below.refl _ w) (Nat.le_refl _) (.cells #[.string ⟨#[45]⟩, .bool false, .string T] 54)
  generalize World.alloc _ _ = wz at hs hb2 ⊢
  have d0 := hs.c0
  have d1 := hs.c1
  have d2 := hs.c2
  exact bodyPost_ret (v := .tuple #[.agg #[.string ⟨#[45]⟩, .bool false, .string T], .bool true]) (by simp [results, Tryd.f21, go_sem, d0, d1, d2]) rfl ⟨rfl, hb2⟩

set_option maxHeartbeats 2000000 in
theorem rpop3 (l : List UInt8) (T : ByteArray) 
    (R1 : ∀ w, Calls Tryd.prog 26 #[.string (ba l), .string ⟨#[43, 79, 75]⟩] w fun e w' => e = .returned (.tuple #[.string ⟨#[]⟩, .bool false]) ∧ w' = w)
    (R2 : ∀ w, Calls Tryd.prog 26 #[.string (ba l), .string ⟨#[45, 69, 82, 82]⟩] w fun e w' => e = .returned (.tuple #[.string ⟨#[]⟩, .bool false]) ∧ w' = w)
    (R3 : ∀ w, Calls Tryd.prog 26 #[.string (ba l), .string ⟨#[43]⟩] w fun e w' => e = .returned (.tuple #[.string T, .bool true]) ∧ w' = w) (w : World) :
    Calls Tryd.prog 21 #[.int .i64 2, .string (ba l)] w fun e w' => e = .returned (.tuple #[.agg #[.string ⟨#[62]⟩, .bool false, .string T], .bool true]) ∧ Below w.heap.size w w' := by
  go_enter Tryd.func21, Tryd.ntmps21
  go_wp2_with (go_at_call 26; first
    | (refine (R1 _).mono ?_; rintro e w' ⟨rfl, hw⟩; rw [hw]; clear hw R1)
    | (refine (R2 _).mono ?_; rintro e w' ⟨rfl, hw⟩; rw [hw]; clear hw R2)
    | (refine (R3 _).mono ?_; rintro e w' ⟨rfl, hw⟩; rw [hw]; clear hw R3))
  have hs := St3.new w ⟨#[62]⟩ T false
  have hb2 := Below.alloc (Below.refl _ w) (Nat.le_refl _) (.cells #[.string ⟨#[62]⟩, .bool false, .string T] 54)
  generalize World.alloc _ _ = wz at hs hb2 ⊢
  have d0 := hs.c0
  have d1 := hs.c1
  have d2 := hs.c2
  exact bodyPost_ret (v := .tuple #[.agg #[.string ⟨#[62]⟩, .bool false, .string T], .bool true]) (by simp [results, Tryd.f21, go_sem, d0, d1, d2]) rfl ⟨rfl, hb2⟩

set_option maxHeartbeats 2000000 in
theorem rpop4 (l : List UInt8) 
    (R1 : ∀ w, Calls Tryd.prog 26 #[.string (ba l), .string ⟨#[43, 79, 75]⟩] w fun e w' => e = .returned (.tuple #[.string ⟨#[]⟩, .bool false]) ∧ w' = w)
    (R2 : ∀ w, Calls Tryd.prog 26 #[.string (ba l), .string ⟨#[45, 69, 82, 82]⟩] w fun e w' => e = .returned (.tuple #[.string ⟨#[]⟩, .bool false]) ∧ w' = w)
    (R3 : ∀ w, Calls Tryd.prog 26 #[.string (ba l), .string ⟨#[43]⟩] w fun e w' => e = .returned (.tuple #[.string ⟨#[]⟩, .bool false]) ∧ w' = w) (w : World) :
    Calls Tryd.prog 21 #[.int .i64 2, .string (ba l)] w fun e w' => e = .returned (.tuple #[.agg #[.string ⟨#[]⟩, .bool false, .string ⟨#[]⟩], .bool false]) ∧ Below w.heap.size w w' := by
  go_enter Tryd.func21, Tryd.ntmps21
  go_wp2_with (go_at_call 26; first
    | (refine (R1 _).mono ?_; rintro e w' ⟨rfl, hw⟩; rw [hw]; clear hw R1)
    | (refine (R2 _).mono ?_; rintro e w' ⟨rfl, hw⟩; rw [hw]; clear hw R2)
    | (refine (R3 _).mono ?_; rintro e w' ⟨rfl, hw⟩; rw [hw]; clear hw R3))
  have hs := St3.new w ⟨#[]⟩ ⟨#[]⟩ false
  have hb2 := Below.alloc (Below.refl _ w) (Nat.le_refl _) (.cells #[.string ⟨#[]⟩, .bool false, .string ⟨#[]⟩] 54)
  generalize World.alloc _ _ = wz at hs hb2 ⊢
  have d0 := hs.c0
  have d1 := hs.c1
  have d2 := hs.c2
  exact bodyPost_ret (v := .tuple #[.agg #[.string ⟨#[]⟩, .bool false, .string ⟨#[]⟩], .bool false]) (by simp [results, Tryd.f21, go_sem, d0, d1, d2]) rfl ⟨rfl, hb2⟩

theorem rstatus_pop (l : List UInt8) (hl : l.length ≤ 16777216) (w : World) :
    Calls Tryd.prog 21 #[.int .i64 2, .string (ba l)] w fun e w' => e = .returned (.tuple #[stv (Ln.pop l), .bool (Ln.pop l).isSome]) ∧ Below w.heap.size w w' := by
  have R1 := rrest_any l [43, 79, 75] hl (by decide)
  have R2 := rrest_any l [45, 69, 82, 82] hl (by decide)
  have R3 := rrest_any l [43] hl (by decide)
  unfold Ln.pop
  cases h1 : Ln.rest [43, 79, 75] l with
  | some t => rw [h1] at R1; exact rpop1 l (ba t) R1 w
  | none =>
    rw [h1] at R1
    cases h2 : Ln.rest [45, 69, 82, 82] l with
    | some t => rw [h2] at R2; exact rpop2 l (ba t) R1 R2 w
    | none =>
      rw [h2] at R2
      cases h3 : Ln.rest [43] l with
      | some t => rw [h3] at R3; exact rpop3 l (ba t) R1 R2 R3 w
      | none => rw [h3] at R3; exact rpop4 l R1 R2 R3 w

set_option maxHeartbeats 4000000 in
theorem rstatus_num (proto : Int) (hp : proto = 1 ∨ proto = 3) (l : List UInt8) (hl : l.length ≤ 16777216) (w : World) :
    Calls Tryd.prog 21 #[.int .i64 proto, .string (ba l)] w fun e w' => e = .returned (.tuple #[stv (Ln.num l), .bool (Ln.num l).isSome]) ∧ Below w.heap.size w w' := by
  have hz : (ba l).size = l.length := rfl
  by_cases h3 : (l.length : Int) < 3
  · have hv : Ln.num l = none := by
      match l, h3 with
      | [], _ => rfl
      | [_], _ => rfl
      | [_, _], _ => rfl
      | _ :: _ :: _ :: r, h => exact absurd h (by simp; omega)
    rw [hv]
    clear hv
    show Calls _ _ _ _ fun e w' => e = .returned (.tuple #[.agg #[.string ⟨#[]⟩, .bool false, .string ⟨#[]⟩], .bool false]) ∧ _
    rcases hp with rfl | rfl
    all_goals
      go_enter Tryd.func21, Tryd.ntmps21
      go_wp2
      have hs := St3.new w ⟨#[]⟩ ⟨#[]⟩ false
      have hb2 := Below.alloc (Below.refl _ w) (Nat.le_refl _) (.cells #[.string ⟨#[]⟩, .bool false, .string ⟨#[]⟩] 54)
      generalize World.alloc _ _ = wz at hs hb2 ⊢
      have d0 := hs.c0
      have d1 := hs.c1
      have d2 := hs.c2
      exact bodyPost_ret (v := .tuple #[.agg #[.string ⟨#[]⟩, .bool false, .string ⟨#[]⟩], .bool false]) (by simp [results, Tryd.f21, go_sem, d0, d1, d2]) rfl ⟨rfl, hb2⟩
  obtain ⟨a, b, c, r, rfl⟩ : ∃ a b c r, l = a :: b :: c :: r := by
    match l, h3 with
    | [], h => exact absurd (by decide) h
    | [_], h => exact absurd (by simp) h
    | [_, _], h => exact absurd (by simp) h
    | a :: b :: c :: r, _ => exact ⟨a, b, c, r, rfl⟩
  obtain ⟨q, hq⟩ : ∃ q, q = a :: b :: c :: r := ⟨_, rfl⟩
  have hn : Ln.num q = if (Ln.first a && Ln.digit b && Ln.digit c) = true then Ln.tail3 [a, b, c] r else none := by rw [hq]; rfl
  have hr : r.length + 3 ≤ 16777216 := by simpa using hl
  rw [← hq]
  rw [← hq] at hz
  replace hz : (ba q).size = r.length + 3 := by rw [hz, hq]; rfl
  have x0 : ∀ h, (ba q)[0]'h = a := fun h => by rw [byte_at, ba_list, hq]; rfl
  have x1 : ∀ h, (ba q)[1]'h = b := fun h => by rw [byte_at, ba_list, hq]; rfl
  have x2 : ∀ h, (ba q)[2]'h = c := fun h => by rw [byte_at, ba_list, hq]; rfl
  have xq : r = [] → ba q = ba [a, b, c] := fun e => by rw [hq, e]
  have x3 : ∀ y t, r = y :: t → (∀ h, (ba q)[3]'h = y) ∧ (ba q).extract 0 3 = ⟨#[a, b, c]⟩ ∧ (ba q).extract 4 (t.length + 4) = ba t := fun y t e => by
    subst e
    exact ⟨fun h => by rw [byte_at, ba_list, hq]; rfl, by rw [ba, ba_extract, hq]; rfl, by rw [ba, ba_extract, hq]; simp [ba]⟩
  have XQ := Lib.hid xq
  have X3 := Lib.hid x3
  have D1 := rdigit_any b
  have D2 := rdigit_any c
  have h3f : ((r.length : Int) + 3 < 3) = False := eq_false (by omega)
  clear hq h3 hl xq x3
  have no : ∀ {P : Prop}, (Ln.first a && Ln.digit b && Ln.digit c) = false → (Calls Tryd.prog 21 #[.int .i64 proto, .string (ba q)] w fun e w' => e = .returned (.tuple #[.agg #[.string ⟨#[]⟩, .bool false, .string ⟨#[]⟩], .bool false]) ∧ Below w.heap.size w w') → Calls Tryd.prog 21 #[.int .i64 proto, .string (ba q)] w fun e w' => e = .returned (.tuple #[stv (Ln.num q), .bool (Ln.num q).isSome]) ∧ Below w.heap.size w w' := fun {_} hf h => by rw [hn, if_neg (by rw [hf]; simp)]; exact h
  by_cases f1 : (a.toNat : Int) < 49
  · refine no (P := True) (by rw [show Ln.first a = false by rw [Bool.eq_false_iff]; intro h; rw [Ln.first_iff] at h; omega]; rfl) ?_
    clear no hn D1 D2 XQ X3
    rcases hp with rfl | rfl
    all_goals
      go_enter Tryd.func21, Tryd.ntmps21
      go_wp2
      have hs := St3.new w ⟨#[]⟩ ⟨#[]⟩ false
      have hb2 := Below.alloc (Below.refl _ w) (Nat.le_refl _) (.cells #[.string ⟨#[]⟩, .bool false, .string ⟨#[]⟩] 54)
      generalize World.alloc _ _ = wz at hs hb2 ⊢
      have d0 := hs.c0
      have d1 := hs.c1
      have d2 := hs.c2
      exact bodyPost_ret (v := .tuple #[.agg #[.string ⟨#[]⟩, .bool false, .string ⟨#[]⟩], .bool false]) (by simp [results, Tryd.f21, go_sem, d0, d1, d2]) rfl ⟨rfl, hb2⟩
  by_cases f2 : (53 : Int) < (a.toNat : Int)
  · refine no (P := True) (by rw [show Ln.first a = false by rw [Bool.eq_false_iff]; intro h; rw [Ln.first_iff] at h; omega]; rfl) ?_
    clear no hn D1 D2 XQ X3
    rcases hp with rfl | rfl
    all_goals
      go_enter Tryd.func21, Tryd.ntmps21
      go_wp2
      have hs := St3.new w ⟨#[]⟩ ⟨#[]⟩ false
      have hb2 := Below.alloc (Below.refl _ w) (Nat.le_refl _) (.cells #[.string ⟨#[]⟩, .bool false, .string ⟨#[]⟩] 54)
      generalize World.alloc _ _ = wz at hs hb2 ⊢
      have d0 := hs.c0
      have d1 := hs.c1
      have d2 := hs.c2
      exact bodyPost_ret (v := .tuple #[.agg #[.string ⟨#[]⟩, .bool false, .string ⟨#[]⟩], .bool false]) (by simp [results, Tryd.f21, go_sem, d0, d1, d2]) rfl ⟨rfl, hb2⟩
  have hf : Ln.first a = true := Ln.first_iff.2 ⟨by omega, by omega⟩
  cases hb : Ln.digit b with
  | false =>
    rw [hb] at D1
    refine no (P := True) (by rw [hb, Bool.and_false]; rfl) ?_
    clear no hn XQ X3 hb hf
    rcases hp with rfl | rfl
    all_goals
      go_enter Tryd.func21, Tryd.ntmps21
      go_wp2_with (go_at_call 27; first | (refine (D1 _).mono ?_; rintro e w' ⟨rfl, hw⟩; rw [hw]; clear hw D1) | (refine (D2 _).mono ?_; rintro e w' ⟨rfl, hw⟩; rw [hw]; clear hw D2))
      have hs := St3.new w ⟨#[]⟩ ⟨#[]⟩ false
      have hb2 := Below.alloc (Below.refl _ w) (Nat.le_refl _) (.cells #[.string ⟨#[]⟩, .bool false, .string ⟨#[]⟩] 54)
      generalize World.alloc _ _ = wz at hs hb2 ⊢
      have d0 := hs.c0
      have d1 := hs.c1
      have d2 := hs.c2
      exact bodyPost_ret (v := .tuple #[.agg #[.string ⟨#[]⟩, .bool false, .string ⟨#[]⟩], .bool false]) (by simp [results, Tryd.f21, go_sem, d0, d1, d2]) rfl ⟨rfl, hb2⟩
  | true =>
    rw [hb] at D1
    cases hc : Ln.digit c with
    | false =>
      rw [hc] at D2
      refine no (P := True) (by rw [hc, Bool.and_false]) ?_
      clear no hn XQ X3 hb hc hf
      rcases hp with rfl | rfl
      all_goals
        go_enter Tryd.func21, Tryd.ntmps21
        go_wp2_with (go_at_call 27; first | (refine (D1 _).mono ?_; rintro e w' ⟨rfl, hw⟩; rw [hw]; clear hw D1) | (refine (D2 _).mono ?_; rintro e w' ⟨rfl, hw⟩; rw [hw]; clear hw D2))
        have hs := St3.new w ⟨#[]⟩ ⟨#[]⟩ false
        have hb2 := Below.alloc (Below.refl _ w) (Nat.le_refl _) (.cells #[.string ⟨#[]⟩, .bool false, .string ⟨#[]⟩] 54)
        generalize World.alloc _ _ = wz at hs hb2 ⊢
        have d0 := hs.c0
        have d1 := hs.c1
        have d2 := hs.c2
        exact bodyPost_ret (v := .tuple #[.agg #[.string ⟨#[]⟩, .bool false, .string ⟨#[]⟩], .bool false]) (by simp [results, Tryd.f21, go_sem, d0, d1, d2]) rfl ⟨rfl, hb2⟩
    | true =>
      rw [hc] at D2
      rw [hn, if_pos (by rw [hf, hb, hc]; rfl)]
      clear no hn hb hc hf
      cases r with
      | nil =>
        have e := XQ.out rfl
        replace hz : (ba q).size = 3 := hz
        show Calls _ _ _ _ fun e w' => e = .returned (.tuple #[.agg #[.string (ba [a, b, c]), .bool false, .string ⟨#[]⟩], .bool true]) ∧ _
        rw [← e]
        clear e XQ X3 h3f
        rcases hp with rfl | rfl
        all_goals
          go_enter Tryd.func21, Tryd.ntmps21
          go_wp2_with (go_at_call 27; first | (refine (D1 _).mono ?_; rintro e w' ⟨rfl, hw⟩; rw [hw]; clear hw D1) | (refine (D2 _).mono ?_; rintro e w' ⟨rfl, hw⟩; rw [hw]; clear hw D2))
          have hs := St3.new w (ba q) ⟨#[]⟩ false
          have hb2 := Below.alloc (Below.refl _ w) (Nat.le_refl _) (.cells #[.string (ba q), .bool false, .string ⟨#[]⟩] 54)
          generalize World.alloc _ _ = wz at hs hb2 ⊢
          have d0 := hs.c0
          have d1 := hs.c1
          have d2 := hs.c2
          exact bodyPost_ret (v := .tuple #[.agg #[.string (ba q), .bool false, .string ⟨#[]⟩], .bool true]) (by simp [results, Tryd.f21, go_sem, d0, d1, d2]) rfl ⟨rfl, hb2⟩
      | cons y t =>
        obtain ⟨x3, g1, g2⟩ := X3.out y t rfl
        replace hz : (ba q).size = t.length + 4 := hz
        have h4a : ((t.length : Int) + 4 == 3) = false := beq_eq_false_iff_ne.2 (by omega)
        have h4b : ((t.length : Int) + 4 = 3) = False := eq_false (by omega)
        have h4c : ((t.length : Int) + 4 < 3) = False := eq_false (by omega)
        have hr2 : t.length + 4 ≤ 16777216 := by simpa using hr
        clear XQ X3 h3f hr
        by_cases h32 : y = 32
        · subst h32
          show Calls _ _ _ _ fun e w' => e = .returned (.tuple #[.agg #[.string ⟨#[a, b, c]⟩, .bool false, .string (ba t)], .bool true]) ∧ _
          rcases hp with rfl | rfl
          all_goals
            go_enter Tryd.func21, Tryd.ntmps21
            go_wp2_with (go_at_call 27; first | (refine (D1 _).mono ?_; rintro e w' ⟨rfl, hw⟩; rw [hw]; clear hw D1) | (refine (D2 _).mono ?_; rintro e w' ⟨rfl, hw⟩; rw [hw]; clear hw D2))
            go_region
            go_wp2
            have hs : St3 ((w.alloc (.cells #[.string ⟨#[a, b, c]⟩, .bool false, .string (ba t)] 54)).drew) w.heap.size ⟨#[a, b, c]⟩ false (ba t) := St3.new w ⟨#[a, b, c]⟩ (ba t) false
            have hb2 := ((Below.refl _ w).alloc (Nat.le_refl _) (.cells #[.string ⟨#[a, b, c]⟩, .bool false, .string (ba t)] 54)).drew
            generalize World.drew _ = wz at hs hb2 ⊢
            have d0 := hs.c0
            have d1 := hs.c1
            have d2 := hs.c2
            exact bodyPost_ret (v := .tuple #[.agg #[.string ⟨#[a, b, c]⟩, .bool false, .string (ba t)], .bool true]) (by simp [results, Tryd.f21, go_sem, d0, d1, d2]) rfl ⟨rfl, hb2⟩
        · by_cases h45 : y = 45
          · subst h45
            show Calls _ _ _ _ fun e w' => e = .returned (.tuple #[.agg #[.string ⟨#[a, b, c]⟩, .bool true, .string (ba t)], .bool true]) ∧ _
            clear h32
            rcases hp with rfl | rfl
            all_goals
              go_enter Tryd.func21, Tryd.ntmps21
              go_wp2_with (go_at_call 27; first | (refine (D1 _).mono ?_; rintro e w' ⟨rfl, hw⟩; rw [hw]; clear hw D1) | (refine (D2 _).mono ?_; rintro e w' ⟨rfl, hw⟩; rw [hw]; clear hw D2))
              go_region
              go_wp2
              have hs : St3 ((w.alloc (.cells #[.string ⟨#[a, b, c]⟩, .bool true, .string (ba t)] 54)).drew) w.heap.size ⟨#[a, b, c]⟩ true (ba t) := St3.new w ⟨#[a, b, c]⟩ (ba t) true
              have hb2 := ((Below.refl _ w).alloc (Nat.le_refl _) (.cells #[.string ⟨#[a, b, c]⟩, .bool true, .string (ba t)] 54)).drew
              generalize World.drew _ = wz at hs hb2 ⊢
              have d0 := hs.c0
              have d1 := hs.c1
              have d2 := hs.c2
              exact bodyPost_ret (v := .tuple #[.agg #[.string ⟨#[a, b, c]⟩, .bool true, .string (ba t)], .bool true]) (by simp [results, Tryd.f21, go_sem, d0, d1, d2]) rfl ⟨rfl, hb2⟩
          · have hv : Ln.tail3 [a, b, c] (y :: t) = none := by show (if y = 32 then some _ else if y = 45 then some _ else none) = none; rw [if_neg h32, if_neg h45]
            rw [hv]
            have k32 : (y.toNat : Int) ≠ 32 := fun e => h32 (UInt8.toNat_inj.1 (by show y.toNat = 32; omega))
            have k45 : (y.toNat : Int) ≠ 45 := fun e => h45 (UInt8.toNat_inj.1 (by show y.toNat = 45; omega))
            have n1 : ((y.toNat : Int) == 32) = false := beq_eq_false_iff_ne.2 k32
            have n2 : ((y.toNat : Int) == 45) = false := beq_eq_false_iff_ne.2 k45
            have n5 : ((y.toNat : Int) != 32) = true := by rw [bne, n1]; rfl
            have n6 : ((y.toNat : Int) != 45) = true := by rw [bne, n2]; rfl
            have n3 : ((y.toNat : Int) = 32) = False := eq_false k32
            have n4 : ((y.toNat : Int) = 45) = False := eq_false k45
            show Calls _ _ _ _ fun e w' => e = .returned (.tuple #[.agg #[.string ⟨#[]⟩, .bool false, .string ⟨#[]⟩], .bool false]) ∧ _
            clear hv h32 h45 k32 k45
            rcases hp with rfl | rfl
            all_goals
              go_enter Tryd.func21, Tryd.ntmps21
              go_wp2_with (go_at_call 27; first | (refine (D1 _).mono ?_; rintro e w' ⟨rfl, hw⟩; rw [hw]; clear hw D1) | (refine (D2 _).mono ?_; rintro e w' ⟨rfl, hw⟩; rw [hw]; clear hw D2))
              have hs := St3.new w ⟨#[]⟩ ⟨#[]⟩ false
              have hb2 := Below.alloc (Below.refl _ w) (Nat.le_refl _) (.cells #[.string ⟨#[]⟩, .bool false, .string ⟨#[]⟩] 54)
              generalize World.alloc _ _ = wz at hs hb2 ⊢
              have d0 := hs.c0
              have d1 := hs.c1
              have d2 := hs.c2
              exact bodyPost_ret (v := .tuple #[.agg #[.string ⟨#[]⟩, .bool false, .string ⟨#[]⟩], .bool false]) (by simp [results, Tryd.f21, go_sem, d0, d1, d2]) rfl ⟨rfl, hb2⟩

theorem rstatus_no (proto : Int) (h1 : proto ≠ 1) (h2 : proto ≠ 2) (h3 : proto ≠ 3) (l : List UInt8) (w : World) :
    Calls Tryd.prog 21 #[.int .i64 proto, .string (ba l)] w fun e w' => e = .returned (.tuple #[.agg #[.string ⟨#[]⟩, .bool false, .string ⟨#[]⟩], .bool false]) ∧ Below w.heap.size w w' := by
  have e1 : (proto == 1) = false := by simpa using h1
  have e2 : (proto == 2) = false := by simpa using h2
  have e3 : (proto == 3) = false := by simpa using h3
  have f1 : (proto = 1) = False := eq_false h1
  have f2 : (proto = 2) = False := eq_false h2
  have f3 : (proto = 3) = False := eq_false h3
  clear h1 h2 h3
  go_enter Tryd.func21, Tryd.ntmps21
  go_wp2
  have hs := St3.new w ⟨#[]⟩ ⟨#[]⟩ false
  have hb2 := Below.alloc (Below.refl _ w) (Nat.le_refl _) (.cells #[.string ⟨#[]⟩, .bool false, .string ⟨#[]⟩] 54)
  generalize World.alloc _ _ = wz at hs hb2 ⊢
  have d0 := hs.c0
  have d1 := hs.c1
  have d2 := hs.c2
  exact bodyPost_ret (v := .tuple #[.agg #[.string ⟨#[]⟩, .bool false, .string ⟨#[]⟩], .bool false]) (by simp [results, Tryd.f21, go_sem, d0, d1, d2]) rfl ⟨rfl, hb2⟩

theorem rstatus_any (proto : Int) (l : List UInt8) (hl : l.length ≤ 16777216) (w : World) :
    Calls Tryd.prog 21 #[.int .i64 proto, .string (ba l)] w fun e w' => e = .returned (.tuple #[stv (Ln.status proto l), .bool (Ln.status proto l).isSome]) ∧ Below w.heap.size w w' := by
  unfold Ln.status
  by_cases h2 : proto = 2
  · subst h2; exact rstatus_pop l hl w
  · rw [if_neg h2]
    by_cases h13 : proto = 1 ∨ proto = 3
    · rw [if_pos h13]; exact rstatus_num proto h13 l hl w
    · rw [if_neg h13]
      exact rstatus_no proto (fun e => h13 (.inl e)) h2 (fun e => h13 (.inr e)) l w
end Go.Proofs.YtnodngcfjdghcaaDoor
