/- line.numbered walked. -/
import Derived.Test.YtnodngcfjdghcaaDoorLineBegins
import Derived.Test.YtnodngcfjdghcaaDoorSt3
namespace Go.Proofs.YtnodngcfjdghcaaDoor
open Go.RowKit

set_option maxHeartbeats 2000000 in
theorem numbered_any (l : List UInt8) (hl : l.length ≤ 16777216) (w : World) :
    Calls Tryd.prog 28 #[.string (ba l)] w fun e w' => e = .returned (.tuple #[stv (Ln.num l), .bool (Ln.num l).isSome]) ∧ Below w.heap.size w w' := by
  have hz : (ba l).size = l.length := rfl
  by_cases h3 : (l.length : Int) < 3
  · have hv : Ln.num l = none := by
      match l, h3 with
      | [], _ => rfl
      | [_], _ => rfl
      | [_, _], _ => rfl
      | _ :: _ :: _ :: r, h => exact absurd h (by simp; omega)
    rw [hv]
    clear hv
    go_enter Tryd.func28, Tryd.ntmps28
    go_wp2
    have hs := St3.new w ⟨#[]⟩ ⟨#[]⟩ false
    have c0 := hs.c0
    have c1 := hs.c1
    have c2 := hs.c2
    refine bodyPost_ret (v := .tuple #[.agg #[.string ⟨#[]⟩, .bool false, .string ⟨#[]⟩], .bool false]) (by simp [results, Tryd.f28, go_sem, c0, c1, c2]) rfl ⟨rfl, (Below.refl _ w).alloc (Nat.le_refl _) _⟩
  · obtain ⟨a, b, c, r, rfl⟩ : ∃ a b c r, l = a :: b :: c :: r := by
      match l, h3 with
      | [], h => exact absurd (by decide) h
      | [_], h => exact absurd (by simp) h
      | [_, _], h => exact absurd (by simp) h
      | a :: b :: c :: r, _ => exact ⟨a, b, c, r, rfl⟩
    obtain ⟨q, hq⟩ : ∃ q, q = a :: b :: c :: r := ⟨_, rfl⟩
    rw [← hq] at h3 hl hz ⊢
    have hx1 : (ba q).extract 0 3 = ⟨[a, b, c].toArray⟩ := by rw [ba, ba_extract, hq]; rfl
    have hx2 : (ba q).extract 3 q.length = ba r := by rw [ba, ba_extract, hq]; simp [ba]
    have hB := begins_any [a, b, c] (by simp)
    have hp : Ln.pattern 1 [a, b, c] = (Ln.first a && Ln.digit b && Ln.digit c) := by simp [pattern_one, Bool.and_assoc]
    have hn : Ln.num q = if (Ln.first a && Ln.digit b && Ln.digit c) = true then Ln.tail3 [a, b, c] r else none := by rw [hq]; rfl
    rw [hp] at hB
    have h3' : (3 : Int) ≤ (q.length : Int) := by omega
    cases hd : (Ln.first a && Ln.digit b && Ln.digit c) with
    | false =>
      rw [hd] at hB hn
      rw [hn, if_neg (by simp)]
      clear hn hp hd hq
      go_enter Tryd.func28, Tryd.ntmps28
      go_wp2_with (go_at_call 34; refine (hB _).mono ?_; rintro e w1 ⟨rfl, hb⟩; have hs := (St3.new w ⟨#[]⟩ ⟨#[]⟩ false).same (hb.block _ (by simp)); have hb0 := ((Below.refl _ w).alloc (Nat.le_refl _) _).trans (hb.mono (by simp)); have c0 := hs.c0; have c1 := hs.c1; have c2 := hs.c2; have f0 := hs.fr 0; have f1 := hs.fr 1; have f2 := hs.fr 2)
      have hs2 := hs.set ⟨#[]⟩ ⟨#[]⟩ false
      have hb2 := below_set3 hb0 (Nat.le_refl _) (.string ⟨#[]⟩) (.bool false) (.string ⟨#[]⟩)
      have d0 := hs2.c0
      have d1 := hs2.c1
      have d2 := hs2.c2
      refine bodyPost_ret (v := .tuple #[.agg #[.string ⟨#[]⟩, .bool false, .string ⟨#[]⟩], .bool false]) (by simp [results, Tryd.f28, go_sem, d0, d1, d2]) rfl ⟨rfl, hb2⟩
    | true =>
      rw [hd] at hB hn
      rw [hn, if_pos rfl]
      clear hn hp hd hq
      have hP1 := Tryd.strings_HasPrefix (ba r) ⟨#[32]⟩
      have hP2 := Tryd.strings_HasPrefix (ba r) ⟨#[45]⟩
      cases r with
      | nil =>
        have e1 : Lib.hasPrefix (ba ([] : List UInt8)).data.toList (⟨#[32]⟩ : ByteArray).data.toList = false := rfl
        have e2 : Lib.hasPrefix (ba ([] : List UInt8)).data.toList (⟨#[45]⟩ : ByteArray).data.toList = false := rfl
        rw [e1] at hP1
        rw [e2] at hP2
        have hz0 : (ba ([] : List UInt8)).toList.isEmpty = true := by rw [Lib.toList_data]; rfl
        show Calls _ _ _ _ fun e w' => e = .returned (.tuple #[stv (some ⟨[a, b, c], false, []⟩), .bool true]) ∧ _
        clear e1 e2
        go_enter Tryd.func28, Tryd.ntmps28
        go_wp2_with (first
          | (go_at_call 34; refine (hB _).mono ?_; rintro e w1 ⟨rfl, hb⟩; have hs := (St3.new w ⟨#[]⟩ ⟨#[]⟩ false).same (hb.block _ (by simp)); have hb0 := ((Below.refl _ w).alloc (Nat.le_refl _) _).trans (hb.mono (by simp)); have c0 := fun o => (hs.alloc o).c0; have c1 := fun o => (hs.alloc o).c1; have c2 := fun o => (hs.alloc o).c2; have f0 := fun o => (hs.alloc o).fr 0; have f1 := fun o => (hs.alloc o).fr 1; have f2 := fun o => (hs.alloc o).fr 2; clear hB hb)
          | (go_at_call 35; first | (refine (hP1 _).mono ?_; rintro e w' ⟨rfl, hw⟩; rw [hw]; clear hP1 hw) | (refine (hP2 _).mono ?_; rintro e w' ⟨rfl, hw⟩; rw [hw]; clear hP2 hw)))
        clear c0 c1 c2 f0 f1 f2
        have hs2 := (hs.alloc (.cells #[.string ⟨#[a, b, c]⟩, .bool false, .string ⟨#[]⟩] 54)).set ⟨#[a, b, c]⟩ ⟨#[]⟩ false
        have hb2 := below_set3 (hb0.alloc hb0.size (.cells #[.string ⟨#[a, b, c]⟩, .bool false, .string ⟨#[]⟩] 54)) (Nat.le_refl _) (.string ⟨#[a, b, c]⟩) (.bool false) (.string ⟨#[]⟩)
        generalize World.setCell _ _ _ = wz at hs2 hb2 ⊢
        have d0 := hs2.c0
        have d1 := hs2.c1
        have d2 := hs2.c2
        refine bodyPost_ret (v := .tuple #[.agg #[.string ⟨#[a, b, c]⟩, .bool false, .string ⟨#[]⟩], .bool true]) (by simp [results, Tryd.f28, go_sem, d0, d1, d2]) rfl ⟨rfl, hb2⟩
      | cons x t =>
        have hz0 : (ba (x :: t)).toList.isEmpty = false := by rw [Lib.toList_data]; rfl
        have hz1 : (ba (x :: t)).size = t.length + 1 := rfl
        have ht1 : (ba (x :: t)).extract 0 1 = ⟨#[x]⟩ := by rw [ba, ba_extract]; simp
        have ht2 : (ba (x :: t)).extract 1 (t.length + 1) = ba t := by rw [ba, ba_extract]; simp [ba]
        have e1 : Lib.hasPrefix (ba (x :: t)).data.toList (⟨#[32]⟩ : ByteArray).data.toList = (32 == x) := by simp [Lib.hasPrefix, ba, List.isPrefixOf]
        have e2 : Lib.hasPrefix (ba (x :: t)).data.toList (⟨#[45]⟩ : ByteArray).data.toList = (45 == x) := by simp [Lib.hasPrefix, ba, List.isPrefixOf]
        rw [e1] at hP1
        rw [e2] at hP2
        clear e1 e2
        obtain ⟨z, hzz⟩ : ∃ z, z = ba (x :: t) := ⟨_, rfl⟩
        rw [← hzz] at hz0 hz1 ht1 ht2 hP1 hP2 hx2
        clear hzz
        by_cases h32 : x = 32
        · subst h32
          rw [show ((32 : UInt8) == 32) = true from rfl] at hP1
          have hm : ((⟨#[(32 : UInt8)]⟩ : ByteArray).toList == (⟨#[45]⟩ : ByteArray).toList) = false := by rw [Lib.toList_data, Lib.toList_data]; rfl
          show Calls _ _ _ _ fun e w' => e = .returned (.tuple #[stv (some ⟨[a, b, c], false, t⟩), .bool true]) ∧ _
          clear hP2
          go_enter Tryd.func28, Tryd.ntmps28
          go_wp2_with (first
            | (go_at_call 34; refine (hB _).mono ?_; rintro e w1 ⟨rfl, hb⟩; have hs := (St3.new w ⟨#[]⟩ ⟨#[]⟩ false).same (hb.block _ (by simp)); have hb0 := ((Below.refl _ w).alloc (Nat.le_refl _) _).trans (hb.mono (by simp)); have c0 := fun o => (hs.alloc o).c0; have c1 := fun o => (hs.alloc o).c1; have c2 := fun o => (hs.alloc o).c2; have f0 := fun o => (hs.alloc o).fr 0; have f1 := fun o => (hs.alloc o).fr 1; have f2 := fun o => (hs.alloc o).fr 2; clear hB hb)
            | (go_at_call 35; refine (hP1 _).mono ?_; rintro e w' ⟨rfl, hw⟩; rw [hw]; clear hP1 hw))
          clear c0 c1 c2 f0 f1 f2
          have hs2 := (hs.alloc (.cells #[.string ⟨#[a, b, c]⟩, .bool false, .string (ba t)] 54)).set ⟨#[a, b, c]⟩ (ba t) false
          have hb2 := below_set3 (hb0.alloc hb0.size (.cells #[.string ⟨#[a, b, c]⟩, .bool false, .string (ba t)] 54)) (Nat.le_refl _) (.string ⟨#[a, b, c]⟩) (.bool false) (.string (ba t))
          generalize World.setCell _ _ _ = wz at hs2 hb2 ⊢
          have d0 := hs2.c0
          have d1 := hs2.c1
          have d2 := hs2.c2
          refine bodyPost_ret (v := .tuple #[.agg #[.string ⟨#[a, b, c]⟩, .bool false, .string (ba t)], .bool true]) (by simp [results, Tryd.f28, go_sem, d0, d1, d2]) rfl ⟨rfl, hb2⟩
        · have e32 : ((32 : UInt8) == x) = false := by simpa using fun e => h32 e.symm
          rw [e32] at hP1
          by_cases h45 : x = 45
          · subst h45
            rw [show ((45 : UInt8) == 45) = true from rfl] at hP2
            have hm : ((⟨#[(45 : UInt8)]⟩ : ByteArray).toList == (⟨#[45]⟩ : ByteArray).toList) = true := by rw [Lib.toList_data]; rfl
            show Calls _ _ _ _ fun e w' => e = .returned (.tuple #[stv (some ⟨[a, b, c], true, t⟩), .bool true]) ∧ _
            clear e32 h32
            go_enter Tryd.func28, Tryd.ntmps28
            go_wp2_with (first
              | (go_at_call 34; refine (hB _).mono ?_; rintro e w1 ⟨rfl, hb⟩; have hs := (St3.new w ⟨#[]⟩ ⟨#[]⟩ false).same (hb.block _ (by simp)); have hb0 := ((Below.refl _ w).alloc (Nat.le_refl _) _).trans (hb.mono (by simp)); have c0 := fun o => (hs.alloc o).c0; have c1 := fun o => (hs.alloc o).c1; have c2 := fun o => (hs.alloc o).c2; have f0 := fun o => (hs.alloc o).fr 0; have f1 := fun o => (hs.alloc o).fr 1; have f2 := fun o => (hs.alloc o).fr 2; clear hB hb)
              | (go_at_call 35; first | (refine (hP1 _).mono ?_; rintro e w' ⟨rfl, hw⟩; rw [hw]; clear hP1 hw) | (refine (hP2 _).mono ?_; rintro e w' ⟨rfl, hw⟩; rw [hw]; clear hP2 hw)))
            clear c0 c1 c2 f0 f1 f2
            have hs2 := (hs.alloc (.cells #[.string ⟨#[a, b, c]⟩, .bool true, .string (ba t)] 54)).set ⟨#[a, b, c]⟩ (ba t) true
            have hb2 := below_set3 (hb0.alloc hb0.size (.cells #[.string ⟨#[a, b, c]⟩, .bool true, .string (ba t)] 54)) (Nat.le_refl _) (.string ⟨#[a, b, c]⟩) (.bool true) (.string (ba t))
            generalize World.setCell _ _ _ = wz at hs2 hb2 ⊢
            have d0 := hs2.c0
            have d1 := hs2.c1
            have d2 := hs2.c2
            refine bodyPost_ret (v := .tuple #[.agg #[.string ⟨#[a, b, c]⟩, .bool true, .string (ba t)], .bool true]) (by simp [results, Tryd.f28, go_sem, d0, d1, d2]) rfl ⟨rfl, hb2⟩
          · have e45 : ((45 : UInt8) == x) = false := by simpa using fun e => h45 e.symm
            rw [e45] at hP2
            have hv : Ln.tail3 [a, b, c] (x :: t) = none := by show (if x = 32 then some _ else if x = 45 then some _ else none) = none; rw [if_neg h32, if_neg h45]
            rw [hv]
            clear hv e32 e45 h32 h45
            go_enter Tryd.func28, Tryd.ntmps28
            go_wp2_with (first
              | (go_at_call 34; refine (hB _).mono ?_; rintro e w1 ⟨rfl, hb⟩; have hs := (St3.new w ⟨#[]⟩ ⟨#[]⟩ false).same (hb.block _ (by simp)); have hb0 := ((Below.refl _ w).alloc (Nat.le_refl _) _).trans (hb.mono (by simp)); have c0 := fun o => (hs.alloc o).c0; have c1 := fun o => (hs.alloc o).c1; have c2 := fun o => (hs.alloc o).c2; have f0 := fun o => (hs.alloc o).fr 0; have f1 := fun o => (hs.alloc o).fr 1; have f2 := fun o => (hs.alloc o).fr 2; clear hB hb)
              | (go_at_call 35; first | (refine (hP1 _).mono ?_; rintro e w' ⟨rfl, hw⟩; rw [hw]; clear hP1 hw) | (refine (hP2 _).mono ?_; rintro e w' ⟨rfl, hw⟩; rw [hw]; clear hP2 hw)))
            clear c0 c1 c2 f0 f1 f2
            have hs2 := (hs.alloc (.cells #[.string ⟨#[a, b, c]⟩, .bool false, .string ⟨#[]⟩] 54)).set ⟨#[]⟩ ⟨#[]⟩ false
            have hb2 := below_set3 (hb0.alloc hb0.size (.cells #[.string ⟨#[a, b, c]⟩, .bool false, .string ⟨#[]⟩] 54)) (Nat.le_refl _) (.string ⟨#[]⟩) (.bool false) (.string ⟨#[]⟩)
            generalize World.setCell _ _ _ = wz at hs2 hb2 ⊢
            have d0 := hs2.c0
            have d1 := hs2.c1
            have d2 := hs2.c2
            refine bodyPost_ret (v := .tuple #[.agg #[.string ⟨#[]⟩, .bool false, .string ⟨#[]⟩], .bool false]) (by simp [results, Tryd.f28, go_sem, d0, d1, d2]) rfl ⟨rfl, hb2⟩
end Go.Proofs.YtnodngcfjdghcaaDoor
