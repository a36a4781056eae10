/- vars' nameAhead walked (layer 16). -/
import Derived.Test.YtodlhhfcjkjapaaGreatDoorCA
import Derived.Test.YtodlhhfcjkjapaaGreatDoorIndex1
import Derived.Test.YtodlhhfcjkjapaaGreatDoorLeftSet
namespace Go.Proofs.YtodlhhfcjkjapaaGreatDoor
open Go.RowKit
namespace Va
def name (l : List UInt8) : List UInt8 := if small (l.headD 0) = true then l.takeWhile inName else []
def lets : List UInt8 := [97, 98, 99, 100, 101, 102, 103, 104, 105, 106, 107, 108, 109, 110, 111, 112, 113, 114, 115, 116, 117, 118, 119, 120, 121, 122]
def nams : List UInt8 := [97, 98, 99, 100, 101, 102, 103, 104, 105, 106, 107, 108, 109, 110, 111, 112, 113, 114, 115, 116, 117, 118, 119, 120, 121, 122, 48, 49, 50, 51, 52, 53, 54, 55, 56, 57, 95]
theorem of_all {p : UInt8 → Prop} (h : ∀ n : Fin 256, p (UInt8.ofNat n.val)) (c : UInt8) : p c := by
 have := h ⟨c.toNat, c.toNat_lt⟩
 simpa using this
theorem nams_name : ∀ c : UInt8, nams.contains c = inName c := of_all (by decide +kernel)
theorem lets_ix : ∀ c : UInt8, decide (0 ≤ Lib.indexByte lets c) = small c := of_all (by decide +kernel)
theorem len_parts (p : UInt8 → Bool) (l : List UInt8) : l.length = (l.takeWhile p).length + (l.dropWhile p).length := by
 conv => lhs; rw [← List.takeWhile_append_dropWhile (p := p) (l := l)]
 rw [List.length_append]
theorem take_len (p : UInt8 → Bool) : ∀ l : List UInt8, l.take (l.takeWhile p).length = l.takeWhile p
 | [] => rfl
 | c :: l => by
  rw [List.takeWhile_cons]
  split
  ·rw [List.length_cons, List.take_succ_cons, take_len p l]
  ·rfl
theorem nams_drop (l : List UInt8) : l.dropWhile nams.contains = l.dropWhile inName := by
 rw [show nams.contains = inName from funext nams_name]
end Va
set_option maxHeartbeats 1000000 in
theorem vname_any (l : List UInt8) (hl : l.length ≤ 16777216) (w : World) :
  Calls Tryz.prog 142 #[.string ⟨l.toArray⟩] w fun e w' => e = .returned (sv (Va.name l)) ∧ Below w.heap.size w w' := by
 cases l with
 | nil =>
  show Calls _ _ _ _ fun e w' => e = .returned (.string ⟨#[]⟩) ∧ _
  go_enter Tryz.func142, Tryz.ntmps142
  go_wp2
  go_ret
  exact ⟨rfl, Below.refl _ _⟩
 | cons c r =>
  obtain ⟨q, hq⟩ : ∃ q, q = c :: r := ⟨_, rfl⟩
  have hC := Tryz.strings_Contains_one ⟨Va.lets.toArray⟩ c w
  rw [show (⟨Va.lets.toArray⟩ : ByteArray).data.toList = Va.lets from rfl, Va.lets_ix] at hC
  have hC : Calls Tryz.prog 85 #[.string ⟨#[97, 98, 99, 100, 101, 102, 103, 104, 105, 106, 107, 108, 109, 110, 111, 112, 113, 114, 115, 116, 117, 118, 119, 120, 121, 122]⟩, .string ⟨#[c]⟩] w _ := hC
  have hx0 : (⟨q.toArray⟩ : ByteArray).extract 0 1 = ⟨#[c]⟩ := by rw [ba_extract, hq]; rfl
  have hempl : (⟨q.toArray⟩ : ByteArray).toList.isEmpty = false := by rw [Lib.toList_data, hq]; rfl
  have hempq : q.isEmpty = false := by rw [hq]; rfl
  have hz : (⟨q.toArray⟩ : ByteArray).size = q.length := rfl
  have hq1 : 1 ≤ q.length := by rw [hq]; simp
  have hq2 : ((1 : Int) ≤ (q.length : Int)) := by omega
  rw [← hq] at hl ⊢
  have hnm : Va.name q = if Va.small c = true then q.takeWhile Va.inName else [] := by rw [hq]; rfl
  cases hs : Va.small c with
  | false =>
   rw [hs] at hC hnm
   rw [hnm]
   show Calls _ _ _ _ fun e w' => e = .returned (.string ⟨#[]⟩) ∧ _
   clear hnm hq hs
   go_enter Tryz.func142, Tryz.ntmps142
   go_wp2_with (go_at_call 85; refine hC.mono ?_; rintro e w' ⟨rfl, hw⟩; rw [hw])
   go_ret
   exact ⟨rfl, Below.refl _ _⟩
  | true =>
   rw [hs] at hC hnm
   rw [if_pos rfl] at hnm
   rw [hnm]
   have ht := sTrimLeft lsl q hl ⟨Va.nams.toArray⟩ (by decide) (by decide) (fun j b hj => by
    have : ∀ b ∈ Va.nams, b.toNat < 128 := by decide
    exact this b (List.mem_of_getElem? hj)) w
   rw [show (⟨Va.nams.toArray⟩ : ByteArray).data.toList = Va.nams from rfl, Va.nams_drop] at ht
   have ht : Calls Tryz.prog 105 #[.string ⟨q.toArray⟩, .string ⟨#[97, 98, 99, 100, 101, 102, 103, 104, 105, 106, 107, 108, 109, 110, 111, 112, 113, 114, 115, 116, 117, 118, 119, 120, 121, 122, 48, 49, 50, 51, 52, 53, 54, 55, 56, 57, 95]⟩] w _ := ht
   have hsum := Va.len_parts Va.inName q
   have hx : (⟨q.toArray⟩ : ByteArray).extract 0 (q.takeWhile Va.inName).length = ⟨(q.takeWhile Va.inName).toArray⟩ := by
    rw [ba_extract]
    simp only [List.drop_zero]
    rw [Va.take_len]
   unfold sv
   clear hnm hq hs
   generalize q.takeWhile Va.inName = R at *
   generalize q.dropWhile Va.inName = D at *
   obtain ⟨L, hL⟩ : ∃ L, L = q.length := ⟨_, rfl⟩
   rw [← hL] at hz hsum hq2 hl hq1
   clear hL
   subst hsum
   have hz2 : (⟨D.toArray⟩ : ByteArray).size = D.length := rfl
   have hsub3 : ((R.length : Int) + (D.length : Int) - (D.length : Int)) = (R.length : Int) := by omega
   have hsub2 : (((R.length + D.length : Nat) : Int) - (D.length : Int)) = (R.length : Int) := by omega
   have hRl : R.length ≤ 16777216 := by omega
   have hDl : D.length ≤ 16777216 := by omega
   clear hl
   go_enter Tryz.func142, Tryz.ntmps142
   go_wp2_with (first | (go_at_call 85; refine hC.mono ?_; rintro e w' ⟨rfl, hw⟩; rw [hw]) | (go_at_call 105; refine ht.mono ?_; rintro e w' ⟨rfl, hb⟩))
   go_ret
   exact ⟨rfl, hb⟩
end Go.Proofs.YtodlhhfcjkjapaaGreatDoor
