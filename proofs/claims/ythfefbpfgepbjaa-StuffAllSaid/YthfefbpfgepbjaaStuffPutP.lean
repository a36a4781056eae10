/- stuff.Put walked. -/
import Derived.Test.YthfefbpfgepbjaaStuffWhole
namespace Go.Proofs.Ythfefbpfgepbjaa
open Go.RowKit

set_option maxHeartbeats 1000000 in
theorem sput_any (v : Value) (xs : List UInt8) (w : World) (h : Rd w v (xs.map bv)) (hs : xs.length ≤ 100000) (hm : MX w) :
    Calls Try.prog 11 #[v] w fun e w' => ∃ ao c, e = .returned (.slice ao (St.put xs).length c) ∧ Rd w' (.slice ao (St.put xs).length c) ((St.put xs).map bv) ∧ Below w.heap.size w w' := by
  have hmf : ∀ (fn : Fn) (first cap : Array Value) (w : World), (Instr.makeFunc fn first cap).run Try.prog w = .ok (.func fn first cap) w := fun _ _ _ _ => rfl
  have hal := (Below.refl w.heap.size w).alloc (Nat.le_refl _) (.cells #[.slice none 0 0] 22)
  have hnew := heap_alloc_new w (.cells #[.slice none 0 0] 22)
  have hwh := whole_any v xs _ (h.below hal) (by omega)
  have hwl := St.whole_len xs
  have hwf := St.whole_form xs
  have HW := Lib.hid hwh
  have HAL := Lib.hid hal
  have HN := Lib.hid hnew
  have HM := Lib.hid hm
  have HWL := Lib.hid hwl
  have HWF := Lib.hid hwf
  clear hwh hal hnew hm hwl hwf h
  go_enter Try.func11, Try.ntmps11
  go_wp2_with fail
  refine HW.out.mono ?_
  rintro e w1 ⟨ao, c, rfl, hr, hb⟩
  have hb1 := HAL.out.trans (hb.mono HAL.out.size)
  have hg1 := (hb.block w.heap.size (by simp)).trans HN.out
  have hea := each_any _ (St.whole xs) w.heap.size w1 hr (HWF.out.imp (fun h => h.1) id) (by have := HWL.out; omega) hg1 (HM.out.below hb1)
  have HE := Lib.hid hea
  have HB1 := Lib.hid hb1
  clear hea hg1 hb1 hb HW HM HN HAL
  go_wp2_with fail
  refine HE.out.mono ?_
  rintro e w2 ⟨s, rfl, hr2⟩
  have c2 := hr2.c0
  have hb2 : Below w.heap.size w w2 := ⟨hr2.os.trans HB1.out.os, hr2.tape.trans HB1.out.tape, hr2.output.trans HB1.out.output, Nat.le_trans HB1.out.size hr2.size, fun k hk => (hr2.block k (Nat.lt_of_lt_of_le hk HB1.out.size) (by omega)).trans (HB1.out.block k hk)⟩
  have HB2 := Lib.hid hb2
  have HR2 := Lib.hid hr2
  clear HE HB1 hb2 hr2 hr
  go_wp2_with (at_builtin; refine append_text rfl (.tmp 8) (.const (.string ⟨#[46, 13, 10]⟩)) rfl rfl HR2.out.o ⟨#[46, 13, 10]⟩ rfl ?ca HR2.out.size ?_)
  case ca =>
    have := (St.dots_len (St.whole xs) []).2
    have := HWL.out
    show _ + 3 ≤ _
    omega
  intro v3 w3 ho3 hg3
  obtain ⟨bo, bc, rfl⟩ := own_form ho3
  have hb3 := Lib.hid (HB2.out.grown hg3 HB2.out.size (fun k hk => Nat.le_trans (Nat.le_trans (Nat.le_succ _) (Nat.succ_le_of_lt HR2.out.lt)) (HR2.out.own k hk).1))
  have hrd := Rd.of_own ho3
  have e : (St.dots [] (St.whole xs)).length + ByteArray.size ⟨#[46, 13, 10]⟩ = (St.put xs).length := by
    unfold St.put; rw [List.length_append]; rfl
  have e2 : (St.dots [] (St.whole xs)).map bv ++ (⟨#[46, 13, 10]⟩ : ByteArray).data.toList.map bv = (St.put xs).map bv := by
    unfold St.put; rw [List.map_append]
  have HRD := Lib.hid (show Rd w3 (.slice bo (St.put xs).length bc) ((St.put xs).map bv) by rw [← e, ← e2]; exact hrd)
  have e3 : (St.dots [] (St.whole xs)).length + 3 = (St.put xs).length := e
  clear ho3 hg3 hrd e e2 HR2 c2
  go_wp2
  go_ret
  exact ⟨_, _, by rw [← e3]; rfl, HRD.out, hb3.out⟩
end Go.Proofs.Ythfefbpfgepbjaa
