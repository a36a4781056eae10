/- lex.first walked (layer 14). -/
import Derived.Test.YtiikionoagmabaaDoorLexText
namespace Go.Proofs.YtiikionoagmabaaDoor
open Go.RowKit

def lettersB : ByteArray := ⟨#[97, 98, 99, 100, 101, 102, 103, 104, 105, 106, 107, 108, 109, 110, 111, 112, 113, 114, 115, 116, 117, 118, 119, 120, 121, 122]⟩
def digitsB : ByteArray := ⟨#[48, 49, 50, 51, 52, 53, 54, 55, 56, 57]⟩
def signsB : ByteArray := ⟨#[123, 125, 59, 61]⟩
def namesB : ByteArray := ⟨#[97, 98, 99, 100, 101, 102, 103, 104, 105, 106, 107, 108, 109, 110, 111, 112, 113, 114, 115, 116, 117, 118, 119, 120, 121, 122, 48, 49, 50, 51, 52, 53, 54, 55, 56, 57, 95]⟩
theorem all256 {p q : UInt8 → Bool} (h : ∀ b : Fin 256, p (UInt8.ofNat b.val) = q (UInt8.ofNat b.val)) (b : UInt8) : p b = q b := by
  have := h ⟨b.toNat, UInt8.toNat_lt b⟩
  simpa using this
theorem letters_has (c : UInt8) : decide (0 ≤ Lib.indexByte lettersB.data.toList c) = Lx.small c := all256 (p := fun c => decide (0 ≤ Lib.indexByte lettersB.data.toList c)) (q := Lx.small) (by decide +kernel) c
theorem digits_has (c : UInt8) : decide (0 ≤ Lib.indexByte digitsB.data.toList c) = Lx.digit c := all256 (p := fun c => decide (0 ≤ Lib.indexByte digitsB.data.toList c)) (q := Lx.digit) (by decide +kernel) c
theorem signs_has (c : UInt8) : decide (0 ≤ Lib.indexByte signsB.data.toList c) = Lx.sign c := all256 (p := fun c => decide (0 ≤ Lib.indexByte signsB.data.toList c)) (q := Lx.sign) (by decide +kernel) c
theorem names_has : namesB.data.toList.contains = Lx.inName := funext (all256 (by decide +kernel))
theorem digits_all : digitsB.data.toList.contains = Lx.digit := funext (all256 (by decide +kernel))
theorem names_ascii : ∀ (j : Nat) b, namesB.data.toList[j]? = some b → b.toNat < 128 := fun j b h => by
  have h2 : ∀ b ∈ namesB.data.toList, b.toNat < 128 := by decide
  exact h2 b (List.mem_of_getElem? h)
theorem digits_ascii : ∀ (j : Nat) b, digitsB.data.toList[j]? = some b → b.toNat < 128 := fun j b h => by
  have h2 : ∀ b ∈ digitsB.data.toList, b.toNat < 128 := by decide
  exact h2 b (List.mem_of_getElem? h)
theorem has_letters (c : UInt8) (w : World) : Calls Tryd.prog 51 #[.string ⟨#[97, 98, 99, 100, 101, 102, 103, 104, 105, 106, 107, 108, 109, 110, 111, 112, 113, 114, 115, 116, 117, 118, 119, 120, 121, 122]⟩, .string ⟨#[c]⟩] w fun e w' => e = .returned (.bool (Lx.small c)) ∧ w' = w := by
  have h := Tryd.strings_Contains_one lettersB c w
  rw [letters_has] at h
  exact h
theorem has_digits (c : UInt8) (w : World) : Calls Tryd.prog 51 #[.string ⟨#[48, 49, 50, 51, 52, 53, 54, 55, 56, 57]⟩, .string ⟨#[c]⟩] w fun e w' => e = .returned (.bool (Lx.digit c)) ∧ w' = w := by
  have h := Tryd.strings_Contains_one digitsB c w
  rw [digits_has] at h
  exact h
theorem has_signs (c : UInt8) (w : World) : Calls Tryd.prog 51 #[.string ⟨#[123, 125, 59, 61]⟩, .string ⟨#[c]⟩] w fun e w' => e = .returned (.bool (Lx.sign c)) ∧ w' = w := by
  have h := Tryd.strings_Contains_one signsB c w
  rw [signs_has] at h
  exact h
theorem run_names (l : List UInt8) (hl : l.length ≤ 16777216) (w : World) : Calls Tryd.prog 53 #[.string ⟨l.toArray⟩, .string ⟨#[97, 98, 99, 100, 101, 102, 103, 104, 105, 106, 107, 108, 109, 110, 111, 112, 113, 114, 115, 116, 117, 118, 119, 120, 121, 122, 48, 49, 50, 51, 52, 53, 54, 55, 56, 57, 95]⟩] w fun e w' => e = .returned (.string ⟨(l.takeWhile Lx.inName).toArray⟩) ∧ Below w.heap.size w w' := by
  have h := run_any l hl namesB (by decide) (by decide) names_ascii w
  rw [names_has] at h
  exact h
theorem run_digits (l : List UInt8) (hl : l.length ≤ 16777216) (w : World) : Calls Tryd.prog 53 #[.string ⟨l.toArray⟩, .string ⟨#[48, 49, 50, 51, 52, 53, 54, 55, 56, 57]⟩] w fun e w' => e = .returned (.string ⟨(l.takeWhile Lx.digit).toArray⟩) ∧ Below w.heap.size w w' := by
  have h := run_any l hl digitsB (by decide) (by decide) digits_ascii w
  rw [digits_all] at h
  exact h

/-- The three results as they are told. -/
theorem nxv_form (c : UInt8) (l : List UInt8) : ∃ (k : Nat) (t : List UInt8) (n e : Nat), nxv c l = .tuple #[.agg #[.int .i64 (k : Int), .string ⟨t.toArray⟩, .int .i64 (0 : Nat)], .int .i64 (n : Int), .int .i64 (e : Int)] := by
  unfold nxv
  cases Lx.next c l with
  | error e => exact ⟨0, [], 0, e, rfl⟩
  | ok x => obtain ⟨k, t, r⟩ := x; exact ⟨k, t, _, 0, rfl⟩
theorem bounded_form (k : Nat) (l : List UInt8) (m f : Nat) : ∃ (k' : Nat) (t : List UInt8) (n e : Nat), (if m < l.length then Value.tuple #[tkv 0 [] 0, .int .i64 0, .int .i64 (f : Int)] else .tuple #[tkv k l 0, .int .i64 (l.length : Int), .int .i64 0]) = .tuple #[.agg #[.int .i64 (k' : Int), .string ⟨t.toArray⟩, .int .i64 (0 : Nat)], .int .i64 (n : Int), .int .i64 (e : Int)] := by
  by_cases h : m < l.length
  · rw [if_pos h]; exact ⟨0, [], 0, f, rfl⟩
  · rw [if_neg h]; exact ⟨k, l, _, 0, rfl⟩
theorem nxv_name {c : UInt8} {l : List UInt8} (h : Lx.small c = true) : nxv c l = if 12 < ((c :: l).takeWhile Lx.inName).length then .tuple #[tkv 0 [] 0, .int .i64 0, .int .i64 (13 : Nat)] else .tuple #[tkv 1 ((c :: l).takeWhile Lx.inName) 0, .int .i64 (((c :: l).takeWhile Lx.inName).length : Int), .int .i64 0] := by
  have h34 : ¬ c = 34 := fun e => by rw [e] at h; cases h
  have hl := take_drop_len Lx.inName (c :: l)
  simp only [List.length_cons] at hl
  by_cases hb : 12 < ((c :: l).takeWhile Lx.inName).length
  · rw [if_pos hb, nxv_err (e := 13) (by unfold Lx.next; rw [if_neg h34, if_pos h, if_pos hb])]
  · rw [if_neg hb, nxv_ok (k := 1) (t := (c :: l).takeWhile Lx.inName) (r := (c :: l).dropWhile Lx.inName) (by unfold Lx.next; rw [if_neg h34, if_pos h, if_neg hb]), hl, Nat.add_sub_cancel]
theorem nxv_int {c : UInt8} {l : List UInt8} (h : Lx.digit c = true) : nxv c l = if 9 < ((c :: l).takeWhile Lx.digit).length then .tuple #[tkv 0 [] 0, .int .i64 0, .int .i64 (12 : Nat)] else .tuple #[tkv 2 ((c :: l).takeWhile Lx.digit) 0, .int .i64 (((c :: l).takeWhile Lx.digit).length : Int), .int .i64 0] := by
  have h34 : ¬ c = 34 := fun e => by rw [e] at h; cases h
  have hs : ¬ Lx.small c = true := fun e => by simp [Lx.small, Lx.digit] at e h; omega
  have hl := take_drop_len Lx.digit (c :: l)
  simp only [List.length_cons] at hl
  by_cases hb : 9 < ((c :: l).takeWhile Lx.digit).length
  · rw [if_pos hb, nxv_err (e := 12) (by unfold Lx.next; rw [if_neg h34, if_neg hs, if_pos h, if_pos hb])]
  · rw [if_neg hb, nxv_ok (k := 2) (t := (c :: l).takeWhile Lx.digit) (r := (c :: l).dropWhile Lx.digit) (by unfold Lx.next; rw [if_neg h34, if_neg hs, if_pos h, if_neg hb]), hl, Nat.add_sub_cancel]

set_option maxRecDepth 20000 in
set_option maxRecDepth 20000 in
set_option maxHeartbeats 4000000 in
theorem first_name (c : UInt8) (l : List UInt8) (hl : l.length ≤ 1048576) (hc : Lx.small c = true) (w : World) :
    Calls Tryd.prog 36 #[.string ⟨(c :: l).toArray⟩] w fun e w' => e = .returned (nxv c l) ∧ Below w.heap.size w w' := by
  obtain ⟨q, hq⟩ : ∃ q, q = c :: l := ⟨_, rfl⟩
  have hz : (⟨q.toArray⟩ : ByteArray).size = l.length + 1 := by show q.toArray.size = _; rw [hq]; simp
  have hE : (⟨q.toArray⟩ : ByteArray).extract 0 1 = ⟨#[c]⟩ := by rw [ba_extract, hq]; simp
  have hp : (0 : Int) ≤ (l.length : Int) := by omega
  have hp1 : (1 : Int) ≤ (l.length : Int) + 1 := by omega
  have C1 := fun wx => has_letters c wx
  have C2 := fun wx => has_digits c wx
  have C3 := fun wx => has_signs c wx
  rw [hc] at C1
  have hv := nxv_name hc (l := l)
  have hr := fun wx => run_names (c :: l) (by simp; omega) wx
  have hT : ((c :: l).takeWhile Lx.inName).length ≤ l.length + 1 := by have := take_drop_len Lx.inName (c :: l); simp only [List.length_cons] at this; omega
  rw [← hq] at hr hv hT ⊢
  generalize q.takeWhile Lx.inName = R at *
  have hbd := fun wx => bounded_any 1 R (by omega) 12 13 wx
  obtain ⟨k, t, n, e, hf⟩ := bounded_form 1 R 12 13
  rw [hf] at hbd hv
  have HV := Lib.hid hv
  clear hq hc hv hf C3
  clear C2
  go_enter Tryd.func36, Tryd.ntmps36
  go_wp2_with (first
    | (go_at_call 51; refine (C1 _).mono ?_; rintro e w' ⟨rfl, hw⟩; rw [hw]; clear hw C1)
    | (go_at_call 53; refine (hr _).mono ?_; rintro e w1 ⟨rfl, hb1⟩; clear hr)
    | (go_at_call 52; refine (hbd _).mono ?_; rintro e w2 ⟨rfl, hb2⟩; have hres := ((Tk3.new w 0 [] 0).below hb1).below hb2; have hbl := ((Below.refl _ w).alloc (Nat.le_refl _) _).trans ((hb1.trans (hb2.mono hb1.size)).mono (by simp)); have d0 := hres.c0; have d1 := hres.c1; have d2 := hres.c2; have df := hres.fr; clear hbd))
  have HZ := Lib.hid (hres.set k t 0)
  have HB := Lib.hid (below_set3t hbl (Nat.le_refl _) (.int .i64 (k : Int)) (.string ⟨t.toArray⟩) (.int .i64 (0 : Nat)))
  clear hres hbl
  refine bodyPost_ret (v := .tuple #[.agg #[.int .i64 (k : Int), .string ⟨t.toArray⟩, .int .i64 (0 : Nat)], .int .i64 (n : Int), .int .i64 (e : Int)]) (by have d0 := HZ.out.c0; have d1 := HZ.out.c1; have d2 := HZ.out.c2; simp at d0 d1 d2; simp [results, Tryd.results36, go_sem, d0, d1, d2]) rfl ⟨by rw [HV.out], HB.out⟩

set_option maxRecDepth 20000 in
set_option maxRecDepth 20000 in
set_option maxHeartbeats 4000000 in
theorem first_int (c : UInt8) (l : List UInt8) (hl : l.length ≤ 1048576) (hc : Lx.digit c = true) (w : World) :
    Calls Tryd.prog 36 #[.string ⟨(c :: l).toArray⟩] w fun e w' => e = .returned (nxv c l) ∧ Below w.heap.size w w' := by
  obtain ⟨q, hq⟩ : ∃ q, q = c :: l := ⟨_, rfl⟩
  have hz : (⟨q.toArray⟩ : ByteArray).size = l.length + 1 := by show q.toArray.size = _; rw [hq]; simp
  have hE : (⟨q.toArray⟩ : ByteArray).extract 0 1 = ⟨#[c]⟩ := by rw [ba_extract, hq]; simp
  have hp : (0 : Int) ≤ (l.length : Int) := by omega
  have hp1 : (1 : Int) ≤ (l.length : Int) + 1 := by omega
  have C1 := fun wx => has_letters c wx
  have C2 := fun wx => has_digits c wx
  have C3 := fun wx => has_signs c wx
  rw [hc] at C2
  rw [show Lx.small c = false by rw [Bool.eq_false_iff]; intro e; simp [Lx.small, Lx.digit] at e hc; omega] at C1
  have hv := nxv_int hc (l := l)
  have hr := fun wx => run_digits (c :: l) (by simp; omega) wx
  have hT : ((c :: l).takeWhile Lx.digit).length ≤ l.length + 1 := by have := take_drop_len Lx.digit (c :: l); simp only [List.length_cons] at this; omega
  rw [← hq] at hr hv hT ⊢
  generalize q.takeWhile Lx.digit = R at *
  have hbd := fun wx => bounded_any 2 R (by omega) 9 12 wx
  obtain ⟨k, t, n, e, hf⟩ := bounded_form 2 R 9 12
  rw [hf] at hbd hv
  have HV := Lib.hid hv
  clear hq hc hv hf C3
  go_enter Tryd.func36, Tryd.ntmps36
  go_wp2_with (first
    | (go_at_call 51; refine (C1 _).mono ?_; rintro e w' ⟨rfl, hw⟩; rw [hw]; clear hw C1)
    | (go_at_call 51; refine (C2 _).mono ?_; rintro e w' ⟨rfl, hw⟩; rw [hw]; clear hw C2)
    | (go_at_call 53; refine (hr _).mono ?_; rintro e w1 ⟨rfl, hb1⟩; clear hr)
    | (go_at_call 52; refine (hbd _).mono ?_; rintro e w2 ⟨rfl, hb2⟩; have hres := ((Tk3.new w 0 [] 0).below hb1).below hb2; have hbl := ((Below.refl _ w).alloc (Nat.le_refl _) _).trans ((hb1.trans (hb2.mono hb1.size)).mono (by simp)); have d0 := hres.c0; have d1 := hres.c1; have d2 := hres.c2; have df := hres.fr; clear hbd))
  have HZ := Lib.hid (hres.set k t 0)
  have HB := Lib.hid (below_set3t hbl (Nat.le_refl _) (.int .i64 (k : Int)) (.string ⟨t.toArray⟩) (.int .i64 (0 : Nat)))
  clear hres hbl
  refine bodyPost_ret (v := .tuple #[.agg #[.int .i64 (k : Int), .string ⟨t.toArray⟩, .int .i64 (0 : Nat)], .int .i64 (n : Int), .int .i64 (e : Int)]) (by have d0 := HZ.out.c0; have d1 := HZ.out.c1; have d2 := HZ.out.c2; simp at d0 d1 d2; simp [results, Tryd.results36, go_sem, d0, d1, d2]) rfl ⟨by rw [HV.out], HB.out⟩

set_option maxRecDepth 20000 in
set_option maxRecDepth 20000 in
set_option maxHeartbeats 4000000 in
theorem first_sign (c : UInt8) (l : List UInt8) (hl : l.length ≤ 1048576) (hc : Lx.sign c = true) (w : World) :
    Calls Tryd.prog 36 #[.string ⟨(c :: l).toArray⟩] w fun e w' => e = .returned (nxv c l) ∧ Below w.heap.size w w' := by
  obtain ⟨q, hq⟩ : ∃ q, q = c :: l := ⟨_, rfl⟩
  have hz : (⟨q.toArray⟩ : ByteArray).size = l.length + 1 := by show q.toArray.size = _; rw [hq]; simp
  have hE : (⟨q.toArray⟩ : ByteArray).extract 0 1 = ⟨#[c]⟩ := by rw [ba_extract, hq]; simp
  have hp : (0 : Int) ≤ (l.length : Int) := by omega
  have hp1 : (1 : Int) ≤ (l.length : Int) + 1 := by omega
  have C1 := fun wx => has_letters c wx
  have C2 := fun wx => has_digits c wx
  have C3 := fun wx => has_signs c wx
  rw [hc] at C3
  have c4 : c = 123 ∨ c = 125 ∨ c = 59 ∨ c = 61 := by simpa [Lx.sign, or_assoc] using hc
  rw [show Lx.small c = false by rcases c4 with rfl | rfl | rfl | rfl <;> rfl] at C1
  rw [show Lx.digit c = false by rcases c4 with rfl | rfl | rfl | rfl <;> rfl] at C2
  have hv : nxv c l = .tuple #[.agg #[.int .i64 (4 : Nat), .string ⟨[c].toArray⟩, .int .i64 (0 : Nat)], .int .i64 (1 : Nat), .int .i64 (0 : Nat)] := by
    rw [nxv_ok (k := 4) (t := [c]) (r := l) (by rcases c4 with rfl | rfl | rfl | rfl <;> rfl), show l.length + 1 - l.length = 1 by omega]; rfl
  have HV := Lib.hid hv
  have hres := Tk3.new w 0 [] 0
  have hbl := (Below.refl _ w).alloc (Nat.le_refl _) (.cells #[.int .i64 0, .string ⟨#[]⟩, .int .i64 0] 53)
  have d0 := hres.c0
  have d1 := hres.c1
  have d2 := hres.c2
  have df := hres.fr
  have HZ := Lib.hid (hres.set 4 [c] 0)
  have HB := Lib.hid (below_set3t hbl (Nat.le_refl _) (.int .i64 (4 : Nat)) (.string ⟨[c].toArray⟩) (.int .i64 (0 : Nat)))
  obtain ⟨k, hk⟩ : ∃ k : Nat, k = 4 := ⟨_, rfl⟩
  rw [← hq]
  clear hq hc hv c4
  go_enter Tryd.func36, Tryd.ntmps36
  go_wp2_with (first
    | (go_at_call 51; refine (C1 _).mono ?_; rintro e w' ⟨rfl, hw⟩; rw [hw]; clear hw C1)
    | (go_at_call 51; refine (C2 _).mono ?_; rintro e w' ⟨rfl, hw⟩; rw [hw]; clear hw C2)
    | (go_at_call 51; refine (C3 _).mono ?_; rintro e w' ⟨rfl, hw⟩; rw [hw]; clear hw C3))
  refine bodyPost_ret (v := .tuple #[.agg #[.int .i64 (4 : Nat), .string ⟨[c].toArray⟩, .int .i64 (0 : Nat)], .int .i64 (1 : Nat), .int .i64 (0 : Nat)]) (by simp [results, Tryd.results36, go_sem]) rfl ⟨by rw [HV.out], (Below.refl _ w).alloc (Nat.le_refl _) _⟩

set_option maxRecDepth 20000 in
set_option maxRecDepth 20000 in
set_option maxHeartbeats 4000000 in
theorem first_text (c : UInt8) (l : List UInt8) (hl : l.length ≤ 1048576) (hc : c = 34) (w : World) :
    Calls Tryd.prog 36 #[.string ⟨(c :: l).toArray⟩] w fun e w' => e = .returned (nxv c l) ∧ Below w.heap.size w w' := by
  obtain ⟨q, hq⟩ : ∃ q, q = c :: l := ⟨_, rfl⟩
  have hz : (⟨q.toArray⟩ : ByteArray).size = l.length + 1 := by show q.toArray.size = _; rw [hq]; simp
  have hE : (⟨q.toArray⟩ : ByteArray).extract 0 1 = ⟨#[c]⟩ := by rw [ba_extract, hq]; simp
  have hp : (0 : Int) ≤ (l.length : Int) := by omega
  have hp1 : (1 : Int) ≤ (l.length : Int) + 1 := by omega
  have C1 := fun wx => has_letters c wx
  have C2 := fun wx => has_digits c wx
  have C3 := fun wx => has_signs c wx
  subst hc
  rw [show Lx.small 34 = false from rfl] at C1
  rw [show Lx.digit 34 = false from rfl] at C2
  rw [show Lx.sign 34 = false from rfl] at C3
  have ht := fun wx => text_any l hl wx
  obtain ⟨k, t, n, e, hv⟩ := nxv_form 34 l
  rw [hv] at ht
  have HV := Lib.hid hv
  rw [← hq] at ht ⊢
  clear hq hv
  go_enter Tryd.func36, Tryd.ntmps36
  go_wp2_with (first
    | (go_at_call 51; refine (C1 _).mono ?_; rintro e w' ⟨rfl, hw⟩; rw [hw]; clear hw C1)
    | (go_at_call 51; refine (C2 _).mono ?_; rintro e w' ⟨rfl, hw⟩; rw [hw]; clear hw C2)
    | (go_at_call 51; refine (C3 _).mono ?_; rintro e w' ⟨rfl, hw⟩; rw [hw]; clear hw C3)
    | (go_at_call 54; refine (ht _).mono ?_; rintro e w1 ⟨rfl, hb1⟩; have hres := ((Tk3.new w 0 [] 0).below hb1); have hbl := ((Below.refl _ w).alloc (Nat.le_refl _) _).trans (hb1.mono (by simp)); have d0 := hres.c0; have d1 := hres.c1; have d2 := hres.c2; have df := hres.fr; clear ht))
  have HZ := Lib.hid (hres.set k t 0)
  have HB := Lib.hid (below_set3t hbl (Nat.le_refl _) (.int .i64 (k : Int)) (.string ⟨t.toArray⟩) (.int .i64 (0 : Nat)))
  clear hres hbl
  refine bodyPost_ret (v := .tuple #[.agg #[.int .i64 (k : Int), .string ⟨t.toArray⟩, .int .i64 (0 : Nat)], .int .i64 (n : Int), .int .i64 (e : Int)]) (by have d0 := HZ.out.c0; have d1 := HZ.out.c1; have d2 := HZ.out.c2; simp at d0 d1 d2; simp [results, Tryd.results36, go_sem, d0, d1, d2]) rfl ⟨by rw [HV.out], HB.out⟩

set_option maxRecDepth 20000 in
set_option maxRecDepth 20000 in
set_option maxHeartbeats 4000000 in
theorem first_none (c : UInt8) (l : List UInt8) (hl : l.length ≤ 1048576) (hc : Lx.small c = false ∧ Lx.digit c = false ∧ Lx.sign c = false ∧ ¬ c = 34) (w : World) :
    Calls Tryd.prog 36 #[.string ⟨(c :: l).toArray⟩] w fun e w' => e = .returned (nxv c l) ∧ Below w.heap.size w w' := by
  obtain ⟨q, hq⟩ : ∃ q, q = c :: l := ⟨_, rfl⟩
  have hz : (⟨q.toArray⟩ : ByteArray).size = l.length + 1 := by show q.toArray.size = _; rw [hq]; simp
  have hE : (⟨q.toArray⟩ : ByteArray).extract 0 1 = ⟨#[c]⟩ := by rw [ba_extract, hq]; simp
  have hp : (0 : Int) ≤ (l.length : Int) := by omega
  have hp1 : (1 : Int) ≤ (l.length : Int) + 1 := by omega
  have C1 := fun wx => has_letters c wx
  have C2 := fun wx => has_digits c wx
  have C3 := fun wx => has_signs c wx
  obtain ⟨h1, h2, h3, h4⟩ := hc
  rw [h1] at C1
  rw [h2] at C2
  rw [h3] at C3
  have hv : nxv c l = .tuple #[.agg #[.int .i64 (0 : Nat), .string ⟨#[]⟩, .int .i64 (0 : Nat)], .int .i64 (0 : Nat), .int .i64 (10 : Nat)] := by
    rw [nxv_err (e := 10) (by unfold Lx.next; rw [if_neg h4, if_neg (by simp [h1]), if_neg (by simp [h2]), if_neg (by simp [h3])])]; rfl
  have HV := Lib.hid hv
  have f1 : ((c.toNat : Int) == 34) = false := beq_eq_false_iff_ne.2 fun e => h4 (UInt8.toNat_inj.1 (show c.toNat = (34 : UInt8).toNat by show c.toNat = 34; omega))
  have hx : ∀ h, (⟨#[c]⟩ : ByteArray)[0]'h = c := fun h => rfl
  rw [← hq]
  clear hq h1 h2 h3 h4 hv
  go_enter Tryd.func36, Tryd.ntmps36
  go_wp2_with (first
    | (go_at_call 51; refine (C1 _).mono ?_; rintro e w' ⟨rfl, hw⟩; rw [hw]; clear hw C1)
    | (go_at_call 51; refine (C2 _).mono ?_; rintro e w' ⟨rfl, hw⟩; rw [hw]; clear hw C2)
    | (go_at_call 51; refine (C3 _).mono ?_; rintro e w' ⟨rfl, hw⟩; rw [hw]; clear hw C3))
  refine bodyPost_ret (v := .tuple #[.agg #[.int .i64 (0 : Nat), .string ⟨#[]⟩, .int .i64 (0 : Nat)], .int .i64 (0 : Nat), .int .i64 (10 : Nat)]) (by simp [results, Tryd.results36, go_sem]) rfl ⟨by rw [HV.out], (Below.refl _ w).alloc (Nat.le_refl _) _⟩
theorem first_any (c : UInt8) (l : List UInt8) (hl : l.length ≤ 1048576) (w : World) :
    Calls Tryd.prog 36 #[.string ⟨(c :: l).toArray⟩] w fun e w' => e = .returned (nxv c l) ∧ Below w.heap.size w w' := by
  by_cases h1 : Lx.small c = true
  · exact first_name c l hl h1 w
  by_cases h2 : Lx.digit c = true
  · exact first_int c l hl h2 w
  by_cases h3 : Lx.sign c = true
  · exact first_sign c l hl h3 w
  by_cases h4 : c = 34
  · exact first_text c l hl h4 w
  exact first_none c l hl ⟨by simpa using h1, by simpa using h2, by simpa using h3, h4⟩ w
end Go.Proofs.YtiikionoagmabaaDoor
