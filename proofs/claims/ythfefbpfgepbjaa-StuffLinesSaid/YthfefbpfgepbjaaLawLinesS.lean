/- The law StuffLines walked. -/
import Derived.Test.YthfefbpfgepbjaaStuffLaw
import Derived.Test.YthfefbpfgepbjaaToBytes
namespace Go.Proofs.Ythfefbpfgepbjaa
open Go.RowKit

namespace St
/-- Whether a line begins behind them. -/
def begins (xs : List UInt8) : Bool := xs.isEmpty || ends xs
/-- Where the reader stands: j bytes of the payload are read; with f, a dot that was put is passed by. -/
structure LS (ws : List UInt8) (j : Nat) (f : Bool) (i : Nat) : Prop where
  hj : j ≤ ws.length
  hi : i = (dots [] (ws.take j)).length + (if f then 1 else 0)
  hf : f = true → ws[j]? = some 46 ∧ begins (ws.take j) = true
theorem ls_start (ws : List UInt8) : LS ws 0 false 0 := ⟨Nat.zero_le _, rfl, fun h => by cases h⟩
theorem dots_split (ws : List UInt8) {j : Nat} {x : UInt8} (h : ws[j]? = some x) : ∃ B, dots [] ws = dots [] (ws.take j) ++ ((if x = 46 ∧ begins (ws.take j) = true then [46] else []) ++ x :: B) ∧
    dots [] (ws.take (j + 1)) = dots [] (ws.take j) ++ ((if x = 46 ∧ begins (ws.take j) = true then [46] else []) ++ [x]) := by
  obtain ⟨hj, he⟩ := List.getElem?_eq_some_iff.1 h
  have h1 : ws = ws.take j ++ x :: ws.drop (j + 1) := by
    conv => lhs; rw [← List.take_append_drop j ws, List.drop_eq_getElem_cons hj, he]
  refine ⟨dots (ws.take j ++ [x]) (ws.drop (j + 1)), ?_, ?_⟩
  · conv => lhs; rw [h1]
    rw [dots_append, List.nil_append, dots]
    rfl
  · rw [List.take_succ_eq_append_getElem hj, he, dots_snoc]
    rfl
theorem begins_dots (xs : List UInt8) : begins (dots [] xs) = begins xs := dots_begins xs
theorem begins_dot (xs : List UInt8) : begins (dots [] xs ++ [46]) = false := dot_begins xs
theorem lines_step {ws : List UInt8} {j i : Nat} {f : Bool} (h : LS ws j f i) (hi : i < (dots [] ws).length) :
    (begins ((dots [] ws).take i) = true ∧ (dots [] ws)[i]? = some 46 ∧ (dots [] ws)[i + 1]? = some 46 ∧ LS ws j true (i + 1)) ∨
    (∃ x, (dots [] ws)[i]? = some x ∧ ws[j]? = some x ∧ (begins ((dots [] ws).take i) = true → x ≠ 46) ∧ LS ws (j + 1) false (i + 1)) := by
  by_cases hj : j < ws.length
  · obtain ⟨x, hx⟩ : ∃ x, ws[j]? = some x := ⟨_, List.getElem?_eq_getElem hj⟩
    obtain ⟨B, hB, hB2⟩ := dots_split ws hx
    cases f with
    | true =>
      obtain ⟨h46, hbg⟩ := h.hf rfl
      obtain rfl : x = 46 := Option.some.inj (hx.symm.trans h46)
      rw [if_pos ⟨rfl, hbg⟩] at hB hB2
      have hi2 : i = (dots [] (ws.take j)).length + 1 := h.hi
      right
      refine ⟨46, ?_, hx, ?_, ⟨hj, ?_, fun h => by cases h⟩⟩
      · rw [hB, hi2, List.getElem?_append_right (by omega)]
        rw [show (dots [] (ws.take j)).length + 1 - (dots [] (ws.take j)).length = 1 by omega]
        rfl
      · intro hb
        rw [hB, hi2, List.take_length_add_append] at hb
        have := begins_dot (ws.take j)
        rw [show ([46] ++ 46 :: B : List UInt8).take 1 = [46] from rfl] at hb
        rw [this] at hb
        cases hb
      · rw [hB2, hi2, List.length_append]
        rfl
    | false =>
      have hi2 : i = (dots [] (ws.take j)).length := h.hi
      have htk : (dots [] ws).take i = dots [] (ws.take j) := by rw [hB, hi2, List.take_left]
      by_cases hd : x = 46 ∧ begins (ws.take j) = true
      · rw [if_pos hd] at hB hB2
        obtain ⟨rfl, hbg⟩ := hd
        left
        refine ⟨by rw [htk, begins_dots]; exact hbg, ?_, ?_, ⟨h.hj, by rw [hi2]; rfl, fun _ => ⟨hx, hbg⟩⟩⟩
        · rw [hB, hi2, List.getElem?_append_right (by omega), Nat.sub_self]
          rfl
        · rw [hB, hi2, List.getElem?_append_right (by omega)]
          rw [show (dots [] (ws.take j)).length + 1 - (dots [] (ws.take j)).length = 1 by omega]
          rfl
      · rw [if_neg hd] at hB hB2
        right
        refine ⟨x, ?_, hx, ?_, ⟨hj, ?_, fun h => by cases h⟩⟩
        · rw [hB, hi2, List.getElem?_append_right (by omega), Nat.sub_self]
          rfl
        · rw [htk, begins_dots]
          exact fun hb e => hd ⟨e, hb⟩
        · rw [hB2, hi2, List.length_append]
          rfl
  · exfalso
    have hjl : ws.take j = ws := List.take_of_length_le (by omega)
    cases f with
    | true =>
      have := (h.hf rfl).1
      rw [List.getElem?_eq_none (by omega)] at this
      cases this
    | false =>
      have := h.hi
      rw [hjl] at this
      simp at this
      omega
theorem lines_end {ws : List UInt8} {j i : Nat} {f : Bool} (h : LS ws j f i) (hi : (dots [] ws).length ≤ i) : ws.take j = ws := by
  by_cases hj : j < ws.length
  · exfalso
    obtain ⟨x, hx⟩ : ∃ x, ws[j]? = some x := ⟨_, List.getElem?_eq_getElem hj⟩
    obtain ⟨B, hB, _⟩ := dots_split ws hx
    have hl := congrArg List.length hB
    have h1 := h.hi
    cases f with
    | true =>
      obtain ⟨h46, hbg⟩ := h.hf rfl
      obtain rfl : x = 46 := Option.some.inj (hx.symm.trans h46)
      rw [if_pos ⟨rfl, hbg⟩] at hl
      simp at hl h1
      omega
    | false =>
      simp at hl h1
      omega
  · exact List.take_of_length_le (by omega)
/-- The last two, as they are compared. -/
theorem ends_cut {ds : List UInt8} {K i : Nat} (hK : i = K + 2) (hi : i ≤ ds.length) : ((ds.drop K).take 2 == [13, 10]) = ends (ds.take i) := by
  have e : ds.take i = ds.take K ++ (ds.drop K).take 2 := by rw [hK, List.take_add]
  have hl : ((ds.drop K).take 2).length = 2 := by rw [List.length_take, List.length_drop]; omega
  rw [e, ends_append _ (by omega)]
  match h : (ds.drop K).take 2, hl with
  | [a, b], _ => 
    show ([a, b] == [13, 10]) = ends ([] ++ [a, b])
    rw [ends_two]
    simp [Bool.and_comm]
end St

set_option maxRecDepth 20000 in
set_option maxHeartbeats 4000000 in
theorem lawLinesS (v0 : Value) (x0 : List UInt8) (h0 : x0.length ≤ maxLen) (w : World) (r0 : Rd w v0 (x0.map bv)) (hm : MX w) :
    Calls Try.prog 4 #[v0] w fun e w' => e = .returned (.bool true) ∧ Below w.heap.size w w' := by
  go_enter Try.func4, Try.ntmps4
  go_wp2_with fail
  refine (shown_any _ hm).mono ?_
  rintro e w1 ⟨rfl, hb1⟩
  have s0 := r0.below hb1
  have t1 := hm.below hb1
  clear r0 hm
  go_wp2_with fail
  refine (short_any v0 x0 _ s0 h0).mono ?_
  rintro e w1' ⟨va, rfl, ra, rfl⟩
  replace ra := ra _ s0
  obtain ⟨ao, ac, rfl, _, _⟩ := ra.form
  have la : (x0.take 600).length ≤ 600 := List.length_take_le _ _
  generalize x0.take 600 = xs at ra la ⊢
  obtain ⟨KX, hKX⟩ : ∃ K, K = kt xs := ⟨_, rfl⟩
  obtain ⟨KP, hKP⟩ : ∃ K, K = kt (St.put xs) := ⟨_, rfl⟩
  obtain ⟨KD, hKD⟩ : ∃ K, K = kt (St.dots [] (St.whole xs)) := ⟨_, rfl⟩
  obtain ⟨KW, hKW⟩ : ∃ K, K = kt (St.whole xs) := ⟨_, rfl⟩
  obtain ⟨L, hL⟩ : ∃ L, L = xs.length := ⟨_, rfl⟩
  obtain ⟨D, hD⟩ : ∃ N, KD.size = N := ⟨_, rfl⟩
  obtain ⟨P, hP⟩ : ∃ N, KP.size = N := ⟨_, rfl⟩
  obtain ⟨WN, hWN⟩ : ∃ N, N = KW.size := ⟨_, rfl⟩
  have hPD : P = D + 3 := by
    rw [← hP, ← hD, hKP, hKD, kt_size, kt_size]; unfold St.put; rw [List.length_append]; rfl
  have hwl := St.whole_len xs
  have hdb : D ≤ 1204 := by
    rw [← hD, hKD, kt_size]
    have := (St.dots_len (St.whole xs) []).2
    omega
  have hex : KP.extract 0 D = KD := by
    rw [← hD, hKP, kt_take, hKD, kt_size]; unfold St.put; rw [List.take_left]
  have hex2 : KP.extract D P = (⟨#[46, 13, 10]⟩ : ByteArray) := by
    rw [hKP, kt_cut, hPD, ← hD, hKD, kt_size]
    unfold St.put
    rw [List.drop_left, Nat.add_sub_cancel_left]
    rfl
  have hst : ∀ wx, Below w1.heap.size w1 wx → (convert 22 9 (.slice ao L ac)).run Try.prog wx = .ok (.string KX) wx := fun wx hb => by
    have := bytes_string (ra.below hb)
    rw [← hL] at this
    rw [hKX]
    exact this
  rw [← hL] at ra la ⊢
  have k1 := hst w1 (Below.refl _ _)
  have HST := Lib.hid hst
  have HR := Lib.hid ra
  have HT := Lib.hid t1
  have HB := Lib.hid hb1
  have HL := Lib.hid hL
  have hPU := put_text (w := w1) ⟨Below.refl _ _, t1⟩ ra (by omega) hKP hP.symm
  have HPU := Lib.hid hPU
  have iPD : (P : Int) - 3 = (D : Int) := by omega
  have iP3 : 3 ≤ P := by omega
  have iDP : D ≤ P := by omega
  have HKX := Lib.hid hKX
  have HKP := Lib.hid hKP
  have HKD := Lib.hid hKD
  have HKW := Lib.hid hKW
  have HD := Lib.hid hD
  have HWN := Lib.hid hWN
  have hDs : KD.size = D := hD
  clear hPU hst ra t1 hb1 hL s0 h0 hKX hKP hKD hKW hPD hD hWN
  go_wp2_with fail
  refine HPU.out.mono ?_
  rintro e w2 ⟨po, pc, rfl, k2, l2⟩
  have k3 := HST.out w2 l2.b
  have HL2 := Lib.hid l2
  clear l2 HPU
  go_wp2
  go_loop [7, 8, 9] (fun bk i _ => ∃ (j i' : Nat) (f : Bool) (B : ByteArray), bk = .string B ∧ i = .int .i64 i' ∧ i' ≤ D ∧ B.size ≤ 602 ∧ Hid (B = kt ((St.whole xs).take j) ∧ St.LS (St.whole xs) j f i')) (fun _ i _ => D - (intOf i).toNat)
  case atStart => exact ⟨0, 0, false, _, rfl, rfl, Nat.zero_le _, by show 0 ≤ 602; omega, rfl, St.ls_start _⟩
  case round =>
    obtain ⟨j, i, f, B, rfl, rfl, hiD, hB6, hR⟩ := hrel
    by_cases hlt : i < D
    · have hDl : (St.dots [] (St.whole xs)).length = D := by rw [← HD.out, HKD.out, kt_size]
      have hKl : KD.data.toList = St.dots [] (St.whole xs) := by rw [HKD.out]; rfl
      have hsz : i < KD.size := by rw [HD.out]; exact hlt
      have hxi : ∀ x, (St.dots [] (St.whole xs))[i]? = some x → (KD[i]'hsz).toNat = x.toNat := fun x hx => by
        rw [byte_at, hKl, List.getD_eq_getElem?_getD, hx]; rfl
      have hbeg : (i = 0 ∧ St.begins ((St.dots [] (St.whole xs)).take i) = true) ∨ (i = 1 ∧ St.begins ((St.dots [] (St.whole xs)).take i) = false) ∨ (∃ K, i = K + 2 ∧ ((KD.extract K i).toList == [13, 10]) = St.begins ((St.dots [] (St.whole xs)).take i)) := by
        rcases i with _ | _ | K
        · exact .inl ⟨rfl, rfl⟩
        · refine .inr (.inl ⟨rfl, ?_⟩)
          rcases hds : St.dots [] (St.whole xs) with _ | ⟨a, r⟩
          · rw [hds] at hDl; simp at hDl; omega
          · show (([a] : List UInt8).isEmpty || St.ends [a]) = false
            rw [St.ends_one]; rfl
        · refine .inr (.inr ⟨K, rfl, ?_⟩)
          have h1 : (KD.extract K (K + 2)).toList = ((St.dots [] (St.whole xs)).drop K).take 2 := by
            rw [Lib.toList_data, HKD.out, kt_cut, kt_list, show K + 2 - K = 2 by omega]
          rw [h1, St.ends_cut rfl (by omega)]
          unfold St.begins
          have : ((St.dots [] (St.whole xs)).take (K + 2)).isEmpty = false := by
            cases hq : (St.dots [] (St.whole xs)).take (K + 2) with
            | nil =>
              have := congrArg List.length hq
              rw [List.length_take, hDl] at this
              simp at this
              omega
            | cons => rfl
          rw [this, Bool.false_or]
      rcases St.lines_step hR.out.2 (by rw [hDl]; exact hlt) with ⟨hb, hx1, hx2, hls⟩ | ⟨x, hx1, hx2, hnb, hls⟩
      · -- a dot is passed by
        have hi1 : i + 1 < D := by
          have := (List.getElem?_eq_some_iff.1 hx2).1
          omega
        have hsz2 : i + 1 < KD.size := by rw [HD.out]; exact hi1
        have e1 : (KD[i]'hsz).toNat = 46 := hxi 46 hx1
        have e2 : (KD[i + 1]'hsz2).toNat = 46 := by rw [byte_at, hKl, List.getD_eq_getElem?_getD, hx2]; rfl
        rw [hb] at hbeg
        have HN := Lib.hid (show B = kt ((St.whole xs).take j) ∧ St.LS (St.whole xs) j true (i + 1) from ⟨hR.out.1, hls⟩)
        clear hxi hx1 hx2 hls hR hb hKl hDl
        rcases hbeg with ⟨rfl, _⟩ | ⟨_, hq⟩ | ⟨K, rfl, hq⟩
        · go_wp2
          go_round
          case rel => exact ⟨j, 1, true, B, rfl, rfl, by omega, hB6, HN⟩
          case measure => simp [intOf]; omega
        · cases hq
        · have i2 : ((K + 2 : Nat) : Int) - 2 = (K : Int) := by omega
          go_wp2
          go_round
          case rel => exact ⟨j, K + 2 + 1, true, B, rfl, by go_num, by omega, hB6, HN⟩
          case measure => simp [intOf]; omega
      · -- a byte of the payload
        have hjl := (List.getElem?_eq_some_iff.1 hx2).1
        have hwl2 := hwl
        obtain ⟨X1, hX1⟩ : ∃ X1, KD.extract i (i + 1) = X1 := ⟨_, rfl⟩
        have hX2 : X1 = kt [x] := by
          rw [← hX1, HKD.out, kt_cut, show i + 1 - i = 1 by omega]
          congr 1
          obtain ⟨hd1, hd2⟩ := List.getElem?_eq_some_iff.1 hx1
          rw [List.drop_eq_getElem_cons hd1, hd2]
          rfl
        have sX1 : X1.size = 1 := by rw [hX2]; rfl
        obtain ⟨B2, hB2⟩ : ∃ B2, B ++ X1 = B2 := ⟨_, rfl⟩
        have hB3 : B2 = kt ((St.whole xs).take (j + 1)) := by
          rw [← hB2, hX2, hR.out.1, ← kt_append]
          congr 1
          obtain ⟨hd1, hd2⟩ := List.getElem?_eq_some_iff.1 hx2
          rw [List.take_succ_eq_append_getElem hd1, hd2]
        have sB2 : B2.size ≤ 602 := by
          rw [hB3, kt_size, List.length_take]
          have := HL.out
          omega
        have hlim : (9223372036854775807 < B.size + 1) = False := eq_false (by omega)
        have HN := Lib.hid (show B2 = kt ((St.whole xs).take (j + 1)) ∧ St.LS (St.whole xs) (j + 1) false (i + 1) from ⟨hB3, hls⟩)
        have e1 : (KD[i]'hsz).toNat = x.toNat := hxi x hx1
        have x256 := x.toNat_lt
        have hx46 : x.toNat = 46 → x = 46 := fun e => UInt8.toNat_inj.1 e
        clear hxi hx1 hx2 hls hR hKl hDl hX2 hB3 hjl hwl2
        generalize St.begins ((St.dots [] (St.whole xs)).take i) = bg at hnb hbeg
        by_cases h46 : x.toNat = 46
        · obtain rfl : x = 46 := hx46 h46
          have hbg : bg = false := by
            cases bg with
            | false => rfl
            | true => exact absurd rfl (hnb rfl)
          rw [hbg] at hbeg
          have e1 : (KD[i]'hsz).toNat = 46 := e1
          clear hnb hx46 h46 x256
          rcases hbeg with ⟨_, hq⟩ | ⟨rfl, _⟩ | ⟨K, rfl, hq⟩
          · cases hq
          · go_wp2
            go_round
            case rel => exact ⟨j + 1, 1 + 1, false, B2, rfl, rfl, by omega, sB2, HN⟩
            case measure => simp [intOf]; omega
          · have i2 : ((K + 2 : Nat) : Int) - 2 = (K : Int) := by omega
            go_wp2
            go_round
            case rel => exact ⟨j + 1, K + 2 + 1, false, B2, rfl, by go_num, by omega, sB2, HN⟩
            case measure => simp [intOf]; omega
        · have n1 : ((x.toNat : Int) == 46) = false := beq_eq_false_iff_ne.2 (by omega)
          have n2 : ((x.toNat : Int) = 46) = False := eq_false (by omega)
          clear hnb hx46 h46
          rcases hbeg with ⟨rfl, _⟩ | ⟨rfl, _⟩ | ⟨K, rfl, hq⟩
          · go_wp2
            go_round
            case rel => exact ⟨j + 1, 0 + 1, false, B2, rfl, rfl, by omega, sB2, HN⟩
            case measure => simp [intOf]; omega
          · go_wp2
            go_round
            case rel => exact ⟨j + 1, 1 + 1, false, B2, rfl, rfl, by omega, sB2, HN⟩
            case measure => simp [intOf]; omega
          · have i2 : ((K + 2 : Nat) : Int) - 2 = (K : Int) := by omega
            cases bg
            all_goals
              go_wp2
              go_round
              case rel => exact ⟨j + 1, K + 2 + 1, false, B2, rfl, by go_num, by omega, sB2, HN⟩
              case measure => simp [intOf]; omega
    · obtain rfl : i = D := by omega
      have hDl : (St.dots [] (St.whole xs)).length = i := by rw [← HD.out, HKD.out, kt_size]
      have hBW := hR.out.1
      rw [St.lines_end hR.out.2 (by omega), ← HKW.out] at hBW
      have hBK : B = KW := hBW
      have hKl : KD.data.toList = St.dots [] (St.whole xs) := by rw [HKD.out]; rfl
      have CW := Lib.hid (whole_text HL2.out (HR.out.below HL2.out.b) (by rw [← HL.out]; omega) HKW.out HWN.out)
      have hem : St.dots [] (St.whole xs) = [] ↔ L = 0 := by
        rw [St.dots_nil, St.whole_empty, HL.out, List.length_eq_zero_iff]
      rw [← hKl] at hem
      subst hBK
      clear hBW hR hDl hKl
      by_cases h0 : L = 0
      · have hz := hem.2 h0
        have z1 : (KD.toList == []) = true := by rw [Lib.toList_data, hz]; rfl
        have z2 : KD.toList.isEmpty = true := by rw [Lib.toList_data, hz]; rfl
        subst h0
        clear hem hz
        go_wp2_with fail
        refine CW.out.mono ?_
        rintro e w3 ⟨wo, wc, rfl, k4, r4, l4, b4⟩
        have hb := HB.out.trans (l4.b.mono HB.out.size)
        clear r4 l4 b4
        go_wp2
        go_ret
        exact ⟨rfl, hb⟩
      · have hz : KD.data.toList ≠ [] := fun e => h0 (hem.1 e)
        have z1 : (KD.toList == []) = false := by rw [Lib.toList_data]; exact beq_eq_false_iff_ne.2 hz
        have z2 : KD.toList.isEmpty = false := by
          rw [Lib.toList_data]
          cases hq : KD.data.toList with
          | nil => exact absurd hq hz
          | cons => rfl
        have z3 : ((L : Int) == 0) = false := beq_eq_false_iff_ne.2 (by omega)
        have z4 : ((L : Int) = 0) = False := eq_false (by omega)
        have z5 : 0 < L := by omega
        clear hem hz h0
        go_wp2_with fail
        refine CW.out.mono ?_
        rintro e w3 ⟨wo, wc, rfl, k4, r4, l4, b4⟩
        have hb := HB.out.trans (l4.b.mono HB.out.size)
        clear r4 l4 b4
        go_wp2
        go_ret
        exact ⟨rfl, hb⟩
end Go.Proofs.Ythfefbpfgepbjaa
