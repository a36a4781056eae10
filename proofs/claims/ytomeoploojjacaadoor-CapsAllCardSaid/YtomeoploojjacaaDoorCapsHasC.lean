/- caps.Has walked, whole. -/
import Derived.Test.YtomeoploojjacaaDoorCapsHas
namespace Go.Proofs.YtomeoploojjacaaDoor
open Go.RowKit
namespace Cp
theorem args_len {ls : List (List UInt8)} {m : Nat} (h : ∀ x ∈ ls, x.length ≤ m) : ∀ c ∈ ofLines ls, c.args.length ≤ m := by
  intro c hc
  obtain ⟨l, hl, e⟩ := List.mem_filterMap.1 hc
  have h1 := cap_words e
  have h2 := (Tx.words_len (Tx.up l)).2
  rw [h1, Tx.up_len, List.length_cons] at h2
  have := h l hl
  omega
theorem of_args (proto : Int) {ls : List (List UInt8)} {xs : List UInt8} {m : Nat} (h : ∀ x ∈ count proto ls xs, x.length ≤ m) : ∀ c ∈ of proto ls xs, c.args.length ≤ m := args_len h
end Cp
theorem cany_more {cs : List Cp.Cap} {p : Cp.Cap → Bool} {k : Nat} {c : Cp.Cap} (h : (cs.take k).any p = false) (hk : cs[k]? = some c) (hp : p c = false) : (cs.take (k + 1)).any p = false := by
  rw [List.take_add_one, hk, List.any_append, h]
  simpa using hp

set_option maxHeartbeats 1000000 in
theorem indexc_any (w0 : World) (n : List UInt8) (r : List (List UInt8)) (g cap gw : Nat) (v : Value) (cs : List Cp.Cap) (w : World) (hg : w.heap[gw]? = some (.cells #[.slice (some ⟨g, 0, none⟩) (r.length + 1) cap] 22 (0, 0)))
    (hw : WR w0 w g cap n r (if cap = 1 then some ⟨g, 0, none⟩ else some ⟨g, 1, none⟩)) (hv : CL w v cs) (hcs : cs.length ≤ 1048576) (hl : ∀ c ∈ cs, c.args.length ≤ 1048576) (hr : r.length ≤ 1048576) :
    Calls Tryd.prog 34 #[v, .func (.func 25) #[] #[.pointer (some ⟨gw, 0, none⟩)]] w fun e w' => ∃ i : Int, e = .returned (.int .i64 i) ∧ decide (0 ≤ i) = Cp.hasW cs (n :: r) ∧ Below w.heap.size w w' := by
  have C := Lib.hid (fun c a w1 (hb : Below w.heap.size w w1) (hrd : Rd w1 a (c.args.map sv)) hc => has1_any w0 n r g cap gw c a w1 ((hb.block gw (Array.getElem?_eq_some_iff.1 hg).1).trans hg) (hw.below hb) hrd hc hr)
  obtain ⟨ao, lc, rfl, hc1, hc3⟩ := hv.form
  obtain ⟨N, hN⟩ : ∃ N, N = cs.length := ⟨_, rfl⟩
  rw [← hN] at hcs hc1 hc3 ⊢
  have HN := Lib.hid hN
  have HC := Lib.hid hc3
  have HL := Lib.hid hl
  clear hN hc3 hv hg hw hl
  unfold Cp.hasW
  go_enter Tryd.func34, Tryd.ntmps34
  go_wp2
  go_loopw [5, 8] (fun _ i wr => ∃ k : Nat, k ≤ N ∧ i = .int .i64 k ∧ Hid ((cs.take k).any (Cp.hasOne (n :: r)) = false) ∧ Hid (Below w.heap.size w wr)) (fun _ i _ => N - (intOf i).toNat)
  case atStart => exact ⟨0, Nat.zero_le _, rfl, rfl, Below.refl _ _⟩
  case round =>
    obtain ⟨k, hk, rfl, HE, HB⟩ := hrel
    by_cases hlt : k < N
    · obtain ⟨b, o, rfl, hm, hc⟩ := HC.out (by omega)
      obtain ⟨c, hck⟩ : ∃ c, cs[k]? = some c := ⟨_, List.getElem?_eq_getElem (by rw [← HN.out]; exact hlt)⟩
      obtain ⟨g1, a, g2, g3⟩ := hc k c hck
      have g1 := (HB.out.cell (World.block_lt_of_cell? _ _ g1)).trans g1
      have g2 := (HB.out.cell (World.block_lt_of_cell? _ _ g2)).trans g2
      have CY := Lib.hid (C.out c a wr HB.out (g3.below HB.out) (HL.out c (List.mem_of_getElem? hck)))
      have HCK := Lib.hid hck
      unfold maxLen at hm
      rw [← Nat.add_assoc] at g2
      clear hc g3 hck
      cases hb : Cp.hasOne (n :: r) c with
      | true =>
        have HX := Lib.hid hb
        rw [hb] at CY
        clear hb
        go_wp2_with fail
        refine CY.out.mono ?_
        rintro e w2 ⟨rfl, hb2⟩
        have HB2 := Lib.hid (HB.out.trans (hb2.mono HB.out.size))
        clear hb2
        go_wp2
        go_ret
        refine ⟨_, rfl, ?_, HB2.out⟩
        rw [List.any_eq_true.2 ⟨c, List.mem_of_getElem? HCK.out, HX.out⟩]
        exact decide_eq_true (by omega)
      | false =>
        have HX := Lib.hid hb
        rw [hb] at CY
        clear hb
        go_wp2_with fail
        refine CY.out.mono ?_
        rintro e w2 ⟨rfl, hb2⟩
        have HB2 := Lib.hid (HB.out.trans (hb2.mono HB.out.size))
        clear hb2
        go_wp2
        go_roundw
        case rel => exact ⟨k + 1, by omega, by go_num, cany_more HE.out HCK.out HX.out, HB2.out⟩
        case measure => simp [intOf]; omega
    · have HF := Lib.hid (show cs.any (Cp.hasOne (n :: r)) = false by
        have := HE.out
        rwa [List.take_of_length_le (by have := HN.out; omega)] at this)
      go_wp2
      go_ret
      refine ⟨_, rfl, ?_, HB.out⟩
      rw [HF.out]
      rfl

theorem containsc_any (w0 : World) (n : List UInt8) (r : List (List UInt8)) (g cap gw : Nat) (v : Value) (cs : List Cp.Cap) (w : World) (hg : w.heap[gw]? = some (.cells #[.slice (some ⟨g, 0, none⟩) (r.length + 1) cap] 22 (0, 0)))
    (hw : WR w0 w g cap n r (if cap = 1 then some ⟨g, 0, none⟩ else some ⟨g, 1, none⟩)) (hv : CL w v cs) (hcs : cs.length ≤ 1048576) (hl : ∀ c ∈ cs, c.args.length ≤ 1048576) (hr : r.length ≤ 1048576) :
    Calls Tryd.prog 24 #[v, .func (.func 25) #[] #[.pointer (some ⟨gw, 0, none⟩)]] w fun e w' => e = .returned (.bool (Cp.hasW cs (n :: r))) ∧ Below w.heap.size w w' := by
  have C := indexc_any w0 n r g cap gw v cs w hg hw hv hcs hl hr
  generalize Cp.hasW cs (n :: r) = B at C ⊢
  clear hv hg hw hl
  go_enter Tryd.func24, Tryd.ntmps24
  go_wp2_with fail
  refine C.mono ?_
  rintro e w' ⟨i, rfl, hr, hb⟩
  have HB := Lib.hid hb
  clear hb
  by_cases h0 : 0 ≤ i
  · obtain rfl : B = true := by rw [← hr]; exact decide_eq_true h0
    clear hr
    go_wp2
    go_ret
    exact ⟨rfl, HB.out⟩
  · obtain rfl : B = false := by rw [← hr]; exact decide_eq_false h0
    clear hr
    go_wp2
    go_ret
    exact ⟨ret_b (decide_eq_false (by omega)), HB.out⟩

theorem chas_any (v : Value) (cs : List Cp.Cap) (s : ByteArray) (w : World) (hv : CL w v cs) (hcs : cs.length ≤ 1048576) (hl : ∀ c ∈ cs, c.args.length ≤ 1048576) (hs : s.size ≤ 1048575) :
    Calls Tryd.prog 14 #[v, .string s] w fun e w' => e = .returned (.bool (Cp.has cs s.data.toList)) ∧ Below w.heap.size w w' := by
  have hmf : ∀ (fn : Fn) (first cap : Array Value) (w : World), (Instr.makeFunc fn first cap).run Tryd.prog w = .ok (.func fn first cap) w := fun _ _ _ _ => rfl
  have C := capitals_any s w (by omega)
  have hwl := (Tx.words_len (Tx.up s.data.toList)).2
  rw [Tx.up_len, ← Lib.size_eq] at hwl
  unfold Cp.has
  cases hW : Tx.words (Tx.up s.data.toList) with
  | nil =>
    rw [hW] at C
    have e : Cp.hasW cs [] = false := Cp.hasW_nil cs
    rw [e]
    clear hW e hv hl hwl
    go_enter Tryd.func14, Tryd.ntmps14
    go_wp2_with fail
    refine C.mono ?_
    rintro e w1 ⟨vw, rfl, how, hb1⟩
    obtain ⟨wo, wc, rfl⟩ := own_form how
    have HB := Lib.hid (hb1.alloc hb1.size (.cells #[.slice wo 0 wc] 22 (0, 0)))
    clear how hb1
    go_wp2
    go_ret
    exact ⟨rfl, HB.out⟩
  | cons n r =>
    rw [hW] at C hwl
    rw [List.length_cons] at hwl
    have HV := Lib.hid hv
    have HL := Lib.hid hl
    have HS := Lib.hid hs
    have hr : r.length ≤ 1048576 := by omega
    have HCS := Lib.hid hcs
    have HR := Lib.hid hr
    clear hW hv hl hwl hcs hr hs
    go_enter Tryd.func14, Tryd.ntmps14
    go_wp2_with fail
    refine C.mono ?_
    rintro e w1 ⟨vw, rfl, how, hb1⟩
    obtain ⟨g, wc, rfl, hwr⟩ := WR.of_own how
    have hal : Below w1.heap.size w1 (w1.alloc (.cells #[.slice (some ⟨g, 0, none⟩) (r.length + 1) wc] 22 (0, 0))) := (Below.refl _ _).alloc (Nat.le_refl _) _
    have HB := Lib.hid (hb1.trans (hal.mono hb1.size))
    have HC := Lib.hid (containsc_any w n r g wc w1.heap.size v cs _ (heap_alloc_new w1 (.cells #[.slice (some ⟨g, 0, none⟩) (r.length + 1) wc] 22 (0, 0))) (hwr.below hal) ((HV.out.below hb1).below hal) HCS.out HL.out HR.out)
    clear how hb1 hwr hal
    go_wp2_with fail
    refine HC.out.mono ?_
    rintro e w2 ⟨rfl, hb2⟩
    have HB2 := Lib.hid (HB.out.trans (hb2.mono HB.out.size))
    clear hb2
    go_wp2
    go_ret
    exact ⟨rfl, HB2.out⟩
end Go.Proofs.YtomeoploojjacaaDoor
