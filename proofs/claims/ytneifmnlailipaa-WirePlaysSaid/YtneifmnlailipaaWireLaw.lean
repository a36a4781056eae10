/- The small functions of the laws of layer 7, walked; a wire as a law has it. -/
import Derived.Test.YtneifmnlailipaaWireClone
import Derived.Test.YtneifmnlailipaaWireZ
import Derived.Lib.SlBytesConst
namespace Go.Proofs.Ytneifmnlailipaa
open Go.RowKit

/-- A text of bytes. -/
def kb (xs : List UInt8) : ByteArray := ⟨xs.toArray⟩
theorem kb_size (xs : List UInt8) : (kb xs).size = xs.length := rfl
theorem kb_append (xs ys : List UInt8) : kb (xs ++ ys) = kb xs ++ kb ys := by
  apply ByteArray.ext
  simp [kb, ByteArray.data_append]
/-- 'string(b)'. -/
theorem str_of {w : World} {v : Value} {xs : List UInt8} (h : Rd w v (xs.map bv)) {K : ByteArray} (hK : K = kb xs) : (convert 28 9 v).run Try.prog w = .ok (.string K) w := by
  rw [hK]
  exact bytes_string h

theorem short_any (v : Value) (xs : List UInt8) (w : World) (h : Rd w v (xs.map bv)) (hs : xs.length ≤ maxLen) :
    Calls Try.prog 12 #[v] w fun e w' => ∃ ao ac, e = .returned (.slice ao (xs.take 1500).length ac) ∧ (∀ w1, Rd w1 v (xs.map bv) → Rd w1 (.slice ao (xs.take 1500).length ac) ((xs.take 1500).map bv)) ∧ w = w' := by
  unfold maxLen at hs
  obtain ⟨ao, cap, rfl, hcap, hc⟩ := h.form
  obtain ⟨L, hL⟩ : ∃ L, L = xs.length := ⟨_, rfl⟩
  rw [← hL] at hs hcap hc ⊢
  by_cases hlt : 1500 < L
  · obtain ⟨b, o, rfl, hm, _⟩ := hc (by omega)
    unfold maxLen at hm
    have hr : ∀ w1, Rd w1 (.slice (some ⟨b, o, none⟩) L cap) (xs.map bv) → Rd w1 (.slice (some ⟨b, o, none⟩) 1500 cap) ((xs.take 1500).map bv) := fun w1 h => h.head (m := 1500) hL (by omega) (by omega)
    have e : (xs.take 1500).length = 1500 := by rw [List.length_take]; omega
    rw [e]
    have hr := Lib.hid hr
    have HL := Lib.hid hL
    clear hL hc h e
    go_enter Try.func12, Try.ntmps12
    go_wp2
    go_ret
    exact ⟨_, _, rfl, hr.out, rfl⟩
  · have e : xs.take 1500 = xs := List.take_of_length_le (by omega)
    rw [e, ← hL]
    have HL := Lib.hid hL
    clear hL hc e h
    go_enter Try.func12, Try.ntmps12
    go_wp2
    go_ret
    exact ⟨_, _, rfl, fun _ h => h, rfl⟩

/-- 'event'. -/
theorem event_any (kd k n : Int) (v : Value) (xs : List UInt8) (w : World) (h : Rd w v (xs.map bv)) (hs : xs.length ≤ maxLen) :
    Calls Try.prog 20 #[.agg #[.int .i64 kd, .int .i64 k, .int .i64 n, v]] w fun e w' => ∃ ao ac, e = .returned (.agg #[.int .i64 kd, .int .i64 k, .int .i64 n, .slice ao (xs.take 1500).length ac]) ∧ (∀ w1, Rd w1 v (xs.map bv) → Rd w1 (.slice ao (xs.take 1500).length ac) ((xs.take 1500).map bv)) ∧ Below w.heap.size w w' := by
  obtain ⟨bo, bc, rfl, _⟩ := h.form
  obtain ⟨L, hL⟩ : ∃ L, L = xs.length := ⟨_, rfl⟩
  rw [← hL] at h ⊢
  have H := Lib.hid h
  have HS := Lib.hid hs
  have HL := Lib.hid hL
  clear h hs hL
  go_enter Try.func20, Try.ntmps20
  go_wp2_with fail
  have hb1 : Below w.heap.size w (w.alloc (.cells #[.int .i64 kd, .int .i64 k, .int .i64 n, .slice bo L bc] 30)) := (Below.refl _ _).alloc (Nat.le_refl _) _
  have hb2 := hb1.alloc hb1.size (.cells #[.int .i64 0, .int .i64 0, .int .i64 0, .slice none 0 0] 30)
  refine (short_any _ xs _ (H.out.below hb2) HS.out).mono ?_
  rintro e w' ⟨ao, ac, rfl, hr, hw⟩
  obtain rfl := hw
  obtain ⟨M, hM⟩ : ∃ M, M = (xs.take 1500).length := ⟨_, rfl⟩
  rw [← hM] at hr ⊢
  have HM := Lib.hid hM
  have HR := Lib.hid hr
  have HB := Lib.hid hb2
  clear hr hb1 hb2 hM
  go_wp2
  refine bodyPost_ret (v := .agg #[.int .i64 kd, .int .i64 k, .int .i64 n, .slice ao M ac]) (by simp [results, Try.results20, go_sem]) rfl ⟨ao, ac, ?_, ?_, ?_⟩
  · rw [HM.out]
  · rw [← HM.out]; exact HR.out
  · exact ((Below.refl _ _).alloc (Nat.le_refl _) _).alloc (by simp) _

theorem rd_none {w : World} : Rd w (.slice none 0 0) (([] : List UInt8).map bv) := .inl ⟨rfl, none, 0, fun _ => rfl, rfl⟩

/-- A wire, where below the law's beginning nothing has turned; N: the most that was written to the second connection. -/
structure PW (W0 : World) (g : Nat) (W : Wi.Wm) (N : Nat) (wr : World) : Prop where
  ok : W.Ok
  o : ∃ F, WO wr W0.heap.size g F W
  below : Below W0.heap.size W0 wr
  n : W.b.written.length ≤ N
  hN : N ≤ 1000000
section
variable {W0 wr w' : World} {g N : Nat} {W : Wi.Wm}
theorem PW.next (h : PW W0 g W N wr) (hb : Below wr.heap.size wr w') : PW W0 g W N w' := by
  obtain ⟨F, hF⟩ := h.o
  exact ⟨h.ok, ⟨F, hF.next hb⟩, h.below.trans (hb.mono h.below.size), h.n, h.hN⟩
theorem PW.did {F : Nat → Prop} {W' : Wi.Wm} {N' : Nat} (h : PW W0 g W N wr) (hF : WO wr W0.heap.size g F W) (hs : Ws W0.heap.size g F wr W' w') (hok : W'.Ok) (hn : W'.b.written.length ≤ N') (hN : N' ≤ 1000000) : PW W0 g W' N' w' := by
  obtain ⟨F', h1, h2, h3⟩ := hs
  exact ⟨hok, ⟨F', h1⟩, h.below.trans (h2.below (fun k hk => (hF.fF k hk).1) h.below.size), hn, hN⟩
theorem PW.new (hb : Below W0.heap.size W0 wr) : Calls Try.prog 9 #[] wr fun e w' => ∃ g, e = .returned (.pointer (some ⟨g, 0, none⟩)) ∧ PW W0 g Wi.start 0 w' := by
  refine (wnew_any wr).mono ?_
  rintro e w' ⟨g, rfl, h1, _, F, h2⟩
  exact ⟨g, rfl, Wi.start_ok, ⟨F, h2.lower hb.size⟩, hb.trans (h1.mono hb.size), Nat.le_refl _, by decide⟩
theorem PW.state (h : PW W0 g W N wr) (k : Int) {m : Nat} (hm : m = (W.at k).st) : Calls Try.prog 22 #[.pointer (some ⟨g, 0, none⟩), .int .i64 k] wr fun e w' => e = .returned (.int .i64 (m : Int)) ∧ PW W0 g W N w' := by
  obtain ⟨F, hF⟩ := h.o
  rw [hm]
  refine (state_any hF k).mono ?_
  rintro e w' ⟨rfl, hb⟩
  exact ⟨rfl, h.next hb⟩
theorem PW.waits (h : PW W0 g W N wr) (k : Int) {m : Nat} (hm : m = (W.at k).waits) : Calls Try.prog 24 #[.pointer (some ⟨g, 0, none⟩), .int .i64 k] wr fun e w' => e = .returned (.int .i64 (m : Int)) ∧ PW W0 g W N w' := by
  obtain ⟨F, hF⟩ := h.o
  rw [hm]
  refine (waits_any hF k).mono ?_
  rintro e w' ⟨rfl, hb⟩
  exact ⟨rfl, h.next hb⟩
theorem PW.finished (h : PW W0 g W N wr) (k : Int) {d : Bool} (hd : d = (W.at k).dn) : Calls Try.prog 30 #[.pointer (some ⟨g, 0, none⟩), .int .i64 k] wr fun e w' => e = .returned (.bool d) ∧ PW W0 g W N w' := by
  obtain ⟨F, hF⟩ := h.o
  rw [hd]
  refine (finished_any hF k).mono ?_
  rintro e w' ⟨rfl, hb⟩
  exact ⟨rfl, h.next hb⟩
theorem PW.bound (h : PW W0 g W N wr) (k : Int) : (W.at k).sent.length ≤ 16777216 ∧ (W.at k).written.length ≤ 16777216 := by
  have h1 := h.ok.atw k
  have h2 := (h.ok.at k).sent_le
  have h3 := h.n
  have h4 := h.hN
  omega
theorem PW.sent (h : PW W0 g W N wr) (k : Int) {K : ByteArray} (hK : K = kb (W.at k).sent) {m : Nat} (hm : m = (W.at k).sent.length) : Calls Try.prog 26 #[.pointer (some ⟨g, 0, none⟩), .int .i64 k] wr fun e w' => ∃ xo xc, e = .returned (.slice xo m xc) ∧ (convert 28 9 (.slice xo m xc)).run Try.prog w' = .ok (.string K) w' ∧ PW W0 g W N w' := by
  obtain ⟨F, hF⟩ := h.o
  rw [hm]
  refine (sent_any hF k (h.bound k).1).mono ?_
  rintro e w' ⟨xo, xc, rfl, hr, hb⟩
  exact ⟨xo, xc, rfl, str_of hr hK, h.next hb⟩
theorem PW.written (h : PW W0 g W N wr) (k : Int) {K : ByteArray} (hK : K = kb (W.at k).written) {m : Nat} (hm : m = (W.at k).written.length) : Calls Try.prog 28 #[.pointer (some ⟨g, 0, none⟩), .int .i64 k] wr fun e w' => ∃ xo xc, e = .returned (.slice xo m xc) ∧ (convert 28 9 (.slice xo m xc)).run Try.prog w' = .ok (.string K) w' ∧ PW W0 g W N w' := by
  obtain ⟨F, hF⟩ := h.o
  rw [hm]
  refine (written_any hF k (h.bound k).2).mono ?_
  rintro e w' ⟨xo, xc, rfl, hr, hb⟩
  exact ⟨xo, xc, rfl, str_of hr hK, h.next hb⟩
theorem PW.finish (h : PW W0 g W N wr) (k : Int) {W' : Wi.Wm} (hW : W' = W.finish k) : Calls Try.prog 14 #[.pointer (some ⟨g, 0, none⟩), .int .i64 k] wr fun e w' => e = .returned (.tuple #[]) ∧ PW W0 g W' N w' := by
  obtain ⟨F, hF⟩ := h.o
  rw [hW]
  refine (finish_any hF k).mono ?_
  rintro e w' ⟨rfl, hs⟩
  exact ⟨rfl, h.did hF hs (Wi.Wm.finish_ok h.ok k) (Nat.le_trans (Wi.Wm.finish_bw W k) h.n) h.hN⟩
theorem PW.write (h : PW W0 g W N wr) (k : Int) (v : Value) (ys : List UInt8) (hr : Rd wr v (ys.map bv)) (hy : ys.length ≤ 1500) {M : Nat} (hM : M = N + 1500) (hM1 : M ≤ 1000000) {W' : Wi.Wm} {m : Nat} (hW : (m, W') = W.write k ys) : Calls Try.prog 11 #[.pointer (some ⟨g, 0, none⟩), .int .i64 k, v] wr fun e w' => e = .returned (.int .i64 (m : Int)) ∧ PW W0 g W' M w' := by
  obtain ⟨F, hF⟩ := h.o
  have e1 : m = (W.write k ys).1 := by rw [← hW]
  have e2 : W' = (W.write k ys).2 := by rw [← hW]
  rw [e1, e2]
  refine (write_any hF k v ys hr (by omega)).mono ?_
  rintro e w' ⟨rfl, hs⟩
  exact ⟨rfl, h.did hF hs (Wi.Wm.write_ok h.ok k ys) (by have := Wi.Wm.write_bw W k ys; have := h.n; omega) hM1⟩
theorem PW.ask (h : PW W0 g W N wr) {W' : Wi.Wm} {b : Bool} (hW : (b, W') = W.ask) : Calls Try.prog 16 #[.pointer (some ⟨g, 0, none⟩)] wr fun e w' => e = .returned (.bool b) ∧ PW W0 g W' N w' := by
  obtain ⟨F, hF⟩ := h.o
  have e1 : b = W.ask.1 := by rw [← hW]
  have e2 : W' = W.ask.2 := by rw [← hW]
  rw [e1, e2]
  have hb := h.bound 1
  refine (ask_any hF hb.1 hb.2).mono ?_
  rintro e w' ⟨rfl, hs⟩
  exact ⟨rfl, h.did hF hs (Wi.Wm.ask_ok h.ok) (Nat.le_trans (Wi.Wm.ask_bw W) h.n) h.hN⟩
theorem PW.happen (h : PW W0 g W N wr) (kd k n : Int) (v : Value) (ys : List UInt8) (hr : Rd W0 v (ys.map bv)) (hy : ys.length ≤ maxLen) {m : Nat} {W' : Wi.Wm} {zs : List UInt8} (hW : (zs, m, W') = W.happen kd k n ys) {q : Nat} (hq : q = zs.length) : Calls Try.prog 19 #[.pointer (some ⟨g, 0, none⟩), .agg #[.int .i64 kd, .int .i64 k, .int .i64 n, v]] wr fun e w' => ∃ bo cp, e = .returned (.tuple #[.slice bo q cp, .int .i64 (m : Int)]) ∧ Rd w' (.slice bo q cp) (zs.map bv) ∧ PW W0 g W' N w' := by
  obtain ⟨F, hF⟩ := h.o
  refine (happen_any hF h.ok kd k n v ys (hr.below h.below) hy (fun hp b hb hFb => ?_) (h.bound k).1 (h.bound k).2).mono ?_
  · have h1 := hr.blk hp b hb
    have h2 := (hF.fF b hFb).1
    omega
  · rintro e w' ⟨bo, cp, rfl, hr', hs⟩
    rw [← hW] at hr' hs ⊢
    rw [hq]
    have e2 : W' = (W.happen kd k n ys).2.2 := by rw [← hW]
    exact ⟨bo, cp, rfl, hr', h.did hF hs (by rw [e2]; exact Wi.Wm.happen_ok h.ok kd k n ys) (by rw [e2]; exact Nat.le_trans (Wi.Wm.happen_bw h.ok kd k n ys) h.n) h.hN⟩
end

set_option maxRecDepth 20000 in
theorem shown_any (w : World) : Calls Try.prog 8 #[] w fun e w' => e = .returned (.bool true) ∧ Below w.heap.size w w' := by
  have kc := fun (w : World) (C : Array Value) (n c : Nat) => Lib.run_convert_bytes_const (P := Try.prog) w 28 5 C n c Try.underlying28 Try.underlying5
  go_enter Try.func8, Try.ntmps8
  go_wp2_with fail
  refine (PW.new (Below.refl w.heap.size w)).mono ?_
  rintro e w1 ⟨g, rfl, q1⟩
  have Q1 := Lib.hid q1
  clear q1
  go_wp2_with fail
  have ha := (Below.refl w1.heap.size w1).alloc (Nat.le_refl _) (.cells ([97, 98].map bv).toArray 5 (2, 3))
  refine (PW.write (Q1.out.next ha) 0 _ [97, 98] (Rd.made w1 [97, 98] _ _ 2 rfl (by decide)) (by decide) (M := 1500) rfl (by decide) (m := 0) (W' := (Wi.start.write 0 [97, 98]).2) rfl).mono ?_
  rintro e w2 ⟨rfl, q2⟩
  have Q2 := Lib.hid q2
  clear q2 ha Q1
  go_wp2_with fail
  refine (PW.happen Q2.out 2 0 1 (.slice none 0 0) [] rd_none (by decide) (m := 0) (zs := []) (W' := ((Wi.start.write 0 [97, 98]).2.happen 2 0 1 []).2.2) rfl (q := 0) rfl).mono ?_
  rintro e w3 ⟨bo, cp, rfl, _, q3⟩
  have Q3 := Lib.hid q3
  clear q3 Q2
  go_wp2_with fail
  refine (PW.sent Q3.out 0 (K := ⟨#[97]⟩) rfl (m := 1) rfl).mono ?_
  rintro e w4 ⟨xo, xc, rfl, hcv, q4⟩
  have Q4 := Lib.hid q4
  clear q4 Q3 kc
  go_wp2_with fail
  refine (PW.state Q4.out 0 (m := 2) rfl).mono ?_
  rintro e w5 ⟨rfl, q5⟩
  have Q5 := Lib.hid q5
  clear q5 Q4 hcv
  go_wp2
  go_ret
  exact ⟨rfl, Q5.out.below⟩
end Go.Proofs.Ytneifmnlailipaa
