/- A wire as a law has it, with blocks that are kept. -/
import Derived.Test.YtneifmnlailipaaWireLaw
namespace Go.Proofs.Ytneifmnlailipaa
open Go.RowKit

/-- A wire, where below the law's beginning nothing has turned, and the blocks of K hold what they held. -/
structure PV (W0 : World) (g : Nat) (W : Wi.Wm) (N : Nat) (K : List (Nat × Obj)) (wr : World) : Prop where
  ok : W.Ok
  o : ∃ F, WO wr W0.heap.size g F W ∧ ∀ p ∈ K, ¬ F p.1 ∧ wr.heap[p.1]? = some p.2
  below : Below W0.heap.size W0 wr
  n : W.b.written.length ≤ N
  hN : N ≤ 1000000
section
variable {W0 wr w' : World} {g N : Nat} {W : Wi.Wm} {K : List (Nat × Obj)}
theorem PV.next (h : PV W0 g W N K wr) (hb : Below wr.heap.size wr w') : PV W0 g W N K w' := by
  obtain ⟨F, hF, hK⟩ := h.o
  exact ⟨h.ok, ⟨F, hF.next hb, fun p hp => ⟨(hK p hp).1, (hb.block _ (Array.getElem?_eq_some_iff.1 (hK p hp).2).1).trans (hK p hp).2⟩⟩, h.below.trans (hb.mono h.below.size), h.n, h.hN⟩
theorem PV.did {F : Nat → Prop} {W' : Wi.Wm} {N' : Nat} (h : PV W0 g W N K wr) (hF : WO wr W0.heap.size g F W ∧ ∀ p ∈ K, ¬ F p.1 ∧ wr.heap[p.1]? = some p.2) (hs : Ws W0.heap.size g F wr W' w') (hok : W'.Ok) (hn : W'.b.written.length ≤ N') (hN : N' ≤ 1000000) : PV W0 g W' N' K w' := by
  obtain ⟨F', h1, h2, h3⟩ := hs
  refine ⟨hok, ⟨F', h1, fun p hp => ?_⟩, h.below.trans (h2.below (fun k hk => (hF.1.fF k hk).1) h.below.size), hn, hN⟩
  have hl := (Array.getElem?_eq_some_iff.1 (hF.2 p hp).2).1
  refine ⟨fun e => ?_, (h2.block _ hl (hF.2 p hp).1).trans (hF.2 p hp).2⟩
  rcases h3 _ e with e | e
  · exact (hF.2 p hp).1 e
  · omega
/-- A new block is kept, too. -/
theorem PV.alloc (h : PV W0 g W N K wr) (ob : Obj) : PV W0 g W N ((wr.heap.size, ob) :: K) (wr.alloc ob) := by
  have hb : Below wr.heap.size wr (wr.alloc ob) := (Below.refl _ _).alloc (Nat.le_refl _) _
  have h1 := h.next hb
  obtain ⟨F, hF, hK⟩ := h.o
  refine ⟨h.ok, ⟨F, hF.next hb, fun p hp => ?_⟩, h1.below, h.n, h.hN⟩
  rcases List.mem_cons.1 hp with rfl | hp
  · exact ⟨fun e => by have := (hF.fF _ e).2; omega, heap_alloc_new _ _⟩
  · exact ⟨(hK p hp).1, (hb.block _ (Array.getElem?_eq_some_iff.1 (hK p hp).2).1).trans (hK p hp).2⟩
theorem PV.kept {p : Nat × Obj} (h : PV W0 g W N (p :: K) wr) : wr.heap[p.1]? = some p.2 := by
  obtain ⟨F, hF, hK⟩ := h.o
  exact (hK p (List.mem_cons_self ..)).2
theorem PV.drop {p : Nat × Obj} (h : PV W0 g W N (p :: K) wr) : PV W0 g W N K wr := by
  obtain ⟨F, hF, hK⟩ := h.o
  exact ⟨h.ok, ⟨F, hF, fun q hq => hK q (List.mem_cons_of_mem _ hq)⟩, h.below, h.n, h.hN⟩
theorem PV.up {N' : Nat} (h : PV W0 g W N K wr) (hn : N ≤ N') (h1 : N' ≤ 1000000) : PV W0 g W N' K wr := ⟨h.ok, h.o, h.below, Nat.le_trans h.n hn, h1⟩
theorem PV.to (h : PV W0 g W N K wr) : PW W0 g W N wr := ⟨h.ok, h.o.imp fun _ h => h.1, h.below, h.n, h.hN⟩
theorem PV.of (h : PW W0 g W N wr) : PV W0 g W N [] wr := by
  obtain ⟨F, hF⟩ := h.o
  exact ⟨h.ok, ⟨F, hF, fun p hp => by cases hp⟩, h.below, h.n, h.hN⟩
theorem PV.state (h : PV W0 g W N K wr) (k : Int) {m : Nat} (hm : m = (W.at k).st) : Calls Try.prog 22 #[.pointer (some ⟨g, 0, none⟩), .int .i64 k] wr fun e w' => e = .returned (.int .i64 (m : Int)) ∧ PV W0 g W N K w' := by
  obtain ⟨F, hO⟩ := h.o
  have hF := hO.1
  rw [hm]
  refine (state_any hF k).mono ?_
  rintro e w' ⟨rfl, hb⟩
  exact ⟨rfl, h.next hb⟩
theorem PV.waits (h : PV W0 g W N K wr) (k : Int) {m : Nat} (hm : m = (W.at k).waits) : Calls Try.prog 24 #[.pointer (some ⟨g, 0, none⟩), .int .i64 k] wr fun e w' => e = .returned (.int .i64 (m : Int)) ∧ PV W0 g W N K w' := by
  obtain ⟨F, hO⟩ := h.o
  have hF := hO.1
  rw [hm]
  refine (waits_any hF k).mono ?_
  rintro e w' ⟨rfl, hb⟩
  exact ⟨rfl, h.next hb⟩
theorem PV.finished (h : PV W0 g W N K wr) (k : Int) {d : Bool} (hd : d = (W.at k).dn) : Calls Try.prog 30 #[.pointer (some ⟨g, 0, none⟩), .int .i64 k] wr fun e w' => e = .returned (.bool d) ∧ PV W0 g W N K w' := by
  obtain ⟨F, hO⟩ := h.o
  have hF := hO.1
  rw [hd]
  refine (finished_any hF k).mono ?_
  rintro e w' ⟨rfl, hb⟩
  exact ⟨rfl, h.next hb⟩
theorem PV.bound (h : PV W0 g W N K wr) (k : Int) : (W.at k).sent.length ≤ 16777216 ∧ (W.at k).written.length ≤ 16777216 := by
  have h1 := h.ok.atw k
  have h2 := (h.ok.at k).sent_le
  have h3 := h.n
  have h4 := h.hN
  omega
theorem PV.sent (h : PV W0 g W N K wr) (k : Int) {S : ByteArray} (hS : S = kb (W.at k).sent) {m : Nat} (hm : m = (W.at k).sent.length) : Calls Try.prog 26 #[.pointer (some ⟨g, 0, none⟩), .int .i64 k] wr fun e w' => ∃ xo xc, e = .returned (.slice xo m xc) ∧ (convert 28 9 (.slice xo m xc)).run Try.prog w' = .ok (.string S) w' ∧ PV W0 g W N K w' := by
  obtain ⟨F, hO⟩ := h.o
  have hF := hO.1
  rw [hm]
  refine (sent_any hF k (h.bound k).1).mono ?_
  rintro e w' ⟨xo, xc, rfl, hr, hb⟩
  exact ⟨xo, xc, rfl, str_of hr hS, h.next hb⟩
theorem PV.written (h : PV W0 g W N K wr) (k : Int) {S : ByteArray} (hS : S = kb (W.at k).written) {m : Nat} (hm : m = (W.at k).written.length) : Calls Try.prog 28 #[.pointer (some ⟨g, 0, none⟩), .int .i64 k] wr fun e w' => ∃ xo xc, e = .returned (.slice xo m xc) ∧ (convert 28 9 (.slice xo m xc)).run Try.prog w' = .ok (.string S) w' ∧ PV W0 g W N K w' := by
  obtain ⟨F, hO⟩ := h.o
  have hF := hO.1
  rw [hm]
  refine (written_any hF k (h.bound k).2).mono ?_
  rintro e w' ⟨xo, xc, rfl, hr, hb⟩
  exact ⟨xo, xc, rfl, str_of hr hS, h.next hb⟩
theorem PV.finish (h : PV W0 g W N K wr) (k : Int) {W' : Wi.Wm} (hW : W' = W.finish k) : Calls Try.prog 14 #[.pointer (some ⟨g, 0, none⟩), .int .i64 k] wr fun e w' => e = .returned (.tuple #[]) ∧ PV W0 g W' N K w' := by
  obtain ⟨F, hO⟩ := h.o
  have hF := hO.1
  rw [hW]
  refine (finish_any hF k).mono ?_
  rintro e w' ⟨rfl, hs⟩
  exact ⟨rfl, h.did hO hs (Wi.Wm.finish_ok h.ok k) (Nat.le_trans (Wi.Wm.finish_bw W k) h.n) h.hN⟩
theorem PV.write (h : PV W0 g W N K wr) (k : Int) (v : Value) (ys : List UInt8) (hr : Rd wr v (ys.map bv)) (hy : ys.length ≤ 1500) {M : Nat} (hM : M = N + 1500) (hM1 : M ≤ 1000000) {W' : Wi.Wm} {m : Nat} (hW : (m, W') = W.write k ys) : Calls Try.prog 11 #[.pointer (some ⟨g, 0, none⟩), .int .i64 k, v] wr fun e w' => e = .returned (.int .i64 (m : Int)) ∧ PV W0 g W' M K w' := by
  obtain ⟨F, hO⟩ := h.o
  have hF := hO.1
  have e1 : m = (W.write k ys).1 := by rw [← hW]
  have e2 : W' = (W.write k ys).2 := by rw [← hW]
  rw [e1, e2]
  refine (write_any hF k v ys hr (by omega)).mono ?_
  rintro e w' ⟨rfl, hs⟩
  exact ⟨rfl, h.did hO hs (Wi.Wm.write_ok h.ok k ys) (by have := Wi.Wm.write_bw W k ys; have := h.n; omega) hM1⟩
theorem PV.ask (h : PV W0 g W N K wr) {W' : Wi.Wm} {b : Bool} (hW : (b, W') = W.ask) : Calls Try.prog 16 #[.pointer (some ⟨g, 0, none⟩)] wr fun e w' => e = .returned (.bool b) ∧ PV W0 g W' N K w' := by
  obtain ⟨F, hO⟩ := h.o
  have hF := hO.1
  have e1 : b = W.ask.1 := by rw [← hW]
  have e2 : W' = W.ask.2 := by rw [← hW]
  rw [e1, e2]
  have hb := h.bound 1
  refine (ask_any hF hb.1 hb.2).mono ?_
  rintro e w' ⟨rfl, hs⟩
  exact ⟨rfl, h.did hO hs (Wi.Wm.ask_ok h.ok) (Nat.le_trans (Wi.Wm.ask_bw W) h.n) h.hN⟩
theorem PV.happen (h : PV W0 g W N K wr) (kd k n : Int) (v : Value) (ys : List UInt8) (hr : Rd W0 v (ys.map bv)) (hy : ys.length ≤ maxLen) {m : Nat} {W' : Wi.Wm} {zs : List UInt8} (hW : (zs, m, W') = W.happen kd k n ys) {q : Nat} (hq : q = zs.length) : Calls Try.prog 19 #[.pointer (some ⟨g, 0, none⟩), .agg #[.int .i64 kd, .int .i64 k, .int .i64 n, v]] wr fun e w' => ∃ bo cp, e = .returned (.tuple #[.slice bo q cp, .int .i64 (m : Int)]) ∧ Rd w' (.slice bo q cp) (zs.map bv) ∧ PV W0 g W' N K w' := by
  obtain ⟨F, hO⟩ := h.o
  have hF := hO.1
  refine (happen_any hF h.ok kd k n v ys (hr.below h.below) hy (fun hp b hb hFb => ?_) (h.bound k).1 (h.bound k).2).mono ?_
  · have h1 := hr.blk hp b hb
    have h2 := (hF.fF b hFb).1
    omega
  · rintro e w' ⟨bo, cp, rfl, hr', hs⟩
    rw [← hW] at hr' hs ⊢
    rw [hq]
    have e2 : W' = (W.happen kd k n ys).2.2 := by rw [← hW]
    exact ⟨bo, cp, rfl, hr', h.did hO hs (by rw [e2]; exact Wi.Wm.happen_ok h.ok kd k n ys) (by rw [e2]; exact Nat.le_trans (Wi.Wm.happen_bw h.ok kd k n ys) h.n) h.hN⟩
end
end Go.Proofs.Ytneifmnlailipaa
