/- A wire and the reference's one, apart from each other; and an elder one behind a clone. -/
import Derived.Test.YtneifmnlailipaaWRefHap
import Derived.Test.YtneifmnlailipaaWRefNew
namespace Go.Proofs.Ytneifmnlailipaa
open Go.RowKit

structure PY (W0 : World) (g gy : Nat) (W V : Wi.Wm) (N : Nat) (K : List (Nat × Obj)) (wr : World) : Prop where
  ok : W.Ok
  okv : V.Ok
  o : ∃ F Fy, WO wr W0.heap.size g F W ∧ RW wr W0.heap.size gy Fy V ∧ (∀ k, F k → ¬ Fy k) ∧ ∀ p ∈ K, (¬ F p.1 ∧ ¬ Fy p.1) ∧ wr.heap[p.1]? = some p.2
  below : Below W0.heap.size W0 wr
  n : W.b.written.length ≤ N
  nv : V.b.written.length ≤ N
  hN : N ≤ 1000000
section
variable {W0 wr w' : World} {g gy N : Nat} {W V : Wi.Wm} {K : List (Nat × Obj)}
theorem PY.next (h : PY W0 g gy W V N K wr) (hb : Below wr.heap.size wr w') : PY W0 g gy W V N K w' := by
  obtain ⟨F, Fy, hF, hY, hd, hK⟩ := h.o
  exact ⟨h.ok, h.okv, ⟨F, Fy, hF.next hb, hY.next hb, hd, fun p hp => ⟨(hK p hp).1, (hb.block _ (Array.getElem?_eq_some_iff.1 (hK p hp).2).1).trans (hK p hp).2⟩⟩, h.below.trans (hb.mono h.below.size), h.n, h.nv, h.hN⟩
theorem PY.alloc (h : PY W0 g gy W V N K wr) (ob : Obj) : PY W0 g gy W V N ((wr.heap.size, ob) :: K) (wr.alloc ob) := by
  have hb : Below wr.heap.size wr (wr.alloc ob) := (Below.refl _ _).alloc (Nat.le_refl _) _
  have h1 := h.next hb
  obtain ⟨F, Fy, hF, hY, hd, hK⟩ := h.o
  refine ⟨h.ok, h.okv, ⟨F, Fy, hF.next hb, hY.next hb, hd, fun p hp => ?_⟩, h1.below, h.n, h.nv, h.hN⟩
  rcases List.mem_cons.1 hp with rfl | hp
  · exact ⟨⟨fun e => by have := (hF.fF _ e).2; omega, fun e => by have := (hY.fF _ e).2; omega⟩, heap_alloc_new _ _⟩
  · exact ⟨(hK p hp).1, (hb.block _ (Array.getElem?_eq_some_iff.1 (hK p hp).2).1).trans (hK p hp).2⟩
theorem PY.kept {p : Nat × Obj} (h : PY W0 g gy W V N (p :: K) wr) : wr.heap[p.1]? = some p.2 := by
  obtain ⟨F, Fy, hF, hY, hd, hK⟩ := h.o
  exact (hK p (List.mem_cons_self ..)).2
theorem PY.drop {p : Nat × Obj} (h : PY W0 g gy W V N (p :: K) wr) : PY W0 g gy W V N K wr := by
  obtain ⟨F, Fy, hF, hY, hd, hK⟩ := h.o
  exact ⟨h.ok, h.okv, ⟨F, Fy, hF, hY, hd, fun q hq => hK q (List.mem_cons_of_mem _ hq)⟩, h.below, h.n, h.nv, h.hN⟩
theorem PY.up {N' : Nat} (h : PY W0 g gy W V N K wr) (hn : N ≤ N') (h1 : N' ≤ 1000000) : PY W0 g gy W V N' K wr := ⟨h.ok, h.okv, h.o, h.below, Nat.le_trans h.n hn, Nat.le_trans h.nv hn, h1⟩
/-- Something was done to the wire. -/
theorem PY.did {F Fy : Nat → Prop} {W' : Wi.Wm} {N' : Nat} (h : PY W0 g gy W V N K wr) (hO : WO wr W0.heap.size g F W ∧ RW wr W0.heap.size gy Fy V ∧ (∀ k, F k → ¬ Fy k) ∧ ∀ p ∈ K, (¬ F p.1 ∧ ¬ Fy p.1) ∧ wr.heap[p.1]? = some p.2) (hs : Ws W0.heap.size g F wr W' w') (hok : W'.Ok) (hn : W'.b.written.length ≤ N') (hN : N' ≤ 1000000) (hu : N ≤ N') : PY W0 g gy W' V N' K w' := by
  obtain ⟨F', h1, h2, h3⟩ := hs
  obtain ⟨hF, hY, hd, hK⟩ := hO
  refine ⟨hok, h.okv, ⟨F', Fy, h1, hY.apart h2 (fun k hk e => hd k e hk), fun k hk hy => ?_, fun p hp => ?_⟩, h.below.trans (h2.below (fun k hk => (hF.fF k hk).1) h.below.size), hn, Nat.le_trans h.nv hu, hN⟩
  · rcases h3 k hk with e | e
    · exact hd k e hy
    · have := (hY.fF k hy).2
      omega
  · have hl := (Array.getElem?_eq_some_iff.1 (hK p hp).2).1
    refine ⟨⟨fun e => ?_, (hK p hp).1.2⟩, (h2.block _ hl (hK p hp).1.1).trans (hK p hp).2⟩
    rcases h3 _ e with e | e
    · exact (hK p hp).1.1 e
    · omega
/-- Something was done to the reference's one. -/
theorem PY.didR {F Fy : Nat → Prop} {V' : Wi.Wm} {N' : Nat} (h : PY W0 g gy W V N K wr) (hO : WO wr W0.heap.size g F W ∧ RW wr W0.heap.size gy Fy V ∧ (∀ k, F k → ¬ Fy k) ∧ ∀ p ∈ K, (¬ F p.1 ∧ ¬ Fy p.1) ∧ wr.heap[p.1]? = some p.2) (hs : Rs W0.heap.size gy Fy wr V' w') (hok : V'.Ok) (hn : V'.b.written.length ≤ N') (hN : N' ≤ 1000000) (hu : N ≤ N') : PY W0 g gy W V' N' K w' := by
  obtain ⟨F', h1, h2, h3⟩ := hs
  obtain ⟨hF, hY, hd, hK⟩ := hO
  refine ⟨h.ok, hok, ⟨F, F', hF.apart h2 (fun k hk e => hd k hk e), h1, fun k hk hy => ?_, fun p hp => ?_⟩, h.below.trans (h2.below (fun k hk => (hY.fF k hk).1) h.below.size), Nat.le_trans h.n hu, hn, hN⟩
  · rcases h3 k hy with e | e
    · exact hd k hk e
    · have := (hF.fF k hk).2
      omega
  · have hl := (Array.getElem?_eq_some_iff.1 (hK p hp).2).1
    refine ⟨⟨(hK p hp).1.1, fun e => ?_⟩, (h2.block _ hl (hK p hp).1.2).trans (hK p hp).2⟩
    rcases h3 _ e with e | e
    · exact (hK p hp).1.2 e
    · omega
theorem wm_bound {U : Wi.Wm} (hok : U.Ok) (hn : U.b.written.length ≤ N) (hN : N ≤ 1000000) (k : Int) : (U.at k).sent.length ≤ 16777216 ∧ (U.at k).written.length ≤ 16777216 := by
  have h1 := hok.atw k
  have h2 := (hok.at k).sent_le
  omega
theorem PY.state (h : PY W0 g gy W V N K wr) (k : Int) {m : Nat} (hm : m = (W.at k).st) : Calls Try.prog 22 #[.pointer (some ⟨g, 0, none⟩), .int .i64 k] wr fun e w' => e = .returned (.int .i64 (m : Int)) ∧ PY W0 g gy W V N K w' ∧ Below wr.heap.size wr w' := by
  obtain ⟨F, Fy, hF, hY, hd, hK⟩ := h.o
  rw [hm]
  refine (state_any hF k).mono ?_
  rintro e w' ⟨rfl, hb⟩
  exact ⟨rfl, h.next hb, hb⟩
theorem PY.rstate (h : PY W0 g gy W V N K wr) (k : Int) {m : Nat} (hm : m = (V.at k).st) : Calls Try.prog 23 #[.pointer (some ⟨gy, 0, none⟩), .int .i64 k] wr fun e w' => e = .returned (.int .i64 (m : Int)) ∧ PY W0 g gy W V N K w' ∧ Below wr.heap.size wr w' := by
  obtain ⟨F, Fy, hF, hY, hd, hK⟩ := h.o
  rw [hm]
  refine (rstate_any hY k).mono ?_
  rintro e w' ⟨rfl, rfl⟩
  exact ⟨rfl, h, Below.refl _ _⟩
theorem PY.waits (h : PY W0 g gy W V N K wr) (k : Int) {m : Nat} (hm : m = (W.at k).waits) : Calls Try.prog 24 #[.pointer (some ⟨g, 0, none⟩), .int .i64 k] wr fun e w' => e = .returned (.int .i64 (m : Int)) ∧ PY W0 g gy W V N K w' ∧ Below wr.heap.size wr w' := by
  obtain ⟨F, Fy, hF, hY, hd, hK⟩ := h.o
  rw [hm]
  refine (waits_any hF k).mono ?_
  rintro e w' ⟨rfl, hb⟩
  exact ⟨rfl, h.next hb, hb⟩
theorem PY.rwaits (h : PY W0 g gy W V N K wr) (k : Int) {m : Nat} (hm : m = (V.at k).waits) : Calls Try.prog 25 #[.pointer (some ⟨gy, 0, none⟩), .int .i64 k] wr fun e w' => e = .returned (.int .i64 (m : Int)) ∧ PY W0 g gy W V N K w' ∧ Below wr.heap.size wr w' := by
  obtain ⟨F, Fy, hF, hY, hd, hK⟩ := h.o
  rw [hm]
  refine (rwaits_any hY k).mono ?_
  rintro e w' ⟨rfl, hb⟩
  exact ⟨rfl, h.next hb, hb⟩
theorem PY.finished (h : PY W0 g gy W V N K wr) (k : Int) {d : Bool} (hd' : d = (W.at k).dn) : Calls Try.prog 30 #[.pointer (some ⟨g, 0, none⟩), .int .i64 k] wr fun e w' => e = .returned (.bool d) ∧ PY W0 g gy W V N K w' ∧ Below wr.heap.size wr w' := by
  obtain ⟨F, Fy, hF, hY, hd, hK⟩ := h.o
  rw [hd']
  refine (finished_any hF k).mono ?_
  rintro e w' ⟨rfl, hb⟩
  exact ⟨rfl, h.next hb, hb⟩
theorem PY.rfinished (h : PY W0 g gy W V N K wr) (k : Int) {d : Bool} (hd' : d = (V.at k).dn) : Calls Try.prog 31 #[.pointer (some ⟨gy, 0, none⟩), .int .i64 k] wr fun e w' => e = .returned (.bool d) ∧ PY W0 g gy W V N K w' ∧ Below wr.heap.size wr w' := by
  obtain ⟨F, Fy, hF, hY, hd, hK⟩ := h.o
  rw [hd']
  refine (rfinished_any hY k).mono ?_
  rintro e w' ⟨rfl, rfl⟩
  exact ⟨rfl, h, Below.refl _ _⟩
theorem PY.sent (h : PY W0 g gy W V N K wr) (k : Int) {l : List UInt8} (hl : l = (W.at k).sent) {m : Nat} (hm : m = l.length) : Calls Try.prog 26 #[.pointer (some ⟨g, 0, none⟩), .int .i64 k] wr fun e w' => ∃ xo xc, e = .returned (.slice xo m xc) ∧ Rd w' (.slice xo m xc) (l.map bv) ∧ PY W0 g gy W V N K w' ∧ Below wr.heap.size wr w' := by
  obtain ⟨F, Fy, hF, hY, hd, hK⟩ := h.o
  rw [hm, hl]
  refine (sent_any hF k (wm_bound h.ok h.n h.hN k).1).mono ?_
  rintro e w' ⟨xo, xc, rfl, hr, hb⟩
  exact ⟨xo, xc, rfl, hr, h.next hb, hb⟩
theorem PY.rsent (h : PY W0 g gy W V N K wr) (k : Int) {l : List UInt8} (hl : l = (V.at k).sent) {m : Nat} (hm : m = l.length) : Calls Try.prog 27 #[.pointer (some ⟨gy, 0, none⟩), .int .i64 k] wr fun e w' => ∃ xo xc, e = .returned (.slice xo m xc) ∧ Rd w' (.slice xo m xc) (l.map bv) ∧ PY W0 g gy W V N K w' ∧ Below wr.heap.size wr w' := by
  obtain ⟨F, Fy, hF, hY, hd, hK⟩ := h.o
  rw [hm, hl]
  refine (rsent_any hY k (wm_bound h.okv h.nv h.hN k).1).mono ?_
  rintro e w' ⟨xo, xc, rfl, hr, _, hb⟩
  exact ⟨xo, xc, rfl, hr, h.next hb, hb⟩
theorem PY.written (h : PY W0 g gy W V N K wr) (k : Int) {l : List UInt8} (hl : l = (W.at k).written) {m : Nat} (hm : m = l.length) : Calls Try.prog 28 #[.pointer (some ⟨g, 0, none⟩), .int .i64 k] wr fun e w' => ∃ xo xc, e = .returned (.slice xo m xc) ∧ Rd w' (.slice xo m xc) (l.map bv) ∧ PY W0 g gy W V N K w' ∧ Below wr.heap.size wr w' := by
  obtain ⟨F, Fy, hF, hY, hd, hK⟩ := h.o
  rw [hm, hl]
  refine (written_any hF k (wm_bound h.ok h.n h.hN k).2).mono ?_
  rintro e w' ⟨xo, xc, rfl, hr, hb⟩
  exact ⟨xo, xc, rfl, hr, h.next hb, hb⟩
theorem PY.rwritten (h : PY W0 g gy W V N K wr) (k : Int) {l : List UInt8} (hl : l = (V.at k).written) {m : Nat} (hm : m = l.length) : Calls Try.prog 29 #[.pointer (some ⟨gy, 0, none⟩), .int .i64 k] wr fun e w' => ∃ xo xc, e = .returned (.slice xo m xc) ∧ Rd w' (.slice xo m xc) (l.map bv) ∧ PY W0 g gy W V N K w' ∧ Below wr.heap.size wr w' := by
  obtain ⟨F, Fy, hF, hY, hd, hK⟩ := h.o
  rw [hm, hl]
  refine (rwritten_any hY k (wm_bound h.okv h.nv h.hN k).2).mono ?_
  rintro e w' ⟨xo, xc, rfl, hr, _, hb⟩
  exact ⟨xo, xc, rfl, hr, h.next hb, hb⟩
theorem PY.finish (h : PY W0 g gy W V N K wr) (k : Int) : Calls Try.prog 14 #[.pointer (some ⟨g, 0, none⟩), .int .i64 k] wr fun e w' => e = .returned (.tuple #[]) ∧ PY W0 g gy (W.finish k) V N K w' := by
  obtain ⟨F, Fy, hO⟩ := h.o
  refine (finish_any hO.1 k).mono ?_
  rintro e w' ⟨rfl, hs⟩
  exact ⟨rfl, h.did hO hs (Wi.Wm.finish_ok h.ok k) (Nat.le_trans (Wi.Wm.finish_bw W k) h.n) h.hN (Nat.le_refl _)⟩
theorem PY.rfinish (h : PY W0 g gy W V N K wr) (k : Int) : Calls Try.prog 15 #[.pointer (some ⟨gy, 0, none⟩), .int .i64 k] wr fun e w' => e = .returned (.tuple #[]) ∧ PY W0 g gy W (V.finish k) N K w' := by
  obtain ⟨F, Fy, hO⟩ := h.o
  refine (rfinish_any hO.2.1 k).mono ?_
  rintro e w' ⟨rfl, hs⟩
  exact ⟨rfl, h.didR hO hs (Wi.Wm.finish_ok h.okv k) (Nat.le_trans (Wi.Wm.finish_bw V k) h.nv) h.hN (Nat.le_refl _)⟩
theorem PY.write (h : PY W0 g gy W V N K wr) (k : Int) (v : Value) (ys : List UInt8) (hr : Rd wr v (ys.map bv)) (hy : ys.length ≤ 1500) {M : Nat} (hM : N + 1500 ≤ M) (hM1 : M ≤ 1000000) {W' : Wi.Wm} {m : Nat} (hW : (m, W') = W.write k ys) : Calls Try.prog 11 #[.pointer (some ⟨g, 0, none⟩), .int .i64 k, v] wr fun e w' => e = .returned (.int .i64 (m : Int)) ∧ PY W0 g gy W' V M K w' := by
  obtain ⟨F, Fy, hO⟩ := h.o
  have e1 : m = (W.write k ys).1 := by rw [← hW]
  have e2 : W' = (W.write k ys).2 := by rw [← hW]
  rw [e1, e2]
  refine (write_any hO.1 k v ys hr (by omega)).mono ?_
  rintro e w' ⟨rfl, hs⟩
  exact ⟨rfl, h.did hO hs (Wi.Wm.write_ok h.ok k ys) (by have := Wi.Wm.write_bw W k ys; have := h.n; omega) hM1 (by omega)⟩
theorem PY.rwrite (h : PY W0 g gy W V N K wr) (k : Int) (v : Value) (ys : List UInt8) (hr : Rd wr v (ys.map bv)) (hy : ys.length ≤ 1500) {M : Nat} (hM : N + 1500 ≤ M) (hM1 : M ≤ 1000000) {V' : Wi.Wm} {m : Nat} (hW : (m, V') = V.write k ys) : Calls Try.prog 13 #[.pointer (some ⟨gy, 0, none⟩), .int .i64 k, v] wr fun e w' => e = .returned (.int .i64 (m : Int)) ∧ PY W0 g gy W V' M K w' := by
  obtain ⟨F, Fy, hO⟩ := h.o
  have e1 : m = (V.write k ys).1 := by rw [← hW]
  have e2 : V' = (V.write k ys).2 := by rw [← hW]
  rw [e1, e2]
  refine (rwrite_any hO.2.1 k v ys hr).mono ?_
  rintro e w' ⟨rfl, hs⟩
  exact ⟨rfl, h.didR hO hs (Wi.Wm.write_ok h.okv k ys) (by have := Wi.Wm.write_bw V k ys; have := h.nv; omega) hM1 (by omega)⟩
theorem PY.ask (h : PY W0 g gy W V N K wr) : Calls Try.prog 16 #[.pointer (some ⟨g, 0, none⟩)] wr fun e w' => e = .returned (.bool W.ask.1) ∧ PY W0 g gy W.ask.2 V N K w' := by
  obtain ⟨F, Fy, hO⟩ := h.o
  have hb := wm_bound h.ok h.n h.hN 1
  refine (ask_any hO.1 hb.1 hb.2).mono ?_
  rintro e w' ⟨rfl, hs⟩
  exact ⟨rfl, h.did hO hs (Wi.Wm.ask_ok h.ok) (Nat.le_trans (Wi.Wm.ask_bw W) h.n) h.hN (Nat.le_refl _)⟩
theorem PY.rask (h : PY W0 g gy W V N K wr) : Calls Try.prog 17 #[.pointer (some ⟨gy, 0, none⟩)] wr fun e w' => e = .returned (.bool V.ask.1) ∧ PY W0 g gy W V.ask.2 N K w' := by
  obtain ⟨F, Fy, hO⟩ := h.o
  have hb := wm_bound h.okv h.nv h.hN 1
  refine (rask_any hO.2.1 hb.1 hb.2).mono ?_
  rintro e w' ⟨rfl, hs⟩
  exact ⟨rfl, h.didR hO hs (Wi.Wm.ask_ok h.okv) (Nat.le_trans (Wi.Wm.ask_bw V) h.nv) h.hN (Nat.le_refl _)⟩
theorem PY.happen (h : PY W0 g gy W V N K wr) (kd k n : Int) (v : Value) (ys : List UInt8) (hr : Rd W0 v (ys.map bv)) (hy : ys.length ≤ maxLen) {q : Nat} (hq : q = (W.happen kd k n ys).1.length) : Calls Try.prog 19 #[.pointer (some ⟨g, 0, none⟩), .agg #[.int .i64 kd, .int .i64 k, .int .i64 n, v]] wr fun e w' => ∃ bo cp, e = .returned (.tuple #[.slice bo q cp, .int .i64 ((W.happen kd k n ys).2.1 : Int)]) ∧ Rd w' (.slice bo q cp) ((W.happen kd k n ys).1.map bv) ∧ PY W0 g gy (W.happen kd k n ys).2.2 V N K w' := by
  obtain ⟨F, Fy, hO⟩ := h.o
  have hb := wm_bound h.ok h.n h.hN k
  refine (happen_any hO.1 h.ok kd k n v ys (hr.below h.below) hy (fun hp b hb hFb => ?_) hb.1 hb.2).mono ?_
  · have h1 := hr.blk hp b hb
    have h2 := (hO.1.fF b hFb).1
    omega
  · rintro e w' ⟨bo, cp, rfl, hr', hs⟩
    rw [hq]
    exact ⟨bo, cp, rfl, hr', h.did hO hs (Wi.Wm.happen_ok h.ok kd k n ys) (Nat.le_trans (Wi.Wm.happen_bw h.ok kd k n ys) h.n) h.hN (Nat.le_refl _)⟩
end
end Go.Proofs.Ytneifmnlailipaa
