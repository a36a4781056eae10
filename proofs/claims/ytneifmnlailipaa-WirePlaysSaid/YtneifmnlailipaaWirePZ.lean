/- A wire, its clone and the reference's one: what is done to the elder one goes past the others. -/
import Derived.Test.YtneifmnlailipaaWireFresh
namespace Go.Proofs.Ytneifmnlailipaa
open Go.RowKit

theorem RA.lower {w : World} {B B' g o : Nat} {F : Nat → Prop} {T : TypeId} {c : Wi.Cn} (h : RA w B g o F T c) (hB : B' ≤ B) : RA w B' g o F T c := by
  obtain ⟨C, gq, s, so, sw, hx⟩ := h
  exact ⟨C, gq, s, so, sw, hx.q.lower hB, hx.h, hx.e0, hx.e1, hx.e2, hx.e3, hx.e4, hx.e5, hx.ro, hx.rw, hx.no, hx.nw, Nat.le_trans hB hx.hg, hx.fq, hx.fs, hx.fo, hx.fw, fun k hk => ⟨Nat.le_trans hB (hx.fF k hk).1, (hx.fF k hk).2⟩⟩
theorem RW.lower {w : World} {B B' g : Nat} {F : Nat → Prop} {W : Wi.Wm} (h : RW w B g F W) (hB : B' ≤ B) : RW w B' g F W := by
  obtain ⟨C, F0, F1, hC, hn, ha, hb, hd, hF⟩ := h
  exact ⟨C, F0, F1, hC, hn, ha.lower hB, hb.lower hB, hd, hF⟩

/-- Both anew. -/
theorem PY.new {W0 wr : World} {g : Nat} (h : PW W0 g Wi.start 0 wr) : Calls Try.prog 10 #[] wr fun e w' => ∃ gy, e = .returned (.pointer (some ⟨gy, 0, none⟩)) ∧ PY W0 g gy Wi.start Wi.start 0 [] w' := by
  refine (rwnew_any wr).mono ?_
  rintro e w' ⟨gy, rfl, hb, Fy, hY⟩
  have h1 := h.next hb
  obtain ⟨F, hF⟩ := h.o
  refine ⟨gy, rfl, h.ok, h.ok, ⟨F, Fy, hF.next hb, hY.lower h.below.size, fun k hk hy => ?_, fun p hp => by cases hp⟩, h1.below, h.n, h.n, h.hN⟩
  have := (hF.fF k hk).2
  have := (hY.fF k hy).1
  omega

/-- The elder one go with Wo, its clone g with W, the reference's gy with V. -/
structure PZ (W0 : World) (go g gy : Nat) (Wo W V : Wi.Wm) (M N : Nat) (K : List (Nat × Obj)) (wr : World) : Prop where
  ok : Wo.Ok
  n : Wo.b.written.length ≤ M
  hM : M ≤ 1000000
  okw : W.Ok
  okv : V.Ok
  o : ∃ Fo F Fy, WO wr W0.heap.size go Fo Wo ∧ WO wr W0.heap.size g F W ∧ RW wr W0.heap.size gy Fy V ∧ (∀ k, Fo k → ¬ F k ∧ ¬ Fy k) ∧ (∀ k, F k → ¬ Fy k) ∧ ∀ p ∈ K, (¬ Fo p.1 ∧ ¬ F p.1 ∧ ¬ Fy p.1) ∧ wr.heap[p.1]? = some p.2
  below : Below W0.heap.size W0 wr
  nw : W.b.written.length ≤ N
  nv : V.b.written.length ≤ N
  hN : N ≤ 1000000
section
variable {W0 wr w' : World} {go g gy M N : Nat} {Wo W V : Wi.Wm} {K : List (Nat × Obj)}
theorem PZ.next (h : PZ W0 go g gy Wo W V M N K wr) (hb : Below wr.heap.size wr w') : PZ W0 go g gy Wo W V M N K w' := by
  obtain ⟨Fo, F, Fy, hO, hF, hY, hd, he, hK⟩ := h.o
  exact ⟨h.ok, h.n, h.hM, h.okw, h.okv, ⟨Fo, F, Fy, hO.next hb, hF.next hb, hY.next hb, hd, he, fun p hp => ⟨(hK p hp).1, (hb.block _ (Array.getElem?_eq_some_iff.1 (hK p hp).2).1).trans (hK p hp).2⟩⟩, h.below.trans (hb.mono h.below.size), h.nw, h.nv, h.hN⟩
theorem PZ.kept {p : Nat × Obj} (h : PZ W0 go g gy Wo W V M N (p :: K) wr) : wr.heap[p.1]? = some p.2 := by
  obtain ⟨Fo, F, Fy, hO, hF, hY, hd, he, hK⟩ := h.o
  exact (hK p (List.mem_cons_self ..)).2
/-- The elder one is let go. -/
theorem PZ.drop (h : PZ W0 go g gy Wo W V M N K wr) : PY W0 g gy W V N K wr := by
  obtain ⟨Fo, F, Fy, hO, hF, hY, hd, he, hK⟩ := h.o
  exact ⟨h.okw, h.okv, ⟨F, Fy, hF, hY, he, fun p hp => ⟨(hK p hp).1.2, (hK p hp).2⟩⟩, h.below, h.nw, h.nv, h.hN⟩
/-- Something was done to the elder one. -/
theorem PZ.did {Fo F Fy : Nat → Prop} {W' : Wi.Wm} {M' : Nat} (h : PZ W0 go g gy Wo W V M N K wr) (hO : WO wr W0.heap.size go Fo Wo ∧ WO wr W0.heap.size g F W ∧ RW wr W0.heap.size gy Fy V ∧ (∀ k, Fo k → ¬ F k ∧ ¬ Fy k) ∧ (∀ k, F k → ¬ Fy k) ∧ ∀ p ∈ K, (¬ Fo p.1 ∧ ¬ F p.1 ∧ ¬ Fy p.1) ∧ wr.heap[p.1]? = some p.2) (hs : Ws W0.heap.size go Fo wr W' w') (hok : W'.Ok) (hn : W'.b.written.length ≤ M') (hM : M' ≤ 1000000) : PZ W0 go g gy W' W V M' N K w' := by
  obtain ⟨F', h1, h2, h3⟩ := hs
  obtain ⟨hO, hF, hY, hd, he, hK⟩ := hO
  refine ⟨hok, hn, hM, h.okw, h.okv, ⟨F', F, Fy, h1, hF.apart h2 (fun k hk e => (hd k e).1 hk), hY.apart h2 (fun k hk e => (hd k e).2 hk), fun k hk => ?_, he, fun p hp => ?_⟩, h.below.trans (h2.below (fun k hk => (hO.fF k hk).1) h.below.size), h.nw, h.nv, h.hN⟩
  · rcases h3 k hk with e | e
    · exact hd k e
    · exact ⟨fun hy => by have := (hF.fF k hy).2; omega, fun hy => by have := (hY.fF k hy).2; omega⟩
  · have hl := (Array.getElem?_eq_some_iff.1 (hK p hp).2).1
    refine ⟨⟨fun e => ?_, (hK p hp).1.2⟩, (h2.block _ hl (hK p hp).1.1).trans (hK p hp).2⟩
    rcases h3 _ e with e | e
    · exact (hK p hp).1.1 e
    · omega
theorem PZ.write (h : PZ W0 go g gy Wo W V M N K wr) (k : Int) (v : Value) (ys : List UInt8) (hr : Rd wr v (ys.map bv)) (hy : ys.length ≤ 2) (hM : M + 2 ≤ 1000000) : Calls Try.prog 11 #[.pointer (some ⟨go, 0, none⟩), .int .i64 k, v] wr fun e w' => ∃ m : Nat, e = .returned (.int .i64 (m : Int)) ∧ PZ W0 go g gy (Wo.write k ys).2 W V (M + 2) N K w' := by
  obtain ⟨Fo, F, Fy, hO⟩ := h.o
  refine (write_any hO.1 k v ys hr (by omega)).mono ?_
  rintro e w' ⟨rfl, hs⟩
  exact ⟨_, rfl, h.did hO hs (Wi.Wm.write_ok h.ok k ys) (by have := Wi.Wm.write_bw Wo k ys; have := h.n; omega) hM⟩
theorem PZ.happen (h : PZ W0 go g gy Wo W V M N K wr) (kd k n : Int) : Calls Try.prog 19 #[.pointer (some ⟨go, 0, none⟩), .agg #[.int .i64 kd, .int .i64 k, .int .i64 n, .slice none 0 0]] wr fun e w' => ∃ u, ∃ m : Nat, e = .returned (.tuple #[u, .int .i64 (m : Int)]) ∧ PZ W0 go g gy (Wo.happen kd k n []).2.2 W V M N K w' := by
  obtain ⟨Fo, F, Fy, hO⟩ := h.o
  have hb := wm_bound h.ok h.n h.hM k
  refine (happen_any hO.1 h.ok kd k n _ [] rd_none (by decide) (fun hp => absurd hp (by decide)) hb.1 hb.2).mono ?_
  rintro e w' ⟨bo, cp, rfl, _, hs⟩
  exact ⟨_, _, rfl, h.did hO hs (Wi.Wm.happen_ok h.ok kd k n []) (Nat.le_trans (Wi.Wm.happen_bw h.ok kd k n []) h.n) h.hM⟩
theorem PZ.ask (h : PZ W0 go g gy Wo W V M N K wr) : Calls Try.prog 16 #[.pointer (some ⟨go, 0, none⟩)] wr fun e w' => ∃ b : Bool, e = .returned (.bool b) ∧ PZ W0 go g gy Wo.ask.2 W V M N K w' := by
  obtain ⟨Fo, F, Fy, hO⟩ := h.o
  have hb := wm_bound h.ok h.n h.hM 1
  refine (ask_any hO.1 hb.1 hb.2).mono ?_
  rintro e w' ⟨rfl, hs⟩
  exact ⟨_, rfl, h.did hO hs (Wi.Wm.ask_ok h.ok) (Nat.le_trans (Wi.Wm.ask_bw Wo) h.n) h.hM⟩
/-- 'Clone'. -/
theorem PY.clone (h : PY W0 g gy W V N K wr) : Calls Try.prog 18 #[.pointer (some ⟨g, 0, none⟩)] wr fun e w' => ∃ gc, e = .returned (.pointer (some ⟨gc, 0, none⟩)) ∧ PZ W0 g gc gy W W V N N K w' := by
  obtain ⟨F, Fy, hF, hY, hd, hK⟩ := h.o
  have ha := h.ok.aw
  have h1 := h.n
  have h2 := h.hN
  have z1 := Wi.Cn.Ok.norm_old h.ok.a
  have z2 := Wi.Cn.norm_wrote W.a
  have z3 := Wi.Cn.Ok.norm_old h.ok.b
  have z4 := Wi.Cn.norm_wrote W.b
  refine (wclone_any hF ⟨by omega, by omega, by omega, by omega⟩).mono ?_
  rintro e w' ⟨gc, Fc, rfl, hb, hC⟩
  refine ⟨gc, rfl, h.ok, h.n, h.hN, h.ok, h.okv, ⟨F, Fc, Fy, hF.next hb, hC.lower h.below.size, hY.next hb, fun k hk => ⟨fun e => ?_, hd k hk⟩, fun k hk hy => ?_, fun p hp => ⟨⟨(hK p hp).1.1, fun e => ?_, (hK p hp).1.2⟩, (hb.block _ (Array.getElem?_eq_some_iff.1 (hK p hp).2).1).trans (hK p hp).2⟩⟩, h.below.trans (hb.mono h.below.size), h.n, h.nv, h.hN⟩
  · have := (hF.fF k hk).2
    have := (hC.fF k e).1
    omega
  · have := (hY.fF k hy).2
    have := (hC.fF k hk).1
    omega
  · have := (Array.getElem?_eq_some_iff.1 (hK p hp).2).1
    have := (hC.fF _ e).1
    omega
end
end Go.Proofs.Ytneifmnlailipaa
