/- A range over an iterator that keeps its own state in captured variables (strings.SplitSeq): what the iterator is handed, what the loop owes. Texts come, one by one. -/
import Derived.Test.YtniinebgmkginaaDoorRd
import Derived.RangeFuncNested
import Derived.RangeFuncCalls
import Derived.RangeFuncLeaves
namespace Go.Proofs.YtniinebgmkginaaDoor
open Go.RowKit

/-- The wide fence, in a round of loop l. -/
abbrev WR (l : Nat) : Fence := Fence.wide.inRound l

/-- What a round tells: it goes on (and has left what the iterator wants kept), or it has said 'no more'. -/
def Rnd (Kp : World → World → Prop) (J Jx : List ByteArray → World → Prop) (xs : List ByteArray) (W : World) (e : Ending) (W' : World) : Prop :=
  (e = .returned (.bool true) ∧ J xs W' ∧ Kp W W') ∨ (e = .returned (.bool false) ∧ Jx xs W')

/-- What an iterator promises whoever ranges over it: of whatever the loop holds (J between two rounds, Jx behind the last), as long as the iterator's own steps (St) do not turn it. S: what comes; N: how many at most; ok: what may come. -/
def Gives (P : Program) (gf : Nat) (lb : Array Value) (St Kp : World → World → Prop) (S : List ByteArray) (w : World) : Prop :=
  ∀ (l : Nat) (J Jx : List ByteArray → World → Prop) (W : World), Kp w W → (∀ xs A B, J xs A → St A B → J xs B) →
    (∀ pre x W1, pre ++ [x] <+: S → J pre W1 → YieldAt Fence.wide 0 P l #[.string x] W1 (Rnd Kp J Jx (pre ++ [x]) W1)) → J [] W →
    CallsIn Fence.wide 0 P gf (#[.func (.yield l) #[] #[]] ++ lb) W fun e W' => (∃ v, e = .returned v) ∧ (J S W' ∨ ∃ pre, pre <+: S ∧ Jx pre W')

/-- A loop's two blocks, from w on: the one for deferred calls, and the record. -/
def twoLaid (w : World) (o o' : Obj) : World := (w.alloc o).alloc o'

/-- How the body of a round may be left. -/
def bodyEnd (Fx : Nat) (Kp : World → World → Prop) (I : List ByteArray → World → Prop) (Ix : Code → List ByteArray → World → Prop) (xs : List ByteArray) (W : World) : Exit → Act → World → Prop
  | .normal, _, W' => (∀ k, Fx ≤ k → k ≤ Fx + 1 → W'.heap[k]? = W.heap[k]?) ∧ Kp W W' ∧ I xs W'
  | .ret, _, W' => (∀ k, Fx ≤ k → k ≤ Fx + 1 → W'.heap[k]? = W.heap[k]?) ∧ Ix .ret xs W'
  | _, _, _ => False

variable {P : Program}

theorem wp_rangeBox {g : Operand} {ps : Array Tmp} {assign body : Code} {Q : Exit → Act → World → Prop} {a : Act} {w : World} {gf : Nat} {lb : Array Value}
    (hg : a.eval g = .func (.func gf) #[] lb) (eg : ∀ args w, (callFunc gf args).run P w = .ok (.enter gf args) w) (hps : ps.size = 1)
    {St Kp : World → World → Prop} {S : List ByteArray} (hseq : Gives P gf lb St Kp S w)
    (hKt : ∀ {A B C : World}, Kp A B → Kp B C → Kp A C) (hKa : ∀ o o', Kp w (twoLaid w o o')) (hKp : ∀ (W : World) (l : Nat) (o : Obj), w.heap.size ≤ l → Kp W (W.putObj l o))
    (hSt : ∀ A B, St A B → ∀ k, w.heap.size ≤ k → k ≤ w.heap.size + 1 → B.heap[k]? = A.heap[k]?)
    (I : List ByteArray → World → Prop) (Ix : Code → List ByteArray → World → Prop)
    (hI : ∀ xs W l o, w.heap.size ≤ l → l < W.heap.size → l ≤ w.heap.size + 1 → I xs W → I xs (W.putObj l o)) (hIx : ∀ c xs W l o, w.heap.size ≤ l → l < W.heap.size → l ≤ w.heap.size + 1 → Ix c xs W → Ix c xs (W.putObj l o)) (hIs : ∀ xs A B, I xs A → St A B → I xs B)
    (h0 : ∀ o o', I [] (twoLaid w o o')) (a₁ : ByteArray → Act)
    (hassign : ∀ (l : Nat) (x : ByteArray) (W : World) (K : Act → World → Prop), K (a₁ x) W →
      assign.wpIn (WR l) 0 P (Exit.then K (fun _ _ _ => False)) { tmps := (ps.zip #[.string x]).foldl (fun t (p, v) => t.setIfInBounds p v) a.tmps, defers := [] } W)
    (hbody : ∀ (l : Nat) (pre : List ByteArray) (x : ByteArray) (W : World), pre ++ [x] <+: S → I pre W → w.heap.size + 2 ≤ W.heap.size → body.wpIn (WR l) 0 P (bodyEnd w.heap.size Kp I Ix (pre ++ [x]) W) (a₁ x) W)
    (hdone : ∀ (W : World), I S W → W.heap[w.heap.size]? = some (.deferred (some [])) → Q .normal { a with defers := { target := .collected w.heap.size, args := #[] } :: a.defers } W)
    (hstop : ∀ (c : Code) (pre : List ByteArray) (W : World), pre <+: S → Ix c pre W → W.heap[w.heap.size]? = some (.deferred (some [])) → c.wp P Q { a with defers := { target := .collected w.heap.size, args := #[] } :: a.defers } W) :
    (Code.rangeFunc g ps assign body).wp P Q a w := by
  refine wpIn_wide (n := 0).1 (wpIn_rangeFunc fun fn _ => ?_)
  obtain ⟨rec, hrec⟩ : ∃ rec : LoopState → Option Code → Obj, rec = fun st pe => Obj.loop { state := st, pending := pe, fn, tmps := a.tmps, params := ps, assign, body, defers := w.heap.size } := ⟨_, rfl⟩
  have e1 : (twoLaid w (.deferred (some [])) (rec .ready none)).heap[w.heap.size]? = some (.deferred (some [])) := (Below.heap_alloc _ _ _ (by simp)).trans (World.alloc_heap_new w _)
  have e2 : (twoLaid w (.deferred (some [])) (rec .ready none)).heap[w.heap.size + 1]? = some (rec .ready none) := by
    have := World.alloc_heap_new (w.alloc (.deferred (some []))) (rec .ready none)
    rwa [World.size_alloc] at this
  -- what the law itself holds beside the loop's own
  obtain ⟨J, hJ⟩ : ∃ J : List ByteArray → World → Prop, J = fun xs W => I xs W ∧ W.heap[w.heap.size + 1]? = some (rec .ready none) ∧ W.heap[w.heap.size]? = some (.deferred (some [])) := ⟨_, rfl⟩
  obtain ⟨Jx, hJx⟩ : ∃ Jx : List ByteArray → World → Prop, Jx = fun xs W => ∃ c, Ix c xs W ∧ W.heap[w.heap.size + 1]? = some (rec .done (some c)) ∧ W.heap[w.heap.size]? = some (.deferred (some [])) := ⟨_, rfl⟩
  refine ⟨w.heap.size + 1, [{ target := .collected w.heap.size, args := #[] }], twoLaid w (.deferred (some [])) (rec .ready none), { target := .fn (.func gf) lb, args := #[.func (.yield (w.heap.size + 1)) #[] #[]] }, twoLaid w (.deferred (some [])) (rec .ready none), gf,
    #[.func (.yield (w.heap.size + 1)) #[] #[]] ++ lb, twoLaid w (.deferred (some [])) (rec .ready none), ?_, ?_, fun _ _ => trivial, ?_, fun h => (by cases h), ?_⟩
  · rw [hrec]; exact run_enterLoop_outer _ _ _ _ _
  · simp only [resolve, hg]
    simp [go_sem]
  · simp [invoke, go_sem, eg]
  refine (hseq (w.heap.size + 1) J Jx _ (hKa _ _) ?_ ?_ (by rw [hJ]; exact ⟨h0 _ _, e2, e1⟩)).mono ?_
  · intro xs A B h hs
    rw [hJ] at h ⊢
    exact ⟨hIs _ _ _ h.1 hs, (hSt _ _ hs _ (by omega) (by omega)).trans h.2.1, (hSt _ _ hs _ (by omega) (by omega)).trans h.2.2⟩
  · intro pre x W hpre h
    rw [hJ] at h
    obtain ⟨hi, hl, hk⟩ := h
    have hlt : w.heap.size + 1 < W.heap.size := (Array.getElem?_eq_some_iff.1 hl).1
    rw [hrec] at hl
    refine ⟨fn, _, assign, body, run_yield hl (by simp [hps]), roundIn_of_wpIn (F := Fence.wide) (n := 0) trivial (hassign _ x W _ ⟨_, run_beginRound hl rfl, ?_⟩)⟩
    generalize hW2 : W.putObj (w.heap.size + 1) _ = W2
    have hl2 : W2.heap[w.heap.size + 1]? = some (rec .busy none) := by rw [← hW2, hrec]; exact World.putObj_heap_same hlt
    have hk2 : W2.heap[w.heap.size]? = some (.deferred (some [])) := by rw [← hW2]; exact (World.putObj_heap_other (by omega)).trans hk
    have hi2 : I pre W2 := by rw [← hW2]; exact hI _ _ _ _ (by omega) hlt (by omega) hi
    have hsz : W2.heap.size = W.heap.size := by rw [← hW2]; simp
    have hp2 : Kp W W2 := by rw [← hW2]; exact hKp _ _ _ (by omega)
    refine wpIn_mono (hbody _ pre x W2 hpre hi2 (by omega)) ?_
    intro e a3 W3 hp
    cases e with
    | normal =>
      obtain ⟨hs, hkp, hi3⟩ := hp
      have hl3 := (hs _ (by omega) (Nat.le_refl _)).trans hl2
      have hlt3 : w.heap.size + 1 < W3.heap.size := (Array.getElem?_eq_some_iff.1 hl3).1
      rw [hrec] at hl3
      refine ⟨_, _, run_endRound none hl3, .inl ⟨rfl, ?_, hKt (hKt hp2 hkp) (hKp _ _ _ (by omega))⟩⟩
      rw [hJ, hrec]
      exact ⟨hI _ _ _ _ (by omega) hlt3 (by omega) hi3, World.putObj_heap_same hlt3, (World.putObj_heap_other (by omega)).trans ((hs _ (Nat.le_refl _) (by omega)).trans hk2)⟩
    | ret =>
      obtain ⟨hs, hi3⟩ := hp
      have hl3 := (hs _ (by omega) (Nat.le_refl _)).trans hl2
      have hlt3 : w.heap.size + 1 < W3.heap.size := (Array.getElem?_eq_some_iff.1 hl3).1
      rw [hrec] at hl3
      refine ⟨_, _, run_endRound (some .ret) hl3, .inr ⟨rfl, ?_⟩⟩
      rw [hJx, hrec]
      exact ⟨.ret, hIx _ _ _ _ _ (by omega) hlt3 (by omega) hi3, World.putObj_heap_same hlt3, (World.putObj_heap_other (by omega)).trans ((hs _ (Nat.le_refl _) (by omega)).trans hk2)⟩
    | exit id => exact hp.elim
    | goto t => exact hp.elim
    | panic ch => exact hp.elim
    | outgrown => exact hp.elim
  · rintro e W2 ⟨⟨v, rfl⟩, h⟩
    rcases h with h | ⟨pre, hpre, h⟩
    · rw [hJ, hrec] at h
      obtain ⟨hi, hl, hk⟩ := h
      have hlt : w.heap.size + 1 < W2.heap.size := (Array.getElem?_eq_some_iff.1 hl).1
      exact ⟨none, _, run_endLoop hl (by simp), hdone _ (hI _ _ _ _ (by omega) hlt (by omega) hi) ((World.putObj_heap_other (by omega)).trans hk)⟩
    · rw [hJx, hrec] at h
      obtain ⟨c, hi, hl, hk⟩ := h
      have hlt : w.heap.size + 1 < W2.heap.size := (Array.getElem?_eq_some_iff.1 hl).1
      exact ⟨some c, _, run_endLoop hl (by simp), wpIn_wide.2 (hstop _ _ _ hpre (hIx _ _ _ _ _ (by omega) hlt (by omega) hi) ((World.putObj_heap_other (by omega)).trans hk))⟩
end Go.Proofs.YtniinebgmkginaaDoor
