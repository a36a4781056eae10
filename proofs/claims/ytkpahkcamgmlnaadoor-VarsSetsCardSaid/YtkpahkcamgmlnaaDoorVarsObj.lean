/- Names that are set, in a block with a map: New, Len, Get, Clone walked (layer 16). -/
import Derived.Test.YtkpahkcamgmlnaaDoorVarsMap
import Derived.Shelf.SlMaps.Clone
namespace Go.Proofs.YtkpahkcamgmlnaaDoor
open Go.RowKit

/-- Names that are set: block b holds the map x, or none. -/
structure VO (w : World) (b : Nat) (x : Option Nat) (σ : Va.Env) : Prop where
  c : Box w b 48 (.map x)
  m : ∀ m, x = some m → m ≠ b ∧ w.heap[m]? = some (.map (ents σ) σ.length)
  z : x = none → σ = []
  nm : ∀ p ∈ σ, p.1.length ≤ 16777216 ∧ p.2.length ≤ 1000
  len : σ.length ≤ 16
/-- The blocks in which they lie. -/
def VF (b : Nat) (x : Option Nat) : Nat → Prop := fun k => k = b ∨ x = some k
section
variable {w w' : World} {b : Nat} {x : Option Nat} {σ : Va.Env}
theorem VO.lt (h : VO w b x σ) : ∀ k, VF b x k → k < w.heap.size := by
  rintro k (rfl | hk)
  · exact h.c.lt
  · exact (Array.getElem?_eq_some_iff.1 (h.m k hk).2).1
theorem VO.keep (h : VO w b x σ) (hk : ∀ k, VF b x k → w'.heap[k]? = w.heap[k]?) : VO w' b x σ where
  c := h.c.same (hk b (.inl rfl))
  m := fun m hm => ⟨(h.m m hm).1, (hk m (.inr hm)).trans (h.m m hm).2⟩
  z := h.z
  nm := h.nm
  len := h.len
theorem VO.below (h : VO w b x σ) (hb : Below w.heap.size w w') : VO w' b x σ := h.keep fun k hk => hb.block k (h.lt k hk)
/-- Past what turned elsewhere. -/
theorem VO.past (h : VO w b x σ) {F : Nat → Prop} (ht : Trn F w w') (hF : Ft (VF b x) F) : VO w' b x σ := h.keep fun k hk => ht.block k (h.lt k hk) (hF k hk)
theorem VO.new (w : World) : VO (w.alloc (.cells #[.map none] 48)) w.heap.size none [] where
  c := Box.new w _ _
  m := fun m hm => by cases hm
  z := fun _ => rfl
  nm := fun p hp => by cases hp
  len := by simp
theorem VO.look (h : VO w b x σ) (n : List UInt8) (hn : n.length ≤ 16777216) :
    (Instr.lookup 46 (.map x) (.string ⟨n.toArray⟩) true).run Tryd.prog w = .ok (.tuple #[.agg #[.string ⟨((Va.look σ n).getD []).toArray⟩], .bool (Va.look σ n).isSome]) w := by
  cases x with
  | none =>
    rw [h.z rfl]
    exact look_none w n hn
  | some m => exact look_ents (h.m m rfl).2 n hn
theorem VO.lenM (h : VO w b x σ) (t : TypeId) : (Builtin.len_ #[46] t #[.map x]).run Tryd.prog w = .ok (.int .i64 (σ.length : Int)) w := by
  cases x with
  | none =>
    rw [h.z rfl]
    exact run_len_nilMap w 46 t Tryd.underlying46
  | some m =>
    have := run_len_map w 46 t m _ _ Tryd.underlying46 (h.m m rfl).2
    rw [ents_size] at this
    exact this
theorem VO.val (h : VO w b x σ) (n : List UInt8) : ((Va.look σ n).getD []).length ≤ 1000 := by
  have key : ∀ σ : Va.Env, (∀ p ∈ σ, p.2.length ≤ 1000) → ((Va.look σ n).getD []).length ≤ 1000 := fun σ => by
    induction σ with
    | nil => intro _; exact Nat.zero_le _
    | cons p σ ih =>
      obtain ⟨y, v⟩ := p
      intro hp
      rw [Va.look]
      by_cases e : y = n
      · rw [if_pos e]; exact hp _ (List.mem_cons_self ..)
      · rw [if_neg e]; exact ih (fun q hq => hp q (List.mem_cons_of_mem _ hq))
  exact key σ (fun p hp => (h.nm p hp).2)
end

set_option maxHeartbeats 1000000 in
theorem vnew_any (w : World) : Calls Tryd.prog 9 #[] w fun e w' => e = .returned (.pointer (some ⟨w.heap.size, 0, none⟩)) ∧ VO w' w.heap.size none [] ∧ Below w.heap.size w w' := by
  have h1 := VO.new w
  have h2 := (Below.refl w.heap.size w).alloc (Nat.le_refl _) (.cells #[.map none] 48)
  have H1 := Lib.hid h1
  have H2 := Lib.hid h2
  clear h1 h2
  go_enter Tryd.func9, Tryd.ntmps9
  go_wp2
  go_ret
  exact ⟨rfl, H1.out, H2.out⟩

set_option maxHeartbeats 1000000 in
theorem vlen_any {w : World} {b : Nat} {x : Option Nat} {σ : Va.Env} (h : VO w b x σ) : Calls Tryd.prog 21 #[.pointer (some ⟨b, 0, none⟩)] w fun e w' => e = .returned (.int .i64 (σ.length : Int)) ∧ w = w' := by
  have c1 := h.c.cell
  have hl := h.lenM
  clear h
  go_enter Tryd.func21, Tryd.ntmps21
  go_wp2
  go_ret
  exact ⟨rfl, rfl⟩

set_option maxHeartbeats 1000000 in
theorem vget_any {w : World} {b : Nat} {x : Option Nat} {σ : Va.Env} (h : VO w b x σ) (n : List UInt8) (hn : n.length ≤ 16777216) :
    Calls Tryd.prog 16 #[.pointer (some ⟨b, 0, none⟩), .string ⟨n.toArray⟩] w fun e w' => e = .returned (.tuple #[sv ((Va.look σ n).getD []), .bool (Va.look σ n).isSome]) ∧ Below w.heap.size w w' := by
  have c1 := h.c.cell
  have hl := h.look n hn
  unfold sv
  generalize (Va.look σ n).getD [] = u at hl ⊢
  generalize (Va.look σ n).isSome = o at hl ⊢
  clear h
  go_enter Tryd.func16, Tryd.ntmps16
  go_wp2
  go_ret2
  exact ⟨rfl, (Below.refl _ _).alloc (Nat.le_refl _) _⟩

set_option maxHeartbeats 1000000 in
theorem mclone_some {w : World} {m : Nat} {σ : Va.Env} (h : w.heap[m]? = some (.map (ents σ) σ.length)) :
    Calls Tryd.prog 27 #[.map (some m)] w fun e w' => e = .returned (.map (some w.heap.size)) ∧ w' = w.alloc (.map (ents σ) σ.length) := by
  have hq := fun w => run_eql_map_nil_sl (P := Tryd.prog) w 46 _ _ (some m) Tryd.underlying46
  go_enter Tryd.func27, Tryd.ntmps27
  go_wp2
  rw [run_callFunc_extern Tryd.func32 (by kernel_rfl) (by kernel_rfl) (by kernel_rfl) (e := Extern.MapsClone.clone) (by kernel_rfl), run_maps_clone_sl w 46 h]
  simp only [Result.andThen]
  rw [Oper.upon_value]
  go_wp2
  rw [run_typeAssert_map_sl _ 46 20 _ _ _ Tryd.underlying46]
  simp only [Result.andThen]
  rw [Oper.upon_value]
  go_wp2
  go_ret
  exact ⟨rfl, rfl⟩
set_option maxHeartbeats 1000000 in
theorem mclone_none (w : World) :
    Calls Tryd.prog 27 #[.map none] w fun e w' => e = .returned (.map none) ∧ w' = w := by
  have hq := fun w => run_eql_map_nil_sl (P := Tryd.prog) w 46 _ _ none Tryd.underlying46
  go_enter Tryd.func27, Tryd.ntmps27
  go_wp2
  go_ret
  exact ⟨rfl, rfl⟩

set_option maxHeartbeats 1000000 in
/-- A clone has what the one has, in blocks of its own. -/
theorem vclone_any {w : World} {b : Nat} {x : Option Nat} {σ : Va.Env} (h : VO w b x σ) : Calls Tryd.prog 20 #[.pointer (some ⟨b, 0, none⟩)] w fun e w' =>
    ∃ b' x', e = .returned (.pointer (some ⟨b', 0, none⟩)) ∧ VO w' b' x' σ ∧ Below w.heap.size w w' ∧ ∀ k, VF b' x' k → w.heap.size ≤ k := by
  have c1 := h.c.cell
  have HH := Lib.hid h
  cases x with
  | none =>
    obtain rfl := h.z rfl
    have hc := mclone_none w
    clear h
    go_enter Tryd.func20, Tryd.ntmps20
    go_wp2_with (go_at_call 27; refine hc.mono ?_; rintro e w' ⟨rfl, hw⟩; rw [hw])
    go_ret
    refine ⟨_, _, rfl, VO.new w, (Below.refl _ _).alloc (Nat.le_refl _) _, ?_⟩
    rintro k (rfl | hk)
    · exact Nat.le_refl _
    · cases hk
  | some m =>
    have hc := mclone_some (h.m m rfl).2
    have hB : Below w.heap.size w ((w.alloc (.map (ents σ) σ.length)).alloc (.cells #[.map (some w.heap.size)] 48)) := ((Below.refl _ _).alloc (Nat.le_refl _) _).alloc (by simp) _
    have hn : VO ((w.alloc (.map (ents σ) σ.length)).alloc (.cells #[.map (some w.heap.size)] 48)) (w.heap.size + 1) (some w.heap.size) σ := {
      c := by
        have := Box.new (w.alloc (.map (ents σ) σ.length)) 48 (.map (some w.heap.size))
        rwa [World.size_alloc] at this
      m := fun m hm => by
        cases hm
        exact ⟨by omega, (Below.heap_alloc _ _ _ (by simp)).trans (heap_alloc_new w _)⟩
      z := fun e => by cases e
      nm := h.nm
      len := h.len }
    have HB := Lib.hid hB
    have HN := Lib.hid hn
    clear h hB hn
    go_enter Tryd.func20, Tryd.ntmps20
    go_wp2_with (go_at_call 27; refine hc.mono ?_; rintro e w' ⟨rfl, hw⟩; rw [hw])
    go_ret
    refine ⟨_, _, rfl, HN.out, HB.out, ?_⟩
    rintro k (rfl | hk)
    · omega
    · cases hk
      exact Nat.le_refl _
end Go.Proofs.YtkpahkcamgmlnaaDoor
