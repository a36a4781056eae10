/- Bytes: made, appended, turned into texts (the program must have []uint8). -/
import Derived.Test.YtimieknphedniaaRd
import Derived.Laws.AppendOwnNone
import Derived.Laws.IdiomStrings
namespace Go.Proofs.Ytimieknphedniaa
open Go.RowKit

theorem info_u8 : (Try.prog.info? 5).map (fun i => (i.zero, i.size, i.bytes)) = some (some (.int .u8 0), 1, 1) := by kernel_rfl

/-- 'make([]byte, 0, c)'. -/
theorem make_u8s (w : World) (c : Nat) (hc : c ≤ 16777216) : ∃ w', (Instr.makeSlice 38 (.int .i64 0) (.int .i64 (c : Int))).run Try.prog w = .ok (.slice (some ⟨w.heap.size, 0, Option.none⟩) 0 c) w' ∧
    w'.ownsRow w.heap.size 5 1 (.slice (some ⟨w.heap.size, 0, Option.none⟩) 0 c) 0 [] ∧ Below w.heap.size w w' := by
  obtain ⟨i0, hi, hz0, hz1, hz2⟩ := info_parts info_u8
  obtain ⟨w', h1, h2, h3⟩ := run_make_own (P := Try.prog) w w.heap.size 38 5 i0 (.int .u8 0) 1 Try.underlying38 hi hz0 hz1 .i64 .i64 c (by rw [hz2]; omega) (by unfold maxLen; omega) (Nat.le_refl _)
  exact ⟨w', h1, h2, (Below.refl _ _).grown h3 (Nat.le_refl _) (fun k hk => by cases hk)⟩

/-- 'append(xs, ys...)' on a row of bytes that the call owns, ys whatever slice. -/
theorem append_u8s {ops : Array Oper} {rest : List Oper} {o : Oper} {a : Act} {Q : Exit → Act → World → Prop} {w : World} {B n : Nat} {v : Value} {xs : List Value}
    (hgd : o.guard = none) (s x : Operand) (ho : o.op = .call { callee := .builtin .append, args := #[s, x], argTypes := #[38, 38] })
    (hs : a.eval s = v) (hown : w.ownsRow B 5 1 v n xs) (ys : List Value) (hx : Rd w (a.eval x) ys)
    (h1 : ∀ u ∈ ys, u.oneCell' = true) (hn : n + ys.length ≤ 16777216) (hB : B ≤ w.heap.size)
    (h : ∀ v' w', w'.ownsRow B 5 1 v' (n + ys.length) (xs ++ ys) → w.grownBy w' v.ownBlock → wpList Try.prog ops Q rest (a.put o.dst v') w') : wpList Try.prog ops Q (o :: rest) a w := by
  obtain ⟨i0, hi, hz0, hz1, hz2⟩ := info_parts info_u8
  rcases hx with ⟨rfl, ao, cap, ha, hx⟩ | ⟨b, off, cap, hx, g1, g2, g3⟩
  · cases ao with
    | none =>
      obtain rfl := ha rfl
      have h2 := h v w (by simpa using hown) ⟨rfl, rfl, rfl, Nat.le_refl _, fun _ _ _ => rfl⟩
      exact wpList_append_own_none hgd s x 38 ho B 5 i0 1 Try.underlying38 hi v n xs hs hown hx h2
    | some ad =>
      refine wpList_append_own _ hgd s x 38 ho B 5 i0 (.int .u8 0) 1 1 Try.underlying38 hi hz0 hz1 hz2 rfl (by decide) v n xs hs hown ad 0 cap [] hx rfl (fun j u hj => by simp at hj) (fun u hu => by simp at hu) ?_ ?_ hB (fun v' w' h2 h3 _ => h v' w' h2 h3)
      · simp at hn; unfold maxLen; omega
      · simp at hn; omega
  · refine wpList_append_own _ hgd s x 38 ho B 5 i0 (.int .u8 0) 1 1 Try.underlying38 hi hz0 hz1 hz2 rfl (by decide) v n xs hs hown ⟨b, off, none⟩ ys.length cap ys hx (by simp) (fun j u hj => by rw [Addr.add_lit]; exact g3 j u hj) h1 ?_ ?_ hB (fun v' w' h2 h3 _ => h v' w' h2 h3)
    · unfold maxLen; omega
    · omega

/-- 'string(b)' of bytes that are read. -/
theorem bytes_string {w : World} {v : Value} {l : List UInt8} (h : Rd w v (l.map bv)) : (convert 38 9 v).run Try.prog w = .ok (sv l) w := by
  rcases h with ⟨e, ao, cap, ha, rfl⟩ | ⟨b, o, cap, rfl, g1, g2, g3⟩
  · have : l = [] := by simpa using e
    subst this
    cases ao with
    | none =>
      obtain rfl := ha rfl
      rw [run_convert_bytes_string w 38 9 5 none 0 0 Try.underlying38 Try.underlying5 Try.underlying9]
      rfl
    | some a => exact run_convert_bytes_back (P := Try.prog) w 38 9 5 a cap [] Try.underlying38 Try.underlying5 Try.underlying9 (fun j hj => by cases hj)
  · have := run_convert_bytes_back (P := Try.prog) w 38 9 5 ⟨b, o, none⟩ cap l Try.underlying38 Try.underlying5 Try.underlying9 (fun j hj => by
      rw [Addr.add_lit]
      exact g3 j _ (by rw [List.getElem?_map, List.getElem?_eq_getElem hj]; rfl))
    rw [List.length_map]
    exact this

end Go.Proofs.Ytimieknphedniaa
