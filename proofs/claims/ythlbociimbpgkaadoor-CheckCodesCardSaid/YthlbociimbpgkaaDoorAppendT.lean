/- 'append(b, s...)' of a text; the form of a slice that is read. -/
import Derived.Test.YthlbociimbpgkaaDoorPJ
import Derived.Lib.AppendStr
namespace Go.Proofs.YthlbociimbpgkaaDoor
open Go.RowKit

/-- 'append(b, s...)' on a row of bytes that the call owns, s a text. -/
theorem append_text {ops : Array Oper} {rest : List Oper} {o : Oper} {a : Act} {Q : Exit → Act → World → Prop} {w : World} {B n : Nat} {v : Value} {xs : List Value}
    (hgd : o.guard = none) (s x : Operand) (ho : o.op = .call { callee := .builtin .append, args := #[s, x], argTypes := #[103, 9] })
    (hs : a.eval s = v) (hown : w.ownsRow B 5 1 v n xs) (t : ByteArray) (hx : a.eval x = .string t)
    (hn : n + t.size ≤ 16777216) (hB : B ≤ w.heap.size)
    (h : ∀ v' w', w'.ownsRow B 5 1 v' (n + t.size) (xs ++ t.data.toList.map bv) → w.grownBy w' v.ownBlock → wpList Tryd.prog ops Q rest (a.put o.dst v') w') : wpList Tryd.prog ops Q (o :: rest) a w := by
  obtain ⟨i0, hi, hz0, hz1, hz2⟩ := info_parts info_u8
  exact Lib.wpList_append_own_string w hgd s x 103 9 ho B 5 i0 Tryd.underlying103 Tryd.underlying9 hi hz0 hz1 hz2 v n xs hs hown t hx (by unfold maxLen; omega) (by omega) hB (fun v' w' h1 h2 _ => h v' w' h1 h2)

/-- 'append(b, s...)' on a row of bytes that the call owns, s a text: where the new one lies. -/
theorem append_text_at {ops : Array Oper} {rest : List Oper} {o : Oper} {a : Act} {Q : Exit → Act → World → Prop} {w : World} {B n : Nat} {v : Value} {xs : List Value}
    (hgd : o.guard = none) (s x : Operand) (ho : o.op = .call { callee := .builtin .append, args := #[s, x], argTypes := #[103, 9] })
    (hs : a.eval s = v) (hown : w.ownsRow B 5 1 v n xs) (t : ByteArray) (hx : a.eval x = .string t)
    (hn : n + t.size ≤ 16777216) (hB : B ≤ w.heap.size)
    (h : ∀ v' w', w'.ownsRow B 5 1 v' (n + t.size) (xs ++ t.data.toList.map bv) → w.grownBy w' v.ownBlock → (v'.ownBlock = v.ownBlock ∨ v'.ownBlock = some w.heap.size) → wpList Tryd.prog ops Q rest (a.put o.dst v') w') : wpList Tryd.prog ops Q (o :: rest) a w := by
  obtain ⟨i0, hi, hz0, hz1, hz2⟩ := info_parts info_u8
  refine wpList_plain hgd fun K hK => ?_
  obtain ⟨v', w', hr, h2, h3, h4⟩ := Lib.run_append_own_string (P := Tryd.prog) w B 103 9 o.type 5 i0 Tryd.underlying103 Tryd.underlying9 hi hz0 hz1 hz2 v n xs hown t (by unfold maxLen; omega) (by omega) hB
  have hlies : v'.ownBlock = v.ownBlock ∨ v'.ownBlock = some w.heap.size := by
    have hxl : xs.length = n := by simpa using hown.1
    rcases hown.2 with ⟨rfl, rfl⟩ | ⟨g, cap, cur, rfl, hbg, hg, hnc, hcm, hcs, htake⟩
    · by_cases hm : t.size = 0
      · exact .inl (by rw [h4.2 ⟨rfl, hm⟩])
      · have hr2 := run_append_nil_string (P := Tryd.prog) w 103 9 o.type 5 i0 (.int .u8 0) Tryd.underlying103 Tryd.underlying9 hi hz0 t (by omega) (by omega) (by rw [hz2]; omega)
        rw [hr2] at hr
        simp only [Result.ok.injEq] at hr
        rw [← hr.1]
        exact .inr rfl
    · by_cases hroom : n + t.size ≤ cap
      · have hr2 := Lib.run_append_room_string (P := Tryd.prog) w 103 9 o.type 5 i0 Tryd.underlying103 Tryd.underlying9 hi hz1 g n cap cur hg t hroom (by omega)
        rw [hr2] at hr
        simp only [Result.ok.injEq] at hr
        rw [← hr.1]
        exact .inl rfl
      · have holds : ∀ j u, xs[j]? = some u → w.cell? ((⟨g, 0, none⟩ : Addr).add j) = some u := hown.cells (g := g) rfl
        have hr2 := Lib.run_append_grow_string (P := Tryd.prog) w 103 9 o.type 5 i0 (.int .u8 0) Tryd.underlying103 Tryd.underlying9 hi hz0 ⟨g, 0, none⟩ n cap xs (by rw [hz1]; simpa using hxl) holds t (by omega) (by omega) (by rw [hz2]; exact growslice_fits (by omega) (by omega))
        rw [hr2] at hr
        simp only [Result.ok.injEq] at hr
        rw [← hr.1]
        exact .inr rfl
  unfold Oper.wp execOp
  simp only [ho, resolve, invoke, builtin, Sem.run_bind, Sem.run_pure, Result.andThen_ok, List.map_toArray, List.map_cons, List.map_nil, hs, hx, hr]
  exact hK _ _ (h v' w' h2 h3 hlies)

/-- The form of a slice that is read, of whatever cells. -/
theorem Rd.formA {w : World} {v : Value} {vs : List Value} (h : Rd w v vs) : ∃ ao cap, v = .slice ao vs.length cap ∧ vs.length ≤ cap ∧ (0 < vs.length → ∃ b o, ao = some ⟨b, o, none⟩ ∧ cap ≤ maxLen ∧ ∀ j u, vs[j]? = some u → w.cell? ⟨b, o + j, none⟩ = some u) := by
  rcases h with ⟨rfl, ao, cap, _, h⟩ | ⟨b, o, cap, h, h1, h2, h3⟩
  · exact ⟨ao, cap, h, Nat.zero_le _, fun h => by cases h⟩
  · exact ⟨some ⟨b, o, none⟩, cap, h, h1, fun _ => ⟨b, o, rfl, h2, h3⟩⟩

end Go.Proofs.YthlbociimbpgkaaDoor
