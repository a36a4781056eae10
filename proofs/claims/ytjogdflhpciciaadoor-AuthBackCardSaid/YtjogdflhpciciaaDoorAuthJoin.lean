/- 'append(b, s...)' of a text, and auth.joined, walked. -/
import Derived.Test.YtjogdflhpciciaaDoorRdB
import Derived.Test.YtjogdflhpciciaaDoorRdStr
import Derived.Lib.AppendStr
namespace Go.Proofs.YtjogdflhpciciaaDoor
open Go.RowKit

/-- 'append(b, s...)' on a row of bytes that the call owns, s a text. -/
theorem append_text {ops : Array Oper} {rest : List Oper} {o : Oper} {a : Act} {Q : Exit → Act → World → Prop} {w : World} {B n : Nat} {v : Value} {xs : List Value}
    (hgd : o.guard = none) (s x : Operand) (ho : o.op = .call { callee := .builtin .append, args := #[s, x], argTypes := #[29, 9] })
    (hs : a.eval s = v) (hown : w.ownsRow B 5 1 v n xs) (t : ByteArray) (hx : a.eval x = .string t)
    (hn : n + t.size ≤ 16777216) (hB : B ≤ w.heap.size)
    (h : ∀ v' w', w'.ownsRow B 5 1 v' (n + t.size) (xs ++ t.data.toList.map bv) → w.grownBy w' v.ownBlock → wpList Tryd.prog ops Q rest (a.put o.dst v') w') : wpList Tryd.prog ops Q (o :: rest) a w := by
  obtain ⟨i0, hi, hz0, hz1, hz2⟩ := info_parts info_u8
  exact Lib.wpList_append_own_string w hgd s x 29 9 ho B 5 i0 Tryd.underlying29 Tryd.underlying9 hi hz0 hz1 hz2 v n xs hs hown t hx (by unfold maxLen; omega) (by omega) hB (fun v' w' h1 h2 _ => h v' w' h1 h2)

/-- The form of a slice that is read, of whatever cells. -/
theorem Rd.formV {w : World} {v : Value} {vs : List Value} (h : Rd w v vs) : ∃ ao cap, v = .slice ao vs.length cap ∧ vs.length ≤ cap ∧ (0 < vs.length → ∃ b o, ao = some ⟨b, o, none⟩ ∧ cap ≤ maxLen ∧ ∀ j u, vs[j]? = some u → w.cell? ⟨b, o + j, none⟩ = some u) := by
  rcases h with ⟨rfl, ao, cap, _, h⟩ | ⟨b, o, cap, h, h1, h2, h3⟩
  · exact ⟨ao, cap, h, Nat.zero_le _, fun h => by cases h⟩
  · exact ⟨some ⟨b, o, none⟩, cap, h, h1, fun _ => ⟨b, o, rfl, h2, h3⟩⟩

/-- The bytes of texts, one behind the other. -/
def glue (ts : List ByteArray) : List UInt8 := (ts.map fun t => t.data.toList).flatten
theorem glue_succ {ts : List ByteArray} {k : Nat} {t : ByteArray} (h : ts[k]? = some t) : glue (ts.take (k + 1)) = glue (ts.take k) ++ t.data.toList := by
  rw [glue, List.take_add_one, h, List.map_append, List.flatten_append]
  simp [glue]
theorem glue_few (ts : List ByteArray) (k : Nat) : (glue (ts.take k)).length ≤ (glue ts).length := by
  conv => rhs; rw [← List.take_append_drop k ts, glue, List.map_append, List.flatten_append, List.length_append]
  exact Nat.le_add_right _ _

/-- What holds at the head of a round of joined. -/
structure JR (w wr : World) (ts : List ByteArray) (k : Nat) (v : Value) : Prop where
  own : wr.ownsRow w.heap.size 5 1 v (glue (ts.take k)).length ((glue (ts.take k)).map bv)
  below : Below w.heap.size w wr
theorem JR.next {w wr w' : World} {ts : List ByteArray} {k : Nat} {v v' : Value} {t : ByteArray} (h : JR w wr ts k v) (ht : ts[k]? = some t)
    (ho : w'.ownsRow w.heap.size 5 1 v' ((glue (ts.take k)).length + t.size) ((glue (ts.take k)).map bv ++ t.data.toList.map bv)) (hg : wr.grownBy w' v.ownBlock) : JR w w' ts (k + 1) v' := by
  refine ⟨?_, h.below.grown hg h.below.size (fun j hj => (h.own.lt j hj).1)⟩
  rw [glue_succ ht, List.length_append, List.map_append, ← Lib.size_eq]
  exact ho

theorem joined_any (v : Value) (ts : List ByteArray) (w : World) (h : Rd w v (ts.map Value.string)) (hs : (glue ts).length ≤ 1048576) (hn : ts.length ≤ 1048576) :
    Calls Tryd.prog 22 #[v] w fun e w' => ∃ v', e = .returned v' ∧ Rd w' v' ((glue ts).map bv) ∧ Below w.heap.size w w' := by
  obtain ⟨ao, cap, rfl, hcap, hc⟩ := h.formV
  rw [List.length_map] at hcap hc ⊢
  obtain ⟨n, hN⟩ : ∃ n, n = ts.length := ⟨_, rfl⟩
  rw [← hN] at hcap hc hn ⊢
  have HN := Lib.hid hN
  have HS := Lib.hid hs
  have HC := Lib.hid hc
  have hst : JR w w ts 0 (.slice none 0 0) := ⟨World.ownsRow_nil _ _ _ _, Below.refl _ _⟩
  clear hN hs hc h
  go_enter Tryd.func22, Tryd.ntmps22
  go_wp2
  go_loopw [3, 8] (fun o i wr => ∃ k : Nat, k ≤ n ∧ i = .int .i64 k ∧ JR w wr ts k o) (fun _ i _ => n - (intOf i).toNat)
  case atStart => exact ⟨0, Nat.zero_le _, rfl, hst⟩
  case round =>
    obtain ⟨k, hk, rfl, hR⟩ := hrel
    by_cases hlt : k < n
    · obtain ⟨b, o, rfl, hm, hcell⟩ := HC.out (by omega)
      unfold maxLen at hm
      obtain ⟨t, ht⟩ : ∃ t, ts[k]? = some t := ⟨ts[k]'(by rw [← HN.out]; exact hlt), List.getElem?_eq_getElem _⟩
      have hce : wr.cell? ⟨b, o + k, none⟩ = some (.string t) := by
        have := hcell k (.string t) (by rw [List.getElem?_map, ht]; rfl)
        exact (hR.below.cell (World.block_lt_of_cell? w _ this)).trans this
      have hfew := glue_few ts (k + 1)
      rw [glue_succ ht, List.length_append, ← Lib.size_eq] at hfew
      have hfew2 := HS.out
      have HT := Lib.hid ht
      have hown := hR.own
      have hbs := hR.below.size
      have HR := Lib.hid hR
      clear ht hcell hR
      go_wp2_with (at_builtin; refine append_text rfl (.tmp 12) (.tmp 13) rfl rfl hown t rfl ?ca hbs ?_)
      case ca => omega
      intro v' w' hown' hg'
      have RS := HR.out.next HT.out hown' hg'
      clear hown' hg' hown hbs hce
      go_wp2
      go_roundw
      case rel => exact ⟨k + 1, by omega, by go_num, RS⟩
      case measure => simp [intOf]; omega
    · obtain rfl : k = n := by omega
      have hrd := Rd.of_own hR.own
      rw [HN.out, List.take_length] at hrd
      have hb := hR.below
      clear hR
      go_wp2
      go_ret
      exact ⟨_, rfl, hrd, hb⟩
end Go.Proofs.YtjogdflhpciciaaDoor
