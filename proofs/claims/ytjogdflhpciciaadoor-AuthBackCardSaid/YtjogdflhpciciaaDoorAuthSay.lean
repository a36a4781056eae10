/- auth.Plain, auth.Login walked. -/
import Derived.Test.YtjogdflhpciciaaDoorAuthJoin
import Derived.Test.YtjogdflhpciciaaDoorAuth
import Derived.Test.YtjogdflhpciciaaDoorB64Put
namespace Go.Proofs.YtjogdflhpciciaaDoor
open Go.RowKit

/-- Texts in a new block. -/
theorem Rd.texts (w : World) (ts : List ByteArray) (t : TypeId) (fr : Nat × Nat) (n : Nat) (hn : n = ts.length) (hl : n ≤ 1000) : Rd (w.alloc (.cells (ts.map Value.string).toArray t fr)) (.slice (some ⟨w.heap.size, 0, none⟩) n n) (ts.map Value.string) := by
  refine .inr ⟨_, 0, n, by rw [List.length_map, hn], by rw [List.length_map]; omega, by unfold maxLen; omega, fun j u hj => ?_⟩
  rw [cell_of_row _ _ _ _ _ _ (heap_alloc_new w _), Nat.zero_add]
  simpa using hj

theorem login_any (s : ByteArray) (w : World) (hs : s.size ≤ 100000) :
    Calls Tryd.prog 15 #[.string s] w fun e w' => e = .returned (sv (B64.put s.data.toList)) ∧ Below w.heap.size w w' := by
  have hg : glue [s] = s.data.toList := by simp [glue]
  have hl : (glue [s]).length ≤ 1048576 := by rw [hg, ← Lib.size_eq]; omega
  have hb1 : Below w.heap.size w (w.alloc (.cells #[.string s] 9)) := (Below.refl _ _).alloc (Nat.le_refl _) _
  have hr1 : Rd (w.alloc (.cells #[.string s] 9)) (.slice (some ⟨w.heap.size, 0, none⟩) 1 1) ([s].map Value.string) := Rd.texts w [s] _ _ 1 rfl (by decide)
  have HG := Lib.hid hg
  have HL := Lib.hid hl
  have HB1 := Lib.hid hb1
  have HR1 := Lib.hid hr1
  clear hg hl hb1 hr1
  go_enter Tryd.func15, Tryd.ntmps15
  go_wp2_with fail
  refine (joined_any _ [s] _ HR1.out HL.out (by simp)).mono ?_
  rintro e w2 ⟨v2, rfl, hr2, hb2⟩
  have c2 := HB1.out.trans (hb2.mono HB1.out.size)
  rw [HG.out] at hr2
  clear hb2 HB1 HR1
  go_wp2_with fail
  refine (putb_any v2 s.data.toList w2 hr2 (by rw [← Lib.size_eq]; omega)).mono ?_
  rintro e w3 ⟨rfl, hb3⟩
  have c3 := c2.trans (hb3.mono c2.size)
  clear hb3 c2 hr2
  go_wp2
  go_ret
  exact ⟨rfl, c3⟩

theorem plain_any (a b : ByteArray) (w : World) (ha : a.size ≤ 100000) (hb : b.size ≤ 100000) :
    Calls Tryd.prog 13 #[.string a, .string b] w fun e w' => e = .returned (sv (B64.put (Au.plain a.data.toList b.data.toList))) ∧ Below w.heap.size w w' := by
  have hg : glue [⟨#[0]⟩, a, ⟨#[0]⟩, b] = Au.plain a.data.toList b.data.toList := by simp [glue, Au.plain]
  have hl : (Au.plain a.data.toList b.data.toList).length ≤ 1048576 := by
    rw [Au.plain, List.cons_append, List.length_cons, List.length_append, List.length_cons, ← Lib.size_eq, ← Lib.size_eq]
    omega
  have hb1 : Below w.heap.size w (w.alloc (.cells #[.string ⟨#[0]⟩, .string a, .string ⟨#[0]⟩, .string b] 9)) := (Below.refl _ _).alloc (Nat.le_refl _) _
  have hr1 : Rd (w.alloc (.cells #[.string ⟨#[0]⟩, .string a, .string ⟨#[0]⟩, .string b] 9)) (.slice (some ⟨w.heap.size, 0, none⟩) 4 4) ([⟨#[0]⟩, a, ⟨#[0]⟩, b].map Value.string) := Rd.texts w [⟨#[0]⟩, a, ⟨#[0]⟩, b] _ _ 4 rfl (by decide)
  have HG := Lib.hid hg
  have HL := Lib.hid hl
  have HB1 := Lib.hid hb1
  have HR1 := Lib.hid hr1
  clear hg hl hb1 hr1
  go_enter Tryd.func13, Tryd.ntmps13
  go_wp2_with fail
  refine (joined_any _ [⟨#[0]⟩, a, ⟨#[0]⟩, b] _ HR1.out (by rw [HG.out]; exact HL.out) (by simp)).mono ?_
  rintro e w2 ⟨v2, rfl, hr2, hb2⟩
  have c2 := HB1.out.trans (hb2.mono HB1.out.size)
  rw [HG.out] at hr2
  clear hb2 HB1 HR1
  go_wp2_with fail
  refine (putb_any v2 _ w2 hr2 HL.out).mono ?_
  rintro e w3 ⟨rfl, hb3⟩
  have c3 := c2.trans (hb3.mono c2.size)
  clear hb3 c2 hr2
  go_wp2
  go_ret
  exact ⟨rfl, c3⟩
end Go.Proofs.YtjogdflhpciciaaDoor
