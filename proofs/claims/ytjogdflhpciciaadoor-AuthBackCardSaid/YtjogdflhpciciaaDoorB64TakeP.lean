/- What b64.Take says of letters that stand for bytes, and of others. -/
import Derived.Test.YtjogdflhpciciaaDoorB64Take
namespace Go.Proofs.YtjogdflhpciciaaDoor
open Go.RowKit

/-- What letters that stand for bytes are taken to. -/
theorem take_put (s : ByteArray) (b : List UInt8) (w : World) (hs : s.size ≤ 1048576) (h : s.data.toList = B64.put b) :
    Calls Tryd.prog 19 #[.string s] w fun e w' => ∃ v, e = .returned (.tuple #[v, .bool true]) ∧ Rd w' v (b.map bv) ∧ Below w.heap.size w w' := by
  refine (take_any s w hs).mono ?_
  rintro e w' (⟨b', v, h1, rfl, h2, h3⟩ | ⟨h1, _⟩)
  · obtain rfl := B64.put_inj _ _ (h1.trans h)
    exact ⟨v, rfl, Rd.of_own h2, h3⟩
  · exact absurd h.symm (h1 b)

theorem take_no (s : ByteArray) (w : World) (hs : s.size ≤ 1048576) (h : ∀ b, B64.put b ≠ s.data.toList) :
    Calls Tryd.prog 19 #[.string s] w fun e w' => e = .returned (.tuple #[.slice none 0 0, .bool false]) ∧ Below w.heap.size w w' := by
  refine (take_any s w hs).mono ?_
  rintro e w' (⟨b', v, h1, _⟩ | ⟨_, rfl, h3⟩)
  · exact absurd h1 (h b')
  · exact ⟨rfl, h3⟩

theorem no_len {l : List UInt8} (h : l.length % 4 ≠ 0) : ∀ b, B64.put b ≠ l := by
  intro b hb
  rw [← hb, B64.put_len] at h
  omega
end Go.Proofs.YtjogdflhpciciaaDoor
