/- The small functions of the laws of layer 11, walked: the document's example. -/
import Derived.Test.YtnodngcfjdghcaaDoorMkLineAny
namespace Go.Proofs.YtnodngcfjdghcaaDoor
open Go.RowKit

/-- A told row, one by one. -/
theorem rd_at {w : World} {lo : Option Addr} {n lc : Nat} {vs : List Value} (h : Rd w (.slice lo n lc) vs) (hn : 0 < n) : ∃ b o, lo = some ⟨b, o, none⟩ ∧ n ≤ lc ∧ lc ≤ maxLen ∧ ∀ j u, vs[j]? = some u → w.cell? ⟨b, o + j, none⟩ = some u := by
  rcases h with ⟨_, ao, cap, _, e⟩ | ⟨b, o, cap, e, h1, h2, h3⟩
  · simp only [Value.slice.injEq] at e
    omega
  · simp only [Value.slice.injEq] at e
    obtain ⟨rfl, rfl, rfl⟩ := e
    exact ⟨b, o, rfl, h1, h2, h3⟩
theorem smtp_begin {a b c : UInt8} (ha : Ln.first a = true) (hb : Ln.digit b = true) (hc : Ln.digit c = true) (t : List UInt8) (body : Bool) : Rp.step 1 none ([a, b, c] ++ 45 :: t) body = .inl ⟨[a, b, c], [t], none⟩ := Rp.first_more ha hb hc (.inl rfl) t body
theorem smtp_end {a b c : UInt8} (ha : Ln.first a = true) (hb : Ln.digit b = true) (hc : Ln.digit c = true) (ls : List (List UInt8)) (hl : ls.length < 20) (t : List UInt8) (body : Bool) : Rp.step 1 (some ⟨[a, b, c], ls, none⟩) ([a, b, c] ++ 32 :: t) body = .inr (.inl ⟨[a, b, c], ls ++ [t], []⟩) := by
  show Rp.next 1 ⟨[a, b, c], ls, none⟩ ([a, b, c] ++ 32 :: t) = _
  rw [Rp.smtp_last ha hb hc, if_neg (by omega)]

set_option maxHeartbeats 4000000 in
theorem shown_any (w : World) : Calls Tryd.prog 9 #[] w fun e w' => e = .returned (.bool true) ∧ Below w.heap.size w w' := by
  have CN := Lib.hid (fun (w1 : World) (h : Below w.heap.size w w1) => ML.new h 1)
  have CL := Lib.hid (fun (w1 : World) (g : Nat) (F : Nat → Prop) (st : Option Rp.Mid) (h : ML w g F 1 st w1) (s : List UInt8) (hs : s.length ≤ 1000000) => h.line s hs false)
  go_enter Tryd.func9, Tryd.ntmps9
  go_wp2_with fail
  refine (CN.out w (Below.refl _ _)).mono ?_
  rintro e w1 ⟨rfl, hM, hb1⟩
  generalize w.heap.size = g at hM ⊢
  clear CN
  have C1 := CL.out _ _ _ _ hM [50, 53, 48, 45, 97] (by decide)
  rw [show Rp.step 1 none [50, 53, 48, 45, 97] false = .inl ⟨[50, 53, 48], [[97]], none⟩ from smtp_begin (a := 50) (b := 53) (c := 48) (by decide) (by decide) (by decide) [97] false] at C1
  have C1 := Lib.hid C1
  clear hM hb1
  go_wp2_with fail
  refine C1.out.mono ?_
  rintro e w2 ⟨F2, lo, lc, bo, bc, rfl, hM2, hT2, hX2, _, _⟩
  have hM2 : ML w g F2 1 (some ⟨[50, 53, 48], [[97]], none⟩) w2 := hM2
  have hM3 := hM2.next ((Below.refl w2.heap.size w2).alloc (Nat.le_refl _) (.cells #[.string ⟨#[]⟩, .slice lo 0 lc, .slice bo 0 bc] 30))
  have C2 := CL.out _ _ _ _ hM3 [50, 53, 48, 32, 98] (by decide)
  rw [show Rp.step 1 (some ⟨[50, 53, 48], [[97]], none⟩) [50, 53, 48, 32, 98] false = .inr (.inl ⟨[50, 53, 48], [[97], [98]], []⟩) from smtp_end (a := 50) (b := 53) (c := 48) (by decide) (by decide) (by decide) [[97]] (by decide) [98] false] at C2
  have C2 := Lib.hid C2
  clear C1 CL hM2 hM3 hT2 hX2
  simp only [Rp.outRe, Rp.outDone, Rp.outErr, List.length_nil, show ba [] = (⟨#[]⟩ : ByteArray) from rfl]
  go_wp2_with fail
  refine C2.out.mono ?_
  rintro e w3 ⟨F3, lo3, lc3, bo3, bc3, rfl, hM3, hT3, hX3, hL3, _⟩
  simp only [Rp.outRe, Rp.outDone, Rp.outErr, List.length_nil, List.length_cons, show ba [50, 53, 48] = (⟨#[50, 53, 48]⟩ : ByteArray) from rfl] at hL3 ⊢
  obtain ⟨b, o, rfl, h1, h2, h3⟩ := rd_at hL3.1 (by decide)
  have k1 : ∀ ob, (w3.alloc ob).cell? ⟨b, o + 1, none⟩ = some (.string ⟨#[98]⟩) := fun ob => by
    have := h3 1 (.string ⟨#[98]⟩) rfl
    rw [World.cell?_alloc_some _ _ _ (by rw [this]; rfl)]
    exact this
  have HB := Lib.hid hM3.b
  unfold maxLen at h2
  clear C2 hM3 hT3 hX3 hL3 h3
  go_wp2
  go_ret
  exact ⟨rfl, HB.out.alloc HB.out.size _⟩
end Go.Proofs.YtnodngcfjdghcaaDoor
