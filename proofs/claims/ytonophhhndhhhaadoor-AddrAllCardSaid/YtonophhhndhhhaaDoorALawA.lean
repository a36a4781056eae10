/- What the laws of layer 13 hold: places in blocks of their own; shown (layer 13). -/
import Derived.Test.YtonophhhndhhhaaDoorALaw
import Derived.Test.YtonophhhndhhhaaDoorAddrPasv
import Derived.Laws.StructEq
namespace Go.Proofs.YtonophhhndhhhaaDoor
open Go.RowKit

/-- Places, each in a block of its own. -/
structure LA (w wr : World) (gs : List (Nat × Ad.Ad)) : Prop where
  below : Below w.heap.size w wr
  ab : ∀ p ∈ gs, AB wr p.1 p.2
theorem LA.next {w wr w' : World} {gs : List (Nat × Ad.Ad)} (h : LA w wr gs) (hb : Below wr.heap.size wr w') : LA w w' gs :=
  ⟨h.below.trans (hb.mono h.below.size), fun p hp => (h.ab p hp).below hb (Array.getElem?_eq_some_iff.1 (h.ab p hp).blk).1⟩
theorem LA.push {w wr : World} {gs : List (Nat × Ad.Ad)} (h : LA w wr gs) (a b c d p : Int) :
    LA w (wr.alloc (.cells #[.int .i64 a, .int .i64 b, .int .i64 c, .int .i64 d, .int .i64 p] 24)) ((wr.heap.size, ⟨a, b, c, d, p⟩) :: gs) := by
  refine ⟨h.below.alloc h.below.size _, fun q hq => ?_⟩
  rcases List.mem_cons.1 hq with rfl | hq
  · exact ⟨heap_alloc_new _ _⟩
  · exact ⟨(heap_alloc_old _ _ (Array.getElem?_eq_some_iff.1 (h.ab q hq).blk).1).trans (h.ab q hq).blk⟩
theorem LA.drew {w wr : World} {gs : List (Nat × Ad.Ad)} (h : LA w wr gs) : LA w wr.drew gs := ⟨h.below.drew, fun p hp => ⟨(h.ab p hp).blk⟩⟩
theorem LA.nil (w : World) : LA w w [] := ⟨Below.refl _ _, fun p hp => by cases hp⟩
theorem LA.at0 {w wr : World} {g : Nat} {x : Ad.Ad} {gs : List (Nat × Ad.Ad)} (h : LA w wr ((g, x) :: gs)) : AB wr g x := h.ab (g, x) (by simp)
theorem LA.at1 {w wr : World} {p0 : Nat × Ad.Ad} {g : Nat} {x : Ad.Ad} {gs : List (Nat × Ad.Ad)} (h : LA w wr (p0 :: (g, x) :: gs)) : AB wr g x := h.ab (g, x) (by simp)
theorem LA.at2 {w wr : World} {p0 p1 : Nat × Ad.Ad} {g : Nat} {x : Ad.Ad} {gs : List (Nat × Ad.Ad)} (h : LA w wr (p0 :: p1 :: (g, x) :: gs)) : AB wr g x := h.ab (g, x) (by simp)
theorem LA.at3 {w wr : World} {p0 p1 p2 : Nat × Ad.Ad} {g : Nat} {x : Ad.Ad} {gs : List (Nat × Ad.Ad)} (h : LA w wr (p0 :: p1 :: p2 :: (g, x) :: gs)) : AB wr g x := h.ab (g, x) (by simp)
theorem LA.at4 {w wr : World} {p0 p1 p2 p3 : Nat × Ad.Ad} {g : Nat} {x : Ad.Ad} {gs : List (Nat × Ad.Ad)} (h : LA w wr (p0 :: p1 :: p2 :: p3 :: (g, x) :: gs)) : AB wr g x := h.ab (g, x) (by simp)
theorem LA.tail {w wr : World} {p : Nat × Ad.Ad} {gs : List (Nat × Ad.Ad)} (h : LA w wr (p :: gs)) : LA w wr gs := ⟨h.below, fun q hq => h.ab q (by simp [hq])⟩

/-- The cells of a place. -/
theorem AB.five {w : World} {g : Nat} {x : Ad.Ad} (h : AB w g x) : w.cell? ⟨g, 0, none⟩ = some (.int .i64 x.a) ∧ w.cell? ⟨g, 1, none⟩ = some (.int .i64 x.b) ∧ w.cell? ⟨g, 2, none⟩ = some (.int .i64 x.c) ∧ w.cell? ⟨g, 3, none⟩ = some (.int .i64 x.d) ∧ w.cell? ⟨g, 4, none⟩ = some (.int .i64 x.port) :=
  ⟨h.c0, h.c1, h.c2, h.c3, h.c4⟩

theorem pasv_c (l : List UInt8) (hl : l.length ≤ 1048576) (o : Option Ad.Ad) (ho : Ad.pasv l = o) (w : World) :
    Calls Tryd.prog 10 #[.string ⟨l.toArray⟩] w fun e w' => e = .returned (.tuple #[.agg #[.int .i64 (o.getD ad0).a, .int .i64 (o.getD ad0).b, .int .i64 (o.getD ad0).c, .int .i64 (o.getD ad0).d, .int .i64 (o.getD ad0).port], .bool o.isSome]) ∧ Below w.heap.size w w' := by
  rw [← ho]
  exact pasv_any l hl w

def okText : List UInt8 := [111, 107, 32, 40, 49, 48, 44, 48, 44, 48, 44, 49, 44, 52, 44, 49, 41, 46]
theorem ok_pasv : Ad.pasv okText = some ⟨10, 0, 0, 1, 1025⟩ := by decide +kernel

set_option maxHeartbeats 1000000 in
theorem shown_any (w : World) : Calls Tryd.prog 8 #[] w fun e w' => e = .returned (.bool true) ∧ Below w.heap.size w w' := by
  have PC := fun wx => pasv_c okText (by decide) _ ok_pasv wx
  rw [show (⟨okText.toArray⟩ : ByteArray) = ⟨#[111, 107, 32, 40, 49, 48, 44, 48, 44, 48, 44, 49, 44, 52, 44, 49, 41, 46]⟩ from rfl] at PC
  dsimp only [Option.getD_some, Option.isSome_some] at PC
  have q2 := adHeld
  have q3 := adGuard
  have he : ∀ w, (Op.equalIn 10000 24 (.agg #[.int .i64 10, .int .i64 0, .int .i64 0, .int .i64 1, .int .i64 1025]) (.agg #[.int .i64 10, .int .i64 0, .int .i64 0, .int .i64 1, .int .i64 1025])).run Tryd.prog w = .ok true w := fun w => by
    have := equalAd ⟨10, 0, 0, 1, 1025⟩ ⟨10, 0, 0, 1, 1025⟩ w
    simpa [adv, adc] using this
  go_enter Tryd.func8, Tryd.ntmps8
  go_wp2_with fail
  refine (PC _).mono ?_
  rintro e w1 ⟨rfl, hb⟩
  clear PC
  go_wp2
  go_ret
  exact ⟨rfl, (hb.alloc hb.size _).alloc (by rw [World.size_alloc]; have := hb.size; omega) _⟩
end Go.Proofs.YtonophhhndhhhaaDoor
