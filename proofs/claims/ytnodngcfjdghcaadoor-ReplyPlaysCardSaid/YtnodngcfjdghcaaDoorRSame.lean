/- The reference's Same of replies that are alike, walked. -/
import Derived.Test.YtnodngcfjdghcaaDoorStrsSame
import Derived.Test.YtnodngcfjdghcaaDoorRdB
import Derived.Test.YtnodngcfjdghcaaDoorMkLine
namespace Go.Proofs.YtnodngcfjdghcaaDoor
open Go.RowKit

set_option maxHeartbeats 4000000 in
theorem rsame_yes (c : ByteArray) (ls : List (List UInt8)) (bs : List UInt8) {l1 l2 b1 b2 : Option Addr} {lc1 lc2 bc1 bc2 : Nat} (w : World)
    (h1 : Rd w (.slice l1 ls.length lc1) (ls.map sv)) (h2 : Rd w (.slice l2 ls.length lc2) (ls.map sv)) (h3 : Rd w (.slice b1 bs.length bc1) (bs.map bv)) (h4 : Rd w (.slice b2 bs.length bc2) (bs.map bv)) :
    Calls Tryd.prog 14 #[.agg #[.string c, .slice l1 ls.length lc1, .slice b1 bs.length bc1], .agg #[.string c, .slice l2 ls.length lc2, .slice b2 bs.length bc2]] w fun e w' => e = .returned (.bool true) ∧ Below w.heap.size w w' := by
  obtain ⟨n, hn⟩ : ∃ n, n = ls.length := ⟨_, rfl⟩
  obtain ⟨m, hm⟩ : ∃ m, m = bs.length := ⟨_, rfl⟩
  rw [← hn] at h1 h2 ⊢
  rw [← hm] at h3 h4 ⊢
  have hal := ((Below.refl w.heap.size w).alloc (Nat.le_refl _) (.cells #[.string c, .slice l1 n lc1, .slice b1 m bc1] 30)).alloc (by simp) (.cells #[.string c, .slice l2 n lc2, .slice b2 m bc2] 30)
  have hr1 : Rb ((w.alloc (.cells #[.string c, .slice l1 n lc1, .slice b1 m bc1] 30)).alloc (.cells #[.string c, .slice l2 n lc2, .slice b2 m bc2] 30)) w.heap.size c (.slice l1 n lc1) (.slice b1 m bc1) := (Below.heap_alloc _ _ _ (by simp)).trans (World.alloc_heap_new w _)
  have hr2 : Rb ((w.alloc (.cells #[.string c, .slice l1 n lc1, .slice b1 m bc1] 30)).alloc (.cells #[.string c, .slice l2 n lc2, .slice b2 m bc2] 30)) (w.heap.size + 1) c (.slice l2 n lc2) (.slice b2 m bc2) := by
    have := World.alloc_heap_new (w.alloc (.cells #[.string c, .slice l1 n lc1, .slice b1 m bc1] 30)) (.cells #[.string c, .slice l2 n lc2, .slice b2 m bc2] 30)
    rw [World.size_alloc] at this
    exact this
  have hs := same_any ls ls _ _ _ (h1.below hal) (h2.below hal)
  rw [show (ls == ls) = true from beq_self_eq_true ls] at hs
  have HS := Lib.hid hs
  have H3 := Lib.hid (h3.below hal)
  have H4 := Lib.hid (h4.below hal)
  have HAL := Lib.hid hal
  have HR1 := Lib.hid hr1
  have HR2 := Lib.hid hr2
  clear hs h1 h2 h3 h4 hal hr1 hr2 hn hm
  go_enter Tryd.func14, Tryd.ntmps14
  go_wp2_with fail
  refine HS.out.mono ?_
  rintro e w3 ⟨rfl, hb3⟩
  have r1 := HR1.out.same (hb3.block _ HR1.out.lt)
  have r2 := HR2.out.same (hb3.block _ HR2.out.lt)
  have v1 := bytes_string (H3.out.below hb3)
  have v2 := bytes_string (H4.out.below hb3)
  have x0 := r1.c0
  have x2 := r1.c2
  have y0 := r2.c0
  have y2 := r2.c2
  unfold sv at v1 v2
  have HB := Lib.hid (HAL.out.trans (hb3.mono HAL.out.size))
  clear hb3 r1 r2 HS H3 H4 HAL HR1 HR2
  go_wp2
  go_ret
  exact ⟨rfl, HB.out⟩
end Go.Proofs.YtnodngcfjdghcaaDoor
