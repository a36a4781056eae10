/- addr.Text walked (layer 13). -/
import Derived.Test.YtonophhhndhhhaaDoorARefT
import Derived.Test.YtonophhhndhhhaaDoorAddrFlo
import Derived.Test.YtonophhhndhhhaaDoorItoa
import Derived.Test.YtonophhhndhhhaaDoorStrs
import Derived.Test.YtonophhhndhhhaaDoorOwnSet
import Derived.Test.YtonophhhndhhhaaDoorRdTexts
namespace Go.Proofs.YtonophhhndhhhaaDoor
open Go.RowKit

/-- The rows of digits. -/
def Ad.parts (x : Ad.Ad) : List (List UInt8) := [Lib.itoa x.a, Lib.itoa x.b, Lib.itoa x.c, Lib.itoa x.d]
theorem Ad.text_join (x : Ad.Ad) : Lib.join [Lib.itoa x.a, Lib.itoa x.b, Lib.itoa x.c, Lib.itoa x.d, Lib.itoa (x.port / 256), Lib.itoa (x.port % 256)] [44] = Ad.text x := by
  unfold Lib.join Ad.text
  simp [List.intercalate]

structure TR (B : Nat) (w wr : World) (x : Ad.Ad) (v : Value) (k : Nat) : Prop where
  below : Below B w wr
  box : AB wr B x
  own : wr.ownsRow (B + 1) 9 1 v k ((Ad.parts x).take k |>.map sv)
theorem TR.later {B : Nat} {w wr w' : World} {x : Ad.Ad} {v : Value} {k : Nat} (h : TR B w wr x v k) (hb : Below wr.heap.size wr w') (hB : B ≤ wr.heap.size) : TR B w w' x v k :=
  ⟨h.below.trans (hb.mono hB), h.box.below hb (Array.getElem?_eq_some_iff.1 h.box.blk).1, own_below h.own hb⟩
theorem TR.lt {B : Nat} {w wr : World} {x : Ad.Ad} {v : Value} {k : Nat} (h : TR B w wr x v k) : B < wr.heap.size := (Array.getElem?_eq_some_iff.1 h.box.blk).1
theorem TR.grow {B : Nat} {w wr w' : World} {x : Ad.Ad} {v v' : Value} {k k' : Nat} (h : TR B w wr x v k) (hown : w'.ownsRow (B + 1) 9 1 v' k' ((Ad.parts x).take k' |>.map sv)) (hg : wr.grownBy w' v.ownBlock) : TR B w w' x v' k' := by
  have hne : ∀ j, v.ownBlock = some j → B + 1 ≤ j := fun j hj => by have := (h.own.lt j hj).1; omega
  refine ⟨h.below.grown hg (Nat.le_of_lt h.lt) (fun j hj => by have := hne j hj; omega), ⟨?_⟩, hown⟩
  rw [hg.block B h.lt (fun e => by have := hne B e.symm; omega)]
  exact h.box.blk

theorem info_int : (Tryd.prog.info? 3).map (fun i => (i.zero, i.size, i.bytes)) = some (some (.int .i64 0), 1, 8) := by kernel_rfl
theorem index4 {R : List Value} {k : Nat} {u : Value} (h : R[k]? = some u) (hk : k < 4) (w : World) : (Instr.index 22 (.agg R.toArray) (.int .i64 (k : Int))).run Tryd.prog w = .ok u w := by
  obtain ⟨i0, hi, hz0, hz1, hz2⟩ := info_parts info_int
  have hx : (0 : Int) ≤ k ∧ (k : Int) < 4 := by omega
  simp [Instr.index, run_underlying Tryd.underlying22, asIntOf, sizeOf, typeInfo, hi, hz1, hk, h, go_sem]
theorem index_host {a b c d n : Int} {k : Nat} (h : [a, b, c, d][k]? = some n) (w : World) : (Instr.index 22 (.agg #[.int .i64 a, .int .i64 b, .int .i64 c, .int .i64 d]) (.int .i64 (k : Int))).run Tryd.prog w = .ok (.int .i64 n) w :=
  index4 (R := [a, b, c, d].map fun n => Value.int .i64 n) (by rw [List.getElem?_map, h]; rfl) (List.getElem?_eq_some_iff.1 h).1 w
theorem AW.at {x : Ad.Ad} (h : AW x) {k : Nat} {n : Int} (hn : [x.a, x.b, x.c, x.d][k]? = some n) : (-9223372036854775808 ≤ n ∧ n ≤ 9223372036854775807) ∧ (Ad.parts x).take (k + 1) = (Ad.parts x).take k ++ [Lib.itoa n] := by
  obtain ⟨ha, hb, hc, hd, hp⟩ := h
  match k with
  | 0 => simp at hn; subst hn; exact ⟨ha, rfl⟩
  | 1 => simp at hn; subst hn; exact ⟨hb, rfl⟩
  | 2 => simp at hn; subst hn; exact ⟨hc, rfl⟩
  | 3 => simp at hn; subst hn; exact ⟨hd, rfl⟩
  | k + 4 => simp at hn

set_option maxHeartbeats 4000000 in
theorem text_any (x : Ad.Ad) (hx : AW x) (w : World) (ht : TB w) :
    Calls Tryd.prog 14 #[adv x] w fun e w' => e = .returned (.string ⟨(Ad.text x).toArray⟩) ∧ Below w.heap.size w w' := by
  have HT := Lib.hid ht
  have DG := Lib.hid (fun n wx (hb : Below w.heap.size w wx) (hn : -9223372036854775808 ≤ n ∧ n ≤ 9223372036854775807) => digits_any n wx (HT.out.below hb) hn.1 hn.2)
  have HX := Lib.hid hx
  have HTJ := Lib.hid (Ad.text_join x)
  have PA := fun wx => parts_any x.port hx.p.1 hx.p.2 wx
  have h0 : TR w.heap.size w (w.alloc (.cells #[.int .i64 x.a, .int .i64 x.b, .int .i64 x.c, .int .i64 x.d, .int .i64 x.port] 24)) x (.slice none 0 0) 0 := by
    exact ⟨(Below.refl _ _).alloc (Nat.le_refl _) _, ⟨heap_alloc_new _ _⟩, World.ownsRow_nil _ _ _ _⟩
  have H0 := Lib.hid h0
  clear ht hx h0
  show Calls _ _ #[.agg #[.int .i64 x.a, .int .i64 x.b, .int .i64 x.c, .int .i64 x.d, .int .i64 x.port]] _ _
  go_enter Tryd.func14, Tryd.ntmps14
  go_wp2_with fail
  go_loopw [3, 10] (fun s3 s10 wr => ∃ k : Nat, k ≤ 4 ∧ s10 = .int .i64 k ∧ Hid (TR w.heap.size w wr x s3 k)) (fun _ s10 _ => 4 - (intOf s10).toNat)
  case atStart => exact ⟨0, by omega, rfl, H0.out⟩
  case round =>
    obtain ⟨k, hk, rfl, HR⟩ := hrel
    have hlt := HR.out.lt
    by_cases h4 : k < 4
    · obtain ⟨n, hn⟩ : ∃ n, [x.a, x.b, x.c, x.d][k]? = some n := ⟨_, List.getElem?_eq_getElem (by simpa using h4)⟩
      have hix := fun w => index_host hn w
      obtain ⟨hn1, hn2⟩ := HX.out.at hn
      have HN := Lib.hid hn2
      have hd := DG.out n wr HR.out.below hn1
      clear hn hn2
      go_wp2_with fail
      refine hd.mono ?_
      rintro e w1 ⟨rfl, hb1⟩
      have HR1 := Lib.hid (HR.out.later hb1 (by omega))
      have hs1 := HR1.out.lt
      clear hb1 hd hix
      go_wp2_with (at_builtin; refine append_str rfl (.tmp 13) (.tmp 16) rfl rfl HR1.out.own rfl rfl ?ca ?cb ?cc ?_)
      case ca => rfl
      case cb => omega
      case cc => omega
      intro v' w' ho hg
      have HR2 := Lib.hid (HR1.out.grow (k' := k + 1) (by rw [HN.out, List.map_append, List.map_take]; exact ho) hg)
      clear ho hg
      go_wp2
      go_roundw
      case rel => exact ⟨k + 1, by omega, by go_num, HR2.out⟩
      case measure => simp [intOf]; omega
    · obtain rfl : k = 4 := by omega
      have d4 := HR.out.box.c4
      have hpx := HX.out.p
      obtain ⟨f, hf⟩ : ∃ f, x.port / 256 = f := ⟨_, rfl⟩
      obtain ⟨g, hg⟩ : ∃ g, x.port % 256 = g := ⟨_, rfl⟩
      have hf2 : -9223372036854775808 ≤ f ∧ f ≤ 9223372036854775807 := by omega
      have hg2 : -9223372036854775808 ≤ g ∧ g ≤ 9223372036854775807 := by omega
      have HJ := Lib.hid (show Lib.join [Lib.itoa x.a, Lib.itoa x.b, Lib.itoa x.c, Lib.itoa x.d, Lib.itoa f, Lib.itoa g] [44] = Ad.text x by rw [← hf, ← hg]; exact HTJ.out)
      have HLEN := Lib.hid (show (Ad.text x).length ≤ 200 by
        rw [← HTJ.out, hf, hg]
        have la := itoa_len _ HX.out.a
        have lb := itoa_len _ HX.out.b
        have lc := itoa_len _ HX.out.c
        have ld := itoa_len _ HX.out.d
        have lf := itoa_len _ hf2
        have lg := itoa_len _ hg2
        simp [Lib.join, List.intercalate]
        omega)
      rw [hf, hg] at PA
      clear hf hg hpx
      obtain ⟨F, hF⟩ : ∃ F, Lib.itoa f = F := ⟨_, rfl⟩
      obtain ⟨G, hG⟩ : ∃ G, Lib.itoa g = G := ⟨_, rfl⟩
      rw [hF, hG] at HJ
      have DF := Lib.hid (fun wx hb => DG.out f wx hb hf2)
      have DE := Lib.hid (fun wx hb => DG.out g wx hb hg2)
      rw [hF] at DF
      rw [hG] at DE
      clear hF hG
      go_wp2_with fail
      refine (PA _).mono ?_
      rintro e w1 ⟨rfl, rfl⟩
      clear PA d4
      go_wp2_with fail
      refine (DF.out _ HR.out.below).mono ?_
      rintro e w1 ⟨rfl, hb1⟩
      have HR1 := Lib.hid (HR.out.later hb1 (by omega))
      clear hb1 DF HR
      go_wp2_with fail
      refine (DE.out _ HR1.out.below).mono ?_
      rintro e w2 ⟨rfl, hb2⟩
      have HR2 := Lib.hid (HR1.out.later hb2 (Nat.le_of_lt HR1.out.lt))
      have hs2 := HR2.out.lt
      clear hb2 DE HR1
      have hrd := Rd.texts w2 [⟨F.toArray⟩, ⟨G.toArray⟩] 9 (0, 0) 2 rfl (by omega)
      change Rd (w2.alloc (.cells #[.string ⟨F.toArray⟩, .string ⟨G.toArray⟩] 9)) _ [.string ⟨F.toArray⟩, .string ⟨G.toArray⟩] at hrd
      have hb3 := (Below.refl w2.heap.size w2).alloc (Nat.le_refl _) (.cells #[.string ⟨F.toArray⟩, .string ⟨G.toArray⟩] 9)
      have HR3 := Lib.hid (HR2.out.later hb3 (by omega))
      have HRD := Lib.hid hrd
      clear hrd hb3
      have hs3 := HR3.out.lt
      go_wp2_with (at_builtin; refine append_strs rfl (.tmp 25) (.tmp 30) rfl rfl HR3.out.own _ HRD.out ?ca ?cb ?cc ?_)
      case ca => exact sv_cell [F, G]
      case cb => simp
      case cc => simp; omega
      intro v' w' ho hg
      have HBW := Lib.hid (HR3.out.below.grown hg (Nat.le_of_lt HR3.out.lt) (fun j hj => by have := (HR3.out.own.lt j hj).1; omega))
      have hrow : w'.ownsRow (w.heap.size + 1) 9 1 v' 6 ([⟨(Lib.itoa x.a).toArray⟩, ⟨(Lib.itoa x.b).toArray⟩, ⟨(Lib.itoa x.c).toArray⟩, ⟨(Lib.itoa x.d).toArray⟩, ⟨F.toArray⟩, ⟨G.toArray⟩].map Value.string) := ho
      clear hg ho
      obtain ⟨gb, cap, cur, rfl, _, h2, h3, h4, h5, h6⟩ : ∃ g cap cur, v' = .slice (some ⟨g, 0, none⟩) 6 cap ∧ w.heap.size + 1 ≤ g ∧ w'.heap[g]? = some (.cells cur 9 (0, 0)) ∧ 6 ≤ cap ∧ cap ≤ maxLen ∧ cur.size = cap * 1 ∧ cur.toList.take (6 * 1) = ([⟨(Lib.itoa x.a).toArray⟩, ⟨(Lib.itoa x.b).toArray⟩, ⟨(Lib.itoa x.c).toArray⟩, ⟨(Lib.itoa x.d).toArray⟩, ⟨F.toArray⟩, ⟨G.toArray⟩].map Value.string) := by
        rcases hrow.2 with ⟨_, h⟩ | h
        · cases h
        · exact h
      have hcells : ∀ (j : Nat) y, ([⟨(Lib.itoa x.a).toArray⟩, ⟨(Lib.itoa x.b).toArray⟩, ⟨(Lib.itoa x.c).toArray⟩, ⟨(Lib.itoa x.d).toArray⟩, ⟨F.toArray⟩, ⟨G.toArray⟩] : List ByteArray)[j]? = some y → w'.cell? ⟨gb, 0 + j, none⟩ = some (.string y) := by
        intro j y hj
        have hj6 : j < 6 := (List.getElem?_eq_some_iff.1 hj).1
        rw [cell_of_row _ _ _ _ _ _ h2, Nat.zero_add, ← Array.getElem?_toList]
        have := congrArg (fun l => l[j]?) h6
        simp only [List.getElem?_map, hj, Option.map_some] at this
        rw [List.getElem?_take_of_lt (by omega)] at this
        exact this
      have JO := fun wx (hw : wx = w') => Tryd.strings_Join gb 0 cap [⟨(Lib.itoa x.a).toArray⟩, ⟨(Lib.itoa x.b).toArray⟩, ⟨(Lib.itoa x.c).toArray⟩, ⟨(Lib.itoa x.d).toArray⟩, ⟨F.toArray⟩, ⟨G.toArray⟩] ⟨#[44]⟩ wx (by rw [hw]; exact hcells) (by rw [hw]; exact (Array.getElem?_eq_some_iff.1 h2).1) (by simp) h3 (by
        show (Lib.join [Lib.itoa x.a, Lib.itoa x.b, Lib.itoa x.c, Lib.itoa x.d, F, G] [44]).length ≤ _
        rw [HJ.out]
        have := HLEN.out
        omega)
      have jo := JO w' rfl
      change Calls _ _ _ _ fun e w2 => e = .returned (.string ⟨(Lib.join [Lib.itoa x.a, Lib.itoa x.b, Lib.itoa x.c, Lib.itoa x.d, F, G] [44]).toArray⟩) ∧ _ at jo
      rw [HJ.out] at jo
      have jo2 : Calls Tryd.prog 28 #[.slice (some ⟨gb, 0, none⟩) 6 cap, .string ⟨#[44]⟩] w' fun e w2 => e = .returned (.string ⟨(Ad.text x).toArray⟩) ∧ Below w'.heap.size w' w2 := jo
      have HGB := Lib.hid hrow
      clear JO jo h2 h5 h6 hcells hrow
      go_wp2_with fail
      refine jo2.mono ?_
      rintro e w5 ⟨rfl, hb5⟩
      have HB5 := Lib.hid (HBW.out.trans (hb5.mono HBW.out.size))
      clear hb5 jo2
      go_wp2
      go_ret
      exact ⟨rfl, HB5.out⟩
end Go.Proofs.YtonophhhndhhhaaDoor
