/- lex.Quote walked (layer 14). -/
import Derived.Test.YtdeocejjneghjaaDoorLexSmall
import Derived.Test.YtdeocejjneghjaaDoorLexPassed
import Derived.Test.YtdeocejjneghjaaDoorByteRow
import Derived.Test.YtdeocejjneghjaaDoorOwnSet
namespace Go.Proofs.YtdeocejjneghjaaDoor
open Go.RowKit

namespace Lx
/-- Where it is among those that are written by two. -/
theorem meant_at (c : UInt8) : (Lib.indexByte [92, 34, 10, 13, 9] c = -1 ∧ (pl c = true → esc1 c = [c]) ∧ mayQ c = pl c) ∨ ∃ (k : Nat) (t : UInt8), k < 5 ∧ Lib.indexByte [92, 34, 10, 13, 9] c = (k : Int) ∧ esc1 c = [92, t] ∧ mayQ c = true ∧ ∀ h, (⟨#[92, 34, 110, 114, 116]⟩ : ByteArray)[k]'h = t := by
  by_cases h0 : c = 92
  · subst h0; exact .inr ⟨0, 92, by decide, rfl, rfl, rfl, fun _ => rfl⟩
  by_cases h1 : c = 34
  · subst h1; exact .inr ⟨1, 34, by decide, rfl, rfl, rfl, fun _ => rfl⟩
  by_cases h2 : c = 10
  · subst h2; exact .inr ⟨2, 110, by decide, rfl, rfl, rfl, fun _ => rfl⟩
  by_cases h3 : c = 13
  · subst h3; exact .inr ⟨3, 114, by decide, rfl, rfl, rfl, fun _ => rfl⟩
  by_cases h4 : c = 9
  · subst h4; exact .inr ⟨4, 116, by decide, rfl, rfl, rfl, fun _ => rfl⟩
  have g : ∀ a : UInt8, ¬ c = a → (a == c) = false := fun a h => beq_eq_false_iff_ne.2 fun q => h q.symm
  refine .inl ⟨by simp [Lib.indexByte, g _ h0, g _ h1, g _ h2, g _ h3, g _ h4], fun _ => by unfold esc1; rw [if_neg h0, if_neg h1, if_neg h2, if_neg h3, if_neg h4], ?_⟩
  have k2 : (c == 10) = false := beq_eq_false_iff_ne.2 h2
  have k3 : (c == 13) = false := beq_eq_false_iff_ne.2 h3
  have k4 : (c == 9) = false := beq_eq_false_iff_ne.2 h4
  simp [mayQ, pl, k2, k3, k4]
theorem esc_snoc (l : List UInt8) (c : UInt8) : esc (l ++ [c]) = esc l ++ esc1 c := by simp [esc]
end Lx
/-- What Quote answers. -/
def quoteV (l : List UInt8) : Value := match Lx.quote l with
  | some q => .tuple #[.string ⟨q.toArray⟩, .bool true]
  | none => .tuple #[.string ⟨#[]⟩, .bool false]
theorem quoteV_none {l : List UInt8} (h : ¬ (l.length ≤ 100 ∧ l.all Lx.mayQ = true)) : quoteV l = .tuple #[.string ⟨#[]⟩, .bool false] := by unfold quoteV; rw [Lx.quote_none.2 h]
theorem quoteV_some {l : List UInt8} (h : l.length ≤ 100 ∧ l.all Lx.mayQ = true) : quoteV l = .tuple #[.string ⟨(34 :: (Lx.esc l ++ [34])).toArray⟩, .bool true] := by unfold quoteV Lx.quote; rw [if_pos h]

structure QS (w wr : World) (l : List UInt8) (k : Nat) (v : Value) : Prop where
  br : BR w.heap.size w.heap.size w wr v (34 :: Lx.esc (l.take k))
  may : (l.take k).all Lx.mayQ = true

set_option maxHeartbeats 4000000 in
theorem quote_any (l : List UInt8) (hl : l.length ≤ 16777216) (w : World) :
    Calls Tryd.prog 9 #[.string ⟨l.toArray⟩] w fun e w' => e = .returned (quoteV l) ∧ Below w.heap.size w w' := by
  have hz : (⟨l.toArray⟩ : ByteArray).size = l.length := rfl
  obtain ⟨L, hL⟩ : ∃ L, l.length = L := ⟨_, rfl⟩
  by_cases hbig : 100 < L
  · have hv := quoteV_none (l := l) (fun h => by omega)
    have hb1 : ((100 : Int) < (L : Int)) = True := eq_true (by omega)
    rw [hv]
    rw [hL] at hz
    clear hv hbig hL hl
    go_enter Tryd.func9, Tryd.ntmps9
    go_wp2
    go_ret2
    exact ⟨rfl, Below.refl _ _⟩
  · have hb1 : ((100 : Int) < (L : Int)) = False := eq_false (by omega)
    have hL2 : L ≤ 100 := by omega
    have IX := Lib.hid (fun s c wx => sindex_any s c wx)
    have PL := Lib.hid (fun c wx => plain_any c wx)
    have hst : QS w (w.alloc (.cells #[.int .u8 34] 5)) l 0 (.slice (some ⟨w.heap.size, 0, none⟩) 1 1) :=
      ⟨⟨(Below.refl _ w).alloc (Nat.le_refl _) _, ⟨by simp, .inr ⟨w.heap.size, 1, #[.int .u8 34], rfl, Nat.le_refl _, heap_alloc_new w _, Nat.le_refl _, by decide, rfl, rfl⟩⟩, by simp, Nat.le_refl _⟩, by simp⟩
    have HST := Lib.hid hst
    have HL := Lib.hid hL
    rw [hL] at hz
    clear hst hL hl hbig
    go_enter Tryd.func9, Tryd.ntmps9
    go_wp2
    go_loopw [4, 5, 6, 13] (fun s4 s5 s6 s13 wr => ∃ k : Nat, k ≤ L ∧ s13 = .int .i64 k ∧ Hid (QS w wr l k s4)) (fun s4 s5 s6 s13 _ => L - (intOf s13).toNat)
    case atStart => exact ⟨0, by omega, rfl, HST⟩
    case round =>
      obtain ⟨k, hk, rfl, HR⟩ := hrel
      clear HST
      have hown := HR.out.br.own
      obtain ⟨so, sc, rfl⟩ := own_form hown
      obtain ⟨M, hM⟩ : ∃ M, (34 :: Lx.esc (l.take k)).length = M := ⟨_, rfl⟩
      have hM1 : M ≤ 2 * k + 1 := by
        have := Lx.esc_len (l.take k)
        rw [← hM, List.length_cons]
        have : (l.take k).length ≤ k := List.length_take_le _ _
        omega
      have hB := HR.out.br.sz
      rw [hM] at HR hown ⊢
      by_cases hlt : k < L
      · obtain ⟨c, r, hd, hgc, hr, hrl⟩ := Lx.drop_cons (l := l) (k := k) (by rw [HL.out]; exact hlt)
        have hx : ∀ h, (⟨l.toArray⟩ : ByteArray)[k]'h = c := fun h => by rw [byte_at]; exact hgc
        have htk := take_snoc hd
        have hi := IX.out ⟨#[92, 34, 10, 13, 9]⟩ c
        rw [show (⟨#[92, 34, 10, 13, 9]⟩ : ByteArray).data.toList = [92, 34, 10, 13, 9] from rfl] at hi
        have hk3 : (k : Int) < (L : Int) := by omega
        have hk4 : k + 1 ≤ L := by omega
        have HM := Lib.hid hM
        have HTK := Lib.hid htk
        clear hgc hr hd htk hM hrl
        rcases Lx.meant_at c with ⟨h1, h2, h3⟩ | ⟨m, t, hm, h1, h2, h3, h4⟩
        · have hp := PL.out c
          rw [h1] at hi
          obtain ⟨p, hpp⟩ : ∃ p, Lx.pl c = p := ⟨_, rfl⟩
          rw [hpp] at hp h2 h3
          cases p
          · have HV := Lib.hid (quoteV_none (l := l) (fun h => by
              have h5 : (l.take (k + 1)).all Lx.mayQ = true := by
                rw [List.all_eq_true]
                exact fun x hx => List.all_eq_true.1 h.2 x (List.mem_of_mem_take hx)
              rw [HTK.out, List.all_append] at h5
              simp [h3] at h5))
            have HB := Lib.hid HR.out.br.below
            clear h1 h2 h3 hpp HR hown HTK HM
            go_wp2_with (first
              | (go_at_call 11; refine (hi _).mono ?_; rintro e w' ⟨rfl, rfl⟩)
              | (go_at_call 12; refine (hp _).mono ?_; rintro e w' ⟨rfl, rfl⟩))
            go_ret2
            exact ⟨by rw [HV.out]; rfl, HB.out⟩
          · have h2 := h2 rfl
            have hrd := fun wx => Rd.byte wx c 5
            have hown2 := fun o => hown.alloc o
            have HT2 := Lib.hid h2
            have HT3 := Lib.hid h3
            clear h1 h2 h3 hpp hown
            go_wp2_with (first
              | (go_at_call 11; refine (hi _).mono ?_; rintro e w' ⟨rfl, rfl⟩)
              | (go_at_call 12; refine (hp _).mono ?_; rintro e w' ⟨rfl, rfl⟩)
              | (at_builtin; refine append_u8s rfl (.tmp 33) (.tmp 37) rfl rfl (hown2 _) ([c].map bv) (hrd _) (bv_cell _) ?ca ?cb ?_))
            case ca => simp; omega
            case cb => simp; omega
            intro v' w2 ho2 hg2
            rw [← HM.out] at ho2
            have HN : Hid (QS w w2 l (k + 1) v') := Lib.hid ⟨by
              have h := HR.out.br.push (ys := [c]) ho2 hg2
              rw [HTK.out, Lx.esc_snoc, HT2.out]
              exact h, by rw [HTK.out, List.all_append, HR.out.may]; simp [HT3.out]⟩
            clear ho2 hg2 hown2 hrd HR HTK HM HT2 HT3
            go_wp2
            go_roundw
            case rel => exact ⟨k + 1, hk4, by first | rfl | go_num, HN⟩
            case measure => simp [intOf]; omega
        · rw [h1] at hi
          have hm0 : (0 : Int) ≤ (m : Int) := by omega
          have hm5 : (m : Int) < 5 := by omega
          have hrd := fun wx => Rd.bytes2 wx 92 t 5
          have hown2 := fun o => hown.alloc o
          have HT2 := Lib.hid h2
          have HT3 := Lib.hid h3
          clear h1 h2 h3 hown
          go_wp2_with (first
            | (go_at_call 11; refine (hi _).mono ?_; rintro e w' ⟨rfl, rfl⟩)
            | (at_builtin; refine append_u8s rfl (.tmp 23) (.tmp 26) rfl rfl (hown2 _) ([92, t].map bv) (hrd _) (bv_cell _) ?ca ?cb ?_))
          case ca => simp; omega
          case cb => simp; omega
          intro v' w2 ho2 hg2
          rw [← HM.out] at ho2
          have HN : Hid (QS w w2 l (k + 1) v') := Lib.hid ⟨by
            have h := HR.out.br.push (ys := [92, t]) ho2 hg2
            rw [HTK.out, Lx.esc_snoc, HT2.out]
            exact h, by rw [HTK.out, List.all_append, HR.out.may]; simp [HT3.out]⟩
          clear ho2 hg2 hown2 hrd HR HTK HM HT2 HT3
          go_wp2
          go_roundw
          case rel => exact ⟨k + 1, hk4, by first | rfl | go_num, HN⟩
          case measure => simp [intOf]; omega
      · have hkL : k = L := by omega
        subst hkL
        have htl : l.take k = l := List.take_of_length_le (by rw [HL.out]; exact Nat.le_refl _)
        have HV := Lib.hid (quoteV_some (l := l) ⟨by rw [HL.out]; exact hL2, by have := HR.out.may; rwa [htl] at this⟩)
        have hrd := fun wx => Rd.byte wx 34 5
        have hown2 := fun o => hown.alloc o
        have HM := Lib.hid hM
        have HTL := Lib.hid htl
        clear hown hM htl
        go_wp2_with (at_builtin; refine append_u8s rfl (.tmp 40) (.tmp 41) rfl rfl (hown2 _) ([34].map bv) (hrd _) (bv_cell _) ?ca ?cb ?_)
        case ca => simp; omega
        case cb => simp; omega
        intro v' w2 ho2 hg2
        rw [← HM.out] at ho2
        have HP := Lib.hid (HR.out.br.push (ys := [34]) ho2 hg2)
        have hcv := bytes_string HP.out.rd
        unfold sv at hcv
        clear ho2 hg2 hown2 hrd HR HM
        go_wp2
        go_ret2
        exact ⟨by rw [HV.out]; simp [HTL.out], HP.out.below⟩
end Go.Proofs.YtdeocejjneghjaaDoor
