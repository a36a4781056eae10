/- b64.Put walked. -/
import Derived.Test.YtjogdflhpciciaaDoorB64Walk
import Derived.Test.YtjogdflhpciciaaDoorRdCut
namespace Go.Proofs.YtjogdflhpciciaaDoor
open Go.RowKit

/-- Four bytes in a new block. -/
theorem Rd.four (w : World) (l0 l1 l2 l3 : UInt8) (t : TypeId) : Rd (w.alloc (.cells #[.int .u8 (l0.toNat : Int), .int .u8 (l1.toNat : Int), .int .u8 (l2.toNat : Int), .int .u8 (l3.toNat : Int)] t)) (.slice (some ⟨w.heap.size, 0, none⟩) 4 4) ([l0, l1, l2, l3].map bv) := by
  refine .inr ⟨_, 0, 4, rfl, Nat.le_refl _, by unfold maxLen; omega, fun j u hj => ?_⟩
  rw [cell_of_row _ _ _ _ _ _ (heap_alloc_new w _), Nat.zero_add, ← hj]
  match j with
  | 0 => rfl
  | 1 => rfl
  | 2 => rfl
  | 3 => rfl
  | j + 4 => simp

structure PRel (w wr : World) (xs : List UInt8) (vb vo : Value) (done rest : List UInt8) : Prop where
  sum : xs = done ++ rest
  whole : done.length % 3 = 0 ∨ rest = []
  rd : Rd w vb (rest.map bv)
  own : wr.ownsRow w.heap.size 5 1 vo (B64.put done).length ((B64.put done).map bv)
  below : Below w.heap.size w wr

/-- One round more. -/
theorem PRel.step {w wr w1 w2 : World} {xs done rest : List UInt8} {b o M cap m : Nat} {vo v' : Value} {l0 l1 l2 l3 : UInt8} {t : TypeId}
    (h : PRel w wr xs (.slice (some ⟨b, o, none⟩) M cap) vo done rest) (hM : M = rest.length) (h0 : 0 < M) (hcap : M ≤ cap) (h1 : 1 ≤ m) (h3 : m ≤ 3) (hm : m ≤ M) (hw : m = 3 ∨ m = M)
    (hl : B64.four (rest.take m) = [l0, l1, l2, l3]) (hb1 : Below wr.heap.size wr w1)
    (hown : w2.ownsRow w.heap.size 5 1 v' ((B64.put done).length + ([l0, l1, l2, l3].map bv).length) ((B64.put done).map bv ++ [l0, l1, l2, l3].map bv))
    (hg : (w1.alloc (.cells #[.int .u8 (l0.toNat : Int), .int .u8 (l1.toNat : Int), .int .u8 (l2.toNat : Int), .int .u8 (l3.toNat : Int)] t)).grownBy w2 vo.ownBlock) :
    PRel w w2 xs (.slice (if cap = m then some ⟨b, o, none⟩ else some ⟨b, o + m, none⟩) (M - m) (cap - m)) v' (done ++ rest.take m) (rest.drop m) := by
  have hd3 : done.length % 3 = 0 := by
    rcases h.whole with hw | hw
    · exact hw
    · subst hw; subst hM; cases h0
  have hlen : (rest.take m).length = m := by rw [List.length_take]; omega
  have hne : rest.take m ≠ [] := fun e => by rw [e] at hlen; simp at hlen; omega
  have hp : B64.put (done ++ rest.take m) = B64.put done ++ [l0, l1, l2, l3] := by
    rw [B64.put_app _ _ hd3, B64.put_few hne (by omega), hl]
  have hs := h.below.size
  have hs1 := hb1.size
  refine ⟨?_, ?_, h.rd.tail hM hm hcap, ?_, ?_⟩
  · rw [List.append_assoc, List.take_append_drop]
    exact h.sum
  · rcases hw with rfl | rfl
    · left; rw [List.length_append, hlen]; omega
    · right; exact List.drop_of_length_le (by omega)
  · rw [hp, List.length_append, List.map_append]
    rw [List.length_map] at hown
    exact hown
  · exact ((h.below.trans (hb1.mono hs)).alloc (by omega) _).grown hg (by simp; omega) (fun k hk => (h.own.lt k hk).1)

theorem PRel.few {w wr : World} {xs done rest : List UInt8} {vb vo : Value} (h : PRel w wr xs vb vo done rest) : (B64.put done).length ≤ (xs.length + 2) / 3 * 4 := by
  have := congrArg List.length h.sum
  rw [List.length_append] at this
  rw [B64.put_len]
  omega

theorem putb_any (v : Value) (xs : List UInt8) (w : World) (h : Rd w v (xs.map bv)) (hs : xs.length ≤ 1048576) :
    Calls Tryd.prog 20 #[v] w fun e w' => e = .returned (sv (B64.put xs)) ∧ Below w.heap.size w w' := by
  obtain ⟨ao, cap, rfl, hcap, hc⟩ := h.form
  obtain ⟨L, hL⟩ : ∃ L, L = xs.length := ⟨_, rfl⟩
  rw [← hL] at hs hcap h ⊢
  obtain ⟨wm, hmk, hown, hbm⟩ := make_u8s w ((L + 2) / 3 * 4) (by omega)
  rw [show (((L + 2) / 3 * 4 : Nat) : Int) = ((L : Int) + 2) / 3 * 4 by omega] at hmk
  have HL := Lib.hid hL
  have hst : PRel w wm xs (.slice ao L cap) (.slice (some ⟨w.heap.size, 0, none⟩) 0 ((L + 2) / 3 * 4)) [] xs := ⟨rfl, .inl rfl, h, hown, hbm⟩
  clear hL hc h hown hbm
  go_enter Tryd.func20, Tryd.ntmps20
  go_wp2
  clear hmk
  go_loopw [0, 3] (fun vb vo wr => ∃ done rest, PRel w wr xs vb vo done rest) (fun vb _ _ => match vb with | .slice _ n _ => n | _ => 0)
  case atStart => exact ⟨_, _, hst⟩
  case round =>
    obtain ⟨done, rest, hR⟩ := hrel
    clear hst
    obtain ⟨ao2, cap2, rfl, hcap2, hc2⟩ := hR.rd.form
    obtain ⟨M, hM⟩ : ∃ M, M = rest.length := ⟨_, rfl⟩
    rw [← hM] at hcap2 hc2 hR
    rw [← hM]
    by_cases hlt : 0 < M
    · obtain ⟨b, o, rfl, hm2, hc3⟩ := hc2 hlt
      have HM := Lib.hid hM
      clear hM hc2 hc3
      unfold maxLen at hm2
      obtain ⟨m, hmin, hm1, hm3, hmM, hmW⟩ : ∃ m : Nat, min (3 : Int) (M : Int) = (m : Int) ∧ 1 ≤ m ∧ m ≤ 3 ∧ m ≤ M ∧ (m = 3 ∨ m = M) := ⟨min 3 M, by omega, by omega, by omega, by omega, by omega⟩
      have hX : rest.take m ≠ [] ∧ (rest.take m).length = m := by
        have hl : (rest.take m).length = m := by rw [List.length_take, ← HM.out]; omega
        exact ⟨fun e => by rw [e] at hl; simp at hl; omega, hl⟩
      obtain ⟨hX1, hX2⟩ := hX
      have hrd : Rd wr (.slice (some ⟨b, o, none⟩) m cap2) ((rest.take m).map bv) := (hR.rd.head HM.out hmM hlt).below hR.below
      generalize hXe : rest.take m = X at hX1 hX2 hrd
      have HXe := Lib.hid hXe
      have HX2 := Lib.hid hX2
      clear hXe hX1 hX2
      go_wp2_with fail
      refine (lettersOf_any _ X _ hrd (by rw [HX2.out]; exact hm1) (by rw [HX2.out]; exact hm3)).mono ?_
      rintro e w1 ⟨rfl, hb1⟩
      have hown1 := own_below hR.own hb1
      obtain ⟨l0, l1, l2, l3, hl⟩ : ∃ l0 l1 l2 l3, B64.four X = [l0, l1, l2, l3] := ⟨_, _, _, _, rfl⟩
      have eF : (#[bv (B64.lat X.length (B64.rowOf X) 0), bv (B64.lat X.length (B64.rowOf X) 1), bv (B64.lat X.length (B64.rowOf X) 2), bv (B64.lat X.length (B64.rowOf X) 3)] : Array Value) = #[.int .u8 (l0.toNat : Int), .int .u8 (l1.toNat : Int), .int .u8 (l2.toNat : Int), .int .u8 (l3.toNat : Int)] := by
        simp only [B64.four, List.cons.injEq, and_true] at hl
        obtain ⟨e0, e1, e2, e3⟩ := hl
        rw [e0, e1, e2, e3]
        rfl
      rw [eF]
      have HF := Lib.hid hl
      have hrdF := Rd.four w1 l0 l1 l2 l3
      have hfew := hR.few
      have hs1 := hR.below.size
      have hs2 := hb1.size
      rw [← HL.out] at hfew
      have HR := Lib.hid hR
      clear eF hl hR
      go_wp2_with (at_builtin; refine append_u8s rfl (.tmp 22) (.tmp 23) rfl rfl (hown1.alloc _) ([l0, l1, l2, l3].map bv) (hrdF _) (bv_cell _) ?ca ?cb ?_)
      case ca =>
        rw [List.length_map]
        show _ + 4 ≤ _
        omega
      case cb => simp; omega
      intro v' w2 hown2 hg2
      have RS := HR.out.step HM.out hlt hcap2 hm1 hm3 hmM hmW (by rw [HXe.out]; exact HF.out) hb1 hown2 hg2
      clear hown2 hg2 hown1 hrdF
      go_wp2
      go_roundw
      case rel => exact ⟨_, _, RS⟩
      case measure => show M - m < M; omega
    · have hM0 : M = 0 := by omega
      have hr0 : rest = [] := List.eq_nil_of_length_eq_zero (by omega)
      have hx : xs = done := by have := hR.sum; rwa [hr0, List.append_nil] at this
      have hcv := bytes_string (Rd.of_own hR.own)
      have HX := Lib.hid hx
      clear hM hc2 hr0 hx hM0
      go_wp2
      go_ret
      exact ⟨by rw [HX.out]; rfl, hR.below⟩
end Go.Proofs.YtjogdflhpciciaaDoor
