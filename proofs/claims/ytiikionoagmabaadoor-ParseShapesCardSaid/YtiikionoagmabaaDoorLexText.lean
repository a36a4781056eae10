/- lex.text walked (layer 14). -/
import Derived.Test.YtiikionoagmabaaDoorLexSmall
import Derived.Test.YtiikionoagmabaaDoorLexPassed
import Derived.Test.YtiikionoagmabaaDoorByteRow
import Derived.Test.YtiikionoagmabaaDoorOwnSet
namespace Go.Proofs.YtiikionoagmabaaDoor
open Go.RowKit


/-- What is told of a token's beginning. -/
def nxv (c : UInt8) (l : List UInt8) : Value := match Lx.next c l with
  | .error e => .tuple #[tkv 0 [] 0, .int .i64 0, .int .i64 (e : Int)]
  | .ok (k, t, r) => .tuple #[tkv k t 0, .int .i64 ((l.length + 1 - r.length : Nat) : Int), .int .i64 0]
theorem nxv_err {c : UInt8} {l : List UInt8} {e : Nat} (h : Lx.next c l = .error e) : nxv c l = .tuple #[tkv 0 [] 0, .int .i64 0, .int .i64 (e : Int)] := by unfold nxv; rw [h]
theorem nxv_ok {c : UInt8} {l t r : List UInt8} {k : Nat} (h : Lx.next c l = .ok (k, t, r)) : nxv c l = .tuple #[tkv k t 0, .int .i64 ((l.length + 1 - r.length : Nat) : Int), .int .i64 0] := by unfold nxv; rw [h]

/-- What holds at the head of a round: k bytes of the text are behind, which stand for xs. -/
structure TX (w wr : World) (l : List UInt8) (k : Nat) (v : Value) (xs : List UInt8) : Prop where
  br : BR w.heap.size (w.heap.size + 1) w wr v xs
  res : Tk3 wr w.heap.size 0 [] 0
  hk : 1 ≤ k
  hl : k ≤ l.length + 1
  few : xs.length < k
  eq : Lx.txt l = (Lx.txt ((34 :: l).drop k)).map fun p => (xs ++ p.1, p.2)

set_option maxRecDepth 20000 in
set_option maxHeartbeats 4000000 in
theorem text_any (l : List UInt8) (hl : l.length ≤ 1048576) (w : World) :
    Calls Tryd.prog 54 #[.string ⟨(34 :: l).toArray⟩] w fun e w' => e = .returned (nxv 34 l) ∧ Below w.heap.size w w' := by
  obtain ⟨q, hq⟩ : ∃ q, q = 34 :: l := ⟨_, rfl⟩
  obtain ⟨L, hL⟩ : ∃ L, l.length = L := ⟨_, rfl⟩
  have hz : (⟨q.toArray⟩ : ByteArray).size = L + 1 := by show q.toArray.size = _; rw [hq]; simp [hL]
  have hql : q.length = L + 1 := by rw [hq, List.length_cons, hL]
  have HQ := Lib.hid hq
  have HL := Lib.hid hL
  have HQL := Lib.hid hql
  have ST := Lib.hid (fun c r h wx => stands_any c r h wx)
  have hst : TX w (w.alloc (.cells #[.int .i64 0, .string ⟨#[]⟩, .int .i64 0] 53)) l 1 (.slice none 0 0) [] :=
    ⟨⟨(Below.refl _ w).alloc (Nat.le_refl _) _, World.ownsRow_nil _ _ _ _, by simp, by omega⟩, Tk3.new w 0 [] 0, by omega, by omega, by simp, by simp⟩
  have HST := Lib.hid hst
  rw [← hq]
  rw [hL] at hl
  clear hst hq hL hql
  go_enter Tryd.func54, Tryd.ntmps54
  go_wp2
  go_loopw [5, 6, 7, 8] (fun s5 s6 s7 s8 wr => ∃ (k : Nat) (xs : List UInt8), s6 = .int .i64 k ∧ Hid (TX w wr l k s5 xs)) (fun s5 s6 s7 s8 _ => L + 1 - (intOf s6).toNat)
  case atStart => exact ⟨1, [], rfl, HST⟩
  case round =>
    obtain ⟨k, xs, rfl, HR⟩ := hrel
    clear HST
    have hk1 := HR.out.hk
    have hk2 := HR.out.hl
    rw [HL.out] at hk2
    by_cases hlt : k < L + 1
    · obtain ⟨c, r, hd, hgc, hr, hrl⟩ := Lx.drop_cons (l := q) (k := k) (by rw [HQL.out]; exact hlt)
      rw [HQL.out] at hrl
      have hx : ∀ h, (⟨q.toArray⟩ : ByteArray)[k]'h = c := fun h => by rw [byte_at]; exact hgc
      have hE : (⟨q.toArray⟩ : ByteArray).extract k (L + 1) = ⟨(c :: r).toArray⟩ := by rw [ba_extract, List.take_of_length_le (by rw [HQL.out]; exact Nat.le_refl _), hd]
      have HD := Lib.hid hd
      have hk3 : (k : Int) < (L : Int) + 1 := by omega
      clear hgc hd hr
      by_cases h34 : c = 34
      · -- the text's end
        subst h34
        have hend : Lx.txt l = some (xs, r) := by
          have h := HR.out.eq
          rw [← HQ.out, HD.out] at h
          rw [h]
          unfold Lx.txt
          simp
        have hlenxs := HR.out.few
        obtain ⟨so, sc, rfl⟩ := own_form HR.out.br.own
        have hcv := bytes_string HR.out.br.rd
        unfold sv at hcv
        obtain ⟨M, hM⟩ : ∃ M, xs.length = M := ⟨_, rfl⟩
        rw [hM] at hcv hlenxs ⊢
        have d0 := HR.out.res.c0
        have d1 := HR.out.res.c1
        have d2 := HR.out.res.c2
        have df := HR.out.res.fr
        by_cases hM1 : 100 < M
        · have hv : nxv 34 l = .tuple #[tkv 0 [] 0, .int .i64 0, .int .i64 (11 : Nat)] := nxv_err (by unfold Lx.next; rw [if_pos rfl, hend]; dsimp only; rw [if_pos (by rw [hM]; exact hM1)])
          have HZ := Lib.hid (HR.out.res.set 0 [] 0)
          have HB := Lib.hid (below_set3t HR.out.br.below (Nat.le_refl _) (.int .i64 (0 : Nat)) (.string ⟨([] : List UInt8).toArray⟩) (.int .i64 (0 : Nat)))
          have hM2 : ((100 : Int) < (M : Int)) = True := eq_true (by omega)
          have HV := Lib.hid hv
          clear hend hv HR HD hM HQ hcv hM1
          go_wp2
          refine bodyPost_ret (v := .tuple #[tkv 0 [] 0, .int .i64 0, .int .i64 (11 : Nat)]) (by have d0 := HZ.out.c0; have d1 := HZ.out.c1; have d2 := HZ.out.c2; simp at d0 d1 d2; simp [results, Tryd.results54, go_sem, d0, d1, d2, tkv]) rfl ⟨by rw [HV.out], HB.out⟩
        · have hv : nxv 34 l = .tuple #[tkv 3 xs 0, .int .i64 ((k + 1 : Nat) : Int), .int .i64 0] := by
            rw [nxv_ok (k := 3) (t := xs) (r := r) (by unfold Lx.next; rw [if_pos rfl, hend]; dsimp only; rw [if_neg (by rw [hM]; exact hM1)])]
            rw [HL.out, show L + 1 - r.length = k + 1 by omega]
          have HZ := Lib.hid (HR.out.res.set 3 xs 0)
          have HB := Lib.hid (below_set3t HR.out.br.below (Nat.le_refl _) (.int .i64 (3 : Nat)) (.string ⟨xs.toArray⟩) (.int .i64 (0 : Nat)))
          have hM2 : ((100 : Int) < (M : Int)) = False := eq_false (by omega)
          have HV := Lib.hid hv
          clear hend hv HR HD hM HQ hM1
          go_wp2
          refine bodyPost_ret (v := .tuple #[tkv 3 xs 0, .int .i64 ((k + 1 : Nat) : Int), .int .i64 0]) (by have d0 := HZ.out.c0; have d1 := HZ.out.c1; have d2 := HZ.out.c2; simp at d0 d1 d2; simp [results, Tryd.results54, go_sem, d0, d1, d2, tkv]) rfl ⟨by rw [HV.out], HB.out⟩
      · have h34b : ¬ ((c.toNat : Int) = 34) := fun e => h34 (UInt8.toNat_inj.1 (show c.toNat = (34 : UInt8).toNat by show c.toNat = 34; omega))
        have f1 : ((c.toNat : Int) == 34) = false := beq_eq_false_iff_ne.2 h34b
        have hs := ST.out c r (by omega)
        have hstep := Lx.txt_step c r h34
        have hsl := Lx.stand_len c r
        obtain ⟨st, hst⟩ : ∃ st, Lx.stand c r = st := ⟨_, rfl⟩
        rw [hst] at hs hstep hsl
        obtain ⟨b, n⟩ := st
        dsimp only at hs hstep hsl
        simp only [List.length_cons] at hsl
        clear hst
        by_cases hn : n = 0
        · subst hn
          rw [if_pos rfl] at hstep
          have hv : nxv 34 l = .tuple #[tkv 0 [] 0, .int .i64 0, .int .i64 (11 : Nat)] := nxv_err (by
            have h := HR.out.eq
            rw [← HQ.out, HD.out, hstep] at h
            unfold Lx.next; rw [if_pos rfl, h]; rfl)
          have d0 := HR.out.res.c0
          have d1 := HR.out.res.c1
          have d2 := HR.out.res.c2
          have df := HR.out.res.fr
          have HZ := Lib.hid (HR.out.res.set 0 [] 0)
          have HB := Lib.hid (below_set3t HR.out.br.below (Nat.le_refl _) (.int .i64 (0 : Nat)) (.string ⟨([] : List UInt8).toArray⟩) (.int .i64 (0 : Nat)))
          obtain ⟨so, sc, rfl⟩ := own_form HR.out.br.own
          have HV := Lib.hid hv
          clear hstep hv HR HD HQ
          go_wp2_with (go_at_call 65; refine (hs _).mono ?_; rintro e w' ⟨rfl, rfl⟩)
          refine bodyPost_ret (v := .tuple #[tkv 0 [] 0, .int .i64 0, .int .i64 (11 : Nat)]) (by have d0 := HZ.out.c0; have d1 := HZ.out.c1; have d2 := HZ.out.c2; simp at d0 d1 d2; simp [results, Tryd.results54, go_sem, d0, d1, d2, tkv]) rfl ⟨by rw [HV.out], HB.out⟩
        · rw [if_neg hn] at hstep
          have hn1 : ((n : Int) == 0) = false := beq_eq_false_iff_ne.2 (by omega)
          have hn2 : ((n : Int) = 0) = False := eq_false (by omega)
          have hown := HR.out.br.own
          have hfew := HR.out.few
          have hxl : xs.length + 1 ≤ 16777216 := by omega
          have hrd := fun wx => Rd.byte wx b 5
          have hB := HR.out.br.sz
          have HSTEP := Lib.hid hstep
          clear hstep
          go_wp2_with (first
            | (go_at_call 65; refine (hs _).mono ?_; rintro e w' ⟨rfl, rfl⟩)
            | (at_builtin; refine append_u8s rfl (.tmp 29) (.tmp 31) rfl rfl (hown.alloc _) ([b].map bv) (hrd _) (bv_cell _) ?ca ?cb ?_))
          case ca => simp; omega
          case cb => simp; omega
          intro v' w2 hown2 hg2
          have HN : Hid (TX w w2 l (k + n) v' (xs ++ [b])) := Lib.hid ⟨HR.out.br.push hown2 hg2, HR.out.res.same (HR.out.br.old hg2 _ (by omega)), by omega, by rw [HL.out]; omega, by simp; omega, by
            have h := HR.out.eq
            rw [← HQ.out, HD.out, HSTEP.out, ← HD.out, List.drop_drop] at h
            rw [h, ← HQ.out]
            cases Lx.txt (q.drop (k + n)) <;> simp⟩
          clear hown2 hg2 hown hrd HR HSTEP
          go_wp2
          go_roundw
          case rel => exact ⟨k + n, xs ++ [b], by first | rfl | go_num, HN⟩
          case measure => simp [intOf]; omega
    · have hkL : k = L + 1 := by omega
      subst hkL
      have hv : nxv 34 l = .tuple #[tkv 0 [] 0, .int .i64 0, .int .i64 (11 : Nat)] := nxv_err (by
        have h := HR.out.eq
        rw [List.drop_of_length_le (by rw [List.length_cons, HL.out]; exact Nat.le_refl _)] at h
        unfold Lx.next; rw [if_pos rfl, h]; rfl)
      have d0 := HR.out.res.c0
      have d1 := HR.out.res.c1
      have d2 := HR.out.res.c2
      have df := HR.out.res.fr
      have HZ := Lib.hid (HR.out.res.set 0 [] 0)
      have HB := Lib.hid (below_set3t HR.out.br.below (Nat.le_refl _) (.int .i64 (0 : Nat)) (.string ⟨([] : List UInt8).toArray⟩) (.int .i64 (0 : Nat)))
      obtain ⟨so, sc, rfl⟩ := own_form HR.out.br.own
      have HV := Lib.hid hv
      clear hv HR HQ
      go_wp2
      refine bodyPost_ret (v := .tuple #[tkv 0 [] 0, .int .i64 0, .int .i64 (11 : Nat)]) (by have d0 := HZ.out.c0; have d1 := HZ.out.c1; have d2 := HZ.out.c2; simp at d0 d1 d2; simp [results, Tryd.results54, go_sem, d0, d1, d2, tkv]) rfl ⟨by rw [HV.out], HB.out⟩
end Go.Proofs.YtiikionoagmabaaDoor
