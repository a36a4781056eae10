/- lex.All walked (layer 14). -/
import Derived.Test.YtiikionoagmabaaDoorLexFirst
import Derived.Test.YtiikionoagmabaaDoorTokRow
namespace Go.Proofs.YtiikionoagmabaaDoor
open Go.RowKit


theorem tok_info : (Tryd.prog.info? 53).map (fun i => (i.zero, i.size, i.bytes)) = some (some (.agg #[.int .i64 0, .string ⟨#[]⟩, .int .i64 0]), 3, 32) := by kernel_rfl
/-- 'append(l, t)': t lies in a block of its own. -/
theorem append_tok {ops : Array Oper} {rest : List Oper} {o : Oper} {a : Act} {Q : Exit → Act → World → Prop} {w : World} {B b : Nat} {v : Value} {ts : List Lx.Tok} (t : Lx.Tok)
    (hgd : o.guard = none) (s x : Operand) (ho : o.op = .call { callee := .builtin .append, args := #[s, x], argTypes := #[40, 40] })
    (hs : a.eval s = v) (h : TO w B 53 v ts) (hx : a.eval x = .slice (some ⟨b, 0, none⟩) 1 1) (hb : w.heap[b]? = some (.cells (tokCells t).toArray 53 (0, 0)))
    (hn : ts.length ≤ 1048576) (hB : B ≤ w.heap.size)
    (h' : ∀ g cap w', TO w' B 53 (.slice (some ⟨g, 0, none⟩) (ts.length + 1) cap) (ts ++ [t]) → w.grownBy w' v.ownBlock → wpList Tryd.prog ops Q rest (a.put o.dst (.slice (some ⟨g, 0, none⟩) (ts.length + 1) cap)) w') : wpList Tryd.prog ops Q (o :: rest) a w := by
  obtain ⟨i0, hi, hz0, hz1, hz2⟩ := info_parts tok_info
  exact wpList_plain hgd fun _ hK => wp_append_tok t Tryd.underlying40 hi hz0 hz1 hz2 rfl (by decide) s x ho hs h hx hb hn hB fun g cap w' h2 h3 _ => hK _ _ (h' g cap w' h2 h3)

/-- What holds at the head of a round. -/
structure AS (w wr : World) (l : List UInt8) (k : Nat) (v : Value) (ts : List Lx.Tok) : Prop where
  below : Below w.heap.size w wr
  row : TO wr w.heap.size 53 v ts
  hk : k ≤ l.length
  few : ts.length ≤ 400
  fix : Lx.skip false (l.drop k) = l.drop k
  eq : Lx.go l.length l.length 0 (Lx.skip false l) = Lx.mapE ts (Lx.go l.length l.length ts.length (l.drop k))
/-- What All answers. -/
def AllP (r : Except (Nat × Nat) (List Lx.Tok)) (w : World) (e : Ending) (w' : World) : Prop := Below w.heap.size w w' ∧ match r with
  | .error (p, f) => e = .returned (.tuple #[.slice none 0 0, .int .i64 (p : Int), .int .i64 (f : Int)])
  | .ok ts => ∃ v, e = .returned (.tuple #[v, .int .i64 0, .int .i64 0]) ∧ TO w' w.heap.size 53 v ts

set_option maxRecDepth 20000 in
set_option maxHeartbeats 4000000 in
theorem all_any (l : List UInt8) (hl : l.length ≤ 1048576) (w : World) :
    Calls Tryd.prog 23 #[.string ⟨l.toArray⟩] w fun e w' => AllP (Lx.all l) w e w' := by
  have hz : (⟨l.toArray⟩ : ByteArray).size = l.length := rfl
  have PA := Lib.hid (fun s h wx => passed_any s h wx)
  have FI := Lib.hid (fun c s h wx => first_any c s h wx)
  obtain ⟨L, hL⟩ : ∃ L, l.length = L := ⟨_, rfl⟩
  by_cases hbig : 2000 < L
  · have hall : Lx.all l = .error (0, 4) := by unfold Lx.all; rw [hL, if_pos hbig]
    have hb1 : ((2000 : Int) < (L : Int)) = True := eq_true (by omega)
    rw [hL] at hz
    rw [hall]
    show Calls _ _ _ _ fun e w' => Below w.heap.size w w' ∧ e = .returned (.tuple #[.slice none 0 0, .int .i64 0, .int .i64 4])
    clear hall hbig hL hl
    go_enter Tryd.func23, Tryd.ntmps23
    go_wp2
    refine bodyPost_ret (v := .tuple #[.slice none 0 0, .int .i64 0, .int .i64 4]) (by simp [results, Tryd.results23, go_sem]) rfl ⟨Below.refl _ _, rfl⟩
  · have hb1 : ((2000 : Int) < (L : Int)) = False := eq_false (by omega)
    have hL2 : L ≤ 2000 := by omega
    have hall : Lx.all l = Lx.go l.length l.length 0 (Lx.skip false l) := by unfold Lx.all; rw [if_neg (by rw [hL]; exact hbig)]
    have hsl := Lx.skip_len false l
    have hp := PA.out l (by omega) w
    obtain ⟨k0, hk0⟩ : ∃ k0, l.length - (Lx.skip false l).length = k0 := ⟨_, rfl⟩
    have hd0 : l.drop k0 = Lx.skip false l := by rw [← hk0]; exact Lx.suf_drop (Lx.skip_suf false l)
    have hst : ∀ w', Below w.heap.size w w' → AS w w' l k0 (.slice none 0 0) [] := fun w' hb => ⟨hb, TO.nil _ _ _, by omega, by simp, by rw [hd0]; exact Lx.skip_skip false l, by rw [Lx.mapE_nil, hd0]; rfl⟩
    rw [hk0] at hp
    have HST := Lib.hid hst
    have HALL := Lib.hid hall
    have HL := Lib.hid hL
    have hk0L : k0 ≤ L := by omega
    rw [hL] at hz
    clear hst hk0 hd0 hsl hall hL hl hbig
    go_enter Tryd.func23, Tryd.ntmps23
    go_wp2_with (go_at_call 35; refine hp.mono ?_; rintro e w1 ⟨rfl, hb1⟩; have HS1 := Lib.hid (HST.out w1 hb1); clear hb1)
    clear hp HST
    go_loopw [5, 6, 7, 8, 9] (fun s5 s6 s7 s8 s9 wr => ∃ (k : Nat) (ts : List Lx.Tok), s6 = .int .i64 k ∧ Hid (AS w wr l k s5 ts)) (fun s5 s6 s7 s8 s9 _ => L - (intOf s6).toNat)
    case atStart => exact ⟨k0, [], rfl, HS1⟩
    case round =>
      obtain ⟨k, ts, rfl, HR⟩ := hrel
      clear HS1
      have hk2 := HR.out.hk
      rw [HL.out] at hk2
      have hown := HR.out.row
      obtain ⟨so, sc, hform, hcells⟩ := hown.form
      subst hform
      clear hcells
      obtain ⟨M, hM⟩ : ∃ M, ts.length = M := ⟨_, rfl⟩
      have hfew := HR.out.few
      have HM := Lib.hid hM
      by_cases hlt : k < L
      · obtain ⟨c, r, hd, hgc, hr, hrl⟩ := Lx.drop_cons (l := l) (k := k) (by rw [HL.out]; exact hlt)
        rw [HL.out] at hrl
        have hE : (⟨l.toArray⟩ : ByteArray).extract k L = ⟨(c :: r).toArray⟩ := by rw [ba_extract, List.take_of_length_le (by rw [HL.out]; exact Nat.le_refl _), hd]
        have hk3 : (k : Int) < (L : Int) := by omega
        have hf := FI.out c r (by omega)
        have heq := HR.out.eq
        rw [hd, HL.out, Lx.go_step L _ c r (by omega), hM] at heq
        rw [hM] at hfew hown ⊢
        have HD := Lib.hid hd
        clear hgc hr hd
        cases hn : Lx.next c r with
        | error e =>
          have he := Lx.next_err0 hn
          have hf2 := fun wx => hf wx
          rw [nxv_err hn] at hf2
          unfold tkv at hf2
          have HV := Lib.hid (show Lx.all l = .error (k, e) by rw [HALL.out, HL.out, heq, hn]; show Except.error (L - (r.length + 1), e) = _; rw [show L - (r.length + 1) = k by omega])
          have he1 : ((e : Int) == 0) = false := beq_eq_false_iff_ne.2 (by omega)
          have he2 : ((e : Int) = 0) = False := eq_false (by omega)
          have HB := Lib.hid HR.out.below
          have hsz := HB.out.size
          clear hf heq hn HR hown HD
          go_wp2_with (go_at_call 36; refine (hf2 _).mono ?_; rintro e w1 ⟨rfl, hb1⟩)
          refine bodyPost_ret (v := .tuple #[.slice none 0 0, .int .i64 (k : Int), .int .i64 (e : Int)]) (by simp [results, Tryd.results23, go_sem]) rfl ?_
          rw [HV.out]
          exact ⟨(HB.out.trans (hb1.mono hsz)).alloc (Nat.le_trans hsz hb1.size) _, rfl⟩
        | ok x =>
          obtain ⟨kd, t, rest⟩ := x
          have hsuf := Lx.next_suf hn
          have hsm := Lx.next_small hn
          have hf2 := fun wx => hf wx
          rw [nxv_ok hn] at hf2
          unfold tkv at hf2
          rw [hn] at heq
          dsimp only at heq
          obtain ⟨n, hnn⟩ : ∃ n, r.length + 1 - rest.length = n := ⟨_, rfl⟩
          rw [hnn] at hf2
          simp only [List.length_cons] at hsm
          by_cases h4 : 400 ≤ M
          · obtain rfl : M = 400 := by omega
            rw [if_pos h4] at heq
            have HV := Lib.hid (show Lx.all l = .error (0, 4) by rw [HALL.out, HL.out, heq]; rfl)
            have HB := Lib.hid HR.out.below
            have hsz := HB.out.size
            clear hf heq hn HR hown HD hsuf h4
            go_wp2_with (go_at_call 36; refine (hf2 _).mono ?_; rintro e w1 ⟨rfl, hb1⟩)
            refine bodyPost_ret (v := .tuple #[.slice none 0 0, .int .i64 0, .int .i64 4]) (by simp [results, Tryd.results23, go_sem]) rfl ?_
            rw [HV.out]
            exact ⟨(HB.out.trans (hb1.mono hsz)).alloc (Nat.le_trans hsz hb1.size) _, rfl⟩
          · rw [if_neg h4, show L - (r.length + 1) = k by omega] at heq
            have h41 : ((M : Int) == 400) = false := beq_eq_false_iff_ne.2 (by omega)
            have h42 : ((M : Int) = 400) = False := eq_false (by omega)
            have hB := HR.out.below.size
            have hM4 : M < 400 := by omega
            have HB := Lib.hid HR.out.below
            have HEQ := Lib.hid heq
            have HSUF := Lib.hid hsuf
            clear hf heq hn h4 hsuf HR
            have hnew : ∀ wx : World, ((wx.alloc (.cells #[.int .i64 (kd : Int), .string ⟨t.toArray⟩, .int .i64 (k : Int)] 53)).alloc (.cells #[.int .i64 (kd : Int), .string ⟨t.toArray⟩, .int .i64 (k : Int)] 53)).heap[wx.heap.size + 1]? = some (.cells (tokCells ⟨kd, t, k⟩).toArray 53 (0, 0)) := fun wx => heap_alloc2_new _ _ _
            have hal2 : ∀ (wx : World) (o o' : Obj), Below wx.heap.size wx ((wx.alloc o).alloc o') := fun wx o o' => ((Below.refl _ _).alloc (Nat.le_refl _) _).alloc (by simp) _
            go_wp2_with (first
              | (go_at_call 36; refine (hf2 _).mono ?_; rintro e w1 ⟨rfl, hb1⟩; have hown1 := hown.below hb1; have HB1 := Lib.hid (HB.out.trans (hb1.mono hB)); clear hb1 hf2)
              | (at_builtin; refine append_tok ⟨kd, t, k⟩ rfl (.tmp 36) (.tmp 38) rfl rfl (hown1.below (hal2 _ _ _)) rfl (hnew _) ?ca ?cb ?_))
            case ca => rw [HM.out]; omega
            case cb => have := HB1.out.size; simp; omega
            intro g2 c2 w2 hown2 hg2
            have HW2 := Lib.hid ((((HB1.out.trans (((hal2 w1 _ _)).mono HB1.out.size)).grown hg2 (by have := HB1.out.size; simp; omega) (fun g hg => (hown1.lt g hg).1)) : Below w.heap.size w w2))
            have HO2 := Lib.hid hown2
            have hrd : l.drop (k + n) = rest := by
              rw [← List.drop_drop, HD.out]
              have := Lx.suf_drop HSUF.out
              rw [List.length_cons, hnn] at this
              exact this
            have hE2 : (⟨l.toArray⟩ : ByteArray).extract (k + n) L = ⟨rest.toArray⟩ := by rw [ba_extract, List.take_of_length_le (by rw [HL.out]; exact Nat.le_refl _), hrd]
            have hkn : k + n ≤ L := by omega
            have hrl2 : rest.length + (k + n) = L := by rw [← hrd, List.length_drop, HL.out]; omega
            have hp := PA.out rest (by omega) w2
            have hsl := Lx.skip_len false rest
            obtain ⟨m, hm⟩ : ∃ m, rest.length - (Lx.skip false rest).length = m := ⟨_, rfl⟩
            rw [hm] at hp
            have hrm : l.drop (k + n + m) = Lx.skip false rest := by
              rw [← List.drop_drop, hrd, ← hm]
              exact Lx.suf_drop (Lx.skip_suf false rest)
            have hfix : Lx.skip false (l.drop (k + n + m)) = l.drop (k + n + m) := by rw [hrm]; exact Lx.skip_skip false rest
            have HN : Hid (∀ w3, Below w2.heap.size w2 w3 → AS w w3 l (k + n + m) (.slice (some ⟨g2, 0, none⟩) (M + 1) c2) (ts ++ [⟨kd, t, k⟩])) := Lib.hid fun w3 hb3 =>
              ⟨HW2.out.trans (hb3.mono HW2.out.size), HO2.out.below hb3, by rw [HL.out]; omega, by rw [List.length_append, HM.out]; simp; omega, hfix, by
                have h := HEQ.out
                rw [Lx.mapE_mapE] at h
                rw [HL.out, h, List.length_append, HM.out, hrm]
                rfl⟩
            have hkm : k + n + m ≤ L := by omega
            have hn1 : 1 ≤ n := by omega
            clear hnew hal2 hfix hrm hm hsl hrl2 hrd hown2 hg2 hown1 HSUF HD HEQ hrl HO2 HB1 hown hfew hnn hsm hE
            have hkn0 : (k : Int) + (n : Int) ≤ (L : Int) := by omega
            go_wp2_with (go_at_call 35; refine hp.mono ?_; rintro e w3 ⟨rfl, hb3⟩; have HN3 := Lib.hid (HN.out w3 hb3))
            go_roundw
            case rel => exact ⟨k + n + m, _, by first | rfl | go_num, HN3⟩
            case measure => simp [intOf]; omega
      · have hkL : k = L := by omega
        subst hkL
        have heq := HR.out.eq
        rw [List.drop_of_length_le (by rw [HL.out]; exact Nat.le_refl _), HL.out] at heq
        have HV := Lib.hid (show Lx.all l = .ok (ts ++ [⟨0, [], k⟩]) by
          rw [HALL.out, HL.out, heq]
          cases k <;> rfl)
        have HB := Lib.hid HR.out.below
        have hsz := HB.out.size
        have hnew : ∀ wx : World, (wx.alloc (.cells #[.int .i64 (0 : Int), .string ⟨#[]⟩, .int .i64 (k : Int)] 53)).heap[wx.heap.size]? = some (.cells (tokCells ⟨0, [], k⟩).toArray 53 (0, 0)) := fun wx => heap_alloc_new _ _
        rw [hM] at hfew hown ⊢
        clear heq HR
        go_wp2_with (at_builtin; refine append_tok ⟨0, [], k⟩ rfl (.tmp 49) (.tmp 52) rfl rfl (hown.below ((Below.refl _ _).alloc (Nat.le_refl _) _)) rfl (hnew _) ?ca ?cb ?_)
        case ca => rw [HM.out]; omega
        case cb => simp; omega
        intro g2 c2 w2 hown2 hg2
        have HW2 := Lib.hid (((HB.out.alloc hsz _).grown hg2 (by simp; omega) (fun g hg => (hown.lt g hg).1)) : Below w.heap.size w w2)
        have HO2 := Lib.hid hown2
        clear hown2 hg2
        go_wp2
        refine bodyPost_ret (v := .tuple #[.slice (some ⟨g2, 0, none⟩) (M + 1) c2, .int .i64 0, .int .i64 0]) (by simp [results, Tryd.results23, go_sem]) rfl ?_
        rw [HV.out]
        exact ⟨HW2.out, _, rfl, HO2.out⟩
end Go.Proofs.YtiikionoagmabaaDoor
