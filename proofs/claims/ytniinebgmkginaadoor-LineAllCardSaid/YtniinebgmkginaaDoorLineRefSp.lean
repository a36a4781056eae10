/- The reference's split walked: the parts between commas, as a row of texts of the call's own. -/
import Derived.Test.YtniinebgmkginaaDoorLineRef
import Derived.Test.YtniinebgmkginaaDoorStrs
namespace Go.Proofs.YtniinebgmkginaaDoor
open Go.RowKit

theorem split_len' : ∀ (l p : List UInt8), p ∈ Ln.split l → p.length ≤ l.length
  | [], p, h => by
    have : p = [] := by simpa [Ln.split] using h
    rw [this]
    exact Nat.le_refl _
  | c :: r, p, h => by
    by_cases hc : c = 44
    · subst hc
      rw [Ln.split_comma] at h
      rcases List.mem_cons.1 h with rfl | h
      · simp
      · exact Nat.le_succ_of_le (split_len' r p h)
    · obtain ⟨q, ps, h1, h2⟩ := Ln.split_other hc r
      rw [h2] at h
      rcases List.mem_cons.1 h with rfl | h
      · have := split_len' r q (by rw [h1]; exact List.mem_cons_self ..)
        simpa using this
      · exact Nat.le_succ_of_le (split_len' r p (by rw [h1]; exact List.mem_cons_of_mem _ h))

/-- Where the loop stands: i bytes are over (or one more than there are), the parts that are whole, where the next one begins. -/
structure Sp (s : List UInt8) (i f : Nat) (done : List (List UInt8)) : Prop where
  le : i ≤ s.length + 1
  fle : f ≤ i
  dl : done.length ≤ i
  at_ : i ≤ s.length → Ln.At s i f done
  end_ : i = s.length + 1 → Ln.split s = done

theorem Sp.start (s : List UInt8) : Sp s 0 0 [] := ⟨by omega, Nat.le_refl _, Nat.le_refl _, fun _ => Ln.at_start s, fun h => by omega⟩
theorem Sp.comma {s : List UInt8} {i f : Nat} {done : List (List UInt8)} (h : Sp s i f done) (hi : i < s.length) (hc : s.getD i 0 = 44) : Sp s (i + 1) (i + 1) (done ++ [(s.take i).drop f]) :=
  ⟨by omega, Nat.le_refl _, by simp; exact h.dl, fun _ => Ln.at_comma (h.at_ (by omega)) (by rw [← hc, List.getD_eq_getElem?_getD, List.getElem?_eq_getElem hi]; rfl), fun e => by omega⟩
theorem Sp.other {s : List UInt8} {i f : Nat} {done : List (List UInt8)} (h : Sp s i f done) (hi : i < s.length) (hc : s.getD i 0 ≠ 44) : Sp s (i + 1) f done :=
  ⟨by omega, by have := h.fle; omega, by have := h.dl; omega, fun _ => Ln.at_other (h.at_ (by omega)) (by rw [List.getD_eq_getElem?_getD, List.getElem?_eq_getElem hi]; rfl) hc, fun e => by omega⟩
theorem Sp.last {s : List UInt8} {f : Nat} {done : List (List UInt8)} (h : Sp s s.length f done) : Sp s (s.length + 1) (s.length + 1) (done ++ [(s.take s.length).drop f]) :=
  ⟨Nat.le_refl _, Nat.le_refl _, by simp; exact h.dl, fun e => by omega, fun _ => by rw [List.take_length]; exact Ln.at_end (h.at_ (Nat.le_refl _)) (Nat.le_refl _)⟩

set_option maxRecDepth 20000 in
set_option maxHeartbeats 4000000 in
theorem rsplit_any (s : List UInt8) (hs : s.length ≤ 1000000) (w : World) :
    Calls Tryd.prog 24 #[.string (ba s)] w fun e w' => ∃ g cap, e = .returned (.slice (some ⟨g, 0, none⟩) (Ln.split s).length cap) ∧ (∀ j u, ((Ln.split s).map sv)[j]? = some u → w'.cell? ⟨g, j, none⟩ = some u) ∧ Below w.heap.size w w' ∧ (Ln.split s).length ≤ cap ∧ (Ln.split s).length ≤ 1000001 := by
  have hz : (ba s).size = s.length := rfl
  obtain ⟨L, hL⟩ : ∃ L, L = s.length := ⟨_, rfl⟩
  rw [← hL] at hz
  have hLs : L ≤ 1000000 := by omega
  go_enter Tryd.func24, Tryd.ntmps24
  go_wp2
  go_loopw [3, 4, 5] (fun s3 s4 s5 wr => ∃ i f done, s5 = .int .i64 ((i : Nat) : Int) ∧ s4 = .int .i64 ((f : Nat) : Int) ∧ Sp s i f done ∧ wr.ownsRow w.heap.size 9 1 s3 done.length (done.map sv) ∧ Below w.heap.size w wr) (fun _ _ s5 _ => L + 2 - (intOf s5).toNat)
  case atStart =>
    exact ⟨0, 0, [], rfl, rfl, Sp.start s, World.ownsRow_made (base := w.heap.size) w #[] 0 (Nat.le_refl _) (Nat.zero_le _) rfl, (Below.refl _ w).alloc (Nat.le_refl _) _⟩
  case round =>
    obtain ⟨i, f, done, rfl, rfl, hsp, hown, hb⟩ := hrel
    have h1 := hsp.le
    have h2 := hsp.fle
    have h3 := hsp.dl
    rw [← hL] at h1
    have HSP := Lib.hid hsp
    have HB := Lib.hid hb
    have HL := Lib.hid hL
    have hBs := hb.size
    clear hsp hb hL
    by_cases hend : i = L + 1
    · have hle : ((i : Int) ≤ (L : Int)) = False := eq_false (by omega)
      have hsplit := HSP.out.end_ (by rw [hend, HL.out])
      obtain ⟨g, cap, rfl, _, hcap, _, hcell⟩ := own_pos hown (by rw [← hsplit]; exact List.length_pos_iff.2 (Ln.split_ne s))
      have HO := Lib.hid (And.intro hcell (And.intro hcap h3))
      have HI := Lib.hid (show i ≤ 1000001 by omega)
      rw [← hsplit] at HO ⊢
      clear hend hown hcell hcap hsplit h1 h2 h3
      go_wp2
      go_ret
      exact ⟨g, cap, rfl, HO.out.1, HB.out, HO.out.2.1, Nat.le_trans HO.out.2.2 HI.out⟩
    · have hle : ((i : Int) ≤ (L : Int)) = True := eq_true (by omega)
      have hi1 : IntKind.i64.wrap ((i : Int) + 1) = (i : Int) + 1 := by rw [IntKind.wrap_i64]; omega
      have hfi : (f : Int) ≤ (i : Int) := by omega
      have hil : (i : Int) ≤ (L : Int) := by omega
      have hx : (ba s).extract f i = ⟨((s.take i).drop f).toArray⟩ := by rw [ba, ba_extract]
      have HEnd := Lib.hid hend
      have HOWN := Lib.hid hown
      have HN := Lib.hid (show done.length ≤ 2097152 by omega)
      have HH := Lib.hid (And.intro h1 (And.intro h2 h3))
      clear hend hown h1 h2 h3
      by_cases hlast : i = L
      · have e1 : ((i : Int) == (L : Int)) = true := beq_iff_eq.2 (by omega)
        have HLast := Lib.hid hlast
        clear hlast
        go_wp2_with (at_builtin; refine append_str rfl (.tmp 23) (.tmp 28) rfl rfl HOWN.out rfl rfl ?ca ?cb ?cc ?_)
        case ca => rfl
        case cb => exact HN.out
        case cc => exact hBs
        intro v' w' hown hgrow
        have HB' := Lib.hid (HB.out.grown hgrow HB.out.size (fun j hj => (HOWN.out.lt j hj).1))
        have HO' := Lib.hid hown
        clear hown hgrow
        go_wp2
        go_roundw
        case rel =>
          have hl := HLast.out
          have hl2 := HL.out
          have hsp' := HSP.out
          subst hl hl2
          exact ⟨_, _, _, by push_cast; rfl, by push_cast; rfl, hsp'.last, by have := HO'.out; simpa [sv] using this, HB'.out⟩
        case measure => have := HH.out; have := HLast.out; simp [intOf]; omega
      · have e1 : ((i : Int) == (L : Int)) = false := beq_eq_false_iff_ne.2 (by omega)
        have e2 : ((i : Int) = (L : Int)) = False := eq_false (by omega)
        have hlt : (i : Int) < (L : Int) := by omega
        have hltn : i < s.length := by rw [← HL.out]; omega
        obtain ⟨x, hxx⟩ : ∃ x, x = s.getD i 0 := ⟨_, rfl⟩
        have hidx : ∀ h : i < (ba s).size, (ba s)[i]'h = x := fun h => by rw [byte_at, ba_list]; exact hxx.symm
        have HX := Lib.hid hxx
        have HLt := Lib.hid hltn
        clear hlast hltn hxx
        by_cases h44 : x = 44
        · subst h44
          go_wp2_with (at_builtin; refine append_str rfl (.tmp 23) (.tmp 28) rfl rfl HOWN.out rfl rfl ?ca ?cb ?cc ?_)
          case ca => rfl
          case cb => exact HN.out
          case cc => exact hBs
          intro v' w' hown hgrow
          have HB' := Lib.hid (HB.out.grown hgrow HB.out.size (fun j hj => (HOWN.out.lt j hj).1))
          have HO' := Lib.hid hown
          clear hown hgrow
          go_wp2
          go_roundw
          case rel => exact ⟨_, _, _, by push_cast; rfl, by push_cast; rfl, HSP.out.comma HLt.out HX.out.symm, by have := HO'.out; simpa [sv] using this, HB'.out⟩
          case measure => have := HH.out; simp [intOf]; omega
        · have k44 : (x.toNat : Int) ≠ 44 := fun e => h44 (UInt8.toNat_inj.1 (by show x.toNat = 44; omega))
          have k1 : ((x.toNat : Int) == 44) = false := beq_eq_false_iff_ne.2 k44
          have k2 : ((x.toNat : Int) = 44) = False := eq_false k44
          have HNE := Lib.hid h44
          clear h44 k44
          go_wp2
          go_roundw
          case rel => exact ⟨_, _, _, by push_cast; rfl, rfl, HSP.out.other HLt.out (by rw [← HX.out]; exact HNE.out), HOWN.out, HB.out⟩
          case measure => have := HH.out; simp [intOf]; omega
end Go.Proofs.YtniinebgmkginaaDoor
