/- How a script begins, and each statement as its shape says, in plain words (layer 15). (Laid in round 14, ahead of stage 15.) -/
import Derived.Test.YtiikionoagmabaaDoorPA
namespace Go.Proofs.YtiikionoagmabaaDoor
namespace Ps
open Lx (Tok)

/-! ParseModes. -/
theorem mode_nil : mode [] = 0 := rfl
theorem all_begins {x : List UInt8} (hx : x = [] ∨ Lx.Name x) : all (begins x) = if mode x ≠ 0 then .ok (mode x, [], []) else .error (5, 20) := by
  rcases hx with rfl | hx
  · rw [if_neg (by decide)]
    exact of_isErr (by decide +kernel)
  · have hl := begins_len x
    have h12 := hx.2.2
    have h := begins_toks hx [] (by rw [List.append_nil]; omega)
    rw [List.append_nil, Lx.toks_nil] at h
    unfold all
    rw [h]
    show prog (hdr x ++ [⟨0, [], (begins x).length + 0⟩]) = _
    by_cases hm : mode x ≠ 0
    · rw [if_pos hm, prog_hdr hm]
      rfl
    · rw [if_neg hm]
      unfold prog
      rw [hdr]
      simp only [List.cons_append, List.nil_append, head]
      rw [if_pos (by decide), if_neg (fun e => hm e.2)]
/-- A name, and a script behind it. -/
def behindS : List UInt8 := [32, 109, 111, 100, 101, 32, 115, 109, 116, 112, 59]
theorem all_behind {x : List UInt8} (hx : x = [] ∨ Lx.Name x) : (x = [] → all (x ++ behindS) = .ok (1, [], [])) ∧ (x ≠ [] → all (x ++ behindS) = .error (if x = wMode then 5 else 0, 20)) := by
  refine ⟨fun h => ?_, fun h => ?_⟩
  · subst h
    exact of_isOk (by decide +kernel)
  · rcases hx with rfl | hx
    · exact absurd rfl h
    have h12 := hx.2.2
    have hl : (x ++ behindS).length ≤ 2000 := by simp [behindS]; omega
    have e : Lx.all (x ++ behindS) = .ok [⟨1, x, 0⟩, ⟨1, wMode, x.length + 1⟩, ⟨1, [115, 109, 116, 112], x.length + 6⟩, ⟨4, [59], x.length + 10⟩, ⟨0, [], x.length + 11⟩] := by
      have hs : Lx.Name [115, 109, 116, 112] := known_name (x := [115, 109, 116, 112]) (by decide)
      rw [Lx.all_toks hl, Lx.toks_name hx (by rfl) (by decide) (by simp)]
      have e1 : behindS = 32 :: (wMode ++ 32 :: ([115, 109, 116, 112] ++ [59])) := rfl
      rw [e1, Lx.toks_blank _ _ _ _ (by decide), Lx.toks_name mode_name (by rfl) (by decide) (by simp [wMode]), Lx.toks_blank _ _ _ _ (by decide), Lx.toks_name hs (by rfl) (by decide) (by simp [wMode] <;> omega), Lx.toks_sign (by decide) (by decide) (by simp [wMode] <;> omega), Lx.toks_nil, Lx.mapE_mapE, Lx.mapE_mapE, Lx.mapE_mapE]
      simp only [Lx.mapE, List.length_append, List.length_cons, List.length_nil, List.cons_append, List.nil_append, wMode]
      congr 1
      simp only [List.cons.injEq, Lx.Tok.mk.injEq, true_and, and_true]
      omega
    unfold all
    rw [e]
    show prog _ = _
    unfold prog head
    by_cases hw : x = wMode
    · subst hw
      rw [if_pos rfl]
      rfl
    · rw [if_neg hw]
      have : isName wMode ⟨1, x, 0⟩ = false := by simp [isName, hw]
      simp only [this]
      rfl

/-! ParseShapes: a text written piece by piece, a blank ahead of each. -/
structure Pc where
  p : List UInt8
  kd : Nat
  t : List UInt8
def Pc.Ok (c : Pc) : Prop := ∀ L k r, (r = [] ∨ r.head? = some 32) → k < 400 → c.p.length + r.length ≤ L → Lx.toks L k (c.p ++ r) = Lx.mapE [⟨c.kd, c.t, L - (c.p.length + r.length)⟩] (Lx.toks L (k + 1) r)
def str : List Pc → List UInt8
  | [] => []
  | c :: cs => 32 :: (c.p ++ str cs)
def tk : Nat → List Pc → List Tok
  | _, [] => []
  | pos, c :: cs => ⟨c.kd, c.t, pos + 1⟩ :: tk (pos + 1 + c.p.length) cs
theorem str_head : ∀ (cs : List Pc) (r : List UInt8), (r = [] ∨ r.head? = some 32) → str cs ++ r = [] ∨ (str cs ++ r).head? = some 32
  | [], r, h => by simpa [str] using h
  | c :: cs, r, _ => .inr rfl
theorem toks_pieces : ∀ (cs : List Pc), (∀ c ∈ cs, c.Ok) → ∀ (L k pos : Nat) (r : List UInt8), (r = [] ∨ r.head? = some 32) → k + cs.length ≤ 400 → pos + (str cs).length + r.length = L → Lx.toks L k (str cs ++ r) = Lx.mapE (tk pos cs) (Lx.toks L (k + cs.length) r)
  | [], _, L, k, pos, r, _, _, _ => by rw [str, tk, List.nil_append, Lx.mapE_nil]; rfl
  | c :: cs, h, L, k, pos, r, hr, hk, hL => by
    have hc := h c (by simp)
    simp only [str, List.length_cons, List.length_append] at hL hk
    rw [str, List.cons_append, Lx.toks_blank _ _ _ _ (by decide), List.append_assoc, hc L k _ (str_head cs r hr) (by omega) (by rw [List.length_append]; omega),
      toks_pieces cs (fun x hx => h x (by simp [hx])) L (k + 1) (pos + 1 + c.p.length) r hr (by omega) (by omega), Lx.mapE_mapE, tk, List.length_append, List.length_cons]
    rw [show L - (c.p.length + ((str cs).length + r.length)) = pos + 1 by omega, show k + 1 + cs.length = k + (cs.length + 1) by omega]
    rfl
theorem edge {r : List UInt8} {p : UInt8 → Bool} (hp : p 32 = false) (h : r = [] ∨ r.head? = some 32) : (r.head?.map p).getD false = false := by
  rcases h with rfl | h
  · rfl
  · rw [h]; simpa using hp
def nameP (x : List UInt8) : Pc := ⟨x, 1, x⟩
def intP (x : List UInt8) : Pc := ⟨x, 2, x⟩
def textP (x : List UInt8) : Pc := ⟨34 :: (Lx.esc x ++ [34]), 3, x⟩
def signP (c : UInt8) : Pc := ⟨[c], 4, [c]⟩
theorem nameP_ok {x : List UInt8} (h : Lx.Name x) : (nameP x).Ok := fun L k r hr hk hL => Lx.toks_name h (edge (by decide) hr) hk hL
theorem intP_ok {x : List UInt8} (h0 : x ≠ []) (hall : ∀ c ∈ x, Lx.digit c = true) (h9 : x.length ≤ 9) : (intP x).Ok := fun L k r hr hk hL => Lx.toks_int h0 hall h9 (edge (by decide) hr) hk hL
theorem textP_ok {x : List UInt8} (ht : x.length ≤ 100) (hq : x.all Lx.mayQ = true) : (textP x).Ok := fun L k r hr hk hL => by
  have hlen : (textP x).p.length = (Lx.esc x).length + 2 := by simp [textP]
  rw [hlen] at hL ⊢
  exact Lx.toks_text ht hq hk hL
theorem signP_ok {c : UInt8} (h : Lx.sign c = true) : (signP c).Ok := fun L k r hr hk hL => by
  have := Lx.toks_sign (L := L) (k := k) (r := r) h hk (by simp [signP] at hL; omega)
  simp only [signP, List.singleton_append, List.length_singleton] at this ⊢
  rw [this, Nat.add_comm 1]
def wName : List UInt8 := [110, 97, 109, 101]
/-- A statement of each kind: its first word, what follows; the last sign. -/
def pieces (k : Nat) (a b d : List UInt8) : List Pc := match k with
  | 1 => [nameP wLet, nameP wName, signP 61, textP a]
  | 2 => [nameP [103, 114, 101, 101, 116], textP a]
  | 3 => [nameP [115, 101, 110, 100], textP a, textP b]
  | 4 => [nameP [99, 97, 112, 115], textP a, textP b]
  | 5 => [nameP wIf, nameP wCode, textP a, signP 123]
  | 6 => [nameP [112, 105, 112, 101], intP d, signP 123]
  | 7 => [nameP [97, 117, 116, 104], nameP wName, textP a, textP b]
  | 8 => [nameP [100, 97, 116, 97], textP a, textP b]
  | 9 => [nameP [98, 111, 100, 121], nameP wName, textP a, textP b]
  | 10 => [nameP [103, 101, 116], nameP wName, textP a]
  | 11 => [nameP [112, 117, 116], textP a, textP b]
  | 12 => [nameP [116, 105, 109, 101, 111, 117, 116], intP d]
  | 13 => [nameP [108, 97, 98, 101, 108], nameP wName]
  | 14 => [nameP [103, 111, 116, 111], nameP wName]
  | 15 => [nameP [111, 110], nameP wName]
  | 16 => [nameP [112, 114, 105, 110, 116], textP a]
  | _ => [nameP [115, 116, 111, 112]]
def lastC (k : Nat) : UInt8 := if k = 5 ∨ k = 6 then 125 else 59
/-- What it says. -/
def shaped (k : Nat) (a b d : List UInt8) : St := match k with
  | 1 => ⟨1, wName, a, [], 0, 10, [], []⟩
  | 2 => ⟨2, [], a, [], 0, 10, [], []⟩
  | 3 => ⟨3, a, b, [], 0, 10, [], []⟩
  | 4 => ⟨4, a, b, [], 0, 10, [], []⟩
  | 5 => ⟨5, wCode, a, [], 0, 10, [], []⟩
  | 6 => ⟨6, [], [], [], num d, 10, [], []⟩
  | 7 => ⟨7, wName, a, b, 0, 10, [], []⟩
  | 8 => ⟨8, a, b, [], 0, 10, [], []⟩
  | 9 => ⟨9, wName, a, b, 0, 10, [], []⟩
  | 10 => ⟨10, wName, a, [], 0, 10, [], []⟩
  | 11 => ⟨11, a, b, [], 0, 10, [], []⟩
  | 12 => ⟨12, [], [], [], num d, 10, [], []⟩
  | 13 => ⟨13, wName, [], [], 0, 10, [], []⟩
  | 14 => ⟨14, wName, [], [], 0, 10, [], []⟩
  | 15 => ⟨15, wName, [], [], 0, 10, [], []⟩
  | 16 => ⟨16, a, [], [], 0, 10, [], []⟩
  | _ => ⟨17, [], [], [], 0, 10, [], []⟩
theorem name_of {x : List UInt8} (h : (match x with | [] => false | c :: _ => Lx.small c) = true) (h2 : x.all Lx.inName = true) (h3 : x.length ≤ 12) : Lx.Name x := by
  cases x with
  | nil => cases h
  | cons c l => exact ⟨⟨c, l, rfl, h⟩, fun y hy => List.all_eq_true.1 h2 y hy, h3⟩
structure Fit (a b d : List UInt8) : Prop where
  al : a.length ≤ 100
  aq : a.all Lx.mayQ = true
  bl : b.length ≤ 100
  bq : b.all Lx.mayQ = true
  d0 : d ≠ []
  dd : ∀ c ∈ d, Lx.digit c = true
  d9 : d.length ≤ 9
theorem pieces_ok {a b d : List UInt8} (h : Fit a b d) (k : Nat) (hk : 1 ≤ k) (hk2 : k ≤ 17) : ∀ c ∈ pieces k a b d, c.Ok := by
  have hn : ∀ x, (match x with | [] => false | c :: _ => Lx.small c) = true → x.all Lx.inName = true → x.length ≤ 12 → (nameP x).Ok := fun x h1 h2 h3 => nameP_ok (name_of h1 h2 h3)
  have ha := textP_ok h.al h.aq
  have hb := textP_ok h.bl h.bq
  have hd := intP_ok h.d0 h.dd h.d9
  have hs := fun c (hc : Lx.sign c = true) => signP_ok hc
  have nn := hn wName rfl rfl (by decide)
  have hks : k = 1 ∨ k = 2 ∨ k = 3 ∨ k = 4 ∨ k = 5 ∨ k = 6 ∨ k = 7 ∨ k = 8 ∨ k = 9 ∨ k = 10 ∨ k = 11 ∨ k = 12 ∨ k = 13 ∨ k = 14 ∨ k = 15 ∨ k = 16 ∨ k = 17 := by omega
  intro c hc
  rcases hks with rfl | rfl | rfl | rfl | rfl | rfl | rfl | rfl | rfl | rfl | rfl | rfl | rfl | rfl | rfl | rfl | rfl <;> simp only [pieces, List.mem_cons, List.not_mem_nil, or_false] at hc
  all_goals (first | (rcases hc with rfl | rfl | rfl | rfl) | (rcases hc with rfl | rfl | rfl) | (rcases hc with rfl | rfl) | subst hc)
  all_goals (first | exact ha | exact hb | exact hd | exact nn | exact hs _ rfl | exact hn _ rfl rfl (by decide))
theorem signed_ok {a b d : List UInt8} (h : Fit a b d) (k : Nat) (hk : 1 ≤ k) (hk2 : k ≤ 17) : ∀ c ∈ pieces k a b d ++ [signP (lastC k)], c.Ok := fun c hc => by
  rcases List.mem_append.1 hc with hc | hc
  · exact pieces_ok h k hk hk2 c hc
  · rw [List.mem_singleton.1 hc]
    refine signP_ok ?_
    unfold lastC
    split <;> rfl
theorem pieces_few (k : Nat) (a b d : List UInt8) : (pieces k a b d).length ≤ 4 := by
  unfold pieces
  split <;> simp
/-- Read as its shape says. -/
theorem shaped_tops (k : Nat) (a b d : List UInt8) (hk : 1 ≤ k) (hk2 : k ≤ 17) (L : Nat) : tops (fuel (tk 9 (pieces k a b d ++ [signP (lastC k)]) ++ [(⟨0, [], L⟩ : Tok)]).length) [] (tk 9 (pieces k a b d ++ [signP (lastC k)]) ++ [⟨0, [], L⟩]) = .ok ([0], [shaped k a b d]) := by
  have hks : k = 1 ∨ k = 2 ∨ k = 3 ∨ k = 4 ∨ k = 5 ∨ k = 6 ∨ k = 7 ∨ k = 8 ∨ k = 9 ∨ k = 10 ∨ k = 11 ∨ k = 12 ∨ k = 13 ∨ k = 14 ∨ k = 15 ∨ k = 16 ∨ k = 17 := by omega
  rcases hks with rfl | rfl | rfl | rfl | rfl | rfl | rfl | rfl | rfl | rfl | rfl | rfl | rfl | rfl | rfl | rfl | rfl <;> rfl
/-- Without the last sign: nothing. -/
theorem cut_tops (k : Nat) (a b d : List UInt8) (hk : 1 ≤ k) (hk2 : k ≤ 17) (L : Nat) : tops (fuel (tk 9 (pieces k a b d) ++ [(⟨0, [], L⟩ : Tok)]).length) [] (tk 9 (pieces k a b d) ++ [⟨0, [], L⟩]) = .error (L, 20) := by
  have hks : k = 1 ∨ k = 2 ∨ k = 3 ∨ k = 4 ∨ k = 5 ∨ k = 6 ∨ k = 7 ∨ k = 8 ∨ k = 9 ∨ k = 10 ∨ k = 11 ∨ k = 12 ∨ k = 13 ∨ k = 14 ∨ k = 15 ∨ k = 16 ∨ k = 17 := by omega
  rcases hks with rfl | rfl | rfl | rfl | rfl | rfl | rfl | rfl | rfl | rfl | rfl | rfl | rfl | rfl | rfl | rfl | rfl <;> rfl
def ftpS : List UInt8 := [102, 116, 112]
theorem shape_ok {a b d : List UInt8} (h : Fit a b d) (k : Nat) (hk : 1 ≤ k) (hk2 : k ≤ 17) (hl : (begins ftpS ++ str (pieces k a b d ++ [signP (lastC k)])).length ≤ 2000) :
    all (begins ftpS ++ str (pieces k a b d ++ [signP (lastC k)])) = .ok (3, [shaped k a b d], [0]) := by
  have hm : mode ftpS ≠ 0 := by decide
  have h9 : (begins ftpS).length = 9 := rfl
  have ht := toks_pieces _ (signed_ok h k hk hk2) (9 + (str (pieces k a b d ++ [signP (lastC k)])).length) 3 9 [] (.inl rfl) (by have := pieces_few k a b d; rw [List.length_append, List.length_singleton]; omega) (by simp)
  rw [List.append_nil, Lx.toks_nil] at ht
  unfold all
  rw [begins_toks (known_name hm) _ hl, h9, ht]
  show prog (hdr ftpS ++ (tk 9 (pieces k a b d ++ [signP (lastC k)]) ++ [⟨0, [], 9 + (str (pieces k a b d ++ [signP (lastC k)])).length⟩])) = _
  rw [prog_hdr hm]
  unfold rest
  rw [shaped_tops k a b d hk hk2]
  rfl
theorem shape_cut {a b d : List UInt8} (h : Fit a b d) (k : Nat) (hk : 1 ≤ k) (hk2 : k ≤ 17) (hl : (begins ftpS ++ (str (pieces k a b d) ++ [32])).length ≤ 2000) :
    ∃ p, all (begins ftpS ++ (str (pieces k a b d) ++ [32])) = .error (p, 20) := by
  have hm : mode ftpS ≠ 0 := by decide
  have h9 : (begins ftpS).length = 9 := rfl
  have ht := toks_pieces _ (pieces_ok h k hk hk2) (9 + (str (pieces k a b d) ++ [32]).length) 3 9 [32] (.inr rfl) (by have := pieces_few k a b d; omega) (by simp; omega)
  rw [Lx.toks_blank _ _ _ _ (by decide), Lx.toks_nil] at ht
  unfold all
  rw [begins_toks (known_name hm) _ hl, h9, ht]
  show ∃ p, prog (hdr ftpS ++ (tk 9 (pieces k a b d) ++ [⟨0, [], 9 + (str (pieces k a b d) ++ [32]).length⟩])) = _
  rw [prog_hdr hm]
  unfold rest
  rw [cut_tops k a b d hk hk2]
  exact ⟨_, rfl⟩
/-- What is written, and without its last byte. -/
theorem str_snoc : ∀ (cs : List Pc) (c : UInt8), str (cs ++ [signP c]) = str cs ++ [32, c]
  | [], c => rfl
  | x :: cs, c => by
    show 32 :: (x.p ++ str (cs ++ [signP c])) = _
    rw [str_snoc cs c, str, List.cons_append, List.append_assoc]
theorem str_cut (cs : List Pc) (c : UInt8) : (str (cs ++ [signP c])).dropLast = str cs ++ [32] := by
  rw [str_snoc, show str cs ++ [32, c] = (str cs ++ [32]) ++ [c] by simp, List.dropLast_concat]
end Ps
end Go.Proofs.YtiikionoagmabaaDoor
