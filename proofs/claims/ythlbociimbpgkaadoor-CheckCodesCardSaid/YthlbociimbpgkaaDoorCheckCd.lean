/- The scripts of CheckCodes, in plain words: a text as codes of one statement (layer 17). (Laid in round 16, ahead of stage 17.) -/
import Derived.Test.YthlbociimbpgkaaDoorCA
import Derived.Test.YthlbociimbpgkaaDoorPA
namespace Go.Proofs.YthlbociimbpgkaaDoor
namespace Ck
open Ps (St)
open Lx (Tok)

/-- How the three statements begin, and end. -/
def preW (w : Nat) : List UInt8 := if w = 0 then [103, 114, 101, 101, 116, 32] else if w = 1 then [115, 101, 110, 100, 32, 34, 120, 34, 32] else [105, 102, 32, 99, 111, 100, 101, 32]
def postW (w : Nat) : List UInt8 := if w = 2 then [32, 123, 125] else [59]
def wGreet : List UInt8 := [103, 114, 101, 101, 116]
def wSend : List UInt8 := [115, 101, 110, 100]
def stmtQ (w : Nat) (c : List UInt8) : List UInt8 := preW w ++ (34 :: (Lx.esc c ++ [34]) ++ postW w)
theorem greet_name : Lx.Name wGreet := ⟨⟨103, [114, 101, 101, 116], rfl, by decide⟩, by decide, by decide⟩
theorem send_name : Lx.Name wSend := ⟨⟨115, [101, 110, 100], rfl, by decide⟩, by decide, by decide⟩
theorem if_name : Lx.Name Ps.wIf := ⟨⟨105, [102], rfl, by decide⟩, by decide, by decide⟩
theorem code_name : Lx.Name Ps.wCode := ⟨⟨99, [111, 100, 101], rfl, by decide⟩, by decide, by decide⟩
/-- What may stand in codes as the law has them. -/
structure Fq (c : List UInt8) : Prop where
  few : c.length ≤ 100
  may : c.all Lx.mayQ = true
theorem esc_len (c : List UInt8) : (Lx.esc c).length ≤ 2 * c.length := by
  induction c with
  | nil => exact Nat.le_refl _
  | cons x c ih =>
    show (Lx.esc1 x ++ Lx.esc c).length ≤ _
    have : (Lx.esc1 x).length ≤ 2 := by unfold Lx.esc1; repeat (first | split | simp)
    rw [List.length_append, List.length_cons]
    omega
theorem toks0 {L : Nat} {c : List UInt8} (h : Fq c) (hL : (stmtQ 0 c).length ≤ L) : ∃ p1 p2 p3, Lx.toks L 3 (stmtQ 0 c) = .ok [⟨1, wGreet, p1⟩, ⟨3, c, p2⟩, ⟨4, [59], p3⟩, ⟨0, [], L⟩] := by
  have e : stmtQ 0 c = wGreet ++ (32 :: (34 :: (Lx.esc c ++ [34]) ++ [59])) := rfl
  rw [e] at hL ⊢
  rw [Lx.toks_name greet_name (by rfl) (by decide) (by rw [List.length_append] at hL; exact hL), Lx.toks_blank _ _ _ _ (by decide), Lx.toks_text h.few h.may (by decide) (by simp [wGreet] at hL ⊢; omega), Lx.toks_sign (by decide) (by decide) (by simp [wGreet] at hL ⊢; omega), Lx.toks_nil, Lx.mapE_mapE, Lx.mapE_mapE]
  exact ⟨_, _, _, rfl⟩
theorem toks1 {L : Nat} {c : List UInt8} (h : Fq c) (hL : (stmtQ 1 c).length ≤ L) : ∃ p1 p2 p3 p4, Lx.toks L 3 (stmtQ 1 c) = .ok [⟨1, wSend, p1⟩, ⟨3, [120], p2⟩, ⟨3, c, p3⟩, ⟨4, [59], p4⟩, ⟨0, [], L⟩] := by
  have e : stmtQ 1 c = wSend ++ (32 :: (34 :: (Lx.esc [120] ++ [34]) ++ (32 :: (34 :: (Lx.esc c ++ [34]) ++ [59])))) := rfl
  rw [e] at hL ⊢
  rw [Lx.toks_name send_name (by rfl) (by decide) (by rw [List.length_append] at hL; exact hL), Lx.toks_blank _ _ _ _ (by decide), Lx.toks_text (by decide) (by decide) (by decide) (by simp [wSend, Lx.esc, Lx.esc1] at hL ⊢; omega), Lx.toks_blank _ _ _ _ (by decide), Lx.toks_text h.few h.may (by decide) (by simp [wSend, Lx.esc, Lx.esc1] at hL ⊢; omega), Lx.toks_sign (by decide) (by decide) (by simp [wSend] at hL ⊢; omega), Lx.toks_nil, Lx.mapE_mapE, Lx.mapE_mapE, Lx.mapE_mapE]
  exact ⟨_, _, _, _, rfl⟩
theorem toks2 {L : Nat} {c : List UInt8} (h : Fq c) (hL : (stmtQ 2 c).length ≤ L) : ∃ p1 p2 p3 p4 p5, Lx.toks L 3 (stmtQ 2 c) = .ok [⟨1, Ps.wIf, p1⟩, ⟨1, Ps.wCode, p2⟩, ⟨3, c, p3⟩, ⟨4, [123], p4⟩, ⟨4, [125], p5⟩, ⟨0, [], L⟩] := by
  have e : stmtQ 2 c = Ps.wIf ++ (32 :: (Ps.wCode ++ (32 :: (34 :: (Lx.esc c ++ [34]) ++ (32 :: 123 :: [125]))))) := rfl
  rw [e] at hL ⊢
  rw [Lx.toks_name if_name (by rfl) (by decide) (by rw [List.length_append] at hL; exact hL), Lx.toks_blank _ _ _ _ (by decide), Lx.toks_name code_name (by rfl) (by decide) (by simp [Ps.wIf, Ps.wCode] at hL ⊢; omega), Lx.toks_blank _ _ _ _ (by decide), Lx.toks_text h.few h.may (by decide) (by simp [Ps.wIf, Ps.wCode] at hL ⊢; omega), Lx.toks_blank _ _ _ _ (by decide), Lx.toks_sign (by decide) (by decide) (by simp [Ps.wIf, Ps.wCode] at hL ⊢; omega), Lx.toks_sign (by decide) (by decide) (by simp [Ps.wIf, Ps.wCode] at hL ⊢; omega), Lx.toks_nil, Lx.mapE_mapE, Lx.mapE_mapE, Lx.mapE_mapE, Lx.mapE_mapE]
  exact ⟨_, _, _, _, _, rfl⟩
/-- The one statement that is read. -/
def stQ (w p : Nat) (c : List UInt8) : St := if w = 0 then ⟨2, [], c, [], 0, p, [], []⟩ else if w = 1 then ⟨3, [120], c, [], 0, p, [], []⟩ else ⟨5, Ps.wCode, c, [], 0, p, [], []⟩
theorem all_stmt {x : List UInt8} (hm : Ps.mode x ≠ 0) {w : Nat} (hw : w < 3) {c : List UInt8} (h : Fq c) : ∃ p, Ps.all (Ps.begins x ++ stmtQ w c) = .ok (Ps.mode x, [stQ w p c], [0]) := by
  have hx := Ps.known_name hm
  have h12 := hx.2.2
  have he := esc_len c
  have hc := h.few
  have hl : (Ps.begins x ++ stmtQ w c).length ≤ 2000 := by
    have h1 : (preW w).length ≤ 9 := by unfold preW; repeat (first | split | simp)
    have h2 : (postW w).length ≤ 3 := by unfold postW; split <;> simp
    simp only [stmtQ, List.length_append, List.length_cons, Ps.begins, Ps.wMode, List.length_nil]
    omega
  unfold Ps.all
  rw [Ps.begins_toks hx _ hl]
  have hw3 : w = 0 ∨ w = 1 ∨ w = 2 := by omega
  rcases hw3 with rfl | rfl | rfl
  · obtain ⟨p1, p2, p3, e⟩ := toks0 (L := (Ps.begins x).length + (stmtQ 0 c).length) h (by omega)
    rw [e]
    refine ⟨p1, ?_⟩
    show Ps.prog (Ps.hdr x ++ _) = _
    rw [Ps.prog_hdr hm]
    rfl
  · obtain ⟨p1, p2, p3, p4, e⟩ := toks1 (L := (Ps.begins x).length + (stmtQ 1 c).length) h (by omega)
    rw [e]
    refine ⟨p1, ?_⟩
    show Ps.prog (Ps.hdr x ++ _) = _
    rw [Ps.prog_hdr hm]
    rfl
  · obtain ⟨p1, p2, p3, p4, p5, e⟩ := toks2 (L := (Ps.begins x).length + (stmtQ 2 c).length) h (by omega)
    rw [e]
    refine ⟨p1, ?_⟩
    show Ps.prog (Ps.hdr x ++ _) = _
    rw [Ps.prog_hdr hm]
    rfl
theorem wrong_stQ (md w p : Nat) (hw : w < 3) (c : List UInt8) : wrong md [stQ w p c] 0 (stQ w p c) = if Ln.codes (md : Int) c = true then 0 else 34 := by
  have hw3 : w = 0 ∨ w = 1 ∨ w = 2 := by omega
  have hm : modeOk md [stQ w p c] (stQ w p c) = true := by rcases hw3 with rfl | rfl | rfl <;> rfl
  have hk : (stQ w p c).kind = 2 ∨ (stQ w p c).kind = 3 ∨ (stQ w p c).kind = 5 := by
    rcases hw3 with rfl | rfl | rfl
    · exact .inl rfl
    · exact .inr (.inl rfl)
    · exact .inr (.inr rfl)
  have hc : codesOf (stQ w p c) = some c := by rcases hw3 with rfl | rfl | rfl <;> rfl
  have ht : (textsOf (stQ w p c)).all (known [stQ w p c]) = true := by rcases hw3 with rfl | rfl | rfl <;> rfl
  unfold wrong
  rw [hm, if_neg (by decide), if_neg (by rintro ⟨e, _⟩; omega), hc, ht]
  show (if Ln.codes (md : Int) c = false then 34 else _) = _
  cases Ln.codes (md : Int) c with
  | false => rfl
  | true => rw [if_neg (by decide), if_neg (by rintro ⟨e, _⟩; omega), if_neg (by rintro ⟨e, _⟩; omega), if_neg (by decide), if_pos rfl]
/-- What the law asks. -/
theorem codes_law {x : List UInt8} (hm : Ps.mode x ≠ 0) {w : Nat} (hw : w < 3) {c : List UInt8} (h : Fq c) :
    (Ln.codes (Ps.mode x : Int) c = true → ∃ q, source (Ps.begins x ++ stmtQ w c) = .ok q) ∧ (Ln.codes (Ps.mode x : Int) c = false → ∃ p, source (Ps.begins x ++ stmtQ w c) = .error (p, 34)) := by
  obtain ⟨p, e⟩ := all_stmt hm hw h
  have hwr := wrong_stQ (Ps.mode x) w p hw c
  unfold source
  rw [e]
  refine ⟨fun hc => ?_, fun hc => ?_⟩
  · rw [hc, if_pos rfl] at hwr
    have : prog (Ps.mode x) [stQ w p c] = (0, 0) := by
      unfold prog
      rw [progGo, if_pos hwr]; rfl
    exact ⟨_, by dsimp only; rw [this, if_pos rfl]⟩
  · rw [hc, if_neg (by simp)] at hwr
    have : prog (Ps.mode x) [stQ w p c] = ((stQ w p c).place, 34) := by
      unfold prog
      rw [progGo, if_neg (by rw [hwr]; decide), hwr]
    exact ⟨_, by dsimp only; rw [this, if_neg (by show ¬ (34 : Nat) = 0; decide)]⟩
end Ck
end Go.Proofs.YthlbociimbpgkaaDoor
