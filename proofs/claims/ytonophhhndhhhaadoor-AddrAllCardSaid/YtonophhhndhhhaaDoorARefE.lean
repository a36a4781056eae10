/- The reference's Epsv walked (layer 13; by gen_arefe.py). -/
import Derived.Test.YtonophhhndhhhaaDoorAddrEps
import Derived.Test.YtonophhhndhhhaaDoorARefN
import Derived.Test.YtonophhhndhhhaaDoorRefNum
namespace Go.Proofs.YtonophhhndhhhaaDoor
open Go.RowKit

namespace Ad
open Tx
theorem until40 : ∀ l : List UInt8, ∃ k, k ≤ l.length ∧ (∀ j, j < k → ∃ c, l[j]? = some c ∧ c ≠ 40) ∧ (l.drop k = l.dropWhile fun b => b != 40) ∧ (k < l.length → l[k]? = some 40)
  | [] => ⟨0, Nat.le_refl _, fun j h => absurd h (by omega), rfl, fun h => absurd h (by simp)⟩
  | b :: l => by
    by_cases hb : b = 40
    · subst hb
      exact ⟨0, Nat.zero_le _, fun j h => absurd h (by omega), rfl, fun _ => rfl⟩
    · obtain ⟨k, h1, h2, h3, h4⟩ := until40 l
      have hb2 : (b != 40) = true := bne_iff_ne.2 hb
      refine ⟨k + 1, by simp; omega, fun j hj => ?_, by rw [List.dropWhile_cons, hb2, if_pos rfl, List.drop_succ_cons, h3], fun h => ?_⟩
      · cases j with
        | zero => exact ⟨b, rfl, hb⟩
        | succ j =>
          obtain ⟨c, e1, e2⟩ := h2 j (by omega)
          exact ⟨c, by simpa using e1, e2⟩
      · simpa using h4 (by simpa using h)
theorem epsvAt_short {m : List UInt8} (h : m.length ≤ 4) : epsvAt m = none := by
  match m with
  | [] => rfl
  | [_] => rfl
  | [_, _] => rfl
  | [_, _, _] => rfl
  | [_, d, d1, d2] =>
    unfold epsvAt
    simp only
    split
    · have : num 65535 5 [] = none := rfl
      rw [this]
    · rfl
  | _ :: _ :: _ :: _ :: _ :: m => simp at h
/-- What ends a port. -/
def ends (n : Int) (d : UInt8) : List UInt8 → Option Int
  | e :: f :: _ => if n ≠ 0 ∧ e = d ∧ f = 41 then some n else none
  | _ => none
theorem epsvAt_go {d : UInt8} {r : List UInt8} (h : 33 ≤ d.toNat ∧ d.toNat ≤ 126 ∧ dig d = false) : epsvAt (40 :: d :: d :: d :: r) = (num 65535 5 r).bind fun x => ends x.1 d x.2 := by
  rw [epsvAt, if_pos ⟨h.1, h.2.1, h.2.2, rfl, rfl⟩]
  cases num 65535 5 r with
  | none => rfl
  | some x =>
    obtain ⟨n, q⟩ := x
    match q with
    | [] => rfl
    | [_] => rfl
    | _ :: _ :: _ => rfl
end Ad

set_option maxHeartbeats 8000000 in
theorem repsv_any (l : List UInt8) (hl : l.length ≤ 1048576) (w : World) :
    Calls Tryd.prog 13 #[.string ⟨l.toArray⟩] w fun e w' => e = .returned (adr ((Ad.epsv l).map Ad.mk)) ∧ Below w.heap.size w w' := by
  have hz : (⟨l.toArray⟩ : ByteArray).size = l.length := rfl
  obtain ⟨k, hkl, hlow, hdrop, hat⟩ := Ad.until40 l
  have hbyte : ∀ (i : Nat) c, l[i]? = some c → ∀ h, ((⟨l.toArray⟩ : ByteArray)[i]'h).toNat = c.toNat := by
    intro i c hc h
    rw [byte_at]
    simp [hc]
  have HBY := Lib.hid hbyte
  have HLOW := Lib.hid hlow
  have HAT := Lib.hid hat
  have HRES := Lib.hid (show Ad.epsv l = Ad.epsvAt (l.drop k) by unfold Ad.epsv; rw [hdrop])
  have DI := Lib.hid (fun i wx => rdigit_any l i hl wx)
  have NB := Lib.hid (fun a ha wx => rnumber_any l a hl ha wx)
  have RN := Lib.hid (fun (s : ByteArray) hs wx => ref_number s 65535 wx hs)
  have HB0 := Lib.hid (fun o => (Below.refl w.heap.size w).alloc (Nat.le_refl _) o)
  clear hbyte hlow hat hdrop
  go_enter Tryd.func13, Tryd.ntmps13
  go_wp2_with fail
  go_loop [4] (fun s4 => ∃ j : Nat, j ≤ k ∧ s4 = .int .i64 j) (fun s4 => k - (intOf s4).toNat)
  case atStart => exact ⟨0, by omega, rfl⟩
  case round =>
    obtain ⟨j, hj, rfl⟩ := hrel
    by_cases hjk : j < k
    · obtain ⟨c, hc1, hc2⟩ := HLOW.out j hjk
      have hx := HBY.out j c hc1
      obtain ⟨n, hn⟩ : ∃ n, c.toNat = n := ⟨_, rfl⟩
      rw [hn] at hx
      have hn40 : n ≠ 40 := fun e => hc2 (UInt8.toNat_inj.1 (hn.trans e))
      have hne : ((n : Int) != 40) = true := bne_iff_ne.2 (by omega)
      have hne2 : ((n : Int) == 40) = false := beq_eq_false_iff_ne.2 (by omega)
      have hne3 : ((n : Int) = 40) = False := eq_false (by omega)
      have hlt : (j : Int) < (l.length : Int) := by omega
      clear hc1 hc2 hn
      go_wp2
      go_round
      case rel => exact ⟨j + 1, by omega, by go_num⟩
      case measure => simp [intOf]; omega
    · obtain rfl : j = k := by omega
      clear hj hjk
      by_cases hjl : j < l.length
      · have hx := HBY.out j 40 (HAT.out hjl)
        have hlt : (j : Int) < (l.length : Int) := by omega
        rw [show (40 : UInt8).toNat = 40 from rfl] at hx
        by_cases h4 : j + 4 < l.length
        · have h4f : ((l.length : Int) ≤ (j : Int) + 4) = False := eq_false (by omega)
          obtain ⟨d, d1, d2, r, hm⟩ : ∃ d d1 d2 r, l.drop j = 40 :: d :: d1 :: d2 :: r := by
            have h40 := HAT.out hjl
            have hlen : (l.drop j).length = l.length - j := List.length_drop
            cases hm : l.drop j with
            | nil => rw [hm] at hlen; simp at hlen; omega
            | cons c0 m =>
              have : l[j]? = some c0 := by
                have := congrArg (fun m => m[0]?) hm
                simpa using this
              rw [this] at h40
              cases h40
              rw [hm] at hlen
              simp only [List.length_cons] at hlen
              match m, hlen with
              | d :: d1 :: d2 :: r, _ => exact ⟨d, d1, d2, r, rfl⟩
              | [], h => simp at h; omega
              | [_], h => simp at h; omega
              | [_, _], h => simp at h; omega
          have hat2 : ∀ i c, (l.drop j)[i]? = some c → l[j + i]? = some c := fun i c h => by rw [List.getElem?_drop] at h; exact h
          have x1 := HBY.out (j + 1) d (hat2 1 d (by rw [hm]; rfl))
          have x2 := HBY.out (j + 2) d1 (hat2 2 d1 (by rw [hm]; rfl))
          have x3 := HBY.out (j + 3) d2 (hat2 3 d2 (by rw [hm]; rfl))
          have hdg : Ad.rdig l (j + 1) = Tx.dig d := by
            unfold Ad.rdig
            rw [hat2 1 d (by rw [hm]; rfl)]
          have di := fun wx => DI.out (j + 1) wx
          rw [hdg] at di
          have hr : l.drop (j + 4) = r := by
            rw [← List.drop_drop, hm]
            rfl
          have HR := Lib.hid hr
          have HRS := Lib.hid (show Ad.epsv l = Ad.epsvAt (40 :: d :: d1 :: d2 :: r) by rw [← hm]; exact HRES.out)
          have hrl : r.length + (j + 4) = l.length := by rw [← hr, List.length_drop]; omega
          have hnx := fun wx => NB.out (j + 4) (by omega) wx
          rw [hr] at hnx
          have hat3 : ∀ i c, r[i]? = some c → l[j + 4 + i]? = some c := fun i c h => by rw [← hr, List.getElem?_drop] at h; exact h
          have HA3 := Lib.hid hat3
          clear hm hr hat2 hdg hat3
          obtain ⟨dn, hdn⟩ : ∃ n, d.toNat = n := ⟨_, rfl⟩
          obtain ⟨n1, hn1⟩ : ∃ n, d1.toNat = n := ⟨_, rfl⟩
          obtain ⟨n2, hn2⟩ : ∃ n, d2.toNat = n := ⟨_, rfl⟩
          obtain ⟨dd, hdd⟩ : ∃ b, Tx.dig d = b := ⟨_, rfl⟩
          rw [hdn] at x1
          rw [hn1] at x2
          rw [hn2] at x3
          rw [hdd] at di
          have i1 : IntKind.i64.wrap ((j : Int) + 1) = ((j + 1 : Nat) : Int) := by rw [IntWalk.i64_in _ ⟨by omega, by omega⟩]; omega
          have hb1 : (j + 1 : Int) < (l.length : Int) := by omega
          have hb2 : (j + 2 : Int) < (l.length : Int) := by omega
          have hb3 : (j + 3 : Int) < (l.length : Int) := by omega
          clear i1
          by_cases c1 : 33 ≤ dn
          · have c1f : ((dn : Int) < 33) = False := eq_false (by omega)
            by_cases c2 : dn ≤ 126
            · have c2f : ((126 : Int) < (dn : Int)) = False := eq_false (by omega)
              cases dd
              · by_cases c4 : n1 = dn
                · subst c4
                  have c4f : ((n1 : Int) != (n1 : Int)) = false := by simp
                  by_cases c5 : n2 = n1
                  · subst c5
                    have hd1 : d1 = d := UInt8.toNat_inj.1 (by omega)
                    have hd2 : d2 = d := UInt8.toNat_inj.1 (by omega)
                    rw [hd1, hd2] at HRS
                    clear hd1 hd2
                    have HEP := Lib.hid (show Ad.epsv l = (Ad.num 65535 5 r).bind fun x => Ad.ends x.1 d x.2 by rw [HRS.out]; exact Ad.epsvAt_go ⟨by omega, by omega, hdd⟩)
                    have hrr := Ad.run_past r
                    obtain ⟨R, hR⟩ : ∃ R, Ad.run r = R := ⟨_, rfl⟩
                    obtain ⟨P, hP⟩ : ∃ P, Ad.past r = P := ⟨_, rfl⟩
                    unfold Ad.num at HEP
                    rw [hR, hP] at hrr HEP
                    rw [hR] at hnx
                    have hrn := fun wx => RN.out ⟨R.toArray⟩ (by show R.length ≤ _; rw [← hR]; have := Ad.run_len r; omega) wx
                    rw [show (⟨R.toArray⟩ : ByteArray).data.toList = R from rfl] at hrn
                    have hRP : R.length + P.length = r.length := by rw [← hrr, List.length_append]
                    have hPa : ∀ i c, P[i]? = some c → l[j + 4 + (R.length + i)]? = some c := fun i c h => HA3.out _ _ (by rw [← hrr, List.getElem?_append_right (by omega)]; simpa using h)
                    have HPA := Lib.hid hPa
                    have hRz : (⟨R.toArray⟩ : ByteArray).size = R.length := rfl
                    obtain ⟨rl, hrl2⟩ : ∃ n, R.length = n := ⟨_, rfl⟩
                    obtain ⟨pl, hpl⟩ : ∃ n, P.length = n := ⟨_, rfl⟩
                    rw [hrl2] at hnx hRP hRz HPA HEP
                    rw [hpl] at hRP
                    obtain ⟨nm, hnm⟩ : ∃ nm, Tx.number R 65535 = nm := ⟨_, rfl⟩
                    rw [hnm] at hrn HEP
                    obtain ⟨n, ok⟩ := nm
                    unfold two at hrn
                    dsimp only at hrn HEP
                    have HPL := Lib.hid hpl
                    clear hrr hR hP hrl2 hnm hPa HA3 HRS HR hpl
                    have hs1 : ((j + 4 + rl : Nat) : Int) = (j : Int) + 4 + (rl : Int) := by omega
                    cases ok
                    · have HF := Lib.hid (show adr ((Ad.epsv l).map Ad.mk) = .tuple #[.agg #[.int .i64 0, .int .i64 0, .int .i64 0, .int .i64 0, .int .i64 0], .bool false] by rw [HEP.out, if_neg (by simp)]; rfl)
                      clear HEP
                      go_wp2_with fail
                      refine (di _).mono ?_
                      rintro e w' ⟨rfl, rfl⟩
                      clear di
                      go_wp2_with fail
                      refine (hnx _).mono ?_
                      rintro e w' ⟨rfl, rfl⟩
                      clear hnx
                      go_wp2_with fail
                      refine (hrn _).mono ?_
                      rintro e w' ⟨rfl, rfl⟩
                      clear hrn
                      go_wp2
                      refine bodyPost_ret (v := .tuple #[.agg #[.int .i64 0, .int .i64 0, .int .i64 0, .int .i64 0, .int .i64 0], .bool false]) (by simp [results, Tryd.results13, go_sem]) rfl ⟨by rw [HF.out], HB0.out _⟩
                    · by_cases c6 : rl ≤ 5
                      · have c6f : ((5 : Int) < (rl : Int)) = False := eq_false (by omega)
                        by_cases c7 : n = 0
                        · have HF := Lib.hid (show adr ((Ad.epsv l).map Ad.mk) = .tuple #[.agg #[.int .i64 0, .int .i64 0, .int .i64 0, .int .i64 0, .int .i64 0], .bool false] by rw [HEP.out, if_pos ⟨rfl, c6⟩, Option.bind_some, show Ad.ends n d P = none by rw [c7]; match P with | [] => rfl | [_] => rfl | _ :: _ :: _ => simp [Ad.ends]]; rfl)
                          subst c7
                          clear HEP
                          go_wp2_with fail
                          refine (di _).mono ?_
                          rintro e w' ⟨rfl, rfl⟩
                          clear di
                          go_wp2_with fail
                          refine (hnx _).mono ?_
                          rintro e w' ⟨rfl, rfl⟩
                          clear hnx
                          go_wp2_with fail
                          refine (hrn _).mono ?_
                          rintro e w' ⟨rfl, rfl⟩
                          clear hrn
                          go_wp2
                          refine bodyPost_ret (v := .tuple #[.agg #[.int .i64 0, .int .i64 0, .int .i64 0, .int .i64 0, .int .i64 0], .bool false]) (by simp [results, Tryd.results13, go_sem]) rfl ⟨by rw [HF.out], HB0.out _⟩
                        · have c7f : (n == 0) = false := beq_eq_false_iff_ne.2 c7
                          have c7g : (n = 0) = False := eq_false c7
                          match P, HPA, HPL, HEP with
                          | [], HPA, HPL, HEP =>
                            obtain rfl : 0 = pl := HPL.out
                            have c8 : ((l.length : Int) ≤ ((j + 4 + rl : Nat) : Int) + 1) = True := eq_true (by omega)
                            have c8g : ((l.length : Int) ≤ (j : Int) + 4 + (rl : Int) + 1) = True := eq_true (by omega)
                            have HF := Lib.hid (show adr ((Ad.epsv l).map Ad.mk) = .tuple #[.agg #[.int .i64 0, .int .i64 0, .int .i64 0, .int .i64 0, .int .i64 0], .bool false] by rw [HEP.out, if_pos ⟨rfl, c6⟩]; rfl)
                            clear HEP c7
                            go_wp2_with fail
                            refine (di _).mono ?_
                            rintro e w' ⟨rfl, rfl⟩
                            clear di
                            go_wp2_with fail
                            refine (hnx _).mono ?_
                            rintro e w' ⟨rfl, rfl⟩
                            clear hnx
                            go_wp2_with fail
                            refine (hrn _).mono ?_
                            rintro e w' ⟨rfl, rfl⟩
                            clear hrn
                            go_wp2
                            refine bodyPost_ret (v := .tuple #[.agg #[.int .i64 0, .int .i64 0, .int .i64 0, .int .i64 0, .int .i64 0], .bool false]) (by simp [results, Tryd.results13, go_sem]) rfl ⟨by rw [HF.out], HB0.out _⟩
                          | [p0], HPA, HPL, HEP =>
                            obtain rfl : 1 = pl := HPL.out
                            have c8 : ((l.length : Int) ≤ ((j + 4 + rl : Nat) : Int) + 1) = True := eq_true (by omega)
                            have c8g : ((l.length : Int) ≤ (j : Int) + 4 + (rl : Int) + 1) = True := eq_true (by omega)
                            have HF := Lib.hid (show adr ((Ad.epsv l).map Ad.mk) = .tuple #[.agg #[.int .i64 0, .int .i64 0, .int .i64 0, .int .i64 0, .int .i64 0], .bool false] by rw [HEP.out, if_pos ⟨rfl, c6⟩]; rfl)
                            clear HEP c7
                            go_wp2_with fail
                            refine (di _).mono ?_
                            rintro e w' ⟨rfl, rfl⟩
                            clear di
                            go_wp2_with fail
                            refine (hnx _).mono ?_
                            rintro e w' ⟨rfl, rfl⟩
                            clear hnx
                            go_wp2_with fail
                            refine (hrn _).mono ?_
                            rintro e w' ⟨rfl, rfl⟩
                            clear hrn
                            go_wp2
                            refine bodyPost_ret (v := .tuple #[.agg #[.int .i64 0, .int .i64 0, .int .i64 0, .int .i64 0, .int .i64 0], .bool false]) (by simp [results, Tryd.results13, go_sem]) rfl ⟨by rw [HF.out], HB0.out _⟩
                          | e0 :: f0 :: P2, HPA, HPL, HEP =>
                            have hpl : P2.length + 1 + 1 = pl := HPL.out
                            have c8 : ((l.length : Int) ≤ ((j + 4 + rl : Nat) : Int) + 1) = False := eq_false (by omega)
                            have c8g : ((l.length : Int) ≤ (j : Int) + 4 + (rl : Int) + 1) = False := eq_false (by omega)
                            have y0 := HBY.out (j + 4 + rl) e0 (HPA.out 0 e0 rfl)
                            have y1 := HBY.out (j + 4 + rl + 1) f0 (HPA.out 1 f0 rfl)
                            have yb0 : (j : Int) + 4 + (rl : Int) < (l.length : Int) := by omega
                            have yb1 : (j : Int) + 4 + (rl : Int) + 1 < (l.length : Int) := by omega
                            obtain ⟨en, hen⟩ : ∃ n, e0.toNat = n := ⟨_, rfl⟩
                            obtain ⟨fn, hfn⟩ : ∃ n, f0.toNat = n := ⟨_, rfl⟩
                            rw [hen] at y0
                            rw [hfn] at y1
                            clear hpl HPL HPA
                            by_cases c9 : en = n2
                            · subst c9
                              have he0 : e0 = d := UInt8.toNat_inj.1 (by omega)
                              have c9f : ((en : Int) != (en : Int)) = false := by simp
                              by_cases c10 : fn = 41
                              · subst c10
                                have hf0 : f0 = 41 := UInt8.toNat_inj.1 hfn
                                have HF := Lib.hid (show adr ((Ad.epsv l).map Ad.mk) = .tuple #[.agg #[.int .i64 0, .int .i64 0, .int .i64 0, .int .i64 0, .int .i64 n], .bool true] by rw [HEP.out, if_pos ⟨rfl, c6⟩, Option.bind_some, show Ad.ends n d (e0 :: f0 :: P2) = some n from if_pos ⟨c7, he0, hf0⟩]; rfl)
                                clear HEP c7 he0 hf0 hen hfn
                                go_wp2_with fail
                                refine (di _).mono ?_
                                rintro e w' ⟨rfl, rfl⟩
                                clear di
                                go_wp2_with fail
                                refine (hnx _).mono ?_
                                rintro e w' ⟨rfl, rfl⟩
                                clear hnx
                                go_wp2_with fail
                                refine (hrn _).mono ?_
                                rintro e w' ⟨rfl, rfl⟩
                                clear hrn
                                go_wp2
                                refine bodyPost_ret (v := .tuple #[.agg #[.int .i64 0, .int .i64 0, .int .i64 0, .int .i64 0, .int .i64 n], .bool true]) (by simp [results, Tryd.results13, go_sem]) rfl ⟨by rw [HF.out], HB0.out _⟩
                              · have c10f : ((fn : Int) != 41) = true := bne_iff_ne.2 (by omega)
                                have c10g : ((fn : Int) = 41) = False := eq_false (by omega)
                                have HF := Lib.hid (show adr ((Ad.epsv l).map Ad.mk) = .tuple #[.agg #[.int .i64 0, .int .i64 0, .int .i64 0, .int .i64 0, .int .i64 0], .bool false] by rw [HEP.out, if_pos ⟨rfl, c6⟩, Option.bind_some, show Ad.ends n d (e0 :: f0 :: P2) = none from if_neg (fun q => c10 (by rw [← hfn, q.2.2]; rfl))]; rfl)
                                clear HEP c7 he0 hen hfn
                                go_wp2_with fail
                                refine (di _).mono ?_
                                rintro e w' ⟨rfl, rfl⟩
                                clear di
                                go_wp2_with fail
                                refine (hnx _).mono ?_
                                rintro e w' ⟨rfl, rfl⟩
                                clear hnx
                                go_wp2_with fail
                                refine (hrn _).mono ?_
                                rintro e w' ⟨rfl, rfl⟩
                                clear hrn
                                go_wp2
                                refine bodyPost_ret (v := .tuple #[.agg #[.int .i64 0, .int .i64 0, .int .i64 0, .int .i64 0, .int .i64 0], .bool false]) (by simp [results, Tryd.results13, go_sem]) rfl ⟨by rw [HF.out], HB0.out _⟩
                            · have c9f : ((en : Int) != (n2 : Int)) = true := bne_iff_ne.2 (by omega)
                              have c9g : ((en : Int) = (n2 : Int)) = False := eq_false (by omega)
                              have c9h : (en = n2) = False := eq_false c9
                              have HF := Lib.hid (show adr ((Ad.epsv l).map Ad.mk) = .tuple #[.agg #[.int .i64 0, .int .i64 0, .int .i64 0, .int .i64 0, .int .i64 0], .bool false] by rw [HEP.out, if_pos ⟨rfl, c6⟩, Option.bind_some, show Ad.ends n d (e0 :: f0 :: P2) = none from if_neg (fun q => c9 (by have := congrArg UInt8.toNat q.2.1; omega))]; rfl)
                              clear HEP c7 c9 hen hfn
                              go_wp2_with fail
                              refine (di _).mono ?_
                              rintro e w' ⟨rfl, rfl⟩
                              clear di
                              go_wp2_with fail
                              refine (hnx _).mono ?_
                              rintro e w' ⟨rfl, rfl⟩
                              clear hnx
                              go_wp2_with fail
                              refine (hrn _).mono ?_
                              rintro e w' ⟨rfl, rfl⟩
                              clear hrn
                              go_wp2
                              refine bodyPost_ret (v := .tuple #[.agg #[.int .i64 0, .int .i64 0, .int .i64 0, .int .i64 0, .int .i64 0], .bool false]) (by simp [results, Tryd.results13, go_sem]) rfl ⟨by rw [HF.out], HB0.out _⟩
                      · have c6f : ((5 : Int) < (rl : Int)) = True := eq_true (by omega)
                        have HF := Lib.hid (show adr ((Ad.epsv l).map Ad.mk) = .tuple #[.agg #[.int .i64 0, .int .i64 0, .int .i64 0, .int .i64 0, .int .i64 0], .bool false] by rw [HEP.out, if_neg (fun q => c6 q.2)]; rfl)
                        clear HEP
                        go_wp2_with fail
                        refine (di _).mono ?_
                        rintro e w' ⟨rfl, rfl⟩
                        clear di
                        go_wp2_with fail
                        refine (hnx _).mono ?_
                        rintro e w' ⟨rfl, rfl⟩
                        clear hnx
                        go_wp2_with fail
                        refine (hrn _).mono ?_
                        rintro e w' ⟨rfl, rfl⟩
                        clear hrn
                        go_wp2
                        refine bodyPost_ret (v := .tuple #[.agg #[.int .i64 0, .int .i64 0, .int .i64 0, .int .i64 0, .int .i64 0], .bool false]) (by simp [results, Tryd.results13, go_sem]) rfl ⟨by rw [HF.out], HB0.out _⟩
                  · have c5f : ((n2 : Int) != (n1 : Int)) = true := bne_iff_ne.2 (by omega)
                    have c5g : ((n2 : Int) = (n1 : Int)) = False := eq_false (by omega)
                    have c5h : (n2 = n1) = False := eq_false c5
                    have HF := Lib.hid (show adr ((Ad.epsv l).map Ad.mk) = .tuple #[.agg #[.int .i64 0, .int .i64 0, .int .i64 0, .int .i64 0, .int .i64 0], .bool false] by rw [HRS.out, show Ad.epsvAt (40 :: d :: d1 :: d2 :: r) = none by simp only [Ad.epsvAt]; rw [if_neg (by rintro ⟨_, _, _, _, q⟩; exact c5 (by rw [← hn2, q, hdn]))]]; rfl)
                    clear c5 hnx
                    go_wp2_with fail
                    refine (di _).mono ?_
                    rintro e w' ⟨rfl, rfl⟩
                    clear di
                    go_wp2
                    refine bodyPost_ret (v := .tuple #[.agg #[.int .i64 0, .int .i64 0, .int .i64 0, .int .i64 0, .int .i64 0], .bool false]) (by simp [results, Tryd.results13, go_sem]) rfl ⟨by rw [HF.out], HB0.out _⟩
                · have c4f : ((n1 : Int) != (dn : Int)) = true := bne_iff_ne.2 (by omega)
                  have c4g : ((n1 : Int) = (dn : Int)) = False := eq_false (by omega)
                  have c4h : (n1 = dn) = False := eq_false c4
                  have HF := Lib.hid (show adr ((Ad.epsv l).map Ad.mk) = .tuple #[.agg #[.int .i64 0, .int .i64 0, .int .i64 0, .int .i64 0, .int .i64 0], .bool false] by rw [HRS.out, show Ad.epsvAt (40 :: d :: d1 :: d2 :: r) = none by simp only [Ad.epsvAt]; rw [if_neg (by rintro ⟨_, _, _, q, _⟩; exact c4 (by rw [← hn1, q, hdn]))]]; rfl)
                  clear c4 hnx
                  go_wp2_with fail
                  refine (di _).mono ?_
                  rintro e w' ⟨rfl, rfl⟩
                  clear di
                  go_wp2
                  refine bodyPost_ret (v := .tuple #[.agg #[.int .i64 0, .int .i64 0, .int .i64 0, .int .i64 0, .int .i64 0], .bool false]) (by simp [results, Tryd.results13, go_sem]) rfl ⟨by rw [HF.out], HB0.out _⟩
              · have HF := Lib.hid (show adr ((Ad.epsv l).map Ad.mk) = .tuple #[.agg #[.int .i64 0, .int .i64 0, .int .i64 0, .int .i64 0, .int .i64 0], .bool false] by rw [HRS.out, show Ad.epsvAt (40 :: d :: d1 :: d2 :: r) = none by simp only [Ad.epsvAt]; rw [if_neg (by rintro ⟨_, _, q, _⟩; rw [hdd] at q; cases q)]]; rfl)
                clear hnx
                go_wp2_with fail
                refine (di _).mono ?_
                rintro e w' ⟨rfl, rfl⟩
                clear di
                go_wp2
                refine bodyPost_ret (v := .tuple #[.agg #[.int .i64 0, .int .i64 0, .int .i64 0, .int .i64 0, .int .i64 0], .bool false]) (by simp [results, Tryd.results13, go_sem]) rfl ⟨by rw [HF.out], HB0.out _⟩
            · have c2f : ((126 : Int) < (dn : Int)) = True := eq_true (by omega)
              have HF := Lib.hid (show adr ((Ad.epsv l).map Ad.mk) = .tuple #[.agg #[.int .i64 0, .int .i64 0, .int .i64 0, .int .i64 0, .int .i64 0], .bool false] by rw [HRS.out, show Ad.epsvAt (40 :: d :: d1 :: d2 :: r) = none by simp only [Ad.epsvAt]; rw [if_neg (by rintro ⟨_, q, _⟩; omega)]]; rfl)
              clear hnx di
              go_wp2
              refine bodyPost_ret (v := .tuple #[.agg #[.int .i64 0, .int .i64 0, .int .i64 0, .int .i64 0, .int .i64 0], .bool false]) (by simp [results, Tryd.results13, go_sem]) rfl ⟨by rw [HF.out], HB0.out _⟩
          · have c1f : ((dn : Int) < 33) = True := eq_true (by omega)
            have HF := Lib.hid (show adr ((Ad.epsv l).map Ad.mk) = .tuple #[.agg #[.int .i64 0, .int .i64 0, .int .i64 0, .int .i64 0, .int .i64 0], .bool false] by rw [HRS.out, show Ad.epsvAt (40 :: d :: d1 :: d2 :: r) = none by simp only [Ad.epsvAt]; rw [if_neg (by rintro ⟨q, _⟩; omega)]]; rfl)
            clear hnx di
            go_wp2
            refine bodyPost_ret (v := .tuple #[.agg #[.int .i64 0, .int .i64 0, .int .i64 0, .int .i64 0, .int .i64 0], .bool false]) (by simp [results, Tryd.results13, go_sem]) rfl ⟨by rw [HF.out], HB0.out _⟩
        · have h4f : ((l.length : Int) ≤ (j : Int) + 4) = True := eq_true (by omega)
          have HF := Lib.hid (show adr ((Ad.epsv l).map Ad.mk) = .tuple #[.agg #[.int .i64 0, .int .i64 0, .int .i64 0, .int .i64 0, .int .i64 0], .bool false] by rw [HRES.out, Ad.epsvAt_short (by rw [List.length_drop]; omega)]; rfl)
          go_wp2
          refine bodyPost_ret (v := .tuple #[.agg #[.int .i64 0, .int .i64 0, .int .i64 0, .int .i64 0, .int .i64 0], .bool false]) (by simp [results, Tryd.results13, go_sem]) rfl ⟨by rw [HF.out], HB0.out _⟩
      · have hjl2 : j = l.length := by omega
        have hlt : ¬ (j : Int) < (l.length : Int) := by omega
        have h4f : ((l.length : Int) ≤ (j : Int) + 4) = True := eq_true (by omega)
        have HF := Lib.hid (show adr ((Ad.epsv l).map Ad.mk) = .tuple #[.agg #[.int .i64 0, .int .i64 0, .int .i64 0, .int .i64 0, .int .i64 0], .bool false] by rw [HRES.out, Ad.epsvAt_short (by rw [List.length_drop]; omega)]; rfl)
        clear hjl2
        go_wp2
        refine bodyPost_ret (v := .tuple #[.agg #[.int .i64 0, .int .i64 0, .int .i64 0, .int .i64 0, .int .i64 0], .bool false]) (by simp [results, Tryd.results13, go_sem]) rfl ⟨by rw [HF.out], HB0.out _⟩
end Go.Proofs.YtonophhhndhhhaaDoor
