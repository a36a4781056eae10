/- Two connections, in plain words: how they stand, what is written, what happens. (Plain: of no type of the program.) -/
import Derived.Test.YtneifmnlailipaaRd
namespace Go.Proofs.Ytneifmnlailipaa
namespace Wi

/-- A connection: how it stands (0 fresh, 1 asked, 2 open, 3 ended, 4 gone, 5 refused), how many bytes came, whether it is finished, what was put since it was asked for, how much of it went out, and what went out, and was written, ahead of that. -/
structure Cn where
  st : Nat
  got : Nat
  dn : Bool
  xs : List UInt8
  t : Nat
  old : List UInt8
  wrote : List UInt8
/-- What a connection that is none looks like. -/
def none : Cn := ⟨0, 0, false, [], 0, [], []⟩
def Cn.live (c : Cn) : Bool := c.st == 2 || c.st == 3
def Cn.waits (c : Cn) : Nat := if c.live then c.xs.length - c.t else 0
def Cn.sent (c : Cn) : List UInt8 := c.old ++ c.xs.take c.t
def Cn.written (c : Cn) : List UInt8 := c.wrote ++ c.xs

structure Wm where
  a : Cn
  b : Cn
def start : Wm := ⟨{ none with st := 2 }, none⟩
def Wm.at (w : Wm) (k : Int) : Cn := if k = 0 then w.a else if k = 1 then w.b else none
def Wm.upd (w : Wm) (k : Int) (c : Cn) : Wm := if k = 0 then { w with a := c } else if k = 1 then { w with b := c } else w

def Wm.write (w : Wm) (k : Int) (ys : List UInt8) : Nat × Wm :=
  if (w.at k).live = false ∨ (w.at k).dn = true then (65, w)
  else if 4000 < (w.at k).xs.length + ys.length then (72, w)
  else (0, w.upd k { w.at k with xs := (w.at k).xs ++ ys })
def Wm.finish (w : Wm) (k : Int) : Wm := if (w.at k).live = true then w.upd k { w.at k with dn := true } else w
def Wm.ask (w : Wm) : Bool × Wm := if w.b.st = 1 then (false, w) else (true, { w with b := ⟨1, 0, false, [], 0, w.b.sent, w.b.written⟩ })
def Wm.happen (w : Wm) (kind k n : Int) (ys : List UInt8) : List UInt8 × Nat × Wm :=
  if kind = 1 then
    if (w.at k).st ≠ 2 then ([], 1, w)
    else if 4000 < (w.at k).got + ys.length then ([], 72, w)
    else (ys, 0, w.upd k { w.at k with got := (w.at k).got + ys.length })
  else if kind = 2 then
    if n < 1 ∨ (w.at k).waits = 0 then ([], 1, w)
    else ([], 0, w.upd k { w.at k with t := (w.at k).t + min n.toNat ((w.at k).xs.length - (w.at k).t) })
  else if kind = 3 then
    if (w.at k).st ≠ 2 then ([], 1, w) else ([], 0, w.upd k { w.at k with st := 3 })
  else if kind = 4 then
    if (w.at k).live = false then ([], 1, w) else ([], 0, w.upd k { w.at k with st := 4 })
  else if kind = 5 then
    if k ≠ 1 ∨ w.b.st ≠ 1 then ([], 1, w) else ([], 0, { w with b := { w.b with st := if n = 1 then 2 else 5 } })
  else if kind = 6 then
    if 1 ≤ n ∧ n ≤ 1073741824 then ([], 0, w) else ([], 1, w)
  else ([], 1, w)

/-- What holds of a connection, always. -/
structure Cn.Ok (c : Cn) : Prop where
  t : c.t ≤ c.xs.length
  xs : c.xs.length ≤ 4000
  got : c.got ≤ 4000
  st : c.st ≤ 5
  em : c.st = 0 ∨ c.st = 1 ∨ c.st = 5 → c.xs = []
  ow : c.old.length ≤ c.wrote.length
structure Wm.Ok (w : Wm) : Prop where
  a : w.a.Ok
  b : w.b.Ok
  old : w.a.old = []
  wrote : w.a.wrote = []
  st : w.a.st = 2 ∨ w.a.st = 3 ∨ w.a.st = 4

theorem none_ok : none.Ok := ⟨Nat.le_refl _, Nat.zero_le _, Nat.zero_le _, Nat.zero_le _, fun _ => rfl, Nat.le_refl _⟩
theorem start_ok : start.Ok := ⟨⟨Nat.le_refl _, Nat.zero_le _, Nat.zero_le _, by decide, fun _ => rfl, Nat.le_refl _⟩, none_ok, rfl, rfl, .inl rfl⟩
theorem Wm.Ok.at {w : Wm} (h : w.Ok) (k : Int) : (w.at k).Ok := by
  unfold Wm.at
  split
  · exact h.a
  · split
    · exact h.b
    · exact none_ok
/-- A connection that stands somehow is one of the two. -/
theorem Wm.known {w : Wm} {k : Int} (h : (w.at k).st ≠ 0) : k = 0 ∨ k = 1 := by
  unfold Wm.at at h
  split at h
  · exact .inl (by assumption)
  · split at h
    · exact .inr (by assumption)
    · exact absurd rfl h
theorem Cn.live_st {c : Cn} (h : c.live = true) : c.st = 2 ∨ c.st = 3 := by
  simpa [Cn.live] using h
theorem Cn.Ok.sent_le {c : Cn} (h : c.Ok) : c.sent.length ≤ c.written.length := by
  unfold Cn.sent Cn.written
  rw [List.length_append, List.length_append, List.length_take]
  have := h.ow
  have := h.t
  omega
theorem Wm.upd_ok {w : Wm} (h : w.Ok) {k : Int} {c : Cn} (hc : c.Ok) (h1 : c.old = (w.at k).old) (h2 : c.wrote = (w.at k).wrote) (h3 : k = 0 → c.st = 2 ∨ c.st = 3 ∨ c.st = 4) : (w.upd k c).Ok := by
  unfold Wm.upd
  split
  · next hk =>
    subst hk
    exact ⟨hc, h.b, by rw [h1]; exact h.old, by rw [h2]; exact h.wrote, h3 rfl⟩
  · split
    · exact ⟨h.a, hc, h.old, h.wrote, h.st⟩
    · exact h
theorem Wm.st_zero {w : Wm} (h : w.Ok) {k : Int} (hk : k = 0) : (w.at k).st = 2 ∨ (w.at k).st = 3 ∨ (w.at k).st = 4 := by
  subst hk
  exact h.st

theorem Wm.write_ok {w : Wm} (h : w.Ok) (k : Int) (ys : List UInt8) : (w.write k ys).2.Ok := by
  unfold Wm.write
  split
  · exact h
  · next hnl =>
    have hl : (w.at k).live = true := by
      cases hx : (w.at k).live
      · exact absurd (.inl hx) hnl
      · rfl
    split
    · exact h
    · have hc := h.at k
      exact Wm.upd_ok h ⟨by show (w.at k).t ≤ ((w.at k).xs ++ ys).length; rw [List.length_append]; have := hc.t; omega, by show ((w.at k).xs ++ ys).length ≤ 4000; rw [List.length_append]; omega, hc.got, hc.st, fun he => absurd he (by show ¬ ((w.at k).st = 0 ∨ (w.at k).st = 1 ∨ (w.at k).st = 5); have := Cn.live_st hl; omega), hc.ow⟩ rfl rfl (fun hk => Wm.st_zero h hk)
theorem Wm.finish_ok {w : Wm} (h : w.Ok) (k : Int) : (w.finish k).Ok := by
  unfold Wm.finish
  split
  · have hc := h.at k
    exact Wm.upd_ok h ⟨hc.t, hc.xs, hc.got, hc.st, hc.em, hc.ow⟩ rfl rfl (fun hk => Wm.st_zero h hk)
  · exact h
theorem Wm.ask_ok {w : Wm} (h : w.Ok) : w.ask.2.Ok := by
  unfold Wm.ask
  split
  · exact h
  · exact ⟨h.a, ⟨Nat.le_refl _, Nat.zero_le _, Nat.zero_le _, by show 1 ≤ 5; decide, fun _ => rfl, h.b.sent_le⟩, h.old, h.wrote, h.st⟩
theorem Wm.happen_ok {w : Wm} (h : w.Ok) (kind k n : Int) (ys : List UInt8) : (w.happen kind k n ys).2.2.Ok := by
  have hc := h.at k
  unfold Wm.happen
  split
  · split
    · exact h
    · split
      · exact h
      · exact Wm.upd_ok h ⟨hc.t, hc.xs, by show (w.at k).got + ys.length ≤ 4000; omega, hc.st, hc.em, hc.ow⟩ rfl rfl (fun hk => Wm.st_zero h hk)
  · split
    · split
      · exact h
      · exact Wm.upd_ok h ⟨by show (w.at k).t + min n.toNat ((w.at k).xs.length - (w.at k).t) ≤ (w.at k).xs.length; have := hc.t; omega, hc.xs, hc.got, hc.st, hc.em, hc.ow⟩ rfl rfl (fun hk => Wm.st_zero h hk)
    · split
      · split
        · exact h
        · exact Wm.upd_ok h ⟨hc.t, hc.xs, hc.got, by show 3 ≤ 5; decide, fun he => absurd (show (3 : Nat) = 0 ∨ (3 : Nat) = 1 ∨ (3 : Nat) = 5 from he) (by decide), hc.ow⟩ rfl rfl (fun _ => .inr (.inl rfl))
      · split
        · split
          · exact h
          · exact Wm.upd_ok h ⟨hc.t, hc.xs, hc.got, by show 4 ≤ 5; decide, fun he => absurd (show (4 : Nat) = 0 ∨ (4 : Nat) = 1 ∨ (4 : Nat) = 5 from he) (by decide), hc.ow⟩ rfl rfl (fun _ => .inr (.inr rfl))
        · split
          · split
            · exact h
            · next hne =>
              refine ⟨h.a, ⟨h.b.t, h.b.xs, h.b.got, ?_, fun _ => h.b.em (.inr (.inl (by have := not_or.1 hne; omega))), h.b.ow⟩, h.old, h.wrote, h.st⟩
              show (if n = 1 then 2 else 5) ≤ 5
              split <;> decide
          · split
            · split
              · exact h
              · exact h
            · exact h

/-- How a connection lies in the program's memory: where nothing can go out any more, what was put is given up. -/
def Cn.norm (c : Cn) : Cn := if c.live then c else { c with xs := [], t := 0, old := c.sent, wrote := c.written }
theorem Cn.norm_live {c : Cn} (h : c.live = true) : c.norm = c := by unfold Cn.norm; rw [if_pos h]
theorem Cn.norm_off {c : Cn} (h : c.live = false) : c.norm = { c with xs := [], t := 0, old := c.sent, wrote := c.written } := by unfold Cn.norm; rw [if_neg (by rw [h]; decide)]
theorem Cn.norm_st (c : Cn) : c.norm.st = c.st := by unfold Cn.norm; split <;> rfl
theorem Cn.norm_dn (c : Cn) : c.norm.dn = c.dn := by unfold Cn.norm; split <;> rfl
theorem Cn.norm_got (c : Cn) : c.norm.got = c.got := by unfold Cn.norm; split <;> rfl
theorem Cn.norm_lv (c : Cn) : c.norm.live = c.live := by unfold Cn.norm; split <;> rfl
theorem Cn.norm_sent (c : Cn) : c.norm.sent = c.sent := by
  unfold Cn.norm
  split
  · rfl
  · simp [Cn.sent]
theorem Cn.norm_written (c : Cn) : c.norm.written = c.written := by
  unfold Cn.norm
  split
  · rfl
  · simp [Cn.written]
theorem Cn.norm_waits (c : Cn) : c.norm.xs.length - c.norm.t = c.waits := by
  unfold Cn.norm Cn.waits
  split
  · rfl
  · simp
/-- A connection of which nothing was put lies so as it is. -/
theorem Cn.norm_empty {c : Cn} (h : c.xs = []) (ht : c.t ≤ c.xs.length) : c.norm = c := by
  obtain ⟨st, got, dn, xs, t, old, wrote⟩ := c
  simp only at h
  subst h
  have : t = 0 := by simpa using ht
  subst this
  unfold Cn.norm
  split
  · rfl
  · simp [Cn.sent, Cn.written]

/-- What is done to one connection, as it lies in memory. -/
def Cn.come (c : Cn) (ys : List UInt8) : List UInt8 × Nat × Cn :=
  if c.st ≠ 2 then ([], 1, c) else if 4000 < c.got + ys.length then ([], 72, c) else (ys, 0, { c with got := c.got + ys.length })
def Cn.takes (c : Cn) (n : Int) : Nat × Cn :=
  if n < 1 ∨ c.xs.length - c.t = 0 then (1, c) else (0, { c with t := c.t + min n.toNat (c.xs.length - c.t) })
def Cn.fin (c : Cn) : Nat × Cn := if c.st ≠ 2 then (1, c) else (0, { c with st := 3 })
def Cn.give (c : Cn) : Cn := { c with xs := [], t := 0, old := c.sent, wrote := c.written }
def Cn.rst (c : Cn) : Nat × Cn := if c.live = false then (1, c) else (0, { c.give with st := 4 })
def Cn.conn (c : Cn) (n : Int) : Nat × Cn := if c.st ≠ 1 then (1, c) else (0, { c with st := if n = 1 then 2 else 5 })
def Cn.puts (c : Cn) (ys : List UInt8) : Nat × Cn :=
  if c.live = false ∨ c.dn = true then (65, c) else if 4000 < c.xs.length + ys.length then (72, c) else (0, { c with xs := c.xs ++ ys })
def Cn.done (c : Cn) : Cn := if c.live = true then { c with dn := true } else c

/-- An event that does not fit changes nothing. -/
theorem Wm.happen_err {w : Wm} {kind k n : Int} {ys : List UInt8} (h : (w.happen kind k n ys).2.1 ≠ 0) : (w.happen kind k n ys).2.2 = w := by
  unfold Wm.happen at h ⊢
  repeat' split
  all_goals first
    | rfl
    | (exfalso; apply h; simp_all)
theorem Wm.upd_a {w : Wm} {k : Int} {c : Cn} : (w.upd k c).a = if k = 0 then c else w.a := by
  unfold Wm.upd
  split
  · rfl
  · split <;> rfl
theorem Wm.upd_b {w : Wm} {k : Int} {c : Cn} : (w.upd k c).b = if k = 1 then c else w.b := by
  unfold Wm.upd
  split
  · next h => rw [if_neg (by omega)]
  · split <;> rfl
theorem Wm.at_zero (w : Wm) : w.at 0 = w.a := rfl
theorem Wm.at_one (w : Wm) : w.at 1 = w.b := rfl

theorem Wm.upd_a0 {w : Wm} {c : Cn} : (w.upd 0 c).a = c := rfl
theorem Wm.upd_a1 {w : Wm} {k : Int} {c : Cn} (h : k ≠ 0) : (w.upd k c).a = w.a := by rw [Wm.upd_a, if_neg h]
theorem Wm.upd_b1 {w : Wm} {c : Cn} : (w.upd 1 c).b = c := rfl
theorem Wm.upd_b0 {w : Wm} {k : Int} {c : Cn} (h : k ≠ 1) : (w.upd k c).b = w.b := by rw [Wm.upd_b, if_neg h]

/-- What an event may do to the first connection. -/
structure Wm.Near (w w' : Wm) : Prop where
  xs : w'.a.xs = w.a.xs
  dn : w'.a.dn = w.a.dn
  old : w'.a.old = w.a.old
  wrote : w'.a.wrote = w.a.wrote
  t : w.a.t ≤ w'.a.t
  gone : w.a.st = 4 → w'.a = w.a
  st : w'.a.st = w.a.st ∨ (w.a.st = 2 ∧ w'.a.st = 3) ∨ ((w.a.st = 2 ∨ w.a.st = 3) ∧ w'.a.st = 4)
theorem Wm.happen_a {w : Wm} (kind k n : Int) (ys : List UInt8) : Wm.Near w (w.happen kind k n ys).2.2 := by
  have same : ∀ w' : Wm, w'.a = w.a → Wm.Near w w' := fun w' e =>
    ⟨by rw [e], by rw [e], by rw [e], by rw [e], by rw [e]; exact Nat.le_refl _, fun _ => e, .inl (by rw [e])⟩
  have gone : w.a.st = 4 → w.a.live = false := fun e => by simp [Cn.live, e]
  by_cases hk : k = 0
  · subst hk
    unfold Wm.happen
    split
    · split
      · exact same w rfl
      · next h2 =>
        split
        · exact same w rfl
        · exact ⟨rfl, rfl, rfl, rfl, Nat.le_refl _, fun e => absurd (show w.a.st ≠ 2 by rw [e]; decide) h2, .inl rfl⟩
    · split
      · split
        · exact same w rfl
        · next h2 => exact ⟨rfl, rfl, rfl, rfl, Nat.le_add_right _ _, fun e => absurd (.inr (show w.a.waits = 0 by simp [Cn.waits, gone e])) h2, .inl rfl⟩
      · split
        · split
          · exact same w rfl
          · next h2 => exact ⟨rfl, rfl, rfl, rfl, Nat.le_refl _, fun e => absurd (show w.a.st ≠ 2 by rw [e]; decide) h2, .inr (.inl ⟨by have h2 : ¬ w.a.st ≠ 2 := h2; omega, rfl⟩)⟩
        · split
          · split
            · exact same w rfl
            · next h2 => exact ⟨rfl, rfl, rfl, rfl, Nat.le_refl _, fun e => absurd (gone e) h2, .inr (.inr ⟨Cn.live_st (show w.a.live = true by have h2 : ¬ w.a.live = false := h2; simpa using h2), rfl⟩)⟩
          · split
            · split
              · exact same w rfl
              · next h2 => exact absurd (.inl (by decide)) h2
            · split
              · split <;> exact same w rfl
              · exact same w rfl
  · refine same _ ?_
    unfold Wm.happen
    split
    · split
      · rfl
      · split
        · rfl
        · exact Wm.upd_a1 hk
    · split
      · split
        · rfl
        · exact Wm.upd_a1 hk
      · split
        · split
          · rfl
          · exact Wm.upd_a1 hk
        · split
          · split
            · rfl
            · exact Wm.upd_a1 hk
          · split
            · split <;> rfl
            · split
              · split <;> rfl
              · rfl

/-- What an event does to how the second one stands. -/
def Wm.Second (w w' : Wm) : Prop := w'.b.st = w.b.st ∨ (w.b.st = 1 ∧ (w'.b.st = 2 ∨ w'.b.st = 5)) ∨ (w.b.st = 2 ∧ w'.b.st = 3) ∨ ((w.b.st = 2 ∨ w.b.st = 3) ∧ w'.b.st = 4)
theorem Wm.happen_b {w : Wm} (kind k n : Int) (ys : List UInt8) : Wm.Second w (w.happen kind k n ys).2.2 := by
  unfold Wm.happen
  by_cases hk : k = 1
  · subst hk
    split
    · split
      · exact .inl rfl
      · split <;> exact .inl rfl
    · split
      · split <;> exact .inl rfl
      · split
        · split
          · exact .inl rfl
          · next h2 => exact .inr (.inr (.inl ⟨by have h2 : ¬ w.b.st ≠ 2 := h2; omega, rfl⟩))
        · split
          · split
            · exact .inl rfl
            · next h2 => exact .inr (.inr (.inr ⟨Cn.live_st (show w.b.live = true by have h2 : ¬ w.b.live = false := h2; simpa using h2), rfl⟩))
          · split
            · split
              · exact .inl rfl
              · next h2 =>
                refine .inr (.inl ⟨by simpa using h2, ?_⟩)
                show (if n = 1 then 2 else 5) = 2 ∨ (if n = 1 then 2 else 5) = 5
                split
                · exact .inl rfl
                · exact .inr rfl
            · split
              · split <;> exact .inl rfl
              · exact .inl rfl
  · have same : ∀ w' : Wm, w'.b = w.b → Wm.Second w w' := fun w' e => .inl (by rw [e])
    refine same _ ?_
    split
    · split
      · rfl
      · split
        · rfl
        · rw [Wm.upd_b0 hk]
    · split
      · split
        · rfl
        · rw [Wm.upd_b0 hk]
      · split
        · split
          · rfl
          · rw [Wm.upd_b0 hk]
        · split
          · split
            · rfl
            · rw [Wm.upd_b0 hk]
          · split
            · split
              · rfl
              · next h2 => exact absurd (.inl hk) h2
            · split
              · split <;> rfl
              · rfl
end Wi
end Go.Proofs.Ytneifmnlailipaa
