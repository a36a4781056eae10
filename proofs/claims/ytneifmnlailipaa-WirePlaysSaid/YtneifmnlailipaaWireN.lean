/- What is done to a connection as it lies in memory is what is done to it. (Plain.) -/
import Derived.Test.YtneifmnlailipaaWire
namespace Go.Proofs.Ytneifmnlailipaa
namespace Wi

def Cn.tk (c : Cn) (n : Int) : Nat × Cn := if n < 1 ∨ c.waits = 0 then (1, c) else (0, { c with t := c.t + min n.toNat (c.xs.length - c.t) })
def Cn.rs (c : Cn) : Nat × Cn := if c.live = false then (1, c) else (0, { c with st := 4 })
/-- A connection that is asked for. -/
def Cn.asked (c : Cn) : Cn := ⟨1, 0, false, [], 0, c.sent, c.written⟩

theorem Cn.live2 {c : Cn} (h : c.st = 2) : c.live = true := by simp [Cn.live, h]
theorem Cn.come_norm (c : Cn) (ys : List UInt8) : c.norm.come ys = ((c.come ys).1, (c.come ys).2.1, (c.come ys).2.2.norm) := by
  unfold Cn.come
  rw [Cn.norm_st, Cn.norm_got]
  split
  · rfl
  · next h =>
    have hl := Cn.live2 (show c.st = 2 by omega)
    split
    · rfl
    · rw [Cn.norm_live hl]
      rw [Cn.norm_live (show Cn.live { c with got := c.got + ys.length } = true from hl)]
theorem Cn.waits_live {c : Cn} (h : c.waits ≠ 0) : c.live = true := by
  unfold Cn.waits at h
  split at h
  · assumption
  · exact absurd rfl h
theorem Cn.takes_norm (c : Cn) (n : Int) : c.norm.takes n = ((c.tk n).1, (c.tk n).2.norm) := by
  unfold Cn.takes Cn.tk
  rw [Cn.norm_waits]
  split
  · rfl
  · next h =>
    have hl := Cn.waits_live (fun e => h (.inr e))
    rw [Cn.norm_live hl]
    rw [Cn.norm_live (show Cn.live { c with t := c.t + min n.toNat (c.xs.length - c.t) } = true from hl)]
    have hw : c.waits = c.xs.length - c.t := by unfold Cn.waits; rw [if_pos hl]
    rw [hw]
theorem Cn.fin_norm (c : Cn) : c.norm.fin = (c.fin.1, c.fin.2.norm) := by
  unfold Cn.fin
  rw [Cn.norm_st]
  split
  · rfl
  · next h =>
    have hl := Cn.live2 (show c.st = 2 by omega)
    rw [Cn.norm_live hl]
    rw [Cn.norm_live (show Cn.live { c with st := 3 } = true from rfl)]
theorem Cn.rst_norm (c : Cn) : c.norm.rst = (c.rs.1, c.rs.2.norm) := by
  unfold Cn.rst Cn.rs
  rw [Cn.norm_lv]
  split
  · rfl
  · next h =>
    rw [Cn.norm_live (by simpa using h)]
    rw [Cn.norm_off (show Cn.live { c with st := 4 } = false from rfl)]
    rfl
theorem Cn.conn_norm {c : Cn} (hc : c.Ok) (n : Int) : c.norm.conn n = ((c.conn n).1, (c.conn n).2.norm) := by
  unfold Cn.conn
  rw [Cn.norm_st]
  split
  · rfl
  · next h =>
    have hx := hc.em (.inr (.inl (show c.st = 1 by omega)))
    rw [Cn.norm_empty hx hc.t]
    rw [Cn.norm_empty (show Cn.xs { c with st := if n = 1 then 2 else 5 } = [] from hx) hc.t]
theorem Cn.puts_norm (c : Cn) (ys : List UInt8) : c.norm.puts ys = ((c.puts ys).1, (c.puts ys).2.norm) := by
  unfold Cn.puts
  rw [Cn.norm_lv, Cn.norm_dn]
  split
  · rfl
  · next h =>
    have hl : c.live = true := by
      cases hx : c.live
      · exact absurd (.inl hx) h
      · rfl
    rw [Cn.norm_live hl]
    split
    · rw [Cn.norm_live hl]
    · rw [Cn.norm_live (show Cn.live { c with xs := c.xs ++ ys } = true from hl)]
theorem Cn.done_norm (c : Cn) : c.norm.done = c.done.norm := by
  unfold Cn.done
  rw [Cn.norm_lv]
  split
  · next h =>
    rw [Cn.norm_live h]
    rw [Cn.norm_live (show Cn.live { c with dn := true } = true from h)]
  · rfl
theorem Cn.asked_norm (c : Cn) : c.asked.norm = c.asked := Cn.norm_empty rfl (Nat.zero_le _)
theorem Cn.give_norm (c : Cn) : c.norm.give = { c with xs := [], t := 0, old := c.sent, wrote := c.written } := by
  unfold Cn.give
  rw [Cn.norm_sent, Cn.norm_written]
  unfold Cn.norm
  split <;> rfl

theorem Wm.upd_at (w : Wm) (k : Int) : w.upd k (w.at k) = w := by
  unfold Wm.upd Wm.at
  split
  · rfl
  · split <;> rfl
theorem Wm.write_eq (w : Wm) (k : Int) (ys : List UInt8) : w.write k ys = (((w.at k).puts ys).1, w.upd k ((w.at k).puts ys).2) := by
  unfold Wm.write Cn.puts
  split
  · rw [Wm.upd_at]
  · split
    · rw [Wm.upd_at]
    · rfl
theorem Wm.finish_eq (w : Wm) (k : Int) : w.finish k = w.upd k (w.at k).done := by
  unfold Wm.finish Cn.done
  split
  · rfl
  · rw [Wm.upd_at]
theorem Wm.ask_eq {w : Wm} (h : w.b.st ≠ 1) : w.ask = (true, w.upd 1 w.b.asked) := by
  unfold Wm.ask
  rw [if_neg h]
  rfl
theorem Wm.ask_no {w : Wm} (h : w.b.st = 1) : w.ask = (false, w) := by
  unfold Wm.ask
  rw [if_pos h]
theorem Wm.happen1 (w : Wm) (k n : Int) (ys : List UInt8) : w.happen 1 k n ys = (((w.at k).come ys).1, ((w.at k).come ys).2.1, w.upd k ((w.at k).come ys).2.2) := by
  unfold Wm.happen Cn.come
  rw [if_pos rfl]
  split
  · rw [Wm.upd_at]
  · split
    · rw [Wm.upd_at]
    · rfl
theorem Wm.happen2 (w : Wm) (k n : Int) (ys : List UInt8) : w.happen 2 k n ys = ([], ((w.at k).tk n).1, w.upd k ((w.at k).tk n).2) := by
  unfold Wm.happen Cn.tk
  rw [if_neg (by decide), if_pos rfl]
  split
  · rw [Wm.upd_at]
  · rfl
theorem Wm.happen3 (w : Wm) (k n : Int) (ys : List UInt8) : w.happen 3 k n ys = ([], (w.at k).fin.1, w.upd k (w.at k).fin.2) := by
  unfold Wm.happen Cn.fin
  rw [if_neg (by decide), if_neg (by decide), if_pos rfl]
  split
  · rw [Wm.upd_at]
  · rfl
theorem Wm.happen4 (w : Wm) (k n : Int) (ys : List UInt8) : w.happen 4 k n ys = ([], (w.at k).rs.1, w.upd k (w.at k).rs.2) := by
  unfold Wm.happen Cn.rs
  rw [if_neg (by decide), if_neg (by decide), if_neg (by decide), if_pos rfl]
  split
  · rw [Wm.upd_at]
  · rfl
theorem Wm.happen5 {w : Wm} (h : w.Ok) (k n : Int) (ys : List UInt8) : w.happen 5 k n ys = ([], ((w.at k).conn n).1, w.upd k ((w.at k).conn n).2) := by
  unfold Wm.happen Cn.conn
  rw [if_neg (by decide), if_neg (by decide), if_neg (by decide), if_neg (by decide), if_pos rfl]
  by_cases hk : k = 1
  · subst hk
    by_cases hb : w.b.st = 1
    · have h1 : ¬ ((1 : Int) ≠ 1 ∨ w.b.st ≠ 1) := by omega
      have h2 : ¬ ((w.at 1).st ≠ 1) := by rw [Wm.at_one]; omega
      rw [if_neg h1, if_neg h2]
      rfl
    · have h2 : (w.at 1).st ≠ 1 := hb
      rw [if_pos (.inr hb), if_pos h2, Wm.upd_at]
  · rw [if_pos (.inl hk)]
    have hs : (w.at k).st ≠ 1 := by
      unfold Wm.at
      split
      · have := h.st; omega
      · decide
    rw [if_pos hs, Wm.upd_at]
theorem Wm.happen6 (w : Wm) (k n : Int) (ys : List UInt8) : w.happen 6 k n ys = ([], if 1 ≤ n ∧ n ≤ 1073741824 then 0 else 1, w) := by
  unfold Wm.happen
  rw [if_neg (by decide), if_neg (by decide), if_neg (by decide), if_neg (by decide), if_neg (by decide), if_pos rfl]
  split <;> rfl
theorem Wm.happen_none (w : Wm) {kind : Int} (k n : Int) (ys : List UInt8) (h1 : kind ≠ 1) (h2 : kind ≠ 2) (h3 : kind ≠ 3) (h4 : kind ≠ 4) (h5 : kind ≠ 5) (h6 : kind ≠ 6) : w.happen kind k n ys = ([], 1, w) := by
  unfold Wm.happen
  rw [if_neg h1, if_neg h2, if_neg h3, if_neg h4, if_neg h5, if_neg h6]
theorem Wm.at_waits_none : none.waits = 0 := rfl
end Wi
end Go.Proofs.Ytneifmnlailipaa
