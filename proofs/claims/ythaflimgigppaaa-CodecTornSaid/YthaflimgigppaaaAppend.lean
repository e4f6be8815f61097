/-
  append of a slice of bytes, and of a string, to a row of the call's own: one law each.
-/
import Derived.Test.YthaflimgigppaaaRuns
import Derived.Laws.AppendOwnNone
namespace Go.Proofs.Ythaflimgigppaaa
open Go.RowKit

theorem Own.grown {B : Nat} {w w' : World} {v : Value} {l : List UInt8} {row : Option Nat} (h : Own B w v l) (hg : w.grownBy w' row) (hne : v.ownBlock = none ∨ v.ownBlock ≠ row) : Own B w' v l :=
  World.ownsRow.kept h hg hne
theorem Own.base {B : Nat} {w : World} {v : Value} {l : List UInt8} (h : Own B w v l) : ∀ k, v.ownBlock = some k → B ≤ k ∧ k < w.heap.size := World.ownsRow.lt h
/-- A row of the call's own is written behind: what lies below stays. -/
theorem below_append {B : Nat} {w0 w w' : World} {v : Value} {l : List UInt8} (hb : Below B w0 w) (ho : Own B w v l) (hg : w.grownBy w' v.ownBlock) (hB : B ≤ w.heap.size) : Below B w0 w' :=
  hb.grown hg hB fun k hk => (ho.base k hk).1
theorem own_made {B : Nat} (w : World) (hB : B ≤ w.heap.size) : Own B (w.alloc (.cells #[] 5)) (.slice (some ⟨w.heap.size, 0, none⟩) 0 0) [] :=
  World.ownsRow_made w #[] 0 hB (by unfold maxLen; omega) rfl

theorem rd_cut0 {B : Nat} {w : World} {v : Value} {l : List UInt8} (h : Rd B w v l) (hi : Nat) (h2 : hi ≤ l.length) :
    ∃ v', Rd B w v' (l.take hi) ∧ v'.ownBlock = v.ownBlock ∧ ∀ W : World, (Instr.slice 24 v none (some (.int .i64 (hi : Int))) none).run Try.prog W = .ok v' W := by
  obtain ⟨v', h1, h3, h4⟩ := rd_cut h 0 hi (Nat.zero_le _) h2
  rw [List.drop_zero, Nat.sub_zero] at h1
  refine ⟨v', h1, h3, fun W => ?_⟩
  rw [← h4 W]
  obtain ⟨a, c, rfl⟩ := h.shape
  have he : Try.prog.elem 24 = 5 := by simp [Program.elem, Try.underlying24]
  have ht : Try.prog.underlying 24 = some (.slice (Try.prog.elem 24)) := by rw [he]; exact Try.underlying24
  have hc : l.length ≤ c := by
    rcases h with ⟨h, rfl⟩ | ⟨b, off, cap, hv, _, _, h3, _⟩
    · simp
    · simp at hv; omega
  rw [run_slice_h W _ _ _ _ ht _ _ (by omega) (by omega), run_slice_lh W _ _ _ _ ht _ _ _ _ (by omega) (by omega) (by omega)]
  rfl

theorem wpList_append_rd {w : World} {ops : Array Oper} {rest : List Oper} {o : Oper} {a : Act} {Q : Exit → Act → World → Prop} (hgd : o.guard = none) (s x : Operand)
    (ho : o.op = .call { callee := .builtin .append, args := #[s, x], argTypes := #[24, 24] })
    (base : Nat) (v : Value) (xs : List UInt8) (hs : a.eval s = v) (hown : Own base w v xs) (vx : Value) (l : List UInt8) (hx : a.eval x = vx) (hrd : Rd 0 w vx l)
    (hlen : xs.length + l.length ≤ 140737488355328) (hbase : base ≤ w.heap.size)
    (h : ∀ v' w', Own base w' v' (xs ++ l) → w.grownBy w' v.ownBlock → wpList Try.prog ops Q rest (a.put o.dst v') w') : wpList Try.prog ops Q (o :: rest) a w := by
  obtain ⟨i0, hi, hz0, hz1, hz2⟩ := info_parts row5
  rcases hrd with ⟨rfl, rfl⟩ | ⟨b, off, cap, rfl, h1, h2, h3, h4, h5⟩
  · refine wpList_append_own_none hgd s x 24 ho base 5 i0 1 Try.underlying24 hi v _ _ hs hown hx ?_
    exact h v w (by rw [List.append_nil]; exact hown) ⟨rfl, rfl, rfl, Nat.le_refl _, fun _ _ _ => rfl⟩
  · refine wpList_append_own w hgd s x 24 ho base 5 i0 (.int .u8 0) 1 1 Try.underlying24 hi hz0 hz1 hz2 rfl (by decide) v _ _ hs hown ⟨b, off, none⟩ l.length cap (cellsOf l) hx (by simp [cellsOf]) (Rd.news h5) (cellsOf_oneCell l) (by unfold maxLen; omega) (by omega) hbase ?_
    intro v' w' h6 h7 _
    exact h v' w' (own_of h6 (by rw [List.length_append]) (by rw [cellsOf_append])) h7

theorem wpList_append_str {w : World} {ops : Array Oper} {rest : List Oper} {o : Oper} {a : Act} {Q : Exit → Act → World → Prop} (hgd : o.guard = none) (s x : Operand)
    (ho : o.op = .call { callee := .builtin .append, args := #[s, x], argTypes := #[24, 9] })
    (base : Nat) (v : Value) (xs : List UInt8) (hs : a.eval s = v) (hown : Own base w v xs) (t : ByteArray) (hx : a.eval x = .string t)
    (hlen : xs.length + t.size ≤ 1099511627776) (hbase : base ≤ w.heap.size)
    (h : ∀ v' w', Own base w' v' (xs ++ t.data.toList) → w.grownBy w' v.ownBlock → wpList Try.prog ops Q rest (a.put o.dst v') w') : wpList Try.prog ops Q (o :: rest) a w := by
  obtain ⟨i0, hi, hz0, hz1, hz2⟩ := info_parts row5
  refine Lib.wpList_append_own_string w hgd s x 24 9 ho base 5 i0 Try.underlying24 Try.underlying9 hi hz0 hz1 hz2 v _ _ hs hown t hx (by unfold maxLen; omega) (by omega) hbase ?_
  intro v' w' h6 h7 _
  exact h v' w' (own_of h6 (by rw [List.length_append, ← size_list]) (by rw [strCells_eq, ← cellsOf_append])) h7

end Go.Proofs.Ythaflimgigppaaa
