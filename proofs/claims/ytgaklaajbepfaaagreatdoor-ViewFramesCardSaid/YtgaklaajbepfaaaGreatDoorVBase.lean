/-
  What view's texts share: new blocks, rows of terms that grow, maps that turn.
-/
import Derived.Test.YtgaklaajbepfaaaGreatDoorTRefP
import Derived.Test.YtgaklaajbepfaaaGreatDoorTMet
import Derived.Test.YtgaklaajbepfaaaGreatDoorTMakesP
import Derived.Test.YtgaklaajbepfaaaGreatDoorTAlike
import Derived.Test.YtgaklaajbepfaaaGreatDoorTMake
import Derived.Test.YtgaklaajbepfaaaGreatDoorTChain
import Derived.Laws.AppendOwnNone
import Derived.Deep.CutRange
namespace Go.Proofs.YtgaklaajbepfaaaGreatDoor
open Go.RowKit Go.Maps
set_option linter.unusedVariables false

abbrev AnewT : TypeId := 153
theorem zeroTV (w : World) : (zeroValue TermT).run Tryz.prog w = .ok (.int .i64 0) w := by kernel_rfl
theorem bA0 (w : World) (o : Obj) : Below w.heap.size w (w.alloc o) := (Below.refl _ _).alloc (Nat.le_refl _) _
theorem ebF {x y : Int} (h : ¬ x = y) : (x == y) = false := by simpa using h
theorem rowTK : (Tryz.prog.info? TermT).map (fun i => (i.zero, i.size, i.bytes)) = some (some (.int .i64 0), 1, 8) := by kernel_rfl
theorem ints_oneCellK (l : List Int) : ∀ u ∈ ints l, u.oneCell' = true := by
  intro u hu
  obtain ⟨x, _, rfl⟩ := List.mem_map.1 hu
  rfl
/-- append of one term to a list of the call's own, and where the answer lies. -/
theorem wpList_append_tw {w : World} {ops : Array Oper} {rest : List Oper} {o : Oper} {a : Act} {Q : Exit → Act → World → Prop} (hg : o.guard = none) (s x : Operand)
    (ho : o.op = .call { callee := .builtin .append, args := #[s, x], argTypes := #[23, 23] })
    (base : Nat) (v : Value) (xs : List Int) (hs : a.eval s = v) (hown : w.ownsRow base TermT 1 v xs.length (ints xs)) (b : Nat) (t : Int) (hx : a.eval x = .slice (some ⟨b, 0, none⟩) 1 1) (hb : w.cell? ⟨b, 0, none⟩ = some (.int .i64 t))
    (hlen : xs.length ≤ 1000000) (hbase : base ≤ w.heap.size)
    (h : ∀ v' w', w'.ownsRow base TermT 1 v' (xs ++ [t]).length (ints (xs ++ [t])) → w.grownBy w' v.ownBlock → (v'.ownBlock = v.ownBlock ∨ v'.ownBlock = some w.heap.size) → wpList Tryz.prog ops Q rest (a.put o.dst v') w') : wpList Tryz.prog ops Q (o :: rest) a w := by
  obtain ⟨i0, hi, hz0, hz1, hz2⟩ := info_parts rowTK
  refine wpList_append_at w hg s x 23 ho base TermT i0 (.int .i64 0) 1 8 Tryz.underlying23 hi hz0 hz1 hz2 rfl (by decide) v _ _ hs hown ⟨b, 0, none⟩ 1 1 [.int .i64 t] hx (by decide) rfl (fun j u hj => by
    cases j with
    | zero => simp at hj; subst hj; exact hb
    | succ j => simp at hj) (by simp; rfl) (by unfold maxLen; omega) (by omega) hbase ?_
  intro v' w' h6 h7 h8
  exact h v' w' (by simpa [ints] using h6) h7 h8
theorem row_one (w : World) (B : Nat) (hB : B ≤ w.heap.size) (t : Int) : (w.alloc (.cells #[.int .i64 t] TermT)).ownsRow B TermT 1 (.slice (some ⟨w.heap.size, 0, none⟩) 1 1) [t].length (ints [t]) :=
  ⟨rfl, .inr ⟨w.heap.size, 1, #[.int .i64 t], rfl, hB, heap_alloc_new _ _, Nat.le_refl _, by unfold maxLen; omega, rfl, rfl⟩⟩
theorem hold_map {w w' : World} {mb : Nat} (hm : ∃ es c, w.heap[mb]? = some (.map es c)) (hg : w.grownBy w' (some mb)) (T : TypeId) : Hold T w w' := fun b cs hb => by
  obtain ⟨es, c, hm⟩ := hm
  rw [hg.block b (Array.getElem?_eq_some_iff.1 hb).1 (fun e => by
    cases e
    rw [hb] at hm; cases hm)]
  exact hb
theorem hold_rowK {w w' : World} {B n size : Nat} {T T' : TypeId} {v : Value} {xs : List Value} (hr : w.ownsRow B T size v n xs) (hg : w.grownBy w' v.ownBlock) (hne : T' ≠ T) : Hold T' w w' := fun b cs hb => by
  rw [hg.block b (Array.getElem?_eq_some_iff.1 hb).1 (fun e => by
    obtain ⟨_, cur, hc⟩ := own_type hr e.symm
    rw [hb] at hc
    simp only [Option.some.injEq, Obj.cells.injEq] at hc
    exact hne hc.2.1)]
  exact hb
theorem map_row {w w' : World} {B n size mb : Nat} {T : TypeId} {v : Value} {xs : List Value} (hr : w.ownsRow B T size v n xs) (hg : w.grownBy w' v.ownBlock) {es c} (hm : w.heap[mb]? = some (.map es c)) : w'.heap[mb]? = some (.map es c) := by
  rw [hg.block mb (Array.getElem?_eq_some_iff.1 hm).1 (fun e => by
    obtain ⟨_, cur, hc⟩ := own_type hr e.symm
    rw [hm] at hc; cases hc)]
  exact hm
theorem intsT_append (a b : List Int) : ints (a ++ b) = ints a ++ ints b := by simp [ints]
/-- append of a list of terms to a list of the call's own. -/
theorem wpList_append_tl {w : World} {ops : Array Oper} {rest : List Oper} {o : Oper} {a : Act} {Q : Exit → Act → World → Prop} (hg : o.guard = none) (s x : Operand)
    (ho : o.op = .call { callee := .builtin .append, args := #[s, x], argTypes := #[23, 23] })
    (base : Nat) (v : Value) (xs : List Int) (hs : a.eval s = v) (hown : w.ownsRow base TermT 1 v xs.length (ints xs)) (vx : Value) (l : List Int) (hx : a.eval x = vx) (hrd : Row w 1 vx l.length (ints l))
    (hlen : xs.length + l.length ≤ 1000000) (hbase : base ≤ w.heap.size)
    (h : ∀ v' w', w'.ownsRow base TermT 1 v' (xs ++ l).length (ints (xs ++ l)) → w.grownBy w' v.ownBlock → wpList Tryz.prog ops Q rest (a.put o.dst v') w') : wpList Tryz.prog ops Q (o :: rest) a w := by
  refine wpList_plain hg fun K hK => ?_
  obtain ⟨i0, hi, hz0, hz1, hz2⟩ := info_parts rowTK
  rcases hrd with ⟨hl, ⟨rfl, h0⟩ | ⟨b, off, cap, rfl, h1, h2, h3, h4⟩⟩
  · obtain rfl : l = [] := List.eq_nil_of_length_eq_zero h0
    have hrun := run_append_owned_none (P := Tryz.prog) (w := w) base 23 o.type TermT i0 1 Tryz.underlying23 hi v _ _ hown
    unfold Oper.wp
    simp [execOp, ho, resolve, invoke, builtin, hs, hx, hrun, Result.andThen]
    exact hK _ _ (h v w (by rw [List.append_nil]; exact hown) ⟨rfl, rfl, rfl, Nat.le_refl _, fun _ _ _ => rfl⟩)
  · refine wp_append_own w s x 23 ho base TermT i0 (.int .i64 0) 1 8 Tryz.underlying23 hi hz0 hz1 hz2 rfl (by decide) v _ _ hs hown ⟨b, off, none⟩ l.length cap (ints l) hx (by simp [ints]) (fun j u hj => by have := h4 j u hj; by_cases h0 : j = 0 <;> simp_all [Addr.add]) (ints_oneCellK l) (by unfold maxLen; omega) (by omega) hbase ?_
    intro v' w' h6 h7 _
    exact hK _ _ (h v' w' (by rw [List.length_append, intsT_append]; exact h6) h7)

end Go.Proofs.YtgaklaajbepfaaaGreatDoor
