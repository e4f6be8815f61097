/-
  A list of ints as an argument; append of a list of ints as one operation, guarded or not.
-/
import Derived.Test.YtmbaedldikobcaaKArgs
import Derived.Test.YtmbaedldikobcaaKQs
import Derived.ChangeSlices
namespace Go.Proofs.Ytmbaedldikobcaa
open Go.ChangeShapes Go.WideShapes Go.ChangeAt Go.RowKit
set_option linter.unusedVariables false

theorem cellsN : Try.prog.cellsOf 3 = 1 := by kernel_rfl
section
variable {H : Type} {enc : TypeId × Value → H} {W : World} {base : Nat}
set_option maxRecDepth 100000 in
theorem open_nums {v : Value} {fuel : Nat} {x : DataW H × List MemPlace} (hval : Cell.okWide Try.prog W .any base 50 v) (hf : DataW.trod enc Try.prog W 0 (fun _ => true) true fuel 50 [v] = some x) :
    ∃ l : List Int, Row W 1 v l.length (ints l) ∧ ∀ n ∈ l, (Lit.int .i64 n).wf = true := by
  rcases Go.ChangeShapes.open_ints Try.underlying50 Try.underlying3 cellsN hf with ⟨hcs, _⟩ | ⟨y, len, cap, ss, hcs, _, hl, hm, hz, hx, hcell, hsz⟩
  · simp at hcs
    subst hcs
    exact ⟨[], Row.nils W 1, fun s hs => by cases hs⟩
  · simp at hcs
    subst hcs
    simp only [if_true] at hz
    have hh : W.has Try.prog .any base y 3 cap := by
      simp only [Try.underlying50, Cell.okWide, Cell.ok] at hval
      exact hval.2.2
    obtain ⟨hspot, hblk⟩ := place_of hh
    obtain ⟨b, off, spot⟩ := y
    simp only at hspot hblk
    subst hspot
    have hlen : (ss.take len).length = len := by simp; omega
    refine ⟨ss.take len, ⟨by rw [ints_length]; omega, .inr ⟨b, off, cap, by rw [hlen], hblk, by omega, hm, fun j u hj => ?_⟩⟩, fun s hs => hsz s (List.mem_of_mem_take hs)⟩
    have hj' : j < len := by
      have := (List.getElem?_eq_some_iff.1 hj).1
      rw [ints_length] at this; omega
    have hc := hcell j (by omega)
    rw [addr_add] at hc
    rw [hc]
    rw [ints_at _ j (by omega)] at hj
    rw [← hj]
    simp [List.getD_eq_getElem?_getD, show j < ss.length by omega]
end

/-- append of a list of ints to a list of the call's own, among the operations of a statement. -/
theorem wpList_append_rq {w : World} {ops : Array Oper} {rest : List Oper} {o : Oper} {a : Act} {Q : Exit → Act → World → Prop} (hw : Region.wanted o (yielded ops a.tmps) = true) (s x : Operand)
    (ho : o.op = .call { callee := .builtin .append, args := #[s, x], argTypes := #[50, 50] })
    (base : Nat) (v : Value) (xs : List Int) (hs : a.eval s = v) (hown : w.ownsRow base 3 1 v xs.length (ints xs)) (vx : Value) (l : List Int) (hx : a.eval x = vx) (hrd : Row w 1 vx l.length (ints l))
    (hlen : xs.length + l.length ≤ 1000000) (hbase : base ≤ w.heap.size)
    (h : ∀ v' w', w'.ownsRow base 3 1 v' (xs ++ l).length (ints (xs ++ l)) → w.grownBy w' v.ownBlock → wpList Try.prog ops Q rest (a.put o.dst v') w') : wpList Try.prog ops Q (o :: rest) a w :=
  wpList_step fun K hK => by
    rw [if_pos hw]
    exact wp_append_rq s x ho base v xs hs hown vx l hx hrd hlen hbase fun v' w' h1 h2 => hK _ _ (h v' w' h1 h2)

theorem row_eq {w : World} {v : Value} {l l' : List Int} (h : Row w 1 v l.length (ints l)) (e : l = l') : Row w 1 v l'.length (ints l') := by subst e; exact h
theorem row_num {w : World} {b : Nat} {x : Int} (h : w.cell? ⟨b, 0, none⟩ = some (.int .i64 x)) : Row w 1 (.slice (some ⟨b, 0, none⟩) 1 1) [x].length (ints [x]) :=
  ⟨rfl, .inr ⟨b, 0, 1, rfl, World.block_lt_of_cell? w _ h, Nat.le_refl _, by unfold maxLen; omega, fun j u hj => by
    cases j with
    | zero => simp [ints] at hj; subst hj; exact h
    | succ j => simp [ints] at hj⟩⟩

abbrev SetTy : TypeId := 60
theorem two_new (w : World) (p q : Option Addr) : Below w.heap.size w ((w.alloc (.cells #[.pointer p] SetTy)).alloc (.cells #[.pointer q] SetTy)) ∧
    ((w.alloc (.cells #[.pointer p] SetTy)).alloc (.cells #[.pointer q] SetTy)).cell? ⟨w.heap.size, 0, none⟩ = some (.pointer p) ∧ ((w.alloc (.cells #[.pointer p] SetTy)).alloc (.cells #[.pointer q] SetTy)).cell? ⟨w.heap.size + 1, 0, none⟩ = some (.pointer q) := by
  have b1 : Below (w.alloc (.cells #[.pointer p] SetTy)).heap.size (w.alloc (.cells #[.pointer p] SetTy)) ((w.alloc (.cells #[.pointer p] SetTy)).alloc (.cells #[.pointer q] SetTy)) := (Below.refl _ _).alloc (Nat.le_refl _) _
  refine ⟨((Below.refl _ _).alloc (Nat.le_refl _) _).alloc (by simp) _, bcellAt b1 (cellB (j := 0) (heap_alloc_new w _) rfl), ?_⟩
  have e : w.heap.size + 1 = (w.alloc (.cells #[.pointer p] SetTy)).heap.size := by simp
  rw [e]; exact cellB (j := 0) (heap_alloc_new _ _) rfl
theorem three_new (w : World) (p q r : Option Addr) : Below w.heap.size w (((w.alloc (.cells #[.pointer p] SetTy)).alloc (.cells #[.pointer q] SetTy)).alloc (.cells #[.pointer r] SetTy)) ∧
    (((w.alloc (.cells #[.pointer p] SetTy)).alloc (.cells #[.pointer q] SetTy)).alloc (.cells #[.pointer r] SetTy)).cell? ⟨w.heap.size, 0, none⟩ = some (.pointer p) ∧
    (((w.alloc (.cells #[.pointer p] SetTy)).alloc (.cells #[.pointer q] SetTy)).alloc (.cells #[.pointer r] SetTy)).cell? ⟨w.heap.size + 1, 0, none⟩ = some (.pointer q) ∧
    (((w.alloc (.cells #[.pointer p] SetTy)).alloc (.cells #[.pointer q] SetTy)).alloc (.cells #[.pointer r] SetTy)).cell? ⟨w.heap.size + 2, 0, none⟩ = some (.pointer r) := by
  obtain ⟨h1, h2, h3⟩ := two_new w p q
  have b1 : Below ((w.alloc (.cells #[.pointer p] SetTy)).alloc (.cells #[.pointer q] SetTy)).heap.size ((w.alloc (.cells #[.pointer p] SetTy)).alloc (.cells #[.pointer q] SetTy)) (((w.alloc (.cells #[.pointer p] SetTy)).alloc (.cells #[.pointer q] SetTy)).alloc (.cells #[.pointer r] SetTy)) := (Below.refl _ _).alloc (Nat.le_refl _) _
  refine ⟨h1.trans (b1.mono h1.size), bcellAt b1 h2, bcellAt b1 h3, ?_⟩
  have e : w.heap.size + 2 = ((w.alloc (.cells #[.pointer p] SetTy)).alloc (.cells #[.pointer q] SetTy)).heap.size := by simp
  rw [e]; exact cellB (j := 0) (heap_alloc_new _ _) rfl

end Go.Proofs.Ytmbaedldikobcaa
