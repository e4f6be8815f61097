/-
  Queues and lists side by side in two slices of the call's own.
-/
import Derived.Test.YtmbaedldikobcaaKQMore
import Derived.Test.YtmbaedldikobcaaKLong
import Derived.Test.YtmbaedldikobcaaKBuilt
import Derived.Laws.AppendOwnNone
namespace Go.Proofs.Ytmbaedldikobcaa
open Go.RowKit
set_option linter.unusedVariables false

abbrev SlI : TypeId := 50
/-- The slice v reads as l; its block is of ints and of the call's own. -/
def RowQ (w : World) (B : Nat) (v : Value) (l : List Int) : Prop :=
  (v = .slice none 0 0 ∧ l = []) ∨
    ∃ b off cap cur, v = .slice (some ⟨b, off, none⟩) l.length cap ∧ B ≤ b ∧ w.heap[b]? = some (Obj.cells cur 3) ∧ l.length ≤ cap ∧ cap ≤ maxLen ∧ ∀ j u, (ints l)[j]? = some u → w.cell? ⟨b, off + j, none⟩ = some u
theorem cell_hold {w w' : World} {T : TypeId} {b o : Nat} {cur : Array Value} (h : w.heap[b]? = some (Obj.cells cur T)) (h' : w'.heap[b]? = some (Obj.cells cur T)) : w'.cell? ⟨b, o, none⟩ = w.cell? ⟨b, o, none⟩ := by
  unfold World.cell?
  simp [h, h']
theorem RowQ.hold {w w' : World} {B : Nat} {v : Value} {l : List Int} (h : RowQ w B v l) (hh : Hold 3 w w') : RowQ w' B v l := by
  rcases h with h | ⟨b, off, cap, cur, rfl, h1, h2, h3, h4, h5⟩
  · exact .inl h
  · exact .inr ⟨b, off, cap, cur, rfl, h1, hh _ _ h2, h3, h4, fun j u hj => by rw [cell_hold h2 (hh _ _ h2)]; exact h5 j u hj⟩
theorem RowQ.below {w w' : World} {B : Nat} {v : Value} {l : List Int} (h : RowQ w B v l) (hb : Below w.heap.size w w') : RowQ w' B v l := h.hold (Hold.below hb)
theorem RowQ.row {w : World} {B : Nat} {v : Value} {l : List Int} (h : RowQ w B v l) : Row w 1 v l.length (ints l) := by
  rcases h with ⟨rfl, rfl⟩ | ⟨b, off, cap, cur, rfl, h1, h2, h3, h4, h5⟩
  · exact ⟨rfl, .inl ⟨rfl, rfl⟩⟩
  · exact ⟨by simp [ints], .inr ⟨b, off, cap, rfl, (Array.getElem?_eq_some_iff.1 h2).1, h3, h4, h5⟩⟩
theorem RowQ.of_own {w : World} {B : Nat} {v : Value} {l : List Int} (h : w.ownsRow B 3 1 v l.length (ints l)) : RowQ w B v l := by
  have h' := h
  obtain ⟨h1, h2⟩ := h
  rcases h2 with ⟨rfl, h2⟩ | ⟨g, cap, cur, rfl, hb, hg, hle, hm, hc, ht⟩
  · exact .inl ⟨rfl, List.eq_nil_of_length_eq_zero h2⟩
  · refine .inr ⟨g, 0, cap, cur, rfl, hb, hg, hle, hm, fun j u hj => ?_⟩
    rw [Nat.zero_add, World.ownsRow.cellAt h' j (by rw [← h1]; exact (List.getElem?_eq_some_iff.1 hj).1)]
    exact hj

theorem sizeQ (w : World) : (Go.sizeOf 3).run Try.prog w = .ok 1 w := by kernel_rfl
/-- What stands behind a list's first. -/
theorem rowq_tail {w : World} {B : Nat} {v : Value} {a : Int} {l : List Int} (h : RowQ w B v (a :: l)) :
    ∃ v', RowQ w B v' l ∧ ∀ W : World, (Instr.slice 50 v (some (.int .i64 1)) none none).run Try.prog W = .ok v' W := by
  have he : Try.prog.elem 50 = 3 := by simp [Program.elem, Try.underlying50]
  have ht : Try.prog.underlying 50 = some (.slice (Try.prog.elem 50)) := by rw [he]; exact Try.underlying50
  rcases h with ⟨rfl, h⟩ | ⟨b, off, cap, cur, rfl, h1, h2, h3, h4, h5⟩
  · cases h
  · simp only [List.length_cons] at h3
    refine ⟨.slice (some (if cap = 1 then ⟨b, off, none⟩ else ⟨b, off + 1, none⟩)) l.length (cap - 1), ?_, fun W => ?_⟩
    · by_cases hc : cap = 1
      · obtain rfl : l = [] := List.eq_nil_of_length_eq_zero (by omega)
        rw [if_pos hc]
        exact .inr ⟨b, off, _, cur, rfl, h1, h2, by simp, by unfold maxLen at *; omega, fun j u hj => by simp [ints] at hj⟩
      · rw [if_neg hc]
        refine .inr ⟨b, off + 1, cap - 1, cur, rfl, h1, h2, by omega, by unfold maxLen at *; omega, fun j u hj => ?_⟩
        rw [Nat.add_assoc, Nat.add_comm 1 j]
        exact h5 (j + 1) u (by simpa [ints] using hj)
    · rw [run_slice_l W _ _ _ _ ht _ _ (by omega) (by simp; omega), he, sizeQ]
      simp only [Result.andThen_ok, sliced, List.length_cons]
      by_cases hc : cap = 1
      · simp [hc]
      · simp [hc, Addr.add]

/-- append of a list to a list of the call's own. -/
theorem wp_append_rq {w : World} {o : Oper} {a : Act} {K : Act → World → Prop} {Q : Exit → Act → World → Prop} (s x : Operand)
    (ho : o.op = .call { callee := .builtin .append, args := #[s, x], argTypes := #[50, 50] })
    (base : Nat) (v : Value) (xs : List Int) (hs : a.eval s = v) (hown : w.ownsRow base 3 1 v xs.length (ints xs)) (vx : Value) (l : List Int) (hx : a.eval x = vx) (hrd : Row w 1 vx l.length (ints l))
    (hlen : xs.length + l.length ≤ 1000000) (hbase : base ≤ w.heap.size)
    (h : ∀ v' w', w'.ownsRow base 3 1 v' (xs ++ l).length (ints (xs ++ l)) → w.grownBy w' v.ownBlock → K (a.put o.dst v') w') : Oper.wp Try.prog o a w K Q := by
  obtain ⟨i0, hi, hz0, hz1, hz2⟩ := info_parts rowI
  rcases hrd with ⟨hl, ⟨rfl, h0⟩ | ⟨b, off, cap, rfl, h1, h2, h3, h4⟩⟩
  · obtain rfl : l = [] := List.eq_nil_of_length_eq_zero h0
    have hrun := run_append_owned_none (P := Try.prog) (w := w) base 50 o.type 3 i0 1 Try.underlying50 hi v _ _ hown
    unfold Oper.wp
    simp [execOp, ho, resolve, invoke, builtin, hs, hx, hrun, Result.andThen]
    exact h v w (by rw [List.append_nil]; exact hown) ⟨rfl, rfl, rfl, Nat.le_refl _, fun _ _ _ => rfl⟩
  · refine wp_append_own w s x 50 ho base 3 i0 (.int .i64 0) 1 8 Try.underlying50 hi hz0 hz1 hz2 rfl (by decide) v _ _ hs hown ⟨b, off, none⟩ l.length cap (ints l) hx (by simp [ints]) (fun j u hj => by have := h4 j u hj; by_cases h0 : j = 0 <;> simp_all [Addr.add]) (ints_oneCell l) (by unfold maxLen; omega) (by omega) hbase ?_
    intro v' w' h6 h7 _
    exact h v' w' (by rw [List.length_append, ints_append]; exact h6) h7

theorem set_q {cm : Array Value} {i : Nat} {v : Value} (hi : i < cm.size) : (cm.setIfInBounds i v)[i]? = some v := by simp [hi]
/-- At bm stand queues, at bl lists, side by side the same. -/
structure KQ (w : World) (B bm bl : Nat) (cm cl : Array Value) (n m : Nat) : Prop where
  mb : w.heap[bm]? = some (Obj.cells cm QueT)
  lb : w.heap[bl]? = some (Obj.cells cl SlI)
  ms : cm.size = m * 2
  ls : cl.size = m
  gm : B ≤ bm
  gl : B ≤ bl
  each : ∀ j, j < m → ∃ q x v l, cm[j * 2]? = some (.pointer q) ∧ cm[j * 2 + 1]? = some (.int .i64 x) ∧ cl[j]? = some v ∧ IsQ w (.agg #[.pointer q, .int .i64 x]) x l ∧ RowQ w B v l ∧ (l.length ≤ n ∧ 0 ≤ x ∧ x ≤ n) ∧ (n < j → l = [])

section
variable {w w' : World} {B bm bl n m : Nat} {cm cl : Array Value}
theorem KQ.below (h : KQ w B bm bl cm cl n m) (hb : Below w.heap.size w w') : KQ w' B bm bl cm cl n m :=
  ⟨Hold.below hb _ _ h.mb, Hold.below hb _ _ h.lb, h.ms, h.ls, h.gm, h.gl, fun j hj => by
    obtain ⟨q, x, v, l, h1, h2, h3, h4, h5, h6⟩ := h.each j hj
    exact ⟨q, x, v, l, h1, h2, h3, h4.below hb, h5.below hb, h6⟩⟩
theorem KQ.ne (h : KQ w B bm bl cm cl n m) : bm ≠ bl := by
  rintro rfl
  have := h.mb.symm.trans h.lb
  simp only [Option.some.injEq, Obj.cells.injEq] at this
  exact absurd this.2.1 (by decide)
/-- The next queue, and the next list, laid. -/
theorem KQ.next (h : KQ w B bm bl cm cl n m) {W : World} {cl' : Array Value} {q : Option Addr} {x : Int} {v : Value} {l : List Int}
    (hm : W.heap[bm]? = some (Obj.cells ((cm.setIfInBounds ((n + 1) * 2) (.pointer q)).setIfInBounds ((n + 1) * 2 + 1) (.int .i64 x)) QueT)) (hl : W.heap[bl]? = some (Obj.cells cl' SlI)) (hls' : cl'.size = m)
    (hv : cl'[n + 1]? = some v) (hne : ∀ j, j ≠ n + 1 → cl'[j]? = cl[j]?) (hi : n + 1 < m)
    (ht : IsQ W (.agg #[.pointer q, .int .i64 x]) x l) (ho : RowQ W B v l) (hz : l.length ≤ n + 1) (hx : 0 ≤ x) (hx' : x ≤ n + 1)
    (hN : Hold 194 w W) (hI : Hold 3 w W) :
    KQ W B bm bl ((cm.setIfInBounds ((n + 1) * 2) (.pointer q)).setIfInBounds ((n + 1) * 2 + 1) (.int .i64 x)) cl' (n + 1) m := by
  refine ⟨hm, hl, by simp [h.ms], hls', h.gm, h.gl, fun j hj => ?_⟩
  have hms := h.ms
  by_cases e : j = n + 1
  · subst e
    refine ⟨q, x, v, l, ?_, ?_, hv, ht, ho, ⟨hz, hx, by omega⟩, fun h => by omega⟩
    · rw [Array.getElem?_setIfInBounds_ne (by omega)]; exact set_q (by rw [hms]; omega)
    · exact set_q (by rw [Array.size_setIfInBounds, hms]; omega)
  · obtain ⟨q', x', v', l', h1, h2, h3, h4, h5, ⟨h6, h7, h8⟩, h9⟩ := h.each j hj
    refine ⟨q', x', v', l', ?_, ?_, ?_, h4.hold hN, h5.hold hI, ⟨by omega, h7, by omega⟩, fun h => h9 (by omega)⟩
    · rw [Array.getElem?_setIfInBounds_ne (by omega), Array.getElem?_setIfInBounds_ne (by omega)]; exact h1
    · rw [Array.getElem?_setIfInBounds_ne (by omega), Array.getElem?_setIfInBounds_ne (by omega)]; exact h2
    · rw [hne j e]; exact h3
/-- Queues, and lists, that were just made. -/
theorem KQ.made {w : World} {B bm bl m : Nat} {cm cl : Array Value} (hm : w.heap[bm]? = some (Obj.cells cm QueT)) (hl : w.heap[bl]? = some (Obj.cells cl SlI)) (ms : cm.size = m * 2) (ls : cl.size = m) (gm : B ≤ bm) (gl : B ≤ bl)
    (h1 : ∀ j, j < m → cm[j * 2]? = some (.pointer none) ∧ cm[j * 2 + 1]? = some (.int .i64 0)) (h2 : ∀ j, j < m → cl[j]? = some (.slice none 0 0)) : KQ w B bm bl cm cl 0 m :=
  ⟨hm, hl, ms, ls, gm, gl, fun j hj => ⟨none, 0, .slice none 0 0, [], (h1 j hj).1, (h1 j hj).2, h2 j hj, IsQ.zero w, .inl ⟨rfl, rfl⟩, by simp, fun _ => rfl⟩⟩
end

end Go.Proofs.Ytmbaedldikobcaa
