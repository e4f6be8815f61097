/-
  What an argument that is a list of entries gives the walk.
-/
import Derived.Test.YtmbaedldikobcaaKArgs
import Derived.Test.YtmbaedldikobcaaKPutR
namespace Go.Proofs.Ytmbaedldikobcaa
open Go.ChangeShapes Go.WideShapes Go.ChangeAt Go.RowKit
set_option linter.unusedVariables false

theorem cellsE : Try.prog.cellsOf 48 = 2 := by kernel_rfl
section
variable {H : Type} {enc : TypeId × Value → H} {W : World} {base : Nat}
set_option maxRecDepth 100000 in
theorem open_ents {v : Value} {fuel : Nat} {x : DataW H × List MemPlace} (hval : Cell.okWide Try.prog W .any base 33 v) (hf : DataW.trod enc Try.prog W 0 (fun _ => true) true fuel 33 [v] = some x) :
    ∃ l : List Ent, Row W 2 v l.length (ents l) ∧ ∀ y ∈ l, y.1.size ≤ maxLen := by
  rcases Go.Deep.open_slice Try.underlying33 hf with ⟨hcs, _⟩ | ⟨y, len, cap, m, n, D, Pl, hcs, _, hl, hm, hmm, hx, hi⟩
  · simp at hcs
    subst hcs
    exact ⟨[], Row.nils W 2, fun s hs => by cases hs⟩
  · simp at hcs
    subst hcs
    simp only [if_true] at hmm
    subst hmm
    have hh : W.has Try.prog .any base y 48 m := by
      simp only [Try.underlying33, Cell.okWide, Cell.ok] at hval
      exact hval.2.2
    obtain ⟨hspot, hblk⟩ := place_of hh
    obtain ⟨b, off, spot⟩ := y
    simp only at hspot hblk
    subst hspot
    have each : ∀ i, i < m → ∃ z : Ent, z.1.size ≤ maxLen ∧ W.cell? ⟨b, off + i * 2, none⟩ = some (.string z.1) ∧ W.cell? ⟨b, off + i * 2 + 1, none⟩ = some (.int .i64 z.2) := by
      intro i him
      obtain ⟨cs', hc, ht⟩ := hi i him
      rw [cellsE] at hc
      obtain ⟨_, hlen3, hat⟩ := World.cells?_some hc
      obtain ⟨ys, k, _, _, _, hyl, hfld⟩ := DataW.trod_struct Try.underlying48 ht
      match cs', hlen3 with
      | [u0, u1], _ =>
        have f0 : DataW.trod enc Try.prog W 0 (fun _ => true) true k 9 (([u0, u1].drop 0).take (Try.prog.cellsOf 9)) = ys[0]? := hfld 0 _ rfl
        have f1 : DataW.trod enc Try.prog W 0 (fun _ => true) true k 3 (([u0, u1].drop 1).take (Try.prog.cellsOf 3)) = ys[1]? := hfld 1 _ rfl
        have hi1 : Try.prog.cellsOf 3 = 1 := by kernel_rfl
        rw [hi1] at f1
        rw [cellsS] at f0
        simp only [List.drop_zero, List.drop_succ_cons, List.take_succ_cons, List.take_zero] at f0 f1
        have y0 : ys[0]? = some (ys[0]'(by rw [hyl]; decide)) := List.getElem?_eq_getElem (by rw [hyl]; decide)
        have y1 : ys[1]? = some (ys[1]'(by rw [hyl]; decide)) := List.getElem?_eq_getElem (by rw [hyl]; decide)
        rw [y0] at f0
        rw [y1] at f1
        obtain ⟨n1, e1, _, w1⟩ := DataW.trod_int Try.underlying3 f1
        obtain ⟨s0, e0, _, w0⟩ := DataW.trod_string Try.underlying9 f0
        simp at e0 e1
        subst e0; subst e1
        have a0 := hat 0 (by decide)
        have a1 := hat 1 (by decide)
        rw [Go.Deep.add_add, addr_add] at a0 a1
        refine ⟨(s0, n1), w0, ?_, ?_⟩
        · simpa using a0
        · rw [Nat.add_assoc]; simpa using a1
    obtain ⟨l, hll, hq⟩ := list_of m each
    have hlt : (l.take len).length = len := by simp; omega
    refine ⟨l.take len, ⟨by rw [ents_length], .inr ⟨b, off, m, by rw [hlt], hblk, by omega, hm, fun j u hj => ?_⟩⟩, fun z hz => ?_⟩
    · have hj' : j < len * 2 := by
        have := (List.getElem?_eq_some_iff.1 hj).1
        rw [ents_length] at this; omega
      have hd : j / 2 < (l.take len).length := by omega
      obtain ⟨_, q0, q1⟩ := hq (j / 2) (by omega)
      obtain ⟨p0, p1⟩ := ents_at (l.take len) (j / 2) hd
      rw [List.getElem_take] at p0 p1
      rcases (by omega : j = j / 2 * 2 ∨ j = j / 2 * 2 + 1) with e | e
      · rw [← e] at p0 q0; rw [p0] at hj; rw [← hj]; exact q0
      · rw [← e] at p1; rw [Nat.add_assoc, ← e] at q1; rw [p1] at hj; rw [← hj]; exact q1
    · obtain ⟨i, hi', rfl⟩ := List.getElem_of_mem (List.mem_of_mem_take hz)
      exact (hq i hi').1
end
end Go.Proofs.Ytmbaedldikobcaa
