/-
  What the row's condition gives the walks: the table of the kinds' fields.
-/
import Derived.Test.YtlckneajppfmbaaDoorTShape
import Derived.Test.YtlckneajppfmbaaDoorRows
import Derived.LaidMore
import Derived.MakeChecks
import Derived.JoinedOf
import Derived.Stop.Joined
namespace Go.Proofs.YtlckneajppfmbaaDoor
open Go.ChangeShapes Go.WideShapes Go.ChangeAt Go.WideMaps Go.WideElems Go.RowKit
set_option linter.unusedVariables false

abbrev laidL : List (String × DataW Unit) := [("escrow/term.shapes", Rows.laid_escrow_term_shapes)]
def shD (k : Nat) : DataW Unit := .agg [.lit (.bool (namedB (k : Int))), .lit (.bool (twoB (k : Int))), .lit (.bool ((k : Int) == 2)), .lit (.bool ((k : Int) == 3)), .lit (.int .i64 (kidsN (k : Int) : Int))]
theorem datum_eq : (Rows.laid_escrow_term_shapes (H := Unit)) = .agg ((List.range 10).map shD) := by kernel_rfl
theorem gShapes : Tryd.prog.globalNamed "escrow/term.shapes" = some 0 := by kernel_rfl
theorem tShapes : (Tryd.prog.globals[0]?).map (·.type) = some 173 := by kernel_rfl

set_option maxRecDepth 100000 in
theorem trod_shape {H : Type} {enc : TypeId × Value → H} {W : World} {base fuel : Nat} {sp : Nat → Bool} {held : Bool} {cs : List Value} {x : DataW H × List MemPlace} {b0 b1 b2 b3 : Bool} {m : Int}
    (ht : DataW.trod enc Tryd.prog W base sp held fuel ShT cs = some x) (hx : x.1 = .agg [.lit (.bool b0), .lit (.bool b1), .lit (.bool b2), .lit (.bool b3), .lit (.int .i64 m)]) :
    cs = [.bool b0, .bool b1, .bool b2, .bool b3, .int .i64 m] := by
  obtain ⟨ys, k, _, hxx, hl, hyl, hfld⟩ := DataW.trod_struct Tryd.underlying164 ht
  rw [hxx] at hx
  have c5 : Tryd.prog.cellsOf 164 = 5 := by kernel_rfl
  have cb : Tryd.prog.cellsOf 4 = 1 := by kernel_rfl
  have ci : Tryd.prog.cellsOf 3 = 1 := by kernel_rfl
  rw [c5] at hl
  match cs, hl with
  | [u0, u1, u2, u3, u4], _ =>
    have f0 : DataW.trod enc Tryd.prog W base sp held k 4 (([u0, u1, u2, u3, u4].drop 0).take (Tryd.prog.cellsOf 4)) = ys[0]? := hfld 0 _ rfl
    have f1 : DataW.trod enc Tryd.prog W base sp held k 4 (([u0, u1, u2, u3, u4].drop 1).take (Tryd.prog.cellsOf 4)) = ys[1]? := hfld 1 _ rfl
    have f2 : DataW.trod enc Tryd.prog W base sp held k 4 (([u0, u1, u2, u3, u4].drop 2).take (Tryd.prog.cellsOf 4)) = ys[2]? := hfld 2 _ rfl
    have f3 : DataW.trod enc Tryd.prog W base sp held k 4 (([u0, u1, u2, u3, u4].drop 3).take (Tryd.prog.cellsOf 4)) = ys[3]? := hfld 3 _ rfl
    have f4 : DataW.trod enc Tryd.prog W base sp held k 3 (([u0, u1, u2, u3, u4].drop 4).take (Tryd.prog.cellsOf 3)) = ys[4]? := hfld 4 _ rfl
    rw [cb] at f0 f1 f2 f3
    rw [ci] at f4
    simp only [List.drop_zero, List.drop_succ_cons, List.take_succ_cons, List.take_zero] at f0 f1 f2 f3 f4
    match ys, hyl with
    | [y0, y1, y2, y3, y4], _ =>
      simp only [List.map_cons, List.map_nil, DataW.agg.injEq, List.cons.injEq, and_true] at hx
      obtain ⟨h0, h1, h2, h3, h4⟩ := hx
      obtain ⟨v0, e0, w0⟩ := DataW.trod_bool Tryd.underlying4 (show DataW.trod enc Tryd.prog W base sp held k 4 [u0] = some y0 from f0)
      obtain ⟨v1, e1, w1⟩ := DataW.trod_bool Tryd.underlying4 (show DataW.trod enc Tryd.prog W base sp held k 4 [u1] = some y1 from f1)
      obtain ⟨v2, e2, w2⟩ := DataW.trod_bool Tryd.underlying4 (show DataW.trod enc Tryd.prog W base sp held k 4 [u2] = some y2 from f2)
      obtain ⟨v3, e3, w3⟩ := DataW.trod_bool Tryd.underlying4 (show DataW.trod enc Tryd.prog W base sp held k 4 [u3] = some y3 from f3)
      obtain ⟨v4, e4, w4, _⟩ := DataW.trod_int Tryd.underlying3 (show DataW.trod enc Tryd.prog W base sp held k 3 [u4] = some y4 from f4)
      rw [w0] at h0
      rw [w1] at h1
      rw [w2] at h2
      rw [w3] at h3
      rw [w4] at h4
      simp only [DataW.lit.injEq, Lit.bool.injEq, Lit.int.injEq, true_and] at h0 h1 h2 h3 h4
      simp only [List.cons.injEq, and_true] at e0 e1 e2 e3 e4
      rw [e0, e1, e2, e3, e4, h0, h1, h2, h3, h4]

theorem at_of_take {L : List Value} {n : Nat} {a0 a1 a2 a3 a4 : Value} (h : (L.drop n).take 5 = [a0, a1, a2, a3, a4]) : L[n]? = some a0 ∧ L[n + 1]? = some a1 ∧ L[n + 2]? = some a2 ∧ L[n + 3]? = some a3 ∧ L[n + 4]? = some a4 := by
  have g : ∀ j, j < 5 → L[n + j]? = [a0, a1, a2, a3, a4][j]? := fun j hj => by
    rw [← h, List.getElem?_take, if_pos hj, List.getElem?_drop]
  exact ⟨g 0 (by decide), g 1 (by decide), g 2 (by decide), g 3 (by decide), g 4 (by decide)⟩

set_option maxRecDepth 100000 in
theorem of_laid {W : World} (h : laidMetH Tryd.prog laidL W) : Laid W := by
  rw [MakeChecks.laidMetH_plain _ _ _ (by kernel_rfl)] at h
  obtain ⟨ps, ⟨g0, t0, cs0, f0, p0, q0, hg0, ht0, hv0, hd0, _, _⟩, _, _⟩ := h
  obtain rfl := Option.some.inj (gShapes.symm.trans hg0)
  obtain rfl := Option.some.inj (tShapes.symm.trans ht0)
  rw [datum_eq] at hd0
  obtain ⟨xs, m, _, hx, _, hn, hel⟩ := DataW.trod_array Tryd.underlying173 hd0
  have c5 : Tryd.prog.cellsOf 164 = 5 := by kernel_rfl
  simp only [Prod.mk.injEq, DataW.agg.injEq] at hx
  intro k hk
  have hek := hel k hk
  rw [c5] at hek
  have hxk : xs[k]? = some (xs[k]'(by omega)) := List.getElem?_eq_getElem (by omega)
  rw [hxk] at hek
  have hd : (xs[k]'(by omega)).1 = shD k := by
    have := congrArg (fun l => l[k]?) hx.1
    simp only [List.getElem?_map, hxk, Option.map_some, List.getElem?_range hk] at this
    exact (Option.some.inj this).symm
  have hc := trod_shape hek hd
  obtain ⟨a0, a1, a2, a3, a4⟩ := at_of_take hc
  refine ⟨?_, ?_, ?_, ?_, ?_⟩
  · rw [World.var?_cell hg0 hv0, ← a0]; simp
  · rw [World.var?_cell hg0 hv0, ← a1]; simp
  · rw [World.var?_cell hg0 hv0, ← a2]; simp
  · rw [World.var?_cell hg0 hv0, ← a3]; simp
  · rw [World.var?_cell hg0 hv0, ← a4]; simp

/-- The door's own heap meets the condition: three closed facts. -/
theorem door_met (os : Os) (args : Array Value) : laidMetH Tryd.prog laidL ((World.doorLaid Tryd.prog 400 os).forCall (fun _ _ => 0) ⟨#[], args, []⟩).memory :=
  laidMetH_of_parts3 (fuel := 8) (laidMet_of_run' 8 (by kernel_rfl) (by kernel_rfl)) (by kernel_rfl) (by kernel_rfl)
end Go.Proofs.YtlckneajppfmbaaDoor
