/-
  What the row's condition gives the walks: the table of the kinds' fields.
  What the row's condition gives the walks: the table of the letters' kinds.
  A list of terms as an argument.
  The statement EvidenceMore, as a tied card. No condition.
-/
import Derived.Test.YtjmcaceegfdkkaaGreatDoorRows
import Derived.LaidMore
import Derived.MakeChecks
import Derived.JoinedOf
import Derived.Stop.Joined
import Derived.ChangeSlices
import Derived.Test.YtjmcaceegfdkkaaGreatDoorCards
import Derived.Test.YtjmcaceegfdkkaaGreatDoorTie
import Derived.ChangeMaps5
import Derived.SevenTiedAt
import Derived.Test.YtjmcaceegfdkkaaGreatDoorQcTKey
import Derived.Test.YtjmcaceegfdkkaaGreatDoorQcLBoth
import Derived.Test.YtjmcaceegfdkkaaGreatDoorQcEDer
import Derived.Test.YtjmcaceegfdkkaaGreatDoorQcTRefP
import Derived.Test.YtjmcaceegfdkkaaGreatDoorQcFMorW
namespace Go.Proofs.YtjmcaceegfdkkaaGreatDoor
open Go.ChangeShapes Go.WideShapes Go.ChangeAt Go.WideMaps Go.WideElems Go.RowKit
set_option linter.unusedVariables false
abbrev laidL : List (String × DataW Unit) := [("escrow/term.shapes", Rows.laid_escrow_term_shapes), ("escrow/letter.kinds", Rows.laid_escrow_letter_kinds)]
def shD (k : Nat) : DataW Unit := .agg [.lit (.bool (namedB (k : Int))), .lit (.bool (twoB (k : Int))), .lit (.bool ((k : Int) == 2)), .lit (.bool ((k : Int) == 3)), .lit (.int .i64 (kidsN (k : Int) : Int))]
theorem datum_eq : (Rows.laid_escrow_term_shapes (H := Unit)) = .agg ((List.range 10).map shD) := by kernel_rfl
theorem gShapes : Tryz.prog.globalNamed "escrow/term.shapes" = some 1 := by kernel_rfl
theorem tShapes : (Tryz.prog.globals[1]?).map (·.type) = some 223 := by kernel_rfl
set_option maxRecDepth 100000 in
theorem trod_shape {H : Type} {enc : TypeId × Value → H} {W : World} {base fuel : Nat} {sp : Nat → Bool} {held : Bool} {cs : List Value} {x : DataW H × List MemPlace} {b0 b1 b2 b3 : Bool} {m : Int}
  (ht : DataW.trod enc Tryz.prog W base sp held fuel ShT cs = some x) (hx : x.1 = .agg [.lit (.bool b0), .lit (.bool b1), .lit (.bool b2), .lit (.bool b3), .lit (.int .i64 m)]) :
  cs = [.bool b0, .bool b1, .bool b2, .bool b3, .int .i64 m] := by
 obtain ⟨ys, k, _, hxx, hl, hyl, hfld⟩ := DataW.trod_struct Tryz.underlying150 ht
 rw [hxx] at hx
 have c5 : Tryz.prog.cellsOf 150 = 5 := by kernel_rfl
 have cb : Tryz.prog.cellsOf 4 = 1 := by kernel_rfl
 have ci : Tryz.prog.cellsOf 3 = 1 := by kernel_rfl
 rw [c5] at hl
 match cs, hl with
 | [u0, u1, u2, u3, u4], _ =>
  have f0 : DataW.trod enc Tryz.prog W base sp held k 4 (([u0, u1, u2, u3, u4].drop 0).take (Tryz.prog.cellsOf 4)) = ys[0]? := hfld 0 _ rfl
  have f1 : DataW.trod enc Tryz.prog W base sp held k 4 (([u0, u1, u2, u3, u4].drop 1).take (Tryz.prog.cellsOf 4)) = ys[1]? := hfld 1 _ rfl
  have f2 : DataW.trod enc Tryz.prog W base sp held k 4 (([u0, u1, u2, u3, u4].drop 2).take (Tryz.prog.cellsOf 4)) = ys[2]? := hfld 2 _ rfl
  have f3 : DataW.trod enc Tryz.prog W base sp held k 4 (([u0, u1, u2, u3, u4].drop 3).take (Tryz.prog.cellsOf 4)) = ys[3]? := hfld 3 _ rfl
  have f4 : DataW.trod enc Tryz.prog W base sp held k 3 (([u0, u1, u2, u3, u4].drop 4).take (Tryz.prog.cellsOf 3)) = ys[4]? := hfld 4 _ rfl
  rw [cb] at f0 f1 f2 f3
  rw [ci] at f4
  simp only [List.drop_zero, List.drop_succ_cons, List.take_succ_cons, List.take_zero] at f0 f1 f2 f3 f4
  match ys, hyl with
  | [y0, y1, y2, y3, y4], _ =>
   simp only [List.map_cons, List.map_nil, DataW.agg.injEq, List.cons.injEq, and_true] at hx
   obtain ⟨h0, h1, h2, h3, h4⟩ := hx
   obtain ⟨v0, e0, w0⟩ := DataW.trod_bool Tryz.underlying4 (show DataW.trod enc Tryz.prog W base sp held k 4 [u0] = some y0 from f0)
   obtain ⟨v1, e1, w1⟩ := DataW.trod_bool Tryz.underlying4 (show DataW.trod enc Tryz.prog W base sp held k 4 [u1] = some y1 from f1)
   obtain ⟨v2, e2, w2⟩ := DataW.trod_bool Tryz.underlying4 (show DataW.trod enc Tryz.prog W base sp held k 4 [u2] = some y2 from f2)
   obtain ⟨v3, e3, w3⟩ := DataW.trod_bool Tryz.underlying4 (show DataW.trod enc Tryz.prog W base sp held k 4 [u3] = some y3 from f3)
   obtain ⟨v4, e4, w4, _⟩ := DataW.trod_int Tryz.underlying3 (show DataW.trod enc Tryz.prog W base sp held k 3 [u4] = some y4 from f4)
   rw [w0] at h0
   rw [w1] at h1
   rw [w2] at h2
   rw [w3] at h3
   rw [w4] at h4
   simp only [DataW.lit.injEq, Lit.bool.injEq, Lit.int.injEq, true_and] at h0 h1 h2 h3 h4
   simp only [List.cons.injEq, and_true] at e0 e1 e2 e3 e4
   rw [e0, e1, e2, e3, e4, h0, h1, h2, h3, h4]
theorem at_of_take {L : List Value} {n : Nat} {a0 a1 a2 a3 a4 : Value} (h : (L.drop n).take 5 = [a0, a1, a2, a3, a4]) : L[n]? = some a0 ∧ L[n + 1]? = some a1 ∧ L[n + 2]? = some a2 ∧ L[n + 3]? = some a3 ∧ L[n + 4]? = some a4 := by
 have g : ∀ j, j < 5 → L[n + j]? = [a0, a1, a2, a3, a4][j]? := fun j hj => by
  rw [← h, List.getElem?_take, if_pos hj, List.getElem?_drop]
 exact ⟨g 0 (by decide), g 1 (by decide), g 2 (by decide), g 3 (by decide), g 4 (by decide)⟩
set_option maxRecDepth 100000 in
theorem of_laid {W : World} (h : laidMetH Tryz.prog laidL W) : Laid W := by
 rw [MakeChecks.laidMetH_plain _ _ _ (by kernel_rfl)] at h
 obtain ⟨ps, ⟨g0, t0, cs0, f0, p0, q0, hg0, ht0, hv0, hd0, _, _⟩, _⟩ := h
 obtain rfl := Option.some.inj (gShapes.symm.trans hg0)
 obtain rfl := Option.some.inj (tShapes.symm.trans ht0)
 rw [datum_eq] at hd0
 obtain ⟨xs, m, _, hx, _, hn, hel⟩ := DataW.trod_array Tryz.underlying223 hd0
 have c5 : Tryz.prog.cellsOf 150 = 5 := by kernel_rfl
 simp only [Prod.mk.injEq, DataW.agg.injEq] at hx
 intro k hk
 have hek := hel k hk
 rw [c5] at hek
 have hxk : xs[k]? = some (xs[k]'(by omega)) := List.getElem?_eq_getElem (by omega)
 rw [hxk] at hek
 have hd : (xs[k]'(by omega)).1 = shD k := by
  have := congrArg (fun l => l[k]?) hx.1
  simp only [List.getElem?_map, hxk, Option.map_some, List.getElem?_range hk] at this
  exact (Option.some.inj this).symm
 have hc := trod_shape hek hd
 obtain ⟨a0, a1, a2, a3, a4⟩ := at_of_take hc
 refine ⟨?_, ?_, ?_, ?_, ?_⟩
 ·rw [World.var?_cell hg0 hv0, ← a0]; simp
 ·rw [World.var?_cell hg0 hv0, ← a1]; simp
 ·rw [World.var?_cell hg0 hv0, ← a2]; simp
 ·rw [World.var?_cell hg0 hv0, ← a3]; simp
 ·rw [World.var?_cell hg0 hv0, ← a4]; simp
theorem door_met (os : Os) (args : Array Value) : laidMetH Tryz.prog laidL ((World.doorLaid Tryz.prog 400 os).forCall (fun _ _ => 0) ⟨#[], args, []⟩).memory :=
 laidMetH_of_parts3 (fuel := 8) (laidMet_of_run' 8 (by kernel_rfl) (by kernel_rfl)) (by kernel_rfl) (by kernel_rfl)
end Go.Proofs.YtjmcaceegfdkkaaGreatDoor
namespace Go.Proofs.YtjmcaceegfdkkaaGreatDoor
open Go.ChangeShapes Go.WideShapes Go.ChangeAt Go.WideMaps Go.WideElems Go.RowKit
set_option linter.unusedVariables false
def kdV (k : Nat) : DataW Unit := .agg [.lit (.string (kdW k).data.toList), .lit (.string (kdD k).data.toList), .lit (.int .i64 (kdBy k)), .lit (.int .i64 (kdTo k)), .lit (.bool (fromB (k : Int))), .lit (.bool (textB (k : Int))), .lit (.bool (fakeB (k : Int)))]
theorem datumK_eq : (Rows.laid_escrow_letter_kinds (H := Unit)) = .agg ((List.range 8).map kdV) := by kernel_rfl
theorem gKinds : Tryz.prog.globalNamed "escrow/letter.kinds" = some 0 := by kernel_rfl
theorem tKinds : (Tryz.prog.globals[0]?).map (·.type) = some KdsT := by kernel_rfl
theorem data_inj {a b : ByteArray} (h : a.data.toList = b.data.toList) : a = b := by
 cases a; cases b
 simpa using h
set_option maxRecDepth 100000 in
theorem trod_kind {H : Type} {enc : TypeId × Value → H} {W : World} {base fuel : Nat} {sp : Nat → Bool} {held : Bool} {cs' : List Value} {x : DataW H × List MemPlace} {s0 s1 : ByteArray} {b4 b5 b6 : Bool} {m2 m3 : Int}
  (ht : DataW.trod enc Tryz.prog W base sp held fuel KdT cs' = some x) (hx : x.1 = .agg [.lit (.string s0.data.toList), .lit (.string s1.data.toList), .lit (.int .i64 m2), .lit (.int .i64 m3), .lit (.bool b4), .lit (.bool b5), .lit (.bool b6)]) :
  cs' = [.string s0, .string s1, .int .i64 m2, .int .i64 m3, .bool b4, .bool b5, .bool b6] := by
 obtain ⟨ys, k, _, hxx, hl, hyl, hfld⟩ := DataW.trod_struct (fs := Tryz.prog.fieldsOf KdT) (by kernel_rfl) ht
 rw [hxx] at hx
 have c7 : Tryz.prog.cellsOf KdT = 7 := by kernel_rfl
 have cs : Tryz.prog.cellsOf 9 = 1 := by kernel_rfl
 have cb : Tryz.prog.cellsOf 4 = 1 := by kernel_rfl
 have ci : Tryz.prog.cellsOf 3 = 1 := by kernel_rfl
 have h7 : (Tryz.prog.fieldsOf KdT).size = 7 := by kernel_rfl
 rw [c7] at hl
 rw [h7] at hyl
 match cs', hl with
 | [u0, u1, u2, u3, u4, u5, u6], _ =>
  have f0 : DataW.trod enc Tryz.prog W base sp held k 9 (([u0, u1, u2, u3, u4, u5, u6].drop 0).take (Tryz.prog.cellsOf 9)) = ys[0]? := hfld 0 _ rfl
  have f1 : DataW.trod enc Tryz.prog W base sp held k 9 (([u0, u1, u2, u3, u4, u5, u6].drop 1).take (Tryz.prog.cellsOf 9)) = ys[1]? := hfld 1 _ rfl
  have f2 : DataW.trod enc Tryz.prog W base sp held k 3 (([u0, u1, u2, u3, u4, u5, u6].drop 2).take (Tryz.prog.cellsOf 3)) = ys[2]? := hfld 2 _ rfl
  have f3 : DataW.trod enc Tryz.prog W base sp held k 3 (([u0, u1, u2, u3, u4, u5, u6].drop 3).take (Tryz.prog.cellsOf 3)) = ys[3]? := hfld 3 _ rfl
  have f4 : DataW.trod enc Tryz.prog W base sp held k 4 (([u0, u1, u2, u3, u4, u5, u6].drop 4).take (Tryz.prog.cellsOf 4)) = ys[4]? := hfld 4 _ rfl
  have f5 : DataW.trod enc Tryz.prog W base sp held k 4 (([u0, u1, u2, u3, u4, u5, u6].drop 5).take (Tryz.prog.cellsOf 4)) = ys[5]? := hfld 5 _ rfl
  have f6 : DataW.trod enc Tryz.prog W base sp held k 4 (([u0, u1, u2, u3, u4, u5, u6].drop 6).take (Tryz.prog.cellsOf 4)) = ys[6]? := hfld 6 _ rfl
  rw [cs] at f0
  rw [cs] at f1
  rw [ci] at f2
  rw [ci] at f3
  rw [cb] at f4
  rw [cb] at f5
  rw [cb] at f6
  simp only [List.drop_zero, List.drop_succ_cons, List.take_succ_cons, List.take_zero] at f0 f1 f2 f3 f4 f5 f6
  match ys, hyl with
  | [y0, y1, y2, y3, y4, y5, y6], _ =>
   simp only [List.map_cons, List.map_nil, DataW.agg.injEq, List.cons.injEq, and_true] at hx
   obtain ⟨h0, h1, h2, h3, h4, h5, h6⟩ := hx
   obtain ⟨v0, e0, w0, _⟩ := DataW.trod_string Tryz.underlying9 (show DataW.trod enc Tryz.prog W base sp held k 9 [u0] = some y0 from f0)
   obtain ⟨v1, e1, w1, _⟩ := DataW.trod_string Tryz.underlying9 (show DataW.trod enc Tryz.prog W base sp held k 9 [u1] = some y1 from f1)
   obtain ⟨v2, e2, w2, _⟩ := DataW.trod_int Tryz.underlying3 (show DataW.trod enc Tryz.prog W base sp held k 3 [u2] = some y2 from f2)
   obtain ⟨v3, e3, w3, _⟩ := DataW.trod_int Tryz.underlying3 (show DataW.trod enc Tryz.prog W base sp held k 3 [u3] = some y3 from f3)
   obtain ⟨v4, e4, w4⟩ := DataW.trod_bool Tryz.underlying4 (show DataW.trod enc Tryz.prog W base sp held k 4 [u4] = some y4 from f4)
   obtain ⟨v5, e5, w5⟩ := DataW.trod_bool Tryz.underlying4 (show DataW.trod enc Tryz.prog W base sp held k 4 [u5] = some y5 from f5)
   obtain ⟨v6, e6, w6⟩ := DataW.trod_bool Tryz.underlying4 (show DataW.trod enc Tryz.prog W base sp held k 4 [u6] = some y6 from f6)
   rw [w0] at h0
   rw [w1] at h1
   rw [w2] at h2
   rw [w3] at h3
   rw [w4] at h4
   rw [w5] at h5
   rw [w6] at h6
   simp only [DataW.lit.injEq, Lit.bool.injEq, Lit.int.injEq, Lit.string.injEq, true_and] at h0 h1 h2 h3 h4 h5 h6
   simp only [List.cons.injEq, and_true] at e0 e1 e2 e3 e4 e5 e6
   rw [e0, e1, e2, e3, e4, e5, e6, data_inj h0, data_inj h1, h2, h3, h4, h5, h6]
set_option maxRecDepth 100000 in
theorem of_laidK {W : World} (h : laidMetH Tryz.prog laidL W) : LaidK W := by
 rw [MakeChecks.laidMetH_plain _ _ _ (by kernel_rfl)] at h
 obtain ⟨ps, ⟨_, _, _, _, _, _, _, _, _, _, ⟨g0, t0, cs0, f0, p0, q0, hg0, ht0, hv0, hd0, _, _⟩, _⟩, _⟩ := h
 obtain rfl := Option.some.inj (gKinds.symm.trans hg0)
 obtain rfl := Option.some.inj (tKinds.symm.trans ht0)
 rw [datumK_eq] at hd0
 obtain ⟨xs, m, _, hx, hlen, hn, hel⟩ := DataW.trod_array underKds hd0
 have c7 : Tryz.prog.cellsOf KdT = 7 := by kernel_rfl
 simp only [Prod.mk.injEq, DataW.agg.injEq] at hx
 have hk : ∀ k, k < 8 → (cs0.toList.drop (k * 7)).take 7 = kindA k := by
  intro k hk
  have hek := hel k hk
  rw [c7] at hek
  have hxk : xs[k]? = some (xs[k]'(by omega)) := List.getElem?_eq_getElem (by omega)
  rw [hxk] at hek
  have hd : (xs[k]'(by omega)).1 = kdV k := by
   have := congrArg (fun l => l[k]?) hx.1
   simp only [List.getElem?_map, hxk, Option.map_some, List.getElem?_range hk] at this
   exact (Option.some.inj this).symm
  exact trod_kind hek hd
 intro j v hj
 have hj56 : j < 56 := (List.getElem?_eq_some_iff.1 hj).1
 rw [World.var?_cell hg0 hv0]
 have e := congrArg (fun l => l[j % 7]?) (hk (j / 7) (by omega))
 simp only [List.getElem?_take, List.getElem?_drop] at e
 rw [if_pos (by omega), show j / 7 * 7 + j % 7 = j from by omega] at e
 have e2 : (kindA (j / 7))[j % 7]? = kindsL[j]? := by
  have hz : ∀ k, k < 8 → ∀ i, i < 7 → (kindA k)[i]? = kindsL[k * 7 + i]? := by
   intro k hk i hi
   have h : k = 0 ∨ k = 1 ∨ k = 2 ∨ k = 3 ∨ k = 4 ∨ k = 5 ∨ k = 6 ∨ k = 7 := by omega
   have h' : i = 0 ∨ i = 1 ∨ i = 2 ∨ i = 3 ∨ i = 4 ∨ i = 5 ∨ i = 6 := by omega
   rcases h with rfl | rfl | rfl | rfl | rfl | rfl | rfl | rfl <;> rcases h' with rfl | rfl | rfl | rfl | rfl | rfl | rfl <;> rfl
  rw [hz _ (by omega) _ (by omega), show j / 7 * 7 + j % 7 = j from by omega]
 rw [e2, hj] at e
 simpa using e
end Go.Proofs.YtjmcaceegfdkkaaGreatDoor
namespace Go.Proofs.YtjmcaceegfdkkaaGreatDoor
open Go.ChangeShapes Go.WideShapes Go.ChangeAt Go.RowKit
set_option linter.unusedVariables false
theorem cellsTm : Tryz.prog.cellsOf TermT = 1 := by kernel_rfl
theorem ints_len (l : List Int) : (ints l).length = l.length := by simp [ints]
theorem addr_addT (b o n : Nat) : (⟨b, o, none⟩ : Addr).add n = ⟨b, o + n, none⟩ := by unfold Addr.add; split <;> simp_all
section
variable {H : Type} {enc : TypeId × Value → H} {W : World} {base : Nat}
set_option maxRecDepth 100000 in
theorem open_terms {v : Value} {fuel : Nat} {x : DataW H × List MemPlace} (hval : Cell.okWide Tryz.prog W .any base 49 v) (hf : DataW.trod enc Tryz.prog W 0 (fun _ => true) true fuel 49 [v] = some x) :
  ∃ l : List Int, Row W 1 v l.length (ints l) ∧ ∀ n ∈ l, i64R n := by
 rcases Go.ChangeShapes.open_ints Tryz.underlying49 Tryz.underlying23 cellsTm hf with ⟨hcs, _⟩ | ⟨y, len, cap, ss, hcs, _, hl, hm, hz, hx, hcell, hsz⟩
 ·simp at hcs
  subst hcs
  exact ⟨[], ⟨rfl, .inl ⟨rfl, rfl⟩⟩, fun s hs => by cases hs⟩
 ·simp at hcs
  subst hcs
  simp only [if_true] at hz
  have hh : W.has Tryz.prog .any base y TermT cap := by
   simp only [Tryz.underlying49, Cell.okWide, Cell.ok] at hval
   exact hval.2.2
  obtain ⟨hspot, hblk⟩ := place_of hh
  obtain ⟨b, off, spot⟩ := y
  simp only at hspot hblk
  subst hspot
  have hlen : (ss.take len).length = len := by simp; omega
  refine ⟨ss.take len, ⟨by rw [ints_len]; omega, .inr ⟨b, off, cap, by rw [hlen], hblk, by omega, hm, fun j u hj => ?_⟩⟩, fun s hs => ?_⟩
  ·have hj' : j < len := by
    have := (List.getElem?_eq_some_iff.1 hj).1
    rw [ints_len] at this; omega
   have hc := hcell j (by omega)
   rw [addr_addT] at hc
   rw [hc]
   rw [ints_at _ j (by omega)] at hj
   rw [← hj]
   simp [List.getD_eq_getElem?_getD, show j < ss.length by omega]
  ·have := bounds_i64 (hsz s (List.mem_of_mem_take hs)); unfold i64R; omega
end
end Go.Proofs.YtjmcaceegfdkkaaGreatDoor
namespace Go.Proofs.YtjmcaceegfdkkaaGreatDoor
open Go Go.ChangeShapes Go.WideShapes Go.ChangeAt Go.RowKit
set_option linter.unusedVariables false
set_option maxRecDepth 100000 in
theorem fmore_contract (H : Type) (enc : TypeId × Value → H) (W : World) (base : Nat) (args : Array Value) (ds gs : List (DataW H)) (before : List MemPlace)
  (hval0 : ∀ (j : Nat) t v, Tryz.f8.params[j]? = some t → args[j]? = some v → Value.okWide Tryz.prog W .any base t v)
  (hW : DataW.Whole enc Tryz.prog Tryz.f8.params.toList Rows.evidenceMoreSpec.vars false W args.toList ds gs before) (hL : laidMetH Tryz.prog laidL W) :
  Calls Tryz.prog 8 args W fun e W' => ∃ v, e = .returned v ∧ Rows.evidenceMoreSpec.post enc Tryz.prog Tryz.f8 false true false false W args v W' := by
 have hval : ∀ (j : Nat) t v, Tryz.f8.params[j]? = some t → args[j]? = some v → Value.okWide Tryz.prog W .any base t v := hval0
 have hW' := hW
 obtain ⟨p, q, hA0, hV, rfl, hfz, hnd⟩ := hW
 have hA : DataW.TrodAll enc Tryz.prog W 0 (fun _ => true) true Tryz.f8.params.toList args.toList ds p := hA0
 rw [Tryz.params8] at hA hval
 obtain ⟨v0, vs0, d0, ds0, p0, q0, hargs0, rfl, rfl, h0, r0⟩ := trodAll_cons hA
 obtain ⟨v1, vs1, d1, ds1, p1, q1, hargs1, rfl, rfl, h1, r1⟩ := trodAll_cons r0
 obtain ⟨v2, vs2, d2, ds2, p2, q2, hargs2, rfl, rfl, h2, r2⟩ := trodAll_cons r1
 obtain ⟨rfl, rfl, rfl⟩ := trodAll_nil r2
 subst hargs1
 subst hargs2
 obtain rfl : args = #[v0, v1, v2] := by cases args; simp_all
 obtain ⟨rfl, rfl⟩ := trodVars_none hV
 have hv0 := hval 0 22 v0 rfl rfl
 have hc0 : Cell.okWide Tryz.prog W .any base 22 v0 := by simpa only [Value.okWide, Tryz.underlying22] using hv0
 obtain ⟨a0, c0, n0, e0⟩ := okWide_slice Tryz.underlying22 hv0
 obtain ⟨fuel0, hf0⟩ := id h0
 rw [show v0.cells.toList = [v0] by rw [e0]; rfl] at hf0
 obtain ⟨l0, rl0, hs0⟩ := open_trees hc0 hf0
 have hv1 := hval 1 49 v1 rfl rfl
 have hc1 : Cell.okWide Tryz.prog W .any base 49 v1 := by simpa only [Value.okWide, Tryz.underlying49] using hv1
 obtain ⟨a1, c1, n1, e1⟩ := okWide_slice Tryz.underlying49 hv1
 obtain ⟨fuel1, hf1⟩ := id h1
 rw [show v1.cells.toList = [v1] by rw [e1]; rfl] at hf1
 obtain ⟨l1, rl1, hs1⟩ := open_terms hc1 hf1
 have hv2 := hval 2 49 v2 rfl rfl
 have hc2 : Cell.okWide Tryz.prog W .any base 49 v2 := by simpa only [Value.okWide, Tryz.underlying49] using hv2
 obtain ⟨a2, c2, n2, e2⟩ := okWide_slice Tryz.underlying49 hv2
 obtain ⟨fuel2, hf2⟩ := id h2
 rw [show v2.cells.toList = [v2] by rw [e2]; rfl] at hf2
 obtain ⟨l2, rl2, hs2⟩ := open_terms hc2 hf2
 have HL := of_laid hL
 have HK := of_laidK hL
 clear hA0 hval0 hL
 simp only [List.append_nil] at hW'
 refine (more_walk HL HK rl0 hs0 rl1 hs1 rl2 hs2).mono fun e W' ⟨he, bel⟩ => ?_
 subst he
 exact ⟨_, rfl, _, _, _, [], _, [], hW', trodAll_mk1 (shut_bool Tryz.underlying4 _), (trodAll_cons_mk (Below.trod laidOut (by kernel_rfl) (of_decide_eq_true (by kernel_rfl)) h0 bel (places_lt h0)) (trodAll_cons_mk (Below.trod laidOut (by kernel_rfl) (of_decide_eq_true (by kernel_rfl)) h1 bel (places_lt h1)) (trodAll_cons_mk (Below.trod laidOut (by kernel_rfl) (of_decide_eq_true (by kernel_rfl)) h2 bel (places_lt h2)) trodAll_mk0))), rfl, bel.frame _, fun h => by cases h⟩
set_option maxRecDepth 100000 in
theorem fmore_lifted (os : Os) (started : os.Started) (H : Type) (enc : TypeId × Value → H) :
  ReturnsInHanded {} Tryz.checked os 8 .any (fun w args => (Rows.evidenceMoreSpec.pre enc Tryz.prog Tryz.f8 [] false w args ∧ laidMetH Tryz.prog laidL w) ∧ sizedMet enc Tryz.prog Tryz.f8 (OpenSpec.ofChange Rows.evidenceMoreSpec) false w args)
   (Rows.evidenceMoreSpec.post enc Tryz.prog Tryz.f8 false true false false) := by
 refine returnsInHanded_of_change_and (C := Tryz.checked) (X := fun w _ => laidMetH Tryz.prog laidL w) (fun _ _ _ hh h => h.of_heap hh) own started (by kernel_rfl) Tryz.func8
  (ChangeSpec.witness_shaped (enc := enc) (C := Tryz.checked) (os := os) (X := fun w _ => laidMetH Tryz.prog laidL w) false (World.doorLaid Tryz.prog 400 os) #[.slice none 0 0, .slice none 0 0, .slice none 0 0] 8 rfl (World.shaped_of_RefB (by kernel_rfl) (by kernel_rfl)) (by kernel_rfl) (by kernel_rfl) (by kernel_rfl) (door_met os _)) ?_
 intro W base args ds gs before hval hW _ _ hL _
 exact fmore_contract H enc W base args ds gs before hval hW hL
theorem fmore_holds : Rows.EvidenceMoreSaid :=
 OpenClaim.holds_of_wide 8 Tryz.f8 rfl rfl rfl rfl rfl rfl rfl ⟨rfl, rfl, rfl, rfl, rfl⟩ rfl rfl rfl rfl rfl (by kernel_rfl) Tryz.func8 (by kernel_rfl)
  (of_decide_eq_true (by kernel_rfl)) (by unfold Func.isWrapper; first | (rw [if_pos (by decide +kernel)]; kernel_rfl) | (rw [if_neg (by decide +kernel)]; exact ⟨rfl, rfl⟩))
  (fun os started H enc _ => fmore_lifted os started H enc)
theorem fmore_card : Rows.EvidenceMoreCardSaid :=
 Claim7.holds_tied_plain_at .later [] [.data, .data] true _ false
  fmore_holds (fun _ h => by cases h) (by kernel_rfl) (fun _ h => by cases h) evidenceMore_row_tie rfl ⟨rfl, rfl⟩ (by kernel_rfl) rfl
  (fun f fn hf hfn => by
   obtain rfl : f = 8 := Option.some.inj ((show Tryz.prog.funcNamed "escrow/escrowlaw12.EvidenceMore" = some 8 by kernel_rfl).symm.trans hf) |>.symm
   obtain rfl : fn = Tryz.f8 := (Option.some.inj (Tryz.func8.symm.trans hfn)).symm
   exact ⟨by kernel_rfl, fun j t ht => by
    rw [Tryz.params8] at ht
    have hm : t ∈ [22, 49, 49] := by simpa using Array.mem_of_getElem? ht
    have hall : ([22, 49, 49].all fun u => !Tryz.prog.wantsStandIn u) = true := by kernel_rfl
    exact (show Tryz.prog.wantsStandIn t = false by simpa using List.all_eq_true.1 hall t hm)⟩)
  (by kernel_rfl)
#print axioms fmore_card
end Go.Proofs.YtjmcaceegfdkkaaGreatDoor
