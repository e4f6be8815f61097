/-
  A list of steps, and the law's Asked, as arguments.
-/
import Derived.Test.YtljbmgehgbcdfaaDoorEArgT
import Derived.Test.YtljbmgehgbcdfaaDoorEChk
import Derived.Test.YtljbmgehgbcdfaaDoorTFor
namespace Go.Proofs.YtljbmgehgbcdfaaDoor
open Go.ChangeShapes Go.WideShapes Go.ChangeAt Go.RowKit
set_option linter.unusedVariables false

theorem cellsSt : Tryd.prog.cellsOf 96 = 4 := by kernel_rfl
section
variable {H : Type} {enc : TypeId × Value → H} {W : World} {base : Nat}
set_option maxRecDepth 100000 in
/-- A step's four cells read as a step. -/
theorem trod_step {u0 u1 u2 u3 : Value} {fuel : Nat} {sp : Nat → Bool} {x : DataW H × List MemPlace} (ht : DataW.trod enc Tryd.prog W 0 sp true fuel 96 [u0, u1, u2, u3] = some x) :
    ∃ z : St, i64R z.t ∧ u0 = .int .i64 z.r ∧ u1 = .int .i64 z.a ∧ u2 = .int .i64 z.b ∧ u3 = .int .i64 z.t := by
  obtain ⟨ys, k, _, _, _, hyl, hfld⟩ := DataW.trod_struct Tryd.underlying96 ht
  have hi1 : Tryd.prog.cellsOf 3 = 1 := by kernel_rfl
  have hi3 : Tryd.prog.cellsOf 37 = 1 := by kernel_rfl
  have f0 : DataW.trod enc Tryd.prog W 0 sp true k 3 (([u0, u1, u2, u3].drop 0).take (Tryd.prog.cellsOf 3)) = ys[0]? := hfld 0 _ rfl
  have f1 : DataW.trod enc Tryd.prog W 0 sp true k 3 (([u0, u1, u2, u3].drop 1).take (Tryd.prog.cellsOf 3)) = ys[1]? := hfld 1 _ rfl
  have f2 : DataW.trod enc Tryd.prog W 0 sp true k 3 (([u0, u1, u2, u3].drop 2).take (Tryd.prog.cellsOf 3)) = ys[2]? := hfld 2 _ rfl
  have f3 : DataW.trod enc Tryd.prog W 0 sp true k 37 (([u0, u1, u2, u3].drop 3).take (Tryd.prog.cellsOf 37)) = ys[3]? := hfld 3 _ rfl
  rw [hi1] at f0 f1 f2
  rw [hi3] at f3
  simp only [List.drop_zero, List.drop_succ_cons, List.take_succ_cons, List.take_zero] at f0 f1 f2 f3
  have y0 : ys[0]? = some (ys[0]'(by rw [hyl]; decide)) := List.getElem?_eq_getElem (by rw [hyl]; decide)
  rw [y0] at f0
  obtain ⟨n0, e0, _, w0⟩ := DataW.trod_int Tryd.underlying3 f0
  have y1 : ys[1]? = some (ys[1]'(by rw [hyl]; decide)) := List.getElem?_eq_getElem (by rw [hyl]; decide)
  rw [y1] at f1
  obtain ⟨n1, e1, _, w1⟩ := DataW.trod_int Tryd.underlying3 f1
  have y2 : ys[2]? = some (ys[2]'(by rw [hyl]; decide)) := List.getElem?_eq_getElem (by rw [hyl]; decide)
  rw [y2] at f2
  obtain ⟨n2, e2, _, w2⟩ := DataW.trod_int Tryd.underlying3 f2
  have y3 : ys[3]? = some (ys[3]'(by rw [hyl]; decide)) := List.getElem?_eq_getElem (by rw [hyl]; decide)
  rw [y3] at f3
  obtain ⟨n3, e3, _, w3⟩ := DataW.trod_int Tryd.underlying37 f3
  simp at e0 e1 e2 e3
  subst e0 e1 e2 e3
  refine ⟨⟨n0, n1, n2, n3⟩, ?_, rfl, rfl, rfl, rfl⟩
  have := bounds_i64 w3; unfold i64R; simp only; omega
set_option maxRecDepth 100000 in
theorem open_steps {v : Value} {fuel : Nat} {x : DataW H × List MemPlace} (hval : Cell.okWide Tryd.prog W .any base 45 v) (hf : DataW.trod enc Tryd.prog W 0 (fun _ => true) true fuel 45 [v] = some x) :
    ∃ l : List St, Row W 4 v l.length (sts l) ∧ ∀ y ∈ l, i64R y.t := by
  rcases Go.Deep.open_slice Tryd.underlying45 hf with ⟨hcs, _⟩ | ⟨y, len, cap, m, n, D, Pl, hcs, _, hl, hm, hmm, hx, hi⟩
  · simp at hcs
    subst hcs
    exact ⟨[], Row.nils W 4, fun s hs => by cases hs⟩
  · simp at hcs
    subst hcs
    simp only [if_true] at hmm
    subst hmm
    have hh : W.has Tryd.prog .any base y 96 m := by
      simp only [Tryd.underlying45, Cell.okWide, Cell.ok] at hval
      exact hval.2.2
    obtain ⟨hspot, hblk⟩ := place_of hh
    obtain ⟨b, off, spot⟩ := y
    simp only at hspot hblk
    subst hspot
    have each : ∀ i, i < m → ∃ z : St, i64R z.t ∧ ∀ j u, (stC z)[j]? = some u → W.cell? ⟨b, off + i * 4 + j, none⟩ = some u := by
      intro i him
      obtain ⟨cs', hc, ht⟩ := hi i him
      rw [cellsSt] at hc
      obtain ⟨_, hlen4, hat⟩ := World.cells?_some hc
      match cs', hlen4 with
      | [u0, u1, u2, u3], _ =>
        obtain ⟨z, hz, rfl, rfl, rfl, rfl⟩ := trod_step ht
        refine ⟨z, hz, fun j u hj => ?_⟩
        have hjl : j < 4 := (List.getElem?_eq_some_iff.1 hj).1
        have a0 := hat j (by simpa using hjl)
        rw [Go.Deep.add_add, addr_add, ← Nat.add_assoc] at a0
        rw [a0]
        exact hj
    obtain ⟨l, hll, hq⟩ := list_of m each
    have hlt : (l.take len).length = len := by simp; omega
    refine ⟨l.take len, ⟨by rw [sts_length], .inr ⟨b, off, m, by rw [hlt], hblk, by omega, hm, fun j u hj => ?_⟩⟩, fun z hz => ?_⟩
    · have hj' : j < len * 4 := by
        have := (List.getElem?_eq_some_iff.1 hj).1
        rw [sts_length] at this; omega
      have hd : j / 4 < (l.take len).length := by omega
      obtain ⟨_, q⟩ := hq (j / 4) (by omega)
      obtain ⟨p0, p1, p2, p3⟩ := sts_at (l.take len) (j / 4) hd
      rw [List.getElem_take] at p0 p1 p2 p3
      have hjj : off + j = off + j / 4 * 4 + j % 4 := by omega
      rw [hjj]
      refine q (j % 4) u ?_
      have hx : j = j / 4 * 4 + j % 4 := by omega
      rcases (by omega : j % 4 = 0 ∨ j % 4 = 1 ∨ j % 4 = 2 ∨ j % 4 = 3) with e | e | e | e
      all_goals (rw [hx, e] at hj; rw [e])
      · rw [Nat.add_zero, p0] at hj; rw [← hj]; rfl
      · rw [p1] at hj; rw [← hj]; rfl
      · rw [p2] at hj; rw [← hj]; rfl
      · rw [p3] at hj; rw [← hj]; rfl
    · obtain ⟨i, hi', rfl⟩ := List.getElem_of_mem (List.mem_of_mem_take hz)
      exact (hq i hi').1
set_option maxRecDepth 100000 in
/-- A question about a proof: trees, terms, steps, a goal. -/
theorem open_asked {v : Value} {d : DataW H} {p : List MemPlace} (hval : Value.okWide Tryd.prog W .any base 56 v) (h : DataW.Trod enc Tryd.prog W 0 (fun _ => true) true 56 v d p) :
    ∃ x : Fo × List Int × List St × Int, ∃ u0 u1 u2 : Value, v = .agg #[u0, u1, u2, .int .i64 x.2.2.2] ∧ IsK W (fun b => b < W.heap.size) u0 x.1 ∧ OkF x.1 ∧ Row W 1 u1 x.2.1.length (ints x.2.1) ∧ (∀ n ∈ x.2.1, i64R n) ∧ Row W 4 u2 x.2.2.1.length (sts x.2.2.1) ∧ (∀ y ∈ x.2.2.1, i64R y.t) ∧ i64R x.2.2.2 := by
  simp only [Value.okWide, Tryd.underlying56] at hval
  obtain ⟨cs, rfl, hc, ts, hts, _, hrow⟩ := hval
  have hts' : Tryd.prog.cellTypes Tryd.prog.depth 56 = some [22, 23, 45, 37] := by kernel_rfl
  obtain rfl : ts = [22, 23, 45, 37] := Option.some.inj (hts.symm.trans hts')
  obtain ⟨fuel, hf⟩ := h
  rw [show Tryd.prog.cellsOf 56 = 4 by kernel_rfl] at hc
  obtain ⟨l⟩ := cs
  match l, hc with
  | [u0, u1, u2, u3], _ =>
    obtain ⟨t1, q1, k1⟩ := hrow 1 u1 rfl
    obtain ⟨t2, q2, k2⟩ := hrow 2 u2 rfl
    obtain rfl : t1 = 23 := (Option.some.inj q1).symm
    obtain rfl : t2 = 45 := (Option.some.inj q2).symm
    obtain ⟨ys, k, _, _, _, hyl, hfld⟩ := DataW.trod_struct Tryd.underlying56 hf
    have hi0 : Tryd.prog.cellsOf 22 = 1 := by kernel_rfl
    have hi1 : Tryd.prog.cellsOf 23 = 1 := by kernel_rfl
    have hi2 : Tryd.prog.cellsOf 45 = 1 := by kernel_rfl
    have hi3 : Tryd.prog.cellsOf 37 = 1 := by kernel_rfl
    have f0 : DataW.trod enc Tryd.prog W 0 (fun _ => true) true k 22 (([u0, u1, u2, u3].drop 0).take (Tryd.prog.cellsOf 22)) = ys[0]? := hfld 0 _ rfl
    rw [hi0] at f0
    have f1 : DataW.trod enc Tryd.prog W 0 (fun _ => true) true k 23 (([u0, u1, u2, u3].drop 1).take (Tryd.prog.cellsOf 23)) = ys[1]? := hfld 1 _ rfl
    rw [hi1] at f1
    have f2 : DataW.trod enc Tryd.prog W 0 (fun _ => true) true k 45 (([u0, u1, u2, u3].drop 2).take (Tryd.prog.cellsOf 45)) = ys[2]? := hfld 2 _ rfl
    rw [hi2] at f2
    have f3 : DataW.trod enc Tryd.prog W 0 (fun _ => true) true k 37 (([u0, u1, u2, u3].drop 3).take (Tryd.prog.cellsOf 37)) = ys[3]? := hfld 3 _ rfl
    rw [hi3] at f3
    simp only [List.drop_zero, List.drop_succ_cons, List.take_succ_cons, List.take_zero] at f0 f1 f2 f3
    have y0 : ys[0]? = some (ys[0]'(by rw [hyl]; decide)) := List.getElem?_eq_getElem (by rw [hyl]; decide)
    rw [y0] at f0
    have y1 : ys[1]? = some (ys[1]'(by rw [hyl]; decide)) := List.getElem?_eq_getElem (by rw [hyl]; decide)
    rw [y1] at f1
    have y2 : ys[2]? = some (ys[2]'(by rw [hyl]; decide)) := List.getElem?_eq_getElem (by rw [hyl]; decide)
    rw [y2] at f2
    have y3 : ys[3]? = some (ys[3]'(by rw [hyl]; decide)) := List.getElem?_eq_getElem (by rw [hyl]; decide)
    rw [y3] at f3
    obtain ⟨fo, hk, hok⟩ := trod_forest k u0 _ f0
    obtain ⟨g, hg, hgi⟩ := open_terms k1 f1
    obtain ⟨l, hl, hli⟩ := open_steps k2 f2
    obtain ⟨n, e3, _, w3⟩ := DataW.trod_int Tryd.underlying37 f3
    simp at e3
    subst e3
    refine ⟨(fo, g, l, n), u0, u1, u2, rfl, hk, hok, hg, hgi, hl, hli, ?_⟩
    have := bounds_i64 w3; unfold i64R; simp only; omega
end
end Go.Proofs.YtljbmgehgbcdfaaDoor
