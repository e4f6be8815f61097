/-
  Facts, lists of facts, and the law's Order, as arguments.
-/
import Derived.Test.YtjmcaceegfdkkaaGreatDoorQbTKey
import Derived.Test.YtjmcaceegfdkkaaGreatDoorQbFOf
namespace Go.Proofs.YtjmcaceegfdkkaaGreatDoor
open Go.ChangeShapes Go.WideShapes Go.ChangeAt Go.RowKit
set_option linter.unusedVariables false
theorem cellsFc : Tryz.prog.cellsOf 45 = 4 := by kernel_rfl
structure FcOk (f : Fc) : Prop where
  kind : i64R f.kind
  who : i64R f.who
  c : 0 ≤ f.c ∧ f.c ≤ 18446744073709551615
  text : f.text.size ≤ maxLen
section
variable {H : Type} {enc : TypeId × Value → H} {W : World} {base : Nat}
set_option maxRecDepth 100000 in
/-- A fact's four cells read as a fact. -/
theorem trod_fact {u0 u1 u2 u3 : Value} {fuel : Nat} {sp : Nat → Bool} {x : DataW H × List MemPlace} (ht : DataW.trod enc Tryz.prog W 0 sp true fuel 45 [u0, u1, u2, u3] = some x) :
    ∃ z : Fc, FcOk z ∧ u0 = .int .i64 z.kind ∧ u1 = .int .i64 z.who ∧ u2 = .int .u64 z.c ∧ u3 = .string z.text := by
  obtain ⟨ys, k, _, _, _, hyl, hfld⟩ := DataW.trod_struct Tryz.underlying45 ht
  have hi1 : Tryz.prog.cellsOf 3 = 1 := by kernel_rfl
  have hi2 : Tryz.prog.cellsOf 24 = 1 := by kernel_rfl
  have f0 : DataW.trod enc Tryz.prog W 0 sp true k 3 (([u0, u1, u2, u3].drop 0).take (Tryz.prog.cellsOf 3)) = ys[0]? := hfld 0 _ rfl
  have f1 : DataW.trod enc Tryz.prog W 0 sp true k 3 (([u0, u1, u2, u3].drop 1).take (Tryz.prog.cellsOf 3)) = ys[1]? := hfld 1 _ rfl
  have f2 : DataW.trod enc Tryz.prog W 0 sp true k 24 (([u0, u1, u2, u3].drop 2).take (Tryz.prog.cellsOf 24)) = ys[2]? := hfld 2 _ rfl
  have f3 : DataW.trod enc Tryz.prog W 0 sp true k 9 (([u0, u1, u2, u3].drop 3).take (Tryz.prog.cellsOf 9)) = ys[3]? := hfld 3 _ rfl
  rw [hi1] at f0 f1
  rw [hi2] at f2
  rw [cellsS] at f3
  simp only [List.drop_zero, List.drop_succ_cons, List.take_succ_cons, List.take_zero] at f0 f1 f2 f3
  have y0 : ys[0]? = some (ys[0]'(by rw [hyl]; decide)) := List.getElem?_eq_getElem (by rw [hyl]; decide)
  rw [y0] at f0
  have y1 : ys[1]? = some (ys[1]'(by rw [hyl]; decide)) := List.getElem?_eq_getElem (by rw [hyl]; decide)
  rw [y1] at f1
  have y2 : ys[2]? = some (ys[2]'(by rw [hyl]; decide)) := List.getElem?_eq_getElem (by rw [hyl]; decide)
  rw [y2] at f2
  have y3 : ys[3]? = some (ys[3]'(by rw [hyl]; decide)) := List.getElem?_eq_getElem (by rw [hyl]; decide)
  rw [y3] at f3
  obtain ⟨n0, e0, _, w0⟩ := DataW.trod_int Tryz.underlying3 f0
  obtain ⟨n1, e1, _, w1⟩ := DataW.trod_int Tryz.underlying3 f1
  obtain ⟨n2, e2, _, w2⟩ := DataW.trod_int Tryz.underlying24 f2
  obtain ⟨n3, e3, _, w3⟩ := DataW.trod_string Tryz.underlying9 f3
  simp at e0 e1 e2 e3
  subst e0 e1 e2 e3
  refine ⟨⟨n0, n1, n2, n3⟩, ⟨?_, ?_, ?_, w3⟩, rfl, rfl, rfl, rfl⟩
  · have := bounds_i64 w0; unfold i64R; simp only; omega
  · have := bounds_i64 w1; unfold i64R; simp only; omega
  · have := bounds_u64 w2; simp only; omega
set_option maxRecDepth 100000 in
theorem open_facts {v : Value} {fuel : Nat} {x : DataW H × List MemPlace} (hval : Cell.okWide Tryz.prog W .any base 33 v) (hf : DataW.trod enc Tryz.prog W 0 (fun _ => true) true fuel 33 [v] = some x) :
    ∃ l : List Fc, Row W 4 v l.length (fcs l) ∧ ∀ y ∈ l, FcOk y := by
  rcases Go.Deep.open_slice Tryz.underlying33 hf with ⟨hcs, _⟩ | ⟨y, len, cap, m, n, D, Pl, hcs, _, hl, hm, hmm, hx, hi⟩
  · simp at hcs
    subst hcs
    exact ⟨[], Row.nils W 4, fun s hs => by cases hs⟩
  · simp at hcs
    subst hcs
    simp only [if_true] at hmm
    subst hmm
    have hh : W.has Tryz.prog .any base y 45 m := by
      simp only [Tryz.underlying33, Cell.okWide, Cell.ok] at hval
      exact hval.2.2
    obtain ⟨hspot, hblk⟩ := place_of hh
    obtain ⟨b, off, spot⟩ := y
    simp only at hspot hblk
    subst hspot
    have each : ∀ i, i < m → ∃ z : Fc, FcOk z ∧ ∀ j u, (fcC z)[j]? = some u → W.cell? ⟨b, off + i * 4 + j, none⟩ = some u := by
      intro i him
      obtain ⟨cs', hc, ht⟩ := hi i him
      rw [cellsFc] at hc
      obtain ⟨_, hlen4, hat⟩ := World.cells?_some hc
      match cs', hlen4 with
      | [u0, u1, u2, u3], _ =>
        obtain ⟨z, hz, rfl, rfl, rfl, rfl⟩ := trod_fact ht
        refine ⟨z, hz, fun j u hj => ?_⟩
        have hjl : j < 4 := (List.getElem?_eq_some_iff.1 hj).1
        have a0 := hat j (by simpa using hjl)
        rw [Go.Deep.add_add, addr_add, ← Nat.add_assoc] at a0
        rw [a0]
        exact hj
    obtain ⟨l, hll, hq⟩ := list_of m each
    have hlt : (l.take len).length = len := by simp; omega
    refine ⟨l.take len, ⟨by rw [fcs_length], .inr ⟨b, off, m, by rw [hlt], hblk, by omega, hm, fun j u hj => ?_⟩⟩, fun z hz => ?_⟩
    · have hj' : j < len * 4 := by
        have := (List.getElem?_eq_some_iff.1 hj).1
        rw [fcs_length] at this; omega
      have hd : j / 4 < (l.take len).length := by omega
      obtain ⟨_, q⟩ := hq (j / 4) (by omega)
      obtain ⟨p0, p1, p2, p3⟩ := fcs_at (l.take len) (j / 4) hd
      rw [List.getElem_take] at p0 p1 p2 p3
      have hjj : off + j = off + j / 4 * 4 + j % 4 := by omega
      rw [hjj]
      refine q (j % 4) u ?_
      have hx : j = j / 4 * 4 + j % 4 := by omega
      rcases (by omega : j % 4 = 0 ∨ j % 4 = 1 ∨ j % 4 = 2 ∨ j % 4 = 3) with e | e | e | e
      all_goals (rw [hx, e] at hj; rw [e])
      · rw [Nat.add_zero, p0] at hj; rw [← hj]; rfl
      · rw [p1] at hj; rw [← hj]; rfl
      · rw [p2] at hj; rw [← hj]; rfl
      · rw [p3] at hj; rw [← hj]; rfl
    · obtain ⟨i, hi', rfl⟩ := List.getElem_of_mem (List.mem_of_mem_take hz)
      exact (hq i hi').1
set_option maxRecDepth 100000 in
/-- Two facts, a list, somebody. -/
theorem open_order {v : Value} {d : DataW H} {p : List MemPlace} (hval : Value.okWide Tryz.prog W .any base 54 v) (h : DataW.Trod enc Tryz.prog W 0 (fun _ => true) true 54 v d p) :
    ∃ x : Fc × Fc × List Fc × Int, ∃ u : Value, v = .agg #[.int .i64 x.1.kind, .int .i64 x.1.who, .int .u64 x.1.c, .string x.1.text, .int .i64 x.2.1.kind, .int .i64 x.2.1.who, .int .u64 x.2.1.c, .string x.2.1.text, u, .int .i64 x.2.2.2] ∧ FcOk x.1 ∧ FcOk x.2.1 ∧ Row W 4 u x.2.2.1.length (fcs x.2.2.1) ∧ (∀ y ∈ x.2.2.1, FcOk y) ∧ i64R x.2.2.2 := by
  simp only [Value.okWide, Tryz.underlying54] at hval
  obtain ⟨cs, rfl, hc, ts, hts, _, hrow⟩ := hval
  have hts' : Tryz.prog.cellTypes Tryz.prog.depth 54 = some [3, 3, 24, 9, 3, 3, 24, 9, 33, 3] := by kernel_rfl
  obtain rfl : ts = [3, 3, 24, 9, 3, 3, 24, 9, 33, 3] := Option.some.inj (hts.symm.trans hts')
  obtain ⟨fuel, hf⟩ := h
  rw [show Tryz.prog.cellsOf 54 = 10 by kernel_rfl] at hc
  obtain ⟨l⟩ := cs
  match l, hc with
  | [u0, u1, u2, u3, u4, u5, u6, u7, u8, u9], _ =>
    obtain ⟨t8, q8, k8⟩ := hrow 8 u8 rfl
    obtain rfl : t8 = 33 := (Option.some.inj q8).symm
    obtain ⟨ys, k, _, _, _, hyl, hfld⟩ := DataW.trod_struct Tryz.underlying54 hf
    have hi2 : Tryz.prog.cellsOf 33 = 1 := by kernel_rfl
    have hi3 : Tryz.prog.cellsOf 3 = 1 := by kernel_rfl
    have f0 : DataW.trod enc Tryz.prog W 0 (fun _ => true) true k 45 (([u0, u1, u2, u3, u4, u5, u6, u7, u8, u9].drop 0).take (Tryz.prog.cellsOf 45)) = ys[0]? := hfld 0 _ rfl
    have f1 : DataW.trod enc Tryz.prog W 0 (fun _ => true) true k 45 (([u0, u1, u2, u3, u4, u5, u6, u7, u8, u9].drop 4).take (Tryz.prog.cellsOf 45)) = ys[1]? := hfld 1 _ rfl
    have f2 : DataW.trod enc Tryz.prog W 0 (fun _ => true) true k 33 (([u0, u1, u2, u3, u4, u5, u6, u7, u8, u9].drop 8).take (Tryz.prog.cellsOf 33)) = ys[2]? := hfld 2 _ rfl
    have f3 : DataW.trod enc Tryz.prog W 0 (fun _ => true) true k 3 (([u0, u1, u2, u3, u4, u5, u6, u7, u8, u9].drop 9).take (Tryz.prog.cellsOf 3)) = ys[3]? := hfld 3 _ rfl
    rw [cellsFc] at f0 f1
    rw [hi2] at f2
    rw [hi3] at f3
    simp only [List.drop_zero, List.drop_succ_cons, List.take_succ_cons, List.take_zero] at f0 f1 f2 f3
    have y0 : ys[0]? = some (ys[0]'(by rw [hyl]; decide)) := List.getElem?_eq_getElem (by rw [hyl]; decide)
    rw [y0] at f0
    have y1 : ys[1]? = some (ys[1]'(by rw [hyl]; decide)) := List.getElem?_eq_getElem (by rw [hyl]; decide)
    rw [y1] at f1
    have y2 : ys[2]? = some (ys[2]'(by rw [hyl]; decide)) := List.getElem?_eq_getElem (by rw [hyl]; decide)
    rw [y2] at f2
    have y3 : ys[3]? = some (ys[3]'(by rw [hyl]; decide)) := List.getElem?_eq_getElem (by rw [hyl]; decide)
    rw [y3] at f3
    obtain ⟨za, ha, rfl, rfl, rfl, rfl⟩ := trod_fact f0
    obtain ⟨zb, hb, rfl, rfl, rfl, rfl⟩ := trod_fact f1
    obtain ⟨m, hm, hmi⟩ := open_facts k8 f2
    obtain ⟨n, e3, _, w3⟩ := DataW.trod_int Tryz.underlying3 f3
    simp at e3
    subst e3
    refine ⟨(za, zb, m, n), u8, rfl, ha, hb, hm, hmi, ?_⟩
    have := bounds_i64 w3; unfold i64R; simp only; omega
end
end Go.Proofs.YtjmcaceegfdkkaaGreatDoor
