/-
  What an argument that is a list of nodes gives the walk.
-/
import Derived.Test.YtjpkeoenajlmeaaDoorTKit
import Derived.Deep.Slices
import Derived.Deep.Fields
import Derived.ChangeSame
import Derived.SliceStrings
import Derived.Lib.SmallJoins
import Derived.ProofKit
import Derived.OpenShut
import Derived.ShutString
import Derived.ChangeOld
namespace Go.Proofs.YtjpkeoenajlmeaaDoor
open Go.ChangeShapes Go.WideShapes Go.ChangeAt Go.RowKit
set_option linter.unusedVariables false

theorem Row.nils (w : World) (size : Nat) : Row w size (.slice none 0 0) 0 [] := ⟨by simp, .inl ⟨rfl, rfl⟩⟩
theorem list_of {α : Type} {Q : Nat → α → Prop} (n : Nat) (h : ∀ i, i < n → ∃ z, Q i z) : ∃ l : List α, l.length = n ∧ ∀ i (hi : i < l.length), Q i (l[i]) := by
  induction n with
  | zero => exact ⟨[], rfl, fun i hi => absurd hi (by simp)⟩
  | succ n ih =>
    obtain ⟨l, hl, hq⟩ := ih fun i hi => h i (by omega)
    obtain ⟨z, hz⟩ := h n (by omega)
    refine ⟨l ++ [z], by simp [hl], fun i hi => ?_⟩
    by_cases hin : i < l.length
    · rw [List.getElem_append_left hin]; exact hq i hin
    · have hi' : i = l.length := by simp at hi; omega
      subst hi'
      rw [List.getElem_append_right (by omega)]
      simp only [Nat.sub_self, List.getElem_cons_zero]
      rw [hl]; exact hz

theorem place_of {W : World} {base : Nat} {x : Addr} {e : TypeId} {cap : Nat} (h : W.has Tryd.prog .any base x e cap) : x.spot = none ∧ x.block < W.heap.size := by
  obtain ⟨_, hspot, row, cells, hshape, _⟩ := h
  refine ⟨hspot, ?_⟩
  rcases Nat.lt_or_ge x.block W.heap.size with h | h
  · exact h
  · simp [World.shape?, Array.getElem?_eq_none h] at hshape

theorem addr_add {b off : Nat} (i : Nat) : (⟨b, off, none⟩ : Addr).add i = ⟨b, off + i, none⟩ := by unfold Addr.add; split <;> simp_all

theorem cellsS : Tryd.prog.cellsOf 9 = 1 := by kernel_rfl

/-- The places of an argument lie in memory that was there. -/
theorem places_lt {H : Type} {enc : TypeId × Value → H} {W : World} {t : TypeId} {v : Value} {d : DataW H} {p : List MemPlace} (hj : DataW.Trod enc Tryd.prog W 0 (fun _ => true) true t v d p) : ∀ x ∈ p, x.block < W.heap.size := by
  obtain ⟨m, hm⟩ := hj
  exact DataW.trod_lt m _ _ _ hm

theorem Row.small {w : World} {size n : Nat} {v : Value} {cs : List Value} (h : Row w size v n cs) : n ≤ maxLen := by
  rcases h.2 with ⟨_, rfl⟩ | ⟨b, off, cap, rfl, _, h4, h5, _⟩
  · exact Nat.zero_le _
  · omega


/-- A list of nodes as cells. -/
def ncs (n : Nd) : List Value := [.int .i64 n.kind, .int .i64 n.frm, .int .i64 n.to, .int .u64 n.num, .string n.text, .int .i64 n.a, .int .i64 n.b]
def nodes (l : List Nd) : List Value := l.flatMap ncs
theorem nodes_length (l : List Nd) : (nodes l).length = l.length * 7 := by
  induction l with
  | nil => rfl
  | cons a l ih => simp [nodes, ncs, List.flatMap_cons] at ih ⊢; omega
theorem nodes_append (a b : List Nd) : nodes (a ++ b) = nodes a ++ nodes b := by simp [nodes]
theorem nodes_at (l : List Nd) : ∀ (i : Nat) (h : i < l.length), (nodes l)[i * 7]? = some (.int .i64 (l[i]).kind) ∧ (nodes l)[i * 7 + 1]? = some (.int .i64 (l[i]).frm) ∧ (nodes l)[i * 7 + 2]? = some (.int .i64 (l[i]).to) ∧ (nodes l)[i * 7 + 3]? = some (.int .u64 (l[i]).num) ∧ (nodes l)[i * 7 + 4]? = some (.string (l[i]).text) ∧ (nodes l)[i * 7 + 5]? = some (.int .i64 (l[i]).a) ∧ (nodes l)[i * 7 + 6]? = some (.int .i64 (l[i]).b) := by
  induction l with
  | nil => intro i h; simp at h
  | cons a l ih =>
    intro i h
    have e : nodes (a :: l) = .int .i64 a.kind :: .int .i64 a.frm :: .int .i64 a.to :: .int .u64 a.num :: .string a.text :: .int .i64 a.a :: .int .i64 a.b :: nodes l := by simp [nodes, ncs]
    cases i with
    | zero => simp [e]
    | succ i =>
      have := ih i (by simpa using h)
      have hx : ∀ j, (nodes (a :: l))[(i + 1) * 7 + j]? = (nodes l)[i * 7 + j]? := fun j => by
        rw [e, show (i + 1) * 7 + j = i * 7 + j + 1 + 1 + 1 + 1 + 1 + 1 + 1 by omega]
        simp
      have h0 := hx 0
      simp only [Nat.add_zero] at h0
      rw [h0, hx 1, hx 2, hx 3, hx 4, hx 5, hx 6]
      simpa using this

def i64R (n : Int) : Prop := -9223372036854775808 ≤ n ∧ n ≤ 9223372036854775807
/-- What may stand in a node. -/
structure NdOk (n : Nd) : Prop where
  kind : i64R n.kind
  frm : i64R n.frm
  to : i64R n.to
  num : 0 ≤ n.num ∧ n.num ≤ 18446744073709551615
  text : n.text.size ≤ maxLen
  a : i64R n.a
  b : i64R n.b

theorem cellsND : Tryd.prog.cellsOf 85 = 7 := by kernel_rfl
section
variable {H : Type} {enc : TypeId × Value → H} {W : World} {base : Nat}
set_option maxRecDepth 100000 in
/-- A node's seven cells read as a node. -/
theorem trod_node {u0 u1 u2 u3 u4 u5 u6 : Value} {fuel : Nat} {sp : Nat → Bool} {x : DataW H × List MemPlace} (ht : DataW.trod enc Tryd.prog W 0 sp true fuel 85 [u0, u1, u2, u3, u4, u5, u6] = some x) :
    ∃ z : Nd, NdOk z ∧ u0 = .int .i64 z.kind ∧ u1 = .int .i64 z.frm ∧ u2 = .int .i64 z.to ∧ u3 = .int .u64 z.num ∧ u4 = .string z.text ∧ u5 = .int .i64 z.a ∧ u6 = .int .i64 z.b := by
  obtain ⟨ys, k, _, _, _, hyl, hfld⟩ := DataW.trod_struct Tryd.underlying85 ht
  have hi1 : Tryd.prog.cellsOf 3 = 1 := by kernel_rfl
  have hi2 : Tryd.prog.cellsOf 25 = 1 := by kernel_rfl
  have hi3 : Tryd.prog.cellsOf 23 = 1 := by kernel_rfl
  have f0 : DataW.trod enc Tryd.prog W 0 sp true k 3 (([u0, u1, u2, u3, u4, u5, u6].drop 0).take (Tryd.prog.cellsOf 3)) = ys[0]? := hfld 0 _ rfl
  have f1 : DataW.trod enc Tryd.prog W 0 sp true k 3 (([u0, u1, u2, u3, u4, u5, u6].drop 1).take (Tryd.prog.cellsOf 3)) = ys[1]? := hfld 1 _ rfl
  have f2 : DataW.trod enc Tryd.prog W 0 sp true k 3 (([u0, u1, u2, u3, u4, u5, u6].drop 2).take (Tryd.prog.cellsOf 3)) = ys[2]? := hfld 2 _ rfl
  have f3 : DataW.trod enc Tryd.prog W 0 sp true k 25 (([u0, u1, u2, u3, u4, u5, u6].drop 3).take (Tryd.prog.cellsOf 25)) = ys[3]? := hfld 3 _ rfl
  have f4 : DataW.trod enc Tryd.prog W 0 sp true k 9 (([u0, u1, u2, u3, u4, u5, u6].drop 4).take (Tryd.prog.cellsOf 9)) = ys[4]? := hfld 4 _ rfl
  have f5 : DataW.trod enc Tryd.prog W 0 sp true k 23 (([u0, u1, u2, u3, u4, u5, u6].drop 5).take (Tryd.prog.cellsOf 23)) = ys[5]? := hfld 5 _ rfl
  have f6 : DataW.trod enc Tryd.prog W 0 sp true k 23 (([u0, u1, u2, u3, u4, u5, u6].drop 6).take (Tryd.prog.cellsOf 23)) = ys[6]? := hfld 6 _ rfl
  rw [hi1] at f0 f1 f2
  rw [hi2] at f3
  rw [cellsS] at f4
  rw [hi3] at f5 f6
  simp only [List.drop_zero, List.drop_succ_cons, List.take_succ_cons, List.take_zero] at f0 f1 f2 f3 f4 f5 f6
  have y0 : ys[0]? = some (ys[0]'(by rw [hyl]; decide)) := List.getElem?_eq_getElem (by rw [hyl]; decide)
  rw [y0] at f0
  have y1 : ys[1]? = some (ys[1]'(by rw [hyl]; decide)) := List.getElem?_eq_getElem (by rw [hyl]; decide)
  rw [y1] at f1
  have y2 : ys[2]? = some (ys[2]'(by rw [hyl]; decide)) := List.getElem?_eq_getElem (by rw [hyl]; decide)
  rw [y2] at f2
  have y3 : ys[3]? = some (ys[3]'(by rw [hyl]; decide)) := List.getElem?_eq_getElem (by rw [hyl]; decide)
  rw [y3] at f3
  have y4 : ys[4]? = some (ys[4]'(by rw [hyl]; decide)) := List.getElem?_eq_getElem (by rw [hyl]; decide)
  rw [y4] at f4
  have y5 : ys[5]? = some (ys[5]'(by rw [hyl]; decide)) := List.getElem?_eq_getElem (by rw [hyl]; decide)
  rw [y5] at f5
  have y6 : ys[6]? = some (ys[6]'(by rw [hyl]; decide)) := List.getElem?_eq_getElem (by rw [hyl]; decide)
  rw [y6] at f6
  obtain ⟨n0, e0, _, w0⟩ := DataW.trod_int Tryd.underlying3 f0
  obtain ⟨n1, e1, _, w1⟩ := DataW.trod_int Tryd.underlying3 f1
  obtain ⟨n2, e2, _, w2⟩ := DataW.trod_int Tryd.underlying3 f2
  obtain ⟨n3, e3, _, w3⟩ := DataW.trod_int Tryd.underlying25 f3
  obtain ⟨n4, e4, _, w4⟩ := DataW.trod_string Tryd.underlying9 f4
  obtain ⟨n5, e5, _, w5⟩ := DataW.trod_int Tryd.underlying23 f5
  obtain ⟨n6, e6, _, w6⟩ := DataW.trod_int Tryd.underlying23 f6
  simp at e0 e1 e2 e3 e4 e5 e6
  subst e0 e1 e2 e3 e4 e5 e6
  refine ⟨⟨n0, n1, n2, n3, n4, n5, n6⟩, ⟨?_, ?_, ?_, ?_, w4, ?_, ?_⟩, rfl, rfl, rfl, rfl, rfl, rfl, rfl⟩
  · have := bounds_i64 w0; unfold i64R; simp only; omega
  · have := bounds_i64 w1; unfold i64R; simp only; omega
  · have := bounds_i64 w2; unfold i64R; simp only; omega
  · have := bounds_u64 w3; simp only; omega
  · have := bounds_i64 w5; unfold i64R; simp only; omega
  · have := bounds_i64 w6; unfold i64R; simp only; omega
set_option maxRecDepth 100000 in
theorem open_nodes {v : Value} {fuel : Nat} {x : DataW H × List MemPlace} (hval : Cell.okWide Tryd.prog W .any base 72 v) (hf : DataW.trod enc Tryd.prog W 0 (fun _ => true) true fuel 72 [v] = some x) :
    ∃ l : List Nd, Row W 7 v l.length (nodes l) ∧ ∀ y ∈ l, NdOk y := by
  rcases Go.Deep.open_slice Tryd.underlying72 hf with ⟨hcs, _⟩ | ⟨y, len, cap, m, n, D, Pl, hcs, _, hl, hm, hmm, hx, hi⟩
  · simp at hcs
    subst hcs
    exact ⟨[], Row.nils W 7, fun s hs => by cases hs⟩
  · simp at hcs
    subst hcs
    simp only [if_true] at hmm
    subst hmm
    have hh : W.has Tryd.prog .any base y 85 m := by
      simp only [Tryd.underlying72, Cell.okWide, Cell.ok] at hval
      exact hval.2.2
    obtain ⟨hspot, hblk⟩ := place_of hh
    obtain ⟨b, off, spot⟩ := y
    simp only at hspot hblk
    subst hspot
    have each : ∀ i, i < m → ∃ z : Nd, NdOk z ∧ ∀ j u, (ncs z)[j]? = some u → W.cell? ⟨b, off + i * 7 + j, none⟩ = some u := by
      intro i him
      obtain ⟨cs', hc, ht⟩ := hi i him
      rw [cellsND] at hc
      obtain ⟨_, hlen7, hat⟩ := World.cells?_some hc
      match cs', hlen7 with
      | [u0, u1, u2, u3, u4, u5, u6], _ =>
        obtain ⟨z, hz, rfl, rfl, rfl, rfl, rfl, rfl, rfl⟩ := trod_node ht
        refine ⟨z, hz, fun j u hj => ?_⟩
        have hjl : j < 7 := (List.getElem?_eq_some_iff.1 hj).1
        have a0 := hat j (by simpa using hjl)
        rw [Go.Deep.add_add, addr_add, ← Nat.add_assoc] at a0
        rw [a0]
        exact hj
    obtain ⟨l, hll, hq⟩ := list_of m each
    have hlt : (l.take len).length = len := by simp; omega
    refine ⟨l.take len, ⟨by rw [nodes_length], .inr ⟨b, off, m, by rw [hlt], hblk, by omega, hm, fun j u hj => ?_⟩⟩, fun z hz => ?_⟩
    · have hj' : j < len * 7 := by
        have := (List.getElem?_eq_some_iff.1 hj).1
        rw [nodes_length] at this; omega
      have hd : j / 7 < (l.take len).length := by omega
      obtain ⟨_, q⟩ := hq (j / 7) (by omega)
      obtain ⟨p0, p1, p2, p3, p4, p5, p6⟩ := nodes_at (l.take len) (j / 7) hd
      rw [List.getElem_take] at p0 p1 p2 p3 p4 p5 p6
      have hjj : off + j = off + j / 7 * 7 + j % 7 := by omega
      rw [hjj]
      refine q (j % 7) u ?_
      have hx : j = j / 7 * 7 + j % 7 := by omega
      rcases (by omega : j % 7 = 0 ∨ j % 7 = 1 ∨ j % 7 = 2 ∨ j % 7 = 3 ∨ j % 7 = 4 ∨ j % 7 = 5 ∨ j % 7 = 6) with e | e | e | e | e | e | e
      all_goals (rw [hx, e] at hj; rw [e])
      · rw [Nat.add_zero, p0] at hj; rw [← hj]; rfl
      · rw [p1] at hj; rw [← hj]; rfl
      · rw [p2] at hj; rw [← hj]; rfl
      · rw [p3] at hj; rw [← hj]; rfl
      · rw [p4] at hj; rw [← hj]; rfl
      · rw [p5] at hj; rw [← hj]; rfl
      · rw [p6] at hj; rw [← hj]; rfl
    · obtain ⟨i, hi', rfl⟩ := List.getElem_of_mem (List.mem_of_mem_take hz)
      exact (hq i hi').1
end

end Go.Proofs.YtjpkeoenajlmeaaDoor
