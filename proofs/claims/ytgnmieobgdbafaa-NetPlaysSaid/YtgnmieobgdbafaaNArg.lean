/-
  What an argument that is an act, or a list of acts, gives the walk.
-/
import Derived.Test.YtgnmieobgdbafaaNBas
import Derived.Deep.Slices
import Derived.Deep.Fields
import Derived.ChangeSame
import Derived.SliceStrings
import Derived.Lib.SmallJoins
import Derived.ProofKit
import Derived.OpenShut
import Derived.ShutString
import Derived.ChangeOld
import Derived.ChangeSlices
import Derived.ChangeMaps5
import Derived.JoinedOf
namespace Go.Proofs.Ytgnmieobgdbafaa
open Go.ChangeShapes Go.WideShapes Go.ChangeAt Go.RowKit
set_option linter.unusedVariables false
theorem Row.nils (w : World) (size : Nat) : Row w size (.slice none 0 0) 0 [] := ⟨by simp, .inl ⟨rfl, rfl⟩⟩
theorem list_of {α : Type} {Q : Nat → α → Prop} (n : Nat) (h : ∀ i, i < n → ∃ z, Q i z) : ∃ l : List α, l.length = n ∧ ∀ i (hi : i < l.length), Q i (l[i]) := by
  induction n with
  | zero => exact ⟨[], rfl, fun i hi => absurd hi (by simp)⟩
  | succ n ih =>
    obtain ⟨l, hl, hq⟩ := ih fun i hi => h i (by omega)
    obtain ⟨z, hz⟩ := h n (by omega)
    refine ⟨l ++ [z], by simp [hl], fun i hi => ?_⟩
    by_cases hin : i < l.length
    · rw [List.getElem_append_left hin]; exact hq i hin
    · have hi' : i = l.length := by simp at hi; omega
      subst hi'
      rw [List.getElem_append_right (by omega)]
      simp only [Nat.sub_self, List.getElem_cons_zero]
      rw [hl]; exact hz
theorem place_of {W : World} {base : Nat} {x : Addr} {e : TypeId} {cap : Nat} (h : W.has Try.prog .any base x e cap) : x.spot = none ∧ x.block < W.heap.size := by
  obtain ⟨_, hspot, row, cells, hshape, _⟩ := h
  refine ⟨hspot, ?_⟩
  rcases Nat.lt_or_ge x.block W.heap.size with h | h
  · exact h
  · simp [World.shape?, Array.getElem?_eq_none h] at hshape
theorem addr_add {b off : Nat} (i : Nat) : (⟨b, off, none⟩ : Addr).add i = ⟨b, off + i, none⟩ := by unfold Addr.add; split <;> simp_all
theorem cellsS : Try.prog.cellsOf 9 = 1 := by kernel_rfl
theorem places_lt {H : Type} {enc : TypeId × Value → H} {W : World} {t : TypeId} {v : Value} {d : DataW H} {p : List MemPlace} (hj : DataW.Trod enc Try.prog W 0 (fun _ => true) true t v d p) : ∀ x ∈ p, x.block < W.heap.size := by
  obtain ⟨m, hm⟩ := hj
  exact DataW.trod_lt m _ _ _ hm
theorem Row.small {w : World} {size n : Nat} {v : Value} {cs : List Value} (h : Row w size v n cs) : n ≤ maxLen := by
  rcases h.2 with ⟨_, rfl⟩ | ⟨b, off, cap, rfl, _, h4, h5, _⟩
  · exact Nat.zero_le _
  · omega
def i64R (n : Int) : Prop := -9223372036854775808 ≤ n ∧ n ≤ 9223372036854775807
theorem own : ownKnob Try.prog.godebug = none := by kernel_rfl
theorem laidOut : laidOutB Try.prog = true := by kernel_rfl
theorem Row.at2 {w : World} {size n : Nat} {v : Value} {cs : List Value} (h : Row w size v n cs) : ∃ a c, v = .slice a n c ∧ (0 < n → ∃ b off, a = some ⟨b, off, none⟩ ∧ ∀ (j : Nat) (u : Value), cs[j]? = some u → w.cell? ⟨b, off + j, none⟩ = some u) := by
  rcases h.2 with ⟨rfl, rfl⟩ | ⟨b, off, cap, rfl, _, _, _, h6⟩
  · exact ⟨_, _, rfl, fun h0 => absurd h0 (by omega)⟩
  · exact ⟨_, _, rfl, fun _ => ⟨b, off, rfl, h6⟩⟩
/-- An act: its kind, two numbers, a text, a flag. -/
structure Ac where
  kd : Int
  a : Int
  b : Int
  v : ByteArray
  on : Bool
def acs (l : List Ac) : List Value := l.flatMap fun x => [.int .i64 x.kd, .int .i64 x.a, .int .i64 x.b, .string x.v, .bool x.on]
theorem acs_length (l : List Ac) : (acs l).length = l.length * 5 := by
  induction l with
  | nil => rfl
  | cons a l ih => simp [acs, List.flatMap_cons] at ih ⊢; omega
theorem acs_at (l : List Ac) : ∀ (i : Nat) (h : i < l.length), (acs l)[i * 5]? = some (.int .i64 (l[i]).kd) ∧ (acs l)[i * 5 + 1]? = some (.int .i64 (l[i]).a) ∧ (acs l)[i * 5 + 2]? = some (.int .i64 (l[i]).b) ∧ (acs l)[i * 5 + 3]? = some (.string (l[i]).v) ∧ (acs l)[i * 5 + 4]? = some (.bool (l[i]).on) := by
  induction l with
  | nil => intro i h; simp at h
  | cons a l ih =>
    intro i h
    have e : acs (a :: l) = .int .i64 a.kd :: .int .i64 a.a :: .int .i64 a.b :: .string a.v :: .bool a.on :: acs l := by simp [acs]
    cases i with
    | zero => simp [e]
    | succ i =>
      have := ih i (by simpa using h)
      rw [e, show (i + 1) * 5 = i * 5 + 1 + 1 + 1 + 1 + 1 by omega, show i * 5 + 1 + 1 + 1 + 1 + 1 + 1 = (i * 5 + 1) + 1 + 1 + 1 + 1 + 1 by omega, show i * 5 + 1 + 1 + 1 + 1 + 1 + 2 = (i * 5 + 2) + 1 + 1 + 1 + 1 + 1 by omega, show i * 5 + 1 + 1 + 1 + 1 + 1 + 3 = (i * 5 + 3) + 1 + 1 + 1 + 1 + 1 by omega, show i * 5 + 1 + 1 + 1 + 1 + 1 + 4 = (i * 5 + 4) + 1 + 1 + 1 + 1 + 1 by omega]
      simpa using this
/-- What may stand in an act. -/
def AcOk (x : Ac) : Prop := i64R x.kd ∧ i64R x.a ∧ i64R x.b
theorem cellsA5 : Try.prog.cellsOf 31 = 5 := by kernel_rfl
section
variable {H : Type} {enc : TypeId × Value → H} {W : World} {base : Nat}
set_option maxRecDepth 100000 in
theorem trod_act {u0 u1 u2 u3 u4 : Value} {fuel : Nat} {x : DataW H × List MemPlace} (ht : DataW.trod enc Try.prog W 0 (fun _ => true) true fuel 31 [u0, u1, u2, u3, u4] = some x) :
    ∃ z : Ac, AcOk z ∧ u0 = .int .i64 z.kd ∧ u1 = .int .i64 z.a ∧ u2 = .int .i64 z.b ∧ u3 = .string z.v ∧ u4 = .bool z.on := by
  obtain ⟨ys, k, _, _, _, hyl, hfld⟩ := DataW.trod_struct Try.underlying31 ht
  have f0 : DataW.trod enc Try.prog W 0 (fun _ => true) true k 3 (([u0, u1, u2, u3, u4].drop 0).take (Try.prog.cellsOf 3)) = ys[0]? := hfld 0 _ rfl
  have f1 : DataW.trod enc Try.prog W 0 (fun _ => true) true k 3 (([u0, u1, u2, u3, u4].drop 1).take (Try.prog.cellsOf 3)) = ys[1]? := hfld 1 _ rfl
  have f2 : DataW.trod enc Try.prog W 0 (fun _ => true) true k 3 (([u0, u1, u2, u3, u4].drop 2).take (Try.prog.cellsOf 3)) = ys[2]? := hfld 2 _ rfl
  have f3 : DataW.trod enc Try.prog W 0 (fun _ => true) true k 9 (([u0, u1, u2, u3, u4].drop 3).take (Try.prog.cellsOf 9)) = ys[3]? := hfld 3 _ rfl
  have f4 : DataW.trod enc Try.prog W 0 (fun _ => true) true k 4 (([u0, u1, u2, u3, u4].drop 4).take (Try.prog.cellsOf 4)) = ys[4]? := hfld 4 _ rfl
  have hi1 : Try.prog.cellsOf 3 = 1 := by kernel_rfl
  have hi2 : Try.prog.cellsOf 4 = 1 := by kernel_rfl
  rw [hi1] at f0 f1 f2
  rw [cellsS] at f3
  rw [hi2] at f4
  simp only [List.drop_zero, List.drop_succ_cons, List.take_succ_cons, List.take_zero] at f0 f1 f2 f3 f4
  have y0 : ys[0]? = some (ys[0]'(by rw [hyl]; decide)) := List.getElem?_eq_getElem (by rw [hyl]; decide)
  have y1 : ys[1]? = some (ys[1]'(by rw [hyl]; decide)) := List.getElem?_eq_getElem (by rw [hyl]; decide)
  have y2 : ys[2]? = some (ys[2]'(by rw [hyl]; decide)) := List.getElem?_eq_getElem (by rw [hyl]; decide)
  have y3 : ys[3]? = some (ys[3]'(by rw [hyl]; decide)) := List.getElem?_eq_getElem (by rw [hyl]; decide)
  have y4 : ys[4]? = some (ys[4]'(by rw [hyl]; decide)) := List.getElem?_eq_getElem (by rw [hyl]; decide)
  rw [y0] at f0
  rw [y1] at f1
  rw [y2] at f2
  rw [y3] at f3
  rw [y4] at f4
  obtain ⟨n0, e0, _, w0⟩ := DataW.trod_int Try.underlying3 f0
  obtain ⟨n1, e1, _, w1⟩ := DataW.trod_int Try.underlying3 f1
  obtain ⟨n2, e2, _, w2⟩ := DataW.trod_int Try.underlying3 f2
  obtain ⟨s3, e3, _, w3⟩ := DataW.trod_string Try.underlying9 f3
  obtain ⟨b4, e4, _⟩ := DataW.trod_bool Try.underlying4 f4
  simp at e0 e1 e2 e3 e4
  subst e0; subst e1; subst e2; subst e3; subst e4
  refine ⟨⟨n0, n1, n2, s3, b4⟩, ⟨?_, ?_, ?_⟩, rfl, rfl, rfl, rfl, rfl⟩
  · have := bounds_i64 w0; show -9223372036854775808 ≤ n0 ∧ n0 ≤ 9223372036854775807; omega
  · have := bounds_i64 w1; show -9223372036854775808 ≤ n1 ∧ n1 ≤ 9223372036854775807; omega
  · have := bounds_i64 w2; show -9223372036854775808 ≤ n2 ∧ n2 ≤ 9223372036854775807; omega
set_option maxRecDepth 100000 in
theorem open_act {v : Value} {d : DataW H} {p : List MemPlace} (hval : Value.okWide Try.prog W .any base 31 v) (h : DataW.Trod enc Try.prog W 0 (fun _ => true) true 31 v d p) :
    ∃ z : Ac, v = .agg #[.int .i64 z.kd, .int .i64 z.a, .int .i64 z.b, .string z.v, .bool z.on] ∧ AcOk z := by
  obtain ⟨cs, rfl, hc⟩ := okWide_struct Try.underlying31 hval
  obtain ⟨fuel, hf⟩ := h
  rw [cellsA5] at hc
  obtain ⟨l⟩ := cs
  match l, hc with
  | [u0, u1, u2, u3, u4], _ =>
    obtain ⟨z, hz, rfl, rfl, rfl, rfl, rfl⟩ := trod_act hf
    exact ⟨z, rfl, hz⟩
set_option maxRecDepth 100000 in
theorem open_acts {v : Value} {fuel : Nat} {x : DataW H × List MemPlace} (hval : Cell.okWide Try.prog W .any base 22 v) (hf : DataW.trod enc Try.prog W 0 (fun _ => true) true fuel 22 [v] = some x) :
    ∃ l : List Ac, Row W 5 v l.length (acs l) ∧ ∀ y ∈ l, AcOk y := by
  rcases Go.Deep.open_slice Try.underlying22 hf with ⟨hcs, _⟩ | ⟨y, len, cap, m, n, D, Pl, hcs, _, hl, hm, hmm, hx, hi⟩
  · simp at hcs
    subst hcs
    exact ⟨[], Row.nils W 5, fun s hs => by cases hs⟩
  · simp at hcs
    subst hcs
    simp only [if_true] at hmm
    subst hmm
    have hh : W.has Try.prog .any base y 31 m := by
      simp only [Try.underlying22, Cell.okWide, Cell.ok] at hval
      exact hval.2.2
    obtain ⟨hspot, hblk⟩ := place_of hh
    obtain ⟨b, off, spot⟩ := y
    simp only at hspot hblk
    subst hspot
    have each : ∀ i, i < m → ∃ z : Ac, AcOk z ∧ W.cell? ⟨b, off + i * 5, none⟩ = some (.int .i64 z.kd) ∧ W.cell? ⟨b, off + i * 5 + 1, none⟩ = some (.int .i64 z.a) ∧ W.cell? ⟨b, off + i * 5 + 2, none⟩ = some (.int .i64 z.b) ∧ W.cell? ⟨b, off + i * 5 + 3, none⟩ = some (.string z.v) ∧ W.cell? ⟨b, off + i * 5 + 4, none⟩ = some (.bool z.on) := by
      intro i him
      obtain ⟨cs', hc, ht⟩ := hi i him
      rw [cellsA5] at hc
      obtain ⟨_, hlen3, hat⟩ := World.cells?_some hc
      match cs', hlen3 with
      | [u0, u1, u2, u3, u4], _ =>
        obtain ⟨z, hz, rfl, rfl, rfl, rfl, rfl⟩ := trod_act ht
        have a0 := hat 0 (by decide)
        have a1 := hat 1 (by decide)
        have a2 := hat 2 (by decide)
        have a3 := hat 3 (by decide)
        have a4 := hat 4 (by decide)
        rw [Go.Deep.add_add, addr_add] at a0 a1 a2 a3 a4
        refine ⟨z, hz, ?_, ?_, ?_, ?_, ?_⟩
        · simpa using a0
        · rw [Nat.add_assoc]; simpa using a1
        · rw [Nat.add_assoc]; simpa using a2
        · rw [Nat.add_assoc]; simpa using a3
        · rw [Nat.add_assoc]; simpa using a4
    obtain ⟨l, hll, hq⟩ := list_of m each
    have hlt : (l.take len).length = len := by simp; omega
    refine ⟨l.take len, ⟨by rw [acs_length], .inr ⟨b, off, m, by rw [hlt], hblk, by omega, hm, fun j u hj => ?_⟩⟩, fun z hz => ?_⟩
    · have hj' : j < len * 5 := by
        have := (List.getElem?_eq_some_iff.1 hj).1
        rw [acs_length] at this; omega
      have hd : j / 5 < (l.take len).length := by omega
      obtain ⟨_, q0, q1, q2, q3, q4⟩ := hq (j / 5) (by omega)
      obtain ⟨p0, p1, p2, p3, p4⟩ := acs_at (l.take len) (j / 5) hd
      rw [List.getElem_take] at p0 p1 p2 p3 p4
      rcases (by omega : j = j / 5 * 5 ∨ j = j / 5 * 5 + 1 ∨ j = j / 5 * 5 + 2 ∨ j = j / 5 * 5 + 3 ∨ j = j / 5 * 5 + 4) with e | e | e | e | e
      · rw [← e] at p0 q0; rw [p0] at hj; rw [← hj]; exact q0
      · rw [← e] at p1; rw [Nat.add_assoc, ← e] at q1; rw [p1] at hj; rw [← hj]; exact q1
      · rw [← e] at p2; rw [Nat.add_assoc, ← e] at q2; rw [p2] at hj; rw [← hj]; exact q2
      · rw [← e] at p3; rw [Nat.add_assoc, ← e] at q3; rw [p3] at hj; rw [← hj]; exact q3
      · rw [← e] at p4; rw [Nat.add_assoc, ← e] at q4; rw [p4] at hj; rw [← hj]; exact q4
    · obtain ⟨i, hi', rfl⟩ := List.getElem_of_mem (List.mem_of_mem_take hz)
      exact (hq i hi').1
end
end Go.Proofs.Ytgnmieobgdbafaa
