/-
  What an argument that is a list of acts on maps gives the walk.
-/
import Derived.Test.YtmbaedldikobcaaKArgE
namespace Go.Proofs.Ytmbaedldikobcaa
open Go.ChangeShapes Go.WideShapes Go.ChangeAt Go.RowKit
set_option linter.unusedVariables false

/-- A list of acts as cells. -/
abbrev KAct := Int × ByteArray × Int
def kacs (l : List KAct) : List Value := l.flatMap fun x => [.int .i64 x.1, .string x.2.1, .int .i64 x.2.2]
theorem kacs_length (l : List KAct) : (kacs l).length = l.length * 3 := by
  induction l with
  | nil => rfl
  | cons a l ih => simp [kacs, List.flatMap_cons] at ih ⊢; omega
theorem kacs_at (l : List KAct) : ∀ (i : Nat) (h : i < l.length), (kacs l)[i * 3]? = some (.int .i64 (l[i]).1) ∧ (kacs l)[i * 3 + 1]? = some (.string (l[i]).2.1) ∧ (kacs l)[i * 3 + 2]? = some (.int .i64 (l[i]).2.2) := by
  induction l with
  | nil => intro i h; simp at h
  | cons a l ih =>
    intro i h
    have e : kacs (a :: l) = .int .i64 a.1 :: .string a.2.1 :: .int .i64 a.2.2 :: kacs l := by simp [kacs]
    cases i with
    | zero => simp [e]
    | succ i =>
      have := ih i (by simpa using h)
      rw [e, show (i + 1) * 3 = i * 3 + 1 + 1 + 1 by omega, show i * 3 + 1 + 1 + 1 + 1 = (i * 3 + 1) + 1 + 1 + 1 by omega, show i * 3 + 1 + 1 + 1 + 2 = (i * 3 + 2) + 1 + 1 + 1 by omega]
      simpa using this

/-- What may stand in an act. -/
def KActOk (x : KAct) : Prop := (-9223372036854775808 ≤ x.1 ∧ x.1 ≤ 9223372036854775807) ∧ x.2.1.size ≤ maxLen ∧ (-9223372036854775808 ≤ x.2.2 ∧ x.2.2 ≤ 9223372036854775807)

theorem cellsKA : Try.prog.cellsOf 28 = 3 := by kernel_rfl
section
variable {H : Type} {enc : TypeId × Value → H} {W : World} {base : Nat}
set_option maxRecDepth 100000 in
theorem open_kacts {v : Value} {fuel : Nat} {x : DataW H × List MemPlace} (hval : Cell.okWide Try.prog W .any base 22 v) (hf : DataW.trod enc Try.prog W 0 (fun _ => true) true fuel 22 [v] = some x) :
    ∃ l : List KAct, Row W 3 v l.length (kacs l) ∧ ∀ y ∈ l, KActOk y := by
  rcases Go.Deep.open_slice Try.underlying22 hf with ⟨hcs, _⟩ | ⟨y, len, cap, m, n, D, Pl, hcs, _, hl, hm, hmm, hx, hi⟩
  · simp at hcs
    subst hcs
    exact ⟨[], Row.nils W 3, fun s hs => by cases hs⟩
  · simp at hcs
    subst hcs
    simp only [if_true] at hmm
    subst hmm
    have hh : W.has Try.prog .any base y 28 m := by
      simp only [Try.underlying22, Cell.okWide, Cell.ok] at hval
      exact hval.2.2
    obtain ⟨hspot, hblk⟩ := place_of hh
    obtain ⟨b, off, spot⟩ := y
    simp only at hspot hblk
    subst hspot
    have each : ∀ i, i < m → ∃ z : KAct, KActOk z ∧ W.cell? ⟨b, off + i * 3, none⟩ = some (.int .i64 z.1) ∧ W.cell? ⟨b, off + i * 3 + 1, none⟩ = some (.string z.2.1) ∧ W.cell? ⟨b, off + i * 3 + 2, none⟩ = some (.int .i64 z.2.2) := by
      intro i him
      obtain ⟨cs', hc, ht⟩ := hi i him
      rw [cellsKA] at hc
      obtain ⟨_, hlen3, hat⟩ := World.cells?_some hc
      obtain ⟨ys, k, _, _, _, hyl, hfld⟩ := DataW.trod_struct Try.underlying28 ht
      match cs', hlen3 with
      | [u0, u1, u2], _ =>
        have f0 : DataW.trod enc Try.prog W 0 (fun _ => true) true k 3 (([u0, u1, u2].drop 0).take (Try.prog.cellsOf 3)) = ys[0]? := hfld 0 _ rfl
        have f1 : DataW.trod enc Try.prog W 0 (fun _ => true) true k 9 (([u0, u1, u2].drop 1).take (Try.prog.cellsOf 9)) = ys[1]? := hfld 1 _ rfl
        have f2 : DataW.trod enc Try.prog W 0 (fun _ => true) true k 3 (([u0, u1, u2].drop 2).take (Try.prog.cellsOf 3)) = ys[2]? := hfld 2 _ rfl
        have hi1 : Try.prog.cellsOf 3 = 1 := by kernel_rfl
        rw [hi1] at f0 f2
        rw [cellsS] at f1
        simp only [List.drop_zero, List.drop_succ_cons, List.take_succ_cons, List.take_zero] at f0 f1 f2
        have y0 : ys[0]? = some (ys[0]'(by rw [hyl]; decide)) := List.getElem?_eq_getElem (by rw [hyl]; decide)
        have y1 : ys[1]? = some (ys[1]'(by rw [hyl]; decide)) := List.getElem?_eq_getElem (by rw [hyl]; decide)
        have y2 : ys[2]? = some (ys[2]'(by rw [hyl]; decide)) := List.getElem?_eq_getElem (by rw [hyl]; decide)
        rw [y0] at f0
        rw [y1] at f1
        rw [y2] at f2
        obtain ⟨n0, e0, _, w0⟩ := DataW.trod_int Try.underlying3 f0
        obtain ⟨n1, e1, _, w1⟩ := DataW.trod_string Try.underlying9 f1
        obtain ⟨s2, e2, _, w2⟩ := DataW.trod_int Try.underlying3 f2
        simp at e0 e1 e2
        subst e0; subst e1; subst e2
        have a0 := hat 0 (by decide)
        have a1 := hat 1 (by decide)
        have a2 := hat 2 (by decide)
        rw [Go.Deep.add_add, addr_add] at a0 a1 a2
        refine ⟨(n0, n1, s2), ⟨?_, w1, ?_⟩, ?_, ?_, ?_⟩
        · have := bounds_i64 w0; omega
        · have := bounds_i64 w2; omega
        · simpa using a0
        · rw [Nat.add_assoc]; simpa using a1
        · rw [Nat.add_assoc]; simpa using a2
    obtain ⟨l, hll, hq⟩ := list_of m each
    have hlt : (l.take len).length = len := by simp; omega
    refine ⟨l.take len, ⟨by rw [kacs_length], .inr ⟨b, off, m, by rw [hlt], hblk, by omega, hm, fun j u hj => ?_⟩⟩, fun z hz => ?_⟩
    · have hj' : j < len * 3 := by
        have := (List.getElem?_eq_some_iff.1 hj).1
        rw [kacs_length] at this; omega
      have hd : j / 3 < (l.take len).length := by omega
      obtain ⟨_, q0, q1, q2⟩ := hq (j / 3) (by omega)
      obtain ⟨p0, p1, p2⟩ := kacs_at (l.take len) (j / 3) hd
      rw [List.getElem_take] at p0 p1 p2
      rcases (by omega : j = j / 3 * 3 ∨ j = j / 3 * 3 + 1 ∨ j = j / 3 * 3 + 2) with e | e | e
      · rw [← e] at p0 q0; rw [p0] at hj; rw [← hj]; exact q0
      · rw [← e] at p1; rw [Nat.add_assoc, ← e] at q1; rw [p1] at hj; rw [← hj]; exact q1
      · rw [← e] at p2; rw [Nat.add_assoc, ← e] at q2; rw [p2] at hj; rw [← hj]; exact q2
    · obtain ⟨i, hi', rfl⟩ := List.getElem_of_mem (List.mem_of_mem_take hz)
      exact (hq i hi').1
end

end Go.Proofs.Ytmbaedldikobcaa
