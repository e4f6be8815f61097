/-
  What arguments that are lists of texts and lists of acts give the walk.
-/
import Derived.Test.YthamjlhkiabcnaaDSizes
import Derived.Deep.Slices
import Derived.Deep.Fields
import Derived.ChangeSame
import Derived.SliceStrings
import Derived.Lib.SmallJoins
namespace Go.Proofs.Ythamjlhkiabcnaa
open Go.ChangeShapes Go.WideShapes Go.ChangeAt Go.RowKit

/-- A list of acts as cells. -/
abbrev Act3 := Int × Int × ByteArray
def acs (l : List Act3) : List Value := l.flatMap fun x => [.int .i64 x.1, .int .i64 x.2.1, .string x.2.2]
theorem acs_length (l : List Act3) : (acs l).length = l.length * 3 := by
  induction l with
  | nil => rfl
  | cons a l ih => simp [acs, List.flatMap_cons] at ih ⊢; omega
theorem acs_at (l : List Act3) : ∀ (i : Nat) (h : i < l.length), (acs l)[i * 3]? = some (.int .i64 (l[i]).1) ∧ (acs l)[i * 3 + 1]? = some (.int .i64 (l[i]).2.1) ∧ (acs l)[i * 3 + 2]? = some (.string (l[i]).2.2) := by
  induction l with
  | nil => intro i h; simp at h
  | cons a l ih =>
    intro i h
    have e : acs (a :: l) = .int .i64 a.1 :: .int .i64 a.2.1 :: .string a.2.2 :: acs l := by simp [acs]
    cases i with
    | zero => simp [e]
    | succ i =>
      have := ih i (by simpa using h)
      rw [e, show (i + 1) * 3 = i * 3 + 1 + 1 + 1 by omega, show i * 3 + 1 + 1 + 1 + 1 = (i * 3 + 1) + 1 + 1 + 1 by omega, show i * 3 + 1 + 1 + 1 + 2 = (i * 3 + 2) + 1 + 1 + 1 by omega]
      simpa using this

/-- What may stand in an act. -/
def ActOk (x : Act3) : Prop := (-9223372036854775808 ≤ x.1 ∧ x.1 ≤ 9223372036854775807) ∧ (-9223372036854775808 ≤ x.2.1 ∧ x.2.1 ≤ 9223372036854775807) ∧ x.2.2.size ≤ maxLen

theorem list_of {α : Type} {Q : Nat → α → Prop} (n : Nat) (h : ∀ i, i < n → ∃ z, Q i z) : ∃ l : List α, l.length = n ∧ ∀ i (hi : i < l.length), Q i (l[i]) := by
  induction n with
  | zero => exact ⟨[], rfl, fun i hi => absurd hi (by simp)⟩
  | succ n ih =>
    obtain ⟨l, hl, hq⟩ := ih fun i hi => h i (by omega)
    obtain ⟨z, hz⟩ := h n (by omega)
    refine ⟨l ++ [z], by simp [hl], fun i hi => ?_⟩
    by_cases hin : i < l.length
    · rw [List.getElem_append_left hin]; exact hq i hin
    · have hi' : i = l.length := by simp at hi; omega
      subst hi'
      rw [List.getElem_append_right (by omega)]
      simp only [Nat.sub_self, List.getElem_cons_zero]
      rw [hl]; exact hz

theorem place_of {W : World} {base : Nat} {x : Addr} {e : TypeId} {cap : Nat} (h : W.has Try.prog .any base x e cap) : x.spot = none ∧ x.block < W.heap.size := by
  obtain ⟨_, hspot, row, cells, hshape, _⟩ := h
  refine ⟨hspot, ?_⟩
  rcases Nat.lt_or_ge x.block W.heap.size with h | h
  · exact h
  · simp [World.shape?, Array.getElem?_eq_none h] at hshape

theorem addr_add {b off : Nat} (i : Nat) : (⟨b, off, none⟩ : Addr).add i = ⟨b, off + i, none⟩ := by unfold Addr.add; split <;> simp_all

theorem cellsS : Try.prog.cellsOf 9 = 1 := by kernel_rfl
theorem cellsA : Try.prog.cellsOf 37 = 3 := by kernel_rfl

/-- The places of an argument lie in memory that was there. -/
theorem places_lt {H : Type} {enc : TypeId × Value → H} {W : World} {t : TypeId} {v : Value} {d : DataW H} {p : List MemPlace} (hj : DataW.Trod enc Try.prog W 0 (fun _ => true) true t v d p) : ∀ x ∈ p, x.block < W.heap.size := by
  obtain ⟨m, hm⟩ := hj
  exact DataW.trod_lt m _ _ _ hm

theorem Row.small {w : World} {size n : Nat} {v : Value} {cs : List Value} (h : Row w size v n cs) : n ≤ maxLen := by
  rcases h.2 with ⟨_, rfl⟩ | ⟨b, off, cap, rfl, _, h4, h5, _⟩
  · exact Nat.zero_le _
  · omega

section
variable {H : Type} {enc : TypeId × Value → H} {W : World} {base : Nat}

theorem open_strs {v : Value} {fuel : Nat} {x : DataW H × List MemPlace} (hval : Cell.okWide Try.prog W .any base 22 v) (hf : DataW.trod enc Try.prog W 0 (fun _ => true) true fuel 22 [v] = some x) :
    ∃ l : List ByteArray, Row W 1 v l.length (strs l) ∧ ∀ s ∈ l, s.size ≤ maxLen := by
  rcases Go.ChangeShapes.open_strings Try.underlying22 Try.underlying9 cellsS hf with ⟨hcs, _⟩ | ⟨y, len, cap, ss, hcs, _, hl, hm, hz, hx, hcell, hsz⟩
  · simp at hcs
    subst hcs
    exact ⟨[], Row.nils W 1, fun s hs => by cases hs⟩
  · simp at hcs
    subst hcs
    simp only [if_true] at hz
    have hh : W.has Try.prog .any base y 9 cap := by
      simp only [Try.underlying22, Cell.okWide, Cell.ok] at hval
      exact hval.2.2
    obtain ⟨hspot, hblk⟩ := place_of hh
    obtain ⟨b, off, spot⟩ := y
    simp only at hspot hblk
    subst hspot
    have hlen : (ss.take len).length = len := by simp; omega
    refine ⟨ss.take len, ⟨by rw [strs_length]; omega, .inr ⟨b, off, cap, by rw [hlen], hblk, by omega, hm, fun j u hj => ?_⟩⟩, fun s hs => hsz s (List.mem_of_mem_take hs)⟩
    have hj' : j < len := by
      have := (List.getElem?_eq_some_iff.1 hj).1
      rw [strs_length] at this; omega
    have hc := hcell j (by omega)
    rw [addr_add] at hc
    rw [hc]
    rw [strs_at _ j (by omega)] at hj
    rw [← hj]
    simp [List.getD_eq_getElem?_getD, show j < ss.length by omega]

theorem open_acts {v : Value} {fuel : Nat} {x : DataW H × List MemPlace} (hval : Cell.okWide Try.prog W .any base 23 v) (hf : DataW.trod enc Try.prog W 0 (fun _ => true) true fuel 23 [v] = some x) :
    ∃ l : List Act3, Row W 3 v l.length (acs l) ∧ ∀ y ∈ l, ActOk y := by
  rcases Go.Deep.open_slice Try.underlying23 hf with ⟨hcs, _⟩ | ⟨y, len, cap, m, n, D, Pl, hcs, _, hl, hm, hmm, hx, hi⟩
  · simp at hcs
    subst hcs
    exact ⟨[], Row.nils W 3, fun s hs => by cases hs⟩
  · simp at hcs
    subst hcs
    simp only [if_true] at hmm
    subst hmm
    have hh : W.has Try.prog .any base y 37 m := by
      simp only [Try.underlying23, Cell.okWide, Cell.ok] at hval
      exact hval.2.2
    obtain ⟨hspot, hblk⟩ := place_of hh
    obtain ⟨b, off, spot⟩ := y
    simp only at hspot hblk
    subst hspot
    have each : ∀ i, i < m → ∃ z : Act3, ActOk z ∧ W.cell? ⟨b, off + i * 3, none⟩ = some (.int .i64 z.1) ∧ W.cell? ⟨b, off + i * 3 + 1, none⟩ = some (.int .i64 z.2.1) ∧ W.cell? ⟨b, off + i * 3 + 2, none⟩ = some (.string z.2.2) := by
      intro i him
      obtain ⟨cs', hc, ht⟩ := hi i him
      rw [cellsA] at hc
      obtain ⟨_, hlen3, hat⟩ := World.cells?_some hc
      obtain ⟨ys, k, _, _, _, hyl, hfld⟩ := DataW.trod_struct Try.underlying37 ht
      match cs', hlen3 with
      | [u0, u1, u2], _ =>
        have f0 : DataW.trod enc Try.prog W 0 (fun _ => true) true k 3 (([u0, u1, u2].drop 0).take (Try.prog.cellsOf 3)) = ys[0]? := hfld 0 _ rfl
        have f1 : DataW.trod enc Try.prog W 0 (fun _ => true) true k 3 (([u0, u1, u2].drop 1).take (Try.prog.cellsOf 3)) = ys[1]? := hfld 1 _ rfl
        have f2 : DataW.trod enc Try.prog W 0 (fun _ => true) true k 9 (([u0, u1, u2].drop 2).take (Try.prog.cellsOf 9)) = ys[2]? := hfld 2 _ rfl
        have hi1 : Try.prog.cellsOf 3 = 1 := by kernel_rfl
        rw [hi1] at f0 f1
        rw [cellsS] at f2
        simp only [List.drop_zero, List.drop_succ_cons, List.take_succ_cons, List.take_zero] at f0 f1 f2
        have y0 : ys[0]? = some (ys[0]'(by rw [hyl]; decide)) := List.getElem?_eq_getElem (by rw [hyl]; decide)
        have y1 : ys[1]? = some (ys[1]'(by rw [hyl]; decide)) := List.getElem?_eq_getElem (by rw [hyl]; decide)
        have y2 : ys[2]? = some (ys[2]'(by rw [hyl]; decide)) := List.getElem?_eq_getElem (by rw [hyl]; decide)
        rw [y0] at f0
        rw [y1] at f1
        rw [y2] at f2
        obtain ⟨n0, e0, _, w0⟩ := DataW.trod_int Try.underlying3 f0
        obtain ⟨n1, e1, _, w1⟩ := DataW.trod_int Try.underlying3 f1
        obtain ⟨s2, e2, _, w2⟩ := DataW.trod_string Try.underlying9 f2
        simp at e0 e1 e2
        subst e0; subst e1; subst e2
        have a0 := hat 0 (by decide)
        have a1 := hat 1 (by decide)
        have a2 := hat 2 (by decide)
        rw [Go.Deep.add_add, addr_add] at a0 a1 a2
        refine ⟨(n0, n1, s2), ⟨?_, ?_, w2⟩, ?_, ?_, ?_⟩
        · have := bounds_i64 w0; omega
        · have := bounds_i64 w1; omega
        · simpa using a0
        · rw [Nat.add_assoc]; simpa using a1
        · rw [Nat.add_assoc]; simpa using a2
    obtain ⟨l, hll, hq⟩ := list_of m each
    have hlt : (l.take len).length = len := by simp; omega
    refine ⟨l.take len, ⟨by rw [acs_length], .inr ⟨b, off, m, by rw [hlt], hblk, by omega, hm, fun j u hj => ?_⟩⟩, fun z hz => ?_⟩
    · have hj' : j < len * 3 := by
        have := (List.getElem?_eq_some_iff.1 hj).1
        rw [acs_length] at this; omega
      have hd : j / 3 < (l.take len).length := by omega
      obtain ⟨_, q0, q1, q2⟩ := hq (j / 3) (by omega)
      obtain ⟨p0, p1, p2⟩ := acs_at (l.take len) (j / 3) hd
      rw [List.getElem_take] at p0 p1 p2
      rcases (by omega : j = j / 3 * 3 ∨ j = j / 3 * 3 + 1 ∨ j = j / 3 * 3 + 2) with e | e | e
      · rw [← e] at p0 q0; rw [p0] at hj; rw [← hj]; exact q0
      · rw [← e] at p1; rw [Nat.add_assoc, ← e] at q1; rw [p1] at hj; rw [← hj]; exact q1
      · rw [← e] at p2; rw [Nat.add_assoc, ← e] at q2; rw [p2] at hj; rw [← hj]; exact q2
    · obtain ⟨i, hi', rfl⟩ := List.getElem_of_mem (List.mem_of_mem_take hz)
      exact (hq i hi').1
end

end Go.Proofs.Ythamjlhkiabcnaa
