/-
  Slices of ints as lists; what R.Ints answers of two that are the same.
-/
import Derived.Test.YtgnmieobgdbafaaKLexIn
import Derived.Handy
import Derived.OwnWalk
import Derived.IntWalk
import Derived.LoopN
namespace Go.Proofs.Ytgnmieobgdbafaa
open Go.RowKit
set_option linter.unusedVariables false
/-- The slice value v reads as the cells cs: n elements of size cells each. -/
def Row (w : World) (size : Nat) (v : Value) (n : Nat) (cs : List Value) : Prop :=
  cs.length = n * size ∧ ((v = .slice none 0 0 ∧ n = 0) ∨
    ∃ b off cap, v = .slice (some ⟨b, off, none⟩) n cap ∧ b < w.heap.size ∧ n ≤ cap ∧ cap ≤ maxLen ∧ ∀ j u, cs[j]? = some u → w.cell? ⟨b, off + j, none⟩ = some u)
theorem Row.below {w w' : World} {size n : Nat} {v : Value} {cs : List Value} (h : Row w size v n cs) (hb : Below w.heap.size w w') : Row w' size v n cs := by
  obtain ⟨h1, h2⟩ := h
  refine ⟨h1, ?_⟩
  rcases h2 with h2 | ⟨b, off, cap, rfl, h3, h4, h5, h6⟩
  · exact .inl h2
  · exact .inr ⟨b, off, cap, rfl, Nat.lt_of_lt_of_le h3 hb.size, h4, h5, fun j u hj => bcellAt hb (h6 j u hj)⟩
theorem Row.shape {w : World} {size n : Nat} {v : Value} {cs : List Value} (h : Row w size v n cs) : ∃ a c, v = .slice a n c := by
  rcases h.2 with ⟨rfl, rfl⟩ | ⟨b, off, cap, rfl, _⟩
  · exact ⟨_, _, rfl⟩
  · exact ⟨_, _, rfl⟩
theorem row_of_own {w : World} {base : Nat} {e : TypeId} {size n : Nat} {v : Value} {xs : List Value} (h : w.ownsRow base e size v n xs) : Row w size v n xs := by
  have h' := h
  obtain ⟨h1, h2⟩ := h
  refine ⟨h1, ?_⟩
  rcases h2 with h2 | ⟨g, cap, cur, rfl, hb, hg, hle, hm, hc, ht⟩
  · exact .inl h2
  · refine .inr ⟨g, 0, cap, rfl, (Array.getElem?_eq_some_iff.1 hg).1, hle, hm, fun j u hj => ?_⟩
    rw [Nat.zero_add, World.ownsRow.cellAt h' j (by rw [← h1]; exact (List.getElem?_eq_some_iff.1 hj).1)]
    exact hj
/-- Where a slice's element stands; a slice without a block has none. -/
theorem Row.at {w : World} {n : Nat} {v : Value} {cs : List Value} (h : Row w 1 v n cs) : ∃ a c, v = .slice a n c ∧ (0 < n → ∃ b off, a = some ⟨b, off, none⟩ ∧ ∀ j u, cs[j]? = some u → w.cell? ⟨b, off + j, none⟩ = some u) := by
  rcases h.2 with ⟨rfl, rfl⟩ | ⟨b, off, cap, rfl, _, _, _, h6⟩
  · exact ⟨_, _, rfl, fun h => by omega⟩
  · exact ⟨_, _, rfl, fun _ => ⟨b, off, rfl, h6⟩⟩
def ints (l : List Int) : List Value := l.map (Value.int .i64)
theorem ints_length (l : List Int) : (ints l).length = l.length := by simp [ints]
theorem ints_append (a b : List Int) : ints (a ++ b) = ints a ++ ints b := by simp [ints]
theorem ints_at (l : List Int) (i : Nat) (h : i < l.length) : (ints l)[i]? = some (.int .i64 (l[i])) := by simp [ints, h]
theorem ints_oneCell (l : List Int) : ∀ u ∈ ints l, u.oneCell' = true := by
  intro u hu
  simp only [ints, List.mem_map] at hu
  obtain ⟨b, _, rfl⟩ := hu
  rfl
/-- Only draws. -/
def Drew (w w' : World) : Prop := ∃ n, w' = w.drewN n
theorem Drew.below {w w' : World} (h : Drew w w') : Below w.heap.size w w' := by obtain ⟨n, rfl⟩ := h; exact bdn _ _
end Go.Proofs.Ytgnmieobgdbafaa
