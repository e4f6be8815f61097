/-
  What Seal answers in one word.
-/
import Derived.Test.YthaflimgigppaaaFrames
import Derived.Test.YthaflimgigppaaaLive
namespace Go.Proofs.Ythaflimgigppaaa
open Go.RowKit

def sealS (l : List UInt8) : List UInt8 × Nat := if l.length ≤ 4096 then (frameOf l, 0) else ([], 1)
def SealPost (w : World) (s : List UInt8 × Nat) (e : Ending) (w' : World) : Prop :=
  ∃ a c, e = .returned (.tuple #[.slice a s.1.length c, .int .i64 (s.2 : Int)]) ∧ Own w.heap.size w' (.slice a s.1.length c) s.1 ∧ Below w.heap.size w w'
theorem seal_both {w : World} {v : Value} {l : List UInt8} (h : Rd 0 w v l) (hl : l.length ≤ 140737488355328) : Calls Try.prog 5 #[v] w (SealPost w (sealS l)) := by
  unfold sealS
  by_cases h1 : l.length ≤ 4096
  · rw [if_pos h1]
    exact (seal_any h h1).mono fun e w' ⟨v', he, ho, hb⟩ => by
      obtain ⟨a, c, rfl⟩ := ho.rd.shape
      exact ⟨a, c, he, ho, hb⟩
  · rw [if_neg h1]
    exact (seal_long h (by omega) hl).mono fun e w' ⟨he, hw⟩ => by
      subst hw
      exact ⟨none, 0, he, Own.nils _ _, Below.refl _ _⟩

end Go.Proofs.Ythaflimgigppaaa
