/-
  For the statement CodecFrames: each function's answer in one word.
-/
import Derived.Test.YtoeaaddkeefgoaaFrames
import Derived.Test.YtoeaaddkeefgoaaRefSeal
import Derived.Test.YtoeaaddkeefgoaaLive
namespace Go.Proofs.Ytoeaaddkeefgoaa
open Go.RowKit

def sealS (l : List UInt8) : List UInt8 × Nat := if l.length ≤ 4096 then (frameOf l, 0) else ([], 1)
def SealPost (w : World) (s : List UInt8 × Nat) (e : Ending) (w' : World) : Prop :=
  ∃ a c, e = .returned (.tuple #[.slice a s.1.length c, .int .i64 (s.2 : Int)]) ∧ Own w.heap.size w' (.slice a s.1.length c) s.1 ∧ Below w.heap.size w w'
theorem seal_both {w : World} {v : Value} {l : List UInt8} (h : Rd 0 w v l) (hl : l.length ≤ 140737488355328) : Calls Try.prog 6 #[v] w (SealPost w (sealS l)) := by
  unfold sealS
  by_cases h1 : l.length ≤ 4096
  · rw [if_pos h1]
    exact (seal_any h h1).mono fun e w' ⟨v', he, ho, hb⟩ => by
      obtain ⟨a, c, rfl⟩ := ho.rd.shape
      exact ⟨a, c, he, ho, hb⟩
  · rw [if_neg h1]
    exact (seal_long h (by omega) hl).mono fun e w' ⟨he, hw⟩ => by
      subst hw
      exact ⟨none, 0, he, Own.nils _ _, Below.refl _ _⟩
theorem refSeal_both {w : World} {v : Value} {l : List UInt8} (h : Rd 0 w v l) (hl : l.length ≤ 140737488355328) : Calls Try.prog 7 #[v] w (SealPost w (sealS l)) := by
  unfold sealS
  by_cases h1 : l.length ≤ 4096
  · rw [if_pos h1]
    exact (refSeal_any h h1).mono fun e w' ⟨v', he, ho, hb⟩ => by
      obtain ⟨a, c, rfl⟩ := ho.rd.shape
      exact ⟨a, c, he, ho, hb⟩
  · rw [if_neg h1]
    exact (refSeal_long h (by omega) hl).mono fun e w' ⟨he, hw⟩ => by
      subst hw
      exact ⟨none, 0, he, Own.nils _ _, Below.refl _ _⟩

def openT (l : List UInt8) : List UInt8 × Nat × Nat := match openS l with
  | .inl er => ([], 0, er)
  | .inr (x, n) => (x, n, 0)
def OpenT (w : World) (s : List UInt8 × Nat × Nat) (e : Ending) (w' : World) : Prop :=
  ∃ a c, e = .returned (.tuple #[.slice a s.1.length c, .int .i64 (s.2.1 : Int), .int .i64 (s.2.2 : Int)]) ∧ Own w.heap.size w' (.slice a s.1.length c) s.1 ∧ Below w.heap.size w w'
theorem openT_of {w : World} {l : List UInt8} {e : Ending} {w' : World} (h : OpenPost w (openS l) e w') : OpenT w (openT l) e w' := by
  obtain ⟨hb, h⟩ := h
  unfold openT
  cases ho : openS l with
  | inl er =>
    rw [ho] at h
    exact ⟨none, 0, h, Own.nils _ _, hb⟩
  | inr q =>
    obtain ⟨x, n⟩ := q
    rw [ho] at h
    obtain ⟨v', he, hw⟩ := h
    obtain ⟨a, c, rfl⟩ := hw.rd.shape
    exact ⟨a, c, he, hw, hb⟩
theorem open_both {w : World} {v : Value} {l : List UInt8} (h : Rd 0 w v l) (hl : l.length ≤ 1099511627776) : Calls Try.prog 8 #[v] w (OpenT w (openT l)) := (open_any h hl).mono fun _ _ => openT_of
theorem refOpen_both {w : World} {v : Value} {l : List UInt8} (h : Rd 0 w v l) (hl : l.length ≤ 1099511627776) : Calls Try.prog 9 #[v] w (OpenT w (openT l)) := (refOpen_any h hl).mono fun _ _ => openT_of

end Go.Proofs.Ytoeaaddkeefgoaa
