/-
  The rest of a slice of bytes, from a place on.
-/
import Derived.Test.YthaflimgigppaaaLive
namespace Go.Proofs.Ythaflimgigppaaa
open Go.RowKit

theorem rd_from {B : Nat} {w : World} {v : Value} {l : List UInt8} (h : Rd B w v l) (lo : Nat) (h1 : lo ≤ l.length) :
    ∃ v', Rd B w v' (l.drop lo) ∧ v'.ownBlock = v.ownBlock ∧ ∀ W : World, (Instr.slice 24 v (some (.int .i64 (lo : Int))) none none).run Try.prog W = .ok v' W := by
  have he : Try.prog.elem 24 = 5 := by simp [Program.elem, Try.underlying24]
  have ht : Try.prog.underlying 24 = some (.slice (Try.prog.elem 24)) := by rw [he]; exact Try.underlying24
  obtain ⟨v', h2, h3, h4⟩ := rd_cut h lo l.length h1 (Nat.le_refl _)
  refine ⟨v', by rwa [List.take_of_length_le (by simp)] at h2, h3, fun W => ?_⟩
  rw [← h4 W]
  rcases h with ⟨rfl, rfl⟩ | ⟨b, off, cap, rfl, _, _, g3, _, _⟩
  · simp only [List.length_nil, Nat.le_zero_eq] at h1
    subst h1
    rw [run_slice_l W _ _ _ _ ht _ _ (by omega) (by simp), run_slice_lh W _ _ _ _ ht _ _ _ _ (by omega) (by simp) (by simp)]
    rfl
  · rw [run_slice_l W _ _ _ _ ht _ _ (by omega) (by omega), run_slice_lh W _ _ _ _ ht _ _ _ _ (by omega) (by omega) (by omega)]
    rfl

end Go.Proofs.Ythaflimgigppaaa
