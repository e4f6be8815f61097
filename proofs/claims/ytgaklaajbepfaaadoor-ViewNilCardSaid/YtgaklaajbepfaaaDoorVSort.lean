/-
  slices.Sort of a row of terms of the call's own.
-/
import Derived.Shelf.SlIterI.Nil
import Derived.Shelf.SortM.Plain
import Derived.Shelf.SortM.SortNone
import Derived.Ground.SlgmProg
import Derived.Test.YtgaklaajbepfaaaDoorVBase
namespace Go.Proofs
open Go.RowKit Go.Maps Go.Sort Go.Shelf

shelf_lay_g SlLaysM.n5 Slgm 5 at Tryd 51 as Tryd.vsortT
namespace YtgaklaajbepfaaaDoor
/-- Rising. -/
def riseL (xs : List Int) : List Int := xs.mergeSort fun x y => decide (x ≤ y)
theorem vsort_call {w : World} {base : Nat} {v : Value} {xs : List Int} (h : w.ownsRow base TermT 1 v xs.length (ints xs)) (hl : xs.length ≤ 1000000) : Calls Tryd.prog 51 #[v] w fun e w' => e = .returned (.tuple #[]) ∧ w'.ownsRow base TermT 1 v xs.length (ints (riseL xs)) ∧ w.grownBy w' v.ownBlock := by
  rcases h.2 with ⟨rfl, hz⟩ | ⟨gb, cap, cur, rfl, hbase, hgb, r1, r2, r3, r4⟩
  · have hss : xs = [] := List.eq_nil_of_length_eq_zero hz
    subst hss
    refine (AnyM.slices_Sort_int_none Tryd.vsortT none 0 w).mono ?_
    rintro e w' ⟨rfl, rfl⟩
    exact ⟨rfl, by simpa [riseL] using h, ⟨rfl, rfl, rfl, Nat.le_refl _, fun _ _ _ => rfl⟩⟩
  · have hH : Holds encZ w gb 0 xs.toArray := holds_of_block_i hgb (by have h9 := r4; rw [Nat.mul_one] at h9; exact h9)
    have hgl : gb < w.heap.size := (Array.getElem?_eq_some_iff.1 hgb).1
    refine (AnyM.slices_Sort_int Tryd.vsortT gb 0 cap xs w hH hgl (by omega)).mono ?_
    rintro e w' ⟨rfl, nn, os, rfl⟩
    exact ⟨rfl, ownsRow_sorted_i (by simp) hbase hgb r1 r2 r3, grownBy_sorted_i _⟩
end YtgaklaajbepfaaaDoor
end Go.Proofs
