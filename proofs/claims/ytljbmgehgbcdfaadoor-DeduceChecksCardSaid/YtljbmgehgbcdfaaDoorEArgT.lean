/-
  A list of terms as an argument.
-/
import Derived.Test.YtljbmgehgbcdfaaDoorTMet
import Derived.Test.YtljbmgehgbcdfaaDoorTRefP
import Derived.ChangeSlices
namespace Go.Proofs.YtljbmgehgbcdfaaDoor
open Go.ChangeShapes Go.WideShapes Go.ChangeAt Go.RowKit
set_option linter.unusedVariables false

theorem cellsTm : Tryd.prog.cellsOf TermT = 1 := by kernel_rfl
theorem ints_len (l : List Int) : (ints l).length = l.length := by simp [ints]
theorem addr_addT (b o n : Nat) : (⟨b, o, none⟩ : Addr).add n = ⟨b, o + n, none⟩ := by unfold Addr.add; split <;> simp_all
section
variable {H : Type} {enc : TypeId × Value → H} {W : World} {base : Nat}
set_option maxRecDepth 100000 in
theorem open_terms {v : Value} {fuel : Nat} {x : DataW H × List MemPlace} (hval : Cell.okWide Tryd.prog W .any base 23 v) (hf : DataW.trod enc Tryd.prog W 0 (fun _ => true) true fuel 23 [v] = some x) :
    ∃ l : List Int, Row W 1 v l.length (ints l) ∧ ∀ n ∈ l, i64R n := by
  rcases Go.ChangeShapes.open_ints Tryd.underlying23 Tryd.underlying37 cellsTm hf with ⟨hcs, _⟩ | ⟨y, len, cap, ss, hcs, _, hl, hm, hz, hx, hcell, hsz⟩
  · simp at hcs
    subst hcs
    exact ⟨[], ⟨rfl, .inl ⟨rfl, rfl⟩⟩, fun s hs => by cases hs⟩
  · simp at hcs
    subst hcs
    simp only [if_true] at hz
    have hh : W.has Tryd.prog .any base y TermT cap := by
      simp only [Tryd.underlying23, Cell.okWide, Cell.ok] at hval
      exact hval.2.2
    obtain ⟨hspot, hblk⟩ := place_of hh
    obtain ⟨b, off, spot⟩ := y
    simp only at hspot hblk
    subst hspot
    have hlen : (ss.take len).length = len := by simp; omega
    refine ⟨ss.take len, ⟨by rw [ints_len]; omega, .inr ⟨b, off, cap, by rw [hlen], hblk, by omega, hm, fun j u hj => ?_⟩⟩, fun s hs => ?_⟩
    · have hj' : j < len := by
        have := (List.getElem?_eq_some_iff.1 hj).1
        rw [ints_len] at this; omega
      have hc := hcell j (by omega)
      rw [addr_addT] at hc
      rw [hc]
      rw [ints_at _ j (by omega)] at hj
      rw [← hj]
      simp [List.getD_eq_getElem?_getD, show j < ss.length by omega]
    · have := bounds_i64 (hsz s (List.mem_of_mem_take hs)); unfold i64R; omega
end
end Go.Proofs.YtljbmgehgbcdfaaDoor
