/-
  What arguments that are lists of ticks, or of acts, give the walk.
-/
import Derived.Test.YtbgnedeeeaapfaaW6S
import Derived.Deep.Slices
import Derived.Deep.Fields
import Derived.ChangeSame
import Derived.SliceStrings
import Derived.Lib.SmallJoins
import Derived.ProofKit
import Derived.OpenShut
import Derived.ShutString
import Derived.ChangeOld
import Derived.ChangeSlices
import Derived.ChangeMaps5
import Derived.JoinedOf
namespace Go.Proofs.Ytbgnedeeeaapfaa
open Go.ChangeShapes Go.WideShapes Go.ChangeAt Go.RowKit
set_option linter.unusedVariables false
theorem Row.nils (w : World) (size : Nat) : Row w size (.slice none 0 0) 0 [] := ⟨by simp, .inl ⟨rfl, rfl⟩⟩
theorem strs_length (l : List ByteArray) : (strs l).length = l.length := by simp [strs]
theorem list_of {α : Type} {Q : Nat → α → Prop} (n : Nat) (h : ∀ i, i < n → ∃ z, Q i z) : ∃ l : List α, l.length = n ∧ ∀ i (hi : i < l.length), Q i (l[i]) := by
  induction n with
  | zero => exact ⟨[], rfl, fun i hi => absurd hi (by simp)⟩
  | succ n ih =>
    obtain ⟨l, hl, hq⟩ := ih fun i hi => h i (by omega)
    obtain ⟨z, hz⟩ := h n (by omega)
    refine ⟨l ++ [z], by simp [hl], fun i hi => ?_⟩
    by_cases hin : i < l.length
    · rw [List.getElem_append_left hin]; exact hq i hin
    · have hi' : i = l.length := by simp at hi; omega
      subst hi'
      rw [List.getElem_append_right (by omega)]
      simp only [Nat.sub_self, List.getElem_cons_zero]
      rw [hl]; exact hz
theorem place_of {W : World} {base : Nat} {x : Addr} {e : TypeId} {cap : Nat} (h : W.has Try.prog .any base x e cap) : x.spot = none ∧ x.block < W.heap.size := by
  obtain ⟨_, hspot, row, cells, hshape, _⟩ := h
  refine ⟨hspot, ?_⟩
  rcases Nat.lt_or_ge x.block W.heap.size with h | h
  · exact h
  · simp [World.shape?, Array.getElem?_eq_none h] at hshape
theorem addr_add {b off : Nat} (i : Nat) : (⟨b, off, none⟩ : Addr).add i = ⟨b, off + i, none⟩ := by unfold Addr.add; split <;> simp_all
theorem cellsS : Try.prog.cellsOf 9 = 1 := by kernel_rfl
/-- The places of an argument lie in memory that was there. -/
theorem places_lt {H : Type} {enc : TypeId × Value → H} {W : World} {t : TypeId} {v : Value} {d : DataW H} {p : List MemPlace} (hj : DataW.Trod enc Try.prog W 0 (fun _ => true) true t v d p) : ∀ x ∈ p, x.block < W.heap.size := by
  obtain ⟨m, hm⟩ := hj
  exact DataW.trod_lt m _ _ _ hm
theorem Row.small {w : World} {size n : Nat} {v : Value} {cs : List Value} (h : Row w size v n cs) : n ≤ maxLen := by
  rcases h.2 with ⟨_, rfl⟩ | ⟨b, off, cap, rfl, _, h4, h5, _⟩
  · exact Nat.zero_le _
  · omega
theorem cells64 : Try.prog.cellsOf 2 = 1 := by kernel_rfl
section
variable {H : Type} {enc : TypeId × Value → H} {W : World} {base : Nat}
set_option maxRecDepth 100000 in
theorem open_num64 {v : Value} {fuel : Nat} {x : DataW H × List MemPlace} (hval : Cell.okWide Try.prog W .any base 53 v) (hf : DataW.trod enc Try.prog W 0 (fun _ => true) true fuel 53 [v] = some x) :
    ∃ l : List Int, Row W 1 v l.length (ints l) ∧ ∀ n ∈ l, (Lit.int .i64 n).wf = true := by
  rcases Go.ChangeShapes.open_ints Try.underlying53 Try.underlying2 cells64 hf with ⟨hcs, _⟩ | ⟨y, len, cap, ss, hcs, _, hl, hm, hz, hx, hcell, hsz⟩
  · simp at hcs
    subst hcs
    exact ⟨[], Row.nils W 1, fun s hs => by cases hs⟩
  · simp at hcs
    subst hcs
    simp only [if_true] at hz
    have hh : W.has Try.prog .any base y 2 cap := by
      simp only [Try.underlying53, Cell.okWide, Cell.ok] at hval
      exact hval.2.2
    obtain ⟨hspot, hblk⟩ := place_of hh
    obtain ⟨b, off, spot⟩ := y
    simp only at hspot hblk
    subst hspot
    have hlen : (ss.take len).length = len := by simp; omega
    refine ⟨ss.take len, ⟨by rw [ints_length]; omega, .inr ⟨b, off, cap, by rw [hlen], hblk, by omega, hm, fun j u hj => ?_⟩⟩, fun s hs => hsz s (List.mem_of_mem_take hs)⟩
    have hj' : j < len := by
      have := (List.getElem?_eq_some_iff.1 hj).1
      rw [ints_length] at this; omega
    have hc := hcell j (by omega)
    rw [addr_add] at hc
    rw [hc]
    rw [ints_at _ j (by omega)] at hj
    rw [← hj]
    simp [List.getD_eq_getElem?_getD, show j < ss.length by omega]
end
end Go.Proofs.Ytbgnedeeeaapfaa
