/-
  The law's alike: two pools that are the same plain one.
-/
import Derived.Test.YtjpkeoenajlmeaaDoorTLive
import Derived.Test.YtjpkeoenajlmeaaDoorTRefP
namespace Go.Proofs.YtjpkeoenajlmeaaDoor
open Go.RowKit Go.Maps
set_option linter.unusedVariables false

theorem nok_zero : NdOk zeroM.1 := by
  have z : i64R 0 := i64R_lit (by omega)
  exact ⟨z, z, z, ⟨by decide, by decide⟩, emptyS_le, z, z⟩
theorem atP_nok {p : Pl} (h : ∀ m ∈ p, NdOk m.1) (t : Int) : NdOk (atP p t).1 := by
  unfold atP
  split
  · by_cases hl : t.toNat - 1 < p.length
    · rw [show p.getD (t.toNat - 1) zeroM = p[t.toNat - 1] by simp [List.getD_eq_getElem?_getD, hl]]; exact h _ (List.getElem_mem hl)
    · rw [show p.getD (t.toNat - 1) zeroM = zeroM by simp [List.getD_eq_getElem?_getD, List.getElem?_eq_none (Nat.le_of_not_lt hl)]]; exact nok_zero
  · exact nok_zero

theorem rnew (w : World) (B : Nat) (hB : B ≤ w.heap.size) : Calls Tryd.prog 8 #[] w fun e w' => e = .returned (.pointer (some ⟨w.heap.size, 0, none⟩)) ∧ IsRef w' B w.heap.size (.slice none 0 0) (.slice none 0 0) (.slice none 0 0) [] ∧ Below w.heap.size w w' := by
  go_enter Tryd.func8, Tryd.ntmps8
  go_wp2_with fail
  go_returns
  exact ⟨rfl, ⟨heap_alloc_new _ _, hB, World.ownsRow_nil _ _ _ 7, World.ownsRow_nil _ _ _ 1, World.ownsRow_nil _ _ _ 1, fun g e => by first | cases e | exact absurd e (by simp [Value.ownBlock]), Ok.nil, fun m hm => by cases hm⟩, (Below.refl _ _).alloc (Nat.le_refl _) _⟩

section
variable {w : World} {B a b : Nat} {v : Value} {p : Pl} {B2 a2 : Nat} {vl vs vd : Value}
end
end Go.Proofs.YtjpkeoenajlmeaaDoor
