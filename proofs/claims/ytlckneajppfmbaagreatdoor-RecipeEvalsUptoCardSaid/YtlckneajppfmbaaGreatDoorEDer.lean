/-
  Sees, Given, Derives.
  Derives answers what is derived.
  What is derived: a key; what a key signs; what shows; plain.
-/
import Derived.Test.YtlckneajppfmbaaGreatDoorERules
namespace Go.Proofs.YtlckneajppfmbaaGreatDoor
open Go.RowKit Go.Maps
set_option linter.unusedVariables false

section
variable {w : World} {B a b : Nat} {v : Value} {p : Pl} {B2 k : Nat} {gv : Value} {mb : Nat} {g : List Int} {s : Int → Option Way}
set_option maxRecDepth 100000 in
set_option maxHeartbeats 1600000 in
theorem sees_raw (c2 : w.cell? ⟨k, 2, none⟩ = some (.map (some mb))) (hs : SeenM w mb p g s) {t : Int} (ht : i64R t) : Calls Tryz.prog 55 #[.pointer (some ⟨k, 0, none⟩), .int .i64 t] w fun e w' => e = .returned (.bool (s t).isSome) ∧ Below w.heap.size w w' := by
  have hr := hs.look ht
  clear hs ht
  generalize (s t).isSome = sb at *
  generalize (s t).getD (0, 0) = sz at *
  obtain ⟨z1, z2⟩ := sz
  simp only [wayV] at hr
  go_enter Tryz.func55, Tryz.ntmps55
  go_wp2_with fail
  go_returns
  exact ⟨rfl, bA0 _ _⟩
theorem sees_any (h : IsKnow w B2 k gv mb a p g s) {t : Int} (ht : i64R t) : Calls Tryz.prog 55 #[.pointer (some ⟨k, 0, none⟩), .int .i64 t] w fun e w' => e = .returned (.bool (s t).isSome) ∧ Below w.heap.size w w' :=
  sees_raw (cellB h.lay rfl) h.seen ht

end
end Go.Proofs.YtlckneajppfmbaaGreatDoor
