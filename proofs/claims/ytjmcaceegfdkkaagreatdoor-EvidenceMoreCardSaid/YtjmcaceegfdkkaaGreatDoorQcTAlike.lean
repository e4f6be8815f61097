/-
  Read in memory, whatever the term.
  The law's alike: two pools that are the same plain one.
-/
import Derived.Test.YtjmcaceegfdkkaaGreatDoorQcLRdB
import Derived.Test.YtjmcaceegfdkkaaGreatDoorQcTRefP
namespace Go.Proofs.YtjmcaceegfdkkaaGreatDoor
open Go.RowKit Go.Maps
set_option linter.unusedVariables false
section
variable {w : World} {pv : Value} {p : Pl}
theorem read_any (h : Nodes w pv p) (hok : Ok p) (hl : LaidK w) (t : Int) : Calls Tryz.prog 37 #[pv, .int .i64 t] w fun e w' => e = .returned (ltV (rdP p t)) ∧ Below w.heap.size w w' := by
 by_cases h8 : (atP p t).1.kind = 8 ∨ (atP p t).1.kind = 9
 ·exact read_prom h hok hl t h8
 by_cases h7 : (atP p t).1.kind = 7 ∨ (atP p t).1.kind = 4
 ·by_cases d2 : ahP p (inrP p t) = dealS
  ·exact read_2 h hok hl t h7 d2
  by_cases d3 : ahP p (inrP p t) = abortS
  ·exact read_3 h hok hl t h7 d3
  by_cases d4 : ahP p (inrP p t) = resolveS
  ·exact read_4 h hok hl t h7 d4
  by_cases d5 : ahP p (inrP p t) = abortedS
  ·exact read_5 h hok hl t h7 d5
  by_cases d6 : ahP p (inrP p t) = insteadS
  ·exact read_6 h hok hl t h7 d6
  by_cases d7 : ahP p (inrP p t) = fullS
  ·exact read_7 h hok hl t h7 d7
  exact read_0 h hok hl t h7 d2 d3 d4 d5 d6 d7
 ·exact read_none h hok hl t h8 h7
end
end Go.Proofs.YtjmcaceegfdkkaaGreatDoor
namespace Go.Proofs.YtjmcaceegfdkkaaGreatDoor
open Go.RowKit Go.Maps
set_option linter.unusedVariables false
theorem nok_zero : NdOk zeroM.1 := by
 have z : i64R 0 := i64R_lit (by omega)
 exact ⟨z, z, z, ⟨by decide, by decide⟩, emptyS_le, z, z⟩
theorem atP_nok {p : Pl} (h : ∀ m ∈ p, NdOk m.1) (t : Int) : NdOk (atP p t).1 := by
 unfold atP
 split
 ·by_cases hl : t.toNat - 1 < p.length
  ·rw [show p.getD (t.toNat - 1) zeroM = p[t.toNat - 1] by simp [List.getD_eq_getElem?_getD, hl]]; exact h _ (List.getElem_mem hl)
  ·rw [show p.getD (t.toNat - 1) zeroM = zeroM by simp [List.getD_eq_getElem?_getD, List.getElem?_eq_none (Nat.le_of_not_lt hl)]]; exact nok_zero
 ·exact nok_zero
theorem rnew (w : World) (B : Nat) (hB : B ≤ w.heap.size) : Calls Tryz.prog 63 #[] w fun e w' => e = .returned (.pointer (some ⟨w.heap.size, 0, none⟩)) ∧ IsRef w' B w.heap.size (.slice none 0 0) (.slice none 0 0) (.slice none 0 0) [] ∧ Below w.heap.size w w' := by
 go_enter Tryz.func63, Tryz.ntmps63
 go_wp2_with fail
 go_returns
 exact ⟨rfl, ⟨heap_alloc_new _ _, hB, World.ownsRow_nil _ _ _ 7, World.ownsRow_nil _ _ _ 1, World.ownsRow_nil _ _ _ 1, fun g e => by first | cases e | exact absurd e (by simp [Value.ownBlock]), Ok.nil, fun m hm => by cases hm⟩, (Below.refl _ _).alloc (Nat.le_refl _) _⟩
section
variable {w : World} {B a b : Nat} {v : Value} {p : Pl} {B2 a2 : Nat} {vl vs vd : Value}
end
end Go.Proofs.YtjmcaceegfdkkaaGreatDoor
