/-
  A set of terms in memory: those that were told, and those that are under way.
-/
import Derived.Test.YtlckneajppfmbaaGreatDoorTSubP
import Derived.Test.YtlckneajppfmbaaGreatDoorTPool
import Derived.Maps.OwnSet
namespace Go.Proofs.YtlckneajppfmbaaGreatDoor
open Go.RowKit Go.Maps
set_option linter.unusedVariables false

theorem lawT : Keyed Tryz.prog TermT := int_keyed Tryz.underlying30
theorem wfT {x : Int} (h : i64R x) : (Lit.int .i64 x).wf = true := wf_i64 h
theorem keyT {x : Int} (h : i64R x) : keyOf Tryz.prog TermT (.int .i64 x) = some (.int .i64 x) := keyOf_int_mk Tryz.underlying30 (wfT h)
theorem in_i64 {p : Pl} (hl : p.length ≤ 65536) {t : Int} (h : t = 0 ∨ inP p t = true) : i64R t := by
  unfold i64R
  rcases h with rfl | h
  · omega
  · unfold inP at h; simp at h; omega
end Go.Proofs.YtlckneajppfmbaaGreatDoor
