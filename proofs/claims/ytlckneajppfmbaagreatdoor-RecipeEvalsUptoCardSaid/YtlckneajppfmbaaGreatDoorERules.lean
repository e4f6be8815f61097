/-
  What a rule takes out of a term; what is free; of what a term is made.
-/
import Derived.Test.YtlckneajppfmbaaGreatDoorEMem
namespace Go.Proofs.YtlckneajppfmbaaGreatDoor
open Go.RowKit Go.Maps
set_option linter.unusedVariables false

theorem bA0 (w : World) (o : Obj) : Below w.heap.size w (w.alloc o) := (Below.refl _ _).alloc (Nat.le_refl _) _
theorem ebF {x y : Int} (h : ¬ x = y) : (x == y) = false := by simpa using h

set_option maxRecDepth 100000 in
set_option maxHeartbeats 1600000 in
theorem taken_any (r : Int) (n : Nd) (w : World) : Calls Tryz.prog 54 #[.int .i64 r, .agg (nodeA n)] w fun e w' => e = .returned (.int .i64 (takeN r n)) ∧ Below w.heap.size w w' := by
  unfold takeN showB
  obtain ⟨kk, ff, tt, uu, ss, xa, xb⟩ := n
  simp only [nodeA] at *
  have bA : Below w.heap.size w (w.alloc (.cells #[.int .i64 kk, .int .i64 ff, .int .i64 tt, .int .u64 uu, .string ss, .int .i64 xa, .int .i64 xb] NodeT)) := bA0 _ _
  have hb : (w.alloc (.cells #[.int .i64 kk, .int .i64 ff, .int .i64 tt, .int .u64 uu, .string ss, .int .i64 xa, .int .i64 xb] NodeT)).heap[w.heap.size]? = some (Obj.cells #[.int .i64 kk, .int .i64 ff, .int .i64 tt, .int .u64 uu, .string ss, .int .i64 xa, .int .i64 xb] NodeT) := heap_alloc_new _ _
  have HA := Lib.hid bA
  have y0 := cellB (j := 0) hb rfl
  have y1 := cellB (j := 1) hb rfl
  have y2 := cellB (j := 2) hb rfl
  have y5 := cellB (j := 5) hb rfl
  have y6 := cellB (j := 6) hb rfl
  clear bA hb
  by_cases h4 : kk = 4
  · subst h4
    rw [if_pos rfl]
    by_cases h1 : r = 1
    · subst h1
      rw [if_pos rfl]
      go_enter Tryz.func54, Tryz.ntmps54
      go_wp2_with fail
      go_returns
      exact ⟨rfl, HA.out⟩
    · rw [if_neg h1]
      have h1' := ebF h1
      by_cases h2 : r = 2
      · subst h2
        rw [if_pos rfl]
        go_enter Tryz.func54, Tryz.ntmps54
        go_wp2_with fail
        go_returns
        exact ⟨rfl, HA.out⟩
      · rw [if_neg h2]
        have h2' := ebF h2
        go_enter Tryz.func54, Tryz.ntmps54
        go_wp2_with fail
        go_returns
        exact ⟨rfl, HA.out⟩
  · rw [if_neg h4]
    have h4' := ebF h4
    by_cases h7 : kk = 7 ∨ kk = 8 ∨ kk = 9
    · rw [if_pos (by simpa [or_assoc] using h7)]
      by_cases h3 : r = 3
      · subst h3
        rw [if_pos rfl]
        rcases h7 with rfl | rfl | rfl
        · go_enter Tryz.func54, Tryz.ntmps54
          go_wp2_with fail
          go_returns
          exact ⟨rfl, HA.out⟩
        · go_enter Tryz.func54, Tryz.ntmps54
          go_wp2_with fail
          go_returns
          exact ⟨rfl, HA.out⟩
        · go_enter Tryz.func54, Tryz.ntmps54
          go_wp2_with fail
          go_returns
          exact ⟨rfl, HA.out⟩
      · rw [if_neg h3]
        have h3' := ebF h3
        rcases h7 with rfl | rfl | rfl
        · go_enter Tryz.func54, Tryz.ntmps54
          go_wp2_with fail
          go_returns
          exact ⟨rfl, HA.out⟩
        · go_enter Tryz.func54, Tryz.ntmps54
          go_wp2_with fail
          go_returns
          exact ⟨rfl, HA.out⟩
        · go_enter Tryz.func54, Tryz.ntmps54
          go_wp2_with fail
          go_returns
          exact ⟨rfl, HA.out⟩
    · rw [if_neg (by simpa [or_assoc] using h7)]
      have h7' := ebF (show ¬ kk = 7 from fun e => h7 (.inl e))
      have h8' := ebF (show ¬ kk = 8 from fun e => h7 (.inr (.inl e)))
      have h9' := ebF (show ¬ kk = 9 from fun e => h7 (.inr (.inr e)))
      go_enter Tryz.func54, Tryz.ntmps54
      go_wp2_with fail
      go_returns
      exact ⟨rfl, HA.out⟩

end Go.Proofs.YtlckneajppfmbaaGreatDoor
