/-
  Read in memory, whatever the term.
  A nil pool.
  No pool: it answers the zero node, as the empty pool does.
-/
import Derived.Test.YtjmcaceegfdkkaaGreatDoorQaLRdB
import Derived.Test.YtjmcaceegfdkkaaGreatDoorQaLKind
import Derived.Test.YtjmcaceegfdkkaaGreatDoorQaLRead
namespace Go.Proofs.YtjmcaceegfdkkaaGreatDoor
open Go.RowKit Go.Maps
set_option linter.unusedVariables false
section
variable {w : World} {pv : Value} {p : Pl}
theorem read_any (h : Nodes w pv p) (hok : Ok p) (hl : LaidK w) (t : Int) : Calls Tryz.prog 37 #[pv, .int .i64 t] w fun e w' => e = .returned (ltV (rdP p t)) ∧ Below w.heap.size w w' := by
  by_cases h8 : (atP p t).1.kind = 8 ∨ (atP p t).1.kind = 9
  · exact read_prom h hok hl t h8
  by_cases h7 : (atP p t).1.kind = 7 ∨ (atP p t).1.kind = 4
  · by_cases d2 : ahP p (inrP p t) = dealS
    · exact read_2 h hok hl t h7 d2
    by_cases d3 : ahP p (inrP p t) = abortS
    · exact read_3 h hok hl t h7 d3
    by_cases d4 : ahP p (inrP p t) = resolveS
    · exact read_4 h hok hl t h7 d4
    by_cases d5 : ahP p (inrP p t) = abortedS
    · exact read_5 h hok hl t h7 d5
    by_cases d6 : ahP p (inrP p t) = insteadS
    · exact read_6 h hok hl t h7 d6
    by_cases d7 : ahP p (inrP p t) = fullS
    · exact read_7 h hok hl t h7 d7
    exact read_0 h hok hl t h7 d2 d3 d4 d5 d6 d7
  · exact read_none h hok hl t h8 h7
end
end Go.Proofs.YtjmcaceegfdkkaaGreatDoor
namespace Go.Proofs.YtjmcaceegfdkkaaGreatDoor
open Go.RowKit Go.Maps
set_option linter.unusedVariables false
theorem nlen (w : World) : Calls Tryz.prog 22 #[.pointer none] w fun e w' => e = .returned (.int .i64 0) ∧ w = w' := by
  go_enter Tryz.func22, Tryz.ntmps22
  go_wp2_with fail
  go_returns
  exact ⟨rfl, rfl⟩
set_option maxHeartbeats 800000 in
theorem nholds (t : Int) (w : World) : Calls Tryz.prog 134 #[.pointer none, .int .i64 t] w fun e w' => e = .returned (.bool false) ∧ w = w' := by
  by_cases h1 : 1 ≤ t
  · have h2 : decide (t ≤ 0) = false := decide_eq_false (by omega)
    go_enter Tryz.func134, Tryz.ntmps134
    go_wp2_with fail
    refine (nlen _).mono ?_
    rintro e w1 ⟨rfl, rfl⟩
    go_wp2_with fail
    go_returns
    exact ⟨rfl, rfl⟩
  · have h1' : decide (1 ≤ t) = false := decide_eq_false h1
    go_enter Tryz.func134, Tryz.ntmps134
    go_wp2_with fail
    go_returns
    exact ⟨rfl, rfl⟩
set_option maxHeartbeats 800000 in
theorem nlook (t : Int) (w : World) : Calls Tryz.prog 133 #[.pointer none, .int .i64 t] w fun e w' => e = .returned (.agg #[.int .i64 0, .int .i64 0, .int .i64 0, .int .u64 0, .string ⟨#[]⟩, .int .i64 0, .int .i64 0, .int .i64 0, .int .i64 0]) ∧ Below w.heap.size w w' := by
  go_enter Tryz.func133, Tryz.ntmps133
  go_wp2_with fail
  refine (nholds t _).mono ?_
  rintro e w1 ⟨rfl, rfl⟩
  go_wp2_with fail
  refine bodyPost_ret (v := .agg #[.int .i64 0, .int .i64 0, .int .i64 0, .int .u64 0, .string ⟨#[]⟩, .int .i64 0, .int .i64 0, .int .i64 0, .int .i64 0]) (by simp [results, Tryz.results133, go_sem]) rfl ⟨rfl, ?_⟩
  exact (Below.refl _ _).alloc (Nat.le_refl _) _
set_option maxRecDepth 100000 in
set_option maxHeartbeats 3200000 in
theorem nnode (t : Int) (w : World) : Calls Tryz.prog 87 #[.pointer none, .int .i64 t] w fun e w' => e = .returned (.tuple #[.agg #[.int .i64 0, .int .i64 0, .int .i64 0, .int .u64 0, .string ⟨#[]⟩, .int .i64 0, .int .i64 0], .bool false]) ∧ Below w.heap.size w w' := by
  have bA : Below w.heap.size w (w.alloc (.cells #[.int .i64 0, .int .i64 0, .int .i64 0, .int .u64 0, .string ⟨#[]⟩, .int .i64 0, .int .i64 0] NodeT)) := (Below.refl _ _).alloc (Nat.le_refl _) _
  have hb : (w.alloc (.cells #[.int .i64 0, .int .i64 0, .int .i64 0, .int .u64 0, .string ⟨#[]⟩, .int .i64 0, .int .i64 0] NodeT)).heap[w.heap.size]? = some (Obj.cells #[.int .i64 0, .int .i64 0, .int .i64 0, .int .u64 0, .string ⟨#[]⟩, .int .i64 0, .int .i64 0] NodeT) := heap_alloc_new _ _
  have HB := Lib.hid hb
  have HA := Lib.hid bA
  clear bA hb
  have hfd := field_node
  go_enter Tryz.func87, Tryz.ntmps87
  go_wp2_with fail
  generalize (w.alloc (.cells #[.int .i64 0, .int .i64 0, .int .i64 0, .int .u64 0, .string ⟨#[]⟩, .int .i64 0, .int .i64 0] NodeT)) = W at *
  refine (nlook t _).mono ?_
  rintro e w1 ⟨rfl, u1⟩
  have hb1 := Hold.below u1 _ _ HB.out
  have HA1 := Lib.hid (HA.out.trans (u1.mono HA.out.size))
  have x0 := frozenB (j := 0) hb1
  have y0 := cellB (j := 0) hb1 rfl
  have x1 := frozenB (j := 1) hb1
  have y1 := cellB (j := 1) hb1 rfl
  have x2 := frozenB (j := 2) hb1
  have y2 := cellB (j := 2) hb1 rfl
  have x3 := frozenB (j := 3) hb1
  have y3 := cellB (j := 3) hb1 rfl
  have x4 := frozenB (j := 4) hb1
  have y4 := cellB (j := 4) hb1 rfl
  have x5 := frozenB (j := 5) hb1
  have y5 := cellB (j := 5) hb1 rfl
  have x6 := frozenB (j := 6) hb1
  have y6 := cellB (j := 6) hb1 rfl
  clear u1
  go_wp2_with fail
  refine (nholds t _).mono ?_
  rintro e w2 ⟨rfl, rfl⟩
  go_wp2_with fail
  have hb7 : (((((((w1.setCell ⟨w.heap.size, 0, none⟩ (.int .i64 0)).setCell ⟨w.heap.size, 1, none⟩ (.int .i64 0)).setCell ⟨w.heap.size, 2, none⟩ (.int .i64 0)).setCell ⟨w.heap.size, 3, none⟩ (.int .u64 0)).setCell ⟨w.heap.size, 4, none⟩ (.string ⟨#[]⟩)).setCell ⟨w.heap.size, 5, none⟩ (.int .i64 0)).setCell ⟨w.heap.size, 6, none⟩ (.int .i64 0)).heap[w.heap.size]? = some (Obj.cells #[.int .i64 0, .int .i64 0, .int .i64 0, .int .u64 0, .string ⟨#[]⟩, .int .i64 0, .int .i64 0] NodeT) := (setCellB (j := 6) (u := .int .i64 0) (setCellB (j := 5) (u := .int .i64 0) (setCellB (j := 4) (u := .string ⟨#[]⟩) (setCellB (j := 3) (u := .int .u64 0) (setCellB (j := 2) (u := .int .i64 0) (setCellB (j := 1) (u := .int .i64 0) (setCellB (j := 0) (u := .int .i64 0) hb1)))))))
  have hbl : Below w.heap.size w (((((((w1.setCell ⟨w.heap.size, 0, none⟩ (.int .i64 0)).setCell ⟨w.heap.size, 1, none⟩ (.int .i64 0)).setCell ⟨w.heap.size, 2, none⟩ (.int .i64 0)).setCell ⟨w.heap.size, 3, none⟩ (.int .u64 0)).setCell ⟨w.heap.size, 4, none⟩ (.string ⟨#[]⟩)).setCell ⟨w.heap.size, 5, none⟩ (.int .i64 0)).setCell ⟨w.heap.size, 6, none⟩ (.int .i64 0)) := (((((((HA1.out.setCell (p := ⟨w.heap.size, 0, none⟩) (Nat.le_refl _) _).setCell (p := ⟨w.heap.size, 1, none⟩) (Nat.le_refl _) _).setCell (p := ⟨w.heap.size, 2, none⟩) (Nat.le_refl _) _).setCell (p := ⟨w.heap.size, 3, none⟩) (Nat.le_refl _) _).setCell (p := ⟨w.heap.size, 4, none⟩) (Nat.le_refl _) _).setCell (p := ⟨w.heap.size, 5, none⟩) (Nat.le_refl _) _).setCell (p := ⟨w.heap.size, 6, none⟩) (Nat.le_refl _) _)
  generalize (((((((w1.setCell ⟨w.heap.size, 0, none⟩ (.int .i64 0)).setCell ⟨w.heap.size, 1, none⟩ (.int .i64 0)).setCell ⟨w.heap.size, 2, none⟩ (.int .i64 0)).setCell ⟨w.heap.size, 3, none⟩ (.int .u64 0)).setCell ⟨w.heap.size, 4, none⟩ (.string ⟨#[]⟩)).setCell ⟨w.heap.size, 5, none⟩ (.int .i64 0)).setCell ⟨w.heap.size, 6, none⟩ (.int .i64 0)) = W7 at *
  have c0 : W7.cell? ⟨w.heap.size, 0, none⟩ = some (.int .i64 0) := cellB hb7 rfl
  have c1 : W7.cell? ⟨w.heap.size, 1, none⟩ = some (.int .i64 0) := cellB hb7 rfl
  have c2 : W7.cell? ⟨w.heap.size, 2, none⟩ = some (.int .i64 0) := cellB hb7 rfl
  have c3 : W7.cell? ⟨w.heap.size, 3, none⟩ = some (.int .u64 0) := cellB hb7 rfl
  have c4 : W7.cell? ⟨w.heap.size, 4, none⟩ = some (.string ⟨#[]⟩) := cellB hb7 rfl
  have c5 : W7.cell? ⟨w.heap.size, 5, none⟩ = some (.int .i64 0) := cellB hb7 rfl
  have c6 : W7.cell? ⟨w.heap.size, 6, none⟩ = some (.int .i64 0) := cellB hb7 rfl
  refine bodyPost_ret (v := .tuple #[.agg #[.int .i64 0, .int .i64 0, .int .i64 0, .int .u64 0, .string ⟨#[]⟩, .int .i64 0, .int .i64 0], .bool false]) (by simp [results, Tryz.results87, go_sem, c0, c1, c2, c3, c4, c5, c6]) rfl ⟨rfl, hbl⟩
end Go.Proofs.YtjmcaceegfdkkaaGreatDoor
namespace Go.Proofs.YtjmcaceegfdkkaaGreatDoor
open Go.RowKit Go.Maps
set_option linter.unusedVariables false
theorem at_nil (t : Int) : (atP [] t).1 = zeroN := by rw [atP_out]; rfl; simp [inP]; omega
theorem nodes_nil (w : World) : Nodes w (.pointer none) [] := fun W _ t => (nnode t W).mono fun e w' ⟨h1, h2⟩ => ⟨false, by rw [h1, at_nil]; rfl, h2⟩
end Go.Proofs.YtjmcaceegfdkkaaGreatDoor
