/-
  A nil pool.
-/
import Derived.Test.YteflbecdeinflaaDoorTLive
namespace Go.Proofs.YteflbecdeinflaaDoor
open Go.RowKit Go.Maps
set_option linter.unusedVariables false

abbrev TreeT : TypeId := 50
theorem nlen (w : World) : Calls Tryd.prog 19 #[.pointer none] w fun e w' => e = .returned (.int .i64 0) ∧ w = w' := by
  go_enter Tryd.func19, Tryd.ntmps19
  go_wp2_with fail
  go_returns
  exact ⟨rfl, rfl⟩
set_option maxHeartbeats 800000 in
theorem nholds (t : Int) (w : World) : Calls Tryd.prog 62 #[.pointer none, .int .i64 t] w fun e w' => e = .returned (.bool false) ∧ w = w' := by
  by_cases h1 : 1 ≤ t
  · have h2 : decide (t ≤ 0) = false := decide_eq_false (by omega)
    go_enter Tryd.func62, Tryd.ntmps62
    go_wp2_with fail
    refine (nlen _).mono ?_
    rintro e w1 ⟨rfl, rfl⟩
    go_wp2_with fail
    go_returns
    exact ⟨rfl, rfl⟩
  · have h1' : decide (1 ≤ t) = false := decide_eq_false h1
    go_enter Tryd.func62, Tryd.ntmps62
    go_wp2_with fail
    go_returns
    exact ⟨rfl, rfl⟩
set_option maxHeartbeats 800000 in
theorem nlook (t : Int) (w : World) : Calls Tryd.prog 53 #[.pointer none, .int .i64 t] w fun e w' => e = .returned (.agg #[.int .i64 0, .int .i64 0, .int .i64 0, .int .u64 0, .string ⟨#[]⟩, .int .i64 0, .int .i64 0, .int .i64 0, .int .i64 0]) ∧ Below w.heap.size w w' := by
  go_enter Tryd.func53, Tryd.ntmps53
  go_wp2_with fail
  refine (nholds t _).mono ?_
  rintro e w1 ⟨rfl, rfl⟩
  go_wp2_with fail
  refine bodyPost_ret (v := .agg #[.int .i64 0, .int .i64 0, .int .i64 0, .int .u64 0, .string ⟨#[]⟩, .int .i64 0, .int .i64 0, .int .i64 0, .int .i64 0]) (by simp [results, Tryd.results53, go_sem]) rfl ⟨rfl, ?_⟩
  exact (Below.refl _ _).alloc (Nat.le_refl _) _
set_option maxHeartbeats 800000 in
theorem nsize (t : Int) (w : World) : Calls Tryd.prog 21 #[.pointer none, .int .i64 t] w fun e w' => e = .returned (.int .i64 0) ∧ Below w.heap.size w w' := by
  have hfd := field_size
  go_enter Tryd.func21, Tryd.ntmps21
  go_wp2_with fail
  refine (nlook t _).mono ?_
  rintro e w1 ⟨rfl, u1⟩
  have HU := Lib.hid u1
  clear u1
  go_wp2_with fail
  go_returns
  exact ⟨rfl, HU.out⟩
set_option maxHeartbeats 800000 in
theorem ndepth (t : Int) (w : World) : Calls Tryd.prog 22 #[.pointer none, .int .i64 t] w fun e w' => e = .returned (.int .i64 0) ∧ Below w.heap.size w w' := by
  have hfd := field_depth
  go_enter Tryd.func22, Tryd.ntmps22
  go_wp2_with fail
  refine (nlook t _).mono ?_
  rintro e w1 ⟨rfl, u1⟩
  have HU := Lib.hid u1
  clear u1
  go_wp2_with fail
  go_returns
  exact ⟨rfl, HU.out⟩
set_option maxRecDepth 100000 in
set_option maxHeartbeats 3200000 in
theorem nnode (t : Int) (w : World) : Calls Tryd.prog 30 #[.pointer none, .int .i64 t] w fun e w' => e = .returned (.tuple #[.agg #[.int .i64 0, .int .i64 0, .int .i64 0, .int .u64 0, .string ⟨#[]⟩, .int .i64 0, .int .i64 0], .bool false]) ∧ Below w.heap.size w w' := by
  have bA : Below w.heap.size w (w.alloc (.cells #[.int .i64 0, .int .i64 0, .int .i64 0, .int .u64 0, .string ⟨#[]⟩, .int .i64 0, .int .i64 0] NodeT)) := (Below.refl _ _).alloc (Nat.le_refl _) _
  have hb : (w.alloc (.cells #[.int .i64 0, .int .i64 0, .int .i64 0, .int .u64 0, .string ⟨#[]⟩, .int .i64 0, .int .i64 0] NodeT)).heap[w.heap.size]? = some (Obj.cells #[.int .i64 0, .int .i64 0, .int .i64 0, .int .u64 0, .string ⟨#[]⟩, .int .i64 0, .int .i64 0] NodeT) := heap_alloc_new _ _
  have HB := Lib.hid hb
  have HA := Lib.hid bA
  clear bA hb
  have hfd := field_node
  go_enter Tryd.func30, Tryd.ntmps30
  go_wp2_with fail
  generalize (w.alloc (.cells #[.int .i64 0, .int .i64 0, .int .i64 0, .int .u64 0, .string ⟨#[]⟩, .int .i64 0, .int .i64 0] NodeT)) = W at *
  refine (nlook t _).mono ?_
  rintro e w1 ⟨rfl, u1⟩
  have hb1 := Hold.below u1 _ _ HB.out
  have HA1 := Lib.hid (HA.out.trans (u1.mono HA.out.size))
  have x0 := frozenB (j := 0) hb1
  have y0 := cellB (j := 0) hb1 rfl
  have x1 := frozenB (j := 1) hb1
  have y1 := cellB (j := 1) hb1 rfl
  have x2 := frozenB (j := 2) hb1
  have y2 := cellB (j := 2) hb1 rfl
  have x3 := frozenB (j := 3) hb1
  have y3 := cellB (j := 3) hb1 rfl
  have x4 := frozenB (j := 4) hb1
  have y4 := cellB (j := 4) hb1 rfl
  have x5 := frozenB (j := 5) hb1
  have y5 := cellB (j := 5) hb1 rfl
  have x6 := frozenB (j := 6) hb1
  have y6 := cellB (j := 6) hb1 rfl
  clear u1
  go_wp2_with fail
  refine (nholds t _).mono ?_
  rintro e w2 ⟨rfl, rfl⟩
  go_wp2_with fail
  have hb7 : (((((((w1.setCell ⟨w.heap.size, 0, none⟩ (.int .i64 0)).setCell ⟨w.heap.size, 1, none⟩ (.int .i64 0)).setCell ⟨w.heap.size, 2, none⟩ (.int .i64 0)).setCell ⟨w.heap.size, 3, none⟩ (.int .u64 0)).setCell ⟨w.heap.size, 4, none⟩ (.string ⟨#[]⟩)).setCell ⟨w.heap.size, 5, none⟩ (.int .i64 0)).setCell ⟨w.heap.size, 6, none⟩ (.int .i64 0)).heap[w.heap.size]? = some (Obj.cells #[.int .i64 0, .int .i64 0, .int .i64 0, .int .u64 0, .string ⟨#[]⟩, .int .i64 0, .int .i64 0] NodeT) := (setCellB (j := 6) (u := .int .i64 0) (setCellB (j := 5) (u := .int .i64 0) (setCellB (j := 4) (u := .string ⟨#[]⟩) (setCellB (j := 3) (u := .int .u64 0) (setCellB (j := 2) (u := .int .i64 0) (setCellB (j := 1) (u := .int .i64 0) (setCellB (j := 0) (u := .int .i64 0) hb1)))))))
  have hbl : Below w.heap.size w (((((((w1.setCell ⟨w.heap.size, 0, none⟩ (.int .i64 0)).setCell ⟨w.heap.size, 1, none⟩ (.int .i64 0)).setCell ⟨w.heap.size, 2, none⟩ (.int .i64 0)).setCell ⟨w.heap.size, 3, none⟩ (.int .u64 0)).setCell ⟨w.heap.size, 4, none⟩ (.string ⟨#[]⟩)).setCell ⟨w.heap.size, 5, none⟩ (.int .i64 0)).setCell ⟨w.heap.size, 6, none⟩ (.int .i64 0)) := (((((((HA1.out.setCell (p := ⟨w.heap.size, 0, none⟩) (Nat.le_refl _) _).setCell (p := ⟨w.heap.size, 1, none⟩) (Nat.le_refl _) _).setCell (p := ⟨w.heap.size, 2, none⟩) (Nat.le_refl _) _).setCell (p := ⟨w.heap.size, 3, none⟩) (Nat.le_refl _) _).setCell (p := ⟨w.heap.size, 4, none⟩) (Nat.le_refl _) _).setCell (p := ⟨w.heap.size, 5, none⟩) (Nat.le_refl _) _).setCell (p := ⟨w.heap.size, 6, none⟩) (Nat.le_refl _) _)
  generalize (((((((w1.setCell ⟨w.heap.size, 0, none⟩ (.int .i64 0)).setCell ⟨w.heap.size, 1, none⟩ (.int .i64 0)).setCell ⟨w.heap.size, 2, none⟩ (.int .i64 0)).setCell ⟨w.heap.size, 3, none⟩ (.int .u64 0)).setCell ⟨w.heap.size, 4, none⟩ (.string ⟨#[]⟩)).setCell ⟨w.heap.size, 5, none⟩ (.int .i64 0)).setCell ⟨w.heap.size, 6, none⟩ (.int .i64 0)) = W7 at *
  have c0 : W7.cell? ⟨w.heap.size, 0, none⟩ = some (.int .i64 0) := cellB hb7 rfl
  have c1 : W7.cell? ⟨w.heap.size, 1, none⟩ = some (.int .i64 0) := cellB hb7 rfl
  have c2 : W7.cell? ⟨w.heap.size, 2, none⟩ = some (.int .i64 0) := cellB hb7 rfl
  have c3 : W7.cell? ⟨w.heap.size, 3, none⟩ = some (.int .u64 0) := cellB hb7 rfl
  have c4 : W7.cell? ⟨w.heap.size, 4, none⟩ = some (.string ⟨#[]⟩) := cellB hb7 rfl
  have c5 : W7.cell? ⟨w.heap.size, 5, none⟩ = some (.int .i64 0) := cellB hb7 rfl
  have c6 : W7.cell? ⟨w.heap.size, 6, none⟩ = some (.int .i64 0) := cellB hb7 rfl
  refine bodyPost_ret (v := .tuple #[.agg #[.int .i64 0, .int .i64 0, .int .i64 0, .int .u64 0, .string ⟨#[]⟩, .int .i64 0, .int .i64 0], .bool false]) (by simp [results, Tryd.results30, go_sem, c0, c1, c2, c3, c4, c5, c6]) rfl ⟨rfl, hbl⟩
set_option maxHeartbeats 800000 in
theorem nmake (n : Nd) (w : World) : Calls Tryd.prog 39 #[.pointer none, .agg (nodeA n)] w fun e w' => e = .returned (.tuple #[.int .i64 0, .int .i64 0]) ∧ Below w.heap.size w w' := by
  go_enter Tryd.func39, Tryd.ntmps39
  go_wp2_with fail
  go_returns
  exact ⟨rfl, (Below.refl _ _).alloc (Nat.le_refl _) _⟩
set_option maxHeartbeats 800000 in
theorem nhas (n : Nd) (w : World) : Calls Tryd.prog 14 #[.pointer none, .agg (nodeA n)] w fun e w' => e = .returned (.tuple #[.int .i64 0, .bool false]) ∧ Below w.heap.size w w' := by
  go_enter Tryd.func14, Tryd.ntmps14
  go_wp2_with fail
  go_returns
  exact ⟨rfl, (Below.refl _ _).alloc (Nat.le_refl _) _⟩
set_option maxHeartbeats 800000 in
theorem nof (cs : Array Value) (w : World) : Calls Tryd.prog 25 #[.pointer none, .agg cs] w fun e w' => e = .returned (.tuple #[.int .i64 0, .int .i64 0]) ∧ Below w.heap.size w w' := by
  go_enter Tryd.func25, Tryd.ntmps25
  go_wp2_with fail
  go_returns
  exact ⟨rfl, (Below.refl _ _).alloc (Nat.le_refl _) _⟩
set_option maxHeartbeats 800000 in
theorem nname (n : Int) (w : World) : Calls Tryd.prog 40 #[.pointer none, .int .i64 n] w fun e w' => e = .returned (.tuple #[.int .i64 0, .int .i64 0]) ∧ Below w.heap.size w w' := by
  go_enter Tryd.func40, Tryd.ntmps40
  go_wp2_with fail
  refine (nmake ⟨1, n, 0, 0, emptyS, 0, 0⟩ _).mono ?_
  rintro e w1 ⟨rfl, u1⟩
  have HU := Lib.hid u1
  clear u1
  go_wp2_with fail
  go_returns
  exact ⟨rfl, HU.out⟩
set_option maxRecDepth 100000 in
set_option maxHeartbeats 3200000 in
theorem ntree (t : Int) {w : World} (hl : Laid w) : Calls Tryd.prog 28 #[.pointer none, .int .i64 t] w fun e w' => e = .returned (.agg #[.int .i64 0, .int .i64 0, .int .i64 0, .int .u64 0, .string ⟨#[]⟩, .slice none 0 0]) ∧ Below w.heap.size w w' := by
  have bA : Below w.heap.size w (w.alloc (.cells #[.int .i64 0, .int .i64 0, .int .i64 0, .int .u64 0, .string ⟨#[]⟩, .slice none 0 0] TreeT)) := (Below.refl _ _).alloc (Nat.le_refl _) _
  have hb : (w.alloc (.cells #[.int .i64 0, .int .i64 0, .int .i64 0, .int .u64 0, .string ⟨#[]⟩, .slice none 0 0] TreeT)).heap[w.heap.size]? = some (Obj.cells #[.int .i64 0, .int .i64 0, .int .i64 0, .int .u64 0, .string ⟨#[]⟩, .slice none 0 0] TreeT) := heap_alloc_new _ _
  have HL := Lib.hid (hl.below bA)
  have HB := Lib.hid hb
  have HA := Lib.hid bA
  clear bA hb hl
  have hfk := field_kids
  go_enter Tryd.func28, Tryd.ntmps28
  go_wp2_with fail
  generalize (w.alloc (.cells #[.int .i64 0, .int .i64 0, .int .i64 0, .int .u64 0, .string ⟨#[]⟩, .slice none 0 0] TreeT)) = W at *
  refine (nnode t _).mono ?_
  rintro e w1 ⟨rfl, u1⟩
  have HL1 := Lib.hid (HL.out.below u1)
  have hb1 := Hold.below u1 _ _ HB.out
  have HA1 := Lib.hid (HA.out.trans (u1.mono HA.out.size))
  have hw1 : w.heap.size < w1.heap.size := (Array.getElem?_eq_some_iff.1 hb1).1
  have HB1 := Lib.hid hb1
  clear u1 hb1
  have bA2 : Below w1.heap.size w1 ((w1.alloc (.cells #[.int .i64 0, .int .i64 0, .int .i64 0, .int .u64 0, .string ⟨#[]⟩, .int .i64 0, .int .i64 0] NodeT)).alloc (.cells #[.int .i64 0, .int .i64 0, .int .i64 0, .int .u64 0, .string ⟨#[]⟩, .slice none 0 0] TreeT)) := ((Below.refl _ _).alloc (Nat.le_refl _) _).alloc (by simp) _
  have hbx : ((w1.alloc (.cells #[.int .i64 0, .int .i64 0, .int .i64 0, .int .u64 0, .string ⟨#[]⟩, .int .i64 0, .int .i64 0] NodeT)).alloc (.cells #[.int .i64 0, .int .i64 0, .int .i64 0, .int .u64 0, .string ⟨#[]⟩, .slice none 0 0] TreeT)).heap[w1.heap.size + 1]? = some (Obj.cells #[.int .i64 0, .int .i64 0, .int .i64 0, .int .u64 0, .string ⟨#[]⟩, .slice none 0 0] TreeT) := by
    have e : w1.heap.size + 1 = (w1.alloc (.cells #[.int .i64 0, .int .i64 0, .int .i64 0, .int .u64 0, .string ⟨#[]⟩, .int .i64 0, .int .i64 0] NodeT)).heap.size := by simp
    rw [e]; exact heap_alloc_new _ _
  go_wp2_with fail
  generalize ((w1.alloc (.cells #[.int .i64 0, .int .i64 0, .int .i64 0, .int .u64 0, .string ⟨#[]⟩, .int .i64 0, .int .i64 0] NodeT)).alloc (.cells #[.int .i64 0, .int .i64 0, .int .i64 0, .int .u64 0, .string ⟨#[]⟩, .slice none 0 0] TreeT)) = W2 at *
  refine (shape_kids (HL1.out.below bA2) 0 0 rfl).mono ?_
  rintro e w3 ⟨rfl, u3⟩
  have hx3 := Hold.below u3 _ _ hbx
  have hb3 := Hold.below (bmore bA2 u3) _ _ HB1.out
  have HA3 := Lib.hid (HA1.out.trans ((bmore bA2 u3).mono HA1.out.size))
  have x0 := frozenB (j := 0) hb3
  have y0 := cellB (j := 0) hb3 rfl
  have v0 := cellB (j := 0) hx3 rfl
  have x1 := frozenB (j := 1) hb3
  have y1 := cellB (j := 1) hb3 rfl
  have v1 := cellB (j := 1) hx3 rfl
  have x2 := frozenB (j := 2) hb3
  have y2 := cellB (j := 2) hb3 rfl
  have v2 := cellB (j := 2) hx3 rfl
  have x3 := frozenB (j := 3) hb3
  have y3 := cellB (j := 3) hb3 rfl
  have v3 := cellB (j := 3) hx3 rfl
  have x4 := frozenB (j := 4) hb3
  have y4 := cellB (j := 4) hb3 rfl
  have v4 := cellB (j := 4) hx3 rfl
  have x5 := frozenB (j := 5) hb3
  have y5 := cellB (j := 5) hb3 rfl
  have v5 := cellB (j := 5) hx3 rfl
  clear u3 hx3 bA2 hbx
  go_wp2_with fail
  have hb7 : ((((((w3.setCell ⟨w.heap.size, 0, none⟩ (.int .i64 0)).setCell ⟨w.heap.size, 1, none⟩ (.int .i64 0)).setCell ⟨w.heap.size, 2, none⟩ (.int .i64 0)).setCell ⟨w.heap.size, 3, none⟩ (.int .u64 0)).setCell ⟨w.heap.size, 4, none⟩ (.string ⟨#[]⟩)).setCell ⟨w.heap.size, 5, none⟩ (.slice none 0 0)).heap[w.heap.size]? = some (Obj.cells #[.int .i64 0, .int .i64 0, .int .i64 0, .int .u64 0, .string ⟨#[]⟩, .slice none 0 0] TreeT) := (setCellB (j := 5) (u := .slice none 0 0) (setCellB (j := 4) (u := .string ⟨#[]⟩) (setCellB (j := 3) (u := .int .u64 0) (setCellB (j := 2) (u := .int .i64 0) (setCellB (j := 1) (u := .int .i64 0) (setCellB (j := 0) (u := .int .i64 0) hb3))))))
  have hbl : Below w.heap.size w ((((((w3.setCell ⟨w.heap.size, 0, none⟩ (.int .i64 0)).setCell ⟨w.heap.size, 1, none⟩ (.int .i64 0)).setCell ⟨w.heap.size, 2, none⟩ (.int .i64 0)).setCell ⟨w.heap.size, 3, none⟩ (.int .u64 0)).setCell ⟨w.heap.size, 4, none⟩ (.string ⟨#[]⟩)).setCell ⟨w.heap.size, 5, none⟩ (.slice none 0 0)) := ((((((HA3.out.setCell (p := ⟨w.heap.size, 0, none⟩) (Nat.le_refl _) _).setCell (p := ⟨w.heap.size, 1, none⟩) (Nat.le_refl _) _).setCell (p := ⟨w.heap.size, 2, none⟩) (Nat.le_refl _) _).setCell (p := ⟨w.heap.size, 3, none⟩) (Nat.le_refl _) _).setCell (p := ⟨w.heap.size, 4, none⟩) (Nat.le_refl _) _).setCell (p := ⟨w.heap.size, 5, none⟩) (Nat.le_refl _) _)
  generalize ((((((w3.setCell ⟨w.heap.size, 0, none⟩ (.int .i64 0)).setCell ⟨w.heap.size, 1, none⟩ (.int .i64 0)).setCell ⟨w.heap.size, 2, none⟩ (.int .i64 0)).setCell ⟨w.heap.size, 3, none⟩ (.int .u64 0)).setCell ⟨w.heap.size, 4, none⟩ (.string ⟨#[]⟩)).setCell ⟨w.heap.size, 5, none⟩ (.slice none 0 0)) = W7 at *
  have c0 : W7.cell? ⟨w.heap.size, 0, none⟩ = some (.int .i64 0) := cellB hb7 rfl
  have c1 : W7.cell? ⟨w.heap.size, 1, none⟩ = some (.int .i64 0) := cellB hb7 rfl
  have c2 : W7.cell? ⟨w.heap.size, 2, none⟩ = some (.int .i64 0) := cellB hb7 rfl
  have c3 : W7.cell? ⟨w.heap.size, 3, none⟩ = some (.int .u64 0) := cellB hb7 rfl
  have c4 : W7.cell? ⟨w.heap.size, 4, none⟩ = some (.string ⟨#[]⟩) := cellB hb7 rfl
  have c5 : W7.cell? ⟨w.heap.size, 5, none⟩ = some (.slice none 0 0) := cellB hb7 rfl
  refine bodyPost_ret (v := .agg #[.int .i64 0, .int .i64 0, .int .i64 0, .int .u64 0, .string ⟨#[]⟩, .slice none 0 0]) (by simp [results, Tryd.results28, go_sem, c0, c1, c2, c3, c4, c5]) rfl ⟨rfl, hbl⟩

theorem emp_list : ((⟨#[]⟩ : ByteArray).toList == (⟨#[]⟩ : ByteArray).toList) = true := by simp
set_option maxRecDepth 100000 in
set_option maxHeartbeats 3200000 in
theorem same0 (w : World) : Calls Tryd.prog 27 #[.agg #[.int .i64 0, .int .i64 0, .int .i64 0, .int .u64 0, .string ⟨#[]⟩, .slice none 0 0], .agg #[.int .i64 0, .int .i64 0, .int .i64 0, .int .u64 0, .string ⟨#[]⟩, .slice none 0 0]] w fun e w' => e = .returned (.bool true) ∧ Below w.heap.size w w' := by
  have h0 := emp_list
  go_enter Tryd.func27, Tryd.ntmps27
  go_wp2_with fail
  refine wp_loop_rounds 1 ?_
  rw [rounds_succ]
  go_wp2_with fail
  go_returns
  exact ⟨rfl, ((Below.refl _ _).alloc (Nat.le_refl _) _).alloc (by simp) _⟩
end Go.Proofs.YteflbecdeinflaaDoor
