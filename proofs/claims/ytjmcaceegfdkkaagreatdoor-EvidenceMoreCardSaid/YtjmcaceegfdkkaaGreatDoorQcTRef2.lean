/-
  What a node by itself is refused with: the document's own shape.
-/
import Derived.Test.YtjmcaceegfdkkaaGreatDoorQcTRef1
import Derived.Test.YtjmcaceegfdkkaaGreatDoorQcTLacks
namespace Go.Proofs.YtjmcaceegfdkkaaGreatDoor
open Go.RowKit
set_option linter.unusedVariables false
set_option maxRecDepth 100000 in
set_option maxHeartbeats 6400000 in
theorem rshape_1 (f t u : Int) (x : ByteArray) (a b : Int) (w : World) (hx : x.size ≤ maxLen) :
  Calls Tryz.prog 194 #[.agg #[.int .i64 1, .int .i64 f, .int .i64 t, .int .u64 u, .string x, .int .i64 a, .int .i64 b]] w fun e w' => e = .returned (.int .i64 (shp ⟨1, f, t, u, x, a, b⟩)) ∧ Below w.heap.size w w' := by
 have bA : Below w.heap.size w (w.alloc (.cells #[.int .i64 1, .int .i64 f, .int .i64 t, .int .u64 u, .string x, .int .i64 a, .int .i64 b] NodeT)) := (Below.refl _ _).alloc (Nat.le_refl _) _
 have hb : (w.alloc (.cells #[.int .i64 1, .int .i64 f, .int .i64 t, .int .u64 u, .string x, .int .i64 a, .int .i64 b] NodeT)).heap[w.heap.size]? = some (Obj.cells #[.int .i64 1, .int .i64 f, .int .i64 t, .int .u64 u, .string x, .int .i64 a, .int .i64 b] NodeT) := heap_alloc_new _ _
 have z0 : (w.alloc (.cells #[.int .i64 1, .int .i64 f, .int .i64 t, .int .u64 u, .string x, .int .i64 a, .int .i64 b] NodeT)).cell? ⟨w.heap.size, 0, none⟩ = some (.int .i64 1) := cellB hb rfl
 have z1 : (w.alloc (.cells #[.int .i64 1, .int .i64 f, .int .i64 t, .int .u64 u, .string x, .int .i64 a, .int .i64 b] NodeT)).cell? ⟨w.heap.size, 1, none⟩ = some (.int .i64 f) := cellB hb rfl
 have z2 : (w.alloc (.cells #[.int .i64 1, .int .i64 f, .int .i64 t, .int .u64 u, .string x, .int .i64 a, .int .i64 b] NodeT)).cell? ⟨w.heap.size, 2, none⟩ = some (.int .i64 t) := cellB hb rfl
 have z3 : (w.alloc (.cells #[.int .i64 1, .int .i64 f, .int .i64 t, .int .u64 u, .string x, .int .i64 a, .int .i64 b] NodeT)).cell? ⟨w.heap.size, 3, none⟩ = some (.int .u64 u) := cellB hb rfl
 have z4 : (w.alloc (.cells #[.int .i64 1, .int .i64 f, .int .i64 t, .int .u64 u, .string x, .int .i64 a, .int .i64 b] NodeT)).cell? ⟨w.heap.size, 4, none⟩ = some (.string x) := cellB hb rfl
 have z5 : (w.alloc (.cells #[.int .i64 1, .int .i64 f, .int .i64 t, .int .u64 u, .string x, .int .i64 a, .int .i64 b] NodeT)).cell? ⟨w.heap.size, 5, none⟩ = some (.int .i64 a) := cellB hb rfl
 have z6 : (w.alloc (.cells #[.int .i64 1, .int .i64 f, .int .i64 t, .int .u64 u, .string x, .int .i64 a, .int .i64 b] NodeT)).cell? ⟨w.heap.size, 6, none⟩ = some (.int .i64 b) := cellB hb rfl
 have HX := Lib.hid hx
 have HA := Lib.hid bA
 clear hx hb bA
 go_enter Tryz.func194, Tryz.ntmps194
 go_wp2_with fail
 generalize (w.alloc (.cells #[.int .i64 1, .int .i64 f, .int .i64 t, .int .u64 u, .string x, .int .i64 a, .int .i64 b] NodeT)) = W at *
 refine (rplain_1 f t u x a b _).mono ?_
 rintro e w1 ⟨rfl, u1⟩
 have HA1 := Lib.hid (bmore HA.out u1)
 replace z0 := bcellAt u1 z0
 replace z1 := bcellAt u1 z1
 replace z2 := bcellAt u1 z2
 replace z3 := bcellAt u1 z3
 replace z4 := bcellAt u1 z4
 replace z5 := bcellAt u1 z5
 replace z6 := bcellAt u1 z6
 clear u1
 cases hp : plainB ⟨1, f, t, u, x, a, b⟩
 ·have HE := Lib.hid (show shp ⟨1, f, t, u, x, a, b⟩ = 53 from by unfold shp; rw [if_pos hp])
  clear hp
  go_wp2_with fail
  go_returns
  exact ⟨congrArg (fun z => Ending.returned (Value.int .i64 z)) HE.out.symm, HA1.out⟩
 ·have HP := Lib.hid hp
  clear hp
  go_wp2_with fail
  refine (rnamed_1 _).mono ?_
  rintro e w' ⟨rfl, rfl⟩
  cases hf : nameB f
  ·have HF := Lib.hid hf
   have HE := Lib.hid (show shp ⟨1, f, t, u, x, a, b⟩ = 50 from by unfold shp; rw [HP.out]; simp [namedB, twoB, hf])
   clear hf
   go_wp2_with fail
   refine (rname_no HF.out _).mono ?_
   rintro e w' ⟨rfl, rfl⟩
   go_wp2_with fail
   go_returns
   exact ⟨congrArg (fun z => Ending.returned (Value.int .i64 z)) HE.out.symm, HA1.out⟩
  ·have HF := Lib.hid hf
   clear hf
   go_wp2_with fail
   refine (rname_yes HF.out _).mono ?_
   rintro e w' ⟨rfl, rfl⟩
   go_wp2_with fail
   refine (rtwo_1 _).mono ?_
   rintro e w' ⟨rfl, rfl⟩
   have hm := HX.out
   unfold maxLen at hm
   by_cases h64 : 64 < x.size
   ·have h64' : (64 : Int) < (x.size : Int) := by omega
    have HE := Lib.hid (show shp ⟨1, f, t, u, x, a, b⟩ = 1 from by unfold shp; rw [HP.out]; simp [namedB, twoB, HF.out, h64])
    go_wp2_with fail
    go_returns
    exact ⟨congrArg (fun z => Ending.returned (Value.int .i64 z)) HE.out.symm, HA1.out⟩
   ·have h64' : decide ((64 : Int) < (x.size : Int)) = false := by simp; omega
    have HE := Lib.hid (show shp ⟨1, f, t, u, x, a, b⟩ = 0 from by unfold shp; rw [HP.out]; simp [namedB, twoB, HF.out, h64])
    go_wp2_with fail
    go_returns
    exact ⟨congrArg (fun z => Ending.returned (Value.int .i64 z)) HE.out.symm, HA1.out⟩
set_option maxRecDepth 100000 in
set_option maxHeartbeats 6400000 in
theorem rshape_2 (f t u : Int) (x : ByteArray) (a b : Int) (w : World) (hx : x.size ≤ maxLen) :
  Calls Tryz.prog 194 #[.agg #[.int .i64 2, .int .i64 f, .int .i64 t, .int .u64 u, .string x, .int .i64 a, .int .i64 b]] w fun e w' => e = .returned (.int .i64 (shp ⟨2, f, t, u, x, a, b⟩)) ∧ Below w.heap.size w w' := by
 have bA : Below w.heap.size w (w.alloc (.cells #[.int .i64 2, .int .i64 f, .int .i64 t, .int .u64 u, .string x, .int .i64 a, .int .i64 b] NodeT)) := (Below.refl _ _).alloc (Nat.le_refl _) _
 have hb : (w.alloc (.cells #[.int .i64 2, .int .i64 f, .int .i64 t, .int .u64 u, .string x, .int .i64 a, .int .i64 b] NodeT)).heap[w.heap.size]? = some (Obj.cells #[.int .i64 2, .int .i64 f, .int .i64 t, .int .u64 u, .string x, .int .i64 a, .int .i64 b] NodeT) := heap_alloc_new _ _
 have z0 : (w.alloc (.cells #[.int .i64 2, .int .i64 f, .int .i64 t, .int .u64 u, .string x, .int .i64 a, .int .i64 b] NodeT)).cell? ⟨w.heap.size, 0, none⟩ = some (.int .i64 2) := cellB hb rfl
 have z1 : (w.alloc (.cells #[.int .i64 2, .int .i64 f, .int .i64 t, .int .u64 u, .string x, .int .i64 a, .int .i64 b] NodeT)).cell? ⟨w.heap.size, 1, none⟩ = some (.int .i64 f) := cellB hb rfl
 have z2 : (w.alloc (.cells #[.int .i64 2, .int .i64 f, .int .i64 t, .int .u64 u, .string x, .int .i64 a, .int .i64 b] NodeT)).cell? ⟨w.heap.size, 2, none⟩ = some (.int .i64 t) := cellB hb rfl
 have z3 : (w.alloc (.cells #[.int .i64 2, .int .i64 f, .int .i64 t, .int .u64 u, .string x, .int .i64 a, .int .i64 b] NodeT)).cell? ⟨w.heap.size, 3, none⟩ = some (.int .u64 u) := cellB hb rfl
 have z4 : (w.alloc (.cells #[.int .i64 2, .int .i64 f, .int .i64 t, .int .u64 u, .string x, .int .i64 a, .int .i64 b] NodeT)).cell? ⟨w.heap.size, 4, none⟩ = some (.string x) := cellB hb rfl
 have z5 : (w.alloc (.cells #[.int .i64 2, .int .i64 f, .int .i64 t, .int .u64 u, .string x, .int .i64 a, .int .i64 b] NodeT)).cell? ⟨w.heap.size, 5, none⟩ = some (.int .i64 a) := cellB hb rfl
 have z6 : (w.alloc (.cells #[.int .i64 2, .int .i64 f, .int .i64 t, .int .u64 u, .string x, .int .i64 a, .int .i64 b] NodeT)).cell? ⟨w.heap.size, 6, none⟩ = some (.int .i64 b) := cellB hb rfl
 have HX := Lib.hid hx
 have HA := Lib.hid bA
 clear hx hb bA
 go_enter Tryz.func194, Tryz.ntmps194
 go_wp2_with fail
 generalize (w.alloc (.cells #[.int .i64 2, .int .i64 f, .int .i64 t, .int .u64 u, .string x, .int .i64 a, .int .i64 b] NodeT)) = W at *
 refine (rplain_2 f t u x a b _).mono ?_
 rintro e w1 ⟨rfl, u1⟩
 have HA1 := Lib.hid (bmore HA.out u1)
 replace z0 := bcellAt u1 z0
 replace z1 := bcellAt u1 z1
 replace z2 := bcellAt u1 z2
 replace z3 := bcellAt u1 z3
 replace z4 := bcellAt u1 z4
 replace z5 := bcellAt u1 z5
 replace z6 := bcellAt u1 z6
 clear u1
 cases hp : plainB ⟨2, f, t, u, x, a, b⟩
 ·have HE := Lib.hid (show shp ⟨2, f, t, u, x, a, b⟩ = 53 from by unfold shp; rw [if_pos hp])
  clear hp
  go_wp2_with fail
  go_returns
  exact ⟨congrArg (fun z => Ending.returned (Value.int .i64 z)) HE.out.symm, HA1.out⟩
 ·have HP := Lib.hid hp
  clear hp
  go_wp2_with fail
  refine (rnamed_2 _).mono ?_
  rintro e w' ⟨rfl, rfl⟩
  go_wp2_with fail
  refine (rtwo_2 _).mono ?_
  rintro e w' ⟨rfl, rfl⟩
  have hm := HX.out
  unfold maxLen at hm
  by_cases h64 : 64 < x.size
  ·have h64' : (64 : Int) < (x.size : Int) := by omega
   have HE := Lib.hid (show shp ⟨2, f, t, u, x, a, b⟩ = 1 from by unfold shp; rw [HP.out]; simp [namedB, twoB, h64])
   go_wp2_with fail
   go_returns
   exact ⟨congrArg (fun z => Ending.returned (Value.int .i64 z)) HE.out.symm, HA1.out⟩
  ·have h64' : decide ((64 : Int) < (x.size : Int)) = false := by simp; omega
   have HE := Lib.hid (show shp ⟨2, f, t, u, x, a, b⟩ = 0 from by unfold shp; rw [HP.out]; simp [namedB, twoB, h64])
   go_wp2_with fail
   go_returns
   exact ⟨congrArg (fun z => Ending.returned (Value.int .i64 z)) HE.out.symm, HA1.out⟩
set_option maxRecDepth 100000 in
set_option maxHeartbeats 6400000 in
theorem rshape_3 (f t u : Int) (x : ByteArray) (a b : Int) (w : World) (hx : x.size ≤ maxLen) :
  Calls Tryz.prog 194 #[.agg #[.int .i64 3, .int .i64 f, .int .i64 t, .int .u64 u, .string x, .int .i64 a, .int .i64 b]] w fun e w' => e = .returned (.int .i64 (shp ⟨3, f, t, u, x, a, b⟩)) ∧ Below w.heap.size w w' := by
 have bA : Below w.heap.size w (w.alloc (.cells #[.int .i64 3, .int .i64 f, .int .i64 t, .int .u64 u, .string x, .int .i64 a, .int .i64 b] NodeT)) := (Below.refl _ _).alloc (Nat.le_refl _) _
 have hb : (w.alloc (.cells #[.int .i64 3, .int .i64 f, .int .i64 t, .int .u64 u, .string x, .int .i64 a, .int .i64 b] NodeT)).heap[w.heap.size]? = some (Obj.cells #[.int .i64 3, .int .i64 f, .int .i64 t, .int .u64 u, .string x, .int .i64 a, .int .i64 b] NodeT) := heap_alloc_new _ _
 have z0 : (w.alloc (.cells #[.int .i64 3, .int .i64 f, .int .i64 t, .int .u64 u, .string x, .int .i64 a, .int .i64 b] NodeT)).cell? ⟨w.heap.size, 0, none⟩ = some (.int .i64 3) := cellB hb rfl
 have z1 : (w.alloc (.cells #[.int .i64 3, .int .i64 f, .int .i64 t, .int .u64 u, .string x, .int .i64 a, .int .i64 b] NodeT)).cell? ⟨w.heap.size, 1, none⟩ = some (.int .i64 f) := cellB hb rfl
 have z2 : (w.alloc (.cells #[.int .i64 3, .int .i64 f, .int .i64 t, .int .u64 u, .string x, .int .i64 a, .int .i64 b] NodeT)).cell? ⟨w.heap.size, 2, none⟩ = some (.int .i64 t) := cellB hb rfl
 have z3 : (w.alloc (.cells #[.int .i64 3, .int .i64 f, .int .i64 t, .int .u64 u, .string x, .int .i64 a, .int .i64 b] NodeT)).cell? ⟨w.heap.size, 3, none⟩ = some (.int .u64 u) := cellB hb rfl
 have z4 : (w.alloc (.cells #[.int .i64 3, .int .i64 f, .int .i64 t, .int .u64 u, .string x, .int .i64 a, .int .i64 b] NodeT)).cell? ⟨w.heap.size, 4, none⟩ = some (.string x) := cellB hb rfl
 have z5 : (w.alloc (.cells #[.int .i64 3, .int .i64 f, .int .i64 t, .int .u64 u, .string x, .int .i64 a, .int .i64 b] NodeT)).cell? ⟨w.heap.size, 5, none⟩ = some (.int .i64 a) := cellB hb rfl
 have z6 : (w.alloc (.cells #[.int .i64 3, .int .i64 f, .int .i64 t, .int .u64 u, .string x, .int .i64 a, .int .i64 b] NodeT)).cell? ⟨w.heap.size, 6, none⟩ = some (.int .i64 b) := cellB hb rfl
 have HX := Lib.hid hx
 have HA := Lib.hid bA
 clear hx hb bA
 go_enter Tryz.func194, Tryz.ntmps194
 go_wp2_with fail
 generalize (w.alloc (.cells #[.int .i64 3, .int .i64 f, .int .i64 t, .int .u64 u, .string x, .int .i64 a, .int .i64 b] NodeT)) = W at *
 refine (rplain_3 f t u x a b _).mono ?_
 rintro e w1 ⟨rfl, u1⟩
 have HA1 := Lib.hid (bmore HA.out u1)
 replace z0 := bcellAt u1 z0
 replace z1 := bcellAt u1 z1
 replace z2 := bcellAt u1 z2
 replace z3 := bcellAt u1 z3
 replace z4 := bcellAt u1 z4
 replace z5 := bcellAt u1 z5
 replace z6 := bcellAt u1 z6
 clear u1
 cases hp : plainB ⟨3, f, t, u, x, a, b⟩
 ·have HE := Lib.hid (show shp ⟨3, f, t, u, x, a, b⟩ = 53 from by unfold shp; rw [if_pos hp])
  clear hp
  go_wp2_with fail
  go_returns
  exact ⟨congrArg (fun z => Ending.returned (Value.int .i64 z)) HE.out.symm, HA1.out⟩
 ·have HP := Lib.hid hp
  clear hp
  go_wp2_with fail
  refine (rnamed_3 _).mono ?_
  rintro e w' ⟨rfl, rfl⟩
  go_wp2_with fail
  refine (rtwo_3 _).mono ?_
  rintro e w' ⟨rfl, rfl⟩
  have hm := HX.out
  unfold maxLen at hm
  by_cases h64 : 64 < x.size
  ·have h64' : (64 : Int) < (x.size : Int) := by omega
   have HE := Lib.hid (show shp ⟨3, f, t, u, x, a, b⟩ = 1 from by unfold shp; rw [HP.out]; simp [namedB, twoB, h64])
   go_wp2_with fail
   go_returns
   exact ⟨congrArg (fun z => Ending.returned (Value.int .i64 z)) HE.out.symm, HA1.out⟩
  ·have h64' : decide ((64 : Int) < (x.size : Int)) = false := by simp; omega
   have HE := Lib.hid (show shp ⟨3, f, t, u, x, a, b⟩ = 0 from by unfold shp; rw [HP.out]; simp [namedB, twoB, h64])
   go_wp2_with fail
   go_returns
   exact ⟨congrArg (fun z => Ending.returned (Value.int .i64 z)) HE.out.symm, HA1.out⟩
set_option maxRecDepth 100000 in
set_option maxHeartbeats 6400000 in
theorem rshape_4 (f t u : Int) (x : ByteArray) (a b : Int) (w : World) (hx : x.size ≤ maxLen) :
  Calls Tryz.prog 194 #[.agg #[.int .i64 4, .int .i64 f, .int .i64 t, .int .u64 u, .string x, .int .i64 a, .int .i64 b]] w fun e w' => e = .returned (.int .i64 (shp ⟨4, f, t, u, x, a, b⟩)) ∧ Below w.heap.size w w' := by
 have bA : Below w.heap.size w (w.alloc (.cells #[.int .i64 4, .int .i64 f, .int .i64 t, .int .u64 u, .string x, .int .i64 a, .int .i64 b] NodeT)) := (Below.refl _ _).alloc (Nat.le_refl _) _
 have hb : (w.alloc (.cells #[.int .i64 4, .int .i64 f, .int .i64 t, .int .u64 u, .string x, .int .i64 a, .int .i64 b] NodeT)).heap[w.heap.size]? = some (Obj.cells #[.int .i64 4, .int .i64 f, .int .i64 t, .int .u64 u, .string x, .int .i64 a, .int .i64 b] NodeT) := heap_alloc_new _ _
 have z0 : (w.alloc (.cells #[.int .i64 4, .int .i64 f, .int .i64 t, .int .u64 u, .string x, .int .i64 a, .int .i64 b] NodeT)).cell? ⟨w.heap.size, 0, none⟩ = some (.int .i64 4) := cellB hb rfl
 have z1 : (w.alloc (.cells #[.int .i64 4, .int .i64 f, .int .i64 t, .int .u64 u, .string x, .int .i64 a, .int .i64 b] NodeT)).cell? ⟨w.heap.size, 1, none⟩ = some (.int .i64 f) := cellB hb rfl
 have z2 : (w.alloc (.cells #[.int .i64 4, .int .i64 f, .int .i64 t, .int .u64 u, .string x, .int .i64 a, .int .i64 b] NodeT)).cell? ⟨w.heap.size, 2, none⟩ = some (.int .i64 t) := cellB hb rfl
 have z3 : (w.alloc (.cells #[.int .i64 4, .int .i64 f, .int .i64 t, .int .u64 u, .string x, .int .i64 a, .int .i64 b] NodeT)).cell? ⟨w.heap.size, 3, none⟩ = some (.int .u64 u) := cellB hb rfl
 have z4 : (w.alloc (.cells #[.int .i64 4, .int .i64 f, .int .i64 t, .int .u64 u, .string x, .int .i64 a, .int .i64 b] NodeT)).cell? ⟨w.heap.size, 4, none⟩ = some (.string x) := cellB hb rfl
 have z5 : (w.alloc (.cells #[.int .i64 4, .int .i64 f, .int .i64 t, .int .u64 u, .string x, .int .i64 a, .int .i64 b] NodeT)).cell? ⟨w.heap.size, 5, none⟩ = some (.int .i64 a) := cellB hb rfl
 have z6 : (w.alloc (.cells #[.int .i64 4, .int .i64 f, .int .i64 t, .int .u64 u, .string x, .int .i64 a, .int .i64 b] NodeT)).cell? ⟨w.heap.size, 6, none⟩ = some (.int .i64 b) := cellB hb rfl
 have HX := Lib.hid hx
 have HA := Lib.hid bA
 clear hx hb bA
 go_enter Tryz.func194, Tryz.ntmps194
 go_wp2_with fail
 generalize (w.alloc (.cells #[.int .i64 4, .int .i64 f, .int .i64 t, .int .u64 u, .string x, .int .i64 a, .int .i64 b] NodeT)) = W at *
 refine (rplain_4 f t u x a b _).mono ?_
 rintro e w1 ⟨rfl, u1⟩
 have HA1 := Lib.hid (bmore HA.out u1)
 replace z0 := bcellAt u1 z0
 replace z1 := bcellAt u1 z1
 replace z2 := bcellAt u1 z2
 replace z3 := bcellAt u1 z3
 replace z4 := bcellAt u1 z4
 replace z5 := bcellAt u1 z5
 replace z6 := bcellAt u1 z6
 clear u1
 cases hp : plainB ⟨4, f, t, u, x, a, b⟩
 ·have HE := Lib.hid (show shp ⟨4, f, t, u, x, a, b⟩ = 53 from by unfold shp; rw [if_pos hp])
  clear hp
  go_wp2_with fail
  go_returns
  exact ⟨congrArg (fun z => Ending.returned (Value.int .i64 z)) HE.out.symm, HA1.out⟩
 ·have HP := Lib.hid hp
  clear hp
  go_wp2_with fail
  refine (rnamed_4 _).mono ?_
  rintro e w' ⟨rfl, rfl⟩
  go_wp2_with fail
  refine (rtwo_4 _).mono ?_
  rintro e w' ⟨rfl, rfl⟩
  have hm := HX.out
  unfold maxLen at hm
  by_cases h64 : 64 < x.size
  ·have h64' : (64 : Int) < (x.size : Int) := by omega
   have HE := Lib.hid (show shp ⟨4, f, t, u, x, a, b⟩ = 1 from by unfold shp; rw [HP.out]; simp [namedB, twoB, h64])
   go_wp2_with fail
   go_returns
   exact ⟨congrArg (fun z => Ending.returned (Value.int .i64 z)) HE.out.symm, HA1.out⟩
  ·have h64' : decide ((64 : Int) < (x.size : Int)) = false := by simp; omega
   have HE := Lib.hid (show shp ⟨4, f, t, u, x, a, b⟩ = 0 from by unfold shp; rw [HP.out]; simp [namedB, twoB, h64])
   go_wp2_with fail
   go_returns
   exact ⟨congrArg (fun z => Ending.returned (Value.int .i64 z)) HE.out.symm, HA1.out⟩
set_option maxRecDepth 100000 in
set_option maxHeartbeats 6400000 in
theorem rshape_5 (f t u : Int) (x : ByteArray) (a b : Int) (w : World) (hx : x.size ≤ maxLen) :
  Calls Tryz.prog 194 #[.agg #[.int .i64 5, .int .i64 f, .int .i64 t, .int .u64 u, .string x, .int .i64 a, .int .i64 b]] w fun e w' => e = .returned (.int .i64 (shp ⟨5, f, t, u, x, a, b⟩)) ∧ Below w.heap.size w w' := by
 have bA : Below w.heap.size w (w.alloc (.cells #[.int .i64 5, .int .i64 f, .int .i64 t, .int .u64 u, .string x, .int .i64 a, .int .i64 b] NodeT)) := (Below.refl _ _).alloc (Nat.le_refl _) _
 have hb : (w.alloc (.cells #[.int .i64 5, .int .i64 f, .int .i64 t, .int .u64 u, .string x, .int .i64 a, .int .i64 b] NodeT)).heap[w.heap.size]? = some (Obj.cells #[.int .i64 5, .int .i64 f, .int .i64 t, .int .u64 u, .string x, .int .i64 a, .int .i64 b] NodeT) := heap_alloc_new _ _
 have z0 : (w.alloc (.cells #[.int .i64 5, .int .i64 f, .int .i64 t, .int .u64 u, .string x, .int .i64 a, .int .i64 b] NodeT)).cell? ⟨w.heap.size, 0, none⟩ = some (.int .i64 5) := cellB hb rfl
 have z1 : (w.alloc (.cells #[.int .i64 5, .int .i64 f, .int .i64 t, .int .u64 u, .string x, .int .i64 a, .int .i64 b] NodeT)).cell? ⟨w.heap.size, 1, none⟩ = some (.int .i64 f) := cellB hb rfl
 have z2 : (w.alloc (.cells #[.int .i64 5, .int .i64 f, .int .i64 t, .int .u64 u, .string x, .int .i64 a, .int .i64 b] NodeT)).cell? ⟨w.heap.size, 2, none⟩ = some (.int .i64 t) := cellB hb rfl
 have z3 : (w.alloc (.cells #[.int .i64 5, .int .i64 f, .int .i64 t, .int .u64 u, .string x, .int .i64 a, .int .i64 b] NodeT)).cell? ⟨w.heap.size, 3, none⟩ = some (.int .u64 u) := cellB hb rfl
 have z4 : (w.alloc (.cells #[.int .i64 5, .int .i64 f, .int .i64 t, .int .u64 u, .string x, .int .i64 a, .int .i64 b] NodeT)).cell? ⟨w.heap.size, 4, none⟩ = some (.string x) := cellB hb rfl
 have z5 : (w.alloc (.cells #[.int .i64 5, .int .i64 f, .int .i64 t, .int .u64 u, .string x, .int .i64 a, .int .i64 b] NodeT)).cell? ⟨w.heap.size, 5, none⟩ = some (.int .i64 a) := cellB hb rfl
 have z6 : (w.alloc (.cells #[.int .i64 5, .int .i64 f, .int .i64 t, .int .u64 u, .string x, .int .i64 a, .int .i64 b] NodeT)).cell? ⟨w.heap.size, 6, none⟩ = some (.int .i64 b) := cellB hb rfl
 have HX := Lib.hid hx
 have HA := Lib.hid bA
 clear hx hb bA
 go_enter Tryz.func194, Tryz.ntmps194
 go_wp2_with fail
 generalize (w.alloc (.cells #[.int .i64 5, .int .i64 f, .int .i64 t, .int .u64 u, .string x, .int .i64 a, .int .i64 b] NodeT)) = W at *
 refine (rplain_5 f t u x a b _).mono ?_
 rintro e w1 ⟨rfl, u1⟩
 have HA1 := Lib.hid (bmore HA.out u1)
 replace z0 := bcellAt u1 z0
 replace z1 := bcellAt u1 z1
 replace z2 := bcellAt u1 z2
 replace z3 := bcellAt u1 z3
 replace z4 := bcellAt u1 z4
 replace z5 := bcellAt u1 z5
 replace z6 := bcellAt u1 z6
 clear u1
 cases hp : plainB ⟨5, f, t, u, x, a, b⟩
 ·have HE := Lib.hid (show shp ⟨5, f, t, u, x, a, b⟩ = 53 from by unfold shp; rw [if_pos hp])
  clear hp
  go_wp2_with fail
  go_returns
  exact ⟨congrArg (fun z => Ending.returned (Value.int .i64 z)) HE.out.symm, HA1.out⟩
 ·have HP := Lib.hid hp
  clear hp
  go_wp2_with fail
  refine (rnamed_5 _).mono ?_
  rintro e w' ⟨rfl, rfl⟩
  go_wp2_with fail
  refine (rtwo_5 _).mono ?_
  rintro e w' ⟨rfl, rfl⟩
  have hm := HX.out
  unfold maxLen at hm
  by_cases h64 : 64 < x.size
  ·have h64' : (64 : Int) < (x.size : Int) := by omega
   have HE := Lib.hid (show shp ⟨5, f, t, u, x, a, b⟩ = 1 from by unfold shp; rw [HP.out]; simp [namedB, twoB, h64])
   go_wp2_with fail
   go_returns
   exact ⟨congrArg (fun z => Ending.returned (Value.int .i64 z)) HE.out.symm, HA1.out⟩
  ·have h64' : decide ((64 : Int) < (x.size : Int)) = false := by simp; omega
   have HE := Lib.hid (show shp ⟨5, f, t, u, x, a, b⟩ = 0 from by unfold shp; rw [HP.out]; simp [namedB, twoB, h64])
   go_wp2_with fail
   go_returns
   exact ⟨congrArg (fun z => Ending.returned (Value.int .i64 z)) HE.out.symm, HA1.out⟩
set_option maxRecDepth 100000 in
set_option maxHeartbeats 6400000 in
theorem rshape_6 (f t u : Int) (x : ByteArray) (a b : Int) (w : World) (hx : x.size ≤ maxLen) :
  Calls Tryz.prog 194 #[.agg #[.int .i64 6, .int .i64 f, .int .i64 t, .int .u64 u, .string x, .int .i64 a, .int .i64 b]] w fun e w' => e = .returned (.int .i64 (shp ⟨6, f, t, u, x, a, b⟩)) ∧ Below w.heap.size w w' := by
 have bA : Below w.heap.size w (w.alloc (.cells #[.int .i64 6, .int .i64 f, .int .i64 t, .int .u64 u, .string x, .int .i64 a, .int .i64 b] NodeT)) := (Below.refl _ _).alloc (Nat.le_refl _) _
 have hb : (w.alloc (.cells #[.int .i64 6, .int .i64 f, .int .i64 t, .int .u64 u, .string x, .int .i64 a, .int .i64 b] NodeT)).heap[w.heap.size]? = some (Obj.cells #[.int .i64 6, .int .i64 f, .int .i64 t, .int .u64 u, .string x, .int .i64 a, .int .i64 b] NodeT) := heap_alloc_new _ _
 have z0 : (w.alloc (.cells #[.int .i64 6, .int .i64 f, .int .i64 t, .int .u64 u, .string x, .int .i64 a, .int .i64 b] NodeT)).cell? ⟨w.heap.size, 0, none⟩ = some (.int .i64 6) := cellB hb rfl
 have z1 : (w.alloc (.cells #[.int .i64 6, .int .i64 f, .int .i64 t, .int .u64 u, .string x, .int .i64 a, .int .i64 b] NodeT)).cell? ⟨w.heap.size, 1, none⟩ = some (.int .i64 f) := cellB hb rfl
 have z2 : (w.alloc (.cells #[.int .i64 6, .int .i64 f, .int .i64 t, .int .u64 u, .string x, .int .i64 a, .int .i64 b] NodeT)).cell? ⟨w.heap.size, 2, none⟩ = some (.int .i64 t) := cellB hb rfl
 have z3 : (w.alloc (.cells #[.int .i64 6, .int .i64 f, .int .i64 t, .int .u64 u, .string x, .int .i64 a, .int .i64 b] NodeT)).cell? ⟨w.heap.size, 3, none⟩ = some (.int .u64 u) := cellB hb rfl
 have z4 : (w.alloc (.cells #[.int .i64 6, .int .i64 f, .int .i64 t, .int .u64 u, .string x, .int .i64 a, .int .i64 b] NodeT)).cell? ⟨w.heap.size, 4, none⟩ = some (.string x) := cellB hb rfl
 have z5 : (w.alloc (.cells #[.int .i64 6, .int .i64 f, .int .i64 t, .int .u64 u, .string x, .int .i64 a, .int .i64 b] NodeT)).cell? ⟨w.heap.size, 5, none⟩ = some (.int .i64 a) := cellB hb rfl
 have z6 : (w.alloc (.cells #[.int .i64 6, .int .i64 f, .int .i64 t, .int .u64 u, .string x, .int .i64 a, .int .i64 b] NodeT)).cell? ⟨w.heap.size, 6, none⟩ = some (.int .i64 b) := cellB hb rfl
 have HX := Lib.hid hx
 have HA := Lib.hid bA
 clear hx hb bA
 go_enter Tryz.func194, Tryz.ntmps194
 go_wp2_with fail
 generalize (w.alloc (.cells #[.int .i64 6, .int .i64 f, .int .i64 t, .int .u64 u, .string x, .int .i64 a, .int .i64 b] NodeT)) = W at *
 refine (rplain_6 f t u x a b _).mono ?_
 rintro e w1 ⟨rfl, u1⟩
 have HA1 := Lib.hid (bmore HA.out u1)
 replace z0 := bcellAt u1 z0
 replace z1 := bcellAt u1 z1
 replace z2 := bcellAt u1 z2
 replace z3 := bcellAt u1 z3
 replace z4 := bcellAt u1 z4
 replace z5 := bcellAt u1 z5
 replace z6 := bcellAt u1 z6
 clear u1
 cases hp : plainB ⟨6, f, t, u, x, a, b⟩
 ·have HE := Lib.hid (show shp ⟨6, f, t, u, x, a, b⟩ = 53 from by unfold shp; rw [if_pos hp])
  clear hp
  go_wp2_with fail
  go_returns
  exact ⟨congrArg (fun z => Ending.returned (Value.int .i64 z)) HE.out.symm, HA1.out⟩
 ·have HP := Lib.hid hp
  clear hp
  go_wp2_with fail
  refine (rnamed_6 _).mono ?_
  rintro e w' ⟨rfl, rfl⟩
  cases hf : nameB f
  ·have HF := Lib.hid hf
   have HE := Lib.hid (show shp ⟨6, f, t, u, x, a, b⟩ = 50 from by unfold shp; rw [HP.out]; simp [namedB, twoB, hf])
   clear hf
   go_wp2_with fail
   refine (rname_no HF.out _).mono ?_
   rintro e w' ⟨rfl, rfl⟩
   go_wp2_with fail
   go_returns
   exact ⟨congrArg (fun z => Ending.returned (Value.int .i64 z)) HE.out.symm, HA1.out⟩
  ·have HF := Lib.hid hf
   clear hf
   go_wp2_with fail
   refine (rname_yes HF.out _).mono ?_
   rintro e w' ⟨rfl, rfl⟩
   go_wp2_with fail
   refine (rtwo_6 _).mono ?_
   rintro e w' ⟨rfl, rfl⟩
   have hm := HX.out
   unfold maxLen at hm
   by_cases h64 : 64 < x.size
   ·have h64' : (64 : Int) < (x.size : Int) := by omega
    have HE := Lib.hid (show shp ⟨6, f, t, u, x, a, b⟩ = 1 from by unfold shp; rw [HP.out]; simp [namedB, twoB, HF.out, h64])
    go_wp2_with fail
    go_returns
    exact ⟨congrArg (fun z => Ending.returned (Value.int .i64 z)) HE.out.symm, HA1.out⟩
   ·have h64' : decide ((64 : Int) < (x.size : Int)) = false := by simp; omega
    have HE := Lib.hid (show shp ⟨6, f, t, u, x, a, b⟩ = 0 from by unfold shp; rw [HP.out]; simp [namedB, twoB, HF.out, h64])
    go_wp2_with fail
    go_returns
    exact ⟨congrArg (fun z => Ending.returned (Value.int .i64 z)) HE.out.symm, HA1.out⟩
set_option maxRecDepth 100000 in
set_option maxHeartbeats 6400000 in
theorem rshape_7 (f t u : Int) (x : ByteArray) (a b : Int) (w : World) (hx : x.size ≤ maxLen) :
  Calls Tryz.prog 194 #[.agg #[.int .i64 7, .int .i64 f, .int .i64 t, .int .u64 u, .string x, .int .i64 a, .int .i64 b]] w fun e w' => e = .returned (.int .i64 (shp ⟨7, f, t, u, x, a, b⟩)) ∧ Below w.heap.size w w' := by
 have bA : Below w.heap.size w (w.alloc (.cells #[.int .i64 7, .int .i64 f, .int .i64 t, .int .u64 u, .string x, .int .i64 a, .int .i64 b] NodeT)) := (Below.refl _ _).alloc (Nat.le_refl _) _
 have hb : (w.alloc (.cells #[.int .i64 7, .int .i64 f, .int .i64 t, .int .u64 u, .string x, .int .i64 a, .int .i64 b] NodeT)).heap[w.heap.size]? = some (Obj.cells #[.int .i64 7, .int .i64 f, .int .i64 t, .int .u64 u, .string x, .int .i64 a, .int .i64 b] NodeT) := heap_alloc_new _ _
 have z0 : (w.alloc (.cells #[.int .i64 7, .int .i64 f, .int .i64 t, .int .u64 u, .string x, .int .i64 a, .int .i64 b] NodeT)).cell? ⟨w.heap.size, 0, none⟩ = some (.int .i64 7) := cellB hb rfl
 have z1 : (w.alloc (.cells #[.int .i64 7, .int .i64 f, .int .i64 t, .int .u64 u, .string x, .int .i64 a, .int .i64 b] NodeT)).cell? ⟨w.heap.size, 1, none⟩ = some (.int .i64 f) := cellB hb rfl
 have z2 : (w.alloc (.cells #[.int .i64 7, .int .i64 f, .int .i64 t, .int .u64 u, .string x, .int .i64 a, .int .i64 b] NodeT)).cell? ⟨w.heap.size, 2, none⟩ = some (.int .i64 t) := cellB hb rfl
 have z3 : (w.alloc (.cells #[.int .i64 7, .int .i64 f, .int .i64 t, .int .u64 u, .string x, .int .i64 a, .int .i64 b] NodeT)).cell? ⟨w.heap.size, 3, none⟩ = some (.int .u64 u) := cellB hb rfl
 have z4 : (w.alloc (.cells #[.int .i64 7, .int .i64 f, .int .i64 t, .int .u64 u, .string x, .int .i64 a, .int .i64 b] NodeT)).cell? ⟨w.heap.size, 4, none⟩ = some (.string x) := cellB hb rfl
 have z5 : (w.alloc (.cells #[.int .i64 7, .int .i64 f, .int .i64 t, .int .u64 u, .string x, .int .i64 a, .int .i64 b] NodeT)).cell? ⟨w.heap.size, 5, none⟩ = some (.int .i64 a) := cellB hb rfl
 have z6 : (w.alloc (.cells #[.int .i64 7, .int .i64 f, .int .i64 t, .int .u64 u, .string x, .int .i64 a, .int .i64 b] NodeT)).cell? ⟨w.heap.size, 6, none⟩ = some (.int .i64 b) := cellB hb rfl
 have HX := Lib.hid hx
 have HA := Lib.hid bA
 clear hx hb bA
 go_enter Tryz.func194, Tryz.ntmps194
 go_wp2_with fail
 generalize (w.alloc (.cells #[.int .i64 7, .int .i64 f, .int .i64 t, .int .u64 u, .string x, .int .i64 a, .int .i64 b] NodeT)) = W at *
 refine (rplain_7 f t u x a b _).mono ?_
 rintro e w1 ⟨rfl, u1⟩
 have HA1 := Lib.hid (bmore HA.out u1)
 replace z0 := bcellAt u1 z0
 replace z1 := bcellAt u1 z1
 replace z2 := bcellAt u1 z2
 replace z3 := bcellAt u1 z3
 replace z4 := bcellAt u1 z4
 replace z5 := bcellAt u1 z5
 replace z6 := bcellAt u1 z6
 clear u1
 cases hp : plainB ⟨7, f, t, u, x, a, b⟩
 ·have HE := Lib.hid (show shp ⟨7, f, t, u, x, a, b⟩ = 53 from by unfold shp; rw [if_pos hp])
  clear hp
  go_wp2_with fail
  go_returns
  exact ⟨congrArg (fun z => Ending.returned (Value.int .i64 z)) HE.out.symm, HA1.out⟩
 ·have HP := Lib.hid hp
  clear hp
  go_wp2_with fail
  refine (rnamed_7 _).mono ?_
  rintro e w' ⟨rfl, rfl⟩
  cases hf : nameB f
  ·have HF := Lib.hid hf
   have HE := Lib.hid (show shp ⟨7, f, t, u, x, a, b⟩ = 50 from by unfold shp; rw [HP.out]; simp [namedB, twoB, hf])
   clear hf
   go_wp2_with fail
   refine (rname_no HF.out _).mono ?_
   rintro e w' ⟨rfl, rfl⟩
   go_wp2_with fail
   go_returns
   exact ⟨congrArg (fun z => Ending.returned (Value.int .i64 z)) HE.out.symm, HA1.out⟩
  ·have HF := Lib.hid hf
   clear hf
   go_wp2_with fail
   refine (rname_yes HF.out _).mono ?_
   rintro e w' ⟨rfl, rfl⟩
   go_wp2_with fail
   refine (rtwo_7 _).mono ?_
   rintro e w' ⟨rfl, rfl⟩
   have hm := HX.out
   unfold maxLen at hm
   by_cases h64 : 64 < x.size
   ·have h64' : (64 : Int) < (x.size : Int) := by omega
    have HE := Lib.hid (show shp ⟨7, f, t, u, x, a, b⟩ = 1 from by unfold shp; rw [HP.out]; simp [namedB, twoB, HF.out, h64])
    go_wp2_with fail
    go_returns
    exact ⟨congrArg (fun z => Ending.returned (Value.int .i64 z)) HE.out.symm, HA1.out⟩
   ·have h64' : decide ((64 : Int) < (x.size : Int)) = false := by simp; omega
    have HE := Lib.hid (show shp ⟨7, f, t, u, x, a, b⟩ = 0 from by unfold shp; rw [HP.out]; simp [namedB, twoB, HF.out, h64])
    go_wp2_with fail
    go_returns
    exact ⟨congrArg (fun z => Ending.returned (Value.int .i64 z)) HE.out.symm, HA1.out⟩
set_option maxRecDepth 100000 in
set_option maxHeartbeats 6400000 in
theorem rshape_8 (f t u : Int) (x : ByteArray) (a b : Int) (w : World) (hx : x.size ≤ maxLen) :
  Calls Tryz.prog 194 #[.agg #[.int .i64 8, .int .i64 f, .int .i64 t, .int .u64 u, .string x, .int .i64 a, .int .i64 b]] w fun e w' => e = .returned (.int .i64 (shp ⟨8, f, t, u, x, a, b⟩)) ∧ Below w.heap.size w w' := by
 have bA : Below w.heap.size w (w.alloc (.cells #[.int .i64 8, .int .i64 f, .int .i64 t, .int .u64 u, .string x, .int .i64 a, .int .i64 b] NodeT)) := (Below.refl _ _).alloc (Nat.le_refl _) _
 have hb : (w.alloc (.cells #[.int .i64 8, .int .i64 f, .int .i64 t, .int .u64 u, .string x, .int .i64 a, .int .i64 b] NodeT)).heap[w.heap.size]? = some (Obj.cells #[.int .i64 8, .int .i64 f, .int .i64 t, .int .u64 u, .string x, .int .i64 a, .int .i64 b] NodeT) := heap_alloc_new _ _
 have z0 : (w.alloc (.cells #[.int .i64 8, .int .i64 f, .int .i64 t, .int .u64 u, .string x, .int .i64 a, .int .i64 b] NodeT)).cell? ⟨w.heap.size, 0, none⟩ = some (.int .i64 8) := cellB hb rfl
 have z1 : (w.alloc (.cells #[.int .i64 8, .int .i64 f, .int .i64 t, .int .u64 u, .string x, .int .i64 a, .int .i64 b] NodeT)).cell? ⟨w.heap.size, 1, none⟩ = some (.int .i64 f) := cellB hb rfl
 have z2 : (w.alloc (.cells #[.int .i64 8, .int .i64 f, .int .i64 t, .int .u64 u, .string x, .int .i64 a, .int .i64 b] NodeT)).cell? ⟨w.heap.size, 2, none⟩ = some (.int .i64 t) := cellB hb rfl
 have z3 : (w.alloc (.cells #[.int .i64 8, .int .i64 f, .int .i64 t, .int .u64 u, .string x, .int .i64 a, .int .i64 b] NodeT)).cell? ⟨w.heap.size, 3, none⟩ = some (.int .u64 u) := cellB hb rfl
 have z4 : (w.alloc (.cells #[.int .i64 8, .int .i64 f, .int .i64 t, .int .u64 u, .string x, .int .i64 a, .int .i64 b] NodeT)).cell? ⟨w.heap.size, 4, none⟩ = some (.string x) := cellB hb rfl
 have z5 : (w.alloc (.cells #[.int .i64 8, .int .i64 f, .int .i64 t, .int .u64 u, .string x, .int .i64 a, .int .i64 b] NodeT)).cell? ⟨w.heap.size, 5, none⟩ = some (.int .i64 a) := cellB hb rfl
 have z6 : (w.alloc (.cells #[.int .i64 8, .int .i64 f, .int .i64 t, .int .u64 u, .string x, .int .i64 a, .int .i64 b] NodeT)).cell? ⟨w.heap.size, 6, none⟩ = some (.int .i64 b) := cellB hb rfl
 have HX := Lib.hid hx
 have HA := Lib.hid bA
 clear hx hb bA
 go_enter Tryz.func194, Tryz.ntmps194
 go_wp2_with fail
 generalize (w.alloc (.cells #[.int .i64 8, .int .i64 f, .int .i64 t, .int .u64 u, .string x, .int .i64 a, .int .i64 b] NodeT)) = W at *
 refine (rplain_8 f t u x a b _).mono ?_
 rintro e w1 ⟨rfl, u1⟩
 have HA1 := Lib.hid (bmore HA.out u1)
 replace z0 := bcellAt u1 z0
 replace z1 := bcellAt u1 z1
 replace z2 := bcellAt u1 z2
 replace z3 := bcellAt u1 z3
 replace z4 := bcellAt u1 z4
 replace z5 := bcellAt u1 z5
 replace z6 := bcellAt u1 z6
 clear u1
 cases hp : plainB ⟨8, f, t, u, x, a, b⟩
 ·have HE := Lib.hid (show shp ⟨8, f, t, u, x, a, b⟩ = 53 from by unfold shp; rw [if_pos hp])
  clear hp
  go_wp2_with fail
  go_returns
  exact ⟨congrArg (fun z => Ending.returned (Value.int .i64 z)) HE.out.symm, HA1.out⟩
 ·have HP := Lib.hid hp
  clear hp
  go_wp2_with fail
  refine (rnamed_8 _).mono ?_
  rintro e w' ⟨rfl, rfl⟩
  cases hf : nameB f
  ·have HF := Lib.hid hf
   have HE := Lib.hid (show shp ⟨8, f, t, u, x, a, b⟩ = 50 from by unfold shp; rw [HP.out]; simp [namedB, twoB, hf])
   clear hf
   go_wp2_with fail
   refine (rname_no HF.out _).mono ?_
   rintro e w' ⟨rfl, rfl⟩
   go_wp2_with fail
   go_returns
   exact ⟨congrArg (fun z => Ending.returned (Value.int .i64 z)) HE.out.symm, HA1.out⟩
  ·have HF := Lib.hid hf
   clear hf
   go_wp2_with fail
   refine (rname_yes HF.out _).mono ?_
   rintro e w' ⟨rfl, rfl⟩
   go_wp2_with fail
   refine (rtwo_8 _).mono ?_
   rintro e w' ⟨rfl, rfl⟩
   cases ht : nameB t
   ·have HT := Lib.hid ht
    have HE := Lib.hid (show shp ⟨8, f, t, u, x, a, b⟩ = 50 from by unfold shp; rw [HP.out]; simp [namedB, twoB, ht])
    clear ht
    go_wp2_with fail
    refine (rname_no HT.out _).mono ?_
    rintro e w' ⟨rfl, rfl⟩
    go_wp2_with fail
    go_returns
    exact ⟨congrArg (fun z => Ending.returned (Value.int .i64 z)) HE.out.symm, HA1.out⟩
   ·have HT := Lib.hid ht
    clear ht
    go_wp2_with fail
    refine (rname_yes HT.out _).mono ?_
    rintro e w' ⟨rfl, rfl⟩
    cases hft : (f == t)
    ·have HFT := Lib.hid hft
     have hm := HX.out
     unfold maxLen at hm
     by_cases h64 : 64 < x.size
     ·have h64' : (64 : Int) < (x.size : Int) := by omega
      have HE := Lib.hid (show shp ⟨8, f, t, u, x, a, b⟩ = 1 from by unfold shp; rw [HP.out]; simp [namedB, twoB, HF.out, HT.out, HFT.out, h64])
      go_wp2_with fail
      go_returns
      exact ⟨congrArg (fun z => Ending.returned (Value.int .i64 z)) HE.out.symm, HA1.out⟩
     ·have h64' : decide ((64 : Int) < (x.size : Int)) = false := by simp; omega
      have HE := Lib.hid (show shp ⟨8, f, t, u, x, a, b⟩ = 0 from by unfold shp; rw [HP.out]; simp [namedB, twoB, HF.out, HT.out, HFT.out, h64])
      go_wp2_with fail
      go_returns
      exact ⟨congrArg (fun z => Ending.returned (Value.int .i64 z)) HE.out.symm, HA1.out⟩
    ·have HFT := Lib.hid hft
     have HE := Lib.hid (show shp ⟨8, f, t, u, x, a, b⟩ = 50 from by unfold shp; rw [HP.out]; simp [namedB, twoB, HFT.out])
     go_wp2_with fail
     go_returns
     exact ⟨congrArg (fun z => Ending.returned (Value.int .i64 z)) HE.out.symm, HA1.out⟩
set_option maxRecDepth 100000 in
set_option maxHeartbeats 6400000 in
theorem rshape_9 (f t u : Int) (x : ByteArray) (a b : Int) (w : World) (hx : x.size ≤ maxLen) :
  Calls Tryz.prog 194 #[.agg #[.int .i64 9, .int .i64 f, .int .i64 t, .int .u64 u, .string x, .int .i64 a, .int .i64 b]] w fun e w' => e = .returned (.int .i64 (shp ⟨9, f, t, u, x, a, b⟩)) ∧ Below w.heap.size w w' := by
 have bA : Below w.heap.size w (w.alloc (.cells #[.int .i64 9, .int .i64 f, .int .i64 t, .int .u64 u, .string x, .int .i64 a, .int .i64 b] NodeT)) := (Below.refl _ _).alloc (Nat.le_refl _) _
 have hb : (w.alloc (.cells #[.int .i64 9, .int .i64 f, .int .i64 t, .int .u64 u, .string x, .int .i64 a, .int .i64 b] NodeT)).heap[w.heap.size]? = some (Obj.cells #[.int .i64 9, .int .i64 f, .int .i64 t, .int .u64 u, .string x, .int .i64 a, .int .i64 b] NodeT) := heap_alloc_new _ _
 have z0 : (w.alloc (.cells #[.int .i64 9, .int .i64 f, .int .i64 t, .int .u64 u, .string x, .int .i64 a, .int .i64 b] NodeT)).cell? ⟨w.heap.size, 0, none⟩ = some (.int .i64 9) := cellB hb rfl
 have z1 : (w.alloc (.cells #[.int .i64 9, .int .i64 f, .int .i64 t, .int .u64 u, .string x, .int .i64 a, .int .i64 b] NodeT)).cell? ⟨w.heap.size, 1, none⟩ = some (.int .i64 f) := cellB hb rfl
 have z2 : (w.alloc (.cells #[.int .i64 9, .int .i64 f, .int .i64 t, .int .u64 u, .string x, .int .i64 a, .int .i64 b] NodeT)).cell? ⟨w.heap.size, 2, none⟩ = some (.int .i64 t) := cellB hb rfl
 have z3 : (w.alloc (.cells #[.int .i64 9, .int .i64 f, .int .i64 t, .int .u64 u, .string x, .int .i64 a, .int .i64 b] NodeT)).cell? ⟨w.heap.size, 3, none⟩ = some (.int .u64 u) := cellB hb rfl
 have z4 : (w.alloc (.cells #[.int .i64 9, .int .i64 f, .int .i64 t, .int .u64 u, .string x, .int .i64 a, .int .i64 b] NodeT)).cell? ⟨w.heap.size, 4, none⟩ = some (.string x) := cellB hb rfl
 have z5 : (w.alloc (.cells #[.int .i64 9, .int .i64 f, .int .i64 t, .int .u64 u, .string x, .int .i64 a, .int .i64 b] NodeT)).cell? ⟨w.heap.size, 5, none⟩ = some (.int .i64 a) := cellB hb rfl
 have z6 : (w.alloc (.cells #[.int .i64 9, .int .i64 f, .int .i64 t, .int .u64 u, .string x, .int .i64 a, .int .i64 b] NodeT)).cell? ⟨w.heap.size, 6, none⟩ = some (.int .i64 b) := cellB hb rfl
 have HX := Lib.hid hx
 have HA := Lib.hid bA
 clear hx hb bA
 go_enter Tryz.func194, Tryz.ntmps194
 go_wp2_with fail
 generalize (w.alloc (.cells #[.int .i64 9, .int .i64 f, .int .i64 t, .int .u64 u, .string x, .int .i64 a, .int .i64 b] NodeT)) = W at *
 refine (rplain_9 f t u x a b _).mono ?_
 rintro e w1 ⟨rfl, u1⟩
 have HA1 := Lib.hid (bmore HA.out u1)
 replace z0 := bcellAt u1 z0
 replace z1 := bcellAt u1 z1
 replace z2 := bcellAt u1 z2
 replace z3 := bcellAt u1 z3
 replace z4 := bcellAt u1 z4
 replace z5 := bcellAt u1 z5
 replace z6 := bcellAt u1 z6
 clear u1
 cases hp : plainB ⟨9, f, t, u, x, a, b⟩
 ·have HE := Lib.hid (show shp ⟨9, f, t, u, x, a, b⟩ = 53 from by unfold shp; rw [if_pos hp])
  clear hp
  go_wp2_with fail
  go_returns
  exact ⟨congrArg (fun z => Ending.returned (Value.int .i64 z)) HE.out.symm, HA1.out⟩
 ·have HP := Lib.hid hp
  clear hp
  go_wp2_with fail
  refine (rnamed_9 _).mono ?_
  rintro e w' ⟨rfl, rfl⟩
  cases hf : nameB f
  ·have HF := Lib.hid hf
   have HE := Lib.hid (show shp ⟨9, f, t, u, x, a, b⟩ = 50 from by unfold shp; rw [HP.out]; simp [namedB, twoB, hf])
   clear hf
   go_wp2_with fail
   refine (rname_no HF.out _).mono ?_
   rintro e w' ⟨rfl, rfl⟩
   go_wp2_with fail
   go_returns
   exact ⟨congrArg (fun z => Ending.returned (Value.int .i64 z)) HE.out.symm, HA1.out⟩
  ·have HF := Lib.hid hf
   clear hf
   go_wp2_with fail
   refine (rname_yes HF.out _).mono ?_
   rintro e w' ⟨rfl, rfl⟩
   go_wp2_with fail
   refine (rtwo_9 _).mono ?_
   rintro e w' ⟨rfl, rfl⟩
   cases ht : nameB t
   ·have HT := Lib.hid ht
    have HE := Lib.hid (show shp ⟨9, f, t, u, x, a, b⟩ = 50 from by unfold shp; rw [HP.out]; simp [namedB, twoB, ht])
    clear ht
    go_wp2_with fail
    refine (rname_no HT.out _).mono ?_
    rintro e w' ⟨rfl, rfl⟩
    go_wp2_with fail
    go_returns
    exact ⟨congrArg (fun z => Ending.returned (Value.int .i64 z)) HE.out.symm, HA1.out⟩
   ·have HT := Lib.hid ht
    clear ht
    go_wp2_with fail
    refine (rname_yes HT.out _).mono ?_
    rintro e w' ⟨rfl, rfl⟩
    cases hft : (f == t)
    ·have HFT := Lib.hid hft
     have hm := HX.out
     unfold maxLen at hm
     by_cases h64 : 64 < x.size
     ·have h64' : (64 : Int) < (x.size : Int) := by omega
      have HE := Lib.hid (show shp ⟨9, f, t, u, x, a, b⟩ = 1 from by unfold shp; rw [HP.out]; simp [namedB, twoB, HF.out, HT.out, HFT.out, h64])
      go_wp2_with fail
      go_returns
      exact ⟨congrArg (fun z => Ending.returned (Value.int .i64 z)) HE.out.symm, HA1.out⟩
     ·have h64' : decide ((64 : Int) < (x.size : Int)) = false := by simp; omega
      have HE := Lib.hid (show shp ⟨9, f, t, u, x, a, b⟩ = 0 from by unfold shp; rw [HP.out]; simp [namedB, twoB, HF.out, HT.out, HFT.out, h64])
      go_wp2_with fail
      go_returns
      exact ⟨congrArg (fun z => Ending.returned (Value.int .i64 z)) HE.out.symm, HA1.out⟩
    ·have HFT := Lib.hid hft
     have HE := Lib.hid (show shp ⟨9, f, t, u, x, a, b⟩ = 50 from by unfold shp; rw [HP.out]; simp [namedB, twoB, HFT.out])
     go_wp2_with fail
     go_returns
     exact ⟨congrArg (fun z => Ending.returned (Value.int .i64 z)) HE.out.symm, HA1.out⟩
set_option maxRecDepth 100000 in
set_option maxHeartbeats 3200000 in
theorem rplain_out (k f t u : Int) (x : ByteArray) (a b : Int) (w : World) (hk : k < 1 ∨ 9 < k) :
  Calls Tryz.prog 210 #[.agg #[.int .i64 k, .int .i64 f, .int .i64 t, .int .u64 u, .string x, .int .i64 a, .int .i64 b]] w fun e w' => e = .returned (.bool false) ∧ Below w.heap.size w w' := by
 rcases hk with hk | hk
 ·go_enter Tryz.func210, Tryz.ntmps210
  go_wp2_with fail
  go_returns
  exact ⟨rfl, (Below.refl _ _).alloc (Nat.le_refl _) _⟩
 ·have hk' : decide (k < 1) = false := decide_eq_false (by omega)
  go_enter Tryz.func210, Tryz.ntmps210
  go_wp2_with fail
  go_returns
  exact ⟨rfl, (Below.refl _ _).alloc (Nat.le_refl _) _⟩
set_option maxRecDepth 100000 in
set_option maxHeartbeats 3200000 in
theorem rshape_out (k f t u : Int) (x : ByteArray) (a b : Int) (w : World) (hk : k < 1 ∨ 9 < k) :
  Calls Tryz.prog 194 #[.agg #[.int .i64 k, .int .i64 f, .int .i64 t, .int .u64 u, .string x, .int .i64 a, .int .i64 b]] w fun e w' => e = .returned (.int .i64 (shp ⟨k, f, t, u, x, a, b⟩)) ∧ Below w.heap.size w w' := by
 have e : shp ⟨k, f, t, u, x, a, b⟩ = 53 := by unfold shp; rw [if_pos (plain_out hk)]
 rw [e]
 have HK := Lib.hid hk
 have HA := Lib.hid (show Below w.heap.size w (w.alloc (.cells #[.int .i64 k, .int .i64 f, .int .i64 t, .int .u64 u, .string x, .int .i64 a, .int .i64 b] NodeT)) from (Below.refl _ _).alloc (Nat.le_refl _) _)
 clear e hk
 go_enter Tryz.func194, Tryz.ntmps194
 go_wp2_with fail
 refine (rplain_out k f t u x a b _ HK.out).mono ?_
 rintro e w1 ⟨rfl, u1⟩
 have HA1 := Lib.hid (bmore HA.out u1)
 clear u1
 go_wp2_with fail
 go_returns
 exact ⟨rfl, HA1.out⟩
theorem rshape (n : Nd) (w : World) (hx : n.text.size ≤ maxLen) :
  Calls Tryz.prog 194 #[.agg (nodeA n)] w fun e w' => e = .returned (.int .i64 (shp n)) ∧ Below w.heap.size w w' := by
 obtain ⟨k, f, t, u, x, a, b⟩ := n
 by_cases hk : k < 1 ∨ 9 < k
 ·exact rshape_out k f t u x a b w hk
 ·rcases (by omega : k = 1 ∨ k = 2 ∨ k = 3 ∨ k = 4 ∨ k = 5 ∨ k = 6 ∨ k = 7 ∨ k = 8 ∨ k = 9) with e | e | e | e | e | e | e | e | e
  ·subst e; exact rshape_1 f t u x a b w hx
  ·subst e; exact rshape_2 f t u x a b w hx
  ·subst e; exact rshape_3 f t u x a b w hx
  ·subst e; exact rshape_4 f t u x a b w hx
  ·subst e; exact rshape_5 f t u x a b w hx
  ·subst e; exact rshape_6 f t u x a b w hx
  ·subst e; exact rshape_7 f t u x a b w hx
  ·subst e; exact rshape_8 f t u x a b w hx
  ·subst e; exact rshape_9 f t u x a b w hx
theorem rkids (k : Int) (w : World) : Calls Tryz.prog 90 #[.int .i64 k] w fun e w' => e = .returned (.int .i64 (kidsN k : Int)) ∧ w = w' := by
 by_cases hk : k < 1 ∨ 9 < k
 ·have e : kidsN k = 0 := by unfold kidsN; rw [if_neg (by omega), if_neg (by omega)]
  rw [e]
  have e4 : (k == 4) = false := by simp; omega
  have e5 : (k == 5) = false := by simp; omega
  have e7 : (k == 7) = false := by simp; omega
  have e8 : (k == 8) = false := by simp; omega
  have e9 : (k == 9) = false := by simp; omega
  clear hk e
  go_enter Tryz.func90, Tryz.ntmps90
  go_wp2_with fail
  go_returns
  exact ⟨rfl, rfl⟩
 ·rcases (by omega : k = 1 ∨ k = 2 ∨ k = 3 ∨ k = 4 ∨ k = 5 ∨ k = 6 ∨ k = 7 ∨ k = 8 ∨ k = 9) with e | e | e | e | e | e | e | e | e
  ·subst e; exact rkids_1 w
  ·subst e; exact rkids_2 w
  ·subst e; exact rkids_3 w
  ·subst e; exact rkids_4 w
  ·subst e; exact rkids_5 w
  ·subst e; exact rkids_6 w
  ·subst e; exact rkids_7 w
  ·subst e; exact rkids_8 w
  ·subst e; exact rkids_9 w
end Go.Proofs.YtjmcaceegfdkkaaGreatDoor
