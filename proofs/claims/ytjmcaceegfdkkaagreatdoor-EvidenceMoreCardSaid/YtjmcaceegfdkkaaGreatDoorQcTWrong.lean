/-
  What a node by itself is refused with: the program's own wrong.
-/
import Derived.Test.YtjmcaceegfdkkaaGreatDoorQcTLacks
namespace Go.Proofs.YtjmcaceegfdkkaaGreatDoor
open Go.RowKit
set_option linter.unusedVariables false
theorem eq_zero (W : World) : (binOp .eql ShT (.agg #[.bool false, .bool false, .bool false, .bool false, .int .i64 0]) (.agg #[.bool false, .bool false, .bool false, .bool false, .int .i64 0])).run Tryz.prog W = .ok (.bool true) W := by kernel_rfl
theorem isName_yes {n : Int} (h : nameB n = true) (W : World) : Calls Tryz.prog 208 #[.int .i64 n] W fun e w' => e = .returned (.bool true) ∧ W = w' := by
 have := isName_any n W
 rwa [h] at this
theorem isName_no {n : Int} (h : nameB n = false) (W : World) : Calls Tryz.prog 208 #[.int .i64 n] W fun e w' => e = .returned (.bool false) ∧ W = w' := by
 have := isName_any n W
 rwa [h] at this
set_option maxRecDepth 100000 in
set_option maxHeartbeats 6400000 in
theorem wrong_1 (f t u : Int) (x : ByteArray) (a b : Int) {w : World} (hl : Laid w) (hx : x.size ≤ maxLen) :
  Calls Tryz.prog 189 #[.agg #[.int .i64 1, .int .i64 f, .int .i64 t, .int .u64 u, .string x, .int .i64 a, .int .i64 b]] w fun e w' => e = .returned (.int .i64 (shp ⟨1, f, t, u, x, a, b⟩)) ∧ Below w.heap.size w w' := by
 have hq : ∀ W : World, (binOp .eql ShT (.agg #[.bool true, .bool false, .bool false, .bool false, .int .i64 0]) (.agg #[.bool false, .bool false, .bool false, .bool false, .int .i64 0])).run Tryz.prog W = .ok (.bool false) W := fun W => by kernel_rfl
 have bA : Below w.heap.size w (w.alloc (.cells #[.int .i64 1, .int .i64 f, .int .i64 t, .int .u64 u, .string x, .int .i64 a, .int .i64 b] NodeT)) := (Below.refl _ _).alloc (Nat.le_refl _) _
 have hb : (w.alloc (.cells #[.int .i64 1, .int .i64 f, .int .i64 t, .int .u64 u, .string x, .int .i64 a, .int .i64 b] NodeT)).heap[w.heap.size]? = some (Obj.cells #[.int .i64 1, .int .i64 f, .int .i64 t, .int .u64 u, .string x, .int .i64 a, .int .i64 b] NodeT) := heap_alloc_new _ _
 have HL := Lib.hid (hl.below bA)
 have HB := Lib.hid hb
 have HA := Lib.hid bA
 have hpl : plainB ⟨1, f, t, u, x, a, b⟩ = !lackB ⟨1, f, t, u, x, a, b⟩ := plain_lack (by simp)
 have HP := Lib.hid hpl
 have HX := Lib.hid hx
 clear hl hb bA hpl hx
 go_enter Tryz.func189, Tryz.ntmps189
 go_wp2_with fail
 refine (shapeOf_any HL.out 1).mono ?_
 rintro e w1 ⟨rfl, u1⟩
 have hB1 := Hold.below u1 _ _ HB.out
 have b2 : Below w1.heap.size w1 (w1.alloc (.cells #[.bool true, .bool false, .bool false, .bool false, .int .i64 0] ShT)) := (Below.refl _ _).alloc (Nat.le_refl _) _
 have hS2 : (w1.alloc (.cells #[.bool true, .bool false, .bool false, .bool false, .int .i64 0] ShT)).heap[w1.heap.size]? = some (Obj.cells #[.bool true, .bool false, .bool false, .bool false, .int .i64 0] ShT) := heap_alloc_new _ _
 have hB2 := Hold.below b2 _ _ hB1
 have HA2 := Lib.hid (HA.out.trans ((bmore u1 b2).mono HA.out.size))
 clear hB1 u1 b2
 rw [show shV 1 = .agg #[.bool true, .bool false, .bool false, .bool false, .int .i64 0] from rfl]
 obtain ⟨z0, z1, z2, z3, z4, z5, z6⟩ := cs7 hB2 rfl rfl rfl rfl rfl rfl rfl
 have HB2 := Lib.hid hB2
 have HS2 := Lib.hid hS2
 clear hB2 hS2
 go_wp2_with fail
 refine (lacks_1 f t u x a b _).mono ?_
 rintro e w2 ⟨rfl, u2⟩
 have HA3 := Lib.hid (HA2.out.trans (u2.mono HA2.out.size))
 have hB3 := Hold.below u2 _ _ HB2.out
 have hS3 := Hold.below u2 _ _ HS2.out
 have y1 := cellB (j := 1) hB3 rfl
 have y2 := cellB (j := 2) hB3 rfl
 have y4 := cellB (j := 4) hB3 rfl
 have x0 := cellB (j := 0) hS3 rfl
 have x1 := cellB (j := 1) hS3 rfl
 clear u2 hB3 hS3 hq z0 z1 z2 z3 z4 z5 z6
 cases hL : lackB ⟨1, f, t, u, x, a, b⟩
 ·have HLL := Lib.hid hL
  clear hL
  cases hf : nameB f
  ·have HF := Lib.hid hf
   have e : shp ⟨1, f, t, u, x, a, b⟩ = 50 := by unfold shp; rw [HP.out, HLL.out]; simp [namedB, twoB, hf]
   have HE := Lib.hid e
   clear e
   clear hf
   go_wp2_with fail
   refine (isName_no HF.out _).mono ?_
   rintro e w' ⟨rfl, rfl⟩
   go_wp2_with fail
   go_returns
   exact ⟨congrArg (fun z => Ending.returned (Value.int .i64 z)) HE.out.symm, HA3.out⟩
  ·have HF := Lib.hid hf
   clear hf
   go_wp2_with fail
   refine (isName_yes HF.out _).mono ?_
   rintro e w' ⟨rfl, rfl⟩
   have hm := HX.out
   unfold maxLen at hm
   by_cases h64 : 64 < x.size
   ·have h64' : (64 : Int) < (x.size : Int) := by omega
    have e : shp ⟨1, f, t, u, x, a, b⟩ = 1 := by unfold shp; rw [HP.out, HLL.out]; simp [namedB, twoB, h64, HF.out]
    have HE := Lib.hid e
    clear e
    go_wp2_with fail
    go_returns
    exact ⟨congrArg (fun z => Ending.returned (Value.int .i64 z)) HE.out.symm, HA3.out⟩
   ·have h64' : decide ((64 : Int) < (x.size : Int)) = false := by simp; omega
    have e : shp ⟨1, f, t, u, x, a, b⟩ = 0 := by unfold shp; rw [HP.out, HLL.out]; simp [namedB, twoB, h64, HF.out]
    have HE := Lib.hid e
    clear e
    go_wp2_with fail
    go_returns
    exact ⟨congrArg (fun z => Ending.returned (Value.int .i64 z)) HE.out.symm, HA3.out⟩
 ·have HLL := Lib.hid hL
  clear hL
  have e : shp ⟨1, f, t, u, x, a, b⟩ = 53 := by unfold shp; rw [HP.out, HLL.out]; rfl
  have HE := Lib.hid e
  clear e
  go_wp2_with fail
  go_returns
  exact ⟨congrArg (fun z => Ending.returned (Value.int .i64 z)) HE.out.symm, HA3.out⟩
set_option maxRecDepth 100000 in
set_option maxHeartbeats 6400000 in
theorem wrong_2 (f t u : Int) (x : ByteArray) (a b : Int) {w : World} (hl : Laid w) (hx : x.size ≤ maxLen) :
  Calls Tryz.prog 189 #[.agg #[.int .i64 2, .int .i64 f, .int .i64 t, .int .u64 u, .string x, .int .i64 a, .int .i64 b]] w fun e w' => e = .returned (.int .i64 (shp ⟨2, f, t, u, x, a, b⟩)) ∧ Below w.heap.size w w' := by
 have hq : ∀ W : World, (binOp .eql ShT (.agg #[.bool false, .bool false, .bool true, .bool false, .int .i64 0]) (.agg #[.bool false, .bool false, .bool false, .bool false, .int .i64 0])).run Tryz.prog W = .ok (.bool false) W := fun W => by kernel_rfl
 have bA : Below w.heap.size w (w.alloc (.cells #[.int .i64 2, .int .i64 f, .int .i64 t, .int .u64 u, .string x, .int .i64 a, .int .i64 b] NodeT)) := (Below.refl _ _).alloc (Nat.le_refl _) _
 have hb : (w.alloc (.cells #[.int .i64 2, .int .i64 f, .int .i64 t, .int .u64 u, .string x, .int .i64 a, .int .i64 b] NodeT)).heap[w.heap.size]? = some (Obj.cells #[.int .i64 2, .int .i64 f, .int .i64 t, .int .u64 u, .string x, .int .i64 a, .int .i64 b] NodeT) := heap_alloc_new _ _
 have HL := Lib.hid (hl.below bA)
 have HB := Lib.hid hb
 have HA := Lib.hid bA
 have hpl : plainB ⟨2, f, t, u, x, a, b⟩ = !lackB ⟨2, f, t, u, x, a, b⟩ := plain_lack (by simp)
 have HP := Lib.hid hpl
 have HX := Lib.hid hx
 clear hl hb bA hpl hx
 go_enter Tryz.func189, Tryz.ntmps189
 go_wp2_with fail
 refine (shapeOf_any HL.out 2).mono ?_
 rintro e w1 ⟨rfl, u1⟩
 have hB1 := Hold.below u1 _ _ HB.out
 have b2 : Below w1.heap.size w1 (w1.alloc (.cells #[.bool false, .bool false, .bool true, .bool false, .int .i64 0] ShT)) := (Below.refl _ _).alloc (Nat.le_refl _) _
 have hS2 : (w1.alloc (.cells #[.bool false, .bool false, .bool true, .bool false, .int .i64 0] ShT)).heap[w1.heap.size]? = some (Obj.cells #[.bool false, .bool false, .bool true, .bool false, .int .i64 0] ShT) := heap_alloc_new _ _
 have hB2 := Hold.below b2 _ _ hB1
 have HA2 := Lib.hid (HA.out.trans ((bmore u1 b2).mono HA.out.size))
 clear hB1 u1 b2
 rw [show shV 2 = .agg #[.bool false, .bool false, .bool true, .bool false, .int .i64 0] from rfl]
 obtain ⟨z0, z1, z2, z3, z4, z5, z6⟩ := cs7 hB2 rfl rfl rfl rfl rfl rfl rfl
 have HB2 := Lib.hid hB2
 have HS2 := Lib.hid hS2
 clear hB2 hS2
 go_wp2_with fail
 refine (lacks_2 f t u x a b _).mono ?_
 rintro e w2 ⟨rfl, u2⟩
 have HA3 := Lib.hid (HA2.out.trans (u2.mono HA2.out.size))
 have hB3 := Hold.below u2 _ _ HB2.out
 have hS3 := Hold.below u2 _ _ HS2.out
 have y1 := cellB (j := 1) hB3 rfl
 have y2 := cellB (j := 2) hB3 rfl
 have y4 := cellB (j := 4) hB3 rfl
 have x0 := cellB (j := 0) hS3 rfl
 have x1 := cellB (j := 1) hS3 rfl
 clear u2 hB3 hS3 hq z0 z1 z2 z3 z4 z5 z6
 cases hL : lackB ⟨2, f, t, u, x, a, b⟩
 ·have HLL := Lib.hid hL
  clear hL
  have hm := HX.out
  unfold maxLen at hm
  by_cases h64 : 64 < x.size
  ·have h64' : (64 : Int) < (x.size : Int) := by omega
   have e : shp ⟨2, f, t, u, x, a, b⟩ = 1 := by unfold shp; rw [HP.out, HLL.out]; simp [namedB, twoB, h64]
   have HE := Lib.hid e
   clear e
   go_wp2_with fail
   go_returns
   exact ⟨congrArg (fun z => Ending.returned (Value.int .i64 z)) HE.out.symm, HA3.out⟩
  ·have h64' : decide ((64 : Int) < (x.size : Int)) = false := by simp; omega
   have e : shp ⟨2, f, t, u, x, a, b⟩ = 0 := by unfold shp; rw [HP.out, HLL.out]; simp [namedB, twoB, h64]
   have HE := Lib.hid e
   clear e
   go_wp2_with fail
   go_returns
   exact ⟨congrArg (fun z => Ending.returned (Value.int .i64 z)) HE.out.symm, HA3.out⟩
 ·have HLL := Lib.hid hL
  clear hL
  have e : shp ⟨2, f, t, u, x, a, b⟩ = 53 := by unfold shp; rw [HP.out, HLL.out]; rfl
  have HE := Lib.hid e
  clear e
  go_wp2_with fail
  go_returns
  exact ⟨congrArg (fun z => Ending.returned (Value.int .i64 z)) HE.out.symm, HA3.out⟩
set_option maxRecDepth 100000 in
set_option maxHeartbeats 6400000 in
theorem wrong_3 (f t u : Int) (x : ByteArray) (a b : Int) {w : World} (hl : Laid w) (hx : x.size ≤ maxLen) :
  Calls Tryz.prog 189 #[.agg #[.int .i64 3, .int .i64 f, .int .i64 t, .int .u64 u, .string x, .int .i64 a, .int .i64 b]] w fun e w' => e = .returned (.int .i64 (shp ⟨3, f, t, u, x, a, b⟩)) ∧ Below w.heap.size w w' := by
 have hq : ∀ W : World, (binOp .eql ShT (.agg #[.bool false, .bool false, .bool false, .bool true, .int .i64 0]) (.agg #[.bool false, .bool false, .bool false, .bool false, .int .i64 0])).run Tryz.prog W = .ok (.bool false) W := fun W => by kernel_rfl
 have bA : Below w.heap.size w (w.alloc (.cells #[.int .i64 3, .int .i64 f, .int .i64 t, .int .u64 u, .string x, .int .i64 a, .int .i64 b] NodeT)) := (Below.refl _ _).alloc (Nat.le_refl _) _
 have hb : (w.alloc (.cells #[.int .i64 3, .int .i64 f, .int .i64 t, .int .u64 u, .string x, .int .i64 a, .int .i64 b] NodeT)).heap[w.heap.size]? = some (Obj.cells #[.int .i64 3, .int .i64 f, .int .i64 t, .int .u64 u, .string x, .int .i64 a, .int .i64 b] NodeT) := heap_alloc_new _ _
 have HL := Lib.hid (hl.below bA)
 have HB := Lib.hid hb
 have HA := Lib.hid bA
 have hpl : plainB ⟨3, f, t, u, x, a, b⟩ = !lackB ⟨3, f, t, u, x, a, b⟩ := plain_lack (by simp)
 have HP := Lib.hid hpl
 have HX := Lib.hid hx
 clear hl hb bA hpl hx
 go_enter Tryz.func189, Tryz.ntmps189
 go_wp2_with fail
 refine (shapeOf_any HL.out 3).mono ?_
 rintro e w1 ⟨rfl, u1⟩
 have hB1 := Hold.below u1 _ _ HB.out
 have b2 : Below w1.heap.size w1 (w1.alloc (.cells #[.bool false, .bool false, .bool false, .bool true, .int .i64 0] ShT)) := (Below.refl _ _).alloc (Nat.le_refl _) _
 have hS2 : (w1.alloc (.cells #[.bool false, .bool false, .bool false, .bool true, .int .i64 0] ShT)).heap[w1.heap.size]? = some (Obj.cells #[.bool false, .bool false, .bool false, .bool true, .int .i64 0] ShT) := heap_alloc_new _ _
 have hB2 := Hold.below b2 _ _ hB1
 have HA2 := Lib.hid (HA.out.trans ((bmore u1 b2).mono HA.out.size))
 clear hB1 u1 b2
 rw [show shV 3 = .agg #[.bool false, .bool false, .bool false, .bool true, .int .i64 0] from rfl]
 obtain ⟨z0, z1, z2, z3, z4, z5, z6⟩ := cs7 hB2 rfl rfl rfl rfl rfl rfl rfl
 have HB2 := Lib.hid hB2
 have HS2 := Lib.hid hS2
 clear hB2 hS2
 go_wp2_with fail
 refine (lacks_3 f t u x a b _).mono ?_
 rintro e w2 ⟨rfl, u2⟩
 have HA3 := Lib.hid (HA2.out.trans (u2.mono HA2.out.size))
 have hB3 := Hold.below u2 _ _ HB2.out
 have hS3 := Hold.below u2 _ _ HS2.out
 have y1 := cellB (j := 1) hB3 rfl
 have y2 := cellB (j := 2) hB3 rfl
 have y4 := cellB (j := 4) hB3 rfl
 have x0 := cellB (j := 0) hS3 rfl
 have x1 := cellB (j := 1) hS3 rfl
 clear u2 hB3 hS3 hq z0 z1 z2 z3 z4 z5 z6
 cases hL : lackB ⟨3, f, t, u, x, a, b⟩
 ·have HLL := Lib.hid hL
  clear hL
  have hm := HX.out
  unfold maxLen at hm
  by_cases h64 : 64 < x.size
  ·have h64' : (64 : Int) < (x.size : Int) := by omega
   have e : shp ⟨3, f, t, u, x, a, b⟩ = 1 := by unfold shp; rw [HP.out, HLL.out]; simp [namedB, twoB, h64]
   have HE := Lib.hid e
   clear e
   go_wp2_with fail
   go_returns
   exact ⟨congrArg (fun z => Ending.returned (Value.int .i64 z)) HE.out.symm, HA3.out⟩
  ·have h64' : decide ((64 : Int) < (x.size : Int)) = false := by simp; omega
   have e : shp ⟨3, f, t, u, x, a, b⟩ = 0 := by unfold shp; rw [HP.out, HLL.out]; simp [namedB, twoB, h64]
   have HE := Lib.hid e
   clear e
   go_wp2_with fail
   go_returns
   exact ⟨congrArg (fun z => Ending.returned (Value.int .i64 z)) HE.out.symm, HA3.out⟩
 ·have HLL := Lib.hid hL
  clear hL
  have e : shp ⟨3, f, t, u, x, a, b⟩ = 53 := by unfold shp; rw [HP.out, HLL.out]; rfl
  have HE := Lib.hid e
  clear e
  go_wp2_with fail
  go_returns
  exact ⟨congrArg (fun z => Ending.returned (Value.int .i64 z)) HE.out.symm, HA3.out⟩
set_option maxRecDepth 100000 in
set_option maxHeartbeats 6400000 in
theorem wrong_4 (f t u : Int) (x : ByteArray) (a b : Int) {w : World} (hl : Laid w) (hx : x.size ≤ maxLen) :
  Calls Tryz.prog 189 #[.agg #[.int .i64 4, .int .i64 f, .int .i64 t, .int .u64 u, .string x, .int .i64 a, .int .i64 b]] w fun e w' => e = .returned (.int .i64 (shp ⟨4, f, t, u, x, a, b⟩)) ∧ Below w.heap.size w w' := by
 have hq : ∀ W : World, (binOp .eql ShT (.agg #[.bool false, .bool false, .bool false, .bool false, .int .i64 2]) (.agg #[.bool false, .bool false, .bool false, .bool false, .int .i64 0])).run Tryz.prog W = .ok (.bool false) W := fun W => by kernel_rfl
 have bA : Below w.heap.size w (w.alloc (.cells #[.int .i64 4, .int .i64 f, .int .i64 t, .int .u64 u, .string x, .int .i64 a, .int .i64 b] NodeT)) := (Below.refl _ _).alloc (Nat.le_refl _) _
 have hb : (w.alloc (.cells #[.int .i64 4, .int .i64 f, .int .i64 t, .int .u64 u, .string x, .int .i64 a, .int .i64 b] NodeT)).heap[w.heap.size]? = some (Obj.cells #[.int .i64 4, .int .i64 f, .int .i64 t, .int .u64 u, .string x, .int .i64 a, .int .i64 b] NodeT) := heap_alloc_new _ _
 have HL := Lib.hid (hl.below bA)
 have HB := Lib.hid hb
 have HA := Lib.hid bA
 have hpl : plainB ⟨4, f, t, u, x, a, b⟩ = !lackB ⟨4, f, t, u, x, a, b⟩ := plain_lack (by simp)
 have HP := Lib.hid hpl
 have HX := Lib.hid hx
 clear hl hb bA hpl hx
 go_enter Tryz.func189, Tryz.ntmps189
 go_wp2_with fail
 refine (shapeOf_any HL.out 4).mono ?_
 rintro e w1 ⟨rfl, u1⟩
 have hB1 := Hold.below u1 _ _ HB.out
 have b2 : Below w1.heap.size w1 (w1.alloc (.cells #[.bool false, .bool false, .bool false, .bool false, .int .i64 2] ShT)) := (Below.refl _ _).alloc (Nat.le_refl _) _
 have hS2 : (w1.alloc (.cells #[.bool false, .bool false, .bool false, .bool false, .int .i64 2] ShT)).heap[w1.heap.size]? = some (Obj.cells #[.bool false, .bool false, .bool false, .bool false, .int .i64 2] ShT) := heap_alloc_new _ _
 have hB2 := Hold.below b2 _ _ hB1
 have HA2 := Lib.hid (HA.out.trans ((bmore u1 b2).mono HA.out.size))
 clear hB1 u1 b2
 rw [show shV 4 = .agg #[.bool false, .bool false, .bool false, .bool false, .int .i64 2] from rfl]
 obtain ⟨z0, z1, z2, z3, z4, z5, z6⟩ := cs7 hB2 rfl rfl rfl rfl rfl rfl rfl
 have HB2 := Lib.hid hB2
 have HS2 := Lib.hid hS2
 clear hB2 hS2
 go_wp2_with fail
 refine (lacks_4 f t u x a b _).mono ?_
 rintro e w2 ⟨rfl, u2⟩
 have HA3 := Lib.hid (HA2.out.trans (u2.mono HA2.out.size))
 have hB3 := Hold.below u2 _ _ HB2.out
 have hS3 := Hold.below u2 _ _ HS2.out
 have y1 := cellB (j := 1) hB3 rfl
 have y2 := cellB (j := 2) hB3 rfl
 have y4 := cellB (j := 4) hB3 rfl
 have x0 := cellB (j := 0) hS3 rfl
 have x1 := cellB (j := 1) hS3 rfl
 clear u2 hB3 hS3 hq z0 z1 z2 z3 z4 z5 z6
 cases hL : lackB ⟨4, f, t, u, x, a, b⟩
 ·have HLL := Lib.hid hL
  clear hL
  have hm := HX.out
  unfold maxLen at hm
  by_cases h64 : 64 < x.size
  ·have h64' : (64 : Int) < (x.size : Int) := by omega
   have e : shp ⟨4, f, t, u, x, a, b⟩ = 1 := by unfold shp; rw [HP.out, HLL.out]; simp [namedB, twoB, h64]
   have HE := Lib.hid e
   clear e
   go_wp2_with fail
   go_returns
   exact ⟨congrArg (fun z => Ending.returned (Value.int .i64 z)) HE.out.symm, HA3.out⟩
  ·have h64' : decide ((64 : Int) < (x.size : Int)) = false := by simp; omega
   have e : shp ⟨4, f, t, u, x, a, b⟩ = 0 := by unfold shp; rw [HP.out, HLL.out]; simp [namedB, twoB, h64]
   have HE := Lib.hid e
   clear e
   go_wp2_with fail
   go_returns
   exact ⟨congrArg (fun z => Ending.returned (Value.int .i64 z)) HE.out.symm, HA3.out⟩
 ·have HLL := Lib.hid hL
  clear hL
  have e : shp ⟨4, f, t, u, x, a, b⟩ = 53 := by unfold shp; rw [HP.out, HLL.out]; rfl
  have HE := Lib.hid e
  clear e
  go_wp2_with fail
  go_returns
  exact ⟨congrArg (fun z => Ending.returned (Value.int .i64 z)) HE.out.symm, HA3.out⟩
set_option maxRecDepth 100000 in
set_option maxHeartbeats 6400000 in
theorem wrong_5 (f t u : Int) (x : ByteArray) (a b : Int) {w : World} (hl : Laid w) (hx : x.size ≤ maxLen) :
  Calls Tryz.prog 189 #[.agg #[.int .i64 5, .int .i64 f, .int .i64 t, .int .u64 u, .string x, .int .i64 a, .int .i64 b]] w fun e w' => e = .returned (.int .i64 (shp ⟨5, f, t, u, x, a, b⟩)) ∧ Below w.heap.size w w' := by
 have hq : ∀ W : World, (binOp .eql ShT (.agg #[.bool false, .bool false, .bool false, .bool false, .int .i64 1]) (.agg #[.bool false, .bool false, .bool false, .bool false, .int .i64 0])).run Tryz.prog W = .ok (.bool false) W := fun W => by kernel_rfl
 have bA : Below w.heap.size w (w.alloc (.cells #[.int .i64 5, .int .i64 f, .int .i64 t, .int .u64 u, .string x, .int .i64 a, .int .i64 b] NodeT)) := (Below.refl _ _).alloc (Nat.le_refl _) _
 have hb : (w.alloc (.cells #[.int .i64 5, .int .i64 f, .int .i64 t, .int .u64 u, .string x, .int .i64 a, .int .i64 b] NodeT)).heap[w.heap.size]? = some (Obj.cells #[.int .i64 5, .int .i64 f, .int .i64 t, .int .u64 u, .string x, .int .i64 a, .int .i64 b] NodeT) := heap_alloc_new _ _
 have HL := Lib.hid (hl.below bA)
 have HB := Lib.hid hb
 have HA := Lib.hid bA
 have hpl : plainB ⟨5, f, t, u, x, a, b⟩ = !lackB ⟨5, f, t, u, x, a, b⟩ := plain_lack (by simp)
 have HP := Lib.hid hpl
 have HX := Lib.hid hx
 clear hl hb bA hpl hx
 go_enter Tryz.func189, Tryz.ntmps189
 go_wp2_with fail
 refine (shapeOf_any HL.out 5).mono ?_
 rintro e w1 ⟨rfl, u1⟩
 have hB1 := Hold.below u1 _ _ HB.out
 have b2 : Below w1.heap.size w1 (w1.alloc (.cells #[.bool false, .bool false, .bool false, .bool false, .int .i64 1] ShT)) := (Below.refl _ _).alloc (Nat.le_refl _) _
 have hS2 : (w1.alloc (.cells #[.bool false, .bool false, .bool false, .bool false, .int .i64 1] ShT)).heap[w1.heap.size]? = some (Obj.cells #[.bool false, .bool false, .bool false, .bool false, .int .i64 1] ShT) := heap_alloc_new _ _
 have hB2 := Hold.below b2 _ _ hB1
 have HA2 := Lib.hid (HA.out.trans ((bmore u1 b2).mono HA.out.size))
 clear hB1 u1 b2
 rw [show shV 5 = .agg #[.bool false, .bool false, .bool false, .bool false, .int .i64 1] from rfl]
 obtain ⟨z0, z1, z2, z3, z4, z5, z6⟩ := cs7 hB2 rfl rfl rfl rfl rfl rfl rfl
 have HB2 := Lib.hid hB2
 have HS2 := Lib.hid hS2
 clear hB2 hS2
 go_wp2_with fail
 refine (lacks_5 f t u x a b _).mono ?_
 rintro e w2 ⟨rfl, u2⟩
 have HA3 := Lib.hid (HA2.out.trans (u2.mono HA2.out.size))
 have hB3 := Hold.below u2 _ _ HB2.out
 have hS3 := Hold.below u2 _ _ HS2.out
 have y1 := cellB (j := 1) hB3 rfl
 have y2 := cellB (j := 2) hB3 rfl
 have y4 := cellB (j := 4) hB3 rfl
 have x0 := cellB (j := 0) hS3 rfl
 have x1 := cellB (j := 1) hS3 rfl
 clear u2 hB3 hS3 hq z0 z1 z2 z3 z4 z5 z6
 cases hL : lackB ⟨5, f, t, u, x, a, b⟩
 ·have HLL := Lib.hid hL
  clear hL
  have hm := HX.out
  unfold maxLen at hm
  by_cases h64 : 64 < x.size
  ·have h64' : (64 : Int) < (x.size : Int) := by omega
   have e : shp ⟨5, f, t, u, x, a, b⟩ = 1 := by unfold shp; rw [HP.out, HLL.out]; simp [namedB, twoB, h64]
   have HE := Lib.hid e
   clear e
   go_wp2_with fail
   go_returns
   exact ⟨congrArg (fun z => Ending.returned (Value.int .i64 z)) HE.out.symm, HA3.out⟩
  ·have h64' : decide ((64 : Int) < (x.size : Int)) = false := by simp; omega
   have e : shp ⟨5, f, t, u, x, a, b⟩ = 0 := by unfold shp; rw [HP.out, HLL.out]; simp [namedB, twoB, h64]
   have HE := Lib.hid e
   clear e
   go_wp2_with fail
   go_returns
   exact ⟨congrArg (fun z => Ending.returned (Value.int .i64 z)) HE.out.symm, HA3.out⟩
 ·have HLL := Lib.hid hL
  clear hL
  have e : shp ⟨5, f, t, u, x, a, b⟩ = 53 := by unfold shp; rw [HP.out, HLL.out]; rfl
  have HE := Lib.hid e
  clear e
  go_wp2_with fail
  go_returns
  exact ⟨congrArg (fun z => Ending.returned (Value.int .i64 z)) HE.out.symm, HA3.out⟩
set_option maxRecDepth 100000 in
set_option maxHeartbeats 6400000 in
theorem wrong_6 (f t u : Int) (x : ByteArray) (a b : Int) {w : World} (hl : Laid w) (hx : x.size ≤ maxLen) :
  Calls Tryz.prog 189 #[.agg #[.int .i64 6, .int .i64 f, .int .i64 t, .int .u64 u, .string x, .int .i64 a, .int .i64 b]] w fun e w' => e = .returned (.int .i64 (shp ⟨6, f, t, u, x, a, b⟩)) ∧ Below w.heap.size w w' := by
 have hq : ∀ W : World, (binOp .eql ShT (.agg #[.bool true, .bool false, .bool false, .bool false, .int .i64 0]) (.agg #[.bool false, .bool false, .bool false, .bool false, .int .i64 0])).run Tryz.prog W = .ok (.bool false) W := fun W => by kernel_rfl
 have bA : Below w.heap.size w (w.alloc (.cells #[.int .i64 6, .int .i64 f, .int .i64 t, .int .u64 u, .string x, .int .i64 a, .int .i64 b] NodeT)) := (Below.refl _ _).alloc (Nat.le_refl _) _
 have hb : (w.alloc (.cells #[.int .i64 6, .int .i64 f, .int .i64 t, .int .u64 u, .string x, .int .i64 a, .int .i64 b] NodeT)).heap[w.heap.size]? = some (Obj.cells #[.int .i64 6, .int .i64 f, .int .i64 t, .int .u64 u, .string x, .int .i64 a, .int .i64 b] NodeT) := heap_alloc_new _ _
 have HL := Lib.hid (hl.below bA)
 have HB := Lib.hid hb
 have HA := Lib.hid bA
 have hpl : plainB ⟨6, f, t, u, x, a, b⟩ = !lackB ⟨6, f, t, u, x, a, b⟩ := plain_lack (by simp)
 have HP := Lib.hid hpl
 have HX := Lib.hid hx
 clear hl hb bA hpl hx
 go_enter Tryz.func189, Tryz.ntmps189
 go_wp2_with fail
 refine (shapeOf_any HL.out 6).mono ?_
 rintro e w1 ⟨rfl, u1⟩
 have hB1 := Hold.below u1 _ _ HB.out
 have b2 : Below w1.heap.size w1 (w1.alloc (.cells #[.bool true, .bool false, .bool false, .bool false, .int .i64 0] ShT)) := (Below.refl _ _).alloc (Nat.le_refl _) _
 have hS2 : (w1.alloc (.cells #[.bool true, .bool false, .bool false, .bool false, .int .i64 0] ShT)).heap[w1.heap.size]? = some (Obj.cells #[.bool true, .bool false, .bool false, .bool false, .int .i64 0] ShT) := heap_alloc_new _ _
 have hB2 := Hold.below b2 _ _ hB1
 have HA2 := Lib.hid (HA.out.trans ((bmore u1 b2).mono HA.out.size))
 clear hB1 u1 b2
 rw [show shV 6 = .agg #[.bool true, .bool false, .bool false, .bool false, .int .i64 0] from rfl]
 obtain ⟨z0, z1, z2, z3, z4, z5, z6⟩ := cs7 hB2 rfl rfl rfl rfl rfl rfl rfl
 have HB2 := Lib.hid hB2
 have HS2 := Lib.hid hS2
 clear hB2 hS2
 go_wp2_with fail
 refine (lacks_6 f t u x a b _).mono ?_
 rintro e w2 ⟨rfl, u2⟩
 have HA3 := Lib.hid (HA2.out.trans (u2.mono HA2.out.size))
 have hB3 := Hold.below u2 _ _ HB2.out
 have hS3 := Hold.below u2 _ _ HS2.out
 have y1 := cellB (j := 1) hB3 rfl
 have y2 := cellB (j := 2) hB3 rfl
 have y4 := cellB (j := 4) hB3 rfl
 have x0 := cellB (j := 0) hS3 rfl
 have x1 := cellB (j := 1) hS3 rfl
 clear u2 hB3 hS3 hq z0 z1 z2 z3 z4 z5 z6
 cases hL : lackB ⟨6, f, t, u, x, a, b⟩
 ·have HLL := Lib.hid hL
  clear hL
  cases hf : nameB f
  ·have HF := Lib.hid hf
   have e : shp ⟨6, f, t, u, x, a, b⟩ = 50 := by unfold shp; rw [HP.out, HLL.out]; simp [namedB, twoB, hf]
   have HE := Lib.hid e
   clear e
   clear hf
   go_wp2_with fail
   refine (isName_no HF.out _).mono ?_
   rintro e w' ⟨rfl, rfl⟩
   go_wp2_with fail
   go_returns
   exact ⟨congrArg (fun z => Ending.returned (Value.int .i64 z)) HE.out.symm, HA3.out⟩
  ·have HF := Lib.hid hf
   clear hf
   go_wp2_with fail
   refine (isName_yes HF.out _).mono ?_
   rintro e w' ⟨rfl, rfl⟩
   have hm := HX.out
   unfold maxLen at hm
   by_cases h64 : 64 < x.size
   ·have h64' : (64 : Int) < (x.size : Int) := by omega
    have e : shp ⟨6, f, t, u, x, a, b⟩ = 1 := by unfold shp; rw [HP.out, HLL.out]; simp [namedB, twoB, h64, HF.out]
    have HE := Lib.hid e
    clear e
    go_wp2_with fail
    go_returns
    exact ⟨congrArg (fun z => Ending.returned (Value.int .i64 z)) HE.out.symm, HA3.out⟩
   ·have h64' : decide ((64 : Int) < (x.size : Int)) = false := by simp; omega
    have e : shp ⟨6, f, t, u, x, a, b⟩ = 0 := by unfold shp; rw [HP.out, HLL.out]; simp [namedB, twoB, h64, HF.out]
    have HE := Lib.hid e
    clear e
    go_wp2_with fail
    go_returns
    exact ⟨congrArg (fun z => Ending.returned (Value.int .i64 z)) HE.out.symm, HA3.out⟩
 ·have HLL := Lib.hid hL
  clear hL
  have e : shp ⟨6, f, t, u, x, a, b⟩ = 53 := by unfold shp; rw [HP.out, HLL.out]; rfl
  have HE := Lib.hid e
  clear e
  go_wp2_with fail
  go_returns
  exact ⟨congrArg (fun z => Ending.returned (Value.int .i64 z)) HE.out.symm, HA3.out⟩
set_option maxRecDepth 100000 in
set_option maxHeartbeats 6400000 in
theorem wrong_7 (f t u : Int) (x : ByteArray) (a b : Int) {w : World} (hl : Laid w) (hx : x.size ≤ maxLen) :
  Calls Tryz.prog 189 #[.agg #[.int .i64 7, .int .i64 f, .int .i64 t, .int .u64 u, .string x, .int .i64 a, .int .i64 b]] w fun e w' => e = .returned (.int .i64 (shp ⟨7, f, t, u, x, a, b⟩)) ∧ Below w.heap.size w w' := by
 have hq : ∀ W : World, (binOp .eql ShT (.agg #[.bool true, .bool false, .bool false, .bool false, .int .i64 1]) (.agg #[.bool false, .bool false, .bool false, .bool false, .int .i64 0])).run Tryz.prog W = .ok (.bool false) W := fun W => by kernel_rfl
 have bA : Below w.heap.size w (w.alloc (.cells #[.int .i64 7, .int .i64 f, .int .i64 t, .int .u64 u, .string x, .int .i64 a, .int .i64 b] NodeT)) := (Below.refl _ _).alloc (Nat.le_refl _) _
 have hb : (w.alloc (.cells #[.int .i64 7, .int .i64 f, .int .i64 t, .int .u64 u, .string x, .int .i64 a, .int .i64 b] NodeT)).heap[w.heap.size]? = some (Obj.cells #[.int .i64 7, .int .i64 f, .int .i64 t, .int .u64 u, .string x, .int .i64 a, .int .i64 b] NodeT) := heap_alloc_new _ _
 have HL := Lib.hid (hl.below bA)
 have HB := Lib.hid hb
 have HA := Lib.hid bA
 have hpl : plainB ⟨7, f, t, u, x, a, b⟩ = !lackB ⟨7, f, t, u, x, a, b⟩ := plain_lack (by simp)
 have HP := Lib.hid hpl
 have HX := Lib.hid hx
 clear hl hb bA hpl hx
 go_enter Tryz.func189, Tryz.ntmps189
 go_wp2_with fail
 refine (shapeOf_any HL.out 7).mono ?_
 rintro e w1 ⟨rfl, u1⟩
 have hB1 := Hold.below u1 _ _ HB.out
 have b2 : Below w1.heap.size w1 (w1.alloc (.cells #[.bool true, .bool false, .bool false, .bool false, .int .i64 1] ShT)) := (Below.refl _ _).alloc (Nat.le_refl _) _
 have hS2 : (w1.alloc (.cells #[.bool true, .bool false, .bool false, .bool false, .int .i64 1] ShT)).heap[w1.heap.size]? = some (Obj.cells #[.bool true, .bool false, .bool false, .bool false, .int .i64 1] ShT) := heap_alloc_new _ _
 have hB2 := Hold.below b2 _ _ hB1
 have HA2 := Lib.hid (HA.out.trans ((bmore u1 b2).mono HA.out.size))
 clear hB1 u1 b2
 rw [show shV 7 = .agg #[.bool true, .bool false, .bool false, .bool false, .int .i64 1] from rfl]
 obtain ⟨z0, z1, z2, z3, z4, z5, z6⟩ := cs7 hB2 rfl rfl rfl rfl rfl rfl rfl
 have HB2 := Lib.hid hB2
 have HS2 := Lib.hid hS2
 clear hB2 hS2
 go_wp2_with fail
 refine (lacks_7 f t u x a b _).mono ?_
 rintro e w2 ⟨rfl, u2⟩
 have HA3 := Lib.hid (HA2.out.trans (u2.mono HA2.out.size))
 have hB3 := Hold.below u2 _ _ HB2.out
 have hS3 := Hold.below u2 _ _ HS2.out
 have y1 := cellB (j := 1) hB3 rfl
 have y2 := cellB (j := 2) hB3 rfl
 have y4 := cellB (j := 4) hB3 rfl
 have x0 := cellB (j := 0) hS3 rfl
 have x1 := cellB (j := 1) hS3 rfl
 clear u2 hB3 hS3 hq z0 z1 z2 z3 z4 z5 z6
 cases hL : lackB ⟨7, f, t, u, x, a, b⟩
 ·have HLL := Lib.hid hL
  clear hL
  cases hf : nameB f
  ·have HF := Lib.hid hf
   have e : shp ⟨7, f, t, u, x, a, b⟩ = 50 := by unfold shp; rw [HP.out, HLL.out]; simp [namedB, twoB, hf]
   have HE := Lib.hid e
   clear e
   clear hf
   go_wp2_with fail
   refine (isName_no HF.out _).mono ?_
   rintro e w' ⟨rfl, rfl⟩
   go_wp2_with fail
   go_returns
   exact ⟨congrArg (fun z => Ending.returned (Value.int .i64 z)) HE.out.symm, HA3.out⟩
  ·have HF := Lib.hid hf
   clear hf
   go_wp2_with fail
   refine (isName_yes HF.out _).mono ?_
   rintro e w' ⟨rfl, rfl⟩
   have hm := HX.out
   unfold maxLen at hm
   by_cases h64 : 64 < x.size
   ·have h64' : (64 : Int) < (x.size : Int) := by omega
    have e : shp ⟨7, f, t, u, x, a, b⟩ = 1 := by unfold shp; rw [HP.out, HLL.out]; simp [namedB, twoB, h64, HF.out]
    have HE := Lib.hid e
    clear e
    go_wp2_with fail
    go_returns
    exact ⟨congrArg (fun z => Ending.returned (Value.int .i64 z)) HE.out.symm, HA3.out⟩
   ·have h64' : decide ((64 : Int) < (x.size : Int)) = false := by simp; omega
    have e : shp ⟨7, f, t, u, x, a, b⟩ = 0 := by unfold shp; rw [HP.out, HLL.out]; simp [namedB, twoB, h64, HF.out]
    have HE := Lib.hid e
    clear e
    go_wp2_with fail
    go_returns
    exact ⟨congrArg (fun z => Ending.returned (Value.int .i64 z)) HE.out.symm, HA3.out⟩
 ·have HLL := Lib.hid hL
  clear hL
  have e : shp ⟨7, f, t, u, x, a, b⟩ = 53 := by unfold shp; rw [HP.out, HLL.out]; rfl
  have HE := Lib.hid e
  clear e
  go_wp2_with fail
  go_returns
  exact ⟨congrArg (fun z => Ending.returned (Value.int .i64 z)) HE.out.symm, HA3.out⟩
set_option maxRecDepth 100000 in
set_option maxHeartbeats 6400000 in
theorem wrong_8 (f t u : Int) (x : ByteArray) (a b : Int) {w : World} (hl : Laid w) (hx : x.size ≤ maxLen) :
  Calls Tryz.prog 189 #[.agg #[.int .i64 8, .int .i64 f, .int .i64 t, .int .u64 u, .string x, .int .i64 a, .int .i64 b]] w fun e w' => e = .returned (.int .i64 (shp ⟨8, f, t, u, x, a, b⟩)) ∧ Below w.heap.size w w' := by
 have hq : ∀ W : World, (binOp .eql ShT (.agg #[.bool true, .bool true, .bool false, .bool false, .int .i64 1]) (.agg #[.bool false, .bool false, .bool false, .bool false, .int .i64 0])).run Tryz.prog W = .ok (.bool false) W := fun W => by kernel_rfl
 have bA : Below w.heap.size w (w.alloc (.cells #[.int .i64 8, .int .i64 f, .int .i64 t, .int .u64 u, .string x, .int .i64 a, .int .i64 b] NodeT)) := (Below.refl _ _).alloc (Nat.le_refl _) _
 have hb : (w.alloc (.cells #[.int .i64 8, .int .i64 f, .int .i64 t, .int .u64 u, .string x, .int .i64 a, .int .i64 b] NodeT)).heap[w.heap.size]? = some (Obj.cells #[.int .i64 8, .int .i64 f, .int .i64 t, .int .u64 u, .string x, .int .i64 a, .int .i64 b] NodeT) := heap_alloc_new _ _
 have HL := Lib.hid (hl.below bA)
 have HB := Lib.hid hb
 have HA := Lib.hid bA
 have hpl : plainB ⟨8, f, t, u, x, a, b⟩ = !lackB ⟨8, f, t, u, x, a, b⟩ := plain_lack (by simp)
 have HP := Lib.hid hpl
 have HX := Lib.hid hx
 clear hl hb bA hpl hx
 go_enter Tryz.func189, Tryz.ntmps189
 go_wp2_with fail
 refine (shapeOf_any HL.out 8).mono ?_
 rintro e w1 ⟨rfl, u1⟩
 have hB1 := Hold.below u1 _ _ HB.out
 have b2 : Below w1.heap.size w1 (w1.alloc (.cells #[.bool true, .bool true, .bool false, .bool false, .int .i64 1] ShT)) := (Below.refl _ _).alloc (Nat.le_refl _) _
 have hS2 : (w1.alloc (.cells #[.bool true, .bool true, .bool false, .bool false, .int .i64 1] ShT)).heap[w1.heap.size]? = some (Obj.cells #[.bool true, .bool true, .bool false, .bool false, .int .i64 1] ShT) := heap_alloc_new _ _
 have hB2 := Hold.below b2 _ _ hB1
 have HA2 := Lib.hid (HA.out.trans ((bmore u1 b2).mono HA.out.size))
 clear hB1 u1 b2
 rw [show shV 8 = .agg #[.bool true, .bool true, .bool false, .bool false, .int .i64 1] from rfl]
 obtain ⟨z0, z1, z2, z3, z4, z5, z6⟩ := cs7 hB2 rfl rfl rfl rfl rfl rfl rfl
 have HB2 := Lib.hid hB2
 have HS2 := Lib.hid hS2
 clear hB2 hS2
 go_wp2_with fail
 refine (lacks_8 f t u x a b _).mono ?_
 rintro e w2 ⟨rfl, u2⟩
 have HA3 := Lib.hid (HA2.out.trans (u2.mono HA2.out.size))
 have hB3 := Hold.below u2 _ _ HB2.out
 have hS3 := Hold.below u2 _ _ HS2.out
 have y1 := cellB (j := 1) hB3 rfl
 have y2 := cellB (j := 2) hB3 rfl
 have y4 := cellB (j := 4) hB3 rfl
 have x0 := cellB (j := 0) hS3 rfl
 have x1 := cellB (j := 1) hS3 rfl
 clear u2 hB3 hS3 hq z0 z1 z2 z3 z4 z5 z6
 cases hL : lackB ⟨8, f, t, u, x, a, b⟩
 ·have HLL := Lib.hid hL
  clear hL
  cases hf : nameB f
  ·have HF := Lib.hid hf
   have e : shp ⟨8, f, t, u, x, a, b⟩ = 50 := by unfold shp; rw [HP.out, HLL.out]; simp [namedB, twoB, hf]
   have HE := Lib.hid e
   clear e
   clear hf
   go_wp2_with fail
   refine (isName_no HF.out _).mono ?_
   rintro e w' ⟨rfl, rfl⟩
   go_wp2_with fail
   go_returns
   exact ⟨congrArg (fun z => Ending.returned (Value.int .i64 z)) HE.out.symm, HA3.out⟩
  ·have HF := Lib.hid hf
   clear hf
   cases ht : nameB t
   ·have HT := Lib.hid ht
    have e : shp ⟨8, f, t, u, x, a, b⟩ = 50 := by unfold shp; rw [HP.out, HLL.out]; simp [namedB, twoB, ht]
    have HE := Lib.hid e
    clear e
    clear ht
    go_wp2_with fail
    refine (isName_yes HF.out _).mono ?_
    rintro e w' ⟨rfl, rfl⟩
    go_wp2_with fail
    refine (isName_no HT.out _).mono ?_
    rintro e w' ⟨rfl, rfl⟩
    go_wp2_with fail
    go_returns
    exact ⟨congrArg (fun z => Ending.returned (Value.int .i64 z)) HE.out.symm, HA3.out⟩
   ·have HT := Lib.hid ht
    clear ht
    cases hft : (f == t)
    ·have HFT := Lib.hid hft
     go_wp2_with fail
     refine (isName_yes HF.out _).mono ?_
     rintro e w' ⟨rfl, rfl⟩
     go_wp2_with fail
     refine (isName_yes HT.out _).mono ?_
     rintro e w' ⟨rfl, rfl⟩
     have hm := HX.out
     unfold maxLen at hm
     by_cases h64 : 64 < x.size
     ·have h64' : (64 : Int) < (x.size : Int) := by omega
      have e : shp ⟨8, f, t, u, x, a, b⟩ = 1 := by unfold shp; rw [HP.out, HLL.out]; simp [namedB, twoB, h64, HF.out, HT.out, HFT.out]
      have HE := Lib.hid e
      clear e
      go_wp2_with fail
      go_returns
      exact ⟨congrArg (fun z => Ending.returned (Value.int .i64 z)) HE.out.symm, HA3.out⟩
     ·have h64' : decide ((64 : Int) < (x.size : Int)) = false := by simp; omega
      have e : shp ⟨8, f, t, u, x, a, b⟩ = 0 := by unfold shp; rw [HP.out, HLL.out]; simp [namedB, twoB, h64, HF.out, HT.out, HFT.out]
      have HE := Lib.hid e
      clear e
      go_wp2_with fail
      go_returns
      exact ⟨congrArg (fun z => Ending.returned (Value.int .i64 z)) HE.out.symm, HA3.out⟩
    ·have HFT := Lib.hid hft
     have e : shp ⟨8, f, t, u, x, a, b⟩ = 50 := by unfold shp; rw [HP.out, HLL.out]; simp [namedB, twoB, HFT.out]
     have HE := Lib.hid e
     clear e
     go_wp2_with fail
     refine (isName_yes HF.out _).mono ?_
     rintro e w' ⟨rfl, rfl⟩
     go_wp2_with fail
     refine (isName_yes HT.out _).mono ?_
     rintro e w' ⟨rfl, rfl⟩
     go_wp2_with fail
     go_returns
     exact ⟨congrArg (fun z => Ending.returned (Value.int .i64 z)) HE.out.symm, HA3.out⟩
 ·have HLL := Lib.hid hL
  clear hL
  have e : shp ⟨8, f, t, u, x, a, b⟩ = 53 := by unfold shp; rw [HP.out, HLL.out]; rfl
  have HE := Lib.hid e
  clear e
  go_wp2_with fail
  go_returns
  exact ⟨congrArg (fun z => Ending.returned (Value.int .i64 z)) HE.out.symm, HA3.out⟩
set_option maxRecDepth 100000 in
set_option maxHeartbeats 6400000 in
theorem wrong_9 (f t u : Int) (x : ByteArray) (a b : Int) {w : World} (hl : Laid w) (hx : x.size ≤ maxLen) :
  Calls Tryz.prog 189 #[.agg #[.int .i64 9, .int .i64 f, .int .i64 t, .int .u64 u, .string x, .int .i64 a, .int .i64 b]] w fun e w' => e = .returned (.int .i64 (shp ⟨9, f, t, u, x, a, b⟩)) ∧ Below w.heap.size w w' := by
 have hq : ∀ W : World, (binOp .eql ShT (.agg #[.bool true, .bool true, .bool false, .bool false, .int .i64 1]) (.agg #[.bool false, .bool false, .bool false, .bool false, .int .i64 0])).run Tryz.prog W = .ok (.bool false) W := fun W => by kernel_rfl
 have bA : Below w.heap.size w (w.alloc (.cells #[.int .i64 9, .int .i64 f, .int .i64 t, .int .u64 u, .string x, .int .i64 a, .int .i64 b] NodeT)) := (Below.refl _ _).alloc (Nat.le_refl _) _
 have hb : (w.alloc (.cells #[.int .i64 9, .int .i64 f, .int .i64 t, .int .u64 u, .string x, .int .i64 a, .int .i64 b] NodeT)).heap[w.heap.size]? = some (Obj.cells #[.int .i64 9, .int .i64 f, .int .i64 t, .int .u64 u, .string x, .int .i64 a, .int .i64 b] NodeT) := heap_alloc_new _ _
 have HL := Lib.hid (hl.below bA)
 have HB := Lib.hid hb
 have HA := Lib.hid bA
 have hpl : plainB ⟨9, f, t, u, x, a, b⟩ = !lackB ⟨9, f, t, u, x, a, b⟩ := plain_lack (by simp)
 have HP := Lib.hid hpl
 have HX := Lib.hid hx
 clear hl hb bA hpl hx
 go_enter Tryz.func189, Tryz.ntmps189
 go_wp2_with fail
 refine (shapeOf_any HL.out 9).mono ?_
 rintro e w1 ⟨rfl, u1⟩
 have hB1 := Hold.below u1 _ _ HB.out
 have b2 : Below w1.heap.size w1 (w1.alloc (.cells #[.bool true, .bool true, .bool false, .bool false, .int .i64 1] ShT)) := (Below.refl _ _).alloc (Nat.le_refl _) _
 have hS2 : (w1.alloc (.cells #[.bool true, .bool true, .bool false, .bool false, .int .i64 1] ShT)).heap[w1.heap.size]? = some (Obj.cells #[.bool true, .bool true, .bool false, .bool false, .int .i64 1] ShT) := heap_alloc_new _ _
 have hB2 := Hold.below b2 _ _ hB1
 have HA2 := Lib.hid (HA.out.trans ((bmore u1 b2).mono HA.out.size))
 clear hB1 u1 b2
 rw [show shV 9 = .agg #[.bool true, .bool true, .bool false, .bool false, .int .i64 1] from rfl]
 obtain ⟨z0, z1, z2, z3, z4, z5, z6⟩ := cs7 hB2 rfl rfl rfl rfl rfl rfl rfl
 have HB2 := Lib.hid hB2
 have HS2 := Lib.hid hS2
 clear hB2 hS2
 go_wp2_with fail
 refine (lacks_9 f t u x a b _).mono ?_
 rintro e w2 ⟨rfl, u2⟩
 have HA3 := Lib.hid (HA2.out.trans (u2.mono HA2.out.size))
 have hB3 := Hold.below u2 _ _ HB2.out
 have hS3 := Hold.below u2 _ _ HS2.out
 have y1 := cellB (j := 1) hB3 rfl
 have y2 := cellB (j := 2) hB3 rfl
 have y4 := cellB (j := 4) hB3 rfl
 have x0 := cellB (j := 0) hS3 rfl
 have x1 := cellB (j := 1) hS3 rfl
 clear u2 hB3 hS3 hq z0 z1 z2 z3 z4 z5 z6
 cases hL : lackB ⟨9, f, t, u, x, a, b⟩
 ·have HLL := Lib.hid hL
  clear hL
  cases hf : nameB f
  ·have HF := Lib.hid hf
   have e : shp ⟨9, f, t, u, x, a, b⟩ = 50 := by unfold shp; rw [HP.out, HLL.out]; simp [namedB, twoB, hf]
   have HE := Lib.hid e
   clear e
   clear hf
   go_wp2_with fail
   refine (isName_no HF.out _).mono ?_
   rintro e w' ⟨rfl, rfl⟩
   go_wp2_with fail
   go_returns
   exact ⟨congrArg (fun z => Ending.returned (Value.int .i64 z)) HE.out.symm, HA3.out⟩
  ·have HF := Lib.hid hf
   clear hf
   cases ht : nameB t
   ·have HT := Lib.hid ht
    have e : shp ⟨9, f, t, u, x, a, b⟩ = 50 := by unfold shp; rw [HP.out, HLL.out]; simp [namedB, twoB, ht]
    have HE := Lib.hid e
    clear e
    clear ht
    go_wp2_with fail
    refine (isName_yes HF.out _).mono ?_
    rintro e w' ⟨rfl, rfl⟩
    go_wp2_with fail
    refine (isName_no HT.out _).mono ?_
    rintro e w' ⟨rfl, rfl⟩
    go_wp2_with fail
    go_returns
    exact ⟨congrArg (fun z => Ending.returned (Value.int .i64 z)) HE.out.symm, HA3.out⟩
   ·have HT := Lib.hid ht
    clear ht
    cases hft : (f == t)
    ·have HFT := Lib.hid hft
     go_wp2_with fail
     refine (isName_yes HF.out _).mono ?_
     rintro e w' ⟨rfl, rfl⟩
     go_wp2_with fail
     refine (isName_yes HT.out _).mono ?_
     rintro e w' ⟨rfl, rfl⟩
     have hm := HX.out
     unfold maxLen at hm
     by_cases h64 : 64 < x.size
     ·have h64' : (64 : Int) < (x.size : Int) := by omega
      have e : shp ⟨9, f, t, u, x, a, b⟩ = 1 := by unfold shp; rw [HP.out, HLL.out]; simp [namedB, twoB, h64, HF.out, HT.out, HFT.out]
      have HE := Lib.hid e
      clear e
      go_wp2_with fail
      go_returns
      exact ⟨congrArg (fun z => Ending.returned (Value.int .i64 z)) HE.out.symm, HA3.out⟩
     ·have h64' : decide ((64 : Int) < (x.size : Int)) = false := by simp; omega
      have e : shp ⟨9, f, t, u, x, a, b⟩ = 0 := by unfold shp; rw [HP.out, HLL.out]; simp [namedB, twoB, h64, HF.out, HT.out, HFT.out]
      have HE := Lib.hid e
      clear e
      go_wp2_with fail
      go_returns
      exact ⟨congrArg (fun z => Ending.returned (Value.int .i64 z)) HE.out.symm, HA3.out⟩
    ·have HFT := Lib.hid hft
     have e : shp ⟨9, f, t, u, x, a, b⟩ = 50 := by unfold shp; rw [HP.out, HLL.out]; simp [namedB, twoB, HFT.out]
     have HE := Lib.hid e
     clear e
     go_wp2_with fail
     refine (isName_yes HF.out _).mono ?_
     rintro e w' ⟨rfl, rfl⟩
     go_wp2_with fail
     refine (isName_yes HT.out _).mono ?_
     rintro e w' ⟨rfl, rfl⟩
     go_wp2_with fail
     go_returns
     exact ⟨congrArg (fun z => Ending.returned (Value.int .i64 z)) HE.out.symm, HA3.out⟩
 ·have HLL := Lib.hid hL
  clear hL
  have e : shp ⟨9, f, t, u, x, a, b⟩ = 53 := by unfold shp; rw [HP.out, HLL.out]; rfl
  have HE := Lib.hid e
  clear e
  go_wp2_with fail
  go_returns
  exact ⟨congrArg (fun z => Ending.returned (Value.int .i64 z)) HE.out.symm, HA3.out⟩
set_option maxRecDepth 100000 in
set_option maxHeartbeats 3200000 in
theorem wrong_out (k f t u : Int) (x : ByteArray) (a b : Int) {w : World} (hl : Laid w) (hk : k < 1 ∨ 9 < k) :
  Calls Tryz.prog 189 #[.agg #[.int .i64 k, .int .i64 f, .int .i64 t, .int .u64 u, .string x, .int .i64 a, .int .i64 b]] w fun e w' => e = .returned (.int .i64 (shp ⟨k, f, t, u, x, a, b⟩)) ∧ Below w.heap.size w w' := by
 have bA : Below w.heap.size w (w.alloc (.cells #[.int .i64 k, .int .i64 f, .int .i64 t, .int .u64 u, .string x, .int .i64 a, .int .i64 b] NodeT)) := (Below.refl _ _).alloc (Nat.le_refl _) _
 have HL := Lib.hid (hl.below bA)
 have HA := Lib.hid bA
 have e : shp ⟨k, f, t, u, x, a, b⟩ = 53 := by unfold shp; rw [if_pos (plain_out hk)]
 rw [e]
 have hq := eq_zero
 have HS := Lib.hid (shV_out hk)
 clear hl bA e hk
 go_enter Tryz.func189, Tryz.ntmps189
 go_wp2_with fail
 refine (shapeOf_any HL.out k).mono ?_
 rintro e w1 ⟨rfl, u1⟩
 have HA2 := Lib.hid (HA.out.trans ((bmore u1 ((Below.refl _ _).alloc (Nat.le_refl _) (.cells #[.bool false, .bool false, .bool false, .bool false, .int .i64 0] ShT))).mono HA.out.size))
 clear u1
 rw [HS.out]
 go_wp2_with fail
 go_returns
 exact ⟨rfl, HA2.out⟩
theorem wrong_any (n : Nd) {w : World} (hl : Laid w) (hx : n.text.size ≤ maxLen) :
  Calls Tryz.prog 189 #[.agg (nodeA n)] w fun e w' => e = .returned (.int .i64 (shp n)) ∧ Below w.heap.size w w' := by
 obtain ⟨k, f, t, u, x, a, b⟩ := n
 by_cases hk : k < 1 ∨ 9 < k
 ·exact wrong_out k f t u x a b hl hk
 ·rcases (by omega : k = 1 ∨ k = 2 ∨ k = 3 ∨ k = 4 ∨ k = 5 ∨ k = 6 ∨ k = 7 ∨ k = 8 ∨ k = 9) with e | e | e | e | e | e | e | e | e
  ·subst e; exact wrong_1 f t u x a b hl hx
  ·subst e; exact wrong_2 f t u x a b hl hx
  ·subst e; exact wrong_3 f t u x a b hl hx
  ·subst e; exact wrong_4 f t u x a b hl hx
  ·subst e; exact wrong_5 f t u x a b hl hx
  ·subst e; exact wrong_6 f t u x a b hl hx
  ·subst e; exact wrong_7 f t u x a b hl hx
  ·subst e; exact wrong_8 f t u x a b hl hx
  ·subst e; exact wrong_9 f t u x a b hl hx
end Go.Proofs.YtjmcaceegfdkkaaGreatDoor
