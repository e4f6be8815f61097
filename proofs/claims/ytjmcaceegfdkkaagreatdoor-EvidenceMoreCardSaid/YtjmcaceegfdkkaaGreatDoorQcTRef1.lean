/-
  What a node by itself is refused with: the document's own.
-/
import Derived.Test.YtjmcaceegfdkkaaGreatDoorQcTKey
namespace Go.Proofs.YtjmcaceegfdkkaaGreatDoor
open Go.RowKit
set_option linter.unusedVariables false
theorem emp_nil : (⟨#[]⟩ : ByteArray).toList = [] := by rw [ByteArray.toList_eq]
theorem emp_no {x : ByteArray} (h : x.toList.isEmpty = false) : (x.toList == (⟨#[]⟩ : ByteArray).toList) = false := by
 rw [emp_nil]
 cases hq : x.toList with
 | nil => rw [hq] at h; cases h
 | cons a l => rfl
theorem emp_yes {x : ByteArray} (h : x.toList.isEmpty = true) : (x.toList == (⟨#[]⟩ : ByteArray).toList) = true := by
 rw [emp_nil]
 cases hq : x.toList with
 | nil => rfl
 | cons a l => rw [hq] at h; cases h
set_option maxHeartbeats 800000 in
theorem rname (n : Int) (w : World) : Calls Tryz.prog 212 #[.int .i64 n] w fun e w' => e = .returned (.bool (nameB n)) ∧ w = w' := by
 unfold nameB
 by_cases h0 : 0 ≤ n
 ·by_cases h1 : n < 16
  ·rw [decide_eq_true h0, decide_eq_true h1]
   go_enter Tryz.func212, Tryz.ntmps212
   go_wp2_with fail
   go_returns
   exact ⟨rfl, rfl⟩
  ·rw [decide_eq_true h0, decide_eq_false h1]
   have h1' : decide (n < 16) = false := decide_eq_false h1
   go_enter Tryz.func212, Tryz.ntmps212
   go_wp2_with fail
   go_returns
   exact ⟨rfl, rfl⟩
 ·rw [decide_eq_false h0]
  have h0' : decide (0 ≤ n) = false := decide_eq_false h0
  go_enter Tryz.func212, Tryz.ntmps212
  go_wp2_with fail
  go_returns
  exact ⟨rfl, rfl⟩
theorem rname_yes {n : Int} (h : nameB n = true) (W : World) : Calls Tryz.prog 212 #[.int .i64 n] W fun e w' => e = .returned (.bool true) ∧ W = w' := by
 have := rname n W
 rwa [h] at this
theorem rname_no {n : Int} (h : nameB n = false) (W : World) : Calls Tryz.prog 212 #[.int .i64 n] W fun e w' => e = .returned (.bool false) ∧ W = w' := by
 have := rname n W
 rwa [h] at this
theorem rtwo_1 (w : World) : Calls Tryz.prog 213 #[.int .i64 1] w fun e w' => e = .returned (.bool false) ∧ w = w' := by
 go_enter Tryz.func213, Tryz.ntmps213
 go_wp2_with fail
 go_returns
 exact ⟨rfl, rfl⟩
theorem rnamed_1 (w : World) : Calls Tryz.prog 211 #[.int .i64 1] w fun e w' => e = .returned (.bool true) ∧ w = w' := by
 go_enter Tryz.func211, Tryz.ntmps211
 go_wp2_with fail
 go_returns
 exact ⟨rfl, rfl⟩
theorem rkids_1 (w : World) : Calls Tryz.prog 90 #[.int .i64 1] w fun e w' => e = .returned (.int .i64 0) ∧ w = w' := by
 go_enter Tryz.func90, Tryz.ntmps90
 go_wp2_with fail
 go_returns
 exact ⟨rfl, rfl⟩
theorem rtwo_2 (w : World) : Calls Tryz.prog 213 #[.int .i64 2] w fun e w' => e = .returned (.bool false) ∧ w = w' := by
 go_enter Tryz.func213, Tryz.ntmps213
 go_wp2_with fail
 go_returns
 exact ⟨rfl, rfl⟩
theorem rnamed_2 (w : World) : Calls Tryz.prog 211 #[.int .i64 2] w fun e w' => e = .returned (.bool false) ∧ w = w' := by
 go_enter Tryz.func211, Tryz.ntmps211
 go_wp2_with fail
 refine (rtwo_2 _).mono ?_
 rintro e w' ⟨rfl, rfl⟩
 go_wp2_with fail
 go_returns
 exact ⟨rfl, rfl⟩
theorem rkids_2 (w : World) : Calls Tryz.prog 90 #[.int .i64 2] w fun e w' => e = .returned (.int .i64 0) ∧ w = w' := by
 go_enter Tryz.func90, Tryz.ntmps90
 go_wp2_with fail
 go_returns
 exact ⟨rfl, rfl⟩
theorem rtwo_3 (w : World) : Calls Tryz.prog 213 #[.int .i64 3] w fun e w' => e = .returned (.bool false) ∧ w = w' := by
 go_enter Tryz.func213, Tryz.ntmps213
 go_wp2_with fail
 go_returns
 exact ⟨rfl, rfl⟩
theorem rnamed_3 (w : World) : Calls Tryz.prog 211 #[.int .i64 3] w fun e w' => e = .returned (.bool false) ∧ w = w' := by
 go_enter Tryz.func211, Tryz.ntmps211
 go_wp2_with fail
 refine (rtwo_3 _).mono ?_
 rintro e w' ⟨rfl, rfl⟩
 go_wp2_with fail
 go_returns
 exact ⟨rfl, rfl⟩
theorem rkids_3 (w : World) : Calls Tryz.prog 90 #[.int .i64 3] w fun e w' => e = .returned (.int .i64 0) ∧ w = w' := by
 go_enter Tryz.func90, Tryz.ntmps90
 go_wp2_with fail
 go_returns
 exact ⟨rfl, rfl⟩
theorem rtwo_4 (w : World) : Calls Tryz.prog 213 #[.int .i64 4] w fun e w' => e = .returned (.bool false) ∧ w = w' := by
 go_enter Tryz.func213, Tryz.ntmps213
 go_wp2_with fail
 go_returns
 exact ⟨rfl, rfl⟩
theorem rnamed_4 (w : World) : Calls Tryz.prog 211 #[.int .i64 4] w fun e w' => e = .returned (.bool false) ∧ w = w' := by
 go_enter Tryz.func211, Tryz.ntmps211
 go_wp2_with fail
 refine (rtwo_4 _).mono ?_
 rintro e w' ⟨rfl, rfl⟩
 go_wp2_with fail
 go_returns
 exact ⟨rfl, rfl⟩
theorem rkids_4 (w : World) : Calls Tryz.prog 90 #[.int .i64 4] w fun e w' => e = .returned (.int .i64 2) ∧ w = w' := by
 go_enter Tryz.func90, Tryz.ntmps90
 go_wp2_with fail
 go_returns
 exact ⟨rfl, rfl⟩
theorem rtwo_5 (w : World) : Calls Tryz.prog 213 #[.int .i64 5] w fun e w' => e = .returned (.bool false) ∧ w = w' := by
 go_enter Tryz.func213, Tryz.ntmps213
 go_wp2_with fail
 go_returns
 exact ⟨rfl, rfl⟩
theorem rnamed_5 (w : World) : Calls Tryz.prog 211 #[.int .i64 5] w fun e w' => e = .returned (.bool false) ∧ w = w' := by
 go_enter Tryz.func211, Tryz.ntmps211
 go_wp2_with fail
 refine (rtwo_5 _).mono ?_
 rintro e w' ⟨rfl, rfl⟩
 go_wp2_with fail
 go_returns
 exact ⟨rfl, rfl⟩
theorem rkids_5 (w : World) : Calls Tryz.prog 90 #[.int .i64 5] w fun e w' => e = .returned (.int .i64 1) ∧ w = w' := by
 go_enter Tryz.func90, Tryz.ntmps90
 go_wp2_with fail
 go_returns
 exact ⟨rfl, rfl⟩
theorem rtwo_6 (w : World) : Calls Tryz.prog 213 #[.int .i64 6] w fun e w' => e = .returned (.bool false) ∧ w = w' := by
 go_enter Tryz.func213, Tryz.ntmps213
 go_wp2_with fail
 go_returns
 exact ⟨rfl, rfl⟩
theorem rnamed_6 (w : World) : Calls Tryz.prog 211 #[.int .i64 6] w fun e w' => e = .returned (.bool true) ∧ w = w' := by
 go_enter Tryz.func211, Tryz.ntmps211
 go_wp2_with fail
 go_returns
 exact ⟨rfl, rfl⟩
theorem rkids_6 (w : World) : Calls Tryz.prog 90 #[.int .i64 6] w fun e w' => e = .returned (.int .i64 0) ∧ w = w' := by
 go_enter Tryz.func90, Tryz.ntmps90
 go_wp2_with fail
 go_returns
 exact ⟨rfl, rfl⟩
theorem rtwo_7 (w : World) : Calls Tryz.prog 213 #[.int .i64 7] w fun e w' => e = .returned (.bool false) ∧ w = w' := by
 go_enter Tryz.func213, Tryz.ntmps213
 go_wp2_with fail
 go_returns
 exact ⟨rfl, rfl⟩
theorem rnamed_7 (w : World) : Calls Tryz.prog 211 #[.int .i64 7] w fun e w' => e = .returned (.bool true) ∧ w = w' := by
 go_enter Tryz.func211, Tryz.ntmps211
 go_wp2_with fail
 go_returns
 exact ⟨rfl, rfl⟩
theorem rkids_7 (w : World) : Calls Tryz.prog 90 #[.int .i64 7] w fun e w' => e = .returned (.int .i64 1) ∧ w = w' := by
 go_enter Tryz.func90, Tryz.ntmps90
 go_wp2_with fail
 go_returns
 exact ⟨rfl, rfl⟩
theorem rtwo_8 (w : World) : Calls Tryz.prog 213 #[.int .i64 8] w fun e w' => e = .returned (.bool true) ∧ w = w' := by
 go_enter Tryz.func213, Tryz.ntmps213
 go_wp2_with fail
 go_returns
 exact ⟨rfl, rfl⟩
theorem rnamed_8 (w : World) : Calls Tryz.prog 211 #[.int .i64 8] w fun e w' => e = .returned (.bool true) ∧ w = w' := by
 go_enter Tryz.func211, Tryz.ntmps211
 go_wp2_with fail
 refine (rtwo_8 _).mono ?_
 rintro e w' ⟨rfl, rfl⟩
 go_wp2_with fail
 go_returns
 exact ⟨rfl, rfl⟩
theorem rkids_8 (w : World) : Calls Tryz.prog 90 #[.int .i64 8] w fun e w' => e = .returned (.int .i64 1) ∧ w = w' := by
 go_enter Tryz.func90, Tryz.ntmps90
 go_wp2_with fail
 go_returns
 exact ⟨rfl, rfl⟩
theorem rtwo_9 (w : World) : Calls Tryz.prog 213 #[.int .i64 9] w fun e w' => e = .returned (.bool true) ∧ w = w' := by
 go_enter Tryz.func213, Tryz.ntmps213
 go_wp2_with fail
 go_returns
 exact ⟨rfl, rfl⟩
theorem rnamed_9 (w : World) : Calls Tryz.prog 211 #[.int .i64 9] w fun e w' => e = .returned (.bool true) ∧ w = w' := by
 go_enter Tryz.func211, Tryz.ntmps211
 go_wp2_with fail
 refine (rtwo_9 _).mono ?_
 rintro e w' ⟨rfl, rfl⟩
 go_wp2_with fail
 go_returns
 exact ⟨rfl, rfl⟩
theorem rkids_9 (w : World) : Calls Tryz.prog 90 #[.int .i64 9] w fun e w' => e = .returned (.int .i64 1) ∧ w = w' := by
 go_enter Tryz.func90, Tryz.ntmps90
 go_wp2_with fail
 go_returns
 exact ⟨rfl, rfl⟩
set_option maxRecDepth 100000 in
set_option maxHeartbeats 6400000 in
theorem rplain_1 (f t u : Int) (x : ByteArray) (a b : Int) (w : World) :
  Calls Tryz.prog 210 #[.agg #[.int .i64 1, .int .i64 f, .int .i64 t, .int .u64 u, .string x, .int .i64 a, .int .i64 b]] w fun e w' => e = .returned (.bool (plainB ⟨1, f, t, u, x, a, b⟩)) ∧ Below w.heap.size w w' := by
 have HA := Lib.hid (show Below w.heap.size w (w.alloc (.cells #[.int .i64 1, .int .i64 f, .int .i64 t, .int .u64 u, .string x, .int .i64 a, .int .i64 b] NodeT)) from (Below.refl _ _).alloc (Nat.le_refl _) _)
 have hb : (w.alloc (.cells #[.int .i64 1, .int .i64 f, .int .i64 t, .int .u64 u, .string x, .int .i64 a, .int .i64 b] NodeT)).heap[w.heap.size]? = some (Obj.cells #[.int .i64 1, .int .i64 f, .int .i64 t, .int .u64 u, .string x, .int .i64 a, .int .i64 b] NodeT) := heap_alloc_new _ _
 have z0 : (w.alloc (.cells #[.int .i64 1, .int .i64 f, .int .i64 t, .int .u64 u, .string x, .int .i64 a, .int .i64 b] NodeT)).cell? ⟨w.heap.size, 0, none⟩ = some (.int .i64 1) := cellB hb rfl
 have z1 : (w.alloc (.cells #[.int .i64 1, .int .i64 f, .int .i64 t, .int .u64 u, .string x, .int .i64 a, .int .i64 b] NodeT)).cell? ⟨w.heap.size, 1, none⟩ = some (.int .i64 f) := cellB hb rfl
 have z2 : (w.alloc (.cells #[.int .i64 1, .int .i64 f, .int .i64 t, .int .u64 u, .string x, .int .i64 a, .int .i64 b] NodeT)).cell? ⟨w.heap.size, 2, none⟩ = some (.int .i64 t) := cellB hb rfl
 have z3 : (w.alloc (.cells #[.int .i64 1, .int .i64 f, .int .i64 t, .int .u64 u, .string x, .int .i64 a, .int .i64 b] NodeT)).cell? ⟨w.heap.size, 3, none⟩ = some (.int .u64 u) := cellB hb rfl
 have z4 : (w.alloc (.cells #[.int .i64 1, .int .i64 f, .int .i64 t, .int .u64 u, .string x, .int .i64 a, .int .i64 b] NodeT)).cell? ⟨w.heap.size, 4, none⟩ = some (.string x) := cellB hb rfl
 have z5 : (w.alloc (.cells #[.int .i64 1, .int .i64 f, .int .i64 t, .int .u64 u, .string x, .int .i64 a, .int .i64 b] NodeT)).cell? ⟨w.heap.size, 5, none⟩ = some (.int .i64 a) := cellB hb rfl
 have z6 : (w.alloc (.cells #[.int .i64 1, .int .i64 f, .int .i64 t, .int .u64 u, .string x, .int .i64 a, .int .i64 b] NodeT)).cell? ⟨w.heap.size, 6, none⟩ = some (.int .i64 b) := cellB hb rfl
 clear hb
 cases ht : (t == 0)
 ·have HE := Lib.hid (show plainB ⟨1, f, t, u, x, a, b⟩ = false from by simp only [plainB, namedB, twoB, kidsN]; simp [*])
  go_enter Tryz.func210, Tryz.ntmps210
  go_wp2_with fail
  refine (rnamed_1 _).mono ?_
  rintro e w' ⟨rfl, rfl⟩
  go_wp2_with fail
  refine (rtwo_1 _).mono ?_
  rintro e w' ⟨rfl, rfl⟩
  go_wp2_with fail
  go_returns
  exact ⟨congrArg (fun z => Ending.returned (Value.bool z)) HE.out.symm, HA.out⟩
 cases hu : (u == 0)
 ·have HE := Lib.hid (show plainB ⟨1, f, t, u, x, a, b⟩ = false from by simp only [plainB, namedB, twoB, kidsN]; simp [*])
  go_enter Tryz.func210, Tryz.ntmps210
  go_wp2_with fail
  refine (rnamed_1 _).mono ?_
  rintro e w' ⟨rfl, rfl⟩
  go_wp2_with fail
  refine (rtwo_1 _).mono ?_
  rintro e w' ⟨rfl, rfl⟩
  go_wp2_with fail
  go_returns
  exact ⟨congrArg (fun z => Ending.returned (Value.bool z)) HE.out.symm, HA.out⟩
 cases hx : x.toList.isEmpty
 ·have hx2 : (!x.toList.isEmpty) = true := by rw [hx]; rfl
  have hx3 : (x.toList == (⟨#[]⟩ : ByteArray).toList) = false := emp_no hx
  have HE := Lib.hid (show plainB ⟨1, f, t, u, x, a, b⟩ = false from by simp only [plainB, namedB, twoB, kidsN]; simp [*])
  go_enter Tryz.func210, Tryz.ntmps210
  go_wp2_with fail
  refine (rnamed_1 _).mono ?_
  rintro e w' ⟨rfl, rfl⟩
  go_wp2_with fail
  refine (rtwo_1 _).mono ?_
  rintro e w' ⟨rfl, rfl⟩
  go_wp2_with fail
  go_returns
  exact ⟨congrArg (fun z => Ending.returned (Value.bool z)) HE.out.symm, HA.out⟩
 have hx2 : (!x.toList.isEmpty) = false := by rw [hx]; rfl
 have hx3 : (x.toList == (⟨#[]⟩ : ByteArray).toList) = true := emp_yes hx
 cases ha : (a == 0)
 ·have HE := Lib.hid (show plainB ⟨1, f, t, u, x, a, b⟩ = false from by simp only [plainB, namedB, twoB, kidsN]; simp [*])
  go_enter Tryz.func210, Tryz.ntmps210
  go_wp2_with fail
  refine (rnamed_1 _).mono ?_
  rintro e w' ⟨rfl, rfl⟩
  go_wp2_with fail
  refine (rtwo_1 _).mono ?_
  rintro e w' ⟨rfl, rfl⟩
  go_wp2_with fail
  refine (rkids_1 _).mono ?_
  rintro e w' ⟨rfl, rfl⟩
  go_wp2_with fail
  go_returns
  exact ⟨congrArg (fun z => Ending.returned (Value.bool z)) HE.out.symm, HA.out⟩
 cases hb : (b == 0)
 ·have HE := Lib.hid (show plainB ⟨1, f, t, u, x, a, b⟩ = false from by simp only [plainB, namedB, twoB, kidsN]; simp [*])
  go_enter Tryz.func210, Tryz.ntmps210
  go_wp2_with fail
  refine (rnamed_1 _).mono ?_
  rintro e w' ⟨rfl, rfl⟩
  go_wp2_with fail
  refine (rtwo_1 _).mono ?_
  rintro e w' ⟨rfl, rfl⟩
  go_wp2_with fail
  refine (rkids_1 _).mono ?_
  rintro e w' ⟨rfl, rfl⟩
  go_wp2_with fail
  refine (rkids_1 _).mono ?_
  rintro e w' ⟨rfl, rfl⟩
  go_wp2_with fail
  go_returns
  exact ⟨congrArg (fun z => Ending.returned (Value.bool z)) HE.out.symm, HA.out⟩
 have HE := Lib.hid (show plainB ⟨1, f, t, u, x, a, b⟩ = true from by simp only [plainB, namedB, twoB, kidsN]; simp [*])
 go_enter Tryz.func210, Tryz.ntmps210
 go_wp2_with fail
 refine (rnamed_1 _).mono ?_
 rintro e w' ⟨rfl, rfl⟩
 go_wp2_with fail
 refine (rtwo_1 _).mono ?_
 rintro e w' ⟨rfl, rfl⟩
 go_wp2_with fail
 refine (rkids_1 _).mono ?_
 rintro e w' ⟨rfl, rfl⟩
 go_wp2_with fail
 refine (rkids_1 _).mono ?_
 rintro e w' ⟨rfl, rfl⟩
 go_wp2_with fail
 go_returns
 exact ⟨congrArg (fun z => Ending.returned (Value.bool z)) HE.out.symm, HA.out⟩
set_option maxRecDepth 100000 in
set_option maxHeartbeats 6400000 in
theorem rplain_2 (f t u : Int) (x : ByteArray) (a b : Int) (w : World) :
  Calls Tryz.prog 210 #[.agg #[.int .i64 2, .int .i64 f, .int .i64 t, .int .u64 u, .string x, .int .i64 a, .int .i64 b]] w fun e w' => e = .returned (.bool (plainB ⟨2, f, t, u, x, a, b⟩)) ∧ Below w.heap.size w w' := by
 have HA := Lib.hid (show Below w.heap.size w (w.alloc (.cells #[.int .i64 2, .int .i64 f, .int .i64 t, .int .u64 u, .string x, .int .i64 a, .int .i64 b] NodeT)) from (Below.refl _ _).alloc (Nat.le_refl _) _)
 have hb : (w.alloc (.cells #[.int .i64 2, .int .i64 f, .int .i64 t, .int .u64 u, .string x, .int .i64 a, .int .i64 b] NodeT)).heap[w.heap.size]? = some (Obj.cells #[.int .i64 2, .int .i64 f, .int .i64 t, .int .u64 u, .string x, .int .i64 a, .int .i64 b] NodeT) := heap_alloc_new _ _
 have z0 : (w.alloc (.cells #[.int .i64 2, .int .i64 f, .int .i64 t, .int .u64 u, .string x, .int .i64 a, .int .i64 b] NodeT)).cell? ⟨w.heap.size, 0, none⟩ = some (.int .i64 2) := cellB hb rfl
 have z1 : (w.alloc (.cells #[.int .i64 2, .int .i64 f, .int .i64 t, .int .u64 u, .string x, .int .i64 a, .int .i64 b] NodeT)).cell? ⟨w.heap.size, 1, none⟩ = some (.int .i64 f) := cellB hb rfl
 have z2 : (w.alloc (.cells #[.int .i64 2, .int .i64 f, .int .i64 t, .int .u64 u, .string x, .int .i64 a, .int .i64 b] NodeT)).cell? ⟨w.heap.size, 2, none⟩ = some (.int .i64 t) := cellB hb rfl
 have z3 : (w.alloc (.cells #[.int .i64 2, .int .i64 f, .int .i64 t, .int .u64 u, .string x, .int .i64 a, .int .i64 b] NodeT)).cell? ⟨w.heap.size, 3, none⟩ = some (.int .u64 u) := cellB hb rfl
 have z4 : (w.alloc (.cells #[.int .i64 2, .int .i64 f, .int .i64 t, .int .u64 u, .string x, .int .i64 a, .int .i64 b] NodeT)).cell? ⟨w.heap.size, 4, none⟩ = some (.string x) := cellB hb rfl
 have z5 : (w.alloc (.cells #[.int .i64 2, .int .i64 f, .int .i64 t, .int .u64 u, .string x, .int .i64 a, .int .i64 b] NodeT)).cell? ⟨w.heap.size, 5, none⟩ = some (.int .i64 a) := cellB hb rfl
 have z6 : (w.alloc (.cells #[.int .i64 2, .int .i64 f, .int .i64 t, .int .u64 u, .string x, .int .i64 a, .int .i64 b] NodeT)).cell? ⟨w.heap.size, 6, none⟩ = some (.int .i64 b) := cellB hb rfl
 clear hb
 cases hf : (f == 0)
 ·have HE := Lib.hid (show plainB ⟨2, f, t, u, x, a, b⟩ = false from by simp only [plainB, namedB, twoB, kidsN]; simp [*])
  go_enter Tryz.func210, Tryz.ntmps210
  go_wp2_with fail
  refine (rnamed_2 _).mono ?_
  rintro e w' ⟨rfl, rfl⟩
  go_wp2_with fail
  go_returns
  exact ⟨congrArg (fun z => Ending.returned (Value.bool z)) HE.out.symm, HA.out⟩
 cases ht : (t == 0)
 ·have HE := Lib.hid (show plainB ⟨2, f, t, u, x, a, b⟩ = false from by simp only [plainB, namedB, twoB, kidsN]; simp [*])
  go_enter Tryz.func210, Tryz.ntmps210
  go_wp2_with fail
  refine (rnamed_2 _).mono ?_
  rintro e w' ⟨rfl, rfl⟩
  go_wp2_with fail
  refine (rtwo_2 _).mono ?_
  rintro e w' ⟨rfl, rfl⟩
  go_wp2_with fail
  go_returns
  exact ⟨congrArg (fun z => Ending.returned (Value.bool z)) HE.out.symm, HA.out⟩
 cases hx : x.toList.isEmpty
 ·have hx2 : (!x.toList.isEmpty) = true := by rw [hx]; rfl
  have hx3 : (x.toList == (⟨#[]⟩ : ByteArray).toList) = false := emp_no hx
  have HE := Lib.hid (show plainB ⟨2, f, t, u, x, a, b⟩ = false from by simp only [plainB, namedB, twoB, kidsN]; simp [*])
  go_enter Tryz.func210, Tryz.ntmps210
  go_wp2_with fail
  refine (rnamed_2 _).mono ?_
  rintro e w' ⟨rfl, rfl⟩
  go_wp2_with fail
  refine (rtwo_2 _).mono ?_
  rintro e w' ⟨rfl, rfl⟩
  go_wp2_with fail
  go_returns
  exact ⟨congrArg (fun z => Ending.returned (Value.bool z)) HE.out.symm, HA.out⟩
 have hx2 : (!x.toList.isEmpty) = false := by rw [hx]; rfl
 have hx3 : (x.toList == (⟨#[]⟩ : ByteArray).toList) = true := emp_yes hx
 cases ha : (a == 0)
 ·have HE := Lib.hid (show plainB ⟨2, f, t, u, x, a, b⟩ = false from by simp only [plainB, namedB, twoB, kidsN]; simp [*])
  go_enter Tryz.func210, Tryz.ntmps210
  go_wp2_with fail
  refine (rnamed_2 _).mono ?_
  rintro e w' ⟨rfl, rfl⟩
  go_wp2_with fail
  refine (rtwo_2 _).mono ?_
  rintro e w' ⟨rfl, rfl⟩
  go_wp2_with fail
  refine (rkids_2 _).mono ?_
  rintro e w' ⟨rfl, rfl⟩
  go_wp2_with fail
  go_returns
  exact ⟨congrArg (fun z => Ending.returned (Value.bool z)) HE.out.symm, HA.out⟩
 cases hb : (b == 0)
 ·have HE := Lib.hid (show plainB ⟨2, f, t, u, x, a, b⟩ = false from by simp only [plainB, namedB, twoB, kidsN]; simp [*])
  go_enter Tryz.func210, Tryz.ntmps210
  go_wp2_with fail
  refine (rnamed_2 _).mono ?_
  rintro e w' ⟨rfl, rfl⟩
  go_wp2_with fail
  refine (rtwo_2 _).mono ?_
  rintro e w' ⟨rfl, rfl⟩
  go_wp2_with fail
  refine (rkids_2 _).mono ?_
  rintro e w' ⟨rfl, rfl⟩
  go_wp2_with fail
  refine (rkids_2 _).mono ?_
  rintro e w' ⟨rfl, rfl⟩
  go_wp2_with fail
  go_returns
  exact ⟨congrArg (fun z => Ending.returned (Value.bool z)) HE.out.symm, HA.out⟩
 have HE := Lib.hid (show plainB ⟨2, f, t, u, x, a, b⟩ = true from by simp only [plainB, namedB, twoB, kidsN]; simp [*])
 go_enter Tryz.func210, Tryz.ntmps210
 go_wp2_with fail
 refine (rnamed_2 _).mono ?_
 rintro e w' ⟨rfl, rfl⟩
 go_wp2_with fail
 refine (rtwo_2 _).mono ?_
 rintro e w' ⟨rfl, rfl⟩
 go_wp2_with fail
 refine (rkids_2 _).mono ?_
 rintro e w' ⟨rfl, rfl⟩
 go_wp2_with fail
 refine (rkids_2 _).mono ?_
 rintro e w' ⟨rfl, rfl⟩
 go_wp2_with fail
 go_returns
 exact ⟨congrArg (fun z => Ending.returned (Value.bool z)) HE.out.symm, HA.out⟩
set_option maxRecDepth 100000 in
set_option maxHeartbeats 6400000 in
theorem rplain_3 (f t u : Int) (x : ByteArray) (a b : Int) (w : World) :
  Calls Tryz.prog 210 #[.agg #[.int .i64 3, .int .i64 f, .int .i64 t, .int .u64 u, .string x, .int .i64 a, .int .i64 b]] w fun e w' => e = .returned (.bool (plainB ⟨3, f, t, u, x, a, b⟩)) ∧ Below w.heap.size w w' := by
 have HA := Lib.hid (show Below w.heap.size w (w.alloc (.cells #[.int .i64 3, .int .i64 f, .int .i64 t, .int .u64 u, .string x, .int .i64 a, .int .i64 b] NodeT)) from (Below.refl _ _).alloc (Nat.le_refl _) _)
 have hb : (w.alloc (.cells #[.int .i64 3, .int .i64 f, .int .i64 t, .int .u64 u, .string x, .int .i64 a, .int .i64 b] NodeT)).heap[w.heap.size]? = some (Obj.cells #[.int .i64 3, .int .i64 f, .int .i64 t, .int .u64 u, .string x, .int .i64 a, .int .i64 b] NodeT) := heap_alloc_new _ _
 have z0 : (w.alloc (.cells #[.int .i64 3, .int .i64 f, .int .i64 t, .int .u64 u, .string x, .int .i64 a, .int .i64 b] NodeT)).cell? ⟨w.heap.size, 0, none⟩ = some (.int .i64 3) := cellB hb rfl
 have z1 : (w.alloc (.cells #[.int .i64 3, .int .i64 f, .int .i64 t, .int .u64 u, .string x, .int .i64 a, .int .i64 b] NodeT)).cell? ⟨w.heap.size, 1, none⟩ = some (.int .i64 f) := cellB hb rfl
 have z2 : (w.alloc (.cells #[.int .i64 3, .int .i64 f, .int .i64 t, .int .u64 u, .string x, .int .i64 a, .int .i64 b] NodeT)).cell? ⟨w.heap.size, 2, none⟩ = some (.int .i64 t) := cellB hb rfl
 have z3 : (w.alloc (.cells #[.int .i64 3, .int .i64 f, .int .i64 t, .int .u64 u, .string x, .int .i64 a, .int .i64 b] NodeT)).cell? ⟨w.heap.size, 3, none⟩ = some (.int .u64 u) := cellB hb rfl
 have z4 : (w.alloc (.cells #[.int .i64 3, .int .i64 f, .int .i64 t, .int .u64 u, .string x, .int .i64 a, .int .i64 b] NodeT)).cell? ⟨w.heap.size, 4, none⟩ = some (.string x) := cellB hb rfl
 have z5 : (w.alloc (.cells #[.int .i64 3, .int .i64 f, .int .i64 t, .int .u64 u, .string x, .int .i64 a, .int .i64 b] NodeT)).cell? ⟨w.heap.size, 5, none⟩ = some (.int .i64 a) := cellB hb rfl
 have z6 : (w.alloc (.cells #[.int .i64 3, .int .i64 f, .int .i64 t, .int .u64 u, .string x, .int .i64 a, .int .i64 b] NodeT)).cell? ⟨w.heap.size, 6, none⟩ = some (.int .i64 b) := cellB hb rfl
 clear hb
 cases hf : (f == 0)
 ·have HE := Lib.hid (show plainB ⟨3, f, t, u, x, a, b⟩ = false from by simp only [plainB, namedB, twoB, kidsN]; simp [*])
  go_enter Tryz.func210, Tryz.ntmps210
  go_wp2_with fail
  refine (rnamed_3 _).mono ?_
  rintro e w' ⟨rfl, rfl⟩
  go_wp2_with fail
  go_returns
  exact ⟨congrArg (fun z => Ending.returned (Value.bool z)) HE.out.symm, HA.out⟩
 cases ht : (t == 0)
 ·have HE := Lib.hid (show plainB ⟨3, f, t, u, x, a, b⟩ = false from by simp only [plainB, namedB, twoB, kidsN]; simp [*])
  go_enter Tryz.func210, Tryz.ntmps210
  go_wp2_with fail
  refine (rnamed_3 _).mono ?_
  rintro e w' ⟨rfl, rfl⟩
  go_wp2_with fail
  refine (rtwo_3 _).mono ?_
  rintro e w' ⟨rfl, rfl⟩
  go_wp2_with fail
  go_returns
  exact ⟨congrArg (fun z => Ending.returned (Value.bool z)) HE.out.symm, HA.out⟩
 cases hu : (u == 0)
 ·have HE := Lib.hid (show plainB ⟨3, f, t, u, x, a, b⟩ = false from by simp only [plainB, namedB, twoB, kidsN]; simp [*])
  go_enter Tryz.func210, Tryz.ntmps210
  go_wp2_with fail
  refine (rnamed_3 _).mono ?_
  rintro e w' ⟨rfl, rfl⟩
  go_wp2_with fail
  refine (rtwo_3 _).mono ?_
  rintro e w' ⟨rfl, rfl⟩
  go_wp2_with fail
  go_returns
  exact ⟨congrArg (fun z => Ending.returned (Value.bool z)) HE.out.symm, HA.out⟩
 cases ha : (a == 0)
 ·have HE := Lib.hid (show plainB ⟨3, f, t, u, x, a, b⟩ = false from by simp only [plainB, namedB, twoB, kidsN]; simp [*])
  go_enter Tryz.func210, Tryz.ntmps210
  go_wp2_with fail
  refine (rnamed_3 _).mono ?_
  rintro e w' ⟨rfl, rfl⟩
  go_wp2_with fail
  refine (rtwo_3 _).mono ?_
  rintro e w' ⟨rfl, rfl⟩
  go_wp2_with fail
  refine (rkids_3 _).mono ?_
  rintro e w' ⟨rfl, rfl⟩
  go_wp2_with fail
  go_returns
  exact ⟨congrArg (fun z => Ending.returned (Value.bool z)) HE.out.symm, HA.out⟩
 cases hb : (b == 0)
 ·have HE := Lib.hid (show plainB ⟨3, f, t, u, x, a, b⟩ = false from by simp only [plainB, namedB, twoB, kidsN]; simp [*])
  go_enter Tryz.func210, Tryz.ntmps210
  go_wp2_with fail
  refine (rnamed_3 _).mono ?_
  rintro e w' ⟨rfl, rfl⟩
  go_wp2_with fail
  refine (rtwo_3 _).mono ?_
  rintro e w' ⟨rfl, rfl⟩
  go_wp2_with fail
  refine (rkids_3 _).mono ?_
  rintro e w' ⟨rfl, rfl⟩
  go_wp2_with fail
  refine (rkids_3 _).mono ?_
  rintro e w' ⟨rfl, rfl⟩
  go_wp2_with fail
  go_returns
  exact ⟨congrArg (fun z => Ending.returned (Value.bool z)) HE.out.symm, HA.out⟩
 have HE := Lib.hid (show plainB ⟨3, f, t, u, x, a, b⟩ = true from by simp only [plainB, namedB, twoB, kidsN]; simp [*])
 go_enter Tryz.func210, Tryz.ntmps210
 go_wp2_with fail
 refine (rnamed_3 _).mono ?_
 rintro e w' ⟨rfl, rfl⟩
 go_wp2_with fail
 refine (rtwo_3 _).mono ?_
 rintro e w' ⟨rfl, rfl⟩
 go_wp2_with fail
 refine (rkids_3 _).mono ?_
 rintro e w' ⟨rfl, rfl⟩
 go_wp2_with fail
 refine (rkids_3 _).mono ?_
 rintro e w' ⟨rfl, rfl⟩
 go_wp2_with fail
 go_returns
 exact ⟨congrArg (fun z => Ending.returned (Value.bool z)) HE.out.symm, HA.out⟩
set_option maxRecDepth 100000 in
set_option maxHeartbeats 6400000 in
theorem rplain_4 (f t u : Int) (x : ByteArray) (a b : Int) (w : World) :
  Calls Tryz.prog 210 #[.agg #[.int .i64 4, .int .i64 f, .int .i64 t, .int .u64 u, .string x, .int .i64 a, .int .i64 b]] w fun e w' => e = .returned (.bool (plainB ⟨4, f, t, u, x, a, b⟩)) ∧ Below w.heap.size w w' := by
 have HA := Lib.hid (show Below w.heap.size w (w.alloc (.cells #[.int .i64 4, .int .i64 f, .int .i64 t, .int .u64 u, .string x, .int .i64 a, .int .i64 b] NodeT)) from (Below.refl _ _).alloc (Nat.le_refl _) _)
 have hb : (w.alloc (.cells #[.int .i64 4, .int .i64 f, .int .i64 t, .int .u64 u, .string x, .int .i64 a, .int .i64 b] NodeT)).heap[w.heap.size]? = some (Obj.cells #[.int .i64 4, .int .i64 f, .int .i64 t, .int .u64 u, .string x, .int .i64 a, .int .i64 b] NodeT) := heap_alloc_new _ _
 have z0 : (w.alloc (.cells #[.int .i64 4, .int .i64 f, .int .i64 t, .int .u64 u, .string x, .int .i64 a, .int .i64 b] NodeT)).cell? ⟨w.heap.size, 0, none⟩ = some (.int .i64 4) := cellB hb rfl
 have z1 : (w.alloc (.cells #[.int .i64 4, .int .i64 f, .int .i64 t, .int .u64 u, .string x, .int .i64 a, .int .i64 b] NodeT)).cell? ⟨w.heap.size, 1, none⟩ = some (.int .i64 f) := cellB hb rfl
 have z2 : (w.alloc (.cells #[.int .i64 4, .int .i64 f, .int .i64 t, .int .u64 u, .string x, .int .i64 a, .int .i64 b] NodeT)).cell? ⟨w.heap.size, 2, none⟩ = some (.int .i64 t) := cellB hb rfl
 have z3 : (w.alloc (.cells #[.int .i64 4, .int .i64 f, .int .i64 t, .int .u64 u, .string x, .int .i64 a, .int .i64 b] NodeT)).cell? ⟨w.heap.size, 3, none⟩ = some (.int .u64 u) := cellB hb rfl
 have z4 : (w.alloc (.cells #[.int .i64 4, .int .i64 f, .int .i64 t, .int .u64 u, .string x, .int .i64 a, .int .i64 b] NodeT)).cell? ⟨w.heap.size, 4, none⟩ = some (.string x) := cellB hb rfl
 have z5 : (w.alloc (.cells #[.int .i64 4, .int .i64 f, .int .i64 t, .int .u64 u, .string x, .int .i64 a, .int .i64 b] NodeT)).cell? ⟨w.heap.size, 5, none⟩ = some (.int .i64 a) := cellB hb rfl
 have z6 : (w.alloc (.cells #[.int .i64 4, .int .i64 f, .int .i64 t, .int .u64 u, .string x, .int .i64 a, .int .i64 b] NodeT)).cell? ⟨w.heap.size, 6, none⟩ = some (.int .i64 b) := cellB hb rfl
 clear hb
 cases hf : (f == 0)
 ·have HE := Lib.hid (show plainB ⟨4, f, t, u, x, a, b⟩ = false from by simp only [plainB, namedB, twoB, kidsN]; simp [*])
  go_enter Tryz.func210, Tryz.ntmps210
  go_wp2_with fail
  refine (rnamed_4 _).mono ?_
  rintro e w' ⟨rfl, rfl⟩
  go_wp2_with fail
  go_returns
  exact ⟨congrArg (fun z => Ending.returned (Value.bool z)) HE.out.symm, HA.out⟩
 cases ht : (t == 0)
 ·have HE := Lib.hid (show plainB ⟨4, f, t, u, x, a, b⟩ = false from by simp only [plainB, namedB, twoB, kidsN]; simp [*])
  go_enter Tryz.func210, Tryz.ntmps210
  go_wp2_with fail
  refine (rnamed_4 _).mono ?_
  rintro e w' ⟨rfl, rfl⟩
  go_wp2_with fail
  refine (rtwo_4 _).mono ?_
  rintro e w' ⟨rfl, rfl⟩
  go_wp2_with fail
  go_returns
  exact ⟨congrArg (fun z => Ending.returned (Value.bool z)) HE.out.symm, HA.out⟩
 cases hu : (u == 0)
 ·have HE := Lib.hid (show plainB ⟨4, f, t, u, x, a, b⟩ = false from by simp only [plainB, namedB, twoB, kidsN]; simp [*])
  go_enter Tryz.func210, Tryz.ntmps210
  go_wp2_with fail
  refine (rnamed_4 _).mono ?_
  rintro e w' ⟨rfl, rfl⟩
  go_wp2_with fail
  refine (rtwo_4 _).mono ?_
  rintro e w' ⟨rfl, rfl⟩
  go_wp2_with fail
  go_returns
  exact ⟨congrArg (fun z => Ending.returned (Value.bool z)) HE.out.symm, HA.out⟩
 cases hx : x.toList.isEmpty
 ·have hx2 : (!x.toList.isEmpty) = true := by rw [hx]; rfl
  have hx3 : (x.toList == (⟨#[]⟩ : ByteArray).toList) = false := emp_no hx
  have HE := Lib.hid (show plainB ⟨4, f, t, u, x, a, b⟩ = false from by simp only [plainB, namedB, twoB, kidsN]; simp [*])
  go_enter Tryz.func210, Tryz.ntmps210
  go_wp2_with fail
  refine (rnamed_4 _).mono ?_
  rintro e w' ⟨rfl, rfl⟩
  go_wp2_with fail
  refine (rtwo_4 _).mono ?_
  rintro e w' ⟨rfl, rfl⟩
  go_wp2_with fail
  go_returns
  exact ⟨congrArg (fun z => Ending.returned (Value.bool z)) HE.out.symm, HA.out⟩
 have hx2 : (!x.toList.isEmpty) = false := by rw [hx]; rfl
 have hx3 : (x.toList == (⟨#[]⟩ : ByteArray).toList) = true := emp_yes hx
 have HE := Lib.hid (show plainB ⟨4, f, t, u, x, a, b⟩ = true from by simp only [plainB, namedB, twoB, kidsN]; simp [*])
 go_enter Tryz.func210, Tryz.ntmps210
 go_wp2_with fail
 refine (rnamed_4 _).mono ?_
 rintro e w' ⟨rfl, rfl⟩
 go_wp2_with fail
 refine (rtwo_4 _).mono ?_
 rintro e w' ⟨rfl, rfl⟩
 go_wp2_with fail
 refine (rkids_4 _).mono ?_
 rintro e w' ⟨rfl, rfl⟩
 go_wp2_with fail
 refine (rkids_4 _).mono ?_
 rintro e w' ⟨rfl, rfl⟩
 go_wp2_with fail
 go_returns
 exact ⟨congrArg (fun z => Ending.returned (Value.bool z)) HE.out.symm, HA.out⟩
set_option maxRecDepth 100000 in
set_option maxHeartbeats 6400000 in
theorem rplain_5 (f t u : Int) (x : ByteArray) (a b : Int) (w : World) :
  Calls Tryz.prog 210 #[.agg #[.int .i64 5, .int .i64 f, .int .i64 t, .int .u64 u, .string x, .int .i64 a, .int .i64 b]] w fun e w' => e = .returned (.bool (plainB ⟨5, f, t, u, x, a, b⟩)) ∧ Below w.heap.size w w' := by
 have HA := Lib.hid (show Below w.heap.size w (w.alloc (.cells #[.int .i64 5, .int .i64 f, .int .i64 t, .int .u64 u, .string x, .int .i64 a, .int .i64 b] NodeT)) from (Below.refl _ _).alloc (Nat.le_refl _) _)
 have hb : (w.alloc (.cells #[.int .i64 5, .int .i64 f, .int .i64 t, .int .u64 u, .string x, .int .i64 a, .int .i64 b] NodeT)).heap[w.heap.size]? = some (Obj.cells #[.int .i64 5, .int .i64 f, .int .i64 t, .int .u64 u, .string x, .int .i64 a, .int .i64 b] NodeT) := heap_alloc_new _ _
 have z0 : (w.alloc (.cells #[.int .i64 5, .int .i64 f, .int .i64 t, .int .u64 u, .string x, .int .i64 a, .int .i64 b] NodeT)).cell? ⟨w.heap.size, 0, none⟩ = some (.int .i64 5) := cellB hb rfl
 have z1 : (w.alloc (.cells #[.int .i64 5, .int .i64 f, .int .i64 t, .int .u64 u, .string x, .int .i64 a, .int .i64 b] NodeT)).cell? ⟨w.heap.size, 1, none⟩ = some (.int .i64 f) := cellB hb rfl
 have z2 : (w.alloc (.cells #[.int .i64 5, .int .i64 f, .int .i64 t, .int .u64 u, .string x, .int .i64 a, .int .i64 b] NodeT)).cell? ⟨w.heap.size, 2, none⟩ = some (.int .i64 t) := cellB hb rfl
 have z3 : (w.alloc (.cells #[.int .i64 5, .int .i64 f, .int .i64 t, .int .u64 u, .string x, .int .i64 a, .int .i64 b] NodeT)).cell? ⟨w.heap.size, 3, none⟩ = some (.int .u64 u) := cellB hb rfl
 have z4 : (w.alloc (.cells #[.int .i64 5, .int .i64 f, .int .i64 t, .int .u64 u, .string x, .int .i64 a, .int .i64 b] NodeT)).cell? ⟨w.heap.size, 4, none⟩ = some (.string x) := cellB hb rfl
 have z5 : (w.alloc (.cells #[.int .i64 5, .int .i64 f, .int .i64 t, .int .u64 u, .string x, .int .i64 a, .int .i64 b] NodeT)).cell? ⟨w.heap.size, 5, none⟩ = some (.int .i64 a) := cellB hb rfl
 have z6 : (w.alloc (.cells #[.int .i64 5, .int .i64 f, .int .i64 t, .int .u64 u, .string x, .int .i64 a, .int .i64 b] NodeT)).cell? ⟨w.heap.size, 6, none⟩ = some (.int .i64 b) := cellB hb rfl
 clear hb
 cases hf : (f == 0)
 ·have HE := Lib.hid (show plainB ⟨5, f, t, u, x, a, b⟩ = false from by simp only [plainB, namedB, twoB, kidsN]; simp [*])
  go_enter Tryz.func210, Tryz.ntmps210
  go_wp2_with fail
  refine (rnamed_5 _).mono ?_
  rintro e w' ⟨rfl, rfl⟩
  go_wp2_with fail
  go_returns
  exact ⟨congrArg (fun z => Ending.returned (Value.bool z)) HE.out.symm, HA.out⟩
 cases ht : (t == 0)
 ·have HE := Lib.hid (show plainB ⟨5, f, t, u, x, a, b⟩ = false from by simp only [plainB, namedB, twoB, kidsN]; simp [*])
  go_enter Tryz.func210, Tryz.ntmps210
  go_wp2_with fail
  refine (rnamed_5 _).mono ?_
  rintro e w' ⟨rfl, rfl⟩
  go_wp2_with fail
  refine (rtwo_5 _).mono ?_
  rintro e w' ⟨rfl, rfl⟩
  go_wp2_with fail
  go_returns
  exact ⟨congrArg (fun z => Ending.returned (Value.bool z)) HE.out.symm, HA.out⟩
 cases hu : (u == 0)
 ·have HE := Lib.hid (show plainB ⟨5, f, t, u, x, a, b⟩ = false from by simp only [plainB, namedB, twoB, kidsN]; simp [*])
  go_enter Tryz.func210, Tryz.ntmps210
  go_wp2_with fail
  refine (rnamed_5 _).mono ?_
  rintro e w' ⟨rfl, rfl⟩
  go_wp2_with fail
  refine (rtwo_5 _).mono ?_
  rintro e w' ⟨rfl, rfl⟩
  go_wp2_with fail
  go_returns
  exact ⟨congrArg (fun z => Ending.returned (Value.bool z)) HE.out.symm, HA.out⟩
 cases hx : x.toList.isEmpty
 ·have hx2 : (!x.toList.isEmpty) = true := by rw [hx]; rfl
  have hx3 : (x.toList == (⟨#[]⟩ : ByteArray).toList) = false := emp_no hx
  have HE := Lib.hid (show plainB ⟨5, f, t, u, x, a, b⟩ = false from by simp only [plainB, namedB, twoB, kidsN]; simp [*])
  go_enter Tryz.func210, Tryz.ntmps210
  go_wp2_with fail
  refine (rnamed_5 _).mono ?_
  rintro e w' ⟨rfl, rfl⟩
  go_wp2_with fail
  refine (rtwo_5 _).mono ?_
  rintro e w' ⟨rfl, rfl⟩
  go_wp2_with fail
  go_returns
  exact ⟨congrArg (fun z => Ending.returned (Value.bool z)) HE.out.symm, HA.out⟩
 have hx2 : (!x.toList.isEmpty) = false := by rw [hx]; rfl
 have hx3 : (x.toList == (⟨#[]⟩ : ByteArray).toList) = true := emp_yes hx
 cases hb : (b == 0)
 ·have HE := Lib.hid (show plainB ⟨5, f, t, u, x, a, b⟩ = false from by simp only [plainB, namedB, twoB, kidsN]; simp [*])
  go_enter Tryz.func210, Tryz.ntmps210
  go_wp2_with fail
  refine (rnamed_5 _).mono ?_
  rintro e w' ⟨rfl, rfl⟩
  go_wp2_with fail
  refine (rtwo_5 _).mono ?_
  rintro e w' ⟨rfl, rfl⟩
  go_wp2_with fail
  refine (rkids_5 _).mono ?_
  rintro e w' ⟨rfl, rfl⟩
  go_wp2_with fail
  refine (rkids_5 _).mono ?_
  rintro e w' ⟨rfl, rfl⟩
  go_wp2_with fail
  go_returns
  exact ⟨congrArg (fun z => Ending.returned (Value.bool z)) HE.out.symm, HA.out⟩
 have HE := Lib.hid (show plainB ⟨5, f, t, u, x, a, b⟩ = true from by simp only [plainB, namedB, twoB, kidsN]; simp [*])
 go_enter Tryz.func210, Tryz.ntmps210
 go_wp2_with fail
 refine (rnamed_5 _).mono ?_
 rintro e w' ⟨rfl, rfl⟩
 go_wp2_with fail
 refine (rtwo_5 _).mono ?_
 rintro e w' ⟨rfl, rfl⟩
 go_wp2_with fail
 refine (rkids_5 _).mono ?_
 rintro e w' ⟨rfl, rfl⟩
 go_wp2_with fail
 refine (rkids_5 _).mono ?_
 rintro e w' ⟨rfl, rfl⟩
 go_wp2_with fail
 go_returns
 exact ⟨congrArg (fun z => Ending.returned (Value.bool z)) HE.out.symm, HA.out⟩
set_option maxRecDepth 100000 in
set_option maxHeartbeats 6400000 in
theorem rplain_6 (f t u : Int) (x : ByteArray) (a b : Int) (w : World) :
  Calls Tryz.prog 210 #[.agg #[.int .i64 6, .int .i64 f, .int .i64 t, .int .u64 u, .string x, .int .i64 a, .int .i64 b]] w fun e w' => e = .returned (.bool (plainB ⟨6, f, t, u, x, a, b⟩)) ∧ Below w.heap.size w w' := by
 have HA := Lib.hid (show Below w.heap.size w (w.alloc (.cells #[.int .i64 6, .int .i64 f, .int .i64 t, .int .u64 u, .string x, .int .i64 a, .int .i64 b] NodeT)) from (Below.refl _ _).alloc (Nat.le_refl _) _)
 have hb : (w.alloc (.cells #[.int .i64 6, .int .i64 f, .int .i64 t, .int .u64 u, .string x, .int .i64 a, .int .i64 b] NodeT)).heap[w.heap.size]? = some (Obj.cells #[.int .i64 6, .int .i64 f, .int .i64 t, .int .u64 u, .string x, .int .i64 a, .int .i64 b] NodeT) := heap_alloc_new _ _
 have z0 : (w.alloc (.cells #[.int .i64 6, .int .i64 f, .int .i64 t, .int .u64 u, .string x, .int .i64 a, .int .i64 b] NodeT)).cell? ⟨w.heap.size, 0, none⟩ = some (.int .i64 6) := cellB hb rfl
 have z1 : (w.alloc (.cells #[.int .i64 6, .int .i64 f, .int .i64 t, .int .u64 u, .string x, .int .i64 a, .int .i64 b] NodeT)).cell? ⟨w.heap.size, 1, none⟩ = some (.int .i64 f) := cellB hb rfl
 have z2 : (w.alloc (.cells #[.int .i64 6, .int .i64 f, .int .i64 t, .int .u64 u, .string x, .int .i64 a, .int .i64 b] NodeT)).cell? ⟨w.heap.size, 2, none⟩ = some (.int .i64 t) := cellB hb rfl
 have z3 : (w.alloc (.cells #[.int .i64 6, .int .i64 f, .int .i64 t, .int .u64 u, .string x, .int .i64 a, .int .i64 b] NodeT)).cell? ⟨w.heap.size, 3, none⟩ = some (.int .u64 u) := cellB hb rfl
 have z4 : (w.alloc (.cells #[.int .i64 6, .int .i64 f, .int .i64 t, .int .u64 u, .string x, .int .i64 a, .int .i64 b] NodeT)).cell? ⟨w.heap.size, 4, none⟩ = some (.string x) := cellB hb rfl
 have z5 : (w.alloc (.cells #[.int .i64 6, .int .i64 f, .int .i64 t, .int .u64 u, .string x, .int .i64 a, .int .i64 b] NodeT)).cell? ⟨w.heap.size, 5, none⟩ = some (.int .i64 a) := cellB hb rfl
 have z6 : (w.alloc (.cells #[.int .i64 6, .int .i64 f, .int .i64 t, .int .u64 u, .string x, .int .i64 a, .int .i64 b] NodeT)).cell? ⟨w.heap.size, 6, none⟩ = some (.int .i64 b) := cellB hb rfl
 clear hb
 cases ht : (t == 0)
 ·have HE := Lib.hid (show plainB ⟨6, f, t, u, x, a, b⟩ = false from by simp only [plainB, namedB, twoB, kidsN]; simp [*])
  go_enter Tryz.func210, Tryz.ntmps210
  go_wp2_with fail
  refine (rnamed_6 _).mono ?_
  rintro e w' ⟨rfl, rfl⟩
  go_wp2_with fail
  refine (rtwo_6 _).mono ?_
  rintro e w' ⟨rfl, rfl⟩
  go_wp2_with fail
  go_returns
  exact ⟨congrArg (fun z => Ending.returned (Value.bool z)) HE.out.symm, HA.out⟩
 cases hu : (u == 0)
 ·have HE := Lib.hid (show plainB ⟨6, f, t, u, x, a, b⟩ = false from by simp only [plainB, namedB, twoB, kidsN]; simp [*])
  go_enter Tryz.func210, Tryz.ntmps210
  go_wp2_with fail
  refine (rnamed_6 _).mono ?_
  rintro e w' ⟨rfl, rfl⟩
  go_wp2_with fail
  refine (rtwo_6 _).mono ?_
  rintro e w' ⟨rfl, rfl⟩
  go_wp2_with fail
  go_returns
  exact ⟨congrArg (fun z => Ending.returned (Value.bool z)) HE.out.symm, HA.out⟩
 cases hx : x.toList.isEmpty
 ·have hx2 : (!x.toList.isEmpty) = true := by rw [hx]; rfl
  have hx3 : (x.toList == (⟨#[]⟩ : ByteArray).toList) = false := emp_no hx
  have HE := Lib.hid (show plainB ⟨6, f, t, u, x, a, b⟩ = false from by simp only [plainB, namedB, twoB, kidsN]; simp [*])
  go_enter Tryz.func210, Tryz.ntmps210
  go_wp2_with fail
  refine (rnamed_6 _).mono ?_
  rintro e w' ⟨rfl, rfl⟩
  go_wp2_with fail
  refine (rtwo_6 _).mono ?_
  rintro e w' ⟨rfl, rfl⟩
  go_wp2_with fail
  go_returns
  exact ⟨congrArg (fun z => Ending.returned (Value.bool z)) HE.out.symm, HA.out⟩
 have hx2 : (!x.toList.isEmpty) = false := by rw [hx]; rfl
 have hx3 : (x.toList == (⟨#[]⟩ : ByteArray).toList) = true := emp_yes hx
 cases ha : (a == 0)
 ·have HE := Lib.hid (show plainB ⟨6, f, t, u, x, a, b⟩ = false from by simp only [plainB, namedB, twoB, kidsN]; simp [*])
  go_enter Tryz.func210, Tryz.ntmps210
  go_wp2_with fail
  refine (rnamed_6 _).mono ?_
  rintro e w' ⟨rfl, rfl⟩
  go_wp2_with fail
  refine (rtwo_6 _).mono ?_
  rintro e w' ⟨rfl, rfl⟩
  go_wp2_with fail
  refine (rkids_6 _).mono ?_
  rintro e w' ⟨rfl, rfl⟩
  go_wp2_with fail
  go_returns
  exact ⟨congrArg (fun z => Ending.returned (Value.bool z)) HE.out.symm, HA.out⟩
 cases hb : (b == 0)
 ·have HE := Lib.hid (show plainB ⟨6, f, t, u, x, a, b⟩ = false from by simp only [plainB, namedB, twoB, kidsN]; simp [*])
  go_enter Tryz.func210, Tryz.ntmps210
  go_wp2_with fail
  refine (rnamed_6 _).mono ?_
  rintro e w' ⟨rfl, rfl⟩
  go_wp2_with fail
  refine (rtwo_6 _).mono ?_
  rintro e w' ⟨rfl, rfl⟩
  go_wp2_with fail
  refine (rkids_6 _).mono ?_
  rintro e w' ⟨rfl, rfl⟩
  go_wp2_with fail
  refine (rkids_6 _).mono ?_
  rintro e w' ⟨rfl, rfl⟩
  go_wp2_with fail
  go_returns
  exact ⟨congrArg (fun z => Ending.returned (Value.bool z)) HE.out.symm, HA.out⟩
 have HE := Lib.hid (show plainB ⟨6, f, t, u, x, a, b⟩ = true from by simp only [plainB, namedB, twoB, kidsN]; simp [*])
 go_enter Tryz.func210, Tryz.ntmps210
 go_wp2_with fail
 refine (rnamed_6 _).mono ?_
 rintro e w' ⟨rfl, rfl⟩
 go_wp2_with fail
 refine (rtwo_6 _).mono ?_
 rintro e w' ⟨rfl, rfl⟩
 go_wp2_with fail
 refine (rkids_6 _).mono ?_
 rintro e w' ⟨rfl, rfl⟩
 go_wp2_with fail
 refine (rkids_6 _).mono ?_
 rintro e w' ⟨rfl, rfl⟩
 go_wp2_with fail
 go_returns
 exact ⟨congrArg (fun z => Ending.returned (Value.bool z)) HE.out.symm, HA.out⟩
set_option maxRecDepth 100000 in
set_option maxHeartbeats 6400000 in
theorem rplain_7 (f t u : Int) (x : ByteArray) (a b : Int) (w : World) :
  Calls Tryz.prog 210 #[.agg #[.int .i64 7, .int .i64 f, .int .i64 t, .int .u64 u, .string x, .int .i64 a, .int .i64 b]] w fun e w' => e = .returned (.bool (plainB ⟨7, f, t, u, x, a, b⟩)) ∧ Below w.heap.size w w' := by
 have HA := Lib.hid (show Below w.heap.size w (w.alloc (.cells #[.int .i64 7, .int .i64 f, .int .i64 t, .int .u64 u, .string x, .int .i64 a, .int .i64 b] NodeT)) from (Below.refl _ _).alloc (Nat.le_refl _) _)
 have hb : (w.alloc (.cells #[.int .i64 7, .int .i64 f, .int .i64 t, .int .u64 u, .string x, .int .i64 a, .int .i64 b] NodeT)).heap[w.heap.size]? = some (Obj.cells #[.int .i64 7, .int .i64 f, .int .i64 t, .int .u64 u, .string x, .int .i64 a, .int .i64 b] NodeT) := heap_alloc_new _ _
 have z0 : (w.alloc (.cells #[.int .i64 7, .int .i64 f, .int .i64 t, .int .u64 u, .string x, .int .i64 a, .int .i64 b] NodeT)).cell? ⟨w.heap.size, 0, none⟩ = some (.int .i64 7) := cellB hb rfl
 have z1 : (w.alloc (.cells #[.int .i64 7, .int .i64 f, .int .i64 t, .int .u64 u, .string x, .int .i64 a, .int .i64 b] NodeT)).cell? ⟨w.heap.size, 1, none⟩ = some (.int .i64 f) := cellB hb rfl
 have z2 : (w.alloc (.cells #[.int .i64 7, .int .i64 f, .int .i64 t, .int .u64 u, .string x, .int .i64 a, .int .i64 b] NodeT)).cell? ⟨w.heap.size, 2, none⟩ = some (.int .i64 t) := cellB hb rfl
 have z3 : (w.alloc (.cells #[.int .i64 7, .int .i64 f, .int .i64 t, .int .u64 u, .string x, .int .i64 a, .int .i64 b] NodeT)).cell? ⟨w.heap.size, 3, none⟩ = some (.int .u64 u) := cellB hb rfl
 have z4 : (w.alloc (.cells #[.int .i64 7, .int .i64 f, .int .i64 t, .int .u64 u, .string x, .int .i64 a, .int .i64 b] NodeT)).cell? ⟨w.heap.size, 4, none⟩ = some (.string x) := cellB hb rfl
 have z5 : (w.alloc (.cells #[.int .i64 7, .int .i64 f, .int .i64 t, .int .u64 u, .string x, .int .i64 a, .int .i64 b] NodeT)).cell? ⟨w.heap.size, 5, none⟩ = some (.int .i64 a) := cellB hb rfl
 have z6 : (w.alloc (.cells #[.int .i64 7, .int .i64 f, .int .i64 t, .int .u64 u, .string x, .int .i64 a, .int .i64 b] NodeT)).cell? ⟨w.heap.size, 6, none⟩ = some (.int .i64 b) := cellB hb rfl
 clear hb
 cases ht : (t == 0)
 ·have HE := Lib.hid (show plainB ⟨7, f, t, u, x, a, b⟩ = false from by simp only [plainB, namedB, twoB, kidsN]; simp [*])
  go_enter Tryz.func210, Tryz.ntmps210
  go_wp2_with fail
  refine (rnamed_7 _).mono ?_
  rintro e w' ⟨rfl, rfl⟩
  go_wp2_with fail
  refine (rtwo_7 _).mono ?_
  rintro e w' ⟨rfl, rfl⟩
  go_wp2_with fail
  go_returns
  exact ⟨congrArg (fun z => Ending.returned (Value.bool z)) HE.out.symm, HA.out⟩
 cases hu : (u == 0)
 ·have HE := Lib.hid (show plainB ⟨7, f, t, u, x, a, b⟩ = false from by simp only [plainB, namedB, twoB, kidsN]; simp [*])
  go_enter Tryz.func210, Tryz.ntmps210
  go_wp2_with fail
  refine (rnamed_7 _).mono ?_
  rintro e w' ⟨rfl, rfl⟩
  go_wp2_with fail
  refine (rtwo_7 _).mono ?_
  rintro e w' ⟨rfl, rfl⟩
  go_wp2_with fail
  go_returns
  exact ⟨congrArg (fun z => Ending.returned (Value.bool z)) HE.out.symm, HA.out⟩
 cases hx : x.toList.isEmpty
 ·have hx2 : (!x.toList.isEmpty) = true := by rw [hx]; rfl
  have hx3 : (x.toList == (⟨#[]⟩ : ByteArray).toList) = false := emp_no hx
  have HE := Lib.hid (show plainB ⟨7, f, t, u, x, a, b⟩ = false from by simp only [plainB, namedB, twoB, kidsN]; simp [*])
  go_enter Tryz.func210, Tryz.ntmps210
  go_wp2_with fail
  refine (rnamed_7 _).mono ?_
  rintro e w' ⟨rfl, rfl⟩
  go_wp2_with fail
  refine (rtwo_7 _).mono ?_
  rintro e w' ⟨rfl, rfl⟩
  go_wp2_with fail
  go_returns
  exact ⟨congrArg (fun z => Ending.returned (Value.bool z)) HE.out.symm, HA.out⟩
 have hx2 : (!x.toList.isEmpty) = false := by rw [hx]; rfl
 have hx3 : (x.toList == (⟨#[]⟩ : ByteArray).toList) = true := emp_yes hx
 cases hb : (b == 0)
 ·have HE := Lib.hid (show plainB ⟨7, f, t, u, x, a, b⟩ = false from by simp only [plainB, namedB, twoB, kidsN]; simp [*])
  go_enter Tryz.func210, Tryz.ntmps210
  go_wp2_with fail
  refine (rnamed_7 _).mono ?_
  rintro e w' ⟨rfl, rfl⟩
  go_wp2_with fail
  refine (rtwo_7 _).mono ?_
  rintro e w' ⟨rfl, rfl⟩
  go_wp2_with fail
  refine (rkids_7 _).mono ?_
  rintro e w' ⟨rfl, rfl⟩
  go_wp2_with fail
  refine (rkids_7 _).mono ?_
  rintro e w' ⟨rfl, rfl⟩
  go_wp2_with fail
  go_returns
  exact ⟨congrArg (fun z => Ending.returned (Value.bool z)) HE.out.symm, HA.out⟩
 have HE := Lib.hid (show plainB ⟨7, f, t, u, x, a, b⟩ = true from by simp only [plainB, namedB, twoB, kidsN]; simp [*])
 go_enter Tryz.func210, Tryz.ntmps210
 go_wp2_with fail
 refine (rnamed_7 _).mono ?_
 rintro e w' ⟨rfl, rfl⟩
 go_wp2_with fail
 refine (rtwo_7 _).mono ?_
 rintro e w' ⟨rfl, rfl⟩
 go_wp2_with fail
 refine (rkids_7 _).mono ?_
 rintro e w' ⟨rfl, rfl⟩
 go_wp2_with fail
 refine (rkids_7 _).mono ?_
 rintro e w' ⟨rfl, rfl⟩
 go_wp2_with fail
 go_returns
 exact ⟨congrArg (fun z => Ending.returned (Value.bool z)) HE.out.symm, HA.out⟩
set_option maxRecDepth 100000 in
set_option maxHeartbeats 6400000 in
theorem rplain_8 (f t u : Int) (x : ByteArray) (a b : Int) (w : World) :
  Calls Tryz.prog 210 #[.agg #[.int .i64 8, .int .i64 f, .int .i64 t, .int .u64 u, .string x, .int .i64 a, .int .i64 b]] w fun e w' => e = .returned (.bool (plainB ⟨8, f, t, u, x, a, b⟩)) ∧ Below w.heap.size w w' := by
 have HA := Lib.hid (show Below w.heap.size w (w.alloc (.cells #[.int .i64 8, .int .i64 f, .int .i64 t, .int .u64 u, .string x, .int .i64 a, .int .i64 b] NodeT)) from (Below.refl _ _).alloc (Nat.le_refl _) _)
 have hb : (w.alloc (.cells #[.int .i64 8, .int .i64 f, .int .i64 t, .int .u64 u, .string x, .int .i64 a, .int .i64 b] NodeT)).heap[w.heap.size]? = some (Obj.cells #[.int .i64 8, .int .i64 f, .int .i64 t, .int .u64 u, .string x, .int .i64 a, .int .i64 b] NodeT) := heap_alloc_new _ _
 have z0 : (w.alloc (.cells #[.int .i64 8, .int .i64 f, .int .i64 t, .int .u64 u, .string x, .int .i64 a, .int .i64 b] NodeT)).cell? ⟨w.heap.size, 0, none⟩ = some (.int .i64 8) := cellB hb rfl
 have z1 : (w.alloc (.cells #[.int .i64 8, .int .i64 f, .int .i64 t, .int .u64 u, .string x, .int .i64 a, .int .i64 b] NodeT)).cell? ⟨w.heap.size, 1, none⟩ = some (.int .i64 f) := cellB hb rfl
 have z2 : (w.alloc (.cells #[.int .i64 8, .int .i64 f, .int .i64 t, .int .u64 u, .string x, .int .i64 a, .int .i64 b] NodeT)).cell? ⟨w.heap.size, 2, none⟩ = some (.int .i64 t) := cellB hb rfl
 have z3 : (w.alloc (.cells #[.int .i64 8, .int .i64 f, .int .i64 t, .int .u64 u, .string x, .int .i64 a, .int .i64 b] NodeT)).cell? ⟨w.heap.size, 3, none⟩ = some (.int .u64 u) := cellB hb rfl
 have z4 : (w.alloc (.cells #[.int .i64 8, .int .i64 f, .int .i64 t, .int .u64 u, .string x, .int .i64 a, .int .i64 b] NodeT)).cell? ⟨w.heap.size, 4, none⟩ = some (.string x) := cellB hb rfl
 have z5 : (w.alloc (.cells #[.int .i64 8, .int .i64 f, .int .i64 t, .int .u64 u, .string x, .int .i64 a, .int .i64 b] NodeT)).cell? ⟨w.heap.size, 5, none⟩ = some (.int .i64 a) := cellB hb rfl
 have z6 : (w.alloc (.cells #[.int .i64 8, .int .i64 f, .int .i64 t, .int .u64 u, .string x, .int .i64 a, .int .i64 b] NodeT)).cell? ⟨w.heap.size, 6, none⟩ = some (.int .i64 b) := cellB hb rfl
 clear hb
 cases hu : (u == 0)
 ·have HE := Lib.hid (show plainB ⟨8, f, t, u, x, a, b⟩ = false from by simp only [plainB, namedB, twoB, kidsN]; simp [*])
  go_enter Tryz.func210, Tryz.ntmps210
  go_wp2_with fail
  refine (rnamed_8 _).mono ?_
  rintro e w' ⟨rfl, rfl⟩
  go_wp2_with fail
  refine (rtwo_8 _).mono ?_
  rintro e w' ⟨rfl, rfl⟩
  go_wp2_with fail
  go_returns
  exact ⟨congrArg (fun z => Ending.returned (Value.bool z)) HE.out.symm, HA.out⟩
 cases hx : x.toList.isEmpty
 ·have hx2 : (!x.toList.isEmpty) = true := by rw [hx]; rfl
  have hx3 : (x.toList == (⟨#[]⟩ : ByteArray).toList) = false := emp_no hx
  have HE := Lib.hid (show plainB ⟨8, f, t, u, x, a, b⟩ = false from by simp only [plainB, namedB, twoB, kidsN]; simp [*])
  go_enter Tryz.func210, Tryz.ntmps210
  go_wp2_with fail
  refine (rnamed_8 _).mono ?_
  rintro e w' ⟨rfl, rfl⟩
  go_wp2_with fail
  refine (rtwo_8 _).mono ?_
  rintro e w' ⟨rfl, rfl⟩
  go_wp2_with fail
  go_returns
  exact ⟨congrArg (fun z => Ending.returned (Value.bool z)) HE.out.symm, HA.out⟩
 have hx2 : (!x.toList.isEmpty) = false := by rw [hx]; rfl
 have hx3 : (x.toList == (⟨#[]⟩ : ByteArray).toList) = true := emp_yes hx
 cases hb : (b == 0)
 ·have HE := Lib.hid (show plainB ⟨8, f, t, u, x, a, b⟩ = false from by simp only [plainB, namedB, twoB, kidsN]; simp [*])
  go_enter Tryz.func210, Tryz.ntmps210
  go_wp2_with fail
  refine (rnamed_8 _).mono ?_
  rintro e w' ⟨rfl, rfl⟩
  go_wp2_with fail
  refine (rtwo_8 _).mono ?_
  rintro e w' ⟨rfl, rfl⟩
  go_wp2_with fail
  refine (rkids_8 _).mono ?_
  rintro e w' ⟨rfl, rfl⟩
  go_wp2_with fail
  refine (rkids_8 _).mono ?_
  rintro e w' ⟨rfl, rfl⟩
  go_wp2_with fail
  go_returns
  exact ⟨congrArg (fun z => Ending.returned (Value.bool z)) HE.out.symm, HA.out⟩
 have HE := Lib.hid (show plainB ⟨8, f, t, u, x, a, b⟩ = true from by simp only [plainB, namedB, twoB, kidsN]; simp [*])
 go_enter Tryz.func210, Tryz.ntmps210
 go_wp2_with fail
 refine (rnamed_8 _).mono ?_
 rintro e w' ⟨rfl, rfl⟩
 go_wp2_with fail
 refine (rtwo_8 _).mono ?_
 rintro e w' ⟨rfl, rfl⟩
 go_wp2_with fail
 refine (rkids_8 _).mono ?_
 rintro e w' ⟨rfl, rfl⟩
 go_wp2_with fail
 refine (rkids_8 _).mono ?_
 rintro e w' ⟨rfl, rfl⟩
 go_wp2_with fail
 go_returns
 exact ⟨congrArg (fun z => Ending.returned (Value.bool z)) HE.out.symm, HA.out⟩
set_option maxRecDepth 100000 in
set_option maxHeartbeats 6400000 in
theorem rplain_9 (f t u : Int) (x : ByteArray) (a b : Int) (w : World) :
  Calls Tryz.prog 210 #[.agg #[.int .i64 9, .int .i64 f, .int .i64 t, .int .u64 u, .string x, .int .i64 a, .int .i64 b]] w fun e w' => e = .returned (.bool (plainB ⟨9, f, t, u, x, a, b⟩)) ∧ Below w.heap.size w w' := by
 have HA := Lib.hid (show Below w.heap.size w (w.alloc (.cells #[.int .i64 9, .int .i64 f, .int .i64 t, .int .u64 u, .string x, .int .i64 a, .int .i64 b] NodeT)) from (Below.refl _ _).alloc (Nat.le_refl _) _)
 have hb : (w.alloc (.cells #[.int .i64 9, .int .i64 f, .int .i64 t, .int .u64 u, .string x, .int .i64 a, .int .i64 b] NodeT)).heap[w.heap.size]? = some (Obj.cells #[.int .i64 9, .int .i64 f, .int .i64 t, .int .u64 u, .string x, .int .i64 a, .int .i64 b] NodeT) := heap_alloc_new _ _
 have z0 : (w.alloc (.cells #[.int .i64 9, .int .i64 f, .int .i64 t, .int .u64 u, .string x, .int .i64 a, .int .i64 b] NodeT)).cell? ⟨w.heap.size, 0, none⟩ = some (.int .i64 9) := cellB hb rfl
 have z1 : (w.alloc (.cells #[.int .i64 9, .int .i64 f, .int .i64 t, .int .u64 u, .string x, .int .i64 a, .int .i64 b] NodeT)).cell? ⟨w.heap.size, 1, none⟩ = some (.int .i64 f) := cellB hb rfl
 have z2 : (w.alloc (.cells #[.int .i64 9, .int .i64 f, .int .i64 t, .int .u64 u, .string x, .int .i64 a, .int .i64 b] NodeT)).cell? ⟨w.heap.size, 2, none⟩ = some (.int .i64 t) := cellB hb rfl
 have z3 : (w.alloc (.cells #[.int .i64 9, .int .i64 f, .int .i64 t, .int .u64 u, .string x, .int .i64 a, .int .i64 b] NodeT)).cell? ⟨w.heap.size, 3, none⟩ = some (.int .u64 u) := cellB hb rfl
 have z4 : (w.alloc (.cells #[.int .i64 9, .int .i64 f, .int .i64 t, .int .u64 u, .string x, .int .i64 a, .int .i64 b] NodeT)).cell? ⟨w.heap.size, 4, none⟩ = some (.string x) := cellB hb rfl
 have z5 : (w.alloc (.cells #[.int .i64 9, .int .i64 f, .int .i64 t, .int .u64 u, .string x, .int .i64 a, .int .i64 b] NodeT)).cell? ⟨w.heap.size, 5, none⟩ = some (.int .i64 a) := cellB hb rfl
 have z6 : (w.alloc (.cells #[.int .i64 9, .int .i64 f, .int .i64 t, .int .u64 u, .string x, .int .i64 a, .int .i64 b] NodeT)).cell? ⟨w.heap.size, 6, none⟩ = some (.int .i64 b) := cellB hb rfl
 clear hb
 cases hu : (u == 0)
 ·have HE := Lib.hid (show plainB ⟨9, f, t, u, x, a, b⟩ = false from by simp only [plainB, namedB, twoB, kidsN]; simp [*])
  go_enter Tryz.func210, Tryz.ntmps210
  go_wp2_with fail
  refine (rnamed_9 _).mono ?_
  rintro e w' ⟨rfl, rfl⟩
  go_wp2_with fail
  refine (rtwo_9 _).mono ?_
  rintro e w' ⟨rfl, rfl⟩
  go_wp2_with fail
  go_returns
  exact ⟨congrArg (fun z => Ending.returned (Value.bool z)) HE.out.symm, HA.out⟩
 cases hx : x.toList.isEmpty
 ·have hx2 : (!x.toList.isEmpty) = true := by rw [hx]; rfl
  have hx3 : (x.toList == (⟨#[]⟩ : ByteArray).toList) = false := emp_no hx
  have HE := Lib.hid (show plainB ⟨9, f, t, u, x, a, b⟩ = false from by simp only [plainB, namedB, twoB, kidsN]; simp [*])
  go_enter Tryz.func210, Tryz.ntmps210
  go_wp2_with fail
  refine (rnamed_9 _).mono ?_
  rintro e w' ⟨rfl, rfl⟩
  go_wp2_with fail
  refine (rtwo_9 _).mono ?_
  rintro e w' ⟨rfl, rfl⟩
  go_wp2_with fail
  go_returns
  exact ⟨congrArg (fun z => Ending.returned (Value.bool z)) HE.out.symm, HA.out⟩
 have hx2 : (!x.toList.isEmpty) = false := by rw [hx]; rfl
 have hx3 : (x.toList == (⟨#[]⟩ : ByteArray).toList) = true := emp_yes hx
 cases hb : (b == 0)
 ·have HE := Lib.hid (show plainB ⟨9, f, t, u, x, a, b⟩ = false from by simp only [plainB, namedB, twoB, kidsN]; simp [*])
  go_enter Tryz.func210, Tryz.ntmps210
  go_wp2_with fail
  refine (rnamed_9 _).mono ?_
  rintro e w' ⟨rfl, rfl⟩
  go_wp2_with fail
  refine (rtwo_9 _).mono ?_
  rintro e w' ⟨rfl, rfl⟩
  go_wp2_with fail
  refine (rkids_9 _).mono ?_
  rintro e w' ⟨rfl, rfl⟩
  go_wp2_with fail
  refine (rkids_9 _).mono ?_
  rintro e w' ⟨rfl, rfl⟩
  go_wp2_with fail
  go_returns
  exact ⟨congrArg (fun z => Ending.returned (Value.bool z)) HE.out.symm, HA.out⟩
 have HE := Lib.hid (show plainB ⟨9, f, t, u, x, a, b⟩ = true from by simp only [plainB, namedB, twoB, kidsN]; simp [*])
 go_enter Tryz.func210, Tryz.ntmps210
 go_wp2_with fail
 refine (rnamed_9 _).mono ?_
 rintro e w' ⟨rfl, rfl⟩
 go_wp2_with fail
 refine (rtwo_9 _).mono ?_
 rintro e w' ⟨rfl, rfl⟩
 go_wp2_with fail
 refine (rkids_9 _).mono ?_
 rintro e w' ⟨rfl, rfl⟩
 go_wp2_with fail
 refine (rkids_9 _).mono ?_
 rintro e w' ⟨rfl, rfl⟩
 go_wp2_with fail
 go_returns
 exact ⟨congrArg (fun z => Ending.returned (Value.bool z)) HE.out.symm, HA.out⟩
end Go.Proofs.YtjmcaceegfdkkaaGreatDoor
