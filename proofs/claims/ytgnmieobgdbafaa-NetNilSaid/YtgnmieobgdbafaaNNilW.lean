/-
  NetNil: a nil net answers as it should. The walk.
-/
import Derived.Test.YtgnmieobgdbafaaNNil
import Derived.Test.YtgnmieobgdbafaaNArg
namespace Go.Proofs.Ytgnmieobgdbafaa
open Go.RowKit
set_option linter.unusedVariables false
set_option maxRecDepth 100000 in
set_option maxHeartbeats 6400000 in
theorem nil_walk (w : World) (z : Ac) : Calls Try.prog 7 #[.agg #[.int .i64 z.kd, .int .i64 z.a, .int .i64 z.b, .string z.v, .bool z.on]] w fun e w' => e = .returned (.bool true) ∧ Below w.heap.size w w' := by
  have ex0 : ∀ (v u : Value) (W : World), (Instr.extract (.tuple #[v, u]) 0).run Try.prog W = .ok v W := fun v u W => by kernel_rfl
  have ex1 : ∀ (v u : Value) (W : World), (Instr.extract (.tuple #[v, u]) 1).run Try.prog W = .ok u W := fun v u W => by kernel_rfl
  have heq : ∀ W : World, (binOp .eql PkT (.agg #[.int .i64 0, .int .i64 0, .int .i64 0, .string ⟨#[]⟩, .int .i64 0]) (.agg #[.int .i64 0, .int .i64 0, .int .i64 0, .string ⟨#[]⟩, .int .i64 0])).run Try.prog W = .ok (.bool true) W := fun W => eq_pk zeroP W
  obtain ⟨kd, za, zb, zv, zo⟩ := z
  have b1 : Below w.heap.size w (w.alloc (.cells #[.int .i64 kd, .int .i64 za, .int .i64 zb, .string zv, .bool zo] 31)) := (Below.refl _ _).alloc (Nat.le_refl _) _
  have z1 := heap_alloc_new w (.cells #[.int .i64 kd, .int .i64 za, .int .i64 zb, .string zv, .bool zo] 31)
  have B1 := Lib.hid b1
  have Z1 := Lib.hid z1
  have L1 : Hid (w.heap.size < (w.alloc (.cells #[.int .i64 kd, .int .i64 za, .int .i64 zb, .string zv, .bool zo] 31)).heap.size) := Lib.hid (by simp)
  clear b1 z1
  go_enter Try.func7, Try.ntmps7
  go_wp2_with fail
  generalize (w.alloc (.cells #[.int .i64 kd, .int .i64 za, .int .i64 zb, .string zv, .bool zo] 31)) = W1 at *
  refine (send_nil _ _ _ _).mono ?_
  rintro e w1 ⟨rfl, rfl⟩
  have c1 := cellB (j := 1) Z1.out rfl
  have c2 := cellB (j := 2) Z1.out rfl
  go_wp2_with fail
  refine (deliver_nil _ _).mono ?_
  rintro e w2 ⟨rfl, b2⟩
  have Z2 := Lib.hid ((b2.block _ L1.out).trans Z1.out)
  have B2 := Lib.hid (B1.out.trans (b2.mono B1.out.size))
  have L2 := Lib.hid (Nat.lt_of_lt_of_le L1.out b2.size)
  have b3 : Below w2.heap.size w2 (w2.alloc (.cells zC PkT)) := (Below.refl _ _).alloc (Nat.le_refl _) _
  have Z3 := Lib.hid ((b3.block _ L2.out).trans Z2.out)
  have P3 := Lib.hid (show (w2.alloc (.cells zC PkT)).heap[w2.heap.size]? = some (.cells zC PkT) from heap_alloc_new _ _)
  have B3 := Lib.hid (bmore B2.out b3)
  clear b2 b3 c1 c2
  have d1 := cellB (j := 1) Z3.out rfl
  have d2 := cellB (j := 2) Z3.out rfl
  have d4 := cellB (j := 4) Z3.out rfl
  have p0 := cellB (j := 0) P3.out rfl
  have p1 := cellB (j := 1) P3.out rfl
  have p2 := cellB (j := 2) P3.out rfl
  have p3 := cellB (j := 3) P3.out rfl
  have p4 := cellB (j := 4) P3.out rfl
  go_wp2_with fail
  generalize (w2.alloc (.cells zC PkT)) = W3 at *
  refine (double_nil _ _).mono ?_
  rintro e w4 ⟨rfl, rfl⟩
  go_wp2_with fail
  refine (tick_nil _).mono ?_
  rintro e w4 ⟨rfl, rfl⟩
  go_wp2_with fail
  refine (num15 _ _).mono ?_
  rintro e w4 ⟨rfl, rfl⟩
  go_wp2_with fail
  refine (num15 _ _).mono ?_
  rintro e w4 ⟨rfl, rfl⟩
  go_wp2_with fail
  refine (num15 _ _).mono ?_
  rintro e w4 ⟨rfl, rfl⟩
  go_wp2_with fail
  refine (drop_nil _ _).mono ?_
  rintro e w4 ⟨rfl, rfl⟩
  go_wp2_with fail
  refine (num15 _ _).mono ?_
  rintro e w4 ⟨rfl, rfl⟩
  go_wp2_with fail
  refine (move_nil _ _ _).mono ?_
  rintro e w4 ⟨rfl, rfl⟩
  go_wp2_with fail
  refine (num15 _ _).mono ?_
  rintro e w4 ⟨rfl, rfl⟩
  go_wp2_with fail
  refine (hold_nil _ _ _).mono ?_
  rintro e w4 ⟨rfl, rfl⟩
  go_wp2_with fail
  refine (num15 _ _).mono ?_
  rintro e w4 ⟨rfl, rfl⟩
  go_wp2_with fail
  refine (cut_nil _ _ _ _).mono ?_
  rintro e w4 ⟨rfl, rfl⟩
  go_wp2_with fail
  refine (num15 _ _).mono ?_
  rintro e w4 ⟨rfl, rfl⟩
  clear p0 p1 p2 p3 p4 d1 d2 d4
  go_wp2_with fail
  refine (flying_nil _).mono ?_
  rintro e w4 ⟨rfl, rfl⟩
  go_wp2_with fail
  refine (heard_nil _).mono ?_
  rintro e w4 ⟨rfl, rfl⟩
  go_wp2_with fail
  refine (ready_nil _).mono ?_
  rintro e w4 ⟨rfl, rfl⟩
  go_wp2_with fail
  refine (sent_nil _ _ _).mono ?_
  rintro e w4 ⟨rfl, b4⟩
  have B4 := Lib.hid (bmore B3.out b4)
  clear b4
  go_wp2_with fail
  refine (came_nil _ _ _).mono ?_
  rintro e w5 ⟨rfl, b5⟩
  have B5 := Lib.hid (bmore B4.out b5)
  clear b5
  go_wp2_with fail
  refine (live15 _).mono ?_
  rintro e w6 ⟨rfl, b6⟩
  have B6 := Lib.hid (bmore B5.out b6)
  clear b6
  go_wp2_with fail
  go_returns
  exact ⟨rfl, B6.out⟩
end Go.Proofs.Ytgnmieobgdbafaa
