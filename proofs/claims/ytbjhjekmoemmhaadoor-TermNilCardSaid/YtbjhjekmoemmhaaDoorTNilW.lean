/-
  The walk of TermNil.
-/
import Derived.Test.YtbjhjekmoemmhaaDoorTNilC
namespace Go.Proofs.YtbjhjekmoemmhaaDoor
open Go.RowKit
set_option linter.unusedVariables false

theorem eq_node0 (W : World) : (binOp .eql NodeT (.agg #[.int .i64 0, .int .i64 0, .int .i64 0, .int .u64 0, .string ⟨#[]⟩, .int .i64 0, .int .i64 0]) (.agg #[.int .i64 0, .int .i64 0, .int .i64 0, .int .u64 0, .string ⟨#[]⟩, .int .i64 0, .int .i64 0])).run Tryd.prog W = .ok (.bool true) W := by kernel_rfl

set_option maxRecDepth 100000 in
set_option maxHeartbeats 12800000 in
theorem nil_walk (n : Nd) (t : Int) {w : World} (hl : Laid w) : Calls Tryd.prog 10 #[.agg (nodeA n), .int .i64 t] w fun e w' => e = .returned (.bool true) ∧ Below w.heap.size w w' := by
  have hmk := nmake n
  have hhs := nhas n
  obtain ⟨k, f, q, u, x, y, z⟩ := n
  simp only [nodeA] at *
  have HMK := Lib.hid hmk
  have HHS := Lib.hid hhs
  have bA : Below w.heap.size w (w.alloc (.cells #[.int .i64 k, .int .i64 f, .int .i64 q, .int .u64 u, .string x, .int .i64 y, .int .i64 z] NodeT)) := (Below.refl _ _).alloc (Nat.le_refl _) _
  have hb : (w.alloc (.cells #[.int .i64 k, .int .i64 f, .int .i64 q, .int .u64 u, .string x, .int .i64 y, .int .i64 z] NodeT)).heap[w.heap.size]? = some (Obj.cells #[.int .i64 k, .int .i64 f, .int .i64 q, .int .u64 u, .string x, .int .i64 y, .int .i64 z] NodeT) := heap_alloc_new _ _
  have z0 : (w.alloc (.cells #[.int .i64 k, .int .i64 f, .int .i64 q, .int .u64 u, .string x, .int .i64 y, .int .i64 z] NodeT)).cell? ⟨w.heap.size, 0, none⟩ = some (.int .i64 k) := cellB hb rfl
  have z1 : (w.alloc (.cells #[.int .i64 k, .int .i64 f, .int .i64 q, .int .u64 u, .string x, .int .i64 y, .int .i64 z] NodeT)).cell? ⟨w.heap.size, 1, none⟩ = some (.int .i64 f) := cellB hb rfl
  have z2 : (w.alloc (.cells #[.int .i64 k, .int .i64 f, .int .i64 q, .int .u64 u, .string x, .int .i64 y, .int .i64 z] NodeT)).cell? ⟨w.heap.size, 2, none⟩ = some (.int .i64 q) := cellB hb rfl
  have z3 : (w.alloc (.cells #[.int .i64 k, .int .i64 f, .int .i64 q, .int .u64 u, .string x, .int .i64 y, .int .i64 z] NodeT)).cell? ⟨w.heap.size, 3, none⟩ = some (.int .u64 u) := cellB hb rfl
  have z4 : (w.alloc (.cells #[.int .i64 k, .int .i64 f, .int .i64 q, .int .u64 u, .string x, .int .i64 y, .int .i64 z] NodeT)).cell? ⟨w.heap.size, 4, none⟩ = some (.string x) := cellB hb rfl
  have z5 : (w.alloc (.cells #[.int .i64 k, .int .i64 f, .int .i64 q, .int .u64 u, .string x, .int .i64 y, .int .i64 z] NodeT)).cell? ⟨w.heap.size, 5, none⟩ = some (.int .i64 y) := cellB hb rfl
  have z6 : (w.alloc (.cells #[.int .i64 k, .int .i64 f, .int .i64 q, .int .u64 u, .string x, .int .i64 y, .int .i64 z] NodeT)).cell? ⟨w.heap.size, 6, none⟩ = some (.int .i64 z) := cellB hb rfl
  have HB := Lib.hid hb
  have HA := Lib.hid bA
  have HL := Lib.hid hl
  have heq := eq_node0
  clear hl hmk hhs bA hb
  go_enter Tryd.func10, Tryd.ntmps10
  go_wp2_with fail
  generalize (w.alloc (.cells #[.int .i64 k, .int .i64 f, .int .i64 q, .int .u64 u, .string x, .int .i64 y, .int .i64 z] NodeT)) = W at *
  refine (HMK.out _).mono ?_
  rintro e w1 ⟨rfl, u1⟩
  replace z0 := bcellAt u1 z0
  replace z1 := bcellAt u1 z1
  replace z2 := bcellAt u1 z2
  replace z3 := bcellAt u1 z3
  replace z4 := bcellAt u1 z4
  replace z5 := bcellAt u1 z5
  replace z6 := bcellAt u1 z6
  have U1 := Lib.hid (bmore HA.out u1)
  clear u1
  go_wp2_with fail
  refine (HHS.out _).mono ?_
  rintro e w2 ⟨rfl, u2⟩
  have U2 := Lib.hid (bmore U1.out u2)
  clear u2 z0 z1 z2 z3 z4 z5 z6
  go_wp2_with fail
  refine (nof _ _).mono ?_
  rintro e w3 ⟨rfl, u3⟩
  have U3 := Lib.hid (bmore U2.out u3)
  clear u3
  go_wp2_with fail
  refine (nnode t _).mono ?_
  rintro e w4 ⟨rfl, u4⟩
  have U4 := Lib.hid (bmore U3.out u4)
  clear u4
  have hm : (w4.alloc (.cells #[.int .i64 0, .int .i64 0, .int .i64 0, .int .u64 0, .string ⟨#[]⟩, .int .i64 0, .int .i64 0] NodeT)).heap[w4.heap.size]? = some (Obj.cells #[.int .i64 0, .int .i64 0, .int .i64 0, .int .u64 0, .string ⟨#[]⟩, .int .i64 0, .int .i64 0] NodeT) := heap_alloc_new _ _
  have bm := bAl U4.out (.cells #[.int .i64 0, .int .i64 0, .int .i64 0, .int .u64 0, .string ⟨#[]⟩, .int .i64 0, .int .i64 0] NodeT)
  go_wp2_with fail
  generalize (w4.alloc (.cells #[.int .i64 0, .int .i64 0, .int .i64 0, .int .u64 0, .string ⟨#[]⟩, .int .i64 0, .int .i64 0] NodeT)) = W4 at *
  generalize w4.heap.size = M at *
  refine (nname 0 _).mono ?_
  rintro e w5 ⟨rfl, u5⟩
  have hm5 := Hold.below u5 _ _ hm
  have c0 : w5.cell? ⟨M, 0, none⟩ = some (.int .i64 0) := cellB hm5 rfl
  have c1 : w5.cell? ⟨M, 1, none⟩ = some (.int .i64 0) := cellB hm5 rfl
  have c2 : w5.cell? ⟨M, 2, none⟩ = some (.int .i64 0) := cellB hm5 rfl
  have c3 : w5.cell? ⟨M, 3, none⟩ = some (.int .u64 0) := cellB hm5 rfl
  have c4 : w5.cell? ⟨M, 4, none⟩ = some (.string ⟨#[]⟩) := cellB hm5 rfl
  have c5 : w5.cell? ⟨M, 5, none⟩ = some (.int .i64 0) := cellB hm5 rfl
  have c6 : w5.cell? ⟨M, 6, none⟩ = some (.int .i64 0) := cellB hm5 rfl
  have U5 := Lib.hid (bmore bm u5)
  clear u5 hm hm5 bm
  go_wp2_with fail
  refine (num_any _ _).mono ?_
  rintro e w' ⟨rfl, rfl⟩
  go_wp2_with fail
  refine (num_any _ _).mono ?_
  rintro e w' ⟨rfl, rfl⟩
  go_wp2_with fail
  refine (num_any _ _).mono ?_
  rintro e w' ⟨rfl, rfl⟩
  go_wp2_with fail
  refine (nsize t _).mono ?_
  rintro e w6 ⟨rfl, u6⟩
  have U6 := Lib.hid (bmore U5.out u6)
  clear u6 c0 c1 c2 c3 c4 c5 c6 heq
  go_wp2_with fail
  refine (ndepth t _).mono ?_
  rintro e w7 ⟨rfl, u7⟩
  have U7 := Lib.hid (bmore U6.out u7)
  clear u7
  go_wp2_with fail
  refine (nlen _).mono ?_
  rintro e w' ⟨rfl, rfl⟩
  go_wp2_with fail
  refine (ntree t (HL.out.below U7.out)).mono ?_
  rintro e w8 ⟨rfl, u8⟩
  have U8 := Lib.hid (bmore U7.out u8)
  clear u8
  go_wp2_with fail
  refine (same0 _).mono ?_
  rintro e w9 ⟨rfl, u9⟩
  have U9 := Lib.hid (bmore U8.out u9)
  clear u9
  go_wp2_with fail
  refine (ncompare t _).mono ?_
  rintro e w10 ⟨rfl, u10⟩
  have U10 := Lib.hid (bmore U9.out u10)
  clear u10
  go_wp2_with fail
  refine (live_any (HL.out.below U10.out)).mono ?_
  rintro e w11 ⟨rfl, u11⟩
  have U11 := Lib.hid (bmore U10.out u11)
  clear u11
  go_wp2_with fail
  go_returns
  exact ⟨rfl, U11.out⟩
end Go.Proofs.YtbjhjekmoemmhaaDoor
