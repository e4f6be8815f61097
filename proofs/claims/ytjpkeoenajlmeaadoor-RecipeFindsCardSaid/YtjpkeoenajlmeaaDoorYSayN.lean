/-
  putting in memory: the operation that makes a term of a node.
  slices.Index over terms.
  saying in memory: the operation that makes what a step says.
  saying in memory, of what is free or made.
-/
import Derived.Test.YtjpkeoenajlmeaaDoorYFndP
import Derived.Test.YtjpkeoenajlmeaaDoorYDoA
import Derived.Test.YtjpkeoenajlmeaaDoorYLayB
namespace Go.Proofs.YtjpkeoenajlmeaaDoor
open Go.RowKit Go.Maps
set_option linter.unusedVariables false

set_option maxRecDepth 100000 in
set_option maxHeartbeats 3200000 in
theorem putting_1 (w : World) (ff tt uu xa xb a b : Int) (ss : ByteArray) : Calls Tryd.prog 73 #[.agg #[.int .i64 1, .int .i64 ff, .int .i64 tt, .int .u64 uu, .string ss, .int .i64 xa, .int .i64 xb], .int .i64 a, .int .i64 b] w fun e w' => e = .returned (.agg (opA (putP ⟨1, ff, tt, uu, ss, xa, xb⟩ a b))) ∧ Below w.heap.size w w' := by
  have hw0 := (two_boxes w (.cells #[.int .i64 1, .int .i64 ff, .int .i64 tt, .int .u64 uu, .string ss, .int .i64 xa, .int .i64 xb] NodeT) (.cells #[.int .i64 0, .int .i64 0, .int .i64 0, .int .u64 0, .string ⟨#[]⟩] OpT)).2.1
  obtain ⟨bA, hx, hy⟩ := two_boxes w (.cells #[.int .i64 1, .int .i64 ff, .int .i64 tt, .int .u64 uu, .string ss, .int .i64 xa, .int .i64 xb] NodeT) (.cells #[.int .i64 1, .int .i64 ff, .int .i64 0, .int .u64 0, .string ⟨#[]⟩] OpT)
  have x0 := cellB (j := 0) hw0 rfl
  have x1 := cellB (j := 1) hw0 rfl
  have x2 := cellB (j := 2) hw0 rfl
  have x3 := cellB (j := 3) hw0 rfl
  have x4 := cellB (j := 4) hw0 rfl
  have HA := Lib.hid bA
  have HY := Lib.hid hy
  clear hx hy bA hw0
  go_enter Tryd.func73, Tryd.ntmps73
  go_wp2_with fail
  have c0 := cellB (j := 0) HY.out rfl
  have c1 := cellB (j := 1) HY.out rfl
  have c2 := cellB (j := 2) HY.out rfl
  have c3 := cellB (j := 3) HY.out rfl
  have c4 := cellB (j := 4) HY.out rfl
  clear x0 x1 x2 x3 x4
  generalize ((w.alloc (.cells #[.int .i64 1, .int .i64 ff, .int .i64 tt, .int .u64 uu, .string ss, .int .i64 xa, .int .i64 xb] NodeT)).alloc (.cells #[.int .i64 1, .int .i64 ff, .int .i64 0, .int .u64 0, .string ⟨#[]⟩] OpT)) = W at *
  refine bodyPost_ret (v := .agg #[.int .i64 1, .int .i64 ff, .int .i64 0, .int .u64 0, .string ⟨#[]⟩]) (by simp [results, Tryd.results73, go_sem, c0, c1, c2, c3, c4]) rfl ⟨rfl, HA.out⟩
set_option maxRecDepth 100000 in
set_option maxHeartbeats 3200000 in
theorem putting_2 (w : World) (ff tt uu xa xb a b : Int) (ss : ByteArray) : Calls Tryd.prog 73 #[.agg #[.int .i64 2, .int .i64 ff, .int .i64 tt, .int .u64 uu, .string ss, .int .i64 xa, .int .i64 xb], .int .i64 a, .int .i64 b] w fun e w' => e = .returned (.agg (opA (putP ⟨2, ff, tt, uu, ss, xa, xb⟩ a b))) ∧ Below w.heap.size w w' := by
  have hw0 := (two_boxes w (.cells #[.int .i64 2, .int .i64 ff, .int .i64 tt, .int .u64 uu, .string ss, .int .i64 xa, .int .i64 xb] NodeT) (.cells #[.int .i64 0, .int .i64 0, .int .i64 0, .int .u64 0, .string ⟨#[]⟩] OpT)).2.1
  obtain ⟨bA, hx, hy⟩ := two_boxes w (.cells #[.int .i64 2, .int .i64 ff, .int .i64 tt, .int .u64 uu, .string ss, .int .i64 xa, .int .i64 xb] NodeT) (.cells #[.int .i64 2, .int .i64 0, .int .i64 0, .int .u64 uu, .string ⟨#[]⟩] OpT)
  have x0 := cellB (j := 0) hw0 rfl
  have x1 := cellB (j := 1) hw0 rfl
  have x2 := cellB (j := 2) hw0 rfl
  have x3 := cellB (j := 3) hw0 rfl
  have x4 := cellB (j := 4) hw0 rfl
  have HA := Lib.hid bA
  have HY := Lib.hid hy
  clear hx hy bA hw0
  go_enter Tryd.func73, Tryd.ntmps73
  go_wp2_with fail
  have c0 := cellB (j := 0) HY.out rfl
  have c1 := cellB (j := 1) HY.out rfl
  have c2 := cellB (j := 2) HY.out rfl
  have c3 := cellB (j := 3) HY.out rfl
  have c4 := cellB (j := 4) HY.out rfl
  clear x0 x1 x2 x3 x4
  generalize ((w.alloc (.cells #[.int .i64 2, .int .i64 ff, .int .i64 tt, .int .u64 uu, .string ss, .int .i64 xa, .int .i64 xb] NodeT)).alloc (.cells #[.int .i64 2, .int .i64 0, .int .i64 0, .int .u64 uu, .string ⟨#[]⟩] OpT)) = W at *
  refine bodyPost_ret (v := .agg #[.int .i64 2, .int .i64 0, .int .i64 0, .int .u64 uu, .string ⟨#[]⟩]) (by simp [results, Tryd.results73, go_sem, c0, c1, c2, c3, c4]) rfl ⟨rfl, HA.out⟩
set_option maxRecDepth 100000 in
set_option maxHeartbeats 3200000 in
theorem putting_3 (w : World) (ff tt uu xa xb a b : Int) (ss : ByteArray) : Calls Tryd.prog 73 #[.agg #[.int .i64 3, .int .i64 ff, .int .i64 tt, .int .u64 uu, .string ss, .int .i64 xa, .int .i64 xb], .int .i64 a, .int .i64 b] w fun e w' => e = .returned (.agg (opA (putP ⟨3, ff, tt, uu, ss, xa, xb⟩ a b))) ∧ Below w.heap.size w w' := by
  have hw0 := (two_boxes w (.cells #[.int .i64 3, .int .i64 ff, .int .i64 tt, .int .u64 uu, .string ss, .int .i64 xa, .int .i64 xb] NodeT) (.cells #[.int .i64 0, .int .i64 0, .int .i64 0, .int .u64 0, .string ⟨#[]⟩] OpT)).2.1
  obtain ⟨bA, hx, hy⟩ := two_boxes w (.cells #[.int .i64 3, .int .i64 ff, .int .i64 tt, .int .u64 uu, .string ss, .int .i64 xa, .int .i64 xb] NodeT) (.cells #[.int .i64 3, .int .i64 0, .int .i64 0, .int .u64 0, .string ss] OpT)
  have x0 := cellB (j := 0) hw0 rfl
  have x1 := cellB (j := 1) hw0 rfl
  have x2 := cellB (j := 2) hw0 rfl
  have x3 := cellB (j := 3) hw0 rfl
  have x4 := cellB (j := 4) hw0 rfl
  have HA := Lib.hid bA
  have HY := Lib.hid hy
  clear hx hy bA hw0
  go_enter Tryd.func73, Tryd.ntmps73
  go_wp2_with fail
  have c0 := cellB (j := 0) HY.out rfl
  have c1 := cellB (j := 1) HY.out rfl
  have c2 := cellB (j := 2) HY.out rfl
  have c3 := cellB (j := 3) HY.out rfl
  have c4 := cellB (j := 4) HY.out rfl
  clear x0 x1 x2 x3 x4
  generalize ((w.alloc (.cells #[.int .i64 3, .int .i64 ff, .int .i64 tt, .int .u64 uu, .string ss, .int .i64 xa, .int .i64 xb] NodeT)).alloc (.cells #[.int .i64 3, .int .i64 0, .int .i64 0, .int .u64 0, .string ss] OpT)) = W at *
  refine bodyPost_ret (v := .agg #[.int .i64 3, .int .i64 0, .int .i64 0, .int .u64 0, .string ss]) (by simp [results, Tryd.results73, go_sem, c0, c1, c2, c3, c4]) rfl ⟨rfl, HA.out⟩
set_option maxRecDepth 100000 in
set_option maxHeartbeats 3200000 in
theorem putting_4 (w : World) (ff tt uu xa xb a b : Int) (ss : ByteArray) : Calls Tryd.prog 73 #[.agg #[.int .i64 4, .int .i64 ff, .int .i64 tt, .int .u64 uu, .string ss, .int .i64 xa, .int .i64 xb], .int .i64 a, .int .i64 b] w fun e w' => e = .returned (.agg (opA (putP ⟨4, ff, tt, uu, ss, xa, xb⟩ a b))) ∧ Below w.heap.size w w' := by
  have hw0 := (two_boxes w (.cells #[.int .i64 4, .int .i64 ff, .int .i64 tt, .int .u64 uu, .string ss, .int .i64 xa, .int .i64 xb] NodeT) (.cells #[.int .i64 0, .int .i64 0, .int .i64 0, .int .u64 0, .string ⟨#[]⟩] OpT)).2.1
  obtain ⟨bA, hx, hy⟩ := two_boxes w (.cells #[.int .i64 4, .int .i64 ff, .int .i64 tt, .int .u64 uu, .string ss, .int .i64 xa, .int .i64 xb] NodeT) (.cells #[.int .i64 4, .int .i64 a, .int .i64 b, .int .u64 0, .string ⟨#[]⟩] OpT)
  have x0 := cellB (j := 0) hw0 rfl
  have x1 := cellB (j := 1) hw0 rfl
  have x2 := cellB (j := 2) hw0 rfl
  have x3 := cellB (j := 3) hw0 rfl
  have x4 := cellB (j := 4) hw0 rfl
  have HA := Lib.hid bA
  have HY := Lib.hid hy
  clear hx hy bA hw0
  go_enter Tryd.func73, Tryd.ntmps73
  go_wp2_with fail
  have c0 := cellB (j := 0) HY.out rfl
  have c1 := cellB (j := 1) HY.out rfl
  have c2 := cellB (j := 2) HY.out rfl
  have c3 := cellB (j := 3) HY.out rfl
  have c4 := cellB (j := 4) HY.out rfl
  clear x0 x1 x2 x3 x4
  generalize ((w.alloc (.cells #[.int .i64 4, .int .i64 ff, .int .i64 tt, .int .u64 uu, .string ss, .int .i64 xa, .int .i64 xb] NodeT)).alloc (.cells #[.int .i64 4, .int .i64 a, .int .i64 b, .int .u64 0, .string ⟨#[]⟩] OpT)) = W at *
  refine bodyPost_ret (v := .agg #[.int .i64 4, .int .i64 a, .int .i64 b, .int .u64 0, .string ⟨#[]⟩]) (by simp [results, Tryd.results73, go_sem, c0, c1, c2, c3, c4]) rfl ⟨rfl, HA.out⟩
set_option maxRecDepth 100000 in
set_option maxHeartbeats 3200000 in
theorem putting_5 (w : World) (ff tt uu xa xb a b : Int) (ss : ByteArray) : Calls Tryd.prog 73 #[.agg #[.int .i64 5, .int .i64 ff, .int .i64 tt, .int .u64 uu, .string ss, .int .i64 xa, .int .i64 xb], .int .i64 a, .int .i64 b] w fun e w' => e = .returned (.agg (opA (putP ⟨5, ff, tt, uu, ss, xa, xb⟩ a b))) ∧ Below w.heap.size w w' := by
  have hw0 := (two_boxes w (.cells #[.int .i64 5, .int .i64 ff, .int .i64 tt, .int .u64 uu, .string ss, .int .i64 xa, .int .i64 xb] NodeT) (.cells #[.int .i64 0, .int .i64 0, .int .i64 0, .int .u64 0, .string ⟨#[]⟩] OpT)).2.1
  obtain ⟨bA, hx, hy⟩ := two_boxes w (.cells #[.int .i64 5, .int .i64 ff, .int .i64 tt, .int .u64 uu, .string ss, .int .i64 xa, .int .i64 xb] NodeT) (.cells #[.int .i64 5, .int .i64 a, .int .i64 0, .int .u64 0, .string ⟨#[]⟩] OpT)
  have x0 := cellB (j := 0) hw0 rfl
  have x1 := cellB (j := 1) hw0 rfl
  have x2 := cellB (j := 2) hw0 rfl
  have x3 := cellB (j := 3) hw0 rfl
  have x4 := cellB (j := 4) hw0 rfl
  have HA := Lib.hid bA
  have HY := Lib.hid hy
  clear hx hy bA hw0
  go_enter Tryd.func73, Tryd.ntmps73
  go_wp2_with fail
  have c0 := cellB (j := 0) HY.out rfl
  have c1 := cellB (j := 1) HY.out rfl
  have c2 := cellB (j := 2) HY.out rfl
  have c3 := cellB (j := 3) HY.out rfl
  have c4 := cellB (j := 4) HY.out rfl
  clear x0 x1 x2 x3 x4
  generalize ((w.alloc (.cells #[.int .i64 5, .int .i64 ff, .int .i64 tt, .int .u64 uu, .string ss, .int .i64 xa, .int .i64 xb] NodeT)).alloc (.cells #[.int .i64 5, .int .i64 a, .int .i64 0, .int .u64 0, .string ⟨#[]⟩] OpT)) = W at *
  refine bodyPost_ret (v := .agg #[.int .i64 5, .int .i64 a, .int .i64 0, .int .u64 0, .string ⟨#[]⟩]) (by simp [results, Tryd.results73, go_sem, c0, c1, c2, c3, c4]) rfl ⟨rfl, HA.out⟩
set_option maxRecDepth 100000 in
set_option maxHeartbeats 3200000 in
theorem putting_7 (w : World) (ff tt uu xa xb a b : Int) (ss : ByteArray) : Calls Tryd.prog 73 #[.agg #[.int .i64 7, .int .i64 ff, .int .i64 tt, .int .u64 uu, .string ss, .int .i64 xa, .int .i64 xb], .int .i64 a, .int .i64 b] w fun e w' => e = .returned (.agg (opA (putP ⟨7, ff, tt, uu, ss, xa, xb⟩ a b))) ∧ Below w.heap.size w w' := by
  have hw0 := (two_boxes w (.cells #[.int .i64 7, .int .i64 ff, .int .i64 tt, .int .u64 uu, .string ss, .int .i64 xa, .int .i64 xb] NodeT) (.cells #[.int .i64 0, .int .i64 0, .int .i64 0, .int .u64 0, .string ⟨#[]⟩] OpT)).2.1
  obtain ⟨bA, hx, hy⟩ := two_boxes w (.cells #[.int .i64 7, .int .i64 ff, .int .i64 tt, .int .u64 uu, .string ss, .int .i64 xa, .int .i64 xb] NodeT) (.cells #[.int .i64 9, .int .i64 a, .int .i64 b, .int .u64 0, .string ⟨#[]⟩] OpT)
  have x0 := cellB (j := 0) hw0 rfl
  have x1 := cellB (j := 1) hw0 rfl
  have x2 := cellB (j := 2) hw0 rfl
  have x3 := cellB (j := 3) hw0 rfl
  have x4 := cellB (j := 4) hw0 rfl
  have HA := Lib.hid bA
  have HY := Lib.hid hy
  clear hx hy bA hw0
  go_enter Tryd.func73, Tryd.ntmps73
  go_wp2_with fail
  have c0 := cellB (j := 0) HY.out rfl
  have c1 := cellB (j := 1) HY.out rfl
  have c2 := cellB (j := 2) HY.out rfl
  have c3 := cellB (j := 3) HY.out rfl
  have c4 := cellB (j := 4) HY.out rfl
  clear x0 x1 x2 x3 x4
  generalize ((w.alloc (.cells #[.int .i64 7, .int .i64 ff, .int .i64 tt, .int .u64 uu, .string ss, .int .i64 xa, .int .i64 xb] NodeT)).alloc (.cells #[.int .i64 9, .int .i64 a, .int .i64 b, .int .u64 0, .string ⟨#[]⟩] OpT)) = W at *
  refine bodyPost_ret (v := .agg #[.int .i64 9, .int .i64 a, .int .i64 b, .int .u64 0, .string ⟨#[]⟩]) (by simp [results, Tryd.results73, go_sem, c0, c1, c2, c3, c4]) rfl ⟨rfl, HA.out⟩
set_option maxRecDepth 100000 in
set_option maxHeartbeats 3200000 in
theorem putting_8 (w : World) (ff tt uu xa xb a b : Int) (ss : ByteArray) (h0 : 0 ≤ tt) (h1 : tt < 16) : Calls Tryd.prog 73 #[.agg #[.int .i64 8, .int .i64 ff, .int .i64 tt, .int .u64 uu, .string ss, .int .i64 xa, .int .i64 xb], .int .i64 a, .int .i64 b] w fun e w' => e = .returned (.agg (opA (putP ⟨8, ff, tt, uu, ss, xa, xb⟩ a b))) ∧ Below w.heap.size w w' := by
  have hw0 := (two_boxes w (.cells #[.int .i64 8, .int .i64 ff, .int .i64 tt, .int .u64 uu, .string ss, .int .i64 xa, .int .i64 xb] NodeT) (.cells #[.int .i64 0, .int .i64 0, .int .i64 0, .int .u64 0, .string ⟨#[]⟩] OpT)).2.1
  obtain ⟨bA, hx, hy⟩ := two_boxes w (.cells #[.int .i64 8, .int .i64 ff, .int .i64 tt, .int .u64 uu, .string ss, .int .i64 xa, .int .i64 xb] NodeT) (.cells #[.int .i64 10, .int .i64 a, .int .i64 b, .int .u64 tt, .string ⟨#[]⟩] OpT)
  have x0 := cellB (j := 0) hw0 rfl
  have x1 := cellB (j := 1) hw0 rfl
  have x2 := cellB (j := 2) hw0 rfl
  have x3 := cellB (j := 3) hw0 rfl
  have x4 := cellB (j := 4) hw0 rfl
  have HA := Lib.hid bA
  have HY := Lib.hid hy
  have hcv : IntKind.u64.wrap tt = tt := IntWalk.u64_in _ (by omega)
  clear hx hy bA hw0
  go_enter Tryd.func73, Tryd.ntmps73
  go_wp2_with fail
  have c0 := cellB (j := 0) HY.out rfl
  have c1 := cellB (j := 1) HY.out rfl
  have c2 := cellB (j := 2) HY.out rfl
  have c3 := cellB (j := 3) HY.out rfl
  have c4 := cellB (j := 4) HY.out rfl
  clear x0 x1 x2 x3 x4
  generalize ((w.alloc (.cells #[.int .i64 8, .int .i64 ff, .int .i64 tt, .int .u64 uu, .string ss, .int .i64 xa, .int .i64 xb] NodeT)).alloc (.cells #[.int .i64 10, .int .i64 a, .int .i64 b, .int .u64 tt, .string ⟨#[]⟩] OpT)) = W at *
  refine bodyPost_ret (v := .agg #[.int .i64 10, .int .i64 a, .int .i64 b, .int .u64 tt, .string ⟨#[]⟩]) (by simp [results, Tryd.results73, go_sem, c0, c1, c2, c3, c4]) rfl ⟨rfl, HA.out⟩
set_option maxRecDepth 100000 in
set_option maxHeartbeats 3200000 in
theorem putting_9 (w : World) (ff tt uu xa xb a b : Int) (ss : ByteArray) (h0 : 0 ≤ ff) (h1 : ff < 16) : Calls Tryd.prog 73 #[.agg #[.int .i64 9, .int .i64 ff, .int .i64 tt, .int .u64 uu, .string ss, .int .i64 xa, .int .i64 xb], .int .i64 a, .int .i64 b] w fun e w' => e = .returned (.agg (opA (putP ⟨9, ff, tt, uu, ss, xa, xb⟩ a b))) ∧ Below w.heap.size w w' := by
  have hw0 := (two_boxes w (.cells #[.int .i64 9, .int .i64 ff, .int .i64 tt, .int .u64 uu, .string ss, .int .i64 xa, .int .i64 xb] NodeT) (.cells #[.int .i64 0, .int .i64 0, .int .i64 0, .int .u64 0, .string ⟨#[]⟩] OpT)).2.1
  obtain ⟨bA, hx, hy⟩ := two_boxes w (.cells #[.int .i64 9, .int .i64 ff, .int .i64 tt, .int .u64 uu, .string ss, .int .i64 xa, .int .i64 xb] NodeT) (.cells #[.int .i64 11, .int .i64 a, .int .i64 b, .int .u64 ff, .string ⟨#[]⟩] OpT)
  have x0 := cellB (j := 0) hw0 rfl
  have x1 := cellB (j := 1) hw0 rfl
  have x2 := cellB (j := 2) hw0 rfl
  have x3 := cellB (j := 3) hw0 rfl
  have x4 := cellB (j := 4) hw0 rfl
  have HA := Lib.hid bA
  have HY := Lib.hid hy
  have hcv : IntKind.u64.wrap ff = ff := IntWalk.u64_in _ (by omega)
  clear hx hy bA hw0
  go_enter Tryd.func73, Tryd.ntmps73
  go_wp2_with fail
  have c0 := cellB (j := 0) HY.out rfl
  have c1 := cellB (j := 1) HY.out rfl
  have c2 := cellB (j := 2) HY.out rfl
  have c3 := cellB (j := 3) HY.out rfl
  have c4 := cellB (j := 4) HY.out rfl
  clear x0 x1 x2 x3 x4
  generalize ((w.alloc (.cells #[.int .i64 9, .int .i64 ff, .int .i64 tt, .int .u64 uu, .string ss, .int .i64 xa, .int .i64 xb] NodeT)).alloc (.cells #[.int .i64 11, .int .i64 a, .int .i64 b, .int .u64 ff, .string ⟨#[]⟩] OpT)) = W at *
  refine bodyPost_ret (v := .agg #[.int .i64 11, .int .i64 a, .int .i64 b, .int .u64 ff, .string ⟨#[]⟩]) (by simp [results, Tryd.results73, go_sem, c0, c1, c2, c3, c4]) rfl ⟨rfl, HA.out⟩
/-- putting, of a node that stands in a pool and holds no key. -/
theorem putting_any {n : Nd} (hs : shp n = 0) (h6 : n.kind ≠ 6) (w : World) (a b : Int) : Calls Tryd.prog 73 #[.agg (nodeA n), .int .i64 a, .int .i64 b] w fun e w' => e = .returned (.agg (opA (putP n a b))) ∧ Below w.heap.size w w' := by
  obtain ⟨hk, _, _, _, _, _, _, q7, q8⟩ := plain_nd hs
  obtain ⟨kk, ff, tt, uu, ss, xa, xb⟩ := n
  simp only at hk h6 q7 q8
  rcases (by omega : kk = 1 ∨ kk = 2 ∨ kk = 3 ∨ kk = 4 ∨ kk = 5 ∨ kk = 7 ∨ kk = 8 ∨ kk = 9) with e | e | e | e | e | e | e | e
  · subst e; exact putting_1 w ff tt uu xa xb a b ss
  · subst e; exact putting_2 w ff tt uu xa xb a b ss
  · subst e; exact putting_3 w ff tt uu xa xb a b ss
  · subst e; exact putting_4 w ff tt uu xa xb a b ss
  · subst e; exact putting_5 w ff tt uu xa xb a b ss
  · subst e; exact putting_7 w ff tt uu xa xb a b ss
  · subst e; exact putting_8 w ff tt uu xa xb a b ss (q8 rfl).1 (q8 rfl).2
  · subst e; exact putting_9 w ff tt uu xa xb a b ss (q7 rfl).1 (q7 rfl).2
end Go.Proofs.YtjpkeoenajlmeaaDoor
namespace Go.Proofs.YtjpkeoenajlmeaaDoor
open Go.RowKit Go.Maps
set_option linter.unusedVariables false

theorem idxP_at {g : List Int} {t : Int} {i : Nat} (hi : i < g.length) (h : g[i] = t) (hb : ∀ j (hj : j < i), g[j] ≠ t) : idxP g t = (i : Int) := by
  have : g.findIdx? (fun x => decide (x = t)) = some i := List.findIdx?_eq_some_iff_getElem.2 ⟨hi, by simpa using h, fun j hj => by simpa using hb j hj⟩
  unfold idxP
  rw [this]
theorem idxP_none {g : List Int} {t : Int} (hb : ∀ j (hj : j < g.length), g[j] ≠ t) : idxP g t = -1 := by
  have : g.findIdx? (fun x => decide (x = t)) = none := List.findIdx?_eq_none_iff.2 fun x hx => by
    obtain ⟨j, hj, rfl⟩ := List.getElem_of_mem hx
    simpa using hb j hj
  unfold idxP
  rw [this]
set_option maxRecDepth 100000 in
set_option maxHeartbeats 1600000 in
theorem index_any {w : World} {vg : Value} {g : List Int} (hg : Row w 1 vg g.length (ints g)) (hl : g.length ≤ 1000000) (t : Int) : Calls Tryd.prog 72 #[vg, .int .i64 t] w fun e w' => e = .returned (.int .i64 (idxP g t)) ∧ w = w' := by
  obtain ⟨ga, gc, rfl, hx⟩ := hg.at
  have HX := Lib.hid hx
  clear hg hx
  go_enter Tryd.func72, Tryd.ntmps72
  go_wp2_with fail
  go_loopw [8] (fun v8 wr => ∃ i : Nat, v8 = .int .i64 (i : Int) ∧ i ≤ g.length ∧ (∀ j (hj : j < i) (hg : j < g.length), g[j] ≠ t) ∧ w = wr) (fun v _ => g.length - (intOf v).toNat)
  case atStart => exact ⟨0, rfl, Nat.zero_le _, fun j hj => by omega, rfl⟩
  case round =>
    obtain ⟨i, rfl, hi, hb, rfl⟩ := hrel
    have HB := Lib.hid hb
    clear hb
    by_cases hlt : i < g.length
    · obtain ⟨gb, go, rfl, q⟩ := HX.out (by omega)
      have d0 := q i _ (ints_at g i hlt)
      have hi0 : (0 : Int) ≤ (i : Int) := by omega
      have hi1 : (i : Int) < (g.length : Int) := by omega
      clear q
      by_cases e : t = g[i]
      · have he : (t == g[i]) = true := by simp [e]
        have HR := Lib.hid (idxP_at hlt e.symm (fun j hj => HB.out j hj (by omega)))
        clear e
        go_wp2_with fail
        go_returns
        exact ⟨by rw [HR.out]; rfl, rfl⟩
      · have he : (t == g[i]) = false := by simp [e]
        have HB2 : Hid (∀ j (hj : j < i + 1) (hg : j < g.length), g[j] ≠ t) := Lib.hid (fun j hj hg => by
          by_cases hji : j = i
          · subst hji; exact fun h => e h.symm
          · exact HB.out j (by omega) hg)
        clear e
        go_wp2_with fail
        go_roundw
        case rel => exact ⟨i + 1, by go_num, by omega, HB2.out, by trivial⟩
        case measure => simp [intOf] <;> omega
    · obtain rfl : i = g.length := by omega
      have HR := Lib.hid (idxP_none (t := t) (fun j hj => HB.out j hj hj))
      clear hlt
      go_wp2_with fail
      go_returns
      exact ⟨by rw [HR.out]; rfl, rfl⟩
end Go.Proofs.YtjpkeoenajlmeaaDoor
namespace Go.Proofs.YtjpkeoenajlmeaaDoor
open Go.RowKit Go.Maps
set_option linter.unusedVariables false

set_option maxRecDepth 100000 in
set_option maxHeartbeats 3200000 in
theorem saying_1 (pv vg : Value) (w : World) (sa sb st : Int) (p : Pl) (g : List Int) : Calls Tryd.prog 53 #[pv, vg, .agg #[.int .i64 1, .int .i64 sa, .int .i64 sb, .int .i64 st]] w fun e w' => e = .returned (.agg (opA (sayP p g ⟨1, sa, sb, st⟩))) ∧ Below w.heap.size w w' := by
  have hw0 := (two_boxes w (.cells #[.int .i64 1, .int .i64 sa, .int .i64 sb, .int .i64 st] StT) (.cells #[.int .i64 0, .int .i64 0, .int .i64 0, .int .u64 0, .string ⟨#[]⟩] OpT)).2.1
  obtain ⟨bA, hx, hy⟩ := two_boxes w (.cells #[.int .i64 1, .int .i64 sa, .int .i64 sb, .int .i64 st] StT) (.cells #[.int .i64 6, .int .i64 sa, .int .i64 0, .int .u64 0, .string ⟨#[]⟩] OpT)
  have x0 := cellB (j := 0) hw0 rfl
  have x1 := cellB (j := 1) hw0 rfl
  have HA := Lib.hid bA
  have HY := Lib.hid hy
  clear hx hy bA hw0
  go_enter Tryd.func53, Tryd.ntmps53
  go_wp2_with fail
  have c0 := cellB (j := 0) HY.out rfl
  have c1 := cellB (j := 1) HY.out rfl
  have c2 := cellB (j := 2) HY.out rfl
  have c3 := cellB (j := 3) HY.out rfl
  have c4 := cellB (j := 4) HY.out rfl
  clear x0 x1
  generalize ((w.alloc (.cells #[.int .i64 1, .int .i64 sa, .int .i64 sb, .int .i64 st] StT)).alloc (.cells #[.int .i64 6, .int .i64 sa, .int .i64 0, .int .u64 0, .string ⟨#[]⟩] OpT)) = W at *
  refine bodyPost_ret (v := .agg #[.int .i64 6, .int .i64 sa, .int .i64 0, .int .u64 0, .string ⟨#[]⟩]) (by simp [results, Tryd.results53, go_sem, c0, c1, c2, c3, c4]) rfl ⟨rfl, HA.out⟩
set_option maxRecDepth 100000 in
set_option maxHeartbeats 3200000 in
theorem saying_2 (pv vg : Value) (w : World) (sa sb st : Int) (p : Pl) (g : List Int) : Calls Tryd.prog 53 #[pv, vg, .agg #[.int .i64 2, .int .i64 sa, .int .i64 sb, .int .i64 st]] w fun e w' => e = .returned (.agg (opA (sayP p g ⟨2, sa, sb, st⟩))) ∧ Below w.heap.size w w' := by
  have hw0 := (two_boxes w (.cells #[.int .i64 2, .int .i64 sa, .int .i64 sb, .int .i64 st] StT) (.cells #[.int .i64 0, .int .i64 0, .int .i64 0, .int .u64 0, .string ⟨#[]⟩] OpT)).2.1
  obtain ⟨bA, hx, hy⟩ := two_boxes w (.cells #[.int .i64 2, .int .i64 sa, .int .i64 sb, .int .i64 st] StT) (.cells #[.int .i64 7, .int .i64 sa, .int .i64 0, .int .u64 0, .string ⟨#[]⟩] OpT)
  have x0 := cellB (j := 0) hw0 rfl
  have x1 := cellB (j := 1) hw0 rfl
  have HA := Lib.hid bA
  have HY := Lib.hid hy
  clear hx hy bA hw0
  go_enter Tryd.func53, Tryd.ntmps53
  go_wp2_with fail
  have c0 := cellB (j := 0) HY.out rfl
  have c1 := cellB (j := 1) HY.out rfl
  have c2 := cellB (j := 2) HY.out rfl
  have c3 := cellB (j := 3) HY.out rfl
  have c4 := cellB (j := 4) HY.out rfl
  clear x0 x1
  generalize ((w.alloc (.cells #[.int .i64 2, .int .i64 sa, .int .i64 sb, .int .i64 st] StT)).alloc (.cells #[.int .i64 7, .int .i64 sa, .int .i64 0, .int .u64 0, .string ⟨#[]⟩] OpT)) = W at *
  refine bodyPost_ret (v := .agg #[.int .i64 7, .int .i64 sa, .int .i64 0, .int .u64 0, .string ⟨#[]⟩]) (by simp [results, Tryd.results53, go_sem, c0, c1, c2, c3, c4]) rfl ⟨rfl, HA.out⟩
set_option maxRecDepth 100000 in
set_option maxHeartbeats 3200000 in
theorem saying_3 (pv vg : Value) (w : World) (sa sb st : Int) (p : Pl) (g : List Int) : Calls Tryd.prog 53 #[pv, vg, .agg #[.int .i64 3, .int .i64 sa, .int .i64 sb, .int .i64 st]] w fun e w' => e = .returned (.agg (opA (sayP p g ⟨3, sa, sb, st⟩))) ∧ Below w.heap.size w w' := by
  have hw0 := (two_boxes w (.cells #[.int .i64 3, .int .i64 sa, .int .i64 sb, .int .i64 st] StT) (.cells #[.int .i64 0, .int .i64 0, .int .i64 0, .int .u64 0, .string ⟨#[]⟩] OpT)).2.1
  obtain ⟨bA, hx, hy⟩ := two_boxes w (.cells #[.int .i64 3, .int .i64 sa, .int .i64 sb, .int .i64 st] StT) (.cells #[.int .i64 8, .int .i64 sa, .int .i64 0, .int .u64 0, .string ⟨#[]⟩] OpT)
  have x0 := cellB (j := 0) hw0 rfl
  have x1 := cellB (j := 1) hw0 rfl
  have HA := Lib.hid bA
  have HY := Lib.hid hy
  clear hx hy bA hw0
  go_enter Tryd.func53, Tryd.ntmps53
  go_wp2_with fail
  have c0 := cellB (j := 0) HY.out rfl
  have c1 := cellB (j := 1) HY.out rfl
  have c2 := cellB (j := 2) HY.out rfl
  have c3 := cellB (j := 3) HY.out rfl
  have c4 := cellB (j := 4) HY.out rfl
  clear x0 x1
  generalize ((w.alloc (.cells #[.int .i64 3, .int .i64 sa, .int .i64 sb, .int .i64 st] StT)).alloc (.cells #[.int .i64 8, .int .i64 sa, .int .i64 0, .int .u64 0, .string ⟨#[]⟩] OpT)) = W at *
  refine bodyPost_ret (v := .agg #[.int .i64 8, .int .i64 sa, .int .i64 0, .int .u64 0, .string ⟨#[]⟩]) (by simp [results, Tryd.results53, go_sem, c0, c1, c2, c3, c4]) rfl ⟨rfl, HA.out⟩
set_option maxRecDepth 100000 in
set_option maxHeartbeats 3200000 in
theorem saying_0 (pv : Value) {vg : Value} {w : World} (sa sb st : Int) (p : Pl) {g : List Int} (hg : Row w 1 vg g.length (ints g)) (hl : g.length ≤ 1000000) : Calls Tryd.prog 53 #[pv, vg, .agg #[.int .i64 0, .int .i64 sa, .int .i64 sb, .int .i64 st]] w fun e w' => e = .returned (.agg (opA (sayP p g ⟨0, sa, sb, st⟩))) ∧ Below w.heap.size w w' := by
  obtain ⟨bZ0, hw0, _⟩ := two_boxes w (.cells #[.int .i64 0, .int .i64 sa, .int .i64 sb, .int .i64 st] StT) (.cells #[.int .i64 0, .int .i64 0, .int .i64 0, .int .u64 0, .string ⟨#[]⟩] OpT)
  obtain ⟨bA, hx, hy⟩ := two_boxes w (.cells #[.int .i64 0, .int .i64 sa, .int .i64 sb, .int .i64 st] StT) (.cells #[.int .i64 0, .int .i64 (idxP g st), .int .i64 0, .int .u64 0, .string ⟨#[]⟩] OpT)
  have x0 := cellB (j := 0) hw0 rfl
  have x3 := cellB (j := 3) hw0 rfl
  have IX := Lib.hid (index_any (hg.below bZ0) hl st)
  have HA := Lib.hid bA
  have HY := Lib.hid hy
  clear hx hy bA hw0 bZ0 hg
  go_enter Tryd.func53, Tryd.ntmps53
  go_wp2_with fail
  refine IX.out.mono ?_
  rintro e w1 ⟨rfl, rfl⟩
  generalize hI : idxP g st = I at *
  go_wp2_with fail
  have c0 := cellB (j := 0) HY.out rfl
  have c1 := cellB (j := 1) HY.out rfl
  have c2 := cellB (j := 2) HY.out rfl
  have c3 := cellB (j := 3) HY.out rfl
  have c4 := cellB (j := 4) HY.out rfl
  clear x0 x3
  generalize ((w.alloc (.cells #[.int .i64 0, .int .i64 sa, .int .i64 sb, .int .i64 st] StT)).alloc (.cells #[.int .i64 0, .int .i64 I, .int .i64 0, .int .u64 0, .string ⟨#[]⟩] OpT)) = W at *
  refine bodyPost_ret (v := .agg #[.int .i64 0, .int .i64 I, .int .i64 0, .int .u64 0, .string ⟨#[]⟩]) (by simp [results, Tryd.results53, go_sem, c0, c1, c2, c3, c4]) rfl ⟨by rw [← hI]; rfl, HA.out⟩
end Go.Proofs.YtjpkeoenajlmeaaDoor
namespace Go.Proofs.YtjpkeoenajlmeaaDoor
open Go.RowKit Go.Maps
set_option linter.unusedVariables false

set_option maxRecDepth 100000 in
set_option maxHeartbeats 3200000 in
theorem saying_n {w : World} {B a b : Nat} {v : Value} {p : Pl} (hp : IsPool w B a b v p) (vg : Value) {r st : Int} (sa sb : Int) (g : List Int) (h0 : r ≠ 0) (h1 : r ≠ 1) (h2 : r ≠ 2) (h3 : r ≠ 3) (hin : inP p st = true) (h6 : (atP p st).1.kind ≠ 6) : Calls Tryd.prog 53 #[.pointer (some ⟨a, 0, none⟩), vg, .agg #[.int .i64 r, .int .i64 sa, .int .i64 sb, .int .i64 st]] w fun e w' => e = .returned (.agg (opA (sayP p g ⟨r, sa, sb, st⟩))) ∧ Below w.heap.size w w' := by
  obtain ⟨bA, hx, hy⟩ := two_boxes w (.cells #[.int .i64 r, .int .i64 sa, .int .i64 sb, .int .i64 st] StT) (.cells #[.int .i64 0, .int .i64 0, .int .i64 0, .int .u64 0, .string ⟨#[]⟩] OpT)
  have x0 := cellB (j := 0) hx rfl
  have x3 := cellB (j := 3) hx rfl
  have e0 : (r == 0) = false := by simp [h0]
  have e1 : (r == 1) = false := by simp [h1]
  have e2 : (r == 2) = false := by simp [h2]
  have e3 : (r == 3) = false := by simp [h3]
  have hsay : sayP p g ⟨r, sa, sb, st⟩ = putP (atP p st).1 sa sb := by
    unfold sayP
    rw [if_neg h0, if_neg h1, if_neg h2, if_neg h3]
  rw [hsay]
  have PN := Lib.hid (pnode (hp.below bA) st)
  rw [hin] at PN
  have hs := (mk_there hp.ok hin).2
  have PU := Lib.hid (fun (W : World) => putting_any hs h6 W sa sb)
  have HA := Lib.hid bA
  have HX := Lib.hid hx
  have HY := Lib.hid hy
  clear hx hy bA hp hin h0 h1 h2 h3 hsay hs
  generalize (atP p st).1 = n at *
  obtain ⟨kk, ff, tt, uu, ss, xa, xb⟩ := n
  simp only [nodeA] at PN PU
  go_enter Tryd.func53, Tryd.ntmps53
  go_wp2_with fail
  generalize ((w.alloc (.cells #[.int .i64 r, .int .i64 sa, .int .i64 sb, .int .i64 st] StT)).alloc (.cells #[.int .i64 0, .int .i64 0, .int .i64 0, .int .u64 0, .string ⟨#[]⟩] OpT)) = W at *
  refine PN.out.mono ?_
  rintro e w1 ⟨rfl, u1⟩
  have bN := bA0 w1 (.cells #[.int .i64 kk, .int .i64 ff, .int .i64 tt, .int .u64 uu, .string ss, .int .i64 xa, .int .i64 xb] NodeT)
  have hN := heap_alloc_new w1 (.cells #[.int .i64 kk, .int .i64 ff, .int .i64 tt, .int .u64 uu, .string ss, .int .i64 xa, .int .i64 xb] NodeT)
  have hX2 := Hold.below (bmore u1 bN) _ _ HX.out
  have HY2 := Lib.hid (Hold.below (bmore u1 bN) _ _ HY.out)
  have n0 := cellB (j := 0) hN rfl
  have n1 := cellB (j := 1) hN rfl
  have n2 := cellB (j := 2) hN rfl
  have n3 := cellB (j := 3) hN rfl
  have n4 := cellB (j := 4) hN rfl
  have n5 := cellB (j := 5) hN rfl
  have n6 := cellB (j := 6) hN rfl
  have z1 := cellB (j := 1) hX2 rfl
  have z2 := cellB (j := 2) hX2 rfl
  have HB2 := Lib.hid (HA.out.trans ((bmore u1 bN).mono HA.out.size))
  clear x0 x3 bN hN hX2 u1
  go_wp2_with fail
  generalize (w1.alloc (.cells #[.int .i64 kk, .int .i64 ff, .int .i64 tt, .int .u64 uu, .string ss, .int .i64 xa, .int .i64 xb] NodeT)) = w2 at *
  refine (PU.out _).mono ?_
  rintro e w3 ⟨rfl, u3⟩
  have hz3 := Hold.below u3 _ _ HY2.out
  have HB3 := Lib.hid (HB2.out.trans (u3.mono HB2.out.size))
  clear n0 n1 n2 n3 n4 n5 n6 z1 z2 u3
  generalize hom : putP ⟨kk, ff, tt, uu, ss, xa, xb⟩ sa sb = om at *
  simp only [opA]
  have f0 := cellB (j := 0) hz3 rfl
  have g0 := frozenB (j := 0) hz3
  have f1 := cellB (j := 1) hz3 rfl
  have g1 := frozenB (j := 1) hz3
  have f2 := cellB (j := 2) hz3 rfl
  have g2 := frozenB (j := 2) hz3
  have f3 := cellB (j := 3) hz3 rfl
  have g3 := frozenB (j := 3) hz3
  have f4 := cellB (j := 4) hz3 rfl
  have g4 := frozenB (j := 4) hz3
  go_wp2_with fail
  have k0 := setCellB (j := 0) (u := .int .i64 om.code) hz3
  have k1 := setCellB (j := 1) (u := .int .i64 om.a) k0
  have k2 := setCellB (j := 2) (u := .int .i64 om.b) k1
  have k3 := setCellB (j := 3) (u := .int .u64 om.num) k2
  have k4 := setCellB (j := 4) (u := .string om.text) k3
  have b5 := (((((HB3.out.setCell (p := ⟨w.heap.size + 1, 0, none⟩) (Nat.le_succ _) (.int .i64 om.code)).setCell (p := ⟨w.heap.size + 1, 1, none⟩) (Nat.le_succ _) (.int .i64 om.a)).setCell (p := ⟨w.heap.size + 1, 2, none⟩) (Nat.le_succ _) (.int .i64 om.b)).setCell (p := ⟨w.heap.size + 1, 3, none⟩) (Nat.le_succ _) (.int .u64 om.num)).setCell (p := ⟨w.heap.size + 1, 4, none⟩) (Nat.le_succ _) (.string om.text))
  have c0 := cellB (j := 0) k4 rfl
  have c1 := cellB (j := 1) k4 rfl
  have c2 := cellB (j := 2) k4 rfl
  have c3 := cellB (j := 3) k4 rfl
  have c4 := cellB (j := 4) k4 rfl
  clear f0 f1 f2 f3 f4 g0 g1 g2 g3 g4 k0 k1 k2 k3
  generalize (((((w3.setCell ⟨w.heap.size + 1, 0, none⟩ (.int .i64 om.code)).setCell ⟨w.heap.size + 1, 1, none⟩ (.int .i64 om.a)).setCell ⟨w.heap.size + 1, 2, none⟩ (.int .i64 om.b)).setCell ⟨w.heap.size + 1, 3, none⟩ (.int .u64 om.num)).setCell ⟨w.heap.size + 1, 4, none⟩ (.string om.text)) = X at *
  refine bodyPost_ret (v := .agg #[.int .i64 om.code, .int .i64 om.a, .int .i64 om.b, .int .u64 om.num, .string om.text]) (by simp [results, Tryd.results53, go_sem, c0, c1, c2, c3, c4]) rfl ⟨by rw [hom]; rfl, b5⟩
end Go.Proofs.YtjpkeoenajlmeaaDoor
