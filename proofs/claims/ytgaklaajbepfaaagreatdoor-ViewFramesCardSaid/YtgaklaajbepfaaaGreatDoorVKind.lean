/-
  What a name tells of a node; as which kind a node is seen, or made.
-/
import Derived.Test.YtgaklaajbepfaaaGreatDoorVRem
import Derived.Shelf.Abstract
namespace Go.Proofs.YtgaklaajbepfaaaGreatDoor
open Go.RowKit Go.Maps Go.Shelf
set_option linter.unusedVariables false

def likeB (n : Nd) : Bool := n.kind == 8 || n.kind == 9
def tellB (who : Int) (n : Nd) : Bool := likeB n && (who == n.frm || (who == n.to || who == 2))
def veilB (who : Int) (n : Nd) : Bool := likeB n && !tellB who n
def promB (n : Nd) (at' : Int) : Bool := n.kind == 8 && n.to == at'
def seeK (who : Int) (n : Nd) : Int := if veilB who n = true then 8 else n.kind
def makeK (at' : Int) (n : Nd) : Int := if promB n at' = true then 9 else n.kind
theorem seeK_ok (who : Int) (n : Nd) : KdOk n (seeK who n) := by
  unfold seeK
  split
  · rename_i h
    unfold veilB likeB at h
    simp at h
    exact .inr ⟨h.1, .inl rfl⟩
  · exact .inl rfl
theorem makeK_ok (at' : Int) (n : Nd) : KdOk n (makeK at' n) := by
  unfold makeK
  split
  · rename_i h
    unfold promB at h
    simp at h
    exact .inr ⟨.inl h.1, .inr rfl⟩
  · exact .inl rfl
section
variable {kk ff tt uu xa xb : Int} {ss : ByteArray}
theorem node_box (w : World) (kk ff tt uu xa xb : Int) (ss : ByteArray) : Below w.heap.size w (w.alloc (.cells #[.int .i64 kk, .int .i64 ff, .int .i64 tt, .int .u64 uu, .string ss, .int .i64 xa, .int .i64 xb] NodeT)) ∧ (w.alloc (.cells #[.int .i64 kk, .int .i64 ff, .int .i64 tt, .int .u64 uu, .string ss, .int .i64 xa, .int .i64 xb] NodeT)).heap[w.heap.size]? = some (Obj.cells #[.int .i64 kk, .int .i64 ff, .int .i64 tt, .int .u64 uu, .string ss, .int .i64 xa, .int .i64 xb] NodeT) := ⟨bA0 _ _, heap_alloc_new _ _⟩
end
set_option maxRecDepth 100000 in
set_option maxHeartbeats 3200000 in
theorem likeness_any (n : Nd) (w : World) : Calls Tryz.prog 101 #[.agg (nodeA n)] w fun e w' => e = .returned (.bool (likeB n)) ∧ Below w.heap.size w w' := by
  obtain ⟨kk, ff, tt, uu, ss, xa, xb⟩ := n
  unfold likeB
  simp only [nodeA] at *
  obtain ⟨bA, hb⟩ := node_box w kk ff tt uu xa xb ss
  have HA := Lib.hid bA
  have y0 : (w.alloc (.cells #[.int .i64 kk, .int .i64 ff, .int .i64 tt, .int .u64 uu, .string ss, .int .i64 xa, .int .i64 xb] NodeT)).cell? ⟨w.heap.size, 0, none⟩ = some (.int .i64 kk) := cellB (j := 0) hb rfl
  clear bA hb
  cases h8 : (kk == (8 : Int)) with
  | true =>
    go_enter Tryz.func101, Tryz.ntmps101
    go_wp2_with fail
    go_returns
    exact ⟨rfl, HA.out⟩
  | false =>
    cases h9 : (kk == (9 : Int)) with
    | true =>
      go_enter Tryz.func101, Tryz.ntmps101
      go_wp2_with fail
      go_returns
      exact ⟨rfl, HA.out⟩
    | false =>
      go_enter Tryz.func101, Tryz.ntmps101
      go_wp2_with fail
      go_returns
      exact ⟨rfl, HA.out⟩
set_option maxRecDepth 100000 in
set_option maxHeartbeats 6400000 in
theorem vtells_any (who : Int) (n : Nd) (w : World) : Calls Tryz.prog 66 #[.int .i64 who, .agg (nodeA n)] w fun e w' => e = .returned (.bool (tellB who n)) ∧ Below w.heap.size w w' := by
  have LK := Lib.hid (fun W => likeness_any n W)
  unfold tellB
  obtain ⟨kk, ff, tt, uu, ss, xa, xb⟩ := n
  simp only [nodeA] at *
  obtain ⟨bA, hb⟩ := node_box w kk ff tt uu xa xb ss
  have HA := Lib.hid bA
  have y0 : (w.alloc (.cells #[.int .i64 kk, .int .i64 ff, .int .i64 tt, .int .u64 uu, .string ss, .int .i64 xa, .int .i64 xb] NodeT)).cell? ⟨w.heap.size, 0, none⟩ = some (.int .i64 kk) := cellB (j := 0) hb rfl
  have y1 : (w.alloc (.cells #[.int .i64 kk, .int .i64 ff, .int .i64 tt, .int .u64 uu, .string ss, .int .i64 xa, .int .i64 xb] NodeT)).cell? ⟨w.heap.size, 1, none⟩ = some (.int .i64 ff) := cellB (j := 1) hb rfl
  have y2 : (w.alloc (.cells #[.int .i64 kk, .int .i64 ff, .int .i64 tt, .int .u64 uu, .string ss, .int .i64 xa, .int .i64 xb] NodeT)).cell? ⟨w.heap.size, 2, none⟩ = some (.int .i64 tt) := cellB (j := 2) hb rfl
  have y3 : (w.alloc (.cells #[.int .i64 kk, .int .i64 ff, .int .i64 tt, .int .u64 uu, .string ss, .int .i64 xa, .int .i64 xb] NodeT)).cell? ⟨w.heap.size, 3, none⟩ = some (.int .u64 uu) := cellB (j := 3) hb rfl
  have y4 : (w.alloc (.cells #[.int .i64 kk, .int .i64 ff, .int .i64 tt, .int .u64 uu, .string ss, .int .i64 xa, .int .i64 xb] NodeT)).cell? ⟨w.heap.size, 4, none⟩ = some (.string ss) := cellB (j := 4) hb rfl
  have y5 : (w.alloc (.cells #[.int .i64 kk, .int .i64 ff, .int .i64 tt, .int .u64 uu, .string ss, .int .i64 xa, .int .i64 xb] NodeT)).cell? ⟨w.heap.size, 5, none⟩ = some (.int .i64 xa) := cellB (j := 5) hb rfl
  have y6 : (w.alloc (.cells #[.int .i64 kk, .int .i64 ff, .int .i64 tt, .int .u64 uu, .string ss, .int .i64 xa, .int .i64 xb] NodeT)).cell? ⟨w.heap.size, 6, none⟩ = some (.int .i64 xb) := cellB (j := 6) hb rfl
  clear bA hb
  go_enter Tryz.func66, Tryz.ntmps66
  go_upto_region 1 with fail
  generalize (w.alloc (.cells #[.int .i64 kk, .int .i64 ff, .int .i64 tt, .int .u64 uu, .string ss, .int .i64 xa, .int .i64 xb] NodeT)) = w1 at *
  have LK1 := Lib.hid (LK.out w1)
  clear LK
  generalize hlk : likeB ⟨kk, ff, tt, uu, ss, xa, xb⟩ = lk at LK1
  go_wp2_with fail
  refine LK1.out.mono ?_
  rintro e w2 ⟨rfl, u2⟩
  have HU := Lib.hid (bmore HA.out u2)
  have z1 : w2.cell? ⟨w.heap.size, 1, none⟩ = some (.int .i64 ff) := bcellAt u2 y1
  have z2 : w2.cell? ⟨w.heap.size, 2, none⟩ = some (.int .i64 tt) := bcellAt u2 y2
  clear y0 y1 y2 y3 y4 y5 y6 LK1 u2
  cases lk with
  | false =>
    go_wp2_with fail
    go_returns
    exact ⟨by simp_all, HU.out⟩
  | true =>
    cases h1 : (who == ff) with
    | true =>
      go_wp2_with fail
      go_returns
      exact ⟨by simp_all, HU.out⟩
    | false =>
      cases h2 : (who == tt) with
      | true =>
        go_wp2_with fail
        go_returns
        exact ⟨by simp_all, HU.out⟩
      | false =>
        cases h3 : (who == (2 : Int)) with
        | true =>
          go_wp2_with fail
          go_returns
          exact ⟨by simp_all, HU.out⟩
        | false =>
          go_wp2_with fail
          go_returns
          exact ⟨by simp_all, HU.out⟩
set_option maxRecDepth 100000 in
set_option maxHeartbeats 6400000 in
theorem veiled_any (who : Int) (n : Nd) (w : World) : Calls Tryz.prog 109 #[.int .i64 who, .agg (nodeA n)] w fun e w' => e = .returned (.bool (veilB who n)) ∧ Below w.heap.size w w' := by
  have LK := Lib.hid (fun W => likeness_any n W)
  have TL := Lib.hid (fun W => vtells_any who n W)
  unfold veilB
  obtain ⟨kk, ff, tt, uu, ss, xa, xb⟩ := n
  simp only [nodeA] at *
  obtain ⟨bA, hb⟩ := node_box w kk ff tt uu xa xb ss
  have HA := Lib.hid bA
  have y0 : (w.alloc (.cells #[.int .i64 kk, .int .i64 ff, .int .i64 tt, .int .u64 uu, .string ss, .int .i64 xa, .int .i64 xb] NodeT)).cell? ⟨w.heap.size, 0, none⟩ = some (.int .i64 kk) := cellB (j := 0) hb rfl
  have y1 : (w.alloc (.cells #[.int .i64 kk, .int .i64 ff, .int .i64 tt, .int .u64 uu, .string ss, .int .i64 xa, .int .i64 xb] NodeT)).cell? ⟨w.heap.size, 1, none⟩ = some (.int .i64 ff) := cellB (j := 1) hb rfl
  have y2 : (w.alloc (.cells #[.int .i64 kk, .int .i64 ff, .int .i64 tt, .int .u64 uu, .string ss, .int .i64 xa, .int .i64 xb] NodeT)).cell? ⟨w.heap.size, 2, none⟩ = some (.int .i64 tt) := cellB (j := 2) hb rfl
  have y3 : (w.alloc (.cells #[.int .i64 kk, .int .i64 ff, .int .i64 tt, .int .u64 uu, .string ss, .int .i64 xa, .int .i64 xb] NodeT)).cell? ⟨w.heap.size, 3, none⟩ = some (.int .u64 uu) := cellB (j := 3) hb rfl
  have y4 : (w.alloc (.cells #[.int .i64 kk, .int .i64 ff, .int .i64 tt, .int .u64 uu, .string ss, .int .i64 xa, .int .i64 xb] NodeT)).cell? ⟨w.heap.size, 4, none⟩ = some (.string ss) := cellB (j := 4) hb rfl
  have y5 : (w.alloc (.cells #[.int .i64 kk, .int .i64 ff, .int .i64 tt, .int .u64 uu, .string ss, .int .i64 xa, .int .i64 xb] NodeT)).cell? ⟨w.heap.size, 5, none⟩ = some (.int .i64 xa) := cellB (j := 5) hb rfl
  have y6 : (w.alloc (.cells #[.int .i64 kk, .int .i64 ff, .int .i64 tt, .int .u64 uu, .string ss, .int .i64 xa, .int .i64 xb] NodeT)).cell? ⟨w.heap.size, 6, none⟩ = some (.int .i64 xb) := cellB (j := 6) hb rfl
  clear bA hb
  go_enter Tryz.func109, Tryz.ntmps109
  go_upto_region 1 with fail
  generalize (w.alloc (.cells #[.int .i64 kk, .int .i64 ff, .int .i64 tt, .int .u64 uu, .string ss, .int .i64 xa, .int .i64 xb] NodeT)) = w1 at *
  have LK1 := Lib.hid (LK.out w1)
  clear LK
  generalize hlk : likeB ⟨kk, ff, tt, uu, ss, xa, xb⟩ = lk at LK1
  generalize htl : tellB who ⟨kk, ff, tt, uu, ss, xa, xb⟩ = tl at TL
  go_wp2_with fail
  refine LK1.out.mono ?_
  rintro e w2 ⟨rfl, u2⟩
  have HU := Lib.hid (bmore HA.out u2)
  have z0 := bcellAt u2 y0
  have z1 := bcellAt u2 y1
  have z2 := bcellAt u2 y2
  have z3 := bcellAt u2 y3
  have z4 := bcellAt u2 y4
  have z5 := bcellAt u2 y5
  have z6 := bcellAt u2 y6
  clear y0 y1 y2 y3 y4 y5 y6 LK1 u2
  cases lk with
  | false =>
    go_wp2_with fail
    go_returns
    exact ⟨by simp_all, HU.out⟩
  | true =>
    have TL2 := Lib.hid (TL.out w2)
    clear TL
    go_wp2_with fail
    refine TL2.out.mono ?_
    rintro e w3 ⟨rfl, u3⟩
    have HU3 := Lib.hid (bmore HU.out u3)
    clear u3 TL2 z0 z1 z2 z3 z4 z5 z6
    go_wp2_with fail
    go_returns
    exact ⟨by simp_all, HU3.out⟩
set_option maxRecDepth 100000 in
set_option maxHeartbeats 6400000 in
theorem vprom_any (at' : Int) (n : Nd) (w : World) : Calls Tryz.prog 71 #[.agg (nodeA n), .int .i64 at'] w fun e w' => e = .returned (.bool (promB n at')) ∧ Below w.heap.size w w' := by
  unfold promB
  obtain ⟨kk, ff, tt, uu, ss, xa, xb⟩ := n
  simp only [nodeA] at *
  obtain ⟨bA, hb⟩ := node_box w kk ff tt uu xa xb ss
  have HA := Lib.hid bA
  have y0 : (w.alloc (.cells #[.int .i64 kk, .int .i64 ff, .int .i64 tt, .int .u64 uu, .string ss, .int .i64 xa, .int .i64 xb] NodeT)).cell? ⟨w.heap.size, 0, none⟩ = some (.int .i64 kk) := cellB (j := 0) hb rfl
  have y1 : (w.alloc (.cells #[.int .i64 kk, .int .i64 ff, .int .i64 tt, .int .u64 uu, .string ss, .int .i64 xa, .int .i64 xb] NodeT)).cell? ⟨w.heap.size, 1, none⟩ = some (.int .i64 ff) := cellB (j := 1) hb rfl
  have y2 : (w.alloc (.cells #[.int .i64 kk, .int .i64 ff, .int .i64 tt, .int .u64 uu, .string ss, .int .i64 xa, .int .i64 xb] NodeT)).cell? ⟨w.heap.size, 2, none⟩ = some (.int .i64 tt) := cellB (j := 2) hb rfl
  have y3 : (w.alloc (.cells #[.int .i64 kk, .int .i64 ff, .int .i64 tt, .int .u64 uu, .string ss, .int .i64 xa, .int .i64 xb] NodeT)).cell? ⟨w.heap.size, 3, none⟩ = some (.int .u64 uu) := cellB (j := 3) hb rfl
  have y4 : (w.alloc (.cells #[.int .i64 kk, .int .i64 ff, .int .i64 tt, .int .u64 uu, .string ss, .int .i64 xa, .int .i64 xb] NodeT)).cell? ⟨w.heap.size, 4, none⟩ = some (.string ss) := cellB (j := 4) hb rfl
  have y5 : (w.alloc (.cells #[.int .i64 kk, .int .i64 ff, .int .i64 tt, .int .u64 uu, .string ss, .int .i64 xa, .int .i64 xb] NodeT)).cell? ⟨w.heap.size, 5, none⟩ = some (.int .i64 xa) := cellB (j := 5) hb rfl
  have y6 : (w.alloc (.cells #[.int .i64 kk, .int .i64 ff, .int .i64 tt, .int .u64 uu, .string ss, .int .i64 xa, .int .i64 xb] NodeT)).cell? ⟨w.heap.size, 6, none⟩ = some (.int .i64 xb) := cellB (j := 6) hb rfl
  clear bA hb
  cases h1 : (kk == (8 : Int)) with
  | false =>
    go_enter Tryz.func71, Tryz.ntmps71
    go_wp2_with fail
    go_returns
    exact ⟨by simp_all, HA.out⟩
  | true =>
    go_enter Tryz.func71, Tryz.ntmps71
    go_wp2_with fail
    go_returns
    exact ⟨by simp_all, HA.out⟩
set_option maxRecDepth 100000 in
set_option maxHeartbeats 6400000 in
theorem seeF (who : Int) : KindF (seeK who) 108 who := by
  refine ⟨?_, enters_of Tryz.func108 (by kernel_rfl) rfl, seeK_ok who⟩
  intro w ob n _ ho
  have IN := Lib.hid (fun W => veiled_any who n W)
  have o0 : w.cell? ⟨ob, 0, none⟩ = some (.int .i64 who) := cellB ho rfl
  obtain ⟨kk, ff, tt, uu, ss, xa, xb⟩ := n
  simp only [nodeA] at *
  obtain ⟨bA, hb⟩ := node_box w kk ff tt uu xa xb ss
  have HA := Lib.hid bA
  have y0 : (w.alloc (.cells #[.int .i64 kk, .int .i64 ff, .int .i64 tt, .int .u64 uu, .string ss, .int .i64 xa, .int .i64 xb] NodeT)).cell? ⟨w.heap.size, 0, none⟩ = some (.int .i64 kk) := cellB (j := 0) hb rfl
  have y1 : (w.alloc (.cells #[.int .i64 kk, .int .i64 ff, .int .i64 tt, .int .u64 uu, .string ss, .int .i64 xa, .int .i64 xb] NodeT)).cell? ⟨w.heap.size, 1, none⟩ = some (.int .i64 ff) := cellB (j := 1) hb rfl
  have y2 : (w.alloc (.cells #[.int .i64 kk, .int .i64 ff, .int .i64 tt, .int .u64 uu, .string ss, .int .i64 xa, .int .i64 xb] NodeT)).cell? ⟨w.heap.size, 2, none⟩ = some (.int .i64 tt) := cellB (j := 2) hb rfl
  have y3 : (w.alloc (.cells #[.int .i64 kk, .int .i64 ff, .int .i64 tt, .int .u64 uu, .string ss, .int .i64 xa, .int .i64 xb] NodeT)).cell? ⟨w.heap.size, 3, none⟩ = some (.int .u64 uu) := cellB (j := 3) hb rfl
  have y4 : (w.alloc (.cells #[.int .i64 kk, .int .i64 ff, .int .i64 tt, .int .u64 uu, .string ss, .int .i64 xa, .int .i64 xb] NodeT)).cell? ⟨w.heap.size, 4, none⟩ = some (.string ss) := cellB (j := 4) hb rfl
  have y5 : (w.alloc (.cells #[.int .i64 kk, .int .i64 ff, .int .i64 tt, .int .u64 uu, .string ss, .int .i64 xa, .int .i64 xb] NodeT)).cell? ⟨w.heap.size, 5, none⟩ = some (.int .i64 xa) := cellB (j := 5) hb rfl
  have y6 : (w.alloc (.cells #[.int .i64 kk, .int .i64 ff, .int .i64 tt, .int .u64 uu, .string ss, .int .i64 xa, .int .i64 xb] NodeT)).cell? ⟨w.heap.size, 6, none⟩ = some (.int .i64 xb) := cellB (j := 6) hb rfl
  clear bA hb
  have o1 : (w.alloc (.cells #[.int .i64 kk, .int .i64 ff, .int .i64 tt, .int .u64 uu, .string ss, .int .i64 xa, .int .i64 xb] NodeT)).cell? ⟨ob, 0, none⟩ = some (.int .i64 who) := bcellAt HA.out o0
  clear ho o0
  go_enter Tryz.func108, Tryz.ntmps108
  go_upto_region 1 with fail
  generalize (w.alloc (.cells #[.int .i64 kk, .int .i64 ff, .int .i64 tt, .int .u64 uu, .string ss, .int .i64 xa, .int .i64 xb] NodeT)) = w1 at *
  have IN1 := Lib.hid (IN.out w1)
  clear IN
  generalize hlk : veilB who ⟨kk, ff, tt, uu, ss, xa, xb⟩ = lk at IN1
  go_wp2_with fail
  refine IN1.out.mono ?_
  rintro e w2 ⟨rfl, u2⟩
  have HU := Lib.hid (bmore HA.out u2)
  have z0 := bcellAt u2 y0
  clear y0 y1 y2 y3 y4 y5 y6 IN1 u2 o1
  cases lk with
  | false =>
    go_wp2_with fail
    go_returns
    exact ⟨by simp [seeK, hlk], HU.out⟩
  | true =>
    go_wp2_with fail
    go_returns
    exact ⟨by simp [seeK, hlk], HU.out⟩
set_option maxRecDepth 100000 in
set_option maxHeartbeats 6400000 in
theorem makeF (who : Int) : KindF (makeK who) 110 who := by
  refine ⟨?_, enters_of Tryz.func110 (by kernel_rfl) rfl, makeK_ok who⟩
  intro w ob n _ ho
  have IN := Lib.hid (fun W => vprom_any who n W)
  have o0 : w.cell? ⟨ob, 0, none⟩ = some (.int .i64 who) := cellB ho rfl
  obtain ⟨kk, ff, tt, uu, ss, xa, xb⟩ := n
  simp only [nodeA] at *
  obtain ⟨bA, hb⟩ := node_box w kk ff tt uu xa xb ss
  have HA := Lib.hid bA
  have y0 : (w.alloc (.cells #[.int .i64 kk, .int .i64 ff, .int .i64 tt, .int .u64 uu, .string ss, .int .i64 xa, .int .i64 xb] NodeT)).cell? ⟨w.heap.size, 0, none⟩ = some (.int .i64 kk) := cellB (j := 0) hb rfl
  have y1 : (w.alloc (.cells #[.int .i64 kk, .int .i64 ff, .int .i64 tt, .int .u64 uu, .string ss, .int .i64 xa, .int .i64 xb] NodeT)).cell? ⟨w.heap.size, 1, none⟩ = some (.int .i64 ff) := cellB (j := 1) hb rfl
  have y2 : (w.alloc (.cells #[.int .i64 kk, .int .i64 ff, .int .i64 tt, .int .u64 uu, .string ss, .int .i64 xa, .int .i64 xb] NodeT)).cell? ⟨w.heap.size, 2, none⟩ = some (.int .i64 tt) := cellB (j := 2) hb rfl
  have y3 : (w.alloc (.cells #[.int .i64 kk, .int .i64 ff, .int .i64 tt, .int .u64 uu, .string ss, .int .i64 xa, .int .i64 xb] NodeT)).cell? ⟨w.heap.size, 3, none⟩ = some (.int .u64 uu) := cellB (j := 3) hb rfl
  have y4 : (w.alloc (.cells #[.int .i64 kk, .int .i64 ff, .int .i64 tt, .int .u64 uu, .string ss, .int .i64 xa, .int .i64 xb] NodeT)).cell? ⟨w.heap.size, 4, none⟩ = some (.string ss) := cellB (j := 4) hb rfl
  have y5 : (w.alloc (.cells #[.int .i64 kk, .int .i64 ff, .int .i64 tt, .int .u64 uu, .string ss, .int .i64 xa, .int .i64 xb] NodeT)).cell? ⟨w.heap.size, 5, none⟩ = some (.int .i64 xa) := cellB (j := 5) hb rfl
  have y6 : (w.alloc (.cells #[.int .i64 kk, .int .i64 ff, .int .i64 tt, .int .u64 uu, .string ss, .int .i64 xa, .int .i64 xb] NodeT)).cell? ⟨w.heap.size, 6, none⟩ = some (.int .i64 xb) := cellB (j := 6) hb rfl
  clear bA hb
  have o1 : (w.alloc (.cells #[.int .i64 kk, .int .i64 ff, .int .i64 tt, .int .u64 uu, .string ss, .int .i64 xa, .int .i64 xb] NodeT)).cell? ⟨ob, 0, none⟩ = some (.int .i64 who) := bcellAt HA.out o0
  clear ho o0
  go_enter Tryz.func110, Tryz.ntmps110
  go_upto_region 1 with fail
  generalize (w.alloc (.cells #[.int .i64 kk, .int .i64 ff, .int .i64 tt, .int .u64 uu, .string ss, .int .i64 xa, .int .i64 xb] NodeT)) = w1 at *
  have IN1 := Lib.hid (IN.out w1)
  clear IN
  generalize hlk : promB ⟨kk, ff, tt, uu, ss, xa, xb⟩ who = lk at IN1
  go_wp2_with fail
  refine IN1.out.mono ?_
  rintro e w2 ⟨rfl, u2⟩
  have HU := Lib.hid (bmore HA.out u2)
  have z0 := bcellAt u2 y0
  clear y0 y1 y2 y3 y4 y5 y6 IN1 u2 o1
  cases lk with
  | false =>
    go_wp2_with fail
    go_returns
    exact ⟨by simp [makeK, hlk], HU.out⟩
  | true =>
    go_wp2_with fail
    go_returns
    exact ⟨by simp [makeK, hlk], HU.out⟩
end Go.Proofs.YtgaklaajbepfaaaGreatDoor
