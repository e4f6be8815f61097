/-
  evidence's own pair.
-/
import Derived.Test.YtjmcaceegfdkkaaGreatDoorQbLTree
namespace Go.Proofs.YtjmcaceegfdkkaaGreatDoor
open Go.RowKit Go.Maps
set_option linter.unusedVariables false
set_option maxRecDepth 100000 in
set_option maxHeartbeats 3200000 in
theorem epair_any {x y : Tr} {vx vy : Value} {w0 w : World} {E : Nat → Prop} (hB : w0.heap.size ≤ w.heap.size) (hE : ∀ b, w.heap.size ≤ b → E b) (hx : IsK w (NewE w0 E w) vx x.2) (hy : IsK w (NewE w0 E w) vy y.2) : Calls Tryz.prog 91 #[.agg (treeA x.1 vx), .agg (treeA y.1 vy)] w (TP w0 E w (pairT x y)) := by
  obtain ⟨⟨k1, f1, t1, n1, s1, xa, xb⟩, kx⟩ := x
  obtain ⟨⟨k2, f2, t2, n2, s2, ya, yb⟩, ky⟩ := y
  obtain ⟨a1, c1, rfl, _⟩ := hx.shape
  obtain ⟨a2, c2, rfl, _⟩ := hy.shape
  have HBB := Lib.hid hB
  have HEE := Lib.hid hE
  have HX := Lib.hid hx
  have HY := Lib.hid hy
  clear hx hy hB hE
  simp only [treeA] at *
  have b1 := bZ w (.cells #[.int .i64 k1, .int .i64 f1, .int .i64 t1, .int .u64 n1, .string s1, .slice a1 kx.len c1] TrT)
  have h1 := heap_alloc_new w (.cells #[.int .i64 k1, .int .i64 f1, .int .i64 t1, .int .u64 n1, .string s1, .slice a1 kx.len c1] TrT)
  have b2 := bZ (w.alloc (.cells #[.int .i64 k1, .int .i64 f1, .int .i64 t1, .int .u64 n1, .string s1, .slice a1 kx.len c1] TrT)) (.cells #[.int .i64 k2, .int .i64 f2, .int .i64 t2, .int .u64 n2, .string s2, .slice a2 ky.len c2] TrT)
  have h2 := heap_alloc_new (w.alloc (.cells #[.int .i64 k1, .int .i64 f1, .int .i64 t1, .int .u64 n1, .string s1, .slice a1 kx.len c1] TrT)) (.cells #[.int .i64 k2, .int .i64 f2, .int .i64 t2, .int .u64 n2, .string s2, .slice a2 ky.len c2] TrT)
  have b3 := bZ ((w.alloc (.cells #[.int .i64 k1, .int .i64 f1, .int .i64 t1, .int .u64 n1, .string s1, .slice a1 kx.len c1] TrT)).alloc (.cells #[.int .i64 k2, .int .i64 f2, .int .i64 t2, .int .u64 n2, .string s2, .slice a2 ky.len c2] TrT)) (.cells #[.int .i64 0, .int .i64 0, .int .i64 0, .int .u64 0, .string ⟨#[]⟩, .slice none 0 0] TrT)
  have h3 := heap_alloc_new ((w.alloc (.cells #[.int .i64 k1, .int .i64 f1, .int .i64 t1, .int .u64 n1, .string s1, .slice a1 kx.len c1] TrT)).alloc (.cells #[.int .i64 k2, .int .i64 f2, .int .i64 t2, .int .u64 n2, .string s2, .slice a2 ky.len c2] TrT)) (.cells #[.int .i64 0, .int .i64 0, .int .i64 0, .int .u64 0, .string ⟨#[]⟩, .slice none 0 0] TrT)
  have hs3 : (((w.alloc (.cells #[.int .i64 k1, .int .i64 f1, .int .i64 t1, .int .u64 n1, .string s1, .slice a1 kx.len c1] TrT)).alloc (.cells #[.int .i64 k2, .int .i64 f2, .int .i64 t2, .int .u64 n2, .string s2, .slice a2 ky.len c2] TrT)).alloc (.cells #[.int .i64 0, .int .i64 0, .int .i64 0, .int .u64 0, .string ⟨#[]⟩, .slice none 0 0] TrT)).heap.size = w.heap.size + 3 := by simp
  have e1 := Hold.below (bmore b2 b3) _ _ h1
  have e2 := Hold.below b3 _ _ h2
  simp only [World.size_alloc] at e2 h3
  have HB3 := Lib.hid (bmore (bmore b1 b2) b3)
  have HS3 := Lib.hid hs3
  clear h1 h2 b1 b2 b3
  go_enter Tryz.func91, Tryz.ntmps91
  go_upto_region 1 with fail
  generalize (((w.alloc (.cells #[.int .i64 k1, .int .i64 f1, .int .i64 t1, .int .u64 n1, .string s1, .slice a1 kx.len c1] TrT)).alloc (.cells #[.int .i64 k2, .int .i64 f2, .int .i64 t2, .int .u64 n2, .string s2, .slice a2 ky.len c2] TrT)).alloc (.cells #[.int .i64 0, .int .i64 0, .int .i64 0, .int .u64 0, .string ⟨#[]⟩, .slice none 0 0] TrT)) = w3 at *
  have b4 := bZ w3 (.cells #[.int .i64 k1, .int .i64 f1, .int .i64 t1, .int .u64 n1, .string s1, .slice a1 kx.len c1, .int .i64 k2, .int .i64 f2, .int .i64 t2, .int .u64 n2, .string s2, .slice a2 ky.len c2] TrT)
  have h4 := heap_alloc_new w3 (.cells #[.int .i64 k1, .int .i64 f1, .int .i64 t1, .int .u64 n1, .string s1, .slice a1 kx.len c1, .int .i64 k2, .int .i64 f2, .int .i64 t2, .int .u64 n2, .string s2, .slice a2 ky.len c2] TrT)
  have e3 := Hold.below b4 _ _ h3
  have HB4 := Lib.hid (bmore HB3.out b4)
  have HH4 := Lib.hid h4
  have HE3 := Lib.hid e3
  have hn1 : ¬ w3.heap.size = w.heap.size + 1 + 1 := by omega
  have hn2 : ¬ w.heap.size + 1 + 1 = w3.heap.size := by omega
  have x0 := cellB (j := 0) e1 rfl
  have x1 := cellB (j := 1) e1 rfl
  have x2 := cellB (j := 2) e1 rfl
  have x3 := cellB (j := 3) e1 rfl
  have x4 := cellB (j := 4) e1 rfl
  have x5 := cellB (j := 5) e1 rfl
  have y0 := cellB (j := 0) e2 rfl
  have y1 := cellB (j := 1) e2 rfl
  have y2 := cellB (j := 2) e2 rfl
  have y3 := cellB (j := 3) e2 rfl
  have y4 := cellB (j := 4) e2 rfl
  have y5 := cellB (j := 5) e2 rfl
  have z0 := cellB (j := 0) e3 rfl
  have z1 := cellB (j := 1) e3 rfl
  have z2 := cellB (j := 2) e3 rfl
  have z3 := cellB (j := 3) e3 rfl
  have z4 := cellB (j := 4) e3 rfl
  have z5 := cellB (j := 5) e3 rfl
  have zf0 := frozenB (j := 0) e3
  have zf1 := frozenB (j := 1) e3
  have zf2 := frozenB (j := 2) e3
  have zf3 := frozenB (j := 3) e3
  have zf4 := frozenB (j := 4) e3
  have zf5 := frozenB (j := 5) e3
  clear h3 h4 e1 e2 e3 b4 hs3
  go_wp2_with fail
  have hs6 := set6_at HE3.out (.int .i64 4) (.int .i64 0) (.int .i64 0) (.int .u64 0) (.string ⟨#[]⟩) (.slice (some ⟨w3.heap.size, 0, none⟩) 2 2)
  have hw6 := set6_below (b := (w.heap.size + 1 + 1)) HB4.out (by omega) (.int .i64 4) (.int .i64 0) (.int .i64 0) (.int .u64 0) (.string ⟨#[]⟩) (.slice (some ⟨w3.heap.size, 0, none⟩) 2 2)
  rw [show set6 (w3.alloc (.cells #[.int .i64 k1, .int .i64 f1, .int .i64 t1, .int .u64 n1, .string s1, .slice a1 kx.len c1, .int .i64 k2, .int .i64 f2, .int .i64 t2, .int .u64 n2, .string s2, .slice a2 ky.len c2] TrT)) (w.heap.size + 1 + 1) (.int .i64 4) (.int .i64 0) (.int .i64 0) (.int .u64 0) (.string ⟨#[]⟩) (.slice (some ⟨w3.heap.size, 0, none⟩) 2 2) = ((((((w3.alloc (.cells #[.int .i64 k1, .int .i64 f1, .int .i64 t1, .int .u64 n1, .string s1, .slice a1 kx.len c1, .int .i64 k2, .int .i64 f2, .int .i64 t2, .int .u64 n2, .string s2, .slice a2 ky.len c2] TrT)).setCell ⟨(w.heap.size + 1 + 1), 0, none⟩ (.int .i64 4)).setCell ⟨(w.heap.size + 1 + 1), 1, none⟩ (.int .i64 0)).setCell ⟨(w.heap.size + 1 + 1), 2, none⟩ (.int .i64 0)).setCell ⟨(w.heap.size + 1 + 1), 3, none⟩ (.int .u64 0)).setCell ⟨(w.heap.size + 1 + 1), 4, none⟩ (.string ⟨#[]⟩)).setCell ⟨(w.heap.size + 1 + 1), 5, none⟩ (.slice (some ⟨w3.heap.size, 0, none⟩) 2 2) from rfl] at hs6 hw6
  have ho6 := HH4.out
  rw [← set6_other (b := (w.heap.size + 1 + 1)) (by omega) (.int .i64 4) (.int .i64 0) (.int .i64 0) (.int .u64 0) (.string ⟨#[]⟩) (.slice (some ⟨w3.heap.size, 0, none⟩) 2 2)] at ho6
  rw [show set6 (w3.alloc (.cells #[.int .i64 k1, .int .i64 f1, .int .i64 t1, .int .u64 n1, .string s1, .slice a1 kx.len c1, .int .i64 k2, .int .i64 f2, .int .i64 t2, .int .u64 n2, .string s2, .slice a2 ky.len c2] TrT)) (w.heap.size + 1 + 1) (.int .i64 4) (.int .i64 0) (.int .i64 0) (.int .u64 0) (.string ⟨#[]⟩) (.slice (some ⟨w3.heap.size, 0, none⟩) 2 2) = ((((((w3.alloc (.cells #[.int .i64 k1, .int .i64 f1, .int .i64 t1, .int .u64 n1, .string s1, .slice a1 kx.len c1, .int .i64 k2, .int .i64 f2, .int .i64 t2, .int .u64 n2, .string s2, .slice a2 ky.len c2] TrT)).setCell ⟨(w.heap.size + 1 + 1), 0, none⟩ (.int .i64 4)).setCell ⟨(w.heap.size + 1 + 1), 1, none⟩ (.int .i64 0)).setCell ⟨(w.heap.size + 1 + 1), 2, none⟩ (.int .i64 0)).setCell ⟨(w.heap.size + 1 + 1), 3, none⟩ (.int .u64 0)).setCell ⟨(w.heap.size + 1 + 1), 4, none⟩ (.string ⟨#[]⟩)).setCell ⟨(w.heap.size + 1 + 1), 5, none⟩ (.slice (some ⟨w3.heap.size, 0, none⟩) 2 2) from rfl] at ho6
  have HW6 := Lib.hid hw6
  clear hw6
  generalize (((((((w3.alloc (.cells #[.int .i64 k1, .int .i64 f1, .int .i64 t1, .int .u64 n1, .string s1, .slice a1 kx.len c1, .int .i64 k2, .int .i64 f2, .int .i64 t2, .int .u64 n2, .string s2, .slice a2 ky.len c2] TrT)).setCell ⟨(w.heap.size + 1 + 1), 0, none⟩ (.int .i64 4)).setCell ⟨(w.heap.size + 1 + 1), 1, none⟩ (.int .i64 0)).setCell ⟨(w.heap.size + 1 + 1), 2, none⟩ (.int .i64 0)).setCell ⟨(w.heap.size + 1 + 1), 3, none⟩ (.int .u64 0)).setCell ⟨(w.heap.size + 1 + 1), 4, none⟩ (.string ⟨#[]⟩)).setCell ⟨(w.heap.size + 1 + 1), 5, none⟩ (.slice (some ⟨w3.heap.size, 0, none⟩) 2 2)) = w99 at *
  have q0 := cellB (j := 0) hs6 rfl
  have q1 := cellB (j := 1) hs6 rfl
  have q2 := cellB (j := 2) hs6 rfl
  have q3 := cellB (j := 3) hs6 rfl
  have q4 := cellB (j := 4) hs6 rfl
  have q5 := cellB (j := 5) hs6 rfl
  refine bodyPost_ret (v := .agg #[.int .i64 4, .int .i64 0, .int .i64 0, .int .u64 0, .string ⟨#[]⟩, .slice (some ⟨w3.heap.size, 0, none⟩) 2 2]) (by simp [results, Tryz.results91, go_sem, q0, q1, q2, q3, q4, q5]) rfl ?_
  refine ⟨.slice (some ⟨w3.heap.size, 0, none⟩) 2 2, rfl, ⟨_, _, rfl, by simp [pairT, two, Fo.len], by decide, fun _ => ⟨w3.heap.size, 0, rfl, ⟨⟨Nat.le_trans HBB.out (Nat.le_trans (Nat.le_add_right _ 3) (Nat.le_of_eq HS3.out.symm)), _, ho6⟩, HEE.out _ (Nat.le_trans (Nat.le_add_right _ 3) (Nat.le_of_eq HS3.out.symm))⟩,
    AtF.mk (v := .slice a1 kx.len c1) (cellB (j := 0) ho6 rfl) (cellB (j := 1) ho6 rfl) (cellB (j := 2) ho6 rfl) (cellB (j := 3) ho6 rfl) (cellB (j := 4) ho6 rfl) (cellB (j := 5) ho6 rfl) (HX.out.newE HW6.out)
      (AtF.mk (v := .slice a2 ky.len c2) (cellB (j := 6) ho6 rfl) (cellB (j := 7) ho6 rfl) (cellB (j := 8) ho6 rfl) (cellB (j := 9) ho6 rfl) (cellB (j := 10) ho6 rfl) (cellB (j := 11) ho6 rfl) (HY.out.newE HW6.out) trivial)⟩⟩, HW6.out⟩
end Go.Proofs.YtjmcaceegfdkkaaGreatDoor
