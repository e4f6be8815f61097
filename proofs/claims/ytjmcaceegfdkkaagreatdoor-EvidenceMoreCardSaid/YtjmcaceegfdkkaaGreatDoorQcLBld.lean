/-
  Trees of letters in memory: data, numbers, pairs, promises, deals.
-/
import Derived.Deep.DeepCutAuto
import Derived.Test.YtjmcaceegfdkkaaGreatDoorQcLBoth
import Derived.Test.YtjmcaceegfdkkaaGreatDoorQcTLent
import Derived.Test.YtjmcaceegfdkkaaGreatDoorQcTPTree
namespace Go.Proofs.YtjmcaceegfdkkaaGreatDoor
open Go.RowKit Go.Maps
set_option linter.unusedVariables false
def set6 (w : World) (b : Nat) (v0 v1 v2 v3 v4 v5 : Value) : World := (((((w.setCell ⟨b, 0, none⟩ v0).setCell ⟨b, 1, none⟩ v1).setCell ⟨b, 2, none⟩ v2).setCell ⟨b, 3, none⟩ v3).setCell ⟨b, 4, none⟩ v4).setCell ⟨b, 5, none⟩ v5
theorem set6_at {w : World} {b : Nat} {c0 c1 c2 c3 c4 c5 : Value} (h : w.heap[b]? = some (Obj.cells #[c0, c1, c2, c3, c4, c5] TrT)) (v0 v1 v2 v3 v4 v5 : Value) : (set6 w b v0 v1 v2 v3 v4 v5).heap[b]? = some (Obj.cells #[v0, v1, v2, v3, v4, v5] TrT) := by
 unfold set6
 have h1 := setCellB (j := 0) (u := v0) h
 have h2 := setCellB (j := 1) (u := v1) h1
 have h3 := setCellB (j := 2) (u := v2) h2
 have h4 := setCellB (j := 3) (u := v3) h3
 have h5 := setCellB (j := 4) (u := v4) h4
 have h6 := setCellB (j := 5) (u := v5) h5
 exact h6
theorem set6_below {n : Nat} {w w' : World} {b : Nat} (h : Below n w w') (hb : n ≤ b) (v0 v1 v2 v3 v4 v5 : Value) : Below n w (set6 w' b v0 v1 v2 v3 v4 v5) :=
 (((((h.setCell (p := ⟨b, 0, none⟩) hb v0).setCell (p := ⟨b, 1, none⟩) hb v1).setCell (p := ⟨b, 2, none⟩) hb v2).setCell (p := ⟨b, 3, none⟩) hb v3).setCell (p := ⟨b, 4, none⟩) hb v4).setCell (p := ⟨b, 5, none⟩) hb v5
theorem heap_oth {w : World} {b b' j : Nat} {u : Value} (h : b' ≠ b) : (w.setCell ⟨b, j, none⟩ u).heap[b']? = w.heap[b']? := Below.heap_setCell _ _ _ _ (fun e => h e)
theorem set6_other {w : World} {b b' : Nat} (h : b' ≠ b) (v0 v1 v2 v3 v4 v5 : Value) : (set6 w b v0 v1 v2 v3 v4 v5).heap[b']? = w.heap[b']? := by
 unfold set6
 rw [heap_oth h, heap_oth h, heap_oth h, heap_oth h, heap_oth h, heap_oth h]
def NewE (w0 : World) (E : Nat → Prop) (w : World) (b : Nat) : Prop := NewT w0 w b ∧ E b
theorem IsK.newE {w0 w w' : World} {E : Nat → Prop} {v : Value} {k : Fo} (h : IsK w (NewE w0 E w) v k) (hb : Below w.heap.size w w') : IsK w' (NewE w0 E w') v k := h.keep fun b hg hl => ⟨⟨⟨hg.1.1, by obtain ⟨cs, hc⟩ := hg.1.2; exact ⟨cs, Hold.below hb _ _ hc⟩⟩, hg.2⟩, hb.block b hl⟩
def TP (w0 : World) (E : Nat → Prop) (w : World) (x : Tr) (e : Ending) (w' : World) : Prop := ∃ v, e = .returned (.agg (treeA x.1 v)) ∧ IsK w' (NewE w0 E w') v x.2 ∧ Below w.heap.size w w'
set_option maxRecDepth 100000 in
set_option maxHeartbeats 3200000 in
theorem data_any (s : ByteArray) (w0 : World) (E : Nat → Prop) (w : World) : Calls Tryz.prog 188 #[.string s] w (TP w0 E w (dataT s)) := by
 have hz := heap_alloc_new w (.cells #[.int .i64 0, .int .i64 0, .int .i64 0, .int .u64 0, .string ⟨#[]⟩, .slice none 0 0] TrT)
 have hq := heap_alloc_new w (.cells #[.int .i64 3, .int .i64 0, .int .i64 0, .int .u64 0, .string s, .slice none 0 0] TrT)
 have HB := Lib.hid (bZ w (.cells #[.int .i64 3, .int .i64 0, .int .i64 0, .int .u64 0, .string s, .slice none 0 0] TrT))
 obtain ⟨z0, z1, z2, z3, z4, z5⟩ := cs6 hz rfl rfl rfl rfl rfl rfl
 obtain ⟨zf0, zf1, zf2, zf3, zf4, zf5⟩ := fz6 hz
 obtain ⟨q0, q1, q2, q3, q4, q5⟩ := cs6 hq rfl rfl rfl rfl rfl rfl
 go_enter Tryz.func188, Tryz.ntmps188
 go_wp2_with fail
 refine bodyPost_ret (v := .agg #[.int .i64 3, .int .i64 0, .int .i64 0, .int .u64 0, .string s, .slice none 0 0]) (by simp [results, Tryz.results188, go_sem, q0, q1, q2, q3, q4, q5]) rfl ?_
 exact ⟨_, rfl, IsK.nils _ _ _ _ (by decide), HB.out⟩
set_option maxRecDepth 100000 in
set_option maxHeartbeats 3200000 in
theorem number_any (c : Int) (w0 : World) (E : Nat → Prop) (w : World) : Calls Tryz.prog 155 #[.int .u64 c] w (TP w0 E w (numT c)) := by
 have hz := heap_alloc_new w (.cells #[.int .i64 0, .int .i64 0, .int .i64 0, .int .u64 0, .string ⟨#[]⟩, .slice none 0 0] TrT)
 have hq := heap_alloc_new w (.cells #[.int .i64 2, .int .i64 0, .int .i64 0, .int .u64 c, .string ⟨#[]⟩, .slice none 0 0] TrT)
 have HB := Lib.hid (bZ w (.cells #[.int .i64 2, .int .i64 0, .int .i64 0, .int .u64 c, .string ⟨#[]⟩, .slice none 0 0] TrT))
 obtain ⟨z0, z1, z2, z3, z4, z5⟩ := cs6 hz rfl rfl rfl rfl rfl rfl
 obtain ⟨zf0, zf1, zf2, zf3, zf4, zf5⟩ := fz6 hz
 obtain ⟨q0, q1, q2, q3, q4, q5⟩ := cs6 hq rfl rfl rfl rfl rfl rfl
 go_enter Tryz.func155, Tryz.ntmps155
 go_wp2_with fail
 refine bodyPost_ret (v := .agg #[.int .i64 2, .int .i64 0, .int .i64 0, .int .u64 c, .string ⟨#[]⟩, .slice none 0 0]) (by simp [results, Tryz.results155, go_sem, q0, q1, q2, q3, q4, q5]) rfl ?_
 exact ⟨_, rfl, IsK.nils _ _ _ _ (by decide), HB.out⟩
set_option maxRecDepth 100000 in
set_option maxHeartbeats 3200000 in
theorem pair_any {x y : Tr} {vx vy : Value} {w0 w : World} {E : Nat → Prop} (hB : w0.heap.size ≤ w.heap.size) (hE : ∀ b, w.heap.size ≤ b → E b) (hx : IsK w (NewE w0 E w) vx x.2) (hy : IsK w (NewE w0 E w) vy y.2) : Calls Tryz.prog 154 #[.agg (treeA x.1 vx), .agg (treeA y.1 vy)] w (TP w0 E w (pairT x y)) := by
 obtain ⟨⟨k1, f1, t1, n1, s1, xa, xb⟩, kx⟩ := x
 obtain ⟨⟨k2, f2, t2, n2, s2, ya, yb⟩, ky⟩ := y
 obtain ⟨a1, c1, rfl, _⟩ := hx.shape
 obtain ⟨a2, c2, rfl, _⟩ := hy.shape
 have HBB := Lib.hid hB
 have HEE := Lib.hid hE
 have HX := Lib.hid hx
 have HY := Lib.hid hy
 clear hx hy hB hE
 simp only [treeA] at *
 have b1 := bZ w (.cells #[.int .i64 k1, .int .i64 f1, .int .i64 t1, .int .u64 n1, .string s1, .slice a1 kx.len c1] TrT)
 have h1 := heap_alloc_new w (.cells #[.int .i64 k1, .int .i64 f1, .int .i64 t1, .int .u64 n1, .string s1, .slice a1 kx.len c1] TrT)
 have b2 := bZ (w.alloc (.cells #[.int .i64 k1, .int .i64 f1, .int .i64 t1, .int .u64 n1, .string s1, .slice a1 kx.len c1] TrT)) (.cells #[.int .i64 k2, .int .i64 f2, .int .i64 t2, .int .u64 n2, .string s2, .slice a2 ky.len c2] TrT)
 have h2 := heap_alloc_new (w.alloc (.cells #[.int .i64 k1, .int .i64 f1, .int .i64 t1, .int .u64 n1, .string s1, .slice a1 kx.len c1] TrT)) (.cells #[.int .i64 k2, .int .i64 f2, .int .i64 t2, .int .u64 n2, .string s2, .slice a2 ky.len c2] TrT)
 have b3 := bZ ((w.alloc (.cells #[.int .i64 k1, .int .i64 f1, .int .i64 t1, .int .u64 n1, .string s1, .slice a1 kx.len c1] TrT)).alloc (.cells #[.int .i64 k2, .int .i64 f2, .int .i64 t2, .int .u64 n2, .string s2, .slice a2 ky.len c2] TrT)) (.cells #[.int .i64 0, .int .i64 0, .int .i64 0, .int .u64 0, .string ⟨#[]⟩, .slice none 0 0] TrT)
 have h3 := heap_alloc_new ((w.alloc (.cells #[.int .i64 k1, .int .i64 f1, .int .i64 t1, .int .u64 n1, .string s1, .slice a1 kx.len c1] TrT)).alloc (.cells #[.int .i64 k2, .int .i64 f2, .int .i64 t2, .int .u64 n2, .string s2, .slice a2 ky.len c2] TrT)) (.cells #[.int .i64 0, .int .i64 0, .int .i64 0, .int .u64 0, .string ⟨#[]⟩, .slice none 0 0] TrT)
 have hs3 : (((w.alloc (.cells #[.int .i64 k1, .int .i64 f1, .int .i64 t1, .int .u64 n1, .string s1, .slice a1 kx.len c1] TrT)).alloc (.cells #[.int .i64 k2, .int .i64 f2, .int .i64 t2, .int .u64 n2, .string s2, .slice a2 ky.len c2] TrT)).alloc (.cells #[.int .i64 0, .int .i64 0, .int .i64 0, .int .u64 0, .string ⟨#[]⟩, .slice none 0 0] TrT)).heap.size = w.heap.size + 3 := by simp
 have e1 := Hold.below (bmore b2 b3) _ _ h1
 have e2 := Hold.below b3 _ _ h2
 simp only [World.size_alloc] at e2 h3
 have HB3 := Lib.hid (bmore (bmore b1 b2) b3)
 have HS3 := Lib.hid hs3
 clear h1 h2 b1 b2 b3
 go_enter Tryz.func154, Tryz.ntmps154
 go_upto_region 1 with fail
 generalize (((w.alloc (.cells #[.int .i64 k1, .int .i64 f1, .int .i64 t1, .int .u64 n1, .string s1, .slice a1 kx.len c1] TrT)).alloc (.cells #[.int .i64 k2, .int .i64 f2, .int .i64 t2, .int .u64 n2, .string s2, .slice a2 ky.len c2] TrT)).alloc (.cells #[.int .i64 0, .int .i64 0, .int .i64 0, .int .u64 0, .string ⟨#[]⟩, .slice none 0 0] TrT)) = w3 at *
 have b4 := bZ w3 (.cells #[.int .i64 k1, .int .i64 f1, .int .i64 t1, .int .u64 n1, .string s1, .slice a1 kx.len c1, .int .i64 k2, .int .i64 f2, .int .i64 t2, .int .u64 n2, .string s2, .slice a2 ky.len c2] TrT)
 have h4 := heap_alloc_new w3 (.cells #[.int .i64 k1, .int .i64 f1, .int .i64 t1, .int .u64 n1, .string s1, .slice a1 kx.len c1, .int .i64 k2, .int .i64 f2, .int .i64 t2, .int .u64 n2, .string s2, .slice a2 ky.len c2] TrT)
 have e3 := Hold.below b4 _ _ h3
 have HB4 := Lib.hid (bmore HB3.out b4)
 have HH4 := Lib.hid h4
 have HE3 := Lib.hid e3
 have hn1 : ¬ w3.heap.size = w.heap.size + 1 + 1 := by omega
 have hn2 : ¬ w.heap.size + 1 + 1 = w3.heap.size := by omega
 obtain ⟨x0, x1, x2, x3, x4, x5⟩ := cs6 e1 rfl rfl rfl rfl rfl rfl
 obtain ⟨y0, y1, y2, y3, y4, y5⟩ := cs6 e2 rfl rfl rfl rfl rfl rfl
 obtain ⟨z0, z1, z2, z3, z4, z5⟩ := cs6 e3 rfl rfl rfl rfl rfl rfl
 obtain ⟨zf0, zf1, zf2, zf3, zf4, zf5⟩ := fz6 e3
 clear h3 h4 e1 e2 e3 b4 hs3
 go_wp2_with fail
 have hs6 := set6_at HE3.out (.int .i64 4) (.int .i64 0) (.int .i64 0) (.int .u64 0) (.string ⟨#[]⟩) (.slice (some ⟨w3.heap.size, 0, none⟩) 2 2)
 have hw6 := set6_below (b := (w.heap.size + 1 + 1)) HB4.out (by omega) (.int .i64 4) (.int .i64 0) (.int .i64 0) (.int .u64 0) (.string ⟨#[]⟩) (.slice (some ⟨w3.heap.size, 0, none⟩) 2 2)
 rw [show set6 (w3.alloc (.cells #[.int .i64 k1, .int .i64 f1, .int .i64 t1, .int .u64 n1, .string s1, .slice a1 kx.len c1, .int .i64 k2, .int .i64 f2, .int .i64 t2, .int .u64 n2, .string s2, .slice a2 ky.len c2] TrT)) (w.heap.size + 1 + 1) (.int .i64 4) (.int .i64 0) (.int .i64 0) (.int .u64 0) (.string ⟨#[]⟩) (.slice (some ⟨w3.heap.size, 0, none⟩) 2 2) = ((((((w3.alloc (.cells #[.int .i64 k1, .int .i64 f1, .int .i64 t1, .int .u64 n1, .string s1, .slice a1 kx.len c1, .int .i64 k2, .int .i64 f2, .int .i64 t2, .int .u64 n2, .string s2, .slice a2 ky.len c2] TrT)).setCell ⟨(w.heap.size + 1 + 1), 0, none⟩ (.int .i64 4)).setCell ⟨(w.heap.size + 1 + 1), 1, none⟩ (.int .i64 0)).setCell ⟨(w.heap.size + 1 + 1), 2, none⟩ (.int .i64 0)).setCell ⟨(w.heap.size + 1 + 1), 3, none⟩ (.int .u64 0)).setCell ⟨(w.heap.size + 1 + 1), 4, none⟩ (.string ⟨#[]⟩)).setCell ⟨(w.heap.size + 1 + 1), 5, none⟩ (.slice (some ⟨w3.heap.size, 0, none⟩) 2 2) from rfl] at hs6 hw6
 have ho6 := HH4.out
 rw [← set6_other (b := (w.heap.size + 1 + 1)) (by omega) (.int .i64 4) (.int .i64 0) (.int .i64 0) (.int .u64 0) (.string ⟨#[]⟩) (.slice (some ⟨w3.heap.size, 0, none⟩) 2 2)] at ho6
 rw [show set6 (w3.alloc (.cells #[.int .i64 k1, .int .i64 f1, .int .i64 t1, .int .u64 n1, .string s1, .slice a1 kx.len c1, .int .i64 k2, .int .i64 f2, .int .i64 t2, .int .u64 n2, .string s2, .slice a2 ky.len c2] TrT)) (w.heap.size + 1 + 1) (.int .i64 4) (.int .i64 0) (.int .i64 0) (.int .u64 0) (.string ⟨#[]⟩) (.slice (some ⟨w3.heap.size, 0, none⟩) 2 2) = ((((((w3.alloc (.cells #[.int .i64 k1, .int .i64 f1, .int .i64 t1, .int .u64 n1, .string s1, .slice a1 kx.len c1, .int .i64 k2, .int .i64 f2, .int .i64 t2, .int .u64 n2, .string s2, .slice a2 ky.len c2] TrT)).setCell ⟨(w.heap.size + 1 + 1), 0, none⟩ (.int .i64 4)).setCell ⟨(w.heap.size + 1 + 1), 1, none⟩ (.int .i64 0)).setCell ⟨(w.heap.size + 1 + 1), 2, none⟩ (.int .i64 0)).setCell ⟨(w.heap.size + 1 + 1), 3, none⟩ (.int .u64 0)).setCell ⟨(w.heap.size + 1 + 1), 4, none⟩ (.string ⟨#[]⟩)).setCell ⟨(w.heap.size + 1 + 1), 5, none⟩ (.slice (some ⟨w3.heap.size, 0, none⟩) 2 2) from rfl] at ho6
 have HW6 := Lib.hid hw6
 clear hw6
 generalize (((((((w3.alloc (.cells #[.int .i64 k1, .int .i64 f1, .int .i64 t1, .int .u64 n1, .string s1, .slice a1 kx.len c1, .int .i64 k2, .int .i64 f2, .int .i64 t2, .int .u64 n2, .string s2, .slice a2 ky.len c2] TrT)).setCell ⟨(w.heap.size + 1 + 1), 0, none⟩ (.int .i64 4)).setCell ⟨(w.heap.size + 1 + 1), 1, none⟩ (.int .i64 0)).setCell ⟨(w.heap.size + 1 + 1), 2, none⟩ (.int .i64 0)).setCell ⟨(w.heap.size + 1 + 1), 3, none⟩ (.int .u64 0)).setCell ⟨(w.heap.size + 1 + 1), 4, none⟩ (.string ⟨#[]⟩)).setCell ⟨(w.heap.size + 1 + 1), 5, none⟩ (.slice (some ⟨w3.heap.size, 0, none⟩) 2 2)) = w99 at *
 obtain ⟨q0, q1, q2, q3, q4, q5⟩ := cs6 hs6 rfl rfl rfl rfl rfl rfl
 refine bodyPost_ret (v := .agg #[.int .i64 4, .int .i64 0, .int .i64 0, .int .u64 0, .string ⟨#[]⟩, .slice (some ⟨w3.heap.size, 0, none⟩) 2 2]) (by simp [results, Tryz.results154, go_sem, q0, q1, q2, q3, q4, q5]) rfl ?_
 refine ⟨.slice (some ⟨w3.heap.size, 0, none⟩) 2 2, rfl, ⟨_, _, rfl, by simp [pairT, two, Fo.len], by decide, fun _ => ⟨w3.heap.size, 0, rfl, ⟨⟨Nat.le_trans HBB.out (Nat.le_trans (Nat.le_add_right _ 3) (Nat.le_of_eq HS3.out.symm)), _, ho6⟩, HEE.out _ (Nat.le_trans (Nat.le_add_right _ 3) (Nat.le_of_eq HS3.out.symm))⟩,
  AtF.mk (v := .slice a1 kx.len c1) (cellB (j := 0) ho6 rfl) (cellB (j := 1) ho6 rfl) (cellB (j := 2) ho6 rfl) (cellB (j := 3) ho6 rfl) (cellB (j := 4) ho6 rfl) (cellB (j := 5) ho6 rfl) (HX.out.newE HW6.out)
   (AtF.mk (v := .slice a2 ky.len c2) (cellB (j := 6) ho6 rfl) (cellB (j := 7) ho6 rfl) (cellB (j := 8) ho6 rfl) (cellB (j := 9) ho6 rfl) (cellB (j := 10) ho6 rfl) (cellB (j := 11) ho6 rfl) (HY.out.newE HW6.out) trivial)⟩⟩, HW6.out⟩
set_option maxRecDepth 100000 in
set_option maxHeartbeats 3200000 in
theorem promise_any {x : Tr} {vx : Value} {w0 w : World} {E : Nat → Prop} (hB : w0.heap.size ≤ w.heap.size) (hE : ∀ b, w.heap.size ≤ b → E b) (hx : IsK w (NewE w0 E w) vx x.2) {who : Int} (hw : who = 0 ∨ who = 1) (f : Bool) : Calls Tryz.prog 151 #[.int .i64 who, .agg (treeA x.1 vx), .bool f] w (TP w0 E w (promT who x f)) := by
 obtain ⟨⟨k1, f1, t1, n1, s1, xa, xb⟩, kx⟩ := x
 obtain ⟨a1, c1, rfl, _⟩ := hx.shape
 have HX := Lib.hid hx
 have HBB := Lib.hid hB
 have HEE := Lib.hid hE
 clear hx hB hE
 simp only [treeA] at *
 have b1 := bZ w (.cells #[.int .i64 k1, .int .i64 f1, .int .i64 t1, .int .u64 n1, .string s1, .slice a1 kx.len c1] TrT)
 have h0 := heap_alloc_new w (.cells #[.int .i64 k1, .int .i64 f1, .int .i64 t1, .int .u64 n1, .string s1, .slice a1 kx.len c1] TrT)
 have b2 := bZ (w.alloc (.cells #[.int .i64 k1, .int .i64 f1, .int .i64 t1, .int .u64 n1, .string s1, .slice a1 kx.len c1] TrT)) (.cells #[.int .i64 0, .int .i64 0, .int .i64 0, .int .u64 0, .string ⟨#[]⟩, .slice none 0 0] TrT)
 have h1 := heap_alloc_new (w.alloc (.cells #[.int .i64 k1, .int .i64 f1, .int .i64 t1, .int .u64 n1, .string s1, .slice a1 kx.len c1] TrT)) (.cells #[.int .i64 0, .int .i64 0, .int .i64 0, .int .u64 0, .string ⟨#[]⟩, .slice none 0 0] TrT)
 have hs2 : ((w.alloc (.cells #[.int .i64 k1, .int .i64 f1, .int .i64 t1, .int .u64 n1, .string s1, .slice a1 kx.len c1] TrT)).alloc (.cells #[.int .i64 0, .int .i64 0, .int .i64 0, .int .u64 0, .string ⟨#[]⟩, .slice none 0 0] TrT)).heap.size = w.heap.size + 2 := by simp
 have e0 := Hold.below b2 _ _ h0
 simp only [World.size_alloc] at h1
 have HB2 := Lib.hid (bmore b1 b2)
 clear h0 b1 b2
 rcases hw with rfl | rfl
 ·cases f
  ·go_enter Tryz.func151, Tryz.ntmps151
   go_upto_region 1 with fail
   generalize ((w.alloc (.cells #[.int .i64 k1, .int .i64 f1, .int .i64 t1, .int .u64 n1, .string s1, .slice a1 kx.len c1] TrT)).alloc (.cells #[.int .i64 0, .int .i64 0, .int .i64 0, .int .u64 0, .string ⟨#[]⟩, .slice none 0 0] TrT)) = w2 at *
   have HS2 := Lib.hid hs2
   have hle : w.heap.size + 2 ≤ w2.heap.size := by omega
   clear hs2
   have b3 := bZ w2 (.cells #[.int .i64 k1, .int .i64 f1, .int .i64 t1, .int .u64 n1, .string s1, .slice a1 kx.len c1] TrT)
   have h3 := heap_alloc_new w2 (.cells #[.int .i64 k1, .int .i64 f1, .int .i64 t1, .int .u64 n1, .string s1, .slice a1 kx.len c1] TrT)
   obtain ⟨x0, x1, x2, x3, x4, x5⟩ := cs6 e0 rfl rfl rfl rfl rfl rfl
   have b4 := bZ (w2.alloc (.cells #[.int .i64 k1, .int .i64 f1, .int .i64 t1, .int .u64 n1, .string s1, .slice a1 kx.len c1] TrT)) (.cells #[.int .i64 8, .int .i64 0, .int .i64 1, .int .u64 0, .string ⟨#[]⟩, .slice (some ⟨w2.heap.size, 0, none⟩) 1 1] TrT)
   have h4 := heap_alloc_new (w2.alloc (.cells #[.int .i64 k1, .int .i64 f1, .int .i64 t1, .int .u64 n1, .string s1, .slice a1 kx.len c1] TrT)) (.cells #[.int .i64 8, .int .i64 0, .int .i64 1, .int .u64 0, .string ⟨#[]⟩, .slice (some ⟨w2.heap.size, 0, none⟩) 1 1] TrT)
   simp only [World.size_alloc] at h4
   have e3 := Hold.below b4 _ _ h3
   have e1 := Hold.below (bmore b3 b4) _ _ h1
   have h5 := h4
   have HB5 := Lib.hid (bmore HB2.out (bmore b3 b4))
   have HE3 := Lib.hid e3
   have HE1 := Lib.hid e1
   have hf4 := frozenB (j := 0) h4
   have hc4 := cellB (j := 0) h4 rfl
   go_upto_region 4 with fail
   generalize ((w2.alloc (.cells #[.int .i64 k1, .int .i64 f1, .int .i64 t1, .int .u64 n1, .string s1, .slice a1 kx.len c1] TrT)).alloc (.cells #[.int .i64 8, .int .i64 0, .int .i64 1, .int .u64 0, .string ⟨#[]⟩, .slice (some ⟨w2.heap.size, 0, none⟩) 1 1] TrT)) = w5 at *
   obtain ⟨d0, d1, d2, d3, d4, d5⟩ := cs6 h5 rfl rfl rfl rfl rfl rfl
   obtain ⟨z0, z1, z2, z3, z4, z5⟩ := cs6 HE1.out rfl rfl rfl rfl rfl rfl
   obtain ⟨zf0, zf1, zf2, zf3, zf4, zf5⟩ := fz6 HE1.out
   have hm1 : ¬ w2.heap.size + 1 = w.heap.size + 1 := by omega
   have hm2 : ¬ w.heap.size + 1 = w2.heap.size + 1 := by omega
   have HE1' := Lib.hid e1
   clear h4 h5 e1 e3 b4
   go_wp2_with fail
   have hs6 := set6_at HE1.out (.int .i64 8) (.int .i64 0) (.int .i64 1) (.int .u64 0) (.string ⟨#[]⟩) (.slice (some ⟨w2.heap.size, 0, none⟩) 1 1)
   have hw6 := set6_below (b := (w.heap.size + 1)) HB5.out (by omega) (.int .i64 8) (.int .i64 0) (.int .i64 1) (.int .u64 0) (.string ⟨#[]⟩) (.slice (some ⟨w2.heap.size, 0, none⟩) 1 1)
   rw [show set6 w5 (w.heap.size + 1) (.int .i64 8) (.int .i64 0) (.int .i64 1) (.int .u64 0) (.string ⟨#[]⟩) (.slice (some ⟨w2.heap.size, 0, none⟩) 1 1) = (((((w5.setCell ⟨(w.heap.size + 1), 0, none⟩ (.int .i64 8)).setCell ⟨(w.heap.size + 1), 1, none⟩ (.int .i64 0)).setCell ⟨(w.heap.size + 1), 2, none⟩ (.int .i64 1)).setCell ⟨(w.heap.size + 1), 3, none⟩ (.int .u64 0)).setCell ⟨(w.heap.size + 1), 4, none⟩ (.string ⟨#[]⟩)).setCell ⟨(w.heap.size + 1), 5, none⟩ (.slice (some ⟨w2.heap.size, 0, none⟩) 1 1) from rfl] at hs6 hw6
   have ho6 := HE3.out
   rw [← set6_other (b := (w.heap.size + 1)) (by omega) (.int .i64 8) (.int .i64 0) (.int .i64 1) (.int .u64 0) (.string ⟨#[]⟩) (.slice (some ⟨w2.heap.size, 0, none⟩) 1 1)] at ho6
   rw [show set6 w5 (w.heap.size + 1) (.int .i64 8) (.int .i64 0) (.int .i64 1) (.int .u64 0) (.string ⟨#[]⟩) (.slice (some ⟨w2.heap.size, 0, none⟩) 1 1) = (((((w5.setCell ⟨(w.heap.size + 1), 0, none⟩ (.int .i64 8)).setCell ⟨(w.heap.size + 1), 1, none⟩ (.int .i64 0)).setCell ⟨(w.heap.size + 1), 2, none⟩ (.int .i64 1)).setCell ⟨(w.heap.size + 1), 3, none⟩ (.int .u64 0)).setCell ⟨(w.heap.size + 1), 4, none⟩ (.string ⟨#[]⟩)).setCell ⟨(w.heap.size + 1), 5, none⟩ (.slice (some ⟨w2.heap.size, 0, none⟩) 1 1) from rfl] at ho6
   have HW6 := Lib.hid hw6
   clear hw6
   generalize ((((((w5.setCell ⟨(w.heap.size + 1), 0, none⟩ (.int .i64 8)).setCell ⟨(w.heap.size + 1), 1, none⟩ (.int .i64 0)).setCell ⟨(w.heap.size + 1), 2, none⟩ (.int .i64 1)).setCell ⟨(w.heap.size + 1), 3, none⟩ (.int .u64 0)).setCell ⟨(w.heap.size + 1), 4, none⟩ (.string ⟨#[]⟩)).setCell ⟨(w.heap.size + 1), 5, none⟩ (.slice (some ⟨w2.heap.size, 0, none⟩) 1 1)) = w99 at *
   obtain ⟨q0, q1, q2, q3, q4, q5⟩ := cs6 hs6 rfl rfl rfl rfl rfl rfl
   refine bodyPost_ret (v := .agg #[.int .i64 8, .int .i64 0, .int .i64 1, .int .u64 0, .string ⟨#[]⟩, .slice (some ⟨w2.heap.size, 0, none⟩) 1 1]) (by simp [results, Tryz.results151, go_sem, q0, q1, q2, q3, q4, q5]) rfl ?_
   refine ⟨.slice (some ⟨w2.heap.size, 0, none⟩) 1 1, rfl, ⟨_, _, rfl, by simp [promT, one, Fo.len], by decide, fun _ => ⟨w2.heap.size, 0, rfl, ⟨⟨Nat.le_trans HBB.out (Nat.le_trans (Nat.le_add_right _ 2) (Nat.le_of_eq HS2.out.symm)), _, ho6⟩, HEE.out _ (Nat.le_trans (Nat.le_add_right _ 2) (Nat.le_of_eq HS2.out.symm))⟩,
    AtF.mk (v := .slice a1 kx.len c1) (cellB (j := 0) ho6 rfl) (cellB (j := 1) ho6 rfl) (cellB (j := 2) ho6 rfl) (cellB (j := 3) ho6 rfl) (cellB (j := 4) ho6 rfl) (cellB (j := 5) ho6 rfl) (HX.out.newE HW6.out) trivial⟩⟩, HW6.out⟩
  ·go_enter Tryz.func151, Tryz.ntmps151
   go_upto_region 1 with fail
   generalize ((w.alloc (.cells #[.int .i64 k1, .int .i64 f1, .int .i64 t1, .int .u64 n1, .string s1, .slice a1 kx.len c1] TrT)).alloc (.cells #[.int .i64 0, .int .i64 0, .int .i64 0, .int .u64 0, .string ⟨#[]⟩, .slice none 0 0] TrT)) = w2 at *
   have HS2 := Lib.hid hs2
   have hle : w.heap.size + 2 ≤ w2.heap.size := by omega
   clear hs2
   have b3 := bZ w2 (.cells #[.int .i64 k1, .int .i64 f1, .int .i64 t1, .int .u64 n1, .string s1, .slice a1 kx.len c1] TrT)
   have h3 := heap_alloc_new w2 (.cells #[.int .i64 k1, .int .i64 f1, .int .i64 t1, .int .u64 n1, .string s1, .slice a1 kx.len c1] TrT)
   obtain ⟨x0, x1, x2, x3, x4, x5⟩ := cs6 e0 rfl rfl rfl rfl rfl rfl
   have b4 := bZ (w2.alloc (.cells #[.int .i64 k1, .int .i64 f1, .int .i64 t1, .int .u64 n1, .string s1, .slice a1 kx.len c1] TrT)) (.cells #[.int .i64 9, .int .i64 0, .int .i64 1, .int .u64 0, .string ⟨#[]⟩, .slice (some ⟨w2.heap.size, 0, none⟩) 1 1] TrT)
   have h4 := heap_alloc_new (w2.alloc (.cells #[.int .i64 k1, .int .i64 f1, .int .i64 t1, .int .u64 n1, .string s1, .slice a1 kx.len c1] TrT)) (.cells #[.int .i64 9, .int .i64 0, .int .i64 1, .int .u64 0, .string ⟨#[]⟩, .slice (some ⟨w2.heap.size, 0, none⟩) 1 1] TrT)
   simp only [World.size_alloc] at h4
   have e3 := Hold.below b4 _ _ h3
   have e1 := Hold.below (bmore b3 b4) _ _ h1
   have h5 := h4
   have HB5 := Lib.hid (bmore HB2.out (bmore b3 b4))
   have HE3 := Lib.hid e3
   have HE1 := Lib.hid e1
   have hf4 := frozenB (j := 0) h4
   have hc4 := cellB (j := 0) h4 rfl
   go_upto_region 4 with fail
   generalize ((w2.alloc (.cells #[.int .i64 k1, .int .i64 f1, .int .i64 t1, .int .u64 n1, .string s1, .slice a1 kx.len c1] TrT)).alloc (.cells #[.int .i64 9, .int .i64 0, .int .i64 1, .int .u64 0, .string ⟨#[]⟩, .slice (some ⟨w2.heap.size, 0, none⟩) 1 1] TrT)) = w5 at *
   obtain ⟨d0, d1, d2, d3, d4, d5⟩ := cs6 h5 rfl rfl rfl rfl rfl rfl
   obtain ⟨z0, z1, z2, z3, z4, z5⟩ := cs6 HE1.out rfl rfl rfl rfl rfl rfl
   obtain ⟨zf0, zf1, zf2, zf3, zf4, zf5⟩ := fz6 HE1.out
   have hm1 : ¬ w2.heap.size + 1 = w.heap.size + 1 := by omega
   have hm2 : ¬ w.heap.size + 1 = w2.heap.size + 1 := by omega
   have HE1' := Lib.hid e1
   clear h4 h5 e1 e3 b4
   go_wp2_with fail
   have hs6 := set6_at HE1.out (.int .i64 9) (.int .i64 0) (.int .i64 1) (.int .u64 0) (.string ⟨#[]⟩) (.slice (some ⟨w2.heap.size, 0, none⟩) 1 1)
   have hw6 := set6_below (b := (w.heap.size + 1)) HB5.out (by omega) (.int .i64 9) (.int .i64 0) (.int .i64 1) (.int .u64 0) (.string ⟨#[]⟩) (.slice (some ⟨w2.heap.size, 0, none⟩) 1 1)
   rw [show set6 w5 (w.heap.size + 1) (.int .i64 9) (.int .i64 0) (.int .i64 1) (.int .u64 0) (.string ⟨#[]⟩) (.slice (some ⟨w2.heap.size, 0, none⟩) 1 1) = (((((w5.setCell ⟨(w.heap.size + 1), 0, none⟩ (.int .i64 9)).setCell ⟨(w.heap.size + 1), 1, none⟩ (.int .i64 0)).setCell ⟨(w.heap.size + 1), 2, none⟩ (.int .i64 1)).setCell ⟨(w.heap.size + 1), 3, none⟩ (.int .u64 0)).setCell ⟨(w.heap.size + 1), 4, none⟩ (.string ⟨#[]⟩)).setCell ⟨(w.heap.size + 1), 5, none⟩ (.slice (some ⟨w2.heap.size, 0, none⟩) 1 1) from rfl] at hs6 hw6
   have ho6 := HE3.out
   rw [← set6_other (b := (w.heap.size + 1)) (by omega) (.int .i64 9) (.int .i64 0) (.int .i64 1) (.int .u64 0) (.string ⟨#[]⟩) (.slice (some ⟨w2.heap.size, 0, none⟩) 1 1)] at ho6
   rw [show set6 w5 (w.heap.size + 1) (.int .i64 9) (.int .i64 0) (.int .i64 1) (.int .u64 0) (.string ⟨#[]⟩) (.slice (some ⟨w2.heap.size, 0, none⟩) 1 1) = (((((w5.setCell ⟨(w.heap.size + 1), 0, none⟩ (.int .i64 9)).setCell ⟨(w.heap.size + 1), 1, none⟩ (.int .i64 0)).setCell ⟨(w.heap.size + 1), 2, none⟩ (.int .i64 1)).setCell ⟨(w.heap.size + 1), 3, none⟩ (.int .u64 0)).setCell ⟨(w.heap.size + 1), 4, none⟩ (.string ⟨#[]⟩)).setCell ⟨(w.heap.size + 1), 5, none⟩ (.slice (some ⟨w2.heap.size, 0, none⟩) 1 1) from rfl] at ho6
   have HW6 := Lib.hid hw6
   clear hw6
   generalize ((((((w5.setCell ⟨(w.heap.size + 1), 0, none⟩ (.int .i64 9)).setCell ⟨(w.heap.size + 1), 1, none⟩ (.int .i64 0)).setCell ⟨(w.heap.size + 1), 2, none⟩ (.int .i64 1)).setCell ⟨(w.heap.size + 1), 3, none⟩ (.int .u64 0)).setCell ⟨(w.heap.size + 1), 4, none⟩ (.string ⟨#[]⟩)).setCell ⟨(w.heap.size + 1), 5, none⟩ (.slice (some ⟨w2.heap.size, 0, none⟩) 1 1)) = w99 at *
   obtain ⟨q0, q1, q2, q3, q4, q5⟩ := cs6 hs6 rfl rfl rfl rfl rfl rfl
   refine bodyPost_ret (v := .agg #[.int .i64 9, .int .i64 0, .int .i64 1, .int .u64 0, .string ⟨#[]⟩, .slice (some ⟨w2.heap.size, 0, none⟩) 1 1]) (by simp [results, Tryz.results151, go_sem, q0, q1, q2, q3, q4, q5]) rfl ?_
   refine ⟨.slice (some ⟨w2.heap.size, 0, none⟩) 1 1, rfl, ⟨_, _, rfl, by simp [promT, one, Fo.len], by decide, fun _ => ⟨w2.heap.size, 0, rfl, ⟨⟨Nat.le_trans HBB.out (Nat.le_trans (Nat.le_add_right _ 2) (Nat.le_of_eq HS2.out.symm)), _, ho6⟩, HEE.out _ (Nat.le_trans (Nat.le_add_right _ 2) (Nat.le_of_eq HS2.out.symm))⟩,
    AtF.mk (v := .slice a1 kx.len c1) (cellB (j := 0) ho6 rfl) (cellB (j := 1) ho6 rfl) (cellB (j := 2) ho6 rfl) (cellB (j := 3) ho6 rfl) (cellB (j := 4) ho6 rfl) (cellB (j := 5) ho6 rfl) (HX.out.newE HW6.out) trivial⟩⟩, HW6.out⟩
 ·cases f
  ·go_enter Tryz.func151, Tryz.ntmps151
   go_upto_region 1 with fail
   generalize ((w.alloc (.cells #[.int .i64 k1, .int .i64 f1, .int .i64 t1, .int .u64 n1, .string s1, .slice a1 kx.len c1] TrT)).alloc (.cells #[.int .i64 0, .int .i64 0, .int .i64 0, .int .u64 0, .string ⟨#[]⟩, .slice none 0 0] TrT)) = w2 at *
   have HS2 := Lib.hid hs2
   have hle : w.heap.size + 2 ≤ w2.heap.size := by omega
   clear hs2
   have b3 := bZ w2 (.cells #[.int .i64 k1, .int .i64 f1, .int .i64 t1, .int .u64 n1, .string s1, .slice a1 kx.len c1] TrT)
   have h3 := heap_alloc_new w2 (.cells #[.int .i64 k1, .int .i64 f1, .int .i64 t1, .int .u64 n1, .string s1, .slice a1 kx.len c1] TrT)
   obtain ⟨x0, x1, x2, x3, x4, x5⟩ := cs6 e0 rfl rfl rfl rfl rfl rfl
   have b4 := bZ (w2.alloc (.cells #[.int .i64 k1, .int .i64 f1, .int .i64 t1, .int .u64 n1, .string s1, .slice a1 kx.len c1] TrT)) (.cells #[.int .i64 8, .int .i64 1, .int .i64 0, .int .u64 0, .string ⟨#[]⟩, .slice (some ⟨w2.heap.size, 0, none⟩) 1 1] TrT)
   have h4 := heap_alloc_new (w2.alloc (.cells #[.int .i64 k1, .int .i64 f1, .int .i64 t1, .int .u64 n1, .string s1, .slice a1 kx.len c1] TrT)) (.cells #[.int .i64 8, .int .i64 1, .int .i64 0, .int .u64 0, .string ⟨#[]⟩, .slice (some ⟨w2.heap.size, 0, none⟩) 1 1] TrT)
   simp only [World.size_alloc] at h4
   have e3 := Hold.below b4 _ _ h3
   have e1 := Hold.below (bmore b3 b4) _ _ h1
   have h5 := h4
   have HB5 := Lib.hid (bmore HB2.out (bmore b3 b4))
   have HE3 := Lib.hid e3
   have HE1 := Lib.hid e1
   have hf4 := frozenB (j := 0) h4
   have hc4 := cellB (j := 0) h4 rfl
   go_upto_region 4 with fail
   generalize ((w2.alloc (.cells #[.int .i64 k1, .int .i64 f1, .int .i64 t1, .int .u64 n1, .string s1, .slice a1 kx.len c1] TrT)).alloc (.cells #[.int .i64 8, .int .i64 1, .int .i64 0, .int .u64 0, .string ⟨#[]⟩, .slice (some ⟨w2.heap.size, 0, none⟩) 1 1] TrT)) = w5 at *
   obtain ⟨d0, d1, d2, d3, d4, d5⟩ := cs6 h5 rfl rfl rfl rfl rfl rfl
   obtain ⟨z0, z1, z2, z3, z4, z5⟩ := cs6 HE1.out rfl rfl rfl rfl rfl rfl
   obtain ⟨zf0, zf1, zf2, zf3, zf4, zf5⟩ := fz6 HE1.out
   have hm1 : ¬ w2.heap.size + 1 = w.heap.size + 1 := by omega
   have hm2 : ¬ w.heap.size + 1 = w2.heap.size + 1 := by omega
   have HE1' := Lib.hid e1
   clear h4 h5 e1 e3 b4
   go_wp2_with fail
   have hs6 := set6_at HE1.out (.int .i64 8) (.int .i64 1) (.int .i64 0) (.int .u64 0) (.string ⟨#[]⟩) (.slice (some ⟨w2.heap.size, 0, none⟩) 1 1)
   have hw6 := set6_below (b := (w.heap.size + 1)) HB5.out (by omega) (.int .i64 8) (.int .i64 1) (.int .i64 0) (.int .u64 0) (.string ⟨#[]⟩) (.slice (some ⟨w2.heap.size, 0, none⟩) 1 1)
   rw [show set6 w5 (w.heap.size + 1) (.int .i64 8) (.int .i64 1) (.int .i64 0) (.int .u64 0) (.string ⟨#[]⟩) (.slice (some ⟨w2.heap.size, 0, none⟩) 1 1) = (((((w5.setCell ⟨(w.heap.size + 1), 0, none⟩ (.int .i64 8)).setCell ⟨(w.heap.size + 1), 1, none⟩ (.int .i64 1)).setCell ⟨(w.heap.size + 1), 2, none⟩ (.int .i64 0)).setCell ⟨(w.heap.size + 1), 3, none⟩ (.int .u64 0)).setCell ⟨(w.heap.size + 1), 4, none⟩ (.string ⟨#[]⟩)).setCell ⟨(w.heap.size + 1), 5, none⟩ (.slice (some ⟨w2.heap.size, 0, none⟩) 1 1) from rfl] at hs6 hw6
   have ho6 := HE3.out
   rw [← set6_other (b := (w.heap.size + 1)) (by omega) (.int .i64 8) (.int .i64 1) (.int .i64 0) (.int .u64 0) (.string ⟨#[]⟩) (.slice (some ⟨w2.heap.size, 0, none⟩) 1 1)] at ho6
   rw [show set6 w5 (w.heap.size + 1) (.int .i64 8) (.int .i64 1) (.int .i64 0) (.int .u64 0) (.string ⟨#[]⟩) (.slice (some ⟨w2.heap.size, 0, none⟩) 1 1) = (((((w5.setCell ⟨(w.heap.size + 1), 0, none⟩ (.int .i64 8)).setCell ⟨(w.heap.size + 1), 1, none⟩ (.int .i64 1)).setCell ⟨(w.heap.size + 1), 2, none⟩ (.int .i64 0)).setCell ⟨(w.heap.size + 1), 3, none⟩ (.int .u64 0)).setCell ⟨(w.heap.size + 1), 4, none⟩ (.string ⟨#[]⟩)).setCell ⟨(w.heap.size + 1), 5, none⟩ (.slice (some ⟨w2.heap.size, 0, none⟩) 1 1) from rfl] at ho6
   have HW6 := Lib.hid hw6
   clear hw6
   generalize ((((((w5.setCell ⟨(w.heap.size + 1), 0, none⟩ (.int .i64 8)).setCell ⟨(w.heap.size + 1), 1, none⟩ (.int .i64 1)).setCell ⟨(w.heap.size + 1), 2, none⟩ (.int .i64 0)).setCell ⟨(w.heap.size + 1), 3, none⟩ (.int .u64 0)).setCell ⟨(w.heap.size + 1), 4, none⟩ (.string ⟨#[]⟩)).setCell ⟨(w.heap.size + 1), 5, none⟩ (.slice (some ⟨w2.heap.size, 0, none⟩) 1 1)) = w99 at *
   obtain ⟨q0, q1, q2, q3, q4, q5⟩ := cs6 hs6 rfl rfl rfl rfl rfl rfl
   refine bodyPost_ret (v := .agg #[.int .i64 8, .int .i64 1, .int .i64 0, .int .u64 0, .string ⟨#[]⟩, .slice (some ⟨w2.heap.size, 0, none⟩) 1 1]) (by simp [results, Tryz.results151, go_sem, q0, q1, q2, q3, q4, q5]) rfl ?_
   refine ⟨.slice (some ⟨w2.heap.size, 0, none⟩) 1 1, rfl, ⟨_, _, rfl, by simp [promT, one, Fo.len], by decide, fun _ => ⟨w2.heap.size, 0, rfl, ⟨⟨Nat.le_trans HBB.out (Nat.le_trans (Nat.le_add_right _ 2) (Nat.le_of_eq HS2.out.symm)), _, ho6⟩, HEE.out _ (Nat.le_trans (Nat.le_add_right _ 2) (Nat.le_of_eq HS2.out.symm))⟩,
    AtF.mk (v := .slice a1 kx.len c1) (cellB (j := 0) ho6 rfl) (cellB (j := 1) ho6 rfl) (cellB (j := 2) ho6 rfl) (cellB (j := 3) ho6 rfl) (cellB (j := 4) ho6 rfl) (cellB (j := 5) ho6 rfl) (HX.out.newE HW6.out) trivial⟩⟩, HW6.out⟩
  ·go_enter Tryz.func151, Tryz.ntmps151
   go_upto_region 1 with fail
   generalize ((w.alloc (.cells #[.int .i64 k1, .int .i64 f1, .int .i64 t1, .int .u64 n1, .string s1, .slice a1 kx.len c1] TrT)).alloc (.cells #[.int .i64 0, .int .i64 0, .int .i64 0, .int .u64 0, .string ⟨#[]⟩, .slice none 0 0] TrT)) = w2 at *
   have HS2 := Lib.hid hs2
   have hle : w.heap.size + 2 ≤ w2.heap.size := by omega
   clear hs2
   have b3 := bZ w2 (.cells #[.int .i64 k1, .int .i64 f1, .int .i64 t1, .int .u64 n1, .string s1, .slice a1 kx.len c1] TrT)
   have h3 := heap_alloc_new w2 (.cells #[.int .i64 k1, .int .i64 f1, .int .i64 t1, .int .u64 n1, .string s1, .slice a1 kx.len c1] TrT)
   obtain ⟨x0, x1, x2, x3, x4, x5⟩ := cs6 e0 rfl rfl rfl rfl rfl rfl
   have b4 := bZ (w2.alloc (.cells #[.int .i64 k1, .int .i64 f1, .int .i64 t1, .int .u64 n1, .string s1, .slice a1 kx.len c1] TrT)) (.cells #[.int .i64 9, .int .i64 1, .int .i64 0, .int .u64 0, .string ⟨#[]⟩, .slice (some ⟨w2.heap.size, 0, none⟩) 1 1] TrT)
   have h4 := heap_alloc_new (w2.alloc (.cells #[.int .i64 k1, .int .i64 f1, .int .i64 t1, .int .u64 n1, .string s1, .slice a1 kx.len c1] TrT)) (.cells #[.int .i64 9, .int .i64 1, .int .i64 0, .int .u64 0, .string ⟨#[]⟩, .slice (some ⟨w2.heap.size, 0, none⟩) 1 1] TrT)
   simp only [World.size_alloc] at h4
   have e3 := Hold.below b4 _ _ h3
   have e1 := Hold.below (bmore b3 b4) _ _ h1
   have h5 := h4
   have HB5 := Lib.hid (bmore HB2.out (bmore b3 b4))
   have HE3 := Lib.hid e3
   have HE1 := Lib.hid e1
   have hf4 := frozenB (j := 0) h4
   have hc4 := cellB (j := 0) h4 rfl
   go_upto_region 4 with fail
   generalize ((w2.alloc (.cells #[.int .i64 k1, .int .i64 f1, .int .i64 t1, .int .u64 n1, .string s1, .slice a1 kx.len c1] TrT)).alloc (.cells #[.int .i64 9, .int .i64 1, .int .i64 0, .int .u64 0, .string ⟨#[]⟩, .slice (some ⟨w2.heap.size, 0, none⟩) 1 1] TrT)) = w5 at *
   obtain ⟨d0, d1, d2, d3, d4, d5⟩ := cs6 h5 rfl rfl rfl rfl rfl rfl
   obtain ⟨z0, z1, z2, z3, z4, z5⟩ := cs6 HE1.out rfl rfl rfl rfl rfl rfl
   obtain ⟨zf0, zf1, zf2, zf3, zf4, zf5⟩ := fz6 HE1.out
   have hm1 : ¬ w2.heap.size + 1 = w.heap.size + 1 := by omega
   have hm2 : ¬ w.heap.size + 1 = w2.heap.size + 1 := by omega
   have HE1' := Lib.hid e1
   clear h4 h5 e1 e3 b4
   go_wp2_with fail
   have hs6 := set6_at HE1.out (.int .i64 9) (.int .i64 1) (.int .i64 0) (.int .u64 0) (.string ⟨#[]⟩) (.slice (some ⟨w2.heap.size, 0, none⟩) 1 1)
   have hw6 := set6_below (b := (w.heap.size + 1)) HB5.out (by omega) (.int .i64 9) (.int .i64 1) (.int .i64 0) (.int .u64 0) (.string ⟨#[]⟩) (.slice (some ⟨w2.heap.size, 0, none⟩) 1 1)
   rw [show set6 w5 (w.heap.size + 1) (.int .i64 9) (.int .i64 1) (.int .i64 0) (.int .u64 0) (.string ⟨#[]⟩) (.slice (some ⟨w2.heap.size, 0, none⟩) 1 1) = (((((w5.setCell ⟨(w.heap.size + 1), 0, none⟩ (.int .i64 9)).setCell ⟨(w.heap.size + 1), 1, none⟩ (.int .i64 1)).setCell ⟨(w.heap.size + 1), 2, none⟩ (.int .i64 0)).setCell ⟨(w.heap.size + 1), 3, none⟩ (.int .u64 0)).setCell ⟨(w.heap.size + 1), 4, none⟩ (.string ⟨#[]⟩)).setCell ⟨(w.heap.size + 1), 5, none⟩ (.slice (some ⟨w2.heap.size, 0, none⟩) 1 1) from rfl] at hs6 hw6
   have ho6 := HE3.out
   rw [← set6_other (b := (w.heap.size + 1)) (by omega) (.int .i64 9) (.int .i64 1) (.int .i64 0) (.int .u64 0) (.string ⟨#[]⟩) (.slice (some ⟨w2.heap.size, 0, none⟩) 1 1)] at ho6
   rw [show set6 w5 (w.heap.size + 1) (.int .i64 9) (.int .i64 1) (.int .i64 0) (.int .u64 0) (.string ⟨#[]⟩) (.slice (some ⟨w2.heap.size, 0, none⟩) 1 1) = (((((w5.setCell ⟨(w.heap.size + 1), 0, none⟩ (.int .i64 9)).setCell ⟨(w.heap.size + 1), 1, none⟩ (.int .i64 1)).setCell ⟨(w.heap.size + 1), 2, none⟩ (.int .i64 0)).setCell ⟨(w.heap.size + 1), 3, none⟩ (.int .u64 0)).setCell ⟨(w.heap.size + 1), 4, none⟩ (.string ⟨#[]⟩)).setCell ⟨(w.heap.size + 1), 5, none⟩ (.slice (some ⟨w2.heap.size, 0, none⟩) 1 1) from rfl] at ho6
   have HW6 := Lib.hid hw6
   clear hw6
   generalize ((((((w5.setCell ⟨(w.heap.size + 1), 0, none⟩ (.int .i64 9)).setCell ⟨(w.heap.size + 1), 1, none⟩ (.int .i64 1)).setCell ⟨(w.heap.size + 1), 2, none⟩ (.int .i64 0)).setCell ⟨(w.heap.size + 1), 3, none⟩ (.int .u64 0)).setCell ⟨(w.heap.size + 1), 4, none⟩ (.string ⟨#[]⟩)).setCell ⟨(w.heap.size + 1), 5, none⟩ (.slice (some ⟨w2.heap.size, 0, none⟩) 1 1)) = w99 at *
   obtain ⟨q0, q1, q2, q3, q4, q5⟩ := cs6 hs6 rfl rfl rfl rfl rfl rfl
   refine bodyPost_ret (v := .agg #[.int .i64 9, .int .i64 1, .int .i64 0, .int .u64 0, .string ⟨#[]⟩, .slice (some ⟨w2.heap.size, 0, none⟩) 1 1]) (by simp [results, Tryz.results151, go_sem, q0, q1, q2, q3, q4, q5]) rfl ?_
   refine ⟨.slice (some ⟨w2.heap.size, 0, none⟩) 1 1, rfl, ⟨_, _, rfl, by simp [promT, one, Fo.len], by decide, fun _ => ⟨w2.heap.size, 0, rfl, ⟨⟨Nat.le_trans HBB.out (Nat.le_trans (Nat.le_add_right _ 2) (Nat.le_of_eq HS2.out.symm)), _, ho6⟩, HEE.out _ (Nat.le_trans (Nat.le_add_right _ 2) (Nat.le_of_eq HS2.out.symm))⟩,
    AtF.mk (v := .slice a1 kx.len c1) (cellB (j := 0) ho6 rfl) (cellB (j := 1) ho6 rfl) (cellB (j := 2) ho6 rfl) (cellB (j := 3) ho6 rfl) (cellB (j := 4) ho6 rfl) (cellB (j := 5) ho6 rfl) (HX.out.newE HW6.out) trivial⟩⟩, HW6.out⟩
end Go.Proofs.YtjmcaceegfdkkaaGreatDoor
