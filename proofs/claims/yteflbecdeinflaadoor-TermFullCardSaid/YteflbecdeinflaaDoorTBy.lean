/-
  by: a term is made by the call of its kind, or by Make: the law's own.
-/
import Derived.Test.YteflbecdeinflaaDoorTRefP
namespace Go.Proofs.YteflbecdeinflaaDoor
open Go.RowKit Go.Maps
set_option linter.unusedVariables false

section
variable {w : World} {B a b : Nat} {v : Value} {p : Pl}
theorem MakePost.after {w0 : World} {n : Nd} {e : Ending} {w' : World} (h : IsPool w B a b v p) (h0 : Below w.heap.size w w0) (hm : MakePost w0 B a b v p n e w') : MakePost w B a b v p n e w' :=
  ⟨hm.1, Grew.after h h0 hm.2⟩
set_option maxRecDepth 100000 in
set_option maxHeartbeats 12800000 in
theorem pby_make (h : IsPool w B a b v p) (hl : Laid w) {n : Nd} (hn : NdOk n) : Calls Tryd.prog 16 #[.pointer (some ⟨a, 0, none⟩), .agg (nodeA n), .bool false] w (MakePost w B a b v p n) := by
  have bA : Below w.heap.size w (w.alloc (.cells (nodeA n) NodeT)) := (Below.refl _ _).alloc (Nat.le_refl _) _
  have hb : (w.alloc (.cells (nodeA n) NodeT)).heap[w.heap.size]? = some (Obj.cells (nodeA n) NodeT) := heap_alloc_new _ _
  have H := Lib.hid h
  have H1 := Lib.hid (h.below bA)
  have HL1 := Lib.hid (hl.below bA)
  have HA := Lib.hid bA
  have hmk := pmake (h.below bA) (hl.below bA) hn
  have HMK := Lib.hid hmk
  obtain ⟨k, f, t, u, x, y, z⟩ := n
  simp only [nodeA] at *
  have z0 : (w.alloc (.cells #[.int .i64 k, .int .i64 f, .int .i64 t, .int .u64 u, .string x, .int .i64 y, .int .i64 z] NodeT)).cell? ⟨w.heap.size, 0, none⟩ = some (.int .i64 k) := cellB hb rfl
  have z1 : (w.alloc (.cells #[.int .i64 k, .int .i64 f, .int .i64 t, .int .u64 u, .string x, .int .i64 y, .int .i64 z] NodeT)).cell? ⟨w.heap.size, 1, none⟩ = some (.int .i64 f) := cellB hb rfl
  have z2 : (w.alloc (.cells #[.int .i64 k, .int .i64 f, .int .i64 t, .int .u64 u, .string x, .int .i64 y, .int .i64 z] NodeT)).cell? ⟨w.heap.size, 2, none⟩ = some (.int .i64 t) := cellB hb rfl
  have z3 : (w.alloc (.cells #[.int .i64 k, .int .i64 f, .int .i64 t, .int .u64 u, .string x, .int .i64 y, .int .i64 z] NodeT)).cell? ⟨w.heap.size, 3, none⟩ = some (.int .u64 u) := cellB hb rfl
  have z4 : (w.alloc (.cells #[.int .i64 k, .int .i64 f, .int .i64 t, .int .u64 u, .string x, .int .i64 y, .int .i64 z] NodeT)).cell? ⟨w.heap.size, 4, none⟩ = some (.string x) := cellB hb rfl
  have z5 : (w.alloc (.cells #[.int .i64 k, .int .i64 f, .int .i64 t, .int .u64 u, .string x, .int .i64 y, .int .i64 z] NodeT)).cell? ⟨w.heap.size, 5, none⟩ = some (.int .i64 y) := cellB hb rfl
  have z6 : (w.alloc (.cells #[.int .i64 k, .int .i64 f, .int .i64 t, .int .u64 u, .string x, .int .i64 y, .int .i64 z] NodeT)).cell? ⟨w.heap.size, 6, none⟩ = some (.int .i64 z) := cellB hb rfl
  clear h hl bA hb hmk
  clear hn
  go_enter Tryd.func16, Tryd.ntmps16
  go_wp2_with fail
  refine (HMK.out).mono ?_
  rintro e w1 hm
  obtain ⟨rfl, hg⟩ := MakePost.after H.out HA.out hm
  have HG := Lib.hid hg
  clear hm hg
  go_wp2_with fail
  go_returns
  exact ⟨rfl, HG.out⟩
set_option maxRecDepth 100000 in
set_option maxHeartbeats 12800000 in
theorem pby_call (h : IsPool w B a b v p) (hl : Laid w) {n : Nd} (hn : NdOk n) : Calls Tryd.prog 16 #[.pointer (some ⟨a, 0, none⟩), .agg (nodeA n), .bool true] w (MakePost w B a b v p n) := by
  have bA : Below w.heap.size w (w.alloc (.cells (nodeA n) NodeT)) := (Below.refl _ _).alloc (Nat.le_refl _) _
  have hb : (w.alloc (.cells (nodeA n) NodeT)).heap[w.heap.size]? = some (Obj.cells (nodeA n) NodeT) := heap_alloc_new _ _
  have H := Lib.hid h
  have H1 := Lib.hid (h.below bA)
  have HL1 := Lib.hid (hl.below bA)
  have HA := Lib.hid bA
  have hmk := pmake (h.below bA) (hl.below bA) hn
  have HMK := Lib.hid hmk
  obtain ⟨k, f, t, u, x, y, z⟩ := n
  simp only [nodeA] at *
  have z0 : (w.alloc (.cells #[.int .i64 k, .int .i64 f, .int .i64 t, .int .u64 u, .string x, .int .i64 y, .int .i64 z] NodeT)).cell? ⟨w.heap.size, 0, none⟩ = some (.int .i64 k) := cellB hb rfl
  have z1 : (w.alloc (.cells #[.int .i64 k, .int .i64 f, .int .i64 t, .int .u64 u, .string x, .int .i64 y, .int .i64 z] NodeT)).cell? ⟨w.heap.size, 1, none⟩ = some (.int .i64 f) := cellB hb rfl
  have z2 : (w.alloc (.cells #[.int .i64 k, .int .i64 f, .int .i64 t, .int .u64 u, .string x, .int .i64 y, .int .i64 z] NodeT)).cell? ⟨w.heap.size, 2, none⟩ = some (.int .i64 t) := cellB hb rfl
  have z3 : (w.alloc (.cells #[.int .i64 k, .int .i64 f, .int .i64 t, .int .u64 u, .string x, .int .i64 y, .int .i64 z] NodeT)).cell? ⟨w.heap.size, 3, none⟩ = some (.int .u64 u) := cellB hb rfl
  have z4 : (w.alloc (.cells #[.int .i64 k, .int .i64 f, .int .i64 t, .int .u64 u, .string x, .int .i64 y, .int .i64 z] NodeT)).cell? ⟨w.heap.size, 4, none⟩ = some (.string x) := cellB hb rfl
  have z5 : (w.alloc (.cells #[.int .i64 k, .int .i64 f, .int .i64 t, .int .u64 u, .string x, .int .i64 y, .int .i64 z] NodeT)).cell? ⟨w.heap.size, 5, none⟩ = some (.int .i64 y) := cellB hb rfl
  have z6 : (w.alloc (.cells #[.int .i64 k, .int .i64 f, .int .i64 t, .int .u64 u, .string x, .int .i64 y, .int .i64 z] NodeT)).cell? ⟨w.heap.size, 6, none⟩ = some (.int .i64 z) := cellB hb rfl
  clear h hl bA hb hmk
  have hc1 : NdOk ⟨1, f, 0, 0, emptyS, 0, 0⟩ := ⟨(i64R_lit (by simp)), hn.frm, (i64R_lit (by simp)), (by simp), emptyS_le, (i64R_lit (by simp)), (i64R_lit (by simp))⟩
  by_cases e1 : (⟨k, f, t, u, x, y, z⟩ : Nd) = ⟨1, f, 0, 0, emptyS, 0, 0⟩
  · have q1 : ∀ W : World, (binOp .eql NodeT (.agg #[.int .i64 k, .int .i64 f, .int .i64 t, .int .u64 u, .string x, .int .i64 y, .int .i64 z]) (.agg #[.int .i64 1, .int .i64 f, .int .i64 0, .int .u64 0, .string ⟨#[]⟩, .int .i64 0, .int .i64 0])).run Tryd.prog W = .ok (.bool true) W := fun W => by
      have := eq_nodes hn hc1 W
      rw [decide_eq_true e1] at this
      exact this
    have hm := pName H1.out HL1.out f hn.frm
    rw [← e1] at hm
    have HM := Lib.hid hm
    clear hm hn hc1 e1
    go_enter Tryd.func16, Tryd.ntmps16
    go_wp2_with fail
    refine (HM.out).mono ?_
    rintro e w1 hm
    obtain ⟨rfl, hg⟩ := MakePost.after H.out HA.out hm
    have HG := Lib.hid hg
    clear hm hg
    go_wp2_with fail
    go_returns
    exact ⟨rfl, HG.out⟩
  have q1 : ∀ W : World, (binOp .eql NodeT (.agg #[.int .i64 k, .int .i64 f, .int .i64 t, .int .u64 u, .string x, .int .i64 y, .int .i64 z]) (.agg #[.int .i64 1, .int .i64 f, .int .i64 0, .int .u64 0, .string ⟨#[]⟩, .int .i64 0, .int .i64 0])).run Tryd.prog W = .ok (.bool false) W := fun W => by
    have := eq_nodes hn hc1 W
    rw [decide_eq_false e1] at this
    exact this
  clear e1
  have hc2 : NdOk ⟨2, 0, 0, u, emptyS, 0, 0⟩ := ⟨(i64R_lit (by simp)), (i64R_lit (by simp)), (i64R_lit (by simp)), hn.num, emptyS_le, (i64R_lit (by simp)), (i64R_lit (by simp))⟩
  by_cases e2 : (⟨k, f, t, u, x, y, z⟩ : Nd) = ⟨2, 0, 0, u, emptyS, 0, 0⟩
  · have q2 : ∀ W : World, (binOp .eql NodeT (.agg #[.int .i64 k, .int .i64 f, .int .i64 t, .int .u64 u, .string x, .int .i64 y, .int .i64 z]) (.agg #[.int .i64 2, .int .i64 0, .int .i64 0, .int .u64 u, .string ⟨#[]⟩, .int .i64 0, .int .i64 0])).run Tryd.prog W = .ok (.bool true) W := fun W => by
      have := eq_nodes hn hc2 W
      rw [decide_eq_true e2] at this
      exact this
    have hm := pNum H1.out HL1.out u hn.num
    rw [← e2] at hm
    have HM := Lib.hid hm
    clear hm hn hc1 hc2 e2
    go_enter Tryd.func16, Tryd.ntmps16
    go_wp2_with fail
    refine (HM.out).mono ?_
    rintro e w1 hm
    obtain ⟨rfl, hg⟩ := MakePost.after H.out HA.out hm
    have HG := Lib.hid hg
    clear hm hg
    go_wp2_with fail
    go_returns
    exact ⟨rfl, HG.out⟩
  have q2 : ∀ W : World, (binOp .eql NodeT (.agg #[.int .i64 k, .int .i64 f, .int .i64 t, .int .u64 u, .string x, .int .i64 y, .int .i64 z]) (.agg #[.int .i64 2, .int .i64 0, .int .i64 0, .int .u64 u, .string ⟨#[]⟩, .int .i64 0, .int .i64 0])).run Tryd.prog W = .ok (.bool false) W := fun W => by
    have := eq_nodes hn hc2 W
    rw [decide_eq_false e2] at this
    exact this
  clear e2
  have hc3 : NdOk ⟨3, 0, 0, 0, x, 0, 0⟩ := ⟨(i64R_lit (by simp)), (i64R_lit (by simp)), (i64R_lit (by simp)), (by simp), hn.text, (i64R_lit (by simp)), (i64R_lit (by simp))⟩
  by_cases e3 : (⟨k, f, t, u, x, y, z⟩ : Nd) = ⟨3, 0, 0, 0, x, 0, 0⟩
  · have q3 : ∀ W : World, (binOp .eql NodeT (.agg #[.int .i64 k, .int .i64 f, .int .i64 t, .int .u64 u, .string x, .int .i64 y, .int .i64 z]) (.agg #[.int .i64 3, .int .i64 0, .int .i64 0, .int .u64 0, .string x, .int .i64 0, .int .i64 0])).run Tryd.prog W = .ok (.bool true) W := fun W => by
      have := eq_nodes hn hc3 W
      rw [decide_eq_true e3] at this
      exact this
    have hm := pData H1.out HL1.out x hn.text
    rw [← e3] at hm
    have HM := Lib.hid hm
    clear hm hn hc1 hc2 hc3 e3
    go_enter Tryd.func16, Tryd.ntmps16
    go_wp2_with fail
    refine (HM.out).mono ?_
    rintro e w1 hm
    obtain ⟨rfl, hg⟩ := MakePost.after H.out HA.out hm
    have HG := Lib.hid hg
    clear hm hg
    go_wp2_with fail
    go_returns
    exact ⟨rfl, HG.out⟩
  have q3 : ∀ W : World, (binOp .eql NodeT (.agg #[.int .i64 k, .int .i64 f, .int .i64 t, .int .u64 u, .string x, .int .i64 y, .int .i64 z]) (.agg #[.int .i64 3, .int .i64 0, .int .i64 0, .int .u64 0, .string x, .int .i64 0, .int .i64 0])).run Tryd.prog W = .ok (.bool false) W := fun W => by
    have := eq_nodes hn hc3 W
    rw [decide_eq_false e3] at this
    exact this
  clear e3
  have hc4 : NdOk ⟨4, 0, 0, 0, emptyS, y, z⟩ := ⟨(i64R_lit (by simp)), (i64R_lit (by simp)), (i64R_lit (by simp)), (by simp), emptyS_le, hn.a, hn.b⟩
  by_cases e4 : (⟨k, f, t, u, x, y, z⟩ : Nd) = ⟨4, 0, 0, 0, emptyS, y, z⟩
  · have q4 : ∀ W : World, (binOp .eql NodeT (.agg #[.int .i64 k, .int .i64 f, .int .i64 t, .int .u64 u, .string x, .int .i64 y, .int .i64 z]) (.agg #[.int .i64 4, .int .i64 0, .int .i64 0, .int .u64 0, .string ⟨#[]⟩, .int .i64 y, .int .i64 z])).run Tryd.prog W = .ok (.bool true) W := fun W => by
      have := eq_nodes hn hc4 W
      rw [decide_eq_true e4] at this
      exact this
    have hm := pPair H1.out HL1.out y z ⟨hn.a, hn.b⟩
    rw [← e4] at hm
    have HM := Lib.hid hm
    clear hm hn hc1 hc2 hc3 hc4 e4
    go_enter Tryd.func16, Tryd.ntmps16
    go_wp2_with fail
    refine (HM.out).mono ?_
    rintro e w1 hm
    obtain ⟨rfl, hg⟩ := MakePost.after H.out HA.out hm
    have HG := Lib.hid hg
    clear hm hg
    go_wp2_with fail
    go_returns
    exact ⟨rfl, HG.out⟩
  have q4 : ∀ W : World, (binOp .eql NodeT (.agg #[.int .i64 k, .int .i64 f, .int .i64 t, .int .u64 u, .string x, .int .i64 y, .int .i64 z]) (.agg #[.int .i64 4, .int .i64 0, .int .i64 0, .int .u64 0, .string ⟨#[]⟩, .int .i64 y, .int .i64 z])).run Tryd.prog W = .ok (.bool false) W := fun W => by
    have := eq_nodes hn hc4 W
    rw [decide_eq_false e4] at this
    exact this
  clear e4
  have hc5 : NdOk ⟨5, 0, 0, 0, emptyS, y, 0⟩ := ⟨(i64R_lit (by simp)), (i64R_lit (by simp)), (i64R_lit (by simp)), (by simp), emptyS_le, hn.a, (i64R_lit (by simp))⟩
  by_cases e5 : (⟨k, f, t, u, x, y, z⟩ : Nd) = ⟨5, 0, 0, 0, emptyS, y, 0⟩
  · have q5 : ∀ W : World, (binOp .eql NodeT (.agg #[.int .i64 k, .int .i64 f, .int .i64 t, .int .u64 u, .string x, .int .i64 y, .int .i64 z]) (.agg #[.int .i64 5, .int .i64 0, .int .i64 0, .int .u64 0, .string ⟨#[]⟩, .int .i64 y, .int .i64 0])).run Tryd.prog W = .ok (.bool true) W := fun W => by
      have := eq_nodes hn hc5 W
      rw [decide_eq_true e5] at this
      exact this
    have hm := pHash H1.out HL1.out y hn.a
    rw [← e5] at hm
    have HM := Lib.hid hm
    clear hm hn hc1 hc2 hc3 hc4 hc5 e5
    go_enter Tryd.func16, Tryd.ntmps16
    go_wp2_with fail
    refine (HM.out).mono ?_
    rintro e w1 hm
    obtain ⟨rfl, hg⟩ := MakePost.after H.out HA.out hm
    have HG := Lib.hid hg
    clear hm hg
    go_wp2_with fail
    go_returns
    exact ⟨rfl, HG.out⟩
  have q5 : ∀ W : World, (binOp .eql NodeT (.agg #[.int .i64 k, .int .i64 f, .int .i64 t, .int .u64 u, .string x, .int .i64 y, .int .i64 z]) (.agg #[.int .i64 5, .int .i64 0, .int .i64 0, .int .u64 0, .string ⟨#[]⟩, .int .i64 y, .int .i64 0])).run Tryd.prog W = .ok (.bool false) W := fun W => by
    have := eq_nodes hn hc5 W
    rw [decide_eq_false e5] at this
    exact this
  clear e5
  have hc6 : NdOk ⟨6, f, 0, 0, emptyS, 0, 0⟩ := ⟨(i64R_lit (by simp)), hn.frm, (i64R_lit (by simp)), (by simp), emptyS_le, (i64R_lit (by simp)), (i64R_lit (by simp))⟩
  by_cases e6 : (⟨k, f, t, u, x, y, z⟩ : Nd) = ⟨6, f, 0, 0, emptyS, 0, 0⟩
  · have q6 : ∀ W : World, (binOp .eql NodeT (.agg #[.int .i64 k, .int .i64 f, .int .i64 t, .int .u64 u, .string x, .int .i64 y, .int .i64 z]) (.agg #[.int .i64 6, .int .i64 f, .int .i64 0, .int .u64 0, .string ⟨#[]⟩, .int .i64 0, .int .i64 0])).run Tryd.prog W = .ok (.bool true) W := fun W => by
      have := eq_nodes hn hc6 W
      rw [decide_eq_true e6] at this
      exact this
    have hm := pKey H1.out HL1.out f hn.frm
    rw [← e6] at hm
    have HM := Lib.hid hm
    clear hm hn hc1 hc2 hc3 hc4 hc5 hc6 e6
    go_enter Tryd.func16, Tryd.ntmps16
    go_wp2_with fail
    refine (HM.out).mono ?_
    rintro e w1 hm
    obtain ⟨rfl, hg⟩ := MakePost.after H.out HA.out hm
    have HG := Lib.hid hg
    clear hm hg
    go_wp2_with fail
    go_returns
    exact ⟨rfl, HG.out⟩
  have q6 : ∀ W : World, (binOp .eql NodeT (.agg #[.int .i64 k, .int .i64 f, .int .i64 t, .int .u64 u, .string x, .int .i64 y, .int .i64 z]) (.agg #[.int .i64 6, .int .i64 f, .int .i64 0, .int .u64 0, .string ⟨#[]⟩, .int .i64 0, .int .i64 0])).run Tryd.prog W = .ok (.bool false) W := fun W => by
    have := eq_nodes hn hc6 W
    rw [decide_eq_false e6] at this
    exact this
  clear e6
  have hc7 : NdOk ⟨7, f, 0, 0, emptyS, y, 0⟩ := ⟨(i64R_lit (by simp)), hn.frm, (i64R_lit (by simp)), (by simp), emptyS_le, hn.a, (i64R_lit (by simp))⟩
  by_cases e7 : (⟨k, f, t, u, x, y, z⟩ : Nd) = ⟨7, f, 0, 0, emptyS, y, 0⟩
  · have q7 : ∀ W : World, (binOp .eql NodeT (.agg #[.int .i64 k, .int .i64 f, .int .i64 t, .int .u64 u, .string x, .int .i64 y, .int .i64 z]) (.agg #[.int .i64 7, .int .i64 f, .int .i64 0, .int .u64 0, .string ⟨#[]⟩, .int .i64 y, .int .i64 0])).run Tryd.prog W = .ok (.bool true) W := fun W => by
      have := eq_nodes hn hc7 W
      rw [decide_eq_true e7] at this
      exact this
    have hm := pSign H1.out HL1.out f y ⟨hn.frm, hn.a⟩
    rw [← e7] at hm
    have HM := Lib.hid hm
    clear hm hn hc1 hc2 hc3 hc4 hc5 hc6 hc7 e7
    go_enter Tryd.func16, Tryd.ntmps16
    go_wp2_with fail
    refine (HM.out).mono ?_
    rintro e w1 hm
    obtain ⟨rfl, hg⟩ := MakePost.after H.out HA.out hm
    have HG := Lib.hid hg
    clear hm hg
    go_wp2_with fail
    go_returns
    exact ⟨rfl, HG.out⟩
  have q7 : ∀ W : World, (binOp .eql NodeT (.agg #[.int .i64 k, .int .i64 f, .int .i64 t, .int .u64 u, .string x, .int .i64 y, .int .i64 z]) (.agg #[.int .i64 7, .int .i64 f, .int .i64 0, .int .u64 0, .string ⟨#[]⟩, .int .i64 y, .int .i64 0])).run Tryd.prog W = .ok (.bool false) W := fun W => by
    have := eq_nodes hn hc7 W
    rw [decide_eq_false e7] at this
    exact this
  clear e7
  have hc8 : NdOk ⟨8, f, t, 0, emptyS, y, 0⟩ := ⟨(i64R_lit (by simp)), hn.frm, hn.to, (by simp), emptyS_le, hn.a, (i64R_lit (by simp))⟩
  by_cases e8 : (⟨k, f, t, u, x, y, z⟩ : Nd) = ⟨8, f, t, 0, emptyS, y, 0⟩
  · have q8 : ∀ W : World, (binOp .eql NodeT (.agg #[.int .i64 k, .int .i64 f, .int .i64 t, .int .u64 u, .string x, .int .i64 y, .int .i64 z]) (.agg #[.int .i64 8, .int .i64 f, .int .i64 t, .int .u64 0, .string ⟨#[]⟩, .int .i64 y, .int .i64 0])).run Tryd.prog W = .ok (.bool true) W := fun W => by
      have := eq_nodes hn hc8 W
      rw [decide_eq_true e8] at this
      exact this
    have hm := pProm H1.out HL1.out f t y ⟨hn.frm, hn.to, hn.a⟩
    rw [← e8] at hm
    have HM := Lib.hid hm
    clear hm hn hc1 hc2 hc3 hc4 hc5 hc6 hc7 hc8 e8
    go_enter Tryd.func16, Tryd.ntmps16
    go_wp2_with fail
    refine (HM.out).mono ?_
    rintro e w1 hm
    obtain ⟨rfl, hg⟩ := MakePost.after H.out HA.out hm
    have HG := Lib.hid hg
    clear hm hg
    go_wp2_with fail
    go_returns
    exact ⟨rfl, HG.out⟩
  have q8 : ∀ W : World, (binOp .eql NodeT (.agg #[.int .i64 k, .int .i64 f, .int .i64 t, .int .u64 u, .string x, .int .i64 y, .int .i64 z]) (.agg #[.int .i64 8, .int .i64 f, .int .i64 t, .int .u64 0, .string ⟨#[]⟩, .int .i64 y, .int .i64 0])).run Tryd.prog W = .ok (.bool false) W := fun W => by
    have := eq_nodes hn hc8 W
    rw [decide_eq_false e8] at this
    exact this
  clear e8
  have hc9 : NdOk ⟨9, f, t, 0, emptyS, y, 0⟩ := ⟨(i64R_lit (by simp)), hn.frm, hn.to, (by simp), emptyS_le, hn.a, (i64R_lit (by simp))⟩
  by_cases e9 : (⟨k, f, t, u, x, y, z⟩ : Nd) = ⟨9, f, t, 0, emptyS, y, 0⟩
  · have q9 : ∀ W : World, (binOp .eql NodeT (.agg #[.int .i64 k, .int .i64 f, .int .i64 t, .int .u64 u, .string x, .int .i64 y, .int .i64 z]) (.agg #[.int .i64 9, .int .i64 f, .int .i64 t, .int .u64 0, .string ⟨#[]⟩, .int .i64 y, .int .i64 0])).run Tryd.prog W = .ok (.bool true) W := fun W => by
      have := eq_nodes hn hc9 W
      rw [decide_eq_true e9] at this
      exact this
    have hm := pFake H1.out HL1.out f t y ⟨hn.frm, hn.to, hn.a⟩
    rw [← e9] at hm
    have HM := Lib.hid hm
    clear hm hn hc1 hc2 hc3 hc4 hc5 hc6 hc7 hc8 hc9 e9
    go_enter Tryd.func16, Tryd.ntmps16
    go_wp2_with fail
    refine (HM.out).mono ?_
    rintro e w1 hm
    obtain ⟨rfl, hg⟩ := MakePost.after H.out HA.out hm
    have HG := Lib.hid hg
    clear hm hg
    go_wp2_with fail
    go_returns
    exact ⟨rfl, HG.out⟩
  have q9 : ∀ W : World, (binOp .eql NodeT (.agg #[.int .i64 k, .int .i64 f, .int .i64 t, .int .u64 u, .string x, .int .i64 y, .int .i64 z]) (.agg #[.int .i64 9, .int .i64 f, .int .i64 t, .int .u64 0, .string ⟨#[]⟩, .int .i64 y, .int .i64 0])).run Tryd.prog W = .ok (.bool false) W := fun W => by
    have := eq_nodes hn hc9 W
    rw [decide_eq_false e9] at this
    exact this
  clear e9
  clear hn hc1 hc2 hc3 hc4 hc5 hc6 hc7 hc8 hc9
  go_enter Tryd.func16, Tryd.ntmps16
  go_wp2_with fail
  refine (HMK.out).mono ?_
  rintro e w1 hm
  obtain ⟨rfl, hg⟩ := MakePost.after H.out HA.out hm
  have HG := Lib.hid hg
  clear hm hg
  go_wp2_with fail
  go_returns
  exact ⟨rfl, HG.out⟩
theorem pby (h : IsPool w B a b v p) (hl : Laid w) {n : Nd} (hn : NdOk n) (c : Bool) : Calls Tryd.prog 16 #[.pointer (some ⟨a, 0, none⟩), .agg (nodeA n), .bool c] w (MakePost w B a b v p n) := by
  cases c
  · exact pby_make h hl hn
  · exact pby_call h hl hn
end
end Go.Proofs.YteflbecdeinflaaDoor
