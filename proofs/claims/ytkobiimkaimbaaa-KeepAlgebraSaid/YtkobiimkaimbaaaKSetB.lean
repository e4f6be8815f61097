/-
  Or, And, Minus, Has of sets in memory.
-/
import Derived.Test.YtkobiimkaimbaaaKMrg
import Derived.Test.YtkobiimkaimbaaaKSet
namespace Go.Proofs.Ytkobiimkaimbaaa
open Go.RowKit
attribute [local go_sem] Oper.semAt_some
set_option linter.unusedVariables false

theorem nilHow (w : World) : Sem.run Try.prog (binOp BinOp.eql 188 Value.nilFunc Value.nilFunc) w = .ok (.bool true) w := by kernel_rfl

set_option maxRecDepth 100000 in
set_option maxHeartbeats 1600000 in
theorem mmergeU {w : World} {p q : Option Addr} {x y : Tr Int Unit} (hx : IsTU w (.pointer p) x) (hy : IsTU w (.pointer q) y) (hs : x.size + y.size < 400000) :
    Calls Try.prog 99 #[.agg #[.pointer p], .agg #[.pointer q], .nilFunc] w fun e w' => ∃ r, e = .returned (.agg #[.pointer r]) ∧ IsTU w' (.pointer r) (Tr.merge how1 x y) ∧ Below w.heap.size w w' := by
  have b0 : Below w.heap.size w (((w.alloc (.cells #[.pointer p] 58)).alloc (.cells #[.pointer q] 58)).alloc (.cells #[.pointer none] 58)) := (((Below.refl _ _).alloc (Nat.le_refl _) _).alloc (by simp) _).alloc (by simp; omega) _
  have y0 : (((w.alloc (.cells #[.pointer p] 58)).alloc (.cells #[.pointer q] 58)).alloc (.cells #[.pointer none] 58)).heap[w.heap.size + 2]? = some (Obj.cells #[.pointer none] 58) := by
    have e : w.heap.size + 2 = ((w.alloc (.cells #[.pointer p] 58)).alloc (.cells #[.pointer q] 58)).heap.size := by simp
    rw [e]; exact heap_alloc_new _ _
  have HX := Lib.hid (cellB (j := 0) (u := .pointer none) y0 rfl)
  have HF := Lib.hid (frozenB (j := 0) y0)
  have HB := Lib.hid b0
  have HY := Lib.hid y0
  have HH := Lib.hid (hx.below b0)
  have HG := Lib.hid (hy.below b0)
  clear hx hy b0 y0
  have hn := nilHow (((w.alloc (.cells #[.pointer p] 58)).alloc (.cells #[.pointer q] 58)).alloc (.cells #[.pointer none] 58))
  go_enter Try.func99, Try.ntmps99
  go_wp2_with fail
  refine (mergeU x y _ _ _ HH.out HG.out hs).mono ?_
  rintro e w1 ⟨r, rfl, t1, u1⟩
  have x1 := bcellAt u1 HX.out
  have f1 := bfrozenAt u1 HX.out HF.out
  have HY1 := Lib.hid (Hold.below (T := 58) u1 _ _ HY.out)
  have HT := Lib.hid t1
  have HU := Lib.hid u1
  clear t1 u1
  go_wp2_with fail
  have hxs : (w1.setCell ⟨w.heap.size + 2, 0, none⟩ (.pointer r)).cell? ⟨w.heap.size + 2, 0, none⟩ = some (.pointer r) := World.cell?_setCell_same' _ _ _ (by rw [x1]; rfl)
  refine bodyPost_ret (v := .agg #[.pointer r]) (by simp [results, Try.results99, go_sem, hxs]) rfl ?_
  exact ⟨r, rfl, HT.out.hold (Hold.setCell HY1.out (by decide)), (HB.out.trans (HU.out.mono HB.out.size)).setCell (p := ⟨w.heap.size + 2, 0, none⟩) (by simp) _⟩

set_option maxRecDepth 100000 in
set_option maxHeartbeats 1600000 in
theorem sor {w : World} {p q : Option Addr} {x y : Tr Int Unit} (hx : IsTU w (.pointer p) x) (hy : IsTU w (.pointer q) y) (hs : x.size + y.size < 400000) :
    Calls Try.prog 45 #[.agg #[.pointer p], .agg #[.pointer q]] w fun e w' => ∃ r, e = .returned (.agg #[.pointer r]) ∧ IsTU w' (.pointer r) (Tr.merge how1 x y) ∧ Below w.heap.size w w' := by
  have b0 : Below w.heap.size w (((w.alloc (.cells #[.pointer p] SetT)).alloc (.cells #[.pointer q] SetT)).alloc (.cells #[.pointer none] SetT)) := (((Below.refl _ _).alloc (Nat.le_refl _) _).alloc (by simp) _).alloc (by simp; omega) _
  have y0 : (((w.alloc (.cells #[.pointer p] SetT)).alloc (.cells #[.pointer q] SetT)).alloc (.cells #[.pointer none] SetT)).heap[w.heap.size + 2]? = some (Obj.cells #[.pointer none] SetT) := by
    have e : w.heap.size + 2 = ((w.alloc (.cells #[.pointer p] SetT)).alloc (.cells #[.pointer q] SetT)).heap.size := by simp
    rw [e]; exact heap_alloc_new _ _
  have HX := Lib.hid (cellB (j := 0) (u := .pointer none) y0 rfl)
  have HF := Lib.hid (frozenB (j := 0) y0)
  have HB := Lib.hid b0
  have HY := Lib.hid y0
  have HH := Lib.hid (hx.below b0)
  have HG := Lib.hid (hy.below b0)
  clear hx hy b0 y0
  go_enter Try.func45, Try.ntmps45
  go_wp2_with fail
  refine (mmergeU HH.out HG.out hs).mono ?_
  rintro e w1 ⟨r, rfl, t1, u1⟩
  have x1 := bcellAt u1 HX.out
  have f1 := bfrozenAt u1 HX.out HF.out
  have HY1 := Lib.hid (Hold.below (T := SetT) u1 _ _ HY.out)
  have HT := Lib.hid t1
  have HU := Lib.hid u1
  clear t1 u1
  go_wp2_with fail
  have hxs : (w1.setCell ⟨w.heap.size + 2, 0, none⟩ (.pointer r)).cell? ⟨w.heap.size + 2, 0, none⟩ = some (.pointer r) := World.cell?_setCell_same' _ _ _ (by rw [x1]; rfl)
  refine bodyPost_ret (v := .agg #[.pointer r]) (by simp [results, Try.results45, go_sem, hxs]) rfl ?_
  exact ⟨r, rfl, HT.out.hold (Hold.setCell HY1.out (by decide)), (HB.out.trans (HU.out.mono HB.out.size)).setCell (p := ⟨w.heap.size + 2, 0, none⟩) (by simp) _⟩

set_option maxRecDepth 100000 in
set_option maxHeartbeats 1600000 in
theorem sand {w : World} {p q : Option Addr} {x y : Tr Int Unit} (hx : IsTU w (.pointer p) x) (hy : IsTU w (.pointer q) y) (hs : x.size + y.size < 400000) :
    Calls Try.prog 43 #[.agg #[.pointer p], .agg #[.pointer q]] w fun e w' => ∃ r, e = .returned (.agg #[.pointer r]) ∧ IsTU w' (.pointer r) (Tr.common x y) ∧ Below w.heap.size w w' := by
  have b0 : Below w.heap.size w (((w.alloc (.cells #[.pointer p] SetT)).alloc (.cells #[.pointer q] SetT)).alloc (.cells #[.pointer none] SetT)) := (((Below.refl _ _).alloc (Nat.le_refl _) _).alloc (by simp) _).alloc (by simp; omega) _
  have y0 : (((w.alloc (.cells #[.pointer p] SetT)).alloc (.cells #[.pointer q] SetT)).alloc (.cells #[.pointer none] SetT)).heap[w.heap.size + 2]? = some (Obj.cells #[.pointer none] SetT) := by
    have e : w.heap.size + 2 = ((w.alloc (.cells #[.pointer p] SetT)).alloc (.cells #[.pointer q] SetT)).heap.size := by simp
    rw [e]; exact heap_alloc_new _ _
  have HX := Lib.hid (cellB (j := 0) (u := .pointer none) y0 rfl)
  have HF := Lib.hid (frozenB (j := 0) y0)
  have HB := Lib.hid b0
  have HY := Lib.hid y0
  have HH := Lib.hid (hx.below b0)
  have HG := Lib.hid (hy.below b0)
  clear hx hy b0 y0
  go_enter Try.func43, Try.ntmps43
  go_wp2_with fail
  refine (commonU x y _ _ _ HH.out HG.out (by omega)).mono ?_
  rintro e w1 ⟨r, rfl, t1, u1⟩
  have x1 := bcellAt u1 HX.out
  have f1 := bfrozenAt u1 HX.out HF.out
  have HY1 := Lib.hid (Hold.below (T := SetT) u1 _ _ HY.out)
  have HT := Lib.hid t1
  have HU := Lib.hid u1
  clear t1 u1
  go_wp2_with fail
  have hxs : (w1.setCell ⟨w.heap.size + 2, 0, none⟩ (.pointer r)).cell? ⟨w.heap.size + 2, 0, none⟩ = some (.pointer r) := World.cell?_setCell_same' _ _ _ (by rw [x1]; rfl)
  refine bodyPost_ret (v := .agg #[.pointer r]) (by simp [results, Try.results43, go_sem, hxs]) rfl ?_
  exact ⟨r, rfl, HT.out.hold (Hold.setCell HY1.out (by decide)), (HB.out.trans (HU.out.mono HB.out.size)).setCell (p := ⟨w.heap.size + 2, 0, none⟩) (by simp) _⟩

set_option maxRecDepth 100000 in
set_option maxHeartbeats 1600000 in
theorem sminus {w : World} {p q : Option Addr} {x y : Tr Int Unit} (hx : IsTU w (.pointer p) x) (hy : IsTU w (.pointer q) y) (hs : x.size + y.size < 400000) :
    Calls Try.prog 44 #[.agg #[.pointer p], .agg #[.pointer q]] w fun e w' => ∃ r, e = .returned (.agg #[.pointer r]) ∧ IsTU w' (.pointer r) (Tr.minus x y) ∧ Below w.heap.size w w' := by
  have b0 : Below w.heap.size w (((w.alloc (.cells #[.pointer p] SetT)).alloc (.cells #[.pointer q] SetT)).alloc (.cells #[.pointer none] SetT)) := (((Below.refl _ _).alloc (Nat.le_refl _) _).alloc (by simp) _).alloc (by simp; omega) _
  have y0 : (((w.alloc (.cells #[.pointer p] SetT)).alloc (.cells #[.pointer q] SetT)).alloc (.cells #[.pointer none] SetT)).heap[w.heap.size + 2]? = some (Obj.cells #[.pointer none] SetT) := by
    have e : w.heap.size + 2 = ((w.alloc (.cells #[.pointer p] SetT)).alloc (.cells #[.pointer q] SetT)).heap.size := by simp
    rw [e]; exact heap_alloc_new _ _
  have HX := Lib.hid (cellB (j := 0) (u := .pointer none) y0 rfl)
  have HF := Lib.hid (frozenB (j := 0) y0)
  have HB := Lib.hid b0
  have HY := Lib.hid y0
  have HH := Lib.hid (hx.below b0)
  have HG := Lib.hid (hy.below b0)
  clear hx hy b0 y0
  go_enter Try.func44, Try.ntmps44
  go_wp2_with fail
  refine (minusU x y _ _ _ HH.out HG.out (by omega)).mono ?_
  rintro e w1 ⟨r, rfl, t1, u1⟩
  have x1 := bcellAt u1 HX.out
  have f1 := bfrozenAt u1 HX.out HF.out
  have HY1 := Lib.hid (Hold.below (T := SetT) u1 _ _ HY.out)
  have HT := Lib.hid t1
  have HU := Lib.hid u1
  clear t1 u1
  go_wp2_with fail
  have hxs : (w1.setCell ⟨w.heap.size + 2, 0, none⟩ (.pointer r)).cell? ⟨w.heap.size + 2, 0, none⟩ = some (.pointer r) := World.cell?_setCell_same' _ _ _ (by rw [x1]; rfl)
  refine bodyPost_ret (v := .agg #[.pointer r]) (by simp [results, Try.results44, go_sem, hxs]) rfl ?_
  exact ⟨r, rfl, HT.out.hold (Hold.setCell HY1.out (by decide)), (HB.out.trans (HU.out.mono HB.out.size)).setCell (p := ⟨w.heap.size + 2, 0, none⟩) (by simp) _⟩


/-- What told answers. -/
def toldVU : Tr Int Unit → Value
  | .nil => .tuple #[.int .i64 0, .agg #[], .bool false]
  | .node _ k _ _ => .tuple #[.int .i64 k, .agg #[], .bool true]
set_option maxRecDepth 100000 in
set_option maxHeartbeats 3200000 in
theorem toldU {w : World} {v : Value} {t : Tr Int Unit} (h : IsTU w v t) : Calls Try.prog 122 #[v] w fun e w' => e = .returned (toldVU t) ∧ Below w.heap.size w w' := by
  cases t with
  | nil =>
    obtain rfl := h
    have hb0 : Below w.heap.size w ((w.alloc (.cells #[] 128)).alloc (.cells #[.int .i64 0] 182)) := ((Below.refl _ _).alloc (Nat.le_refl _) _).alloc (by simp) _
    have hE : ((w.alloc (.cells #[] 128)).alloc (.cells #[.int .i64 0] 182)).heap[w.heap.size + 1]? = some (Obj.cells #[.int .i64 0] 182) := by
      have e : w.heap.size + 1 = (w.alloc (.cells #[] 128)).heap.size := by simp
      rw [e]; exact heap_alloc_new _ _
    have HE := Lib.hid hE
    have HB := Lib.hid hb0
    clear hE hb0
    go_enter Try.func122, Try.ntmps122
    go_wp2_with fail
    generalize ((w.alloc (.cells #[] 128)).alloc (.cells #[.int .i64 0] 182)) = W at *
    refine lex_start [0, 1, 2, 3, 4, 5, 6] (S := fun X => Below W.heap.size W X) (by kernel_rfl) (bd _) (fun hS => ?_)
    simp only [inOrder, List.filterMap, List.getElem?_cons_succ, List.getElem?_cons_zero]
    refine lex_take (i := 0) (v := ?_) rfl (by kernel_rfl) (by kernel_rfl) (by kernel_rfl) (by rfl) hS ?_ ?_
    rotate_left
    · ((intro X hX; have p3 := partEU (Hold.below hX _ _ HE.out); have p4 := cellB (j := 0) (u := .int .i64 0) (Hold.below hX _ _ HE.out) rfl; clear hX; go_simp) <;> with_reducible rfl)
    simp only [Act.put, List.setIfInBounds_toArray, List.set_cons_zero, List.set_cons_succ]
    refine lex_take (i := 1) (v := ?_) rfl (by kernel_rfl) (by kernel_rfl) (by kernel_rfl) (by rfl) hS ?_ ?_
    rotate_left
    · ((intro X hX; have p3 := partEU (Hold.below hX _ _ HE.out); have p4 := cellB (j := 0) (u := .int .i64 0) (Hold.below hX _ _ HE.out) rfl; clear hX; go_simp) <;> with_reducible rfl)
    simp only [Act.put, List.setIfInBounds_toArray, List.set_cons_zero, List.set_cons_succ]
    refine lex_take (i := 2) (v := ?_) rfl (by kernel_rfl) (by kernel_rfl) (by kernel_rfl) (by rfl) hS ?_ ?_
    rotate_left
    · ((intro X hX; have p3 := partEU (Hold.below hX _ _ HE.out); have p4 := cellB (j := 0) (u := .int .i64 0) (Hold.below hX _ _ HE.out) rfl; clear hX; go_simp) <;> with_reducible rfl)
    simp only [Act.put, List.setIfInBounds_toArray, List.set_cons_zero, List.set_cons_succ]
    refine lex_take (i := 3) (v := ?_) rfl (by kernel_rfl) (by kernel_rfl) (by kernel_rfl) (by rfl) hS ?_ ?_
    rotate_left
    · ((intro X hX; have p3 := partEU (Hold.below hX _ _ HE.out); have p4 := cellB (j := 0) (u := .int .i64 0) (Hold.below hX _ _ HE.out) rfl; clear hX; go_simp) <;> with_reducible rfl)
    simp only [Act.put, List.setIfInBounds_toArray, List.set_cons_zero, List.set_cons_succ]
    refine lex_do (i := 4) rfl (by kernel_rfl) (by rfl) (fun K hK => ?_)
    go_simp
    refine hK _ _ ⟨hS, ?_⟩
    clear hK K
    refine lex_do (i := 5) rfl (by kernel_rfl) (by rfl) (fun K hK => ?_)
    go_simp
    refine hK _ _ ⟨hS, ?_⟩
    clear hK K
    refine lex_do (i := 6) rfl (by kernel_rfl) (by rfl) (fun K hK => ?_)
    go_simp
    refine hK _ _ ⟨hS, ?_⟩
    clear hK K
    refine lex_done (by kernel_rfl) ?_
    go_wp2_with fail
    refine bodyPost_ret (v := .tuple #[.int .i64 0, .agg #[], .bool false]) (by simp [results, Try.results122, go_sem]) rfl ⟨rfl, HB.out.trans ((bd _).mono HB.out.size)⟩
  | node l k x r =>
    obtain ⟨b, pl, pr, rfl, hb, _, _⟩ := h
    have hb0 : Below w.heap.size w (w.alloc (.cells #[] 128)) := (Below.refl _ _).alloc (Nat.le_refl _) _
    have HE := Lib.hid (Hold.below hb0 _ _ hb)
    have HB := Lib.hid hb0
    clear hb hb0
    go_enter Try.func122, Try.ntmps122
    go_wp2_with fail
    generalize (w.alloc (.cells #[] 128)) = W at *
    refine lex_start [0, 1, 2, 3, 4, 5, 6, 7, 8, 9, 10, 11, 12] (S := fun X => Below W.heap.size W X) (by kernel_rfl) (bd _) (fun hS => ?_)
    simp only [inOrder, List.filterMap, List.getElem?_cons_succ, List.getElem?_cons_zero]
    refine lex_take (i := 0) (v := ?_) rfl (by kernel_rfl) (by kernel_rfl) (by kernel_rfl) (by rfl) hS ?_ ?_
    rotate_left
    · ((intro X hX; have p3 := partU (Hold.below hX _ _ HE.out); have p4 := cellB (j := 0) (u := .int .i64 k) (Hold.below hX _ _ HE.out) rfl; clear hX; go_simp) <;> with_reducible rfl)
    simp only [Act.put, List.setIfInBounds_toArray, List.set_cons_zero, List.set_cons_succ]
    refine lex_take (i := 1) (v := ?_) rfl (by kernel_rfl) (by kernel_rfl) (by kernel_rfl) (by rfl) hS ?_ ?_
    rotate_left
    · ((intro X hX; have p3 := partU (Hold.below hX _ _ HE.out); have p4 := cellB (j := 0) (u := .int .i64 k) (Hold.below hX _ _ HE.out) rfl; clear hX; go_simp) <;> with_reducible rfl)
    simp only [Act.put, List.setIfInBounds_toArray, List.set_cons_zero, List.set_cons_succ]
    refine lex_take (i := 2) (v := ?_) rfl (by kernel_rfl) (by kernel_rfl) (by kernel_rfl) (by rfl) hS ?_ ?_
    rotate_left
    · ((intro X hX; have p3 := partU (Hold.below hX _ _ HE.out); have p4 := cellB (j := 0) (u := .int .i64 k) (Hold.below hX _ _ HE.out) rfl; clear hX; go_simp) <;> with_reducible rfl)
    simp only [Act.put, List.setIfInBounds_toArray, List.set_cons_zero, List.set_cons_succ]
    refine lex_take (i := 3) (v := ?_) rfl (by kernel_rfl) (by kernel_rfl) (by kernel_rfl) (by rfl) hS ?_ ?_
    rotate_left
    · ((intro X hX; have p3 := partU (Hold.below hX _ _ HE.out); have p4 := cellB (j := 0) (u := .int .i64 k) (Hold.below hX _ _ HE.out) rfl; clear hX; go_simp) <;> with_reducible rfl)
    simp only [Act.put, List.setIfInBounds_toArray, List.set_cons_zero, List.set_cons_succ]
    refine lex_take (i := 4) (v := ?_) rfl (by kernel_rfl) (by kernel_rfl) (by kernel_rfl) (by rfl) hS ?_ ?_
    rotate_left
    · ((intro X hX; have p3 := partU (Hold.below hX _ _ HE.out); have p4 := cellB (j := 0) (u := .int .i64 k) (Hold.below hX _ _ HE.out) rfl; clear hX; go_simp) <;> with_reducible rfl)
    simp only [Act.put, List.setIfInBounds_toArray, List.set_cons_zero, List.set_cons_succ]
    refine lex_take (i := 5) (v := ?_) rfl (by kernel_rfl) (by kernel_rfl) (by kernel_rfl) (by rfl) hS ?_ ?_
    rotate_left
    · ((intro X hX; have p3 := partU (Hold.below hX _ _ HE.out); have p4 := cellB (j := 0) (u := .int .i64 k) (Hold.below hX _ _ HE.out) rfl; clear hX; go_simp) <;> with_reducible rfl)
    simp only [Act.put, List.setIfInBounds_toArray, List.set_cons_zero, List.set_cons_succ]
    refine lex_take (i := 6) (v := ?_) rfl (by kernel_rfl) (by kernel_rfl) (by kernel_rfl) (by rfl) hS ?_ ?_
    rotate_left
    · ((intro X hX; have p3 := partU (Hold.below hX _ _ HE.out); have p4 := cellB (j := 0) (u := .int .i64 k) (Hold.below hX _ _ HE.out) rfl; clear hX; go_simp) <;> with_reducible rfl)
    simp only [Act.put, List.setIfInBounds_toArray, List.set_cons_zero, List.set_cons_succ]
    refine lex_take (i := 7) (v := ?_) rfl (by kernel_rfl) (by kernel_rfl) (by kernel_rfl) (by rfl) hS ?_ ?_
    rotate_left
    · ((intro X hX; have p3 := partU (Hold.below hX _ _ HE.out); have p4 := cellB (j := 0) (u := .int .i64 k) (Hold.below hX _ _ HE.out) rfl; clear hX; go_simp) <;> with_reducible rfl)
    simp only [Act.put, List.setIfInBounds_toArray, List.set_cons_zero, List.set_cons_succ]
    refine lex_take (i := 8) (v := ?_) rfl (by kernel_rfl) (by kernel_rfl) (by kernel_rfl) (by rfl) hS ?_ ?_
    rotate_left
    · ((intro X hX; have p3 := partU (Hold.below hX _ _ HE.out); have p4 := cellB (j := 0) (u := .int .i64 k) (Hold.below hX _ _ HE.out) rfl; clear hX; go_simp) <;> with_reducible rfl)
    simp only [Act.put, List.setIfInBounds_toArray, List.set_cons_zero, List.set_cons_succ]
    refine lex_take (i := 9) (v := ?_) rfl (by kernel_rfl) (by kernel_rfl) (by kernel_rfl) (by rfl) hS ?_ ?_
    rotate_left
    · ((intro X hX; have p3 := partU (Hold.below hX _ _ HE.out); have p4 := cellB (j := 0) (u := .int .i64 k) (Hold.below hX _ _ HE.out) rfl; clear hX; go_simp) <;> with_reducible rfl)
    simp only [Act.put, List.setIfInBounds_toArray, List.set_cons_zero, List.set_cons_succ]
    refine lex_do (i := 10) rfl (by kernel_rfl) (by rfl) (fun K hK => ?_)
    go_simp
    refine hK _ _ ⟨hS, ?_⟩
    clear hK K
    refine lex_do (i := 11) rfl (by kernel_rfl) (by rfl) (fun K hK => ?_)
    go_simp
    refine hK _ _ ⟨hS, ?_⟩
    clear hK K
    refine lex_do (i := 12) rfl (by kernel_rfl) (by rfl) (fun K hK => ?_)
    go_simp
    refine hK _ _ ⟨hS, ?_⟩
    clear hK K
    refine lex_done (by kernel_rfl) ?_
    go_wp2_with fail
    refine bodyPost_ret (v := .tuple #[.int .i64 k, .agg #[], .bool true]) (by simp [results, Try.results122, go_sem]) rfl ⟨rfl, HB.out.trans ((bd _).mono HB.out.size)⟩

end Go.Proofs.Ytkobiimkaimbaaa
