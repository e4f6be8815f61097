/-
  A heap in memory: Pop of an empty heap; R.Least of a list.
-/
import Derived.Test.YtmbaedldikobcaaKHeapX
namespace Go.Proofs.Ytmbaedldikobcaa
open Go.RowKit
set_option linter.unusedVariables false

set_option maxHeartbeats 1600000 in
theorem pop_no {w : World} {B hb fl : Nat} {v : Value} {t : Int} (h : IsHp w B hb fl v [] t) :
    Calls Try.prog 53 #[.pointer (some ⟨hb, 0, none⟩)] w fun e w' => e = .returned (.tuple #[thV 0 0, .bool false]) ∧ Below w.heap.size w w' := by
  have H := Lib.hid h
  have bA : Below w.heap.size w (w.alloc (.cells #[.int .i64 0, .int .i64 0] ThT)) := (Below.refl _ _).alloc (Nat.le_refl _) _
  have HA : Hid (IsHp (w.alloc (.cells #[.int .i64 0, .int .i64 0] ThT)) B hb fl v [] t) := Lib.hid ⟨(Hold.below bA) _ _ h.lay, own_hold h.row (Hold.below bA), h.gb⟩
  have HPK := Lib.hid (peek_no HA.out)
  have HRA : Hid ((w.alloc (.cells #[.int .i64 0, .int .i64 0] ThT)).heap[w.heap.size]? = some (Obj.cells #[.int .i64 0, .int .i64 0] ThT)) := Lib.hid (heap_alloc_new _ _)
  have HBA := Lib.hid bA
  clear h bA
  go_enter Try.func53, Try.ntmps53
  go_wp2_with fail
  refine HPK.out.mono ?_
  rintro e w1 ⟨rfl, u1⟩
  have hs1 : w.heap.size < w1.heap.size := by have := u1.size; simp at this; omega
  have hb1 := bmore HBA.out u1
  have hr1 := (Hold.below u1) _ _ HRA.out
  have c0 := cellB (j := 0) hr1 rfl
  have c1 := cellB (j := 1) hr1 rfl
  have f0 := frozenB (j := 0) hr1
  have f1 := frozenB (j := 1) hr1
  have HB1 := Lib.hid hb1
  have HS1 := Lib.hid hs1
  have HR1 := Lib.hid hr1
  clear u1 hb1 hr1
  go_wp2_with fail
  have y0 : (w1.setCell ⟨w.heap.size, 0, none⟩ (.int .i64 0)).cell? ⟨w.heap.size, 0, none⟩ = some (.int .i64 0) := cellB (setCellB HR1.out) rfl
  have y1 : ((w1.setCell ⟨w.heap.size, 0, none⟩ (.int .i64 0)).setCell ⟨w.heap.size, 1, none⟩ (.int .i64 0)).cell? ⟨w.heap.size, 1, none⟩ = some (.int .i64 0) := cellB (setCellB (setCellB HR1.out)) rfl
  have y2 : ((w1.setCell ⟨w.heap.size, 0, none⟩ (.int .i64 0)).setCell ⟨w.heap.size, 1, none⟩ (.int .i64 0)).cell? ⟨w.heap.size, 0, none⟩ = some (.int .i64 0) := cellB (setCellB (setCellB HR1.out)) rfl
  have x0 : (((w1.setCell ⟨w.heap.size, 0, none⟩ (.int .i64 0)).setCell ⟨w.heap.size, 1, none⟩ (.int .i64 0)).alloc (.cells #[.int .i64 0, .int .i64 0] ThT)).cell? ⟨w.heap.size, 0, none⟩ = some (.int .i64 0) := bcellAt ((Below.refl _ _).alloc (Nat.le_refl _) _) y2
  have x1 : (((w1.setCell ⟨w.heap.size, 0, none⟩ (.int .i64 0)).setCell ⟨w.heap.size, 1, none⟩ (.int .i64 0)).alloc (.cells #[.int .i64 0, .int .i64 0] ThT)).cell? ⟨w.heap.size, 1, none⟩ = some (.int .i64 0) := bcellAt ((Below.refl _ _).alloc (Nat.le_refl _) _) y1
  refine bodyPost_ret (v := .tuple #[thV 0 0, .bool false]) (by simp [results, Try.results53, go_sem, x0, x1]) rfl ⟨rfl, ?_⟩
  exact ((HB1.out.setCell (p := ⟨w.heap.size, 0, none⟩) (Nat.le_refl _) _).setCell (p := ⟨w.heap.size, 1, none⟩) (Nat.le_refl _) _).alloc (by simp; omega) _
end Go.Proofs.Ytmbaedldikobcaa
