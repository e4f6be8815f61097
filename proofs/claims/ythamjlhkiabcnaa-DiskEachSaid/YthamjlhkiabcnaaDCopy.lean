/-
  What Copy does.
-/
import Derived.Test.YthamjlhkiabcnaaDChain
import Derived.Test.YthamjlhkiabcnaaDRest
namespace Go.Proofs.Ythamjlhkiabcnaa
open Go.RowKit

section
variable {w : World} {B a : Nat} {S : Nat → Prop} {d : Dk}

set_option maxHeartbeats 1600000 in
theorem copy_any (h : IsDisk w B a S d) (hB : B ≤ w.heap.size) : Calls Try.prog 35 #[.pointer (some ⟨a, 0, none⟩)] w (NewDisk w B d id) := by
  obtain ⟨⟨fv, bv, lv, h⟩, g⟩ := h
  have c0 := h.c0
  have c1 := h.c1
  have c2 := h.c2
  have c3 := (two_cells h.block).1
  have c4 := (two_cells h.block).2
  obtain ⟨fa, fc, rfl⟩ := h.rfi.shape
  obtain ⟨ba, bc, rfl⟩ := h.rnow.shape
  obtain ⟨la, lc, rfl⟩ := h.rlog.shape
  have H := Lib.hid h
  have hle := g.le
  have hfl := g.logLen
  have hff : d.first.length ≤ 4096 := by rw [g.flen]; exact g.le
  have HG := Lib.hid g
  clear h g
  go_enter Try.func35, Try.ntmps35
  go_wp2_with fail
  clear c0 c1 c2 c3 c4
  have hb0 : Below w.heap.size w (w.alloc (.cells #[.slice fa d.first.length fc, .slice ba d.now.length bc, .slice la d.log.length lc, .bool d.dead, .int .i64 d.left] 80)) := (Below.refl _ _).alloc (Nat.le_refl _) _
  have hn0 := heap_alloc_new w (.cells #[.slice fa d.first.length fc, .slice ba d.now.length bc, .slice la d.log.length lc, .bool d.dead, .int .i64 d.left] 80)
  have hz0 : w.heap.size < (w.alloc (.cells #[.slice fa d.first.length fc, .slice ba d.now.length bc, .slice la d.log.length lc, .bool d.dead, .int .i64 d.left] 80)).heap.size := by simp
  generalize (w.alloc (.cells #[.slice fa d.first.length fc, .slice ba d.now.length bc, .slice la d.log.length lc, .bool d.dead, .int .i64 d.left] 80)) = w0 at *
  have H0 := H.out
  have c0 := H0.c0
  have c1 := H0.c1
  have c2 := H0.c2
  refine lex_start [0, 1, 2, 3, 5, 6, 7, 8, 10, 11, 12, 13, 4, 9, 14, 15, 16, 17, 18, 19, 20] (S := fun W => Stay w W) (by kernel_rfl) hb0.drew (fun hS => ?_)
  simp only [inOrder, List.filterMap, List.getElem?_cons_succ, List.getElem?_cons_zero]
  refine lex_take (i := 0) (v := ?_) rfl (by kernel_rfl) (by kernel_rfl) (by kernel_rfl) (by rfl) hS ?_ ?_
  rotate_left
  · ((intro W hW; go_simp) <;> with_reducible rfl)
  simp only [Act.put, List.setIfInBounds_toArray, List.set_cons_zero, List.set_cons_succ]
  refine lex_take (i := 1) (v := ?_) rfl (by kernel_rfl) (by kernel_rfl) (by kernel_rfl) (by rfl) hS ?_ ?_
  rotate_left
  · ((intro W hW; go_simp) <;> with_reducible rfl)
  simp only [Act.put, List.setIfInBounds_toArray, List.set_cons_zero, List.set_cons_succ]
  refine lex_take (i := 2) (v := ?_) rfl (by kernel_rfl) (by kernel_rfl) (by kernel_rfl) (by rfl) hS ?_ ?_
  rotate_left
  · ((intro W hW; go_simp) <;> with_reducible rfl)
  simp only [Act.put, List.setIfInBounds_toArray, List.set_cons_zero, List.set_cons_succ]
  refine lex_take (i := 3) (v := ?_) rfl (by kernel_rfl) (by kernel_rfl) (by kernel_rfl) (by rfl) hS ?_ ?_
  rotate_left
  · ((intro W hW; have k0 := cell_later hW c0; have k1 := cell_later hW c1; have k2 := cell_later hW c2; go_simp) <;> with_reducible rfl)
  simp only [Act.put, List.setIfInBounds_toArray, List.set_cons_zero, List.set_cons_succ]
  refine lex_take (i := 5) (v := ?_) rfl (by kernel_rfl) (by kernel_rfl) (by kernel_rfl) (by rfl) hS ?_ ?_
  rotate_left
  · ((intro W hW; go_simp) <;> with_reducible rfl)
  simp only [Act.put, List.setIfInBounds_toArray, List.set_cons_zero, List.set_cons_succ]
  refine lex_take (i := 6) (v := ?_) rfl (by kernel_rfl) (by kernel_rfl) (by kernel_rfl) (by rfl) hS ?_ ?_
  rotate_left
  · ((intro W hW; go_simp) <;> with_reducible rfl)
  simp only [Act.put, List.setIfInBounds_toArray, List.set_cons_zero, List.set_cons_succ]
  refine lex_take (i := 7) (v := ?_) rfl (by kernel_rfl) (by kernel_rfl) (by kernel_rfl) (by rfl) hS ?_ ?_
  rotate_left
  · ((intro W hW; go_simp) <;> with_reducible rfl)
  simp only [Act.put, List.setIfInBounds_toArray, List.set_cons_zero, List.set_cons_succ]
  refine lex_take (i := 8) (v := ?_) rfl (by kernel_rfl) (by kernel_rfl) (by kernel_rfl) (by rfl) hS ?_ ?_
  rotate_left
  · ((intro W hW; have k0 := cell_later hW c0; have k1 := cell_later hW c1; have k2 := cell_later hW c2; go_simp) <;> with_reducible rfl)
  simp only [Act.put, List.setIfInBounds_toArray, List.set_cons_zero, List.set_cons_succ]
  refine lex_take (i := 10) (v := ?_) rfl (by kernel_rfl) (by kernel_rfl) (by kernel_rfl) (by rfl) hS ?_ ?_
  rotate_left
  · ((intro W hW; go_simp) <;> with_reducible rfl)
  simp only [Act.put, List.setIfInBounds_toArray, List.set_cons_zero, List.set_cons_succ]
  refine lex_take (i := 11) (v := ?_) rfl (by kernel_rfl) (by kernel_rfl) (by kernel_rfl) (by rfl) hS ?_ ?_
  rotate_left
  · ((intro W hW; go_simp) <;> with_reducible rfl)
  simp only [Act.put, List.setIfInBounds_toArray, List.set_cons_zero, List.set_cons_succ]
  refine lex_take (i := 12) (v := ?_) rfl (by kernel_rfl) (by kernel_rfl) (by kernel_rfl) (by rfl) hS ?_ ?_
  rotate_left
  · ((intro W hW; go_simp) <;> with_reducible rfl)
  simp only [Act.put, List.setIfInBounds_toArray, List.set_cons_zero, List.set_cons_succ]
  refine lex_take (i := 13) (v := ?_) rfl (by kernel_rfl) (by kernel_rfl) (by kernel_rfl) (by rfl) hS ?_ ?_
  rotate_left
  · ((intro W hW; have k0 := cell_later hW c0; have k1 := cell_later hW c1; have k2 := cell_later hW c2; go_simp) <;> with_reducible rfl)
  simp only [Act.put, List.setIfInBounds_toArray, List.set_cons_zero, List.set_cons_succ]
  refine lex_call (i := 4) rfl (by kernel_rfl) (by rfl) ?_ _ (cloneS_any (H0.rfi.below hS) (by omega)) ?_
  · go_simp
  rintro e w1 ⟨v1, rfl, o1, b1⟩
  have hS1 : Stay w w1 := Stay.more hS b1
  refine ⟨_, rfl, fun W => Stay w W, fun W h => h, hS1, ?_⟩
  simp only [Act.put, List.setIfInBounds_toArray, List.set_cons_zero, List.set_cons_succ]
  refine lex_call (i := 9) rfl (by kernel_rfl) (by rfl) ?_ _ (cloneS_any (H0.rnow.below hS1) (by omega)) ?_
  · go_simp
  rintro e w2 ⟨v2, rfl, o2, b2⟩
  have hS2 : Stay w w2 := Stay.more hS1 b2
  refine ⟨_, rfl, fun W => Stay w W, fun W h => h, hS2, ?_⟩
  simp only [Act.put, List.setIfInBounds_toArray, List.set_cons_zero, List.set_cons_succ]
  refine lex_call (i := 14) rfl (by kernel_rfl) (by rfl) ?_ _ (cloneW_any (H0.rlog.below hS2) (by omega)) ?_
  · go_simp
  rintro e w3 ⟨v3, rfl, o3, b3⟩
  have hS3 : Stay w w3 := Stay.more hS2 b3
  refine ⟨_, rfl, fun W => Stay w W, fun W h => h, hS3, ?_⟩
  simp only [Act.put, List.setIfInBounds_toArray, List.set_cons_zero, List.set_cons_succ]
  obtain ⟨a1, e1, rfl⟩ := (row_of_own o1).shape
  obtain ⟨a2, e2, rfl⟩ := (row_of_own o2).shape
  obtain ⟨a3, e3, rfl⟩ := (row_of_own o3).shape
  have hN1 : w1.heap[w.heap.size]? = _ := (b1.block w.heap.size hz0).trans hn0
  have hN2 : w2.heap[w.heap.size]? = _ := (b2.block w.heap.size (by have : w0.heap.size ≤ w1.heap.size := b1.size; omega)).trans hN1
  have hN3 : w3.heap[w.heap.size]? = _ := (b3.block w.heap.size (by have : w0.heap.size ≤ w1.heap.size := b1.size; have := b2.size; omega)).trans hN2
  clear hN1 hN2
  have n0 : w3.cell? ⟨w.heap.size, 0, none⟩ = some (.slice fa d.first.length fc) := by simp [World.cell?, hN3]
  have n1 : w3.cell? ⟨w.heap.size, 1, none⟩ = some (.slice ba d.now.length bc) := by simp [World.cell?, hN3]
  have n2 : w3.cell? ⟨w.heap.size, 2, none⟩ = some (.slice la d.log.length lc) := by simp [World.cell?, hN3]
  have nf : ∀ o, w3.frozen? ⟨w.heap.size, o, none⟩ = false := fun o => by simp [World.frozen?, hN3]
  have HO := Lib.hid (And.intro o1 (And.intro o2 o3))
  have HB := Lib.hid (And.intro b1 (And.intro b2 b3))
  have HN := Lib.hid hN3
  have hS4 : Stay w (w3.setCell ⟨w.heap.size, 0, none⟩ (.slice a1 d.first.length e1)) := Below.setCell hS3 (Nat.le_refl _) _
  have hS5 : Stay w ((w3.setCell ⟨w.heap.size, 0, none⟩ (.slice a1 d.first.length e1)).setCell ⟨w.heap.size, 1, none⟩ (.slice a2 d.now.length e2)) := Below.setCell hS4 (Nat.le_refl _) _
  have hS6 : Stay w (((w3.setCell ⟨w.heap.size, 0, none⟩ (.slice a1 d.first.length e1)).setCell ⟨w.heap.size, 1, none⟩ (.slice a2 d.now.length e2)).setCell ⟨w.heap.size, 2, none⟩ (.slice a3 d.log.length e3)) := Below.setCell hS5 (Nat.le_refl _) _
  clear o1 o2 o3 b1 b2 b3 hN3 hn0
  refine lex_take (i := 15) (v := ?_) rfl (by kernel_rfl) (by kernel_rfl) (by kernel_rfl) (by rfl) hS3 ?_ ?_
  rotate_left
  · ((intro W hW; go_simp) <;> with_reducible rfl)
  simp only [Act.put, List.setIfInBounds_toArray, List.set_cons_zero, List.set_cons_succ]
  refine lex_do (i := 16) rfl (by kernel_rfl) (by rfl) (fun K hK => ?_)
  go_simp
  refine hK _ _ ⟨hS4, ?_⟩
  clear hK K
  refine lex_take (i := 17) (v := ?_) rfl (by kernel_rfl) (by kernel_rfl) (by kernel_rfl) (by rfl) hS4 ?_ ?_
  rotate_left
  · ((intro W hW; go_simp) <;> with_reducible rfl)
  simp only [Act.put, List.setIfInBounds_toArray, List.set_cons_zero, List.set_cons_succ]
  refine lex_do (i := 18) rfl (by kernel_rfl) (by rfl) (fun K hK => ?_)
  go_simp
  refine hK _ _ ⟨hS5, ?_⟩
  clear hK K
  refine lex_take (i := 19) (v := ?_) rfl (by kernel_rfl) (by kernel_rfl) (by kernel_rfl) (by rfl) hS5 ?_ ?_
  rotate_left
  · ((intro W hW; go_simp) <;> with_reducible rfl)
  simp only [Act.put, List.setIfInBounds_toArray, List.set_cons_zero, List.set_cons_succ]
  refine lex_do (i := 20) rfl (by kernel_rfl) (by rfl) (fun K hK => ?_)
  go_simp
  refine hK _ _ ⟨hS6, ?_⟩
  clear hK K
  refine lex_done (by kernel_rfl) ?_
  go_wp2_with fail
  go_ret
  obtain ⟨o1, o2, o3⟩ := HO.out
  obtain ⟨b1, b2, b3⟩ := HB.out
  obtain ⟨S', k1, k2⟩ := IsObj.copied (B := B) (tail := [.bool d.dead, .int .i64 d.left]) o1 b1 o2 b2 o3 b3 (n0 := w.heap.size) hz0 hB HN.out
  refine ⟨w.heap.size, S', rfl, ⟨⟨_, _, _, k1⟩, HG.out⟩, fun k hk => ?_, hS6⟩
  rcases k2 k hk with e | e
  · omega
  · exact Nat.le_trans (Nat.le_of_lt hz0) e
end

end Go.Proofs.Ythamjlhkiabcnaa
