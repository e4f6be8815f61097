/-
  The document's Send and Double. (Written by gen_nrd.py.)
-/
import Derived.Test.YtgnmieobgdbafaaNRo
namespace Go.Proofs.Ytgnmieobgdbafaa
open Go.RowKit
set_option linter.unusedVariables false
set_option maxRecDepth 100000 in
set_option maxHeartbeats 3200000 in
theorem rsend_ok {w : World} {B a : Nat} {F H : Value} {x : Nt} (h : IsM w B a F H x) (hB : B ≤ w.heap.size) (hi : x.ids ≤ 1000000000) (f t : Nat) (b : ByteArray) (hab : areB (f : Int) (t : Int) = true) (hb : ¬ 4096 < b.size) (h3 : ¬ (1024 ≤ x.fl.length ∨ 65536 ≤ x.hd.length)) (hst : x.st (lk f t) ≤ 1000000000 ∧ -1000000000 ≤ x.st (lk f t)) :
    Calls Try.prog 25 #[.pointer (some ⟨a, 0, none⟩), .int .i64 (f : Int), .int .i64 (t : Int), .string b] w fun e w' => e = .returned (.tuple #[.int .i64 ((x.ids : Int) + 1), .int .i64 0]) ∧ WentM B a F H { x with ids := x.ids + 1, fl := x.fl ++ [⟨x.ids + 1, f, t, b, 0⟩], hd := x.hd ++ [⟨x.ids + 1, f, t, b, 0⟩], st := upd x.st (lk f t) (x.st (lk f t) + 1) } w w' := by
  have hA := link_any w (f : Int) (t : Int)
  rw [hab] at hA
  obtain ⟨g0, g1, g2, g3, g4⟩ := areB_nodes hab
  obtain ⟨aF1, cF1, rfl⟩ := slice_of h.rowF
  obtain ⟨aH1, cH1, rfl⟩ := slice_of h.rowH
  have c0 := h.c0.1
  have c1 := h.c0.2.1
  have c2 := h.c0.2.2
  have fz := h.frz 2
  have H0 := Lib.hid h
  have HHL := Lib.hid (show x.hd.length ≤ 1000000 by omega)
  have HFL := Lib.hid (show x.fl.length ≤ 1000000 by omega)
  have HST := Lib.hid hst
  have d0 : decide ((b.size : Int) > 4096) = false := by simp; omega
  have d1 : decide (4096 < b.size) = false := by simp; omega
  have d2 : decide ((65536 : Int) ≤ (x.hd.length : Int)) = false := by simp; omega
  have d3 : decide (65536 ≤ x.hd.length) = false := by simp; omega
  have d4 : decide ((1024 : Int) ≤ (x.fl.length : Int)) = false := by simp; omega
  have d5 : decide (1024 ≤ x.fl.length) = false := by simp; omega
  have hw1 : IntKind.i64.wrap ((x.ids : Int) + 1) = (x.ids : Int) + 1 := IntWalk.i64_in _ (by omega)
  have I0 := Lib.hid (h.set (y := { x with ids := x.ids + 1 }) 2 (.int .i64 ((x.ids : Int) + 1)) rfl rfl (fun cur hc => hc.set0 (x.ids + 1)))
  have T0 := Lib.hid (touch_set w a 2 (.int .i64 ((x.ids : Int) + 1)) (OwnN a (.slice aF1 (x.fl).length cF1) (.slice aH1 (x.hd).length cH1)) (.inl rfl))
  have HB0 := Lib.hid hB
  clear h hab hi hst hB
  go_enter Try.func25, Try.ntmps25
  go_wp2_with fail
  refine hA.mono ?_
  rintro e w1 ⟨rfl, rfl⟩
  clear hA
  go_upto_region 8 with fail
  generalize (w.setCell ⟨a, 2, none⟩ (.int .i64 ((x.ids : Int) + 1))) = w1 at *
  clear c0 c1 c2 fz d0 d1 d2 d3 d4 d5 hw1
  have c0 : w1.cell? ⟨a, 2, none⟩ = some (.int .i64 ((x.ids : Int) + 1)) := I0.out.c0.1
  have b2 : Below w1.heap.size w1 (w1.alloc (.cells (pkCells ⟨x.ids + 1, f, t, b, 0⟩) PkT)) := (Below.refl _ _).alloc (Nat.le_refl _) _
  have Y1 : Hid ((w1.alloc (.cells (pkCells ⟨x.ids + 1, f, t, b, 0⟩) PkT)).heap[w1.heap.size]? = some (.cells (pkCells ⟨x.ids + 1, f, t, b, 0⟩) PkT)) := Lib.hid (heap_alloc_new w1 _)
  have KN1 := Lib.hid (show ¬ OwnN a (.slice aF1 (x.fl).length cF1) (.slice aH1 (x.hd).length cH1) w1.heap.size from fun e => by have := (I0.out.own_lt e).2; omega)
  have I1 := Lib.hid (I0.out.below b2)
  have T1 := Lib.hid (T0.out.trans (touch_of_below b2 _))
  have HB1 := Lib.hid (Nat.le_trans HB0.out T1.out.size)
  have HWS := Lib.hid T0.out.size
  clear b2
  go_upto_region 9 with fail
  show Code.wp _ _ _ _ (w1.alloc (.cells (pkCells ⟨x.ids + 1, f, t, b, 0⟩) PkT))
  generalize (w1.alloc (.cells (pkCells ⟨x.ids + 1, f, t, b, 0⟩) PkT)) = W1 at *
  clear c0 I0 T0
  have bD : Below W1.heap.size W1 W1.drew := bd W1
  have hS : W1.drew.cell? ⟨a, 0, none⟩ = some (.slice aF1 (x.fl).length cF1) ∧ W1.drew.heap[w1.heap.size]? = some (.cells (pkCells ⟨x.ids + 1, f, t, b, 0⟩) PkT) := ⟨(I1.out.below bD).c0.2.1, Y1.out⟩
  refine lq_start [0, 1, 2, 3, 4, 5, 6, 7, 8, 9, 10] 10 (S := fun V => V.cell? ⟨a, 0, none⟩ = some (.slice aF1 (x.fl).length cF1) ∧ V.heap[w1.heap.size]? = some (.cells (pkCells ⟨x.ids + 1, f, t, b, 0⟩) PkT)) (by kernel_rfl) ?_
  simp only [inOrder, List.filterMap, List.getElem?_cons_succ, List.getElem?_cons_zero]
  iterate 6 (refine lq_take rfl (by kernel_rfl) (by rfl) hS (by (rintro V ⟨s0, s1⟩; obtain ⟨r0, r1, r2, r3, r4⟩ := pk5 s1; go_simp) <;> with_reducible rfl) ?_); simp only [Act.put, List.setIfInBounds_toArray, List.set_cons_zero, List.set_cons_succ]
  refine lq_do rfl (by kernel_rfl) (by rfl) (fun K hK => ?_)
  go_simp
  have b3 : Below W1.heap.size W1 (W1.alloc (.cells (pkCells ⟨x.ids + 1, f, t, b, 0⟩) PkT)).drew := balN W1 _
  have hy3 : (W1.alloc (.cells (pkCells ⟨x.ids + 1, f, t, b, 0⟩) PkT)).drew.heap[W1.heap.size]? = some (.cells (pkCells ⟨x.ids + 1, f, t, b, 0⟩) PkT) := heap_alloc_new W1 _
  have IX3 := Lib.hid (I1.out.below b3)
  have HYX3 := Lib.hid hy3
  have TX3 := Lib.hid (touch_of_below b3 (OwnN a (.slice aF1 (x.fl).length cF1) (.slice aH1 (x.hd).length cH1)))
  have HPX3 := Lib.hid ((b3.block (w1.heap.size) (Array.getElem?_eq_some_iff.1 Y1.out).1).trans Y1.out)
  have HSX3 : Hid ((W1.alloc (.cells (pkCells ⟨x.ids + 1, f, t, b, 0⟩) PkT)).drew.heap.size = W1.heap.size + 1) := Lib.hid (by simp)
  show K _ (W1.alloc (.cells (pkCells ⟨x.ids + 1, f, t, b, 0⟩) PkT)).drew
  generalize (W1.alloc (.cells (pkCells ⟨x.ids + 1, f, t, b, 0⟩) PkT)).drew = V3 at *
  refine hK _ _ ⟨fun _ => ⟨IX3.out.c0.2.1, HPX3.out⟩, ?_⟩
  clear hK K hS bD b3 hy3
  try simp only [Act.put, List.setIfInBounds_toArray, List.set_cons_zero, List.set_cons_succ]
  refine lq_do rfl (by kernel_rfl) (by rfl) (fun K hK => ?_)
  refine wp_app1 (.tmp 51) (.tmp 53) rfl B _ (x.fl) rfl IX3.out.rowF W1.heap.size ⟨x.ids + 1, f, t, b, 0⟩ rfl HYX3.out (HFL.out) (Nat.le_trans HB1.out TX3.out.size) ?_
  intro v4 w4 o4 g4 at4
  obtain ⟨g2, c2, rfl⟩ := own_slice o4 (by simp)
  rw [show ((x.fl) ++ [(⟨x.ids + 1, f, t, b, 0⟩ : Pk)]).length = (x.fl).length + 1 by simp] at o4 at4
  have t4 := touch_of_grown g4 (fun j => (Value.slice aF1 (x.fl).length cF1).ownBlock = some j) (fun j hj => hj)
  have hnr := IX3.out.ne_row
  have ha4 := t4.block a IX3.out.lt (fun e => hnr.1 e)
  have hp4 := (t4.block (w1.heap.size) (Array.getElem?_eq_some_iff.1 HPX3.out).1 (fun e => KN1.out (.inr (.inl e)))).trans HPX3.out
  have hv4 : ∀ j, (Value.slice (some ⟨g2, 0, none⟩) ((x.fl).length + 1) c2).ownBlock = some j → (Value.slice aF1 (x.fl).length cF1).ownBlock = some j ∨ V3.heap.size ≤ j := fun j hj => by
    rcases at4 with e | e
    · exact .inl (e ▸ hj)
    · rw [e] at hj; cases hj; exact .inr (Nat.le_refl _)
  have IX4 := Lib.hid (IX3.out.newF (L := (x.fl) ++ [⟨x.ids + 1, f, t, b, 0⟩]) t4 (by rw [List.length_append]; exact o4) hv4)
  have ca4 : w4.cell? ⟨a, 0, none⟩ = some (.slice aF1 (x.fl).length cF1) := by have := IX3.out.c0.2.1; unfold World.cell? at this ⊢; rw [ha4]; exact this
  have fa4 : w4.frozen? ⟨a, 0, none⟩ = false := by have := IX3.out.frz 0; unfold World.frozen? at this ⊢; rw [ha4]; exact this
  have HPX4 := Lib.hid hp4
  have CAX4 := Lib.hid ca4
  have HVX4 := Lib.hid (show ∀ j, (Value.slice (some ⟨g2, 0, none⟩) ((x.fl).length + 1) c2).ownBlock = some j → (Value.slice aF1 (x.fl).length cF1).ownBlock = some j ∨ W1.heap.size ≤ j from fun j hj => (hv4 j hj).imp id (fun h => by have := HSX3.out; omega))
  have TX4 := Lib.hid (TX3.out.trans (t4.mono (fun j _ hj => (.inr (.inl hj) : OwnN a (.slice aF1 (x.fl).length cF1) (.slice aH1 (x.hd).length cH1) j))))
  refine hK _ _ ⟨fun _ => ⟨ca4, hp4⟩, ?_⟩
  clear hK K t4 hnr ha4 hp4 hv4 o4 g4 at4
  try simp only [Act.put, List.setIfInBounds_toArray, List.set_cons_zero, List.set_cons_succ]
  iterate 2 (refine lq_take rfl (by kernel_rfl) (by rfl) ⟨CAX4.out, HPX4.out⟩ (by (rintro V ⟨s0, s1⟩; go_simp) <;> with_reducible rfl) ?_); simp only [Act.put, List.setIfInBounds_toArray, List.set_cons_zero, List.set_cons_succ]
  refine lq_do rfl (by kernel_rfl) (by rfl) (fun K hK => ?_)
  go_simp
  refine hK _ _ ⟨fun e => absurd rfl e, ?_⟩
  clear hK K ca4 fa4
  refine lq_done (by kernel_rfl) ?_
  have T2 := Lib.hid (TX4.out.trans (touch_set w4 a 0 (.slice (some ⟨g2, 0, none⟩) ((x.fl).length + 1) c2) (OwnN a (.slice aF1 (x.fl).length cF1) (.slice aH1 (x.hd).length cH1)) (.inl rfl)))
  have Y2 : Hid ((w4.setCell ⟨a, 0, none⟩ (.slice (some ⟨g2, 0, none⟩) ((x.fl).length + 1) c2)).heap[w1.heap.size]? = some (.cells (pkCells ⟨x.ids + 1, f, t, b, 0⟩) PkT)) := Lib.hid (by
    rw [Below.heap_setCell _ _ _ _ (show w1.heap.size ≠ a from fun e => KN1.out (.inl e))]; exact HPX4.out)
  have I2 := IX4
  generalize (w4.setCell ⟨a, 0, none⟩ (.slice (some ⟨g2, 0, none⟩) ((x.fl).length + 1) c2)) = W2 at *
  clear IX4
  have KB2 := Lib.hid (show ∀ j, OwnN a (.slice (some ⟨g2, 0, none⟩) ((x.fl).length + 1) c2) (.slice aH1 (x.hd).length cH1) j → OwnN a (.slice aF1 (x.fl).length cF1) (.slice aH1 (x.hd).length cH1) j ∨ W1.heap.size ≤ j from fun j hj => by
    rcases hj with hj | hj | hj
    · exact .inl (.inl hj)
    · exact (HVX4.out j hj).imp (fun e => .inr (.inl e)) id
    · exact .inl (.inr (.inr hj)))
  have KN2 := Lib.hid (show ¬ OwnN a (.slice (some ⟨g2, 0, none⟩) ((x.fl).length + 1) c2) (.slice aH1 (x.hd).length cH1) (w1.heap.size) from fun e => by
    rcases KB2.out _ e with e | e
    · exact KN1.out e
    · have := (Array.getElem?_eq_some_iff.1 Y1.out).1; omega)
  have HB2 := Lib.hid (Nat.le_trans HB1.out T2.out.size)
  clear HVX4 CAX4 HPX4 HPX3 HSX3 HYX3 IX3 TX3 TX4
  go_upto_region 10 with fail
  have bD : Below W2.heap.size W2 W2.drew := bd W2
  have hS : W2.drew.cell? ⟨a, 1, none⟩ = some (.slice aH1 (x.hd).length cH1) ∧ W2.drew.heap[w1.heap.size]? = some (.cells (pkCells ⟨x.ids + 1, f, t, b, 0⟩) PkT) := ⟨(I2.out.below bD).c0.2.2, Y2.out⟩
  refine lq_start [0, 1, 2, 3, 4, 5, 6, 7, 8, 9, 10] 10 (S := fun V => V.cell? ⟨a, 1, none⟩ = some (.slice aH1 (x.hd).length cH1) ∧ V.heap[w1.heap.size]? = some (.cells (pkCells ⟨x.ids + 1, f, t, b, 0⟩) PkT)) (by kernel_rfl) ?_
  simp only [inOrder, List.filterMap, List.getElem?_cons_succ, List.getElem?_cons_zero]
  iterate 6 (refine lq_take rfl (by kernel_rfl) (by rfl) hS (by (rintro V ⟨s0, s1⟩; obtain ⟨r0, r1, r2, r3, r4⟩ := pk5 s1; go_simp) <;> with_reducible rfl) ?_); simp only [Act.put, List.setIfInBounds_toArray, List.set_cons_zero, List.set_cons_succ]
  refine lq_do rfl (by kernel_rfl) (by rfl) (fun K hK => ?_)
  go_simp
  have b3 : Below W2.heap.size W2 (W2.alloc (.cells (pkCells ⟨x.ids + 1, f, t, b, 0⟩) PkT)).drew := balN W2 _
  have hy3 : (W2.alloc (.cells (pkCells ⟨x.ids + 1, f, t, b, 0⟩) PkT)).drew.heap[W2.heap.size]? = some (.cells (pkCells ⟨x.ids + 1, f, t, b, 0⟩) PkT) := heap_alloc_new W2 _
  have IX3 := Lib.hid (I2.out.below b3)
  have HYX3 := Lib.hid hy3
  have TX3 := Lib.hid (touch_of_below b3 (OwnN a (.slice (some ⟨g2, 0, none⟩) ((x.fl).length + 1) c2) (.slice aH1 (x.hd).length cH1)))
  have HPX3 := Lib.hid ((b3.block (w1.heap.size) (Array.getElem?_eq_some_iff.1 Y2.out).1).trans Y2.out)
  have HSX3 : Hid ((W2.alloc (.cells (pkCells ⟨x.ids + 1, f, t, b, 0⟩) PkT)).drew.heap.size = W2.heap.size + 1) := Lib.hid (by simp)
  show K _ (W2.alloc (.cells (pkCells ⟨x.ids + 1, f, t, b, 0⟩) PkT)).drew
  generalize (W2.alloc (.cells (pkCells ⟨x.ids + 1, f, t, b, 0⟩) PkT)).drew = V3 at *
  refine hK _ _ ⟨fun _ => ⟨IX3.out.c0.2.2, HPX3.out⟩, ?_⟩
  clear hK K hS bD b3 hy3
  try simp only [Act.put, List.setIfInBounds_toArray, List.set_cons_zero, List.set_cons_succ]
  refine lq_do rfl (by kernel_rfl) (by rfl) (fun K hK => ?_)
  refine wp_app1 (.tmp 61) (.tmp 63) rfl B _ (x.hd) rfl IX3.out.rowH W2.heap.size ⟨x.ids + 1, f, t, b, 0⟩ rfl HYX3.out (HHL.out) (Nat.le_trans HB2.out TX3.out.size) ?_
  intro v4 w4 o4 g4 at4
  obtain ⟨g3, c3, rfl⟩ := own_slice o4 (by simp)
  rw [show ((x.hd) ++ [(⟨x.ids + 1, f, t, b, 0⟩ : Pk)]).length = (x.hd).length + 1 by simp] at o4 at4
  have t4 := touch_of_grown g4 (fun j => (Value.slice aH1 (x.hd).length cH1).ownBlock = some j) (fun j hj => hj)
  have hnr := IX3.out.ne_row
  have ha4 := t4.block a IX3.out.lt (fun e => hnr.2 e)
  have hp4 := (t4.block (w1.heap.size) (Array.getElem?_eq_some_iff.1 HPX3.out).1 (fun e => KN2.out (.inr (.inr e)))).trans HPX3.out
  have hv4 : ∀ j, (Value.slice (some ⟨g3, 0, none⟩) ((x.hd).length + 1) c3).ownBlock = some j → (Value.slice aH1 (x.hd).length cH1).ownBlock = some j ∨ V3.heap.size ≤ j := fun j hj => by
    rcases at4 with e | e
    · exact .inl (e ▸ hj)
    · rw [e] at hj; cases hj; exact .inr (Nat.le_refl _)
  have IX4 := Lib.hid (IX3.out.newH (L := (x.hd) ++ [⟨x.ids + 1, f, t, b, 0⟩]) t4 (by rw [List.length_append]; exact o4) hv4)
  have ca4 : w4.cell? ⟨a, 1, none⟩ = some (.slice aH1 (x.hd).length cH1) := by have := IX3.out.c0.2.2; unfold World.cell? at this ⊢; rw [ha4]; exact this
  have fa4 : w4.frozen? ⟨a, 1, none⟩ = false := by have := IX3.out.frz 1; unfold World.frozen? at this ⊢; rw [ha4]; exact this
  have HPX4 := Lib.hid hp4
  have CAX4 := Lib.hid ca4
  have HVX4 := Lib.hid (show ∀ j, (Value.slice (some ⟨g3, 0, none⟩) ((x.hd).length + 1) c3).ownBlock = some j → (Value.slice aH1 (x.hd).length cH1).ownBlock = some j ∨ W2.heap.size ≤ j from fun j hj => (hv4 j hj).imp id (fun h => by have := HSX3.out; omega))
  have TX4 := Lib.hid (TX3.out.trans (t4.mono (fun j _ hj => (.inr (.inr hj) : OwnN a (.slice (some ⟨g2, 0, none⟩) ((x.fl).length + 1) c2) (.slice aH1 (x.hd).length cH1) j))))
  refine hK _ _ ⟨fun _ => ⟨ca4, hp4⟩, ?_⟩
  clear hK K t4 hnr ha4 hp4 hv4 o4 g4 at4
  try simp only [Act.put, List.setIfInBounds_toArray, List.set_cons_zero, List.set_cons_succ]
  iterate 2 (refine lq_take rfl (by kernel_rfl) (by rfl) ⟨CAX4.out, HPX4.out⟩ (by (rintro V ⟨s0, s1⟩; go_simp) <;> with_reducible rfl) ?_); simp only [Act.put, List.setIfInBounds_toArray, List.set_cons_zero, List.set_cons_succ]
  refine lq_do rfl (by kernel_rfl) (by rfl) (fun K hK => ?_)
  go_simp
  refine hK _ _ ⟨fun e => absurd rfl e, ?_⟩
  clear hK K ca4 fa4
  refine lq_done (by kernel_rfl) ?_
  have T3 := Lib.hid (TX4.out.trans (touch_set w4 a 1 (.slice (some ⟨g3, 0, none⟩) ((x.hd).length + 1) c3) (OwnN a (.slice (some ⟨g2, 0, none⟩) ((x.fl).length + 1) c2) (.slice aH1 (x.hd).length cH1)) (.inl rfl)))
  have Y3 : Hid ((w4.setCell ⟨a, 1, none⟩ (.slice (some ⟨g3, 0, none⟩) ((x.hd).length + 1) c3)).heap[w1.heap.size]? = some (.cells (pkCells ⟨x.ids + 1, f, t, b, 0⟩) PkT)) := Lib.hid (by
    rw [Below.heap_setCell _ _ _ _ (show w1.heap.size ≠ a from fun e => KN2.out (.inl e))]; exact HPX4.out)
  have I3 := IX4
  generalize (w4.setCell ⟨a, 1, none⟩ (.slice (some ⟨g3, 0, none⟩) ((x.hd).length + 1) c3)) = W3 at *
  clear IX4
  have KB3 := Lib.hid (show ∀ j, OwnN a (.slice (some ⟨g2, 0, none⟩) ((x.fl).length + 1) c2) (.slice (some ⟨g3, 0, none⟩) ((x.hd).length + 1) c3) j → OwnN a (.slice (some ⟨g2, 0, none⟩) ((x.fl).length + 1) c2) (.slice aH1 (x.hd).length cH1) j ∨ W2.heap.size ≤ j from fun j hj => by
    rcases hj with hj | hj | hj
    · exact .inl (.inl hj)
    · exact .inl (.inr (.inl hj))
    · exact (HVX4.out j hj).imp (fun e => .inr (.inr e)) id)
  have KN3 := Lib.hid (show ¬ OwnN a (.slice (some ⟨g2, 0, none⟩) ((x.fl).length + 1) c2) (.slice (some ⟨g3, 0, none⟩) ((x.hd).length + 1) c3) (w1.heap.size) from fun e => by
    rcases KB3.out _ e with e | e
    · exact KN2.out e
    · have := (Array.getElem?_eq_some_iff.1 Y2.out).1; omega)
  have HB3 := Lib.hid (Nat.le_trans HB2.out T3.out.size)
  clear HVX4 CAX4 HPX4 HPX3 HSX3 HYX3 IX3 TX3 TX4
  obtain ⟨_, _, b1, b2⟩ := arrM
  obtain ⟨_, l1, _⟩ := I3.out.link (lk_lt (a := f) (b := t) (by omega) (by omega))
  have q1 := I3.out.frz (12 + f * 3 + t)
  have I6 := Lib.hid ((I3.out.set (y := { x with ids := x.ids + 1, fl := x.fl ++ [⟨x.ids + 1, f, t, b, 0⟩], hd := x.hd ++ [⟨x.ids + 1, f, t, b, 0⟩], st := upd x.st (lk f t) (x.st (lk f t) + 1) }) (12 + lk f t) (.int .i64 (x.st (lk f t) + 1)) rfl rfl (fun cur hc => hc.setS (lk_lt (by omega) (by omega)) _)).below (bd _))
  have T6 := Lib.hid ((touch_set W3 a (12 + lk f t) (.int .i64 (x.st (lk f t) + 1)) (fun j => j = a) rfl).trans (touch_drew _ _))
  have hws : IntKind.i64.wrap (x.st (lk f t) + 1) = x.st (lk f t) + 1 := IntWalk.i64_in _ (by have := HST.out; omega)
  have HE : Hid (WentM B a (.slice aF1 (x.fl).length cF1) (.slice aH1 (x.hd).length cH1) { x with ids := x.ids + 1, fl := x.fl ++ [⟨x.ids + 1, f, t, b, 0⟩], hd := x.hd ++ [⟨x.ids + 1, f, t, b, 0⟩], st := upd x.st (lk f t) (x.st (lk f t) + 1) } w (W3.setCell ⟨a, 12 + lk f t, none⟩ (.int .i64 (x.st (lk f t) + 1))).drew) := Lib.hid ⟨_, _, I6.out, ((T1.out.step T2.out (fun j hj => .inl hj)).step T3.out (fun j hj => (KB2.out j hj).imp id (fun h => Nat.le_trans T1.out.size h))).step T6.out (fun j hj => .inl (.inl hj)), fun j hj => by
    rcases KB3.out j hj with e | e
    · exact (KB2.out j e).imp id (fun h => Nat.le_trans T1.out.size h)
    · exact .inr (Nat.le_trans (Nat.le_trans T1.out.size T2.out.size) e)⟩
  unfold lk at l1 hws I6 T6 HE
  rw [show 12 + (f * 3 + t) = 12 + f * 3 + t by omega] at l1 I6 T6 HE
  have u0 : (0 : Int) ≤ (f : Int) := by omega
  have u1 : (0 : Int) ≤ (t : Int) := by omega
  go_wp2_with fail
  go_region
  all_goals
    have c9 := I6.out.c0.1
    generalize (W3.setCell ⟨a, 12 + f * 3 + t, none⟩ (.int .i64 (x.st (f * 3 + t) + 1))).drew = W6 at *
    clear l1 q1
    go_wp2_with fail
    go_returns
    exact ⟨by simp, HE.out⟩
set_option maxRecDepth 100000 in
set_option maxHeartbeats 3200000 in
theorem rsend_any {w : World} {B a : Nat} {F H : Value} {x : Nt} (h : IsM w B a F H x) (hB : B ≤ w.heap.size) (hi : x.ids ≤ 1000000000) (f t : Int) (b : ByteArray) (hst : ∀ k, x.st k ≤ 1000000000 ∧ -1000000000 ≤ x.st k) :
    Calls Try.prog 25 #[.pointer (some ⟨a, 0, none⟩), .int .i64 f, .int .i64 t, .string b] w fun e w' => e = .returned (.tuple #[.int .i64 ((sendP x f t b).2.1 : Int), .int .i64 (sendP x f t b).2.2]) ∧ WentM B a F H (sendP x f t b).1 w w' := by
  have hA := link_any w f t
  cases hab : areB f t
  · rw [hab] at hA
    rw [sendP_no hab]
    have H0 := Lib.hid h
    clear h hab hst hi
    go_enter Try.func25, Try.ntmps25
    go_wp2_with fail
    refine hA.mono ?_
    rintro e w1 ⟨rfl, rfl⟩
    go_wp2_with fail
    go_returns
    exact ⟨rfl, WentM.same H0.out (Below.refl _ _)⟩
  rw [hab] at hA
  by_cases hb : 4096 < b.size
  · rw [sendP_long hab hb]
    have H0 := Lib.hid h
    have d1 : decide ((4096 : Int) < (b.size : Int)) = true := by simp; omega
    have d2 : decide (4096 < b.size) = true := by simp; omega
    clear h hab hst hi hb
    go_enter Try.func25, Try.ntmps25
    go_wp2_with fail
    refine hA.mono ?_
    rintro e w1 ⟨rfl, rfl⟩
    go_wp2_with fail
    go_returns
    exact ⟨rfl, WentM.same H0.out (Below.refl _ _)⟩
  by_cases h3 : 1024 ≤ x.fl.length ∨ 65536 ≤ x.hd.length
  · rw [sendP_many hab hb h3]
    have H0 := Lib.hid h
    have c1 := h.c0.2.1
    have c2 := h.c0.2.2
    obtain ⟨fa, fc, rfl⟩ := slice_of h.rowF
    obtain ⟨ha, hc, rfl⟩ := slice_of h.rowH
    have d1 : decide ((4096 : Int) < (b.size : Int)) = false := by simp; omega
    have d2 : decide (4096 < b.size) = false := by simp; omega
    have H3 := Lib.hid h3
    clear h hab hst hi hb h3
    by_cases hd : 1024 ≤ x.fl.length
    · have d3 : decide ((1024 : Int) ≤ (x.fl.length : Int)) = true := by simp; omega
      have d4 : decide (1024 ≤ x.fl.length) = true := by simp; omega
      go_enter Try.func25, Try.ntmps25
      go_wp2_with fail
      refine hA.mono ?_
      rintro e w1 ⟨rfl, rfl⟩
      go_wp2_with fail
      go_returns
      exact ⟨rfl, WentM.same H0.out (Below.refl _ _)⟩
    · have d3 : decide ((1024 : Int) ≤ (x.fl.length : Int)) = false := by simp; omega
      have d4 : decide (1024 ≤ x.fl.length) = false := by simp; omega
      have d5 : decide ((65536 : Int) ≤ (x.hd.length : Int)) = true := by have := H3.out; simp; omega
      have d6 : decide (65536 ≤ x.hd.length) = true := by have := H3.out; simp; omega
      go_enter Try.func25, Try.ntmps25
      go_wp2_with fail
      refine hA.mono ?_
      rintro e w1 ⟨rfl, rfl⟩
      go_wp2_with fail
      go_returns
      exact ⟨rfl, WentM.same H0.out (Below.refl _ _)⟩
  obtain ⟨g0, g1, g2, g3, g4⟩ := areB_nodes hab
  obtain ⟨i, rfl⟩ : ∃ i : Nat, f = (i : Int) := ⟨f.toNat, by omega⟩
  obtain ⟨j, rfl⟩ : ∃ j : Nat, t = (j : Int) := ⟨t.toNat, by omega⟩
  rw [sendP_ok hab hb h3]
  have := rsend_ok h hB hi i j b hab hb h3 (hst _)
  simpa using this
end Go.Proofs.Ytgnmieobgdbafaa
