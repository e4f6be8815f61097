/-
  Send and Double of the program's net.
-/
import Derived.Test.YtgnmieobgdbafaaNPut
import Derived.Test.YtgnmieobgdbafaaNLnk
import Derived.Test.YtgnmieobgdbafaaNLex
namespace Go.Proofs.Ytgnmieobgdbafaa
open Go.RowKit
set_option linter.unusedVariables false
set_option maxRecDepth 100000 in
set_option maxHeartbeats 3200000 in
theorem launch_any {w : World} {B a : Nat} {F H : Value} {x : Nt} (h : IsN w B a F H x) (hB : B ≤ w.heap.size) (hl : x.fl.length ≤ 5000) (hi : x.ids ≤ 1000000000) (f t : Nat) (b : ByteArray) :
    Calls Try.prog 43 #[.pointer (some ⟨a, 0, none⟩), .int .i64 (f : Int), .int .i64 (t : Int), .string b] w fun e w' => e = .returned (Pk.val ⟨x.ids + 1, f, t, b, 0⟩) ∧ WentN B a F H { x with ids := x.ids + 1, fl := x.fl ++ [⟨x.ids + 1, f, t, b, 0⟩] } w w' := by
  have b0 : Below w.heap.size w (w.alloc (.cells zC PkT)) := (Below.refl _ _).alloc (Nat.le_refl _) _
  have z0 := heap_alloc_new w (.cells zC PkT)
  have h1 := h.below b0
  have c0 := h1.c0.1
  have fz := h1.frz 0
  have hw1 : IntKind.i64.wrap ((x.ids : Int) + 1) = (x.ids : Int) + 1 := IntWalk.i64_in _ (by omega)
  have H0 := Lib.hid h
  have H1 := Lib.hid h1
  have B0 := Lib.hid b0
  have Z0 := Lib.hid z0
  have HBB := Lib.hid hB
  have HL := Lib.hid hl
  have hsz : (w.alloc (.cells zC PkT)).heap.size = w.heap.size + 1 := by simp
  have HSZ := Lib.hid hsz
  clear h h1 b0 z0 hB hl hi hsz
  go_enter Try.func43, Try.ntmps43
  go_upto_region 2 with fail
  generalize hW : (w.alloc (.cells zC PkT)) = W at *
  clear hW
  have H2 := Lib.hid (H1.out.set (y := { x with ids := x.ids + 1 }) 0 (.int .i64 ((x.ids : Int) + 1)) rfl rfl (fun cur hc => hc.set0 (x.ids + 1)))
  have T2 := Lib.hid ((touch_of_below B0.out (OwnN a F H)).trans (touch_set W a 0 (.int .i64 ((x.ids : Int) + 1)) (OwnN a F H) (.inl rfl)))
  have hz2 : (W.setCell ⟨a, 0, none⟩ (.int .i64 ((x.ids : Int) + 1))).heap[w.heap.size]? = some (.cells zC PkT) := by
    rw [Below.heap_setCell _ _ _ _ (show w.heap.size ≠ a from by have := H0.out.lt; omega)]; exact Z0.out
  have hs2 : (W.setCell ⟨a, 0, none⟩ (.int .i64 ((x.ids : Int) + 1))).heap.size = w.heap.size + 1 := by simp [World.setCell, HSZ.out]
  clear c0 fz HSZ
  generalize (W.setCell ⟨a, 0, none⟩ (.int .i64 ((x.ids : Int) + 1))) = W1 at *
  have c0 : W1.cell? ⟨a, 0, none⟩ = some (.int .i64 ((x.ids : Int) + 1)) := H2.out.c0.1
  have HS2 := Lib.hid hs2
  have HZ2 := Lib.hid hz2
  clear hz2
  go_upto_region 3 with fail
  have b3 : Below W1.heap.size W1 (W1.alloc (.cells (pkCells ⟨x.ids + 1, f, t, b, 0⟩) PkT)) := (Below.refl _ _).alloc (Nat.le_refl _) _
  have hz3 : (W1.alloc (.cells (pkCells ⟨x.ids + 1, f, t, b, 0⟩) PkT)).heap[w.heap.size]? = some (.cells zC PkT) := (b3.block _ (by rw [HS2.out]; omega)).trans HZ2.out
  have hy3 : (W1.alloc (.cells (pkCells ⟨x.ids + 1, f, t, b, 0⟩) PkT)).heap[w.heap.size + 1]? = some (.cells (pkCells ⟨x.ids + 1, f, t, b, 0⟩) PkT) := by rw [← HS2.out]; exact heap_alloc_new _ _
  have H3 := Lib.hid (H2.out.below b3)
  have T3 := Lib.hid (T2.out.trans (touch_of_below b3 (OwnN a F H)))
  obtain ⟨W3, hW3⟩ : ∃ W3, W3 = (W1.alloc (.cells (pkCells ⟨x.ids + 1, f, t, b, 0⟩) PkT)) := ⟨_, rfl⟩
  rw [← hW3] at hz3 hy3 H3 T3
  show Code.wp _ _ _ _ (W1.alloc (.cells (pkCells ⟨x.ids + 1, f, t, b, 0⟩) PkT))
  rw [← hW3]
  clear hW3 b3 hs2 c0 hw1
  have hlt3 : w.heap.size + 1 < W3.heap.size := (Array.getElem?_eq_some_iff.1 hy3).1
  have HLT3 := Lib.hid hlt3
  have HY3 := Lib.hid hy3
  have HZ3 := Lib.hid hz3
  have HB3 := Lib.hid (Nat.le_trans HBB.out T3.out.size)
  obtain ⟨fa, fc, rfl⟩ := slice_of H0.out.rowF
  have bD : Below W3.heap.size W3 W3.drew := bd W3
  have hS : W3.drew.cell? ⟨a, 1, none⟩ = some (.slice fa x.fl.length fc) ∧ W3.drew.heap[w.heap.size + 1]? = some (.cells (pkCells ⟨x.ids + 1, f, t, b, 0⟩) PkT) := ⟨(H3.out.below bD).c0.2.1, hy3⟩
  clear hz3 hlt3 hy3
  refine lq_start [0, 1, 2, 3, 4, 5, 6, 7] 7 (S := fun V => V.cell? ⟨a, 1, none⟩ = some (.slice fa x.fl.length fc) ∧ V.heap[w.heap.size + 1]? = some (.cells (pkCells ⟨x.ids + 1, f, t, b, 0⟩) PkT)) (by kernel_rfl) ?_
  simp only [inOrder, List.filterMap, List.getElem?_cons_succ, List.getElem?_cons_zero]
  iterate 7 (refine lq_take rfl (by kernel_rfl) (by rfl) hS (by (rintro V ⟨s0, s1⟩; obtain ⟨r0, r1, r2, r3, r4⟩ := pk5 s1; go_simp) <;> with_reducible rfl) ?_); simp only [Act.put, List.setIfInBounds_toArray, List.set_cons_zero, List.set_cons_succ]
  refine lq_do rfl (by kernel_rfl) (by rfl) (fun K hK => ?_)
  go_simp
  refine (layIn_any (H3.out.below bD) HB3.out x.fl.length (Nat.le_refl _) HL.out ⟨x.ids + 1, f, t, b, 0⟩).mono ?_
  rintro e W4 ⟨rfl, h4⟩
  rw [in_end] at h4
  have hy4 := (WentN.box (k := w.heap.size + 1) H0.out h4 (by omega) HLT3.out).trans HY3.out
  have hz4 := (WentN.box (k := w.heap.size) H0.out h4 (by omega) (show w.heap.size < W3.heap.size by have := HLT3.out; omega)).trans HZ3.out
  have H4 := Lib.hid h4
  refine hK _ _ ⟨fun e => absurd rfl e, ?_⟩
  clear hK K h4 hS bD
  refine lq_done (by kernel_rfl) ?_
  obtain ⟨r0, r1, r2, r3, r4⟩ := pk5 hy4
  obtain ⟨q0, q1, q2, q3, q4⟩ := pk5 (p := zeroP) hz4
  obtain ⟨f0, f1, f2, f3, f4⟩ := frz5 hz4
  have HZ4 := Lib.hid hz4
  clear hy4 hz4
  obtain ⟨W5, hW5⟩ : ∃ W5, W5 = setB W4 w.heap.size ⟨x.ids + 1, f, t, b, 0⟩ := ⟨_, rfl⟩
  have HE : Hid (WentN B a (.slice fa x.fl.length fc) H { x with ids := x.ids + 1, fl := x.fl ++ [⟨x.ids + 1, f, t, b, 0⟩] } w W5) := Lib.hid (by
    rw [hW5]
    exact WentN.box2 H0.out (T3.out.trans (touch_drew _ _)) H4.out (Nat.le_refl _) (show w.heap.size < W3.heap.size by have := HLT3.out; omega) (setB_touch W4 w.heap.size _))
  have HB5 : Hid (W5.heap[w.heap.size]? = some (.cells (pkCells ⟨x.ids + 1, f, t, b, 0⟩) PkT)) := Lib.hid (by rw [hW5]; exact setB_is (q := zeroP) HZ4.out)
  have HW5 := Lib.hid hW5
  clear hW5
  go_wp2_with fail
  rw [show (((((W4.setCell ⟨w.heap.size, 0, none⟩ (.int .i64 ((x.ids : Int) + 1))).setCell ⟨w.heap.size, 1, none⟩ (.int .i64 (f : Int))).setCell ⟨w.heap.size, 2, none⟩ (.int .i64 (t : Int))).setCell ⟨w.heap.size, 3, none⟩ (.string b)).setCell ⟨w.heap.size, 4, none⟩ (.int .i64 0)) = W5 from HW5.out.symm]
  clear q0 q1 q2 q3 q4 f0 f1 f2 f3 f4 r0 r1 r2 r3 r4
  obtain ⟨r0, r1, r2, r3, r4⟩ := pk5 HB5.out
  exact bodyPost_ret (v := Pk.val ⟨x.ids + 1, f, t, b, 0⟩) (by simp [results, Try.results43, go_sem, r0, r1, r2, r3, r4]) rfl ⟨rfl, HE.out⟩
theorem sendP_no {x : Nt} {f t : Int} {b : ByteArray} (h : areB f t = false) : sendP x f t b = (x, 0, 150) := by unfold sendP; rw [if_pos h]
theorem sendP_long {x : Nt} {f t : Int} {b : ByteArray} (h : areB f t = true) (h2 : 4096 < b.size) : sendP x f t b = (x, 0, 1) := by unfold sendP; rw [if_neg (by simp [h]), if_pos h2]
theorem sendP_many {x : Nt} {f t : Int} {b : ByteArray} (h : areB f t = true) (h2 : ¬ 4096 < b.size) (h3 : 1024 ≤ x.fl.length ∨ 65536 ≤ x.hd.length) : sendP x f t b = (x, 0, 6) := by unfold sendP; rw [if_neg (by simp [h]), if_neg h2, if_pos h3]
theorem sendP_ok {x : Nt} {f t : Nat} {b : ByteArray} (h : areB (f : Int) (t : Int) = true) (h2 : ¬ 4096 < b.size) (h3 : ¬ (1024 ≤ x.fl.length ∨ 65536 ≤ x.hd.length)) : sendP x (f : Int) (t : Int) b = ({ x with ids := x.ids + 1, fl := x.fl ++ [⟨x.ids + 1, f, t, b, 0⟩], hd := x.hd ++ [⟨x.ids + 1, f, t, b, 0⟩], st := upd x.st (lk f t) (x.st (lk f t) + 1) }, x.ids + 1, 0) := by unfold sendP; rw [if_neg (by simp [h]), if_neg h2, if_neg h3]; rfl
set_option maxRecDepth 100000 in
set_option maxHeartbeats 3200000 in
theorem send_ok {w : World} {B a : Nat} {F H : Value} {x : Nt} (h : IsN w B a F H x) (hB : B ≤ w.heap.size) (hi : x.ids ≤ 1000000000) (f t : Nat) (b : ByteArray) (hab : areB (f : Int) (t : Int) = true) (hb : ¬ 4096 < b.size) (h3 : ¬ (1024 ≤ x.fl.length ∨ 65536 ≤ x.hd.length)) (hst : x.st (lk f t) ≤ 1000000000 ∧ -1000000000 ≤ x.st (lk f t)) :
    Calls Try.prog 14 #[.pointer (some ⟨a, 0, none⟩), .int .i64 (f : Int), .int .i64 (t : Int), .string b] w fun e w' => e = .returned (.tuple #[.int .i64 ((x.ids : Int) + 1), .int .i64 0]) ∧ WentN B a F H { x with ids := x.ids + 1, fl := x.fl ++ [⟨x.ids + 1, f, t, b, 0⟩], hd := x.hd ++ [⟨x.ids + 1, f, t, b, 0⟩], st := upd x.st (lk f t) (x.st (lk f t) + 1) } w w' := by
  have hA := areNodes_any w (f : Int) (t : Int)
  rw [hab] at hA
  have hF := full_any h
  rw [show decide (1024 ≤ x.fl.length) = false by simp; omega] at hF
  have hL := launch_any h hB (by omega) hi f t b
  obtain ⟨g0, g1, g2, g3, g4⟩ := areB_nodes hab
  have c2 := h.c0.2.2
  obtain ⟨ha, hc, rfl⟩ := slice_of h.rowH
  have H0 := Lib.hid h
  have HBB := Lib.hid hB
  have HHL := Lib.hid (show x.hd.length ≤ 65536 by omega)
  have HST := Lib.hid hst
  have d0 : decide ((b.size : Int) > 4096) = false := by simp; omega
  have d1 : decide (4096 < b.size) = false := by simp; omega
  have d2 : decide ((65536 : Int) ≤ (x.hd.length : Int)) = false := by simp; omega
  have d3 : decide (65536 ≤ x.hd.length) = false := by simp; omega
  clear h hB hab hi hst
  go_enter Try.func14, Try.ntmps14
  go_wp2_with fail
  refine hA.mono ?_
  rintro e w1 ⟨rfl, rfl⟩
  clear hA
  go_wp2_with fail
  refine hF.mono ?_
  rintro e w1 ⟨rfl, rfl⟩
  clear hF
  go_wp2_with fail
  refine hL.mono ?_
  rintro e w1 ⟨rfl, h1⟩
  clear hL c2 d0 d1 d2 d3
  obtain ⟨F1, H1, i1, t1, o1⟩ := h1
  obtain ⟨ha1, hc1, rfl⟩ := slice_of i1.rowH
  have b2 : Below w1.heap.size w1 (w1.alloc (.cells (pkCells ⟨x.ids + 1, f, t, b, 0⟩) PkT)) := (Below.refl _ _).alloc (Nat.le_refl _) _
  have hy2 : (w1.alloc (.cells (pkCells ⟨x.ids + 1, f, t, b, 0⟩) PkT)).heap[w1.heap.size]? = some (.cells (pkCells ⟨x.ids + 1, f, t, b, 0⟩) PkT) := heap_alloc_new _ _
  have I2 := Lib.hid (i1.below b2)
  have T2 := Lib.hid (t1.trans (touch_of_below b2 _))
  have T12 := Lib.hid (touch_of_below b2 (OwnN a F1 (.slice ha1 x.hd.length hc1)))
  have O1 := Lib.hid o1
  have TS := Lib.hid t1.size
  have I1 := Lib.hid i1
  have HY2 := Lib.hid hy2
  have HB1 := Lib.hid (Nat.le_trans HBB.out t1.size)
  have hsz2 : (w1.alloc (.cells (pkCells ⟨x.ids + 1, f, t, b, 0⟩) PkT)).heap.size = w1.heap.size + 1 := by simp
  have HS2 := Lib.hid hsz2
  clear i1 t1 o1 b2 hy2 hsz2
  go_upto_region 10 with fail
  rw [show (w1.alloc (.cells #[.int .i64 ((x.ids : Int) + 1), .int .i64 (f : Int), .int .i64 (t : Int), .string b, .int .i64 0] PkT)) = (w1.alloc (.cells (pkCells ⟨x.ids + 1, f, t, b, 0⟩) PkT)) from rfl]
  generalize (w1.alloc (.cells (pkCells ⟨x.ids + 1, f, t, b, 0⟩) PkT)) = W2 at *
  have bD : Below W2.heap.size W2 W2.drew := bd W2
  have hS : W2.drew.cell? ⟨a, 2, none⟩ = some (.slice ha1 x.hd.length hc1) ∧ W2.drew.heap[w1.heap.size]? = some (.cells (pkCells ⟨x.ids + 1, f, t, b, 0⟩) PkT) := ⟨(I2.out.below bD).c0.2.2, HY2.out⟩
  refine lq_start [0, 1, 2, 3, 4, 5, 6, 7, 8, 9, 10] 10 (S := fun V => V.cell? ⟨a, 2, none⟩ = some (.slice ha1 x.hd.length hc1) ∧ V.heap[w1.heap.size]? = some (.cells (pkCells ⟨x.ids + 1, f, t, b, 0⟩) PkT)) (by kernel_rfl) ?_
  simp only [inOrder, List.filterMap, List.getElem?_cons_succ, List.getElem?_cons_zero]
  iterate 6 (refine lq_take rfl (by kernel_rfl) (by rfl) hS (by (rintro V ⟨s0, s1⟩; obtain ⟨r0, r1, r2, r3, r4⟩ := pk5 s1; go_simp) <;> with_reducible rfl) ?_); simp only [Act.put, List.setIfInBounds_toArray, List.set_cons_zero, List.set_cons_succ]
  refine lq_do rfl (by kernel_rfl) (by rfl) (fun K hK => ?_)
  go_simp
  have b3 : Below W2.heap.size W2 ((W2.alloc (.cells (pkCells ⟨x.ids + 1, f, t, b, 0⟩) PkT)).drew) := balN W2 _
  have hy3 : ((W2.alloc (.cells (pkCells ⟨x.ids + 1, f, t, b, 0⟩) PkT)).drew).heap[W2.heap.size]? = some (.cells (pkCells ⟨x.ids + 1, f, t, b, 0⟩) PkT) := heap_alloc_new W2 _
  have I3 := Lib.hid (I2.out.below b3)
  have HY3 := Lib.hid hy3
  have T3 := Lib.hid (touch_of_below b3 (OwnN a F1 (.slice ha1 x.hd.length hc1)))
  have HP3 := Lib.hid ((b3.block w1.heap.size (by rw [HS2.out]; omega)).trans HY2.out)
  have HS3 : Hid (((W2.alloc (.cells (pkCells ⟨x.ids + 1, f, t, b, 0⟩) PkT)).drew).heap.size = W2.heap.size + 1) := Lib.hid (by simp)
  rw [show (W2.alloc (.cells #[.int .i64 ((x.ids : Int) + 1), .int .i64 (f : Int), .int .i64 (t : Int), .string b, .int .i64 0] PkT)).drew = (W2.alloc (.cells (pkCells ⟨x.ids + 1, f, t, b, 0⟩) PkT)).drew from rfl]
  generalize (W2.alloc (.cells (pkCells ⟨x.ids + 1, f, t, b, 0⟩) PkT)).drew = W3 at *
  refine hK _ _ ⟨fun _ => ⟨I3.out.c0.2.2, HP3.out⟩, ?_⟩
  clear hK K hS bD b3 hy3
  try simp only [Act.put, List.setIfInBounds_toArray, List.set_cons_zero, List.set_cons_succ]
  refine lq_do rfl (by kernel_rfl) (by rfl) (fun K hK => ?_)
  refine wp_app1 (.tmp 43) (.tmp 45) rfl B _ x.hd rfl I3.out.rowH W2.heap.size ⟨x.ids + 1, f, t, b, 0⟩ rfl HY3.out (Nat.le_trans HHL.out (by decide)) (Nat.le_trans (Nat.le_trans HB1.out T12.out.size) T3.out.size) ?_
  intro v4 w4 o4 g4 at4
  have t4 := touch_of_grown g4 (fun k => (Value.slice ha1 x.hd.length hc1).ownBlock = some k) (fun k hk => hk)
  have hnr := I3.out.ne_row
  have hlt3 := I3.out.lt
  have ha4 := t4.block a hlt3 (fun e => hnr.2 e)
  have hp4 := (t4.block w1.heap.size (by rw [HS3.out, HS2.out]; omega) (fun e => by have := (own_from I1.out.rowH e).2; omega)).trans HP3.out
  obtain ⟨g5, c5, rfl⟩ := own_slice o4 (by simp)
  rw [show (x.hd ++ [(⟨x.ids + 1, f, t, b, 0⟩ : Pk)]).length = x.hd.length + 1 by simp] at o4 at4
  have hv4 : ∀ k, (Value.slice (some ⟨g5, 0, none⟩) (x.hd.length + 1) c5).ownBlock = some k → (Value.slice ha1 x.hd.length hc1).ownBlock = some k ∨ W3.heap.size ≤ k := fun k hk => by
    rcases at4 with e | e
    · exact .inl (e ▸ hk)
    · rw [e] at hk; cases hk; exact .inr (Nat.le_refl _)
  have I4 := Lib.hid (I3.out.newH (L := x.hd ++ [⟨x.ids + 1, f, t, b, 0⟩]) t4 (by rw [List.length_append]; exact o4) hv4)
  have ca4 : w4.cell? ⟨a, 2, none⟩ = some (.slice ha1 x.hd.length hc1) := by have := I3.out.c0.2.2; unfold World.cell? at this ⊢; rw [ha4]; exact this
  have fa4 : w4.frozen? ⟨a, 2, none⟩ = false := by have := I3.out.frz 2; unfold World.frozen? at this ⊢; rw [ha4]; exact this
  have HP4 := Lib.hid hp4
  have CA4 := Lib.hid ca4
  have HV4 := Lib.hid (show ∀ k, (Value.slice (some ⟨g5, 0, none⟩) (x.hd.length + 1) c5).ownBlock = some k → (Value.slice ha1 x.hd.length hc1).ownBlock = some k ∨ w1.heap.size ≤ k from fun k hk => (hv4 k hk).imp id (fun h => by have := HS3.out; have := HS2.out; omega))
  have T4 := Lib.hid (T3.out.trans (t4.mono (fun k _ hk => .inr (.inr hk))))
  refine hK _ _ ⟨fun _ => ⟨ca4, hp4⟩, ?_⟩
  clear hK K t4 hnr hlt3 ha4 hp4 hv4 o4 g4 at4
  try simp only [Act.put, List.setIfInBounds_toArray, List.set_cons_zero, List.set_cons_succ]
  iterate 2 (refine lq_take rfl (by kernel_rfl) (by rfl) ⟨CA4.out, HP4.out⟩ (by (rintro V ⟨s0, s1⟩; go_simp) <;> with_reducible rfl) ?_); simp only [Act.put, List.setIfInBounds_toArray, List.set_cons_zero, List.set_cons_succ]
  refine lq_do rfl (by kernel_rfl) (by rfl) (fun K hK => ?_)
  go_simp
  refine hK _ _ ⟨fun e => absurd rfl e, ?_⟩
  clear hK K ca4 fa4
  refine lq_done (by kernel_rfl) ?_
  have T5 := Lib.hid (T4.out.trans (touch_set w4 a 2 (.slice (some ⟨g5, 0, none⟩) (x.hd.length + 1) c5) (OwnN a F1 (.slice ha1 x.hd.length hc1)) (.inl rfl)))
  have hp5 : (w4.setCell ⟨a, 2, none⟩ (.slice (some ⟨g5, 0, none⟩) (x.hd.length + 1) c5)).heap[w1.heap.size]? = some (.cells (pkCells ⟨x.ids + 1, f, t, b, 0⟩) PkT) := by
    rw [Below.heap_setCell _ _ _ _ (show w1.heap.size ≠ a from by have := I1.out.lt; omega)]; exact HP4.out
  generalize (w4.setCell ⟨a, 2, none⟩ (.slice (some ⟨g5, 0, none⟩) (x.hd.length + 1) c5)) = w5 at *
  obtain ⟨a1, a2⟩ := arr3
  obtain ⟨_, l1, _⟩ := I4.out.link (lk_lt (a := f) (b := t) (by omega) (by omega))
  have q1 := I4.out.frz (3 + f * 9 + t * 3 + 1)
  have I6 := Lib.hid ((I4.out.set (y := { x with ids := x.ids + 1, fl := x.fl ++ [⟨x.ids + 1, f, t, b, 0⟩], hd := x.hd ++ [⟨x.ids + 1, f, t, b, 0⟩], st := upd x.st (lk f t) (x.st (lk f t) + 1) }) (3 + lk f t * 3 + 1) (.int .i64 (x.st (lk f t) + 1)) rfl rfl (fun cur hc => hc.setS (lk_lt (by omega) (by omega)) _)).below (bd _))
  have T6 := Lib.hid ((T5.out.trans (touch_set w5 a (3 + lk f t * 3 + 1) (.int .i64 (x.st (lk f t) + 1)) (OwnN a F1 (.slice ha1 x.hd.length hc1)) (.inl rfl))).trans (touch_drew _ _))
  have hws : IntKind.i64.wrap (x.st (lk f t) + 1) = x.st (lk f t) + 1 := IntWalk.i64_in _ (by have := HST.out; omega)
  unfold lk at l1 hws I6 T6
  rw [show 3 + (f * 3 + t) * 3 = 3 + f * 9 + t * 3 by omega] at l1 I6 T6
  have HE : Hid (WentN B a F (.slice ha x.hd.length hc) { x with ids := x.ids + 1, fl := x.fl ++ [⟨x.ids + 1, f, t, b, 0⟩], hd := x.hd ++ [⟨x.ids + 1, f, t, b, 0⟩], st := upd x.st (lk f t) (x.st (lk f t) + 1) } w (w5.setCell ⟨a, 3 + f * 9 + t * 3 + 1, none⟩ (.int .i64 (x.st (f * 3 + t) + 1))).drew) := Lib.hid ⟨F1, _, I6.out, T2.out.step T6.out (fun k hk => O1.out k hk), fun k hk => by
    rcases hk with hk | hk | hk
    · exact .inl (.inl hk)
    · exact O1.out k (.inr (.inl hk))
    · rcases HV4.out k hk with e | e
      · exact O1.out k (.inr (.inr e))
      · exact .inr (Nat.le_trans TS.out e)⟩
  obtain ⟨r0, _, _, _, _⟩ := pk5 hp5
  have u0 : (0 : Int) ≤ (f : Int) := by omega
  have u1 : (0 : Int) ≤ (t : Int) := by omega
  unfold lk at HE
  clear hp5
  go_wp2_with fail
  go_region
  all_goals
    go_wp2_with fail
    go_returns
    exact ⟨rfl, HE.out⟩
set_option maxRecDepth 100000 in
set_option maxHeartbeats 3200000 in
/-- Send, whatever is sent. -/
theorem send_any {w : World} {B a : Nat} {F H : Value} {x : Nt} (h : IsN w B a F H x) (hB : B ≤ w.heap.size) (hi : x.ids ≤ 1000000000) (f t : Int) (b : ByteArray) (hst : ∀ k, x.st k ≤ 1000000000 ∧ -1000000000 ≤ x.st k) :
    Calls Try.prog 14 #[.pointer (some ⟨a, 0, none⟩), .int .i64 f, .int .i64 t, .string b] w fun e w' => e = .returned (.tuple #[.int .i64 ((sendP x f t b).2.1 : Int), .int .i64 (sendP x f t b).2.2]) ∧ WentN B a F H (sendP x f t b).1 w w' := by
  have hA := areNodes_any w f t
  cases hab : areB f t
  · rw [hab] at hA
    rw [sendP_no hab]
    have H0 := Lib.hid h
    clear h hab hst hi
    go_enter Try.func14, Try.ntmps14
    go_wp2_with fail
    refine hA.mono ?_
    rintro e w1 ⟨rfl, rfl⟩
    go_wp2_with fail
    go_returns
    exact ⟨rfl, WentN.same H0.out (Below.refl _ _)⟩
  rw [hab] at hA
  by_cases hb : 4096 < b.size
  · rw [sendP_long hab hb]
    have H0 := Lib.hid h
    have d1 : decide ((4096 : Int) < (b.size : Int)) = true := by simp; omega
    have d2 : decide (4096 < b.size) = true := by simp; omega
    clear h hab hst hi hb
    go_enter Try.func14, Try.ntmps14
    go_wp2_with fail
    refine hA.mono ?_
    rintro e w1 ⟨rfl, rfl⟩
    go_wp2_with fail
    go_returns
    exact ⟨rfl, WentN.same H0.out (Below.refl _ _)⟩
  by_cases h3 : 1024 ≤ x.fl.length ∨ 65536 ≤ x.hd.length
  · rw [sendP_many hab hb h3]
    have H0 := Lib.hid h
    have hF := full_any h
    have c2 := h.c0.2.2
    obtain ⟨ha, hc, rfl⟩ := slice_of h.rowH
    have d1 : decide ((4096 : Int) < (b.size : Int)) = false := by simp; omega
    have d2 : decide (4096 < b.size) = false := by simp; omega
    have H3 := Lib.hid h3
    clear h hab hst hi hb h3
    cases hd : decide (1024 ≤ x.fl.length)
    · have d3 : decide ((65536 : Int) ≤ (x.hd.length : Int)) = true := by have := H3.out; simp at hd; simp; omega
      have d4 : decide (65536 ≤ x.hd.length) = true := by have := H3.out; simp at hd; simp; omega
      rw [hd] at hF
      clear hd
      go_enter Try.func14, Try.ntmps14
      go_wp2_with fail
      refine hA.mono ?_
      rintro e w1 ⟨rfl, rfl⟩
      go_wp2_with fail
      refine hF.mono ?_
      rintro e w1 ⟨rfl, rfl⟩
      go_wp2_with fail
      go_returns
      exact ⟨rfl, WentN.same H0.out (Below.refl _ _)⟩
    · rw [hd] at hF
      clear hd
      go_enter Try.func14, Try.ntmps14
      go_wp2_with fail
      refine hA.mono ?_
      rintro e w1 ⟨rfl, rfl⟩
      go_wp2_with fail
      refine hF.mono ?_
      rintro e w1 ⟨rfl, rfl⟩
      go_wp2_with fail
      go_returns
      exact ⟨rfl, WentN.same H0.out (Below.refl _ _)⟩
  obtain ⟨g0, g1, g2, g3, g4⟩ := areB_nodes hab
  obtain ⟨i, rfl⟩ : ∃ i : Nat, f = (i : Int) := ⟨f.toNat, by omega⟩
  obtain ⟨j, rfl⟩ : ∃ j : Nat, t = (j : Int) := ⟨t.toNat, by omega⟩
  rw [sendP_ok hab hb h3]
  have := send_ok h hB hi i j b hab hb h3 (hst _)
  simpa using this
theorem dblP_no {x : Nt} {i : Int} (h : getP x.fl i = none) : dblP x i = (x, 0, 7) := by unfold dblP; rw [h]
theorem dblP_many {x : Nt} {i : Int} {p : Pk} (h : getP x.fl i = some p) (h2 : 1024 ≤ x.fl.length) : dblP x i = (x, 0, 6) := by unfold dblP; rw [h]; simp [h2]
theorem dblP_ok {x : Nt} {i : Int} {p : Pk} (h : getP x.fl i = some p) (h2 : ¬ 1024 ≤ x.fl.length) : dblP x i = ({ x with ids := x.ids + 1, fl := x.fl ++ [{ p with id := x.ids + 1, hl := 0 }] }, x.ids + 1, 0) := by unfold dblP; rw [h]; simp [h2]
set_option maxRecDepth 100000 in
set_option maxHeartbeats 3200000 in
theorem double_any {w : World} {B a : Nat} {F H : Value} {x : Nt} (h : IsN w B a F H x) (hB : B ≤ w.heap.size) (hi : x.ids ≤ 1000000000) (i : Int) :
    Calls Try.prog 19 #[.pointer (some ⟨a, 0, none⟩), .int .i64 i] w fun e w' => e = .returned (.tuple #[.int .i64 ((dblP x i).2.1 : Int), .int .i64 (dblP x i).2.2]) ∧ WentN B a F H (dblP x i).1 w w' := by
  have hh := has_any h i
  have H0 := Lib.hid h
  rcases hg : getP x.fl i with _ | p
  · rw [dblP_no hg]
    rw [hg] at hh
    clear h hi hg
    go_enter Try.func19, Try.ntmps19
    go_wp2_with fail
    refine hh.mono ?_
    rintro e w1 ⟨rfl, rfl⟩
    go_wp2_with fail
    go_returns
    exact ⟨rfl, WentN.same H0.out (Below.refl _ _)⟩
  rw [hg] at hh
  have hF := full_any h
  by_cases hd : 1024 ≤ x.fl.length
  · rw [dblP_many hg hd]
    rw [show decide (1024 ≤ x.fl.length) = true by simpa using hd] at hF
    clear h hi hg hd
    go_enter Try.func19, Try.ntmps19
    go_wp2_with fail
    refine hh.mono ?_
    rintro e w1 ⟨rfl, rfl⟩
    go_wp2_with fail
    refine hF.mono ?_
    rintro e w1 ⟨rfl, rfl⟩
    go_wp2_with fail
    go_returns
    exact ⟨rfl, WentN.same H0.out (Below.refl _ _)⟩
  rw [dblP_ok hg hd]
  rw [show decide (1024 ≤ x.fl.length) = false by simpa using hd] at hF
  obtain ⟨k, rfl, hk, hkl, _⟩ := getP_some hg
  have c1 := h.c0.2.1
  obtain ⟨gg, gc, rfl⟩ := own_slice h.rowF (by omega)
  obtain ⟨hla, _, _, _⟩ := laid_of_own h.rowF
  obtain ⟨t0, t1, t2, t3, t4⟩ := hla.at5 hk
  have b1 : Below w.heap.size w (w.alloc (.cells (pkCells p) PkT)) := (Below.refl _ _).alloc (Nat.le_refl _) _
  have hL := launch_any (h.below b1) (Nat.le_trans hB b1.size) (by omega) hi p.fr p.tt p.bd
  have B1 := Lib.hid b1
  have i0 : (0 : Int) ≤ (k : Int) := by omega
  have i1 : (k : Int) < (x.fl.length : Int) := by omega
  have fl0 : ∀ W : World, (Instr.field PkT (Pk.val ⟨x.ids + 1, p.fr, p.tt, p.bd, 0⟩) 0).run Try.prog W = .ok (.int .i64 ((x.ids : Int) + 1)) W := fun W => by kernel_rfl
  clear h hi hg hd hk hla b1 hB
  go_enter Try.func19, Try.ntmps19
  go_wp2_with fail
  refine hh.mono ?_
  rintro e w1 ⟨rfl, rfl⟩
  go_wp2_with fail
  refine hF.mono ?_
  rintro e w1 ⟨rfl, rfl⟩
  clear hh hF
  go_wp2_with fail
  refine hL.mono ?_
  rintro e w1 ⟨rfl, h1⟩
  have H1 := Lib.hid (WentN.from_ (touch_of_below B1.out _) h1)
  clear hL h1
  go_wp2_with fail
  go_returns
  exact ⟨rfl, H1.out⟩
end Go.Proofs.Ytgnmieobgdbafaa
