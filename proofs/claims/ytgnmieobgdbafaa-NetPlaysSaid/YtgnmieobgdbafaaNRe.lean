/-
  The document's Deliver, Double, Ready, Same; the law's ints. (Written by gen_nre.py.)
-/
import Derived.Test.YtgnmieobgdbafaaNRd
namespace Go.Proofs.Ytgnmieobgdbafaa
open Go.RowKit
set_option linter.unusedVariables false
set_option maxRecDepth 100000 in
set_option maxHeartbeats 3200000 in
theorem rdel_no {w : World} {B a : Nat} {F H : Value} {x : Nt} (h : IsM w B a F H x) (hn : ∀ p ∈ x.fl, p.fr < 3 ∧ p.tt < 3) (i : Int) (hs : mayP x i ≠ 0) :
    Calls Try.prog 29 #[.pointer (some ⟨a, 0, none⟩), .int .i64 i] w fun e w' => e = .returned (.tuple #[zeroP.val, .int .i64 (mayP x i)]) ∧ WentM B a F H x w w' := by
  have b1 : Below w.heap.size w (w.alloc (.cells zC PkT)) := (Below.refl _ _).alloc (Nat.le_refl _) _
  have hst := may_any (h.below b1) hn i
  have H0 := Lib.hid h
  have B1 := Lib.hid b1
  have Z1 := Lib.hid (heap_alloc_new w (.cells zC PkT))
  have HLT : Hid (w.heap.size < (w.alloc (.cells zC PkT)).heap.size) := Lib.hid (by simp)
  clear h b1 hn
  generalize mayP x i = s at *
  have hs2 : (s == 0) = false := by simpa using hs
  have hs3 : decide (s = 0) = false := by simpa using hs
  go_enter Try.func29, Try.ntmps29
  go_wp2_with fail
  refine hst.mono ?_
  rintro e w2 ⟨rfl, b2⟩
  have z2 := (b2.block w.heap.size HLT.out).trans Z1.out
  have B2 := Lib.hid (B1.out.trans (b2.mono B1.out.size))
  have Z2 := Lib.hid z2
  clear hst b2
  obtain ⟨q0, q1, q2, q3, q4⟩ := pk5 (p := zeroP) z2
  obtain ⟨f0, f1, f2, f3, f4⟩ := frz5 z2
  clear z2
  go_wp2_with fail
  have hz := setB_is (q := zeroP) (p := zeroP) Z2.out
  rw [show (((((w2.setCell ⟨w.heap.size, 0, none⟩ (.int .i64 0)).setCell ⟨w.heap.size, 1, none⟩ (.int .i64 0)).setCell ⟨w.heap.size, 2, none⟩ (.int .i64 0)).setCell ⟨w.heap.size, 3, none⟩ (.string ⟨#[]⟩)).setCell ⟨w.heap.size, 4, none⟩ (.int .i64 0)) = setB w2 w.heap.size zeroP from rfl]
  have tz := setB_touch w2 w.heap.size zeroP
  generalize setB w2 w.heap.size zeroP = w3 at *
  clear q0 q1 q2 q3 q4 f0 f1 f2 f3 f4
  obtain ⟨q0, q1, q2, q3, q4⟩ := pk5 (p := zeroP) hz
  refine bodyPost_ret (v := .tuple #[zeroP.val, .int .i64 s]) (by simp [results, Try.results29, go_sem, q0, q1, q2, q3, q4]) rfl ⟨rfl, WentM.same H0.out (B2.out.trans (tz.below (by exact B2.out.size) (fun j hj => by omega)))⟩
set_option maxRecDepth 100000 in
set_option maxHeartbeats 3200000 in
theorem rdel_ok {w : World} {B a : Nat} {F H : Value} {x : Nt} (h : IsM w B a F H x) (hB : B ≤ w.heap.size) (hl : x.fl.length ≤ 5000) (hn : ∀ p ∈ x.fl, p.fr < 3 ∧ p.tt < 3) (k : Nat) (p : Pk) (hk : x.fl[k]? = some p) (hs : stopP x p = 0) (hcm : x.cm (lk p.fr p.tt) ≤ 1000000000 ∧ -1000000000 ≤ x.cm (lk p.fr p.tt)) :
    Calls Try.prog 29 #[.pointer (some ⟨a, 0, none⟩), .int .i64 (k : Int)] w fun e w' => e = .returned (.tuple #[p.val, .int .i64 0]) ∧ WentM B a F H { x with fl := outP x.fl k, cm := upd x.cm (lk p.fr p.tt) (x.cm (lk p.fr p.tt) + 1) } w w' := by
  have b1 : Below w.heap.size w (w.alloc (.cells zC PkT)) := (Below.refl _ _).alloc (Nat.le_refl _) _
  have hst := may_any (h.below b1) hn (k : Int)
  rw [show mayP x (k : Int) = 0 by unfold mayP; rw [getP_at hk]; exact hs] at hst
  have H0 := Lib.hid h
  have H1 := Lib.hid (h.below b1)
  have B1 := Lib.hid b1
  have Z1 := Lib.hid (heap_alloc_new w (.cells zC PkT))
  have HLL := Lib.hid hl
  have HF := Lib.hid (hn p (List.mem_of_getElem? hk))
  have HK := Lib.hid hk
  have HCM := Lib.hid hcm
  have HBB := Lib.hid hB
  have HLT : Hid (w.heap.size < (w.alloc (.cells zC PkT)).heap.size) := Lib.hid (by simp)
  clear h hk b1 hs hl hcm hn hB
  go_enter Try.func29, Try.ntmps29
  go_wp2_with fail
  refine hst.mono ?_
  rintro e w2 ⟨rfl, b2⟩
  have Z2 := Lib.hid ((b2.block w.heap.size HLT.out).trans Z1.out)
  have H2 := Lib.hid (H1.out.below b2)
  have B2 := Lib.hid (B1.out.trans (b2.mono B1.out.size))
  have HL2 := Lib.hid (Nat.lt_of_lt_of_le HLT.out b2.size)
  have htk := rout_any H2.out (Nat.le_trans HBB.out B2.out.size) k p HK.out HLL.out
  clear hst b2
  go_wp2_with fail
  refine htk.mono ?_
  rintro e w3 ⟨rfl, h3⟩
  clear htk
  have Z3 := Lib.hid ((WentM.box H0.out h3 (Nat.le_refl _) HL2.out).trans Z2.out)
  obtain ⟨F3, H3, i3, t3, o3⟩ := h3
  have b4 : Below w3.heap.size w3 (w3.alloc (.cells (pkCells p) PkT)) := (Below.refl _ _).alloc (Nat.le_refl _) _
  have I4 := Lib.hid (i3.below b4)
  have Z4 := Lib.hid ((b4.block w.heap.size (by have := HL2.out; have := t3.size; omega)).trans Z3.out)
  have P4 := Lib.hid (show (w3.alloc (.cells (pkCells p) PkT)).heap[w3.heap.size]? = some (.cells (pkCells p) PkT) from heap_alloc_new _ _)
  have T4 := Lib.hid ((touch_of_below B2.out _).trans (t3.trans (touch_of_below b4 _)))
  have O3 := Lib.hid o3
  have S3 := Lib.hid (show w.heap.size ≤ w3.heap.size ∧ w.heap.size < w2.heap.size ∧ a < w3.heap.size from ⟨by have := t3.size; have := HL2.out; omega, HL2.out, i3.lt⟩)
  clear i3 t3 o3 b4
  go_upto_region 5 with fail
  generalize (w3.alloc (.cells (pkCells p) PkT)) = w4 at *
  obtain ⟨_, _, a1, a2⟩ := arrM
  have hf := HF.out.1
  have ht := HF.out.2
  obtain ⟨_, _, l1⟩ := I4.out.link (lk_lt hf ht)
  have q1 := I4.out.frz (21 + p.fr * 3 + p.tt)
  have I5 := Lib.hid ((I4.out.set (y := { x with fl := outP x.fl k, cm := upd x.cm (lk p.fr p.tt) (x.cm (lk p.fr p.tt) + 1) }) (21 + lk p.fr p.tt) (.int .i64 (x.cm (lk p.fr p.tt) + 1)) rfl rfl (fun cur hc => hc.setM (lk_lt hf ht) _)).below (bd _))
  have T5 := Lib.hid (((touch_set w4 a (21 + lk p.fr p.tt) (.int .i64 (x.cm (lk p.fr p.tt) + 1)) (fun j => j = a) rfl)).trans (touch_drew _ _))
  have hws : IntKind.i64.wrap (x.cm (lk p.fr p.tt) + 1) = x.cm (lk p.fr p.tt) + 1 := IntWalk.i64_in _ (by have := HCM.out; omega)
  unfold lk at l1 hws I5 T5
  rw [show 21 + (p.fr * 3 + p.tt) = 21 + p.fr * 3 + p.tt by omega] at l1 I5 T5
  obtain ⟨r0, r1, r2, r3, r4⟩ := pk5 P4.out
  have u0 : (0 : Int) ≤ (p.fr : Int) := by omega
  have u1 : (0 : Int) ≤ (p.tt : Int) := by omega
  have u2 : (p.fr : Int) < 3 := by omega
  have u3 : (p.tt : Int) < 3 := by omega
  have hz5 := (T5.out.block w.heap.size (Array.getElem?_eq_some_iff.1 Z4.out).1 (fun e => by have := H0.out.lt; omega)).trans Z4.out
  have hp5 := (T5.out.block w3.heap.size (Array.getElem?_eq_some_iff.1 P4.out).1 (fun e => by have := S3.out; omega)).trans P4.out
  go_region
  all_goals
    clear r0 r1 r2 r3 r4 l1 q1
    generalize (w4.setCell ⟨a, 21 + p.fr * 3 + p.tt, none⟩ (.int .i64 (x.cm (p.fr * 3 + p.tt) + 1))).drew = w5 at *
    obtain ⟨r0, r1, r2, r3, r4⟩ := pk5 hp5
    obtain ⟨q0, q1, q2, q3, q4⟩ := pk5 (p := zeroP) hz5
    obtain ⟨f0, f1, f2, f3, f4⟩ := frz5 hz5
    have hz := setB_is (q := zeroP) (p := p) hz5
    have tz := setB_touch w5 w.heap.size p
    have HZ := Lib.hid hz
    have TZ := Lib.hid tz
    clear hz tz hz5 hp5
    go_wp2_with fail
    rw [show (((((w5.setCell ⟨w.heap.size, 0, none⟩ (.int .i64 p.id)).setCell ⟨w.heap.size, 1, none⟩ (.int .i64 (p.fr : Int))).setCell ⟨w.heap.size, 2, none⟩ (.int .i64 (p.tt : Int))).setCell ⟨w.heap.size, 3, none⟩ (.string p.bd)).setCell ⟨w.heap.size, 4, none⟩ (.int .i64 p.hl)) = setB w5 w.heap.size p from rfl]
    generalize setB w5 w.heap.size p = w6 at *
    clear q0 q1 q2 q3 q4 f0 f1 f2 f3 f4 r0 r1 r2 r3 r4
    obtain ⟨q0, q1, q2, q3, q4⟩ := pk5 HZ.out
    refine bodyPost_ret (v := .tuple #[p.val, .int .i64 0]) (by simp [results, Try.results29, go_sem, q0, q1, q2, q3, q4]) rfl ⟨rfl, F3, H3, I5.out.keep TZ.out (fun j hj e => ?_), ?_, fun j hj => (O3.out j hj).imp id (fun h => by have := S3.out; omega)⟩
    · subst e
      rcases O3.out _ hj with h1 | h1
      · have := (H0.out.own_lt h1).2; omega
      · have := S3.out; omega
    · exact (T4.out.step T5.out (fun j hj => .inl (.inl hj))).step TZ.out (fun j hj => .inr (by omega))
theorem rdeliver_any {w : World} {B a : Nat} {F H : Value} {x : Nt} (h : IsM w B a F H x) (hB : B ≤ w.heap.size) (hl : x.fl.length ≤ 5000) (i : Int) (hn : ∀ p ∈ x.fl, p.fr < 3 ∧ p.tt < 3) (hcm : ∀ k, x.cm k ≤ 1000000000 ∧ -1000000000 ≤ x.cm k) :
    Calls Try.prog 29 #[.pointer (some ⟨a, 0, none⟩), .int .i64 i] w fun e w' => e = .returned (.tuple #[(delP x i).2.1.val, .int .i64 (delP x i).2.2]) ∧ WentM B a F H (delP x i).1 w w' := by
  rcases hg : getP x.fl i with _ | p
  · rw [delP_no hg]
    have e : mayP x i = 7 := by unfold mayP; rw [hg]
    have := rdel_no h hn i (by rw [e]; decide)
    rw [e] at this; exact this
  obtain ⟨k, rfl, hk, hkl, _⟩ := getP_some hg
  by_cases hs : stopP x p = 0
  · rw [delP_ok hg hs]; exact rdel_ok h hB hl hn k p hk hs (hcm _)
  · rw [delP_stop hg hs]
    have e : mayP x (k : Int) = stopP x p := by unfold mayP; rw [hg]
    have := rdel_no h hn (k : Int) (by rw [e]; exact hs)
    rw [e] at this; exact this
set_option maxRecDepth 100000 in
set_option maxHeartbeats 3200000 in
theorem rdbl_ok {w : World} {B a : Nat} {F H : Value} {x : Nt} (h : IsM w B a F H x) (hB : B ≤ w.heap.size) (hi : x.ids ≤ 1000000000) (k : Nat) (p : Pk) (hk : x.fl[k]? = some p) (h3 : ¬ 1024 ≤ x.fl.length) :
    Calls Try.prog 31 #[.pointer (some ⟨a, 0, none⟩), .int .i64 (k : Int)] w fun e w' => e = .returned (.tuple #[.int .i64 ((x.ids : Int) + 1), .int .i64 0]) ∧ WentM B a F H { x with ids := x.ids + 1, fl := x.fl ++ [⟨x.ids + 1, p.fr, p.tt, p.bd, 0⟩] } w w' := by
  have hA := rplace_any h (k : Int)
  rw [show (getP x.fl (k : Int)).isSome = true by rw [getP_at hk]; rfl] at hA
  have hkl := (List.getElem?_eq_some_iff.1 hk).1
  obtain ⟨aF1, cF1, rfl⟩ := slice_of h.rowF
  obtain ⟨aH1, cH1, rfl⟩ := slice_of h.rowH
  have c0 := h.c0.1
  have c1 := h.c0.2.1
  have fz := h.frz 2
  have H0 := Lib.hid h
  have HFL := Lib.hid (show x.fl.length ≤ 1000000 by omega)
  have d4 : decide ((1024 : Int) ≤ (x.fl.length : Int)) = false := by simp; omega
  have d5 : decide (1024 ≤ x.fl.length) = false := by simp; omega
  have hw1 : IntKind.i64.wrap ((x.ids : Int) + 1) = (x.ids : Int) + 1 := IntWalk.i64_in _ (by omega)
  have I0 := Lib.hid (h.set (y := { x with ids := x.ids + 1 }) 2 (.int .i64 ((x.ids : Int) + 1)) rfl rfl (fun cur hc => hc.set0 (x.ids + 1)))
  have T0 := Lib.hid (touch_set w a 2 (.int .i64 ((x.ids : Int) + 1)) (OwnN a (.slice aF1 (x.fl).length cF1) (.slice aH1 (x.hd).length cH1)) (.inl rfl))
  have HB0 := Lib.hid hB
  have HK := Lib.hid hk
  have i0 : (0 : Int) ≤ (k : Int) := by omega
  have i1 : (k : Int) < (x.fl.length : Int) := by omega
  clear h hi hB hk
  go_enter Try.func31, Try.ntmps31
  go_wp2_with fail
  refine hA.mono ?_
  rintro e w1 ⟨rfl, rfl⟩
  clear hA
  go_upto_region 6 with fail
  generalize (w.setCell ⟨a, 2, none⟩ (.int .i64 ((x.ids : Int) + 1))) = w1 at *
  clear c0 c1 fz d4 d5 hw1
  have c0 : w1.cell? ⟨a, 2, none⟩ = some (.int .i64 ((x.ids : Int) + 1)) := I0.out.c0.1
  have c1 := I0.out.c0.2.1
  obtain ⟨gg, gc, hg⟩ := own_slice I0.out.rowF (show 0 < x.fl.length by omega)
  have hg2 : aF1 = some ⟨gg, 0, none⟩ := by
    have e2 := hg; simp only [Value.slice.injEq] at e2; exact e2.1
  subst hg2
  have hla := (laid_of_own (show w1.ownsRow B PkT 5 _ x.fl.length (pks x.fl) from I0.out.rowF)).1
  obtain ⟨t0, t1, t2, t3, t4⟩ := hla.at5 HK.out
  have b2 : Below w1.heap.size w1 (w1.alloc (.cells (pkCells p) PkT)) := (Below.refl _ _).alloc (Nat.le_refl _) _
  have Y0 : Hid ((w1.alloc (.cells (pkCells p) PkT)).heap[w1.heap.size]? = some (.cells (pkCells p) PkT)) := Lib.hid (heap_alloc_new w1 _)
  have KN1 := Lib.hid (show ¬ OwnN a (.slice (some ⟨gg, 0, none⟩) (x.fl).length cF1) (.slice aH1 (x.hd).length cH1) w1.heap.size from fun e => by have := (I0.out.own_lt e).2; omega)
  have J1 := Lib.hid (I0.out.below b2)
  have U1 := Lib.hid (T0.out.trans (touch_of_below b2 _))
  clear b2 hg hla
  go_upto_region 7 with fail
  clear t0 t1 t2 t3 t4 c0 c1
  generalize (w1.alloc (.cells (pkCells p) PkT)) = V1 at *
  have c0 : V1.cell? ⟨a, 2, none⟩ = some (.int .i64 ((x.ids : Int) + 1)) := J1.out.c0.1
  obtain ⟨y0, y1, y2, y3, y4⟩ := pk5 Y0.out
  obtain ⟨f0, f1, f2, f3, f4⟩ := frz5 Y0.out
  have Y1 : Hid (((V1.setCell ⟨w1.heap.size, 0, none⟩ (.int .i64 ((x.ids : Int) + 1))).setCell ⟨w1.heap.size, 4, none⟩ (.int .i64 0)).heap[w1.heap.size]? = some (.cells (pkCells ⟨x.ids + 1, p.fr, p.tt, p.bd, 0⟩) PkT)) := Lib.hid (by
    have := setCellB (j := 4) (u := .int .i64 0) (setCellB (j := 0) (u := .int .i64 ((x.ids : Int) + 1)) Y0.out)
    simpa using this)
  have TB := Lib.hid ((touch_set V1 w1.heap.size 0 (.int .i64 ((x.ids : Int) + 1)) (fun j => j = w1.heap.size) rfl).trans (touch_set _ w1.heap.size 4 (.int .i64 0) (fun j => j = w1.heap.size) rfl))
  have I1 := Lib.hid (J1.out.keep TB.out (fun j hj e => KN1.out (e ▸ hj)))
  have T1 := Lib.hid (U1.out.step TB.out (fun j hj => .inr (by have := T0.out.size; omega)))
  have HB1 := Lib.hid (Nat.le_trans HB0.out T1.out.size)
  go_upto_region 9 with fail
  clear y0 y1 y2 y3 y4 f0 f1 f2 f3 f4 c0
  generalize ((V1.setCell ⟨w1.heap.size, 0, none⟩ (.int .i64 ((x.ids : Int) + 1))).setCell ⟨w1.heap.size, 4, none⟩ (.int .i64 0)) = W1 at *
  have bD : Below W1.heap.size W1 W1.drew := bd W1
  have hS : W1.drew.cell? ⟨a, 0, none⟩ = some (.slice (some ⟨gg, 0, none⟩) (x.fl).length cF1) ∧ W1.drew.heap[w1.heap.size]? = some (.cells (pkCells ⟨x.ids + 1, p.fr, p.tt, p.bd, 0⟩) PkT) := ⟨(I1.out.below bD).c0.2.1, Y1.out⟩
  refine lq_start [0, 1, 2, 3, 4, 5, 6, 7, 8, 9, 10] 10 (S := fun V => V.cell? ⟨a, 0, none⟩ = some (.slice (some ⟨gg, 0, none⟩) (x.fl).length cF1) ∧ V.heap[w1.heap.size]? = some (.cells (pkCells ⟨x.ids + 1, p.fr, p.tt, p.bd, 0⟩) PkT)) (by kernel_rfl) ?_
  simp only [inOrder, List.filterMap, List.getElem?_cons_succ, List.getElem?_cons_zero]
  iterate 6 (refine lq_take rfl (by kernel_rfl) (by rfl) hS (by (rintro V ⟨s0, s1⟩; obtain ⟨r0, r1, r2, r3, r4⟩ := pk5 s1; go_simp) <;> with_reducible rfl) ?_); simp only [Act.put, List.setIfInBounds_toArray, List.set_cons_zero, List.set_cons_succ]
  refine lq_do rfl (by kernel_rfl) (by rfl) (fun K hK => ?_)
  go_simp
  have b3 : Below W1.heap.size W1 (W1.alloc (.cells (pkCells ⟨x.ids + 1, p.fr, p.tt, p.bd, 0⟩) PkT)).drew := balN W1 _
  have hy3 : (W1.alloc (.cells (pkCells ⟨x.ids + 1, p.fr, p.tt, p.bd, 0⟩) PkT)).drew.heap[W1.heap.size]? = some (.cells (pkCells ⟨x.ids + 1, p.fr, p.tt, p.bd, 0⟩) PkT) := heap_alloc_new W1 _
  have IX3 := Lib.hid (I1.out.below b3)
  have HYX3 := Lib.hid hy3
  have TX3 := Lib.hid (touch_of_below b3 (OwnN a (.slice (some ⟨gg, 0, none⟩) (x.fl).length cF1) (.slice aH1 (x.hd).length cH1)))
  have HPX3 := Lib.hid ((b3.block (w1.heap.size) (Array.getElem?_eq_some_iff.1 Y1.out).1).trans Y1.out)
  have HSX3 : Hid ((W1.alloc (.cells (pkCells ⟨x.ids + 1, p.fr, p.tt, p.bd, 0⟩) PkT)).drew.heap.size = W1.heap.size + 1) := Lib.hid (by simp)
  show K _ (W1.alloc (.cells (pkCells ⟨x.ids + 1, p.fr, p.tt, p.bd, 0⟩) PkT)).drew
  generalize (W1.alloc (.cells (pkCells ⟨x.ids + 1, p.fr, p.tt, p.bd, 0⟩) PkT)).drew = V3 at *
  refine hK _ _ ⟨fun _ => ⟨IX3.out.c0.2.1, HPX3.out⟩, ?_⟩
  clear hK K hS bD b3 hy3
  try simp only [Act.put, List.setIfInBounds_toArray, List.set_cons_zero, List.set_cons_succ]
  refine lq_do rfl (by kernel_rfl) (by rfl) (fun K hK => ?_)
  refine wp_app1 (.tmp 41) (.tmp 43) rfl B _ (x.fl) rfl IX3.out.rowF W1.heap.size ⟨x.ids + 1, p.fr, p.tt, p.bd, 0⟩ rfl HYX3.out (HFL.out) (Nat.le_trans HB1.out TX3.out.size) ?_
  intro v4 w4 o4 g4 at4
  obtain ⟨g2, c2, rfl⟩ := own_slice o4 (by simp)
  rw [show ((x.fl) ++ [(⟨x.ids + 1, p.fr, p.tt, p.bd, 0⟩ : Pk)]).length = (x.fl).length + 1 by simp] at o4 at4
  have t4 := touch_of_grown g4 (fun j => (Value.slice (some ⟨gg, 0, none⟩) (x.fl).length cF1).ownBlock = some j) (fun j hj => hj)
  have hnr := IX3.out.ne_row
  have ha4 := t4.block a IX3.out.lt (fun e => hnr.1 e)
  have hp4 := (t4.block (w1.heap.size) (Array.getElem?_eq_some_iff.1 HPX3.out).1 (fun e => KN1.out (.inr (.inl e)))).trans HPX3.out
  have hv4 : ∀ j, (Value.slice (some ⟨g2, 0, none⟩) ((x.fl).length + 1) c2).ownBlock = some j → (Value.slice (some ⟨gg, 0, none⟩) (x.fl).length cF1).ownBlock = some j ∨ V3.heap.size ≤ j := fun j hj => by
    rcases at4 with e | e
    · exact .inl (e ▸ hj)
    · rw [e] at hj; cases hj; exact .inr (Nat.le_refl _)
  have IX4 := Lib.hid (IX3.out.newF (L := (x.fl) ++ [⟨x.ids + 1, p.fr, p.tt, p.bd, 0⟩]) t4 (by rw [List.length_append]; exact o4) hv4)
  have ca4 : w4.cell? ⟨a, 0, none⟩ = some (.slice (some ⟨gg, 0, none⟩) (x.fl).length cF1) := by have := IX3.out.c0.2.1; unfold World.cell? at this ⊢; rw [ha4]; exact this
  have fa4 : w4.frozen? ⟨a, 0, none⟩ = false := by have := IX3.out.frz 0; unfold World.frozen? at this ⊢; rw [ha4]; exact this
  have HPX4 := Lib.hid hp4
  have CAX4 := Lib.hid ca4
  have HVX4 := Lib.hid (show ∀ j, (Value.slice (some ⟨g2, 0, none⟩) ((x.fl).length + 1) c2).ownBlock = some j → (Value.slice (some ⟨gg, 0, none⟩) (x.fl).length cF1).ownBlock = some j ∨ W1.heap.size ≤ j from fun j hj => (hv4 j hj).imp id (fun h => by have := HSX3.out; omega))
  have TX4 := Lib.hid (TX3.out.trans (t4.mono (fun j _ hj => (.inr (.inl hj) : OwnN a (.slice (some ⟨gg, 0, none⟩) (x.fl).length cF1) (.slice aH1 (x.hd).length cH1) j))))
  refine hK _ _ ⟨fun _ => ⟨ca4, hp4⟩, ?_⟩
  clear hK K t4 hnr ha4 hp4 hv4 o4 g4 at4
  try simp only [Act.put, List.setIfInBounds_toArray, List.set_cons_zero, List.set_cons_succ]
  iterate 2 (refine lq_take rfl (by kernel_rfl) (by rfl) ⟨CAX4.out, HPX4.out⟩ (by (rintro V ⟨s0, s1⟩; go_simp) <;> with_reducible rfl) ?_); simp only [Act.put, List.setIfInBounds_toArray, List.set_cons_zero, List.set_cons_succ]
  refine lq_do rfl (by kernel_rfl) (by rfl) (fun K hK => ?_)
  go_simp
  refine hK _ _ ⟨fun e => absurd rfl e, ?_⟩
  clear hK K ca4 fa4
  refine lq_done (by kernel_rfl) ?_
  have T2 := Lib.hid (TX4.out.trans (touch_set w4 a 0 (.slice (some ⟨g2, 0, none⟩) ((x.fl).length + 1) c2) (OwnN a (.slice (some ⟨gg, 0, none⟩) (x.fl).length cF1) (.slice aH1 (x.hd).length cH1)) (.inl rfl)))
  have Y2 : Hid ((w4.setCell ⟨a, 0, none⟩ (.slice (some ⟨g2, 0, none⟩) ((x.fl).length + 1) c2)).heap[w1.heap.size]? = some (.cells (pkCells ⟨x.ids + 1, p.fr, p.tt, p.bd, 0⟩) PkT)) := Lib.hid (by
    rw [Below.heap_setCell _ _ _ _ (show w1.heap.size ≠ a from fun e => KN1.out (.inl e))]; exact HPX4.out)
  have I2 := IX4
  generalize (w4.setCell ⟨a, 0, none⟩ (.slice (some ⟨g2, 0, none⟩) ((x.fl).length + 1) c2)) = W2 at *
  clear IX4
  have KB2 := Lib.hid (show ∀ j, OwnN a (.slice (some ⟨g2, 0, none⟩) ((x.fl).length + 1) c2) (.slice aH1 (x.hd).length cH1) j → OwnN a (.slice (some ⟨gg, 0, none⟩) (x.fl).length cF1) (.slice aH1 (x.hd).length cH1) j ∨ W1.heap.size ≤ j from fun j hj => by
    rcases hj with hj | hj | hj
    · exact .inl (.inl hj)
    · exact (HVX4.out j hj).imp (fun e => .inr (.inl e)) id
    · exact .inl (.inr (.inr hj)))
  have KN2 := Lib.hid (show ¬ OwnN a (.slice (some ⟨g2, 0, none⟩) ((x.fl).length + 1) c2) (.slice aH1 (x.hd).length cH1) (w1.heap.size) from fun e => by
    rcases KB2.out _ e with e | e
    · exact KN1.out e
    · have := (Array.getElem?_eq_some_iff.1 Y1.out).1; omega)
  have HB2 := Lib.hid (Nat.le_trans HB1.out T2.out.size)
  clear HVX4 CAX4 HPX4 HPX3 HSX3 HYX3 IX3 TX3 TX4
  have HE : Hid (WentM B a (.slice (some ⟨gg, 0, none⟩) (x.fl).length cF1) (.slice aH1 (x.hd).length cH1) { x with ids := x.ids + 1, fl := x.fl ++ [⟨x.ids + 1, p.fr, p.tt, p.bd, 0⟩] } w W2) := Lib.hid ⟨_, _, I2.out, T1.out.step T2.out (fun j hj => .inl hj), fun j hj => (KB2.out j hj).imp id (fun h => Nat.le_trans T1.out.size h)⟩
  have c9 := I2.out.c0.1
  go_wp2_with fail
  go_returns
  exact ⟨by simp, HE.out⟩
set_option maxRecDepth 100000 in
set_option maxHeartbeats 3200000 in
theorem rdouble_any {w : World} {B a : Nat} {F H : Value} {x : Nt} (h : IsM w B a F H x) (hB : B ≤ w.heap.size) (hi : x.ids ≤ 1000000000) (i : Int) :
    Calls Try.prog 31 #[.pointer (some ⟨a, 0, none⟩), .int .i64 i] w fun e w' => e = .returned (.tuple #[.int .i64 ((dblP x i).2.1 : Int), .int .i64 (dblP x i).2.2]) ∧ WentM B a F H (dblP x i).1 w w' := by
  have hh := rplace_any h i
  rcases hg : getP x.fl i with _ | p
  · rw [dblP_no hg]
    rw [hg] at hh
    have H0 := Lib.hid h
    clear h hi hg
    go_enter Try.func31, Try.ntmps31
    go_wp2_with fail
    refine hh.mono ?_
    rintro e w1 ⟨rfl, rfl⟩
    go_wp2_with fail
    go_returns
    exact ⟨rfl, WentM.same H0.out (Below.refl _ _)⟩
  rw [hg] at hh
  by_cases hd : 1024 ≤ x.fl.length
  · rw [dblP_many hg hd]
    have H0 := Lib.hid h
    have c1 := h.c0.2.1
    obtain ⟨fa, fc, rfl⟩ := slice_of h.rowF
    have d4 : decide ((1024 : Int) ≤ (x.fl.length : Int)) = true := by simp; omega
    have d5 : decide (1024 ≤ x.fl.length) = true := by simp; omega
    clear h hi hg
    go_enter Try.func31, Try.ntmps31
    go_wp2_with fail
    refine hh.mono ?_
    rintro e w1 ⟨rfl, rfl⟩
    go_wp2_with fail
    go_returns
    exact ⟨rfl, WentM.same H0.out (Below.refl _ _)⟩
  rw [dblP_ok hg hd]
  obtain ⟨k, rfl, hk, _, _⟩ := getP_some hg
  have := rdbl_ok h hB hi k p hk hd
  simpa using this
set_option maxRecDepth 100000 in
set_option maxHeartbeats 3200000 in
theorem rready_any {w : World} {B a : Nat} {F H : Value} {x : Nt} (h : IsM w B a F H x) (hl : x.fl.length ≤ 5000) (hn : ∀ p ∈ x.fl, p.fr < 3 ∧ p.tt < 3) :
    Calls Try.prog 38 #[.pointer (some ⟨a, 0, none⟩)] w fun e w' => (∃ v', e = .returned v' ∧ w'.ownsRow w.heap.size ElI 1 v' (readyP x x.fl 0).length (ints (readyP x x.fl 0))) ∧ Below w.heap.size w w' := by
  obtain ⟨fa, fc, rfl⟩ := slice_of h.rowF
  have H0 := Lib.hid h
  have HL := Lib.hid hl
  have HN := Lib.hid hn
  clear h hl hn
  go_enter Try.func38, Try.ntmps38
  go_wp2_with fail
  go_loopw [4, 3] (fun v u wr => ∃ k : Nat, v = .int .i64 (k : Int) ∧ k ≤ x.fl.length ∧ wr.ownsRow w.heap.size ElI 1 u (readyP x (x.fl.take k) 0).length (ints (readyP x (x.fl.take k) 0)) ∧ Below w.heap.size w wr) (fun v _ _ => x.fl.length - (intOf v).toNat)
  case atStart => exact ⟨0, rfl, Nat.zero_le _, World.ownsRow_nil _ _ _ 1, Below.refl _ _⟩
  case round =>
    obtain ⟨k, rfl, hk, hO, hb⟩ := hrel
    have HO := Lib.hid hO
    have HB := Lib.hid hb
    have c1 := (H0.out.below hb).c0.2.1
    clear hO hb
    by_cases hlt : k < x.fl.length
    · obtain ⟨p, hp⟩ : ∃ p, x.fl[k]? = some p := ⟨_, List.getElem?_eq_getElem hlt⟩
      have hst := may_any (H0.out.below HB.out) HN.out (k : Int)
      rw [show mayP x (k : Int) = stopP x p by unfold mayP; rw [getP_at hp]] at hst
      have HRT := Lib.hid (ready_take x hp)
      have i0 : (0 : Int) ≤ (k : Int) := by omega
      have i1 : (k : Int) < (x.fl.length : Int) := by omega
      have hw2 : IntKind.i64.wrap ((k : Int) + 1) = (k : Int) + 1 := IntWalk.i64_in _ (by have := HL.out; omega)
      have hp1 : decide ((k : Int) < (x.fl.length : Int)) = true := by simpa using hlt
      have HLT := Lib.hid hlt
      have HRL := Lib.hid (Nat.le_trans (readyP_len x (x.fl.take k) 0) (show (x.fl.take k).length ≤ 5000 by have := HL.out; simp; omega))
      generalize stopP x p = s at *
      clear hp hlt hk
      by_cases hs : s = 0
      · subst hs
        go_wp2_with fail
        refine hst.mono ?_
        rintro e w2 ⟨rfl, b2⟩
        have B2 := Lib.hid (bmore HB.out b2)
        have b3 : Below w2.heap.size w2 (w2.alloc (.cells #[.int .i64 (k : Int)] ElI)) := (Below.refl _ _).alloc (Nat.le_refl _) _
        have B3 := Lib.hid (bmore B2.out b3)
        have O3 := Lib.hid (own_hold (own_hold HO.out (Hold.below b2)) (Hold.below b3))
        have q5 := cellB (j := 0) (heap_alloc_new w2 (.cells #[.int .i64 (k : Int)] ElI)) rfl
        have Q5 := Lib.hid q5
        clear hst b2 b3 c1 q5
        go_wp2_with (at_builtin; refine wpList_appI rfl _ _ rfl w.heap.size _ (readyP x (x.fl.take k) 0) rfl O3.out _ (k : Int) rfl Q5.out (Nat.le_trans HRL.out (by decide)) B3.out.size ?_)
        intro v4 w4 o4 g4 at4
        have O4 : Hid (w4.ownsRow w.heap.size ElI 1 v4 (readyP x (x.fl.take (k + 1)) 0).length (ints (readyP x (x.fl.take (k + 1)) 0))) := Lib.hid (by rw [HRT.out, if_pos trivial]; simpa using o4)
        have B4 := Lib.hid (B3.out.grown g4 B3.out.size (fun j hj => (own_from O3.out hj).1))
        clear o4 g4 at4
        go_wp2_with fail
        go_roundw
        case rel => exact ⟨k + 1, by simp, HLT.out, O4.out, B4.out⟩
        case measure => have := HLT.out; simp [intOf]; omega
      · have hs2 : (s == 0) = false := by simpa using hs
        have hs3 : decide (s = 0) = false := by simpa using hs
        have HRT2 : Hid (readyP x (x.fl.take (k + 1)) 0 = readyP x (x.fl.take k) 0) := Lib.hid (by rw [HRT.out, if_neg hs])
        go_wp2_with fail
        refine hst.mono ?_
        rintro e w2 ⟨rfl, b2⟩
        have B2 := Lib.hid (bmore HB.out b2)
        have O2 := Lib.hid (own_hold HO.out (Hold.below b2))
        clear hst b2 c1
        go_wp2_with fail
        go_roundw
        case rel => exact ⟨k + 1, by simp, HLT.out, by rw [HRT2.out]; exact O2.out, B2.out⟩
        case measure => have := HLT.out; simp [intOf]; omega
    · obtain rfl : k = x.fl.length := by omega
      have hp1 : decide ((x.fl.length : Int) < (x.fl.length : Int)) = false := by simp
      clear hlt hk
      go_wp2_with fail
      go_returns
      have := HO.out
      rw [List.take_length] at this
      exact ⟨⟨_, rfl, this⟩, HB.out⟩
set_option maxRecDepth 100000 in
set_option maxHeartbeats 1600000 in
theorem ints15 {w : World} {va vb : Value} {l : List Int} (ha : Row w 1 va l.length (ints l)) (hb : Row w 1 vb l.length (ints l)) (hl : l.length < 1000000) :
    Calls Try.prog 37 #[va, vb] w fun e w' => e = .returned (.bool true) ∧ Drew w w' := by
  obtain ⟨aa, ca, rfl, xa⟩ := ha.at
  obtain ⟨ab, cb, rfl, xb⟩ := hb.at
  have XA := Lib.hid xa
  have XB := Lib.hid xb
  clear ha hb xa xb
  go_enter Try.func37, Try.ntmps37
  go_wp2_with fail
  go_loopw [5] (fun v wr => ∃ k m : Nat, v = .int .i64 (k : Int) ∧ k ≤ l.length ∧ wr = w.drewN m) (fun v _ => l.length - (intOf v).toNat)
  case atStart => exact ⟨0, 0, rfl, Nat.zero_le _, rfl⟩
  case round =>
    obtain ⟨k, m, rfl, hk, rfl⟩ := hrel
    by_cases hlt : k < l.length
    · obtain ⟨b1, o1, rfl, q1⟩ := XA.out (by omega)
      obtain ⟨b2, o2, rfl, q2⟩ := XB.out (by omega)
      have c1 := q1 k _ (ints_at l k hlt)
      have c2 := q2 k _ (ints_at l k hlt)
      clear q1 q2 XA XB
      generalize l[k] = x at *
      have hk0 : (0 : Int) ≤ (k : Int) := by omega
      have hk1 : (k : Int) < (l.length : Int) := by omega
      go_wp2_with fail
      go_quiet (fail)
      go_wp2_with fail
      go_roundw
      case rel => exact ⟨k + 1, m + nq, by go_num, by omega, by first | rfl | rw [World.drewN_drewN]⟩
      case measure => simp [intOf]; omega
    · obtain rfl : k = l.length := by omega
      go_wp2_with fail
      go_returns
      exact ⟨rfl, m, rfl⟩
theorem Row.packs {w : World} {v : Value} {L : List Pk} (h : Row w 5 v L.length (pks L)) : ∃ a c, v = .slice a L.length c ∧ (0 < L.length → ∃ b off, a = some ⟨b, off, none⟩ ∧ ∀ (k : Nat) (p : Pk), L[k]? = some p → w.cell? ⟨b, off + k * 5, none⟩ = some (.int .i64 p.id) ∧ w.cell? ⟨b, off + k * 5 + 1, none⟩ = some (.int .i64 (p.fr : Int)) ∧ w.cell? ⟨b, off + k * 5 + 2, none⟩ = some (.int .i64 (p.tt : Int)) ∧ w.cell? ⟨b, off + k * 5 + 3, none⟩ = some (.string p.bd) ∧ w.cell? ⟨b, off + k * 5 + 4, none⟩ = some (.int .i64 p.hl)) := by
  rcases h.2 with ⟨rfl, h0⟩ | ⟨b, off, cap, rfl, _, _, _, h6⟩
  · exact ⟨none, 0, by rw [h0], fun hp => by omega⟩
  · refine ⟨_, _, rfl, fun _ => ⟨b, off, rfl, fun k p hk => ?_⟩⟩
    obtain ⟨p0, p1, p2, p3, p4⟩ := pks_at L k p hk
    simp only [Nat.add_assoc]
    exact ⟨h6 _ _ p0, h6 _ _ p1, h6 _ _ p2, h6 _ _ p3, h6 _ _ p4⟩
set_option maxRecDepth 100000 in
set_option maxHeartbeats 1600000 in
theorem same15 {w : World} {va vb : Value} {l : List Pk} (ha : Row w 5 va l.length (pks l)) (hb : Row w 5 vb l.length (pks l)) (hl : l.length < 1000000) :
    Calls Try.prog 36 #[va, vb] w fun e w' => e = .returned (.bool true) ∧ Drew w w' := by
  obtain ⟨aa, ca, rfl, xa⟩ := ha.packs
  obtain ⟨ab, cb, rfl, xb⟩ := hb.packs
  have XA := Lib.hid xa
  have XB := Lib.hid xb
  clear ha hb xa xb
  go_enter Try.func36, Try.ntmps36
  go_wp2_with fail
  go_loopw [5] (fun v wr => ∃ k m : Nat, v = .int .i64 (k : Int) ∧ k ≤ l.length ∧ wr = w.drewN m) (fun v _ => l.length - (intOf v).toNat)
  case atStart => exact ⟨0, 0, rfl, Nat.zero_le _, rfl⟩
  case round =>
    obtain ⟨k, m, rfl, hk, rfl⟩ := hrel
    by_cases hlt : k < l.length
    · obtain ⟨b1, o1, rfl, q1⟩ := XA.out (by omega)
      obtain ⟨b2, o2, rfl, q2⟩ := XB.out (by omega)
      obtain ⟨p, hp⟩ : ∃ p, l[k]? = some p := ⟨_, List.getElem?_eq_getElem hlt⟩
      obtain ⟨c0, c1, c2, c3, c4⟩ := q1 k p hp
      obtain ⟨e0, e1, e2, e3, e4⟩ := q2 k p hp
      have hq := fun W => neq_pk p W
      clear q1 q2 XA XB hp
      have hk0 : (0 : Int) ≤ (k : Int) := by omega
      have hk1 : (k : Int) < (l.length : Int) := by omega
      go_wp2_with fail
      go_quiet (fail)
      clear c0 c1 c2 c3 c4 e0 e1 e2 e3 e4 hq
      go_wp2_with fail
      go_roundw
      case rel => exact ⟨k + 1, m + nq, by go_num, by omega, by first | rfl | rw [World.drewN_drewN]⟩
      case measure => simp [intOf]; omega
    · obtain rfl : k = l.length := by omega
      go_wp2_with fail
      go_returns
      exact ⟨rfl, m, rfl⟩
end Go.Proofs.Ytgnmieobgdbafaa
