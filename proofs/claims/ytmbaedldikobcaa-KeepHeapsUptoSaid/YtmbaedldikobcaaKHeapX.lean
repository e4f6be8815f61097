/-
  A heap in memory: Pop.
-/
import Derived.Test.YtmbaedldikobcaaKHeapO
namespace Go.Proofs.Ytmbaedldikobcaa
open Go.RowKit
set_option linter.unusedVariables false

set_option maxRecDepth 100000 in
set_option maxHeartbeats 4000000 in
theorem pop_yes {f : Int → Int} {fl : Nat} (hF : Less f fl) {w : World} {B hb : Nat} {v : Value} {L : List Hp} {t : Int} (h : IsHp w B hb fl v L t) (h0 : 0 < L.length) (hz : L.length < 100000) (hks : KeysIn L) (hO : HeapOk f (atH L) L.length) :
    Calls Try.prog 53 #[.pointer (some ⟨hb, 0, none⟩)] w fun e w' => e = .returned (.tuple #[thV (atH L 0).key (atH L 0).num, .bool true]) ∧ ∃ v' L', IsHp w' B hb fl v' L' t ∧ (atH L 0 :: L').Perm L ∧ HeapOk f (atH L') (L.length - 1) ∧ Below B w w' ∧ Far w w' := by
  have H := Lib.hid h
  obtain ⟨g, cap, rfl, hBg, hcm, hl⟩ := laid_of_own h.row h0
  have HF := Lib.hid hF
  have HKS := Lib.hid hks
  have HO := Lib.hid hO
  have HZ := Lib.hid hz
  have HBG := Lib.hid hBg
  have HCM := Lib.hid hcm
  have H00 := Lib.hid h0
  have bA : Below w.heap.size w (w.alloc (.cells #[.int .i64 0, .int .i64 0] ThT)) := (Below.refl _ _).alloc (Nat.le_refl _) _
  have HA : Hid (IsHp (w.alloc (.cells #[.int .i64 0, .int .i64 0] ThT)) B hb fl (.slice (some ⟨g, 0, none⟩) L.length cap) L t) := Lib.hid ⟨(Hold.below bA) _ _ H.out.lay, own_hold H.out.row (Hold.below bA), H.out.gb⟩
  have HPK := Lib.hid (peek_yes HA.out h0)
  have hra : (w.alloc (.cells #[.int .i64 0, .int .i64 0] ThT)).heap[w.heap.size]? = some (Obj.cells #[.int .i64 0, .int .i64 0] ThT) := heap_alloc_new _ _
  have HRA := Lib.hid hra
  have HLD := Lib.hid hl
  have HBA := Lib.hid bA
  obtain ⟨n, hn⟩ : ∃ n, L.length = n + 1 := ⟨L.length - 1, by omega⟩
  have HN := Lib.hid hn
  have hw1 : wrap64 ((L.length : Int) - 1) = (n : Int) := by unfold wrap64; omega
  clear h hl hF hks hO hz hBg hcm bA hra h0 hn
  go_enter Try.func53, Try.ntmps53
  go_wp2_with fail
  refine HPK.out.mono ?_
  rintro e w1 ⟨rfl, u1⟩
  have hs1 := u1.size
  have HU1 := Lib.hid (bmore HBA.out u1)
  have HV1 := Lib.hid u1
  have z1 := cellB (j := 1) ((Hold.below HU1.out) _ _ H.out.lay) rfl
  have bB : Below w1.heap.size w1 (w1.alloc (.cells #[.int .i64 (atH L 0).key, .int .i64 (atH L 0).num] ThT)) := (Below.refl _ _).alloc (Nat.le_refl _) _
  have y1 := bcellAt bB z1
  have HBB := Lib.hid bB
  clear u1 hs1 z1 bB
  generalize hk0 : (atH L 0).key = k0 at *
  generalize hm0 : (atH L 0).num = m0 at *
  have HK0 := Lib.hid hk0
  have HM0 := Lib.hid hm0
  clear hk0 hm0
  go_wp2_with fail
  rw [hw1]
  have hnn0 : (0 : Int) ≤ (n : Int) := by omega
  have hnn1 : (n : Int) < (L.length : Int) := by have := HN.out; omega
  have hll : 0 < L.length := by have := HN.out; omega
  clear hw1
  have hldv : Laid3 (w1.alloc (.cells #[.int .i64 k0, .int .i64 m0] ThT)).drew g cap L := (((HLD.out.hold (Hold.below HU1.out)).hold (Hold.below HBB.out)).hold (Hold.below (bd _)))
  have hbv : Below w.heap.size w (w1.alloc (.cells #[.int .i64 k0, .int .i64 m0] ThT)).drew := bmore (bmore HU1.out HBB.out) (bd _)
  have hrv : (w1.alloc (.cells #[.int .i64 k0, .int .i64 m0] ThT)).drew.heap[w1.heap.size]? = some (Obj.cells #[.int .i64 k0, .int .i64 m0] ThT) := (Hold.below (bd _)) _ _ (heap_alloc_new _ _)
  have hsv : w.heap.size < w1.heap.size := by have := HV1.out.size; simp at this; omega
  have hav : (w1.alloc (.cells #[.int .i64 k0, .int .i64 m0] ThT)).drew.heap[w.heap.size]? = some (Obj.cells #[.int .i64 0, .int .i64 0] ThT) := (Hold.below (bd _)) _ _ ((Hold.below HBB.out) _ _ ((Hold.below HV1.out) _ _ HRA.out))
  have hxn := hldv.at3 (atH_some (show n < L.length by have := HN.out; omega))
  generalize hy : atH L n = y at *
  have HY := Lib.hid hy
  clear hy
  obtain ⟨yk, yn, yt⟩ := y
  obtain ⟨x0, x1, x2⟩ := hxn
  simp only at x0 x1 x2
  refine lext_start [0, 1, 2, 3, 4, 5, 6, 7, 8, 9, 10, 11, 12] 12 12 (F := (fun _ W => W.cell? ⟨hb, 1, none⟩ = some (.slice (some ⟨g, 0, none⟩) L.length cap) ∧ W.cell? ⟨g, n * 3, none⟩ = some (.int .i64 yk) ∧ W.cell? ⟨g, n * 3 + 1, none⟩ = some (.int .i64 yn) ∧ W.cell? ⟨g, n * 3 + 2, none⟩ = some (.int .i64 yt))) (by kernel_rfl) ?_
  simp only [inOrder, List.filterMap, List.getElem?_cons_succ, List.getElem?_cons_zero]
  have hS : (fun _ W => W.cell? ⟨hb, 1, none⟩ = some (.slice (some ⟨g, 0, none⟩) L.length cap) ∧ W.cell? ⟨g, n * 3, none⟩ = some (.int .i64 yk) ∧ W.cell? ⟨g, n * 3 + 1, none⟩ = some (.int .i64 yn) ∧ W.cell? ⟨g, n * 3 + 2, none⟩ = some (.int .i64 yt)) false (w1.alloc (.cells #[.int .i64 k0, .int .i64 m0] ThT)).drew := ⟨bcellAt (bd _) y1, x0, x1, x2⟩
  have HLV := Lib.hid hldv
  have HBV := Lib.hid hbv
  have HRV := Lib.hid hrv
  have HSV := Lib.hid hsv
  have HAV := Lib.hid hav
  clear y1 x0 x1 x2 hldv hbv hrv hsv hav HBB
  generalize (w1.alloc (.cells #[.int .i64 k0, .int .i64 m0] ThT)).drew = V at *
  generalize w1.heap.size = b1 at *
  refine lext_take (i := 0) (v := ?_) rfl (by decide) (by decide) (by kernel_rfl) (by kernel_rfl) (by kernel_rfl) (by kernel_rfl) (by kernel_rfl) (by kernel_rfl) (by rfl) hS ?_ ?_
  rotate_left
  · ((intro W hW; obtain ⟨k1, k2, k3, k4⟩ := hW; go_simp) <;> with_reducible rfl)
  simp only [Act.put, List.setIfInBounds_toArray, List.set_cons_zero, List.set_cons_succ]
  refine lext_take (i := 1) (v := ?_) rfl (by decide) (by decide) (by kernel_rfl) (by kernel_rfl) (by kernel_rfl) (by kernel_rfl) (by kernel_rfl) (by kernel_rfl) (by rfl) hS ?_ ?_
  rotate_left
  · ((intro W hW; obtain ⟨k1, k2, k3, k4⟩ := hW; go_simp) <;> with_reducible rfl)
  simp only [Act.put, List.setIfInBounds_toArray, List.set_cons_zero, List.set_cons_succ]
  refine lext_take (i := 2) (v := ?_) rfl (by decide) (by decide) (by kernel_rfl) (by kernel_rfl) (by kernel_rfl) (by kernel_rfl) (by kernel_rfl) (by kernel_rfl) (by rfl) hS ?_ ?_
  rotate_left
  · ((intro W hW; obtain ⟨k1, k2, k3, k4⟩ := hW; go_simp) <;> with_reducible rfl)
  simp only [Act.put, List.setIfInBounds_toArray, List.set_cons_zero, List.set_cons_succ]
  refine lext_take (i := 3) (v := ?_) rfl (by decide) (by decide) (by kernel_rfl) (by kernel_rfl) (by kernel_rfl) (by kernel_rfl) (by kernel_rfl) (by kernel_rfl) (by rfl) hS ?_ ?_
  rotate_left
  · ((intro W hW; obtain ⟨k1, k2, k3, k4⟩ := hW; go_simp) <;> with_reducible rfl)
  simp only [Act.put, List.setIfInBounds_toArray, List.set_cons_zero, List.set_cons_succ]
  refine lext_take (i := 4) (v := ?_) rfl (by decide) (by decide) (by kernel_rfl) (by kernel_rfl) (by kernel_rfl) (by kernel_rfl) (by kernel_rfl) (by kernel_rfl) (by rfl) hS ?_ ?_
  rotate_left
  · ((intro W hW; obtain ⟨k1, k2, k3, k4⟩ := hW; go_simp) <;> with_reducible rfl)
  simp only [Act.put, List.setIfInBounds_toArray, List.set_cons_zero, List.set_cons_succ]
  refine lext_take (i := 5) (v := ?_) rfl (by decide) (by decide) (by kernel_rfl) (by kernel_rfl) (by kernel_rfl) (by kernel_rfl) (by kernel_rfl) (by kernel_rfl) (by rfl) hS ?_ ?_
  rotate_left
  · ((intro W hW; obtain ⟨k1, k2, k3, k4⟩ := hW; go_simp) <;> with_reducible rfl)
  simp only [Act.put, List.setIfInBounds_toArray, List.set_cons_zero, List.set_cons_succ]
  refine lext_take (i := 6) (v := ?_) rfl (by decide) (by decide) (by kernel_rfl) (by kernel_rfl) (by kernel_rfl) (by kernel_rfl) (by kernel_rfl) (by kernel_rfl) (by rfl) hS ?_ ?_
  rotate_left
  · ((intro W hW; obtain ⟨k1, k2, k3, k4⟩ := hW; go_simp) <;> with_reducible rfl)
  simp only [Act.put, List.setIfInBounds_toArray, List.set_cons_zero, List.set_cons_succ]
  refine lext_take (i := 7) (v := ?_) rfl (by decide) (by decide) (by kernel_rfl) (by kernel_rfl) (by kernel_rfl) (by kernel_rfl) (by kernel_rfl) (by kernel_rfl) (by rfl) hS ?_ ?_
  rotate_left
  · ((intro W hW; obtain ⟨k1, k2, k3, k4⟩ := hW; go_simp) <;> with_reducible rfl)
  simp only [Act.put, List.setIfInBounds_toArray, List.set_cons_zero, List.set_cons_succ]
  refine lext_take (i := 8) (v := ?_) rfl (by decide) (by decide) (by kernel_rfl) (by kernel_rfl) (by kernel_rfl) (by kernel_rfl) (by kernel_rfl) (by kernel_rfl) (by rfl) hS ?_ ?_
  rotate_left
  · ((intro W hW; obtain ⟨k1, k2, k3, k4⟩ := hW; go_simp) <;> with_reducible rfl)
  simp only [Act.put, List.setIfInBounds_toArray, List.set_cons_zero, List.set_cons_succ]
  refine lext_take (i := 9) (v := ?_) rfl (by decide) (by decide) (by kernel_rfl) (by kernel_rfl) (by kernel_rfl) (by kernel_rfl) (by kernel_rfl) (by kernel_rfl) (by rfl) hS ?_ ?_
  rotate_left
  · ((intro W hW; obtain ⟨k1, k2, k3, k4⟩ := hW; go_simp) <;> with_reducible rfl)
  simp only [Act.put, List.setIfInBounds_toArray, List.set_cons_zero, List.set_cons_succ]
  refine lext_take (i := 10) (v := ?_) rfl (by decide) (by decide) (by kernel_rfl) (by kernel_rfl) (by kernel_rfl) (by kernel_rfl) (by kernel_rfl) (by kernel_rfl) (by rfl) hS ?_ ?_
  rotate_left
  · ((intro W hW; obtain ⟨k1, k2, k3, k4⟩ := hW; go_simp) <;> with_reducible rfl)
  simp only [Act.put, List.setIfInBounds_toArray, List.set_cons_zero, List.set_cons_succ]
  refine lext_do (i := 11) (b := false) rfl (by kernel_rfl) (by kernel_rfl) (by rfl) (fun K hK => ?_)
  go_simp
  refine hK _ _ ⟨fun _ => hS, ?_⟩
  clear hK K
  refine lext_do (i := 12) (b := true) rfl (by kernel_rfl) (by kernel_rfl) (by rfl) (fun K hK => ?_)
  have q0 := (HLV.out.at3 (atH_some (show 0 < L.length by have := HN.out; omega))).1
  have q1 := (HLV.out.at3 (atH_some (show 0 < L.length by have := HN.out; omega))).2.1
  have q2 := (HLV.out.at3 (atH_some (show 0 < L.length by have := HN.out; omega))).2.2
  simp only [Nat.zero_mul, Nat.zero_add] at q0 q1 q2
  have f1 := HLV.out.frz 0
  have f2 := HLV.out.frz 1
  have f3 := HLV.out.frz 2
  clear hS
  go_simp
  have hl2 := HLV.out.set ⟨yk, yn, yt⟩ (show 0 < L.length by have := HN.out; omega)
  simp only [Nat.zero_mul, Nat.zero_add] at hl2
  have hgx : g ≠ hb ∧ g ≠ b1 ∧ g ≠ w.heap.size := by
    obtain ⟨cur, q, _⟩ := HLV.out
    refine ⟨?_, ?_, ?_⟩
    · rintro rfl
      rw [(Hold.below HBV.out) _ _ H.out.lay] at q
      simp only [Option.some.injEq, Obj.cells.injEq] at q
      exact absurd q.2.1 (by decide)
    · rintro rfl
      rw [HRV.out] at q
      simp only [Option.some.injEq, Obj.cells.injEq] at q
      exact absurd q.2.1 (by decide)
    · rintro rfl
      rw [HAV.out] at q
      simp only [Option.some.injEq, Obj.cells.injEq] at q
      exact absurd q.2.1 (by decide)
  have hg3 : Grw B g V (((V.setCell ⟨g, 0, none⟩ (.int .i64 yk)).setCell ⟨g, 0 + 1, none⟩ (.int .i64 yn)).setCell ⟨g, 0 + 2, none⟩ (.int .i64 yt)) := Grw.set3 V HBG.out 0 _ _ _
  simp only [Nat.zero_add] at hg3
  have HGX := Lib.hid hgx
  generalize (((V.setCell ⟨g, 0, none⟩ (.int .i64 yk)).setCell ⟨g, 1, none⟩ (.int .i64 yn)).setCell ⟨g, 2, none⟩ (.int .i64 yt)) = V3 at *
  have HL3 := Lib.hid hl2
  have HG3 := Lib.hid hg3
  clear q0 q1 q2 f1 f2 f3 hl2 hg3 hgx
  refine hK _ _ ⟨fun e => absurd rfl e, ?_⟩
  clear hK K
  refine lext_done (by kernel_rfl) ?_
  have hlay3 : V3.heap[hb]? = some (Obj.cells #[.func (.func fl) #[] #[], .slice (some ⟨g, 0, none⟩) L.length cap, .int .i64 t] HeT) := by
    rw [HG3.out.block hb (Nat.lt_of_lt_of_le (Array.getElem?_eq_some_iff.1 H.out.lay).1 HBV.out.size) (fun e => HGX.out.1 e.symm)]
    exact (Hold.below HBV.out) _ _ H.out.lay
  have HY3 := Lib.hid hlay3
  have z1 := cellB (j := 1) hlay3 rfl
  have hln3 : n < (L.set 0 (⟨yk, yn, yt⟩ : Hp)).length := by rw [List.length_set]; have := HN.out; omega
  obtain ⟨q0, q1, q2⟩ := HL3.out.at3 (atH_some hln3)
  have f1 := HL3.out.frz (n * 3)
  have f2 := HL3.out.frz (n * 3 + 1)
  have f3 := HL3.out.frz (n * 3 + 2)
  have hnc : n ≤ cap := by
    obtain ⟨cur, _, _, q, _⟩ := HLV.out
    have := HN.out
    omega
  have e1 : ¬ g = hb := HGX.out.1
  have e2 : ¬ hb = g := fun e => HGX.out.1 e.symm
  have g1 := frozenB (j := 1) hlay3
  clear hlay3
  go_wp2_with fail
  have hl4 := HL3.out.set ⟨0, 0, 0⟩ hln3
  have hg4 := HG3.out.trans (Grw.set3 V3 HBG.out (n * 3) (.int .i64 0) (.int .i64 0) (.int .i64 0))
  simp only at hl4
  have hy4 : (((V3.setCell ⟨g, n * 3, none⟩ (.int .i64 0)).setCell ⟨g, n * 3 + 1, none⟩ (.int .i64 0)).setCell ⟨g, n * 3 + 2, none⟩ (.int .i64 0)).heap[hb]? = some (Obj.cells #[.func (.func fl) #[] #[], .slice (some ⟨g, 0, none⟩) L.length cap, .int .i64 t] HeT) := by
    rw [hg4.block hb (Nat.lt_of_lt_of_le (Array.getElem?_eq_some_iff.1 H.out.lay).1 HBV.out.size) e2]
    exact (Hold.below HBV.out) _ _ H.out.lay
  generalize (((V3.setCell ⟨g, n * 3, none⟩ (.int .i64 0)).setCell ⟨g, n * 3 + 1, none⟩ (.int .i64 0)).setCell ⟨g, n * 3 + 2, none⟩ (.int .i64 0)) = V4 at *
  have hl5 : (V4.setCell ⟨hb, 1, none⟩ (.slice (some ⟨g, 0, none⟩) n cap)).heap[hb]? = some (Obj.cells #[.func (.func fl) #[] #[], .slice (some ⟨g, 0, none⟩) n cap, .int .i64 t] HeT) := setCellB hy4
  have hg5 : ∀ b, b ≠ hb → (V4.setCell ⟨hb, 1, none⟩ (.slice (some ⟨g, 0, none⟩) n cap)).heap[b]? = V4.heap[b]? := fun b e => Below.heap_setCell _ _ _ _ e
  have hb5 : Below B V4 (V4.setCell ⟨hb, 1, none⟩ (.slice (some ⟨g, 0, none⟩) n cap)) := (Below.refl _ _).setCell (p := ⟨hb, 1, none⟩) H.out.gb _
  generalize (V4.setCell ⟨hb, 1, none⟩ (.slice (some ⟨g, 0, none⟩) n cap)) = V5 at *
  have hcut : ((L.set 0 (⟨yk, yn, yt⟩ : Hp)).set n ⟨0, 0, 0⟩).take n = cutH L := by
    unfold cutH
    rw [show L.length - 1 = n by have := HN.out; omega, HY.out]
    apply List.ext_getElem?
    intro j
    by_cases hj : j < n
    · rw [List.getElem?_take_of_lt hj, List.getElem?_take_of_lt hj, List.getElem?_set_ne (by omega)]
    · rw [List.getElem?_eq_none (by simp; omega), List.getElem?_eq_none (by simp; omega)]
  have hd5 : Laid3 V5 g cap (cutH L) := by
    rw [← hcut]
    exact (hl4.heap (hg5 g e1)).take n
  have hkc : KeysIn (cutH L) := fun x hx => HKS.out x ((cutH_perm (show 0 < L.length by have := HN.out; omega)).mem_iff.1 (List.mem_cons_of_mem _ hx))
  have hsk : SinkOk f (atH (cutH L)) n 0 := by
    have := cutH_sink HO.out
    rwa [show L.length - 1 = n by have := HN.out; omega] at this
  have hcl : (cutH L).length = n := by rw [cutH_length]; have := HN.out; omega
  have HG4 := Lib.hid hg4
  have HG5 := Lib.hid hg5
  have HB5 := Lib.hid hb5
  have HL5 := Lib.hid hl5
  clear hg4 hy4 hg5 hb5 hcut hl4 z1 q0 q1 q2 f1 f2 f3 g1 HY3
  refine (sink_any HF.out hl5 hd5 hcl hkc e2 HBG.out (by have := HZ.out; have := HN.out; omega) hsk).mono ?_
  clear hl5 hd5 hkc hsk
  rintro e w8 ⟨rfl, g8, L', p8, o8, l8⟩
  have P8 := Lib.hid p8
  have O8 := Lib.hid o8
  have L8 := Lib.hid l8
  have G8 := Lib.hid g8
  clear p8 o8 l8 g8
  have hfar : ∀ T, T ≠ HeT → T ≠ PuT → Hold T V w8 := fun T h1 h2 b cs hb' => by
    have n1 : b ≠ hb := by
      rintro rfl
      rw [(Hold.below HBV.out) _ _ H.out.lay] at hb'
      simp only [Option.some.injEq, Obj.cells.injEq] at hb'
      exact h1 hb'.2.1.symm
    have n2 : b ≠ g := by
      rintro rfl
      obtain ⟨cur, q, _⟩ := HLV.out
      rw [q] at hb'
      simp only [Option.some.injEq, Obj.cells.injEq] at hb'
      exact h2 hb'.2.1.symm
    have hlt := (Array.getElem?_eq_some_iff.1 hb').1
    rw [G8.out.block b (by have := HG4.out.below.size; have := HB5.out.size; omega) n2, HG5.out b n1, HG4.out.block b hlt n2]
    exact hb'
  have HFR := Lib.hid hfar
  have hr1 := hfar ThT (by decide) (by decide) _ _ HRV.out
  have hr2 := hfar ThT (by decide) (by decide) _ _ HAV.out
  have c0 := cellB (j := 0) hr1 rfl
  have c1 := cellB (j := 1) hr1 rfl
  have d0 := cellB (j := 0) hr2 rfl
  have d1 := cellB (j := 1) hr2 rfl
  have f0 := frozenB (j := 0) hr2
  have f1 := frozenB (j := 1) hr2
  have HR2 := Lib.hid hr2
  clear hfar hr1 hr2
  go_wp2_with fail
  have hBw : B ≤ w.heap.size := Nat.le_trans H.out.gb (Nat.le_of_lt (Array.getElem?_eq_some_iff.1 H.out.lay).1)
  have hhb : hb ≠ w.heap.size := Nat.ne_of_lt (Array.getElem?_eq_some_iff.1 H.out.lay).1
  have hl8 : L'.length = n := P8.out.length_eq.trans hcl
  have hfin : ∀ b, b ≠ w.heap.size → ((w8.setCell ⟨w.heap.size, 0, none⟩ (.int .i64 k0)).setCell ⟨w.heap.size, 1, none⟩ (.int .i64 m0)).heap[b]? = w8.heap[b]? := fun b e => (Below.heap_setCell _ _ _ _ e).trans (Below.heap_setCell _ _ _ _ e)
  have hbf : Below B w8 ((w8.setCell ⟨w.heap.size, 0, none⟩ (.int .i64 k0)).setCell ⟨w.heap.size, 1, none⟩ (.int .i64 m0)) := ((Below.refl B w8).setCell (p := ⟨w.heap.size, 0, none⟩) hBw _).setCell (p := ⟨w.heap.size, 1, none⟩) hBw _
  have x0 : (w8.setCell ⟨w.heap.size, 0, none⟩ (.int .i64 k0)).cell? ⟨w.heap.size, 0, none⟩ = some (.int .i64 k0) := cellB (setCellB HR2.out) rfl
  have x1 : ((w8.setCell ⟨w.heap.size, 0, none⟩ (.int .i64 k0)).setCell ⟨w.heap.size, 1, none⟩ (.int .i64 m0)).cell? ⟨w.heap.size, 1, none⟩ = some (.int .i64 m0) := cellB (setCellB (setCellB HR2.out)) rfl
  refine bodyPost_ret (v := .tuple #[thV k0 m0, .bool true]) (by simp [results, Try.results53, go_sem, x0, x1]) rfl ⟨by rw [HK0.out, HM0.out], .slice (some ⟨g, 0, none⟩) n cap, L', ⟨?_, ?_, H.out.gb⟩, (List.Perm.cons _ P8.out).trans (cutH_perm (show 0 < L.length by have := HN.out; omega)), ?_, (((((HBV.out.mono hBw).trans HG4.out.below).trans HB5.out).trans G8.out.below).trans hbf), fun T h1 h2 b cs hb' => ?_⟩
  · rw [hfin hb hhb, G8.out.block hb (Array.getElem?_eq_some_iff.1 HL5.out).1 e2]
    exact HL5.out
  · have := own_of_laid (L8.out.heap (hfin g HGX.out.2.2)) HBG.out HCM.out
    rw [hl8] at this ⊢
    exact this
  · rw [show L.length - 1 = n by have := HN.out; omega]
    exact O8.out
  · rw [hfin b (Nat.ne_of_lt (Array.getElem?_eq_some_iff.1 hb').1)]
    exact HFR.out T h1 h2 _ _ ((Hold.below HBV.out) _ _ hb')
end Go.Proofs.Ytmbaedldikobcaa
