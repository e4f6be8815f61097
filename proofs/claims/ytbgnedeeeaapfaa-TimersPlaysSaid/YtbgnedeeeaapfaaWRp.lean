/-
  What put does with the document's wheel in memory.
-/
import Derived.Test.YtbgnedeeeaapfaaWRm
import Derived.Deep.LoopGhost
import Derived.Deep.QuietTactic
import Derived.BigQuiet
namespace Go.Proofs.Ytbgnedeeeaapfaa
open Go.RowKit
set_option linter.unusedVariables false
set_option maxRecDepth 100000 in
set_option maxHeartbeats 3200000 in
theorem rput1 {w : World} {B r : Nat} {sl : Value} {x : Wh} (h : IsR w B r sl x) (hB : B ≤ w.heap.size) (hrB : B ≤ r) (t : Tm) (u : ByteArray) (hu : t.v = .string u) (hl : x.ts.length ≤ 5000) (ho : x.ts.Pairwise lt2) :
    Calls Try.prog 72 #[.pointer (some ⟨r, 0, none⟩), .agg #[.int .i64 t.id, .int .i64 t.tk, .string u]] w fun e w' => e = .returned (.tuple #[]) ∧ ∃ sl', IsR w' B r sl' { x with ts := ins x.ts t } ∧ Touch (OwnR r sl) w w' ∧ ∀ k, sl'.ownBlock = some k → sl.ownBlock = some k ∨ w.heap.size ≤ k := by
  have b0 : Below w.heap.size w (w.alloc (.cells #[.int .i64 t.id, .int .i64 t.tk, .string u] RtT)) := (Below.refl _ _).alloc (Nat.le_refl _) _
  have z0 := heap_alloc_new w (.cells #[.int .i64 t.id, .int .i64 t.tk, .string u] RtT)
  have hsz : (w.alloc (.cells #[.int .i64 t.id, .int .i64 t.tk, .string u] RtT)).heap.size = w.heap.size + 1 := by simp
  have h' := h.below b0
  have HX := Lib.hid h'
  have HRL := Lib.hid h.lt
  have HBB := Lib.hid hB
  have HRB := Lib.hid hrB
  have HU := Lib.hid hu
  have HL := Lib.hid hl
  have HO := Lib.hid ho
  have T0 := Lib.hid (touch_of_below b0 (OwnR r sl))
  have Z0 := Lib.hid z0
  have HSZ := Lib.hid hsz
  have HOW := Lib.hid (fun k (hk : sl.ownBlock = some k) => own_from h.row hk)
  have HVV := Lib.hid h.vals
  have HNR := Lib.hid (fun (e : sl.ownBlock = some r) => (show False by
    obtain ⟨_, cs, hcs⟩ := own_type h.row e
    rw [h.lay] at hcs
    have := (Obj.cells.inj (Option.some.inj hcs)).2.1
    revert this; decide))
  obtain ⟨sa, sc, hsl⟩ := (row_of_own h.row).shape
  clear h h' b0 z0 hsz hB hrB hu hl ho
  subst hsl
  go_enter Try.func72, Try.ntmps72
  go_wp2_with fail
  generalize (w.alloc (.cells #[.int .i64 t.id, .int .i64 t.tk, .string u] RtT)) = W0 at *
  have hF : ∀ W : World, Below W0.heap.size W0 W → W.cell? ⟨r, 2, none⟩ = some (.slice sa x.ts.length sc) ∧ W.cell? ⟨w.heap.size, 0, none⟩ = some (.int .i64 t.id) ∧ W.cell? ⟨w.heap.size, 1, none⟩ = some (.int .i64 t.tk) ∧ W.cell? ⟨w.heap.size, 2, none⟩ = some (.string u) := fun W hW => ⟨bcellAt hW (cellB (j := 2) HX.out.lay rfl), bcellAt hW (cellB (j := 0) Z0.out rfl), bcellAt hW (cellB (j := 1) Z0.out rfl), bcellAt hW (cellB (j := 2) Z0.out rfl)⟩
  have HK := Lib.hid hF
  clear hF
  refine lext_start [0, 1, 2, 3, 4, 5, 6, 7, 8, 9, 10] 8 10 (F := fun b W => b = false → W.cell? ⟨r, 2, none⟩ = some (.slice sa x.ts.length sc) ∧ W.cell? ⟨w.heap.size, 0, none⟩ = some (.int .i64 t.id) ∧ W.cell? ⟨w.heap.size, 1, none⟩ = some (.int .i64 t.tk) ∧ W.cell? ⟨w.heap.size, 2, none⟩ = some (.string u)) (by kernel_rfl) ?_
  simp only [inOrder, List.filterMap, List.getElem?_cons_succ, List.getElem?_cons_zero]
  have hS : (false = false → W0.drew.cell? ⟨r, 2, none⟩ = some (.slice sa x.ts.length sc) ∧ W0.drew.cell? ⟨w.heap.size, 0, none⟩ = some (.int .i64 t.id) ∧ W0.drew.cell? ⟨w.heap.size, 1, none⟩ = some (.int .i64 t.tk) ∧ W0.drew.cell? ⟨w.heap.size, 2, none⟩ = some (.string u)) := fun _ => HK.out _ (bd W0)
  refine lext_take (i := 0) (v := ?_) rfl (by decide) (by decide) (by kernel_rfl) (by kernel_rfl) (by kernel_rfl) (by kernel_rfl) (by kernel_rfl) (by kernel_rfl) (by rfl) hS ?_ ?_
  rotate_left
  · ((intro W hW; obtain ⟨k0, k1, k2, k3⟩ := hW rfl; go_simp) <;> with_reducible rfl)
  (try simp only [Act.put, List.setIfInBounds_toArray, List.set_cons_zero, List.set_cons_succ])
  refine lext_take (i := 1) (v := ?_) rfl (by decide) (by decide) (by kernel_rfl) (by kernel_rfl) (by kernel_rfl) (by kernel_rfl) (by kernel_rfl) (by kernel_rfl) (by rfl) hS ?_ ?_
  rotate_left
  · ((intro W hW; obtain ⟨k0, k1, k2, k3⟩ := hW rfl; go_simp) <;> with_reducible rfl)
  (try simp only [Act.put, List.setIfInBounds_toArray, List.set_cons_zero, List.set_cons_succ])
  refine lext_take (i := 2) (v := ?_) rfl (by decide) (by decide) (by kernel_rfl) (by kernel_rfl) (by kernel_rfl) (by kernel_rfl) (by kernel_rfl) (by kernel_rfl) (by rfl) hS ?_ ?_
  rotate_left
  · ((intro W hW; obtain ⟨k0, k1, k2, k3⟩ := hW rfl; go_simp) <;> with_reducible rfl)
  (try simp only [Act.put, List.setIfInBounds_toArray, List.set_cons_zero, List.set_cons_succ])
  refine lext_take (i := 3) (v := ?_) rfl (by decide) (by decide) (by kernel_rfl) (by kernel_rfl) (by kernel_rfl) (by kernel_rfl) (by kernel_rfl) (by kernel_rfl) (by rfl) hS ?_ ?_
  rotate_left
  · ((intro W hW; obtain ⟨k0, k1, k2, k3⟩ := hW rfl; go_simp) <;> with_reducible rfl)
  (try simp only [Act.put, List.setIfInBounds_toArray, List.set_cons_zero, List.set_cons_succ])
  refine lext_take (i := 4) (v := ?_) rfl (by decide) (by decide) (by kernel_rfl) (by kernel_rfl) (by kernel_rfl) (by kernel_rfl) (by kernel_rfl) (by kernel_rfl) (by rfl) hS ?_ ?_
  rotate_left
  · ((intro W hW; obtain ⟨k0, k1, k2, k3⟩ := hW rfl; go_simp) <;> with_reducible rfl)
  (try simp only [Act.put, List.setIfInBounds_toArray, List.set_cons_zero, List.set_cons_succ])
  refine lext_take (i := 5) (v := ?_) rfl (by decide) (by decide) (by kernel_rfl) (by kernel_rfl) (by kernel_rfl) (by kernel_rfl) (by kernel_rfl) (by kernel_rfl) (by rfl) hS ?_ ?_
  rotate_left
  · ((intro W hW; obtain ⟨k0, k1, k2, k3⟩ := hW rfl; go_simp) <;> with_reducible rfl)
  (try simp only [Act.put, List.setIfInBounds_toArray, List.set_cons_zero, List.set_cons_succ])
  refine lext_do (i := 6) (b := false) rfl (by kernel_rfl) (by kernel_rfl) (by rfl) (fun K hK => ?_)
  clear hS
  go_simp
  refine hK _ _ ⟨fun _ _ => HK.out _ (balR W0 _), ?_⟩
  clear hK K
  (try simp only [Act.put, List.setIfInBounds_toArray, List.set_cons_zero, List.set_cons_succ])
  have hN6 : (W0.alloc (.cells #[.int .i64 t.id, .int .i64 t.tk, .string u] RtT)).drew.heap[W0.heap.size]? = some (Obj.cells #[.int .i64 t.id, .int .i64 t.tk, .string u] RtT) := heap_alloc_new _ _
  have HN6 := Lib.hid hN6
  have X6 := Lib.hid (HX.out.below (balR W0 (.cells #[.int .i64 t.id, .int .i64 t.tk, .string u] RtT)))
  have T6 := Lib.hid (T0.out.trans (touch_of_below (balR W0 (.cells #[.int .i64 t.id, .int .i64 t.tk, .string u] RtT)) (OwnR r (.slice sa x.ts.length sc))))
  have HB6 := Lib.hid (balR W0 (.cells #[.int .i64 t.id, .int .i64 t.tk, .string u] RtT))
  have S6 : Hid (w.heap.size + 1 < (W0.alloc (.cells #[.int .i64 t.id, .int .i64 t.tk, .string u] RtT)).drew.heap.size) := Lib.hid (by have := HSZ.out; show _ < (W0.alloc _).heap.size; simp; omega)
  have Z6 := Lib.hid ((HB6.out.block w.heap.size (by rw [HSZ.out]; omega)).trans Z0.out)
  clear hN6
  generalize (W0.alloc (.cells #[.int .i64 t.id, .int .i64 t.tk, .string u] RtT)).drew = W6 at *
  refine lext_do (i := 7) (b := false) rfl (by kernel_rfl) (by kernel_rfl) (by rfl) (fun K hK => ?_)
  refine wp_appR (.tmp 9) (.tmp 11) rfl B (.slice sa x.ts.length sc) x.ts rfl X6.out.row W0.heap.size t u HU.out rfl HN6.out (by have := HL.out; omega) (by have := HBB.out; have := S6.out; omega) ?_
  intro v7 w7 o7 g7 at7
  have hr7 : w7.heap[r]? = some (Obj.cells #[.int .i64 x.now, .int .i64 x.ids, .slice sa x.ts.length sc] RwT) := (g7.block r X6.out.lt (fun e => HNR.out e.symm)).trans X6.out.lay
  have hz7 : w7.heap[w.heap.size]? = some (Obj.cells #[.int .i64 t.id, .int .i64 t.tk, .string u] RtT) := (g7.block w.heap.size (by have := S6.out; omega) (fun e => by have := (HOW.out _ e.symm).2; omega)).trans Z6.out
  have T7 := Lib.hid (T6.out.trans (touch_of_grown g7 (OwnR r (.slice sa x.ts.length sc)) (fun k e => .inr e)))
  have HAT := Lib.hid (fun k (hk : v7.ownBlock = some k) => (show (Value.slice sa x.ts.length sc).ownBlock = some k ∨ w.heap.size ≤ k from at7.elim (fun e => .inl (e ▸ hk)) (fun e => .inr (by rw [e] at hk; cases hk; have := S6.out; omega))))
  obtain ⟨gg, gc, rfl⟩ := own_slice o7 (by simp)
  obtain ⟨hla, hgB, hgm, _⟩ := laid_of_own o7
  have HLA := Lib.hid hla
  have HGB := Lib.hid (show B ≤ gg ∧ gc ≤ maxLen from ⟨hgB, hgm⟩)
  have HR7 := Lib.hid hr7
  refine hK _ _ ⟨fun _ _ => ⟨cellB (j := 2) hr7 rfl, cellB (j := 0) hz7 rfl, cellB (j := 1) hz7 rfl, cellB (j := 2) hz7 rfl⟩, ?_⟩
  clear hK K o7 g7 at7 hz7 hla hgB hgm hr7
  (try simp only [Act.put, List.setIfInBounds_toArray, List.set_cons_zero, List.set_cons_succ])
  refine lext_do (i := 8) (b := true) rfl (by kernel_rfl) (by kernel_rfl) (by rfl) (fun K hK => ?_)
  go_simp
  refine hK _ _ ⟨fun _ => (fun e => by cases e), ?_⟩
  clear hK K
  (try simp only [Act.put, List.setIfInBounds_toArray, List.set_cons_zero, List.set_cons_succ])
  refine lext_do (i := 9) (b := true) rfl (by kernel_rfl) (by kernel_rfl) (by rfl) (fun K hK => ?_)
  go_simp
  refine hK _ _ ⟨fun _ => (fun e => by cases e), ?_⟩
  clear hK K
  (try simp only [Act.put, List.setIfInBounds_toArray, List.set_cons_zero, List.set_cons_succ])
  have k2 := cellB (j := 2) HR7.out rfl
  have kf := frozenB (j := 2) HR7.out
  refine lext_do (i := 10) (b := true) rfl (by kernel_rfl) (by kernel_rfl) (by rfl) (fun K hK => ?_)
  go_simp
  refine hK _ _ ⟨fun e => absurd rfl e, ?_⟩
  clear hK K k2 kf
  refine lext_done (by kernel_rfl) ?_
  have HR8 : Hid ((w7.setCell ⟨r, 2, none⟩ (.slice (some ⟨gg, 0, none⟩) (x.ts.length + 1) gc)).heap[r]? = some (Obj.cells #[.int .i64 x.now, .int .i64 x.ids, .slice (some ⟨gg, 0, none⟩) (x.ts.length + 1) gc] RwT)) := Lib.hid (by
    have := setCellB (j := 2) (u := .slice (some ⟨gg, 0, none⟩) (x.ts.length + 1) gc) HR7.out
    simpa using this)
  have HL8 := Lib.hid (HLA.out.hold (Hold.setCell (o := 2) (v := .slice (some ⟨gg, 0, none⟩) (x.ts.length + 1) gc) HR7.out (by decide)))
  have T8 := Lib.hid (T7.out.trans (touch_set w7 r 2 (.slice (some ⟨gg, 0, none⟩) (x.ts.length + 1) gc) (OwnR r (.slice sa x.ts.length sc)) (.inl rfl)))
  have HNG := Lib.hid (show r ≠ gg from fun e => by
    obtain ⟨cur, hc, _⟩ := HLA.out
    rw [← e, HR7.out] at hc
    have := (Obj.cells.inj (Option.some.inj hc)).2.1
    revert this; decide)
  have HLEN : Hid ((x.ts ++ [t]).length = x.ts.length + 1) := Lib.hid (by simp)
  generalize (w7.setCell ⟨r, 2, none⟩ (.slice (some ⟨gg, 0, none⟩) (x.ts.length + 1) gc)) = W8 at *
  have k8 := cellB (j := 2) HR8.out rfl
  have hw8 : IntKind.i64.wrap (((x.ts.length + 1 : Nat) : Int) - 1) = (x.ts.length : Int) := by rw [show ((x.ts.length + 1 : Nat) : Int) - 1 = (x.ts.length : Int) by omega]; exact IntWalk.i64_in _ (by have := HL.out; omega)
  have hw9 : IntKind.i64.wrap ((x.ts.length : Int) + 1 - 1) = (x.ts.length : Int) := by rw [show (x.ts.length : Int) + 1 - 1 = (x.ts.length : Int) by omega]; exact IntWalk.i64_in _ (by have := HL.out; omega)
  have hw10 : wrap64 (x.ts.length : Int) = (x.ts.length : Int) := by unfold wrap64; have := HL.out; omega
  have T8S := Lib.hid T8.out.size
  have HLL8 := Lib.hid HLA.out.lt
  go_wp2_with fail
  clear k8 hw8 hw9 hw10
  go_loopg [4] x.ts.length (fun k v wr => ∃ A C : List Tm, v = .int .i64 (k : Int) ∧ A.length = k ∧ x.ts = A ++ C ∧ (∀ c ∈ C, t.tk < c.tk) ∧ LaidR wr gg gc (A ++ t :: C) ∧ wr.heap[r]? = some (Obj.cells #[.int .i64 x.now, .int .i64 x.ids, .slice (some ⟨gg, 0, none⟩) (x.ts.length + 1) gc] RwT) ∧ Touch (fun k => k = r ∨ k = gg) W8 wr)
  case atStart => exact ⟨x.ts, [], rfl, rfl, by simp, (fun c hc => by cases hc), HL8.out, HR8.out, Touch.refl _ _⟩
  case round =>
    obtain ⟨A, C, rfl, hA, hsp, hC, hla, hr, ht⟩ := hrel
    have HA := Lib.hid hA
    have HSP := Lib.hid hsp
    have HC := Lib.hid hC
    have HLW := Lib.hid hla
    have HRW := Lib.hid hr
    have HTW := Lib.hid ht
    have HKL := Lib.hid (show gk ≤ x.ts.length by rw [hsp, List.length_append]; omega)
    have x2 := cellB (j := 2) hr rfl
    clear hC hla hr ht
    have hfin : (∀ a ∈ A, a.tk ≤ t.tk) → ins x.ts t = A ++ t :: C := fun h => by
      rw [HSP.out]
      unfold ins
      rw [List.filter_append, List.filter_append, filter_all (l := A) (fun a ha => by simpa using h a ha), filter_none (l := C) (fun c hc => by have := HC.out c hc; simp; omega), filter_none (l := A) (fun a ha => by have := h a ha; simp; omega), filter_all (l := C) (fun c hc => by simpa using HC.out c hc)]
      simp
    have HFIN := Lib.hid hfin
    clear hfin
    have HEND := Lib.hid (fun (h : ∀ a ∈ A, a.tk ≤ t.tk) (W : World) (hW : W = wr) => (show ∃ sl', IsR wr B r sl' { x with ts := ins x.ts t } ∧ Touch (OwnR r (.slice sa x.ts.length sc)) w wr ∧ ∀ k, sl'.ownBlock = some k → (Value.slice sa x.ts.length sc).ownBlock = some k ∨ w.heap.size ≤ k from by
      have hl2 : (A ++ t :: C).length = x.ts.length + 1 := by rw [HSP.out]; simp; omega
      have how := own_of_laid (B := B) HLW.out HGB.out.1 HGB.out.2
      rw [hl2] at how
      refine ⟨_, ⟨HRW.out, ?_, ?_⟩, ?_, fun k hk => HAT.out k hk⟩
      · rw [HFIN.out h]; rw [hl2]; exact how
      · intro y hy
        rw [HFIN.out h] at hy
        rcases List.mem_append.1 hy with hy | hy
        · exact HVV.out y (by rw [HSP.out]; simp [hy])
        · rcases List.mem_cons.1 hy with rfl | hy
          · exact ⟨u, HU.out⟩
          · exact HVV.out y (by rw [HSP.out]; simp [hy])
      · exact T8.out.step HTW.out (fun k hk => hk.elim (fun e => .inl (.inl e)) (fun e => (HAT.out k (by rw [e]; rfl)).elim (fun e => .inl (.inr e)) .inr))))
    by_cases hk0 : gk = 0
    · have hp0 : decide ((0 : Int) < (gk : Int)) = false := by simp; omega
      have hp1 : decide (0 < gk) = false := by simp; omega
      have hE := HEND.out (fun a ha => by rw [List.eq_nil_of_length_eq_zero (hA.trans hk0)] at ha; cases ha) wr rfl
      have HE := Lib.hid hE
      clear hE hA hsp hk0
      go_wp2_with fail
      go_quiet (fail)
      go_wp2_with fail
      go_end0
      obtain ⟨sl', e1, e2, e3⟩ := HE.out
      exact ⟨rfl, sl', e1.below (bdn _ _), e2.trans (touch_of_below (bdn _ _) _), e3⟩
    · obtain ⟨j, hj⟩ : ∃ j, gk = j + 1 := ⟨gk - 1, by omega⟩
      obtain ⟨A', a, hAa⟩ : ∃ A' a, A = A' ++ [a] := ⟨A.dropLast, A.getLast (by intro e; rw [e] at hA; simp at hA; omega), (List.dropLast_concat_getLast _).symm⟩
      subst hAa
      have hA' : A'.length = j := by simp at hA; omega
      obtain ⟨ua, hua⟩ := HVV.out a (by rw [hsp]; simp)
      have ha3 := HLW.out.at3 (k := j) (t := a) (by rw [List.append_assoc, List.getElem?_append_right (by omega), hA']; simp)
      have ht3 := HLW.out.at3 (k := gk) (t := t) (by rw [List.getElem?_append_right (by omega), hA]; simp)
      rw [hua] at ha3
      rw [HU.out] at ht3
      obtain ⟨a0, a1, a2⟩ := ha3
      obtain ⟨t0, t1, t2⟩ := ht3
      have hw1 : IntKind.i64.wrap ((gk : Int) - 1) = (j : Int) := by rw [show (gk : Int) - 1 = (j : Int) by omega]; exact IntWalk.i64_in _ (by have := HL.out; have := HKL.out; omega)
      have hp0 : decide ((0 : Int) < (gk : Int)) = true := by simp; omega
      have hp1 : decide (0 < gk) = true := by simp; omega
      have hj0 : (0 : Int) ≤ (j : Int) := by omega
      have hj1 : (j : Int) < (x.ts.length : Int) + 1 := by have := HKL.out; omega
      have hk1 : (0 : Int) ≤ (gk : Int) := by omega
      have hk2 : (gk : Int) < (x.ts.length : Int) + 1 := by have := HKL.out; omega
      have HJ := Lib.hid hj
      have HA' := Lib.hid hA'
      by_cases hat : t.tk < a.tk
      · have hd : decide (t.tk < a.tk) = true := by simpa using hat
        have HAT2 := Lib.hid hat
        have HUA := Lib.hid hua
        have HSP2 := Lib.hid hsp
        have HAL := Lib.hid hA
        clear hA hsp hk0 hj hA' hat hua
        go_wp2_with fail
        go_quiet (fail)
        go_wp2_with fail
        have D0 := Lib.hid (bdn wr nq)
        have HL9 := Lib.hid (HLW.out.hold (Hold.below D0.out))
        have HR9 := Lib.hid (Hold.below D0.out _ _ HRW.out)
        have HT9 := Lib.hid (HTW.out.trans (touch_of_below D0.out (fun k => k = r ∨ k = gg)))
        have s0 := bcellAt D0.out x2
        have s1 := bcellAt D0.out t0
        have s2 := bcellAt D0.out t1
        have s3 := bcellAt D0.out t2
        have s4 := bcellAt D0.out a0
        have s5 := bcellAt D0.out a1
        have s6 := bcellAt D0.out a2
        clear x2 t0 t1 t2 a0 a1 a2
        generalize wr.drewN nq = V at *
        refine lext_start [0, 1, 2, 3, 4, 5, 6, 7, 8, 9, 10, 11, 12, 13, 14, 15, 16, 17, 18, 19, 20, 21, 22, 23, 24, 25, 26, 27, 28, 29] 27 29 (F := (fun b W => W.cell? ⟨r, 2, none⟩ = some (.slice (some ⟨gg, 0, none⟩) (x.ts.length + 1) gc) ∧ (b = false → W.cell? ⟨gg, gk * 3, none⟩ = some (.int .i64 t.id) ∧ W.cell? ⟨gg, gk * 3 + 1, none⟩ = some (.int .i64 t.tk) ∧ W.cell? ⟨gg, gk * 3 + 2, none⟩ = some (.string u) ∧ W.cell? ⟨gg, j * 3, none⟩ = some (.int .i64 a.id) ∧ W.cell? ⟨gg, j * 3 + 1, none⟩ = some (.int .i64 a.tk) ∧ W.cell? ⟨gg, j * 3 + 2, none⟩ = some (.string ua)))) (by kernel_rfl) ?_
        simp only [inOrder, List.filterMap, List.getElem?_cons_succ, List.getElem?_cons_zero]
        have hS : (fun b W => W.cell? ⟨r, 2, none⟩ = some (.slice (some ⟨gg, 0, none⟩) (x.ts.length + 1) gc) ∧ (b = false → W.cell? ⟨gg, gk * 3, none⟩ = some (.int .i64 t.id) ∧ W.cell? ⟨gg, gk * 3 + 1, none⟩ = some (.int .i64 t.tk) ∧ W.cell? ⟨gg, gk * 3 + 2, none⟩ = some (.string u) ∧ W.cell? ⟨gg, j * 3, none⟩ = some (.int .i64 a.id) ∧ W.cell? ⟨gg, j * 3 + 1, none⟩ = some (.int .i64 a.tk) ∧ W.cell? ⟨gg, j * 3 + 2, none⟩ = some (.string ua))) false V.drew := ⟨s0, fun _ => ⟨s1, s2, s3, s4, s5, s6⟩⟩
        clear s0 s1 s2 s3 s4 s5 s6
        have HL9 := Lib.hid (show LaidR V.drew gg gc (A' ++ [a] ++ t :: C) from HL9.out.hold (Hold.below (bd V)))
        have HR9 := Lib.hid (show V.drew.heap[r]? = _ from HR9.out)
        have HT9 := Lib.hid (HT9.out.trans (touch_of_below (bd V) (fun k => k = r ∨ k = gg)))
        generalize V.drew = V1 at *
        refine lext_late (i := 0) (v := ?_) (b := false) rfl (by decide) (by decide) (by kernel_rfl) (by kernel_rfl) (by kernel_rfl) (by kernel_rfl) (by kernel_rfl) (fun W h => ⟨h.1, fun e => (by cases e)⟩) (by rfl) hS ?_ ?_
        rotate_left
        · ((intro W hW; obtain ⟨k0, _⟩ := hW; go_simp) <;> with_reducible rfl)
        (try simp only [Act.put, List.setIfInBounds_toArray, List.set_cons_zero, List.set_cons_succ])
        refine lext_late (i := 1) (v := ?_) (b := false) rfl (by decide) (by decide) (by kernel_rfl) (by kernel_rfl) (by kernel_rfl) (by kernel_rfl) (by kernel_rfl) (fun W h => ⟨h.1, fun e => (by cases e)⟩) (by rfl) hS ?_ ?_
        rotate_left
        · ((intro W hW; obtain ⟨k0, _⟩ := hW; go_simp) <;> with_reducible rfl)
        (try simp only [Act.put, List.setIfInBounds_toArray, List.set_cons_zero, List.set_cons_succ])
        refine lext_late (i := 2) (v := ?_) (b := false) rfl (by decide) (by decide) (by kernel_rfl) (by kernel_rfl) (by kernel_rfl) (by kernel_rfl) (by kernel_rfl) (fun W h => ⟨h.1, fun e => (by cases e)⟩) (by rfl) hS ?_ ?_
        rotate_left
        · ((intro W hW; obtain ⟨k0, _⟩ := hW; go_simp) <;> with_reducible rfl)
        (try simp only [Act.put, List.setIfInBounds_toArray, List.set_cons_zero, List.set_cons_succ])
        refine lext_late (i := 3) (v := ?_) (b := false) rfl (by decide) (by decide) (by kernel_rfl) (by kernel_rfl) (by kernel_rfl) (by kernel_rfl) (by kernel_rfl) (fun W h => ⟨h.1, fun e => (by cases e)⟩) (by rfl) hS ?_ ?_
        rotate_left
        · ((intro W hW; obtain ⟨k0, _⟩ := hW; go_simp) <;> with_reducible rfl)
        (try simp only [Act.put, List.setIfInBounds_toArray, List.set_cons_zero, List.set_cons_succ])
        refine lext_late (i := 4) (v := ?_) (b := false) rfl (by decide) (by decide) (by kernel_rfl) (by kernel_rfl) (by kernel_rfl) (by kernel_rfl) (by kernel_rfl) (fun W h => ⟨h.1, fun e => (by cases e)⟩) (by rfl) hS ?_ ?_
        rotate_left
        · ((intro W hW; obtain ⟨k0, _⟩ := hW; go_simp) <;> with_reducible rfl)
        (try simp only [Act.put, List.setIfInBounds_toArray, List.set_cons_zero, List.set_cons_succ])
        refine lext_late (i := 5) (v := ?_) (b := false) rfl (by decide) (by decide) (by kernel_rfl) (by kernel_rfl) (by kernel_rfl) (by kernel_rfl) (by kernel_rfl) (fun W h => ⟨h.1, fun e => (by cases e)⟩) (by rfl) hS ?_ ?_
        rotate_left
        · ((intro W hW; obtain ⟨k0, _⟩ := hW; go_simp) <;> with_reducible rfl)
        (try simp only [Act.put, List.setIfInBounds_toArray, List.set_cons_zero, List.set_cons_succ])
        refine lext_late (i := 6) (v := ?_) (b := false) rfl (by decide) (by decide) (by kernel_rfl) (by kernel_rfl) (by kernel_rfl) (by kernel_rfl) (by kernel_rfl) (fun W h => ⟨h.1, fun e => (by cases e)⟩) (by rfl) hS ?_ ?_
        rotate_left
        · ((intro W hW; obtain ⟨k0, _⟩ := hW; go_simp) <;> with_reducible rfl)
        (try simp only [Act.put, List.setIfInBounds_toArray, List.set_cons_zero, List.set_cons_succ])
        refine lext_late (i := 7) (v := ?_) (b := false) rfl (by decide) (by decide) (by kernel_rfl) (by kernel_rfl) (by kernel_rfl) (by kernel_rfl) (by kernel_rfl) (fun W h => ⟨h.1, fun e => (by cases e)⟩) (by rfl) hS ?_ ?_
        rotate_left
        · ((intro W hW; obtain ⟨k0, _⟩ := hW; go_simp) <;> with_reducible rfl)
        (try simp only [Act.put, List.setIfInBounds_toArray, List.set_cons_zero, List.set_cons_succ])
        refine lext_late (i := 8) (v := ?_) (b := false) rfl (by decide) (by decide) (by kernel_rfl) (by kernel_rfl) (by kernel_rfl) (by kernel_rfl) (by kernel_rfl) (fun W h => ⟨h.1, fun e => (by cases e)⟩) (by rfl) hS ?_ ?_
        rotate_left
        · ((intro W hW; obtain ⟨k0, _⟩ := hW; go_simp) <;> with_reducible rfl)
        (try simp only [Act.put, List.setIfInBounds_toArray, List.set_cons_zero, List.set_cons_succ])
        refine lext_late (i := 9) (v := ?_) (b := false) rfl (by decide) (by decide) (by kernel_rfl) (by kernel_rfl) (by kernel_rfl) (by kernel_rfl) (by kernel_rfl) (fun W h => ⟨h.1, fun e => (by cases e)⟩) (by rfl) hS ?_ ?_
        rotate_left
        · ((intro W hW; obtain ⟨k0, _⟩ := hW; go_simp) <;> with_reducible rfl)
        (try simp only [Act.put, List.setIfInBounds_toArray, List.set_cons_zero, List.set_cons_succ])
        refine lext_late (i := 10) (v := ?_) (b := false) rfl (by decide) (by decide) (by kernel_rfl) (by kernel_rfl) (by kernel_rfl) (by kernel_rfl) (by kernel_rfl) (fun W h => ⟨h.1, fun e => (by cases e)⟩) (by rfl) hS ?_ ?_
        rotate_left
        · ((intro W hW; obtain ⟨k0, _⟩ := hW; go_simp) <;> with_reducible rfl)
        (try simp only [Act.put, List.setIfInBounds_toArray, List.set_cons_zero, List.set_cons_succ])
        refine lext_late (i := 11) (v := ?_) (b := false) rfl (by decide) (by decide) (by kernel_rfl) (by kernel_rfl) (by kernel_rfl) (by kernel_rfl) (by kernel_rfl) (fun W h => ⟨h.1, fun e => (by cases e)⟩) (by rfl) hS ?_ ?_
        rotate_left
        · ((intro W hW; obtain ⟨k0, _⟩ := hW; go_simp) <;> with_reducible rfl)
        (try simp only [Act.put, List.setIfInBounds_toArray, List.set_cons_zero, List.set_cons_succ])
        refine lext_late (i := 12) (v := ?_) (b := false) rfl (by decide) (by decide) (by kernel_rfl) (by kernel_rfl) (by kernel_rfl) (by kernel_rfl) (by kernel_rfl) (fun W h => ⟨h.1, fun e => (by cases e)⟩) (by rfl) hS ?_ ?_
        rotate_left
        · ((intro W hW; obtain ⟨k0, _⟩ := hW; go_simp) <;> with_reducible rfl)
        (try simp only [Act.put, List.setIfInBounds_toArray, List.set_cons_zero, List.set_cons_succ])
        refine lext_late (i := 13) (v := ?_) (b := false) rfl (by decide) (by decide) (by kernel_rfl) (by kernel_rfl) (by kernel_rfl) (by kernel_rfl) (by kernel_rfl) (fun W h => ⟨h.1, fun e => (by cases e)⟩) (by rfl) hS ?_ ?_
        rotate_left
        · ((intro W hW; obtain ⟨k0, _⟩ := hW; go_simp) <;> with_reducible rfl)
        (try simp only [Act.put, List.setIfInBounds_toArray, List.set_cons_zero, List.set_cons_succ])
        refine lext_late (i := 14) (v := ?_) (b := false) rfl (by decide) (by decide) (by kernel_rfl) (by kernel_rfl) (by kernel_rfl) (by kernel_rfl) (by kernel_rfl) (fun W h => ⟨h.1, fun e => (by cases e)⟩) (by rfl) hS ?_ ?_
        rotate_left
        · ((intro W hW; obtain ⟨k0, _⟩ := hW; go_simp) <;> with_reducible rfl)
        (try simp only [Act.put, List.setIfInBounds_toArray, List.set_cons_zero, List.set_cons_succ])
        refine lext_late (i := 15) (v := ?_) (b := false) rfl (by decide) (by decide) (by kernel_rfl) (by kernel_rfl) (by kernel_rfl) (by kernel_rfl) (by kernel_rfl) (fun W h => ⟨h.1, fun e => (by cases e)⟩) (by rfl) hS ?_ ?_
        rotate_left
        · ((intro W hW; obtain ⟨k0, _⟩ := hW; go_simp) <;> with_reducible rfl)
        (try simp only [Act.put, List.setIfInBounds_toArray, List.set_cons_zero, List.set_cons_succ])
        refine lext_late (i := 16) (v := ?_) (b := false) rfl (by decide) (by decide) (by kernel_rfl) (by kernel_rfl) (by kernel_rfl) (by kernel_rfl) (by kernel_rfl) (fun W h => ⟨h.1, fun e => (by cases e)⟩) (by rfl) hS ?_ ?_
        rotate_left
        · ((intro W hW; obtain ⟨k0, _⟩ := hW; go_simp) <;> with_reducible rfl)
        (try simp only [Act.put, List.setIfInBounds_toArray, List.set_cons_zero, List.set_cons_succ])
        refine lext_take (i := 17) (v := ?_) rfl (by decide) (by decide) (by kernel_rfl) (by kernel_rfl) (by kernel_rfl) (by kernel_rfl) (by kernel_rfl) (by kernel_rfl) (by rfl) hS ?_ ?_
        rotate_left
        · ((intro W hW; obtain ⟨k0, hk⟩ := hW; obtain ⟨k1, k2, k3, k4, k5, k6⟩ := hk rfl; go_simp) <;> with_reducible rfl)
        (try simp only [Act.put, List.setIfInBounds_toArray, List.set_cons_zero, List.set_cons_succ])
        refine lext_late (i := 18) (v := ?_) (b := false) rfl (by decide) (by decide) (by kernel_rfl) (by kernel_rfl) (by kernel_rfl) (by kernel_rfl) (by kernel_rfl) (fun W h => ⟨h.1, fun e => (by cases e)⟩) (by rfl) hS ?_ ?_
        rotate_left
        · ((intro W hW; obtain ⟨k0, _⟩ := hW; go_simp) <;> with_reducible rfl)
        (try simp only [Act.put, List.setIfInBounds_toArray, List.set_cons_zero, List.set_cons_succ])
        refine lext_late (i := 19) (v := ?_) (b := false) rfl (by decide) (by decide) (by kernel_rfl) (by kernel_rfl) (by kernel_rfl) (by kernel_rfl) (by kernel_rfl) (fun W h => ⟨h.1, fun e => (by cases e)⟩) (by rfl) hS ?_ ?_
        rotate_left
        · ((intro W hW; obtain ⟨k0, _⟩ := hW; go_simp) <;> with_reducible rfl)
        (try simp only [Act.put, List.setIfInBounds_toArray, List.set_cons_zero, List.set_cons_succ])
        refine lext_late (i := 20) (v := ?_) (b := false) rfl (by decide) (by decide) (by kernel_rfl) (by kernel_rfl) (by kernel_rfl) (by kernel_rfl) (by kernel_rfl) (fun W h => ⟨h.1, fun e => (by cases e)⟩) (by rfl) hS ?_ ?_
        rotate_left
        · ((intro W hW; obtain ⟨k0, _⟩ := hW; go_simp) <;> with_reducible rfl)
        (try simp only [Act.put, List.setIfInBounds_toArray, List.set_cons_zero, List.set_cons_succ])
        refine lext_late (i := 21) (v := ?_) (b := false) rfl (by decide) (by decide) (by kernel_rfl) (by kernel_rfl) (by kernel_rfl) (by kernel_rfl) (by kernel_rfl) (fun W h => ⟨h.1, fun e => (by cases e)⟩) (by rfl) hS ?_ ?_
        rotate_left
        · ((intro W hW; obtain ⟨k0, _⟩ := hW; go_simp) <;> with_reducible rfl)
        (try simp only [Act.put, List.setIfInBounds_toArray, List.set_cons_zero, List.set_cons_succ])
        refine lext_late (i := 22) (v := ?_) (b := false) rfl (by decide) (by decide) (by kernel_rfl) (by kernel_rfl) (by kernel_rfl) (by kernel_rfl) (by kernel_rfl) (fun W h => ⟨h.1, fun e => (by cases e)⟩) (by rfl) hS ?_ ?_
        rotate_left
        · ((intro W hW; obtain ⟨k0, _⟩ := hW; go_simp) <;> with_reducible rfl)
        (try simp only [Act.put, List.setIfInBounds_toArray, List.set_cons_zero, List.set_cons_succ])
        refine lext_late (i := 23) (v := ?_) (b := false) rfl (by decide) (by decide) (by kernel_rfl) (by kernel_rfl) (by kernel_rfl) (by kernel_rfl) (by kernel_rfl) (fun W h => ⟨h.1, fun e => (by cases e)⟩) (by rfl) hS ?_ ?_
        rotate_left
        · ((intro W hW; obtain ⟨k0, _⟩ := hW; go_simp) <;> with_reducible rfl)
        (try simp only [Act.put, List.setIfInBounds_toArray, List.set_cons_zero, List.set_cons_succ])
        refine lext_late (i := 24) (v := ?_) (b := false) rfl (by decide) (by decide) (by kernel_rfl) (by kernel_rfl) (by kernel_rfl) (by kernel_rfl) (by kernel_rfl) (fun W h => ⟨h.1, fun e => (by cases e)⟩) (by rfl) hS ?_ ?_
        rotate_left
        · ((intro W hW; obtain ⟨k0, _⟩ := hW; go_simp) <;> with_reducible rfl)
        (try simp only [Act.put, List.setIfInBounds_toArray, List.set_cons_zero, List.set_cons_succ])
        refine lext_take (i := 25) (v := ?_) rfl (by decide) (by decide) (by kernel_rfl) (by kernel_rfl) (by kernel_rfl) (by kernel_rfl) (by kernel_rfl) (by kernel_rfl) (by rfl) hS ?_ ?_
        rotate_left
        · ((intro W hW; obtain ⟨k0, hk⟩ := hW; obtain ⟨k1, k2, k3, k4, k5, k6⟩ := hk rfl; go_simp) <;> with_reducible rfl)
        (try simp only [Act.put, List.setIfInBounds_toArray, List.set_cons_zero, List.set_cons_succ])
        refine lext_late (i := 26) (v := ?_) (b := false) rfl (by decide) (by decide) (by kernel_rfl) (by kernel_rfl) (by kernel_rfl) (by kernel_rfl) (by kernel_rfl) (fun W h => ⟨h.1, fun e => (by cases e)⟩) (by rfl) hS ?_ ?_
        rotate_left
        · ((intro W hW; obtain ⟨k0, _⟩ := hW; go_simp) <;> with_reducible rfl)
        (try simp only [Act.put, List.setIfInBounds_toArray, List.set_cons_zero, List.set_cons_succ])
        refine lext_do (i := 27) (b := true) rfl (by kernel_rfl) (by kernel_rfl) (by rfl) (fun K hK => ?_)
        obtain ⟨s0, hs⟩ := hS
        obtain ⟨s1, s2, s3, s4, s5, s6⟩ := hs rfl
        clear hs s1 s2 s3
        have f1 := HL9.out.frz (j * 3)
        have f2 := HL9.out.frz (j * 3 + 1)
        have f3 := HL9.out.frz (j * 3 + 2)
        go_simp
        have hjl : j < (A' ++ [a] ++ t :: C).length := by simp; have := HA'.out; omega
        have hkl : gk < (A' ++ [a] ++ t :: C).length := by simp; have := HA'.out; have := HJ.out; omega
        have hl1 := HL9.out.set t hjl
        rw [HU.out] at hl1
        have hr1 : (((V1.setCell ⟨gg, j * 3, none⟩ (.int .i64 t.id)).setCell ⟨gg, j * 3 + 1, none⟩ (.int .i64 t.tk)).setCell ⟨gg, j * 3 + 2, none⟩ (.string u)).heap[r]? = some (Obj.cells #[.int .i64 x.now, .int .i64 x.ids, .slice (some ⟨gg, 0, none⟩) (x.ts.length + 1) gc] RwT) := by
          rw [Below.heap_setCell _ _ _ _ HNG.out, Below.heap_setCell _ _ _ _ HNG.out, Below.heap_setCell _ _ _ _ HNG.out]; exact HR9.out
        have ht1 := ((HT9.out.trans (touch_set V1 gg (j * 3) (.int .i64 t.id) (fun k => k = r ∨ k = gg) (.inr rfl))).trans (touch_set _ gg (j * 3 + 1) (.int .i64 t.tk) (fun k => k = r ∨ k = gg) (.inr rfl))).trans (touch_set _ gg (j * 3 + 2) (.string u) (fun k => k = r ∨ k = gg) (.inr rfl))
        generalize (((V1.setCell ⟨gg, j * 3, none⟩ (.int .i64 t.id)).setCell ⟨gg, j * 3 + 1, none⟩ (.int .i64 t.tk)).setCell ⟨gg, j * 3 + 2, none⟩ (.string u)) = V3 at *
        have HL10 := Lib.hid hl1
        have HR10 := Lib.hid hr1
        have HT10 := Lib.hid ht1
        have hkl' : gk < ((A' ++ [a] ++ t :: C).set j t).length := by rw [List.length_set]; exact hkl
        have HKL' := Lib.hid hkl'
        refine hK _ _ ⟨fun _ => ⟨cellB (j := 2) hr1 rfl, fun e => (by cases e)⟩, ?_⟩
        clear hK K
        have hS : (fun b W => W.cell? ⟨r, 2, none⟩ = some (.slice (some ⟨gg, 0, none⟩) (x.ts.length + 1) gc) ∧ (b = false → W.cell? ⟨gg, gk * 3, none⟩ = some (.int .i64 t.id) ∧ W.cell? ⟨gg, gk * 3 + 1, none⟩ = some (.int .i64 t.tk) ∧ W.cell? ⟨gg, gk * 3 + 2, none⟩ = some (.string u) ∧ W.cell? ⟨gg, j * 3, none⟩ = some (.int .i64 a.id) ∧ W.cell? ⟨gg, j * 3 + 1, none⟩ = some (.int .i64 a.tk) ∧ W.cell? ⟨gg, j * 3 + 2, none⟩ = some (.string ua))) true V3 := ⟨cellB (j := 2) hr1 rfl, fun e => (by cases e)⟩
        clear hl1 hr1 ht1 s0 s4 s5 s6 f1 f2 f3 hjl hkl hkl'
        (try simp only [Act.put, List.setIfInBounds_toArray, List.set_cons_zero, List.set_cons_succ])
        refine lext_late (i := 28) (v := ?_) (b := true) rfl (by decide) (by decide) (by kernel_rfl) (by kernel_rfl) (by kernel_rfl) (by kernel_rfl) (by kernel_rfl) (fun W h => ⟨h.1, fun e => (by cases e)⟩) (by rfl) hS ?_ ?_
        rotate_left
        · ((intro W hW; obtain ⟨k0, _⟩ := hW; go_simp) <;> with_reducible rfl)
        (try simp only [Act.put, List.setIfInBounds_toArray, List.set_cons_zero, List.set_cons_succ])
        refine lext_do (i := 29) (b := true) rfl (by kernel_rfl) (by kernel_rfl) (by rfl) (fun K hK => ?_)
        have htl : ((A' ++ [a] ++ t :: C).set j t)[gk]? = some t := by
          rw [List.getElem?_set_ne (by have := HJ.out; omega), List.getElem?_append_right (by simp; have := HA'.out; have := HJ.out; omega)]
          simp [HA'.out, HJ.out]
        obtain ⟨s4, s5, s6⟩ := HL10.out.at3 htl
        rw [HU.out] at s6
        have f1 := HL10.out.frz (gk * 3)
        have f2 := HL10.out.frz (gk * 3 + 1)
        have f3 := HL10.out.frz (gk * 3 + 2)
        clear hS htl
        go_simp
        have hl2 := HL10.out.set a HKL'.out
        rw [HUA.out] at hl2
        have hr2 : (((V3.setCell ⟨gg, gk * 3, none⟩ (.int .i64 a.id)).setCell ⟨gg, gk * 3 + 1, none⟩ (.int .i64 a.tk)).setCell ⟨gg, gk * 3 + 2, none⟩ (.string ua)).heap[r]? = some (Obj.cells #[.int .i64 x.now, .int .i64 x.ids, .slice (some ⟨gg, 0, none⟩) (x.ts.length + 1) gc] RwT) := by
          rw [Below.heap_setCell _ _ _ _ HNG.out, Below.heap_setCell _ _ _ _ HNG.out, Below.heap_setCell _ _ _ _ HNG.out]; exact HR10.out
        have ht2 := ((HT10.out.trans (touch_set V3 gg (gk * 3) (.int .i64 a.id) (fun k => k = r ∨ k = gg) (.inr rfl))).trans (touch_set _ gg (gk * 3 + 1) (.int .i64 a.tk) (fun k => k = r ∨ k = gg) (.inr rfl))).trans (touch_set _ gg (gk * 3 + 2) (.string ua) (fun k => k = r ∨ k = gg) (.inr rfl))
        generalize (((V3.setCell ⟨gg, gk * 3, none⟩ (.int .i64 a.id)).setCell ⟨gg, gk * 3 + 1, none⟩ (.int .i64 a.tk)).setCell ⟨gg, gk * 3 + 2, none⟩ (.string ua)) = V4 at *
        have HL11 := Lib.hid hl2
        have HR11 := Lib.hid hr2
        have HT11 := Lib.hid ht2
        clear hl2 hr2 ht2 s4 s5 s6 f1 f2 f3
        refine hK _ _ ⟨fun e => absurd rfl e, ?_⟩
        clear hK K
        refine lext_done (by kernel_rfl) ?_
        go_wp2_with fail
        go_roundg j
        case measure => have := HJ.out; omega
        case rel =>
          refine ⟨A', a :: C, rfl, HA'.out, by rw [HSP2.out]; simp, fun c hc => ?_, ?_, HR11.out, HT11.out⟩
          · rcases List.mem_cons.1 hc with rfl | hc
            · exact HAT2.out
            · exact HC.out c hc
          · have h := HL11.out
            have e : ((A' ++ [a] ++ t :: C).set j t).set gk a = A' ++ t :: a :: C := by
              rw [List.append_assoc, List.set_append_right _ _ (by have := HA'.out; omega), HA'.out, List.set_append_right _ _ (by have := HA'.out; have := HJ.out; omega), HA'.out, HJ.out]
              simp
            rw [e] at h; exact h
      · have hd : decide (t.tk < a.tk) = false := by simpa using hat
        have hE := HEND.out (fun y hy => by
          rcases List.mem_append.1 hy with hy | hy
          · have h1 := HO.out
            rw [hsp, List.append_assoc, List.pairwise_append] at h1
            have := h1.2.2 y hy a (by simp)
            unfold lt2 at this; omega
          · rw [List.mem_singleton.1 hy]; omega) wr rfl
        have HE := Lib.hid hE
        clear hE hA hsp hk0 hj hA' hat hua
        go_wp2_with fail
        go_quiet (fail)
        go_wp2_with fail
        go_end0
        obtain ⟨sl', e1, e2, e3⟩ := HE.out
        exact ⟨rfl, sl', e1.below (bdn _ _), e2.trans (touch_of_below (bdn _ _) _), e3⟩
end Go.Proofs.Ytbgnedeeeaapfaa
