/-
  Put, Drop and what is asked of a map in memory (int64,Map[int,int]).
-/
import Derived.Test.YtbgnedeeeaapfaaKML
import Derived.Handy
import Derived.IntWalk
import Derived.OwnWalk
namespace Go.Proofs.Ytbgnedeeeaapfaa
open Go.RowKit
set_option linter.unusedVariables false
set_option maxRecDepth 100000 in
set_option maxHeartbeats 800000 in
theorem mputL {w : World} {p : Option Addr} {t : Tr Int (Option Addr)} (k : Int) (x : Option Addr) (h : IsTL w (.pointer p) t) (hs : t.size < 500000) :
    Calls Try.prog 79 #[.agg #[.pointer p], .int .i64 k, .agg #[.pointer x]] w fun e w' => ∃ q, e = .returned (.agg #[.pointer q]) ∧ IsTL w' (.pointer q) (Tr.put t k x) ∧ Below w.heap.size w w' := by
  have b0 : Below w.heap.size w (((w.alloc (.cells #[.pointer p] 82)).alloc (.cells #[.pointer x] 111)).alloc (.cells #[.pointer none] 82)) := (((Below.refl _ _).alloc (Nat.le_refl _) _).alloc (by simp) _).alloc (by simp; omega) _
  have y0 : (((w.alloc (.cells #[.pointer p] 82)).alloc (.cells #[.pointer x] 111)).alloc (.cells #[.pointer none] 82)).heap[w.heap.size + 2]? = some (Obj.cells #[.pointer none] 82) := by
    have e : w.heap.size + 2 = ((w.alloc (.cells #[.pointer p] 82)).alloc (.cells #[.pointer x] 111)).heap.size := by simp
    rw [e]; exact heap_alloc_new _ _
  have x0 : (((w.alloc (.cells #[.pointer p] 82)).alloc (.cells #[.pointer x] 111)).alloc (.cells #[.pointer none] 82)).cell? ⟨w.heap.size + 2, 0, none⟩ = some (.pointer none) := cellB y0 rfl
  have f0 : (((w.alloc (.cells #[.pointer p] 82)).alloc (.cells #[.pointer x] 111)).alloc (.cells #[.pointer none] 82)).frozen? ⟨w.heap.size + 2, 0, none⟩ = false := frozenB y0
  have HB := Lib.hid b0
  have HY := Lib.hid y0
  have HX := Lib.hid x0
  have HF := Lib.hid f0
  have h' := h.below b0
  have HH := Lib.hid h'
  clear h b0 y0 x0 f0 h'
  go_enter Try.func79, Try.ntmps79
  go_wp2_with fail
  refine (putL k x t _ _ HH.out hs).mono ?_
  rintro e w1 ⟨q, rfl, t1, u1⟩
  have x1 := bcellAt u1 HX.out
  have f1 := bfrozenAt u1 HX.out HF.out
  have y1 := Hold.below (T := 82) u1 _ _ HY.out
  have HT := Lib.hid t1
  have HU := Lib.hid u1
  have HY1 := Lib.hid y1
  clear t1 u1 y1
  go_wp2_with fail
  have hxs : (w1.setCell ⟨w.heap.size + 2, 0, none⟩ (.pointer q)).cell? ⟨w.heap.size + 2, 0, none⟩ = some (.pointer q) := World.cell?_setCell_same' _ _ _ (by rw [x1]; rfl)
  refine bodyPost_ret (v := .agg #[.pointer q]) (by simp [results, Try.results79, go_sem, hxs]) rfl ?_
  exact ⟨q, rfl, HT.out.hold (Hold.setCell HY1.out (by decide)), (HB.out.trans (HU.out.mono HB.out.size)).setCell (p := ⟨w.heap.size + 2, 0, none⟩) (by simp) _⟩
set_option maxRecDepth 100000 in
set_option maxHeartbeats 800000 in
theorem mdropL {w : World} {p : Option Addr} {t : Tr Int (Option Addr)} (k : Int) (h : IsTL w (.pointer p) t) (hs : t.size < 500000) :
    Calls Try.prog 85 #[.agg #[.pointer p], .int .i64 k] w fun e w' => ∃ q, e = .returned (.agg #[.pointer q]) ∧ IsTL w' (.pointer q) (Tr.del t k) ∧ Below w.heap.size w w' := by
  have b0 : Below w.heap.size w ((w.alloc (.cells #[.pointer p] 82)).alloc (.cells #[.pointer none] 82)) := ((Below.refl _ _).alloc (Nat.le_refl _) _).alloc (by simp) _
  have y0 : ((w.alloc (.cells #[.pointer p] 82)).alloc (.cells #[.pointer none] 82)).heap[w.heap.size + 1]? = some (Obj.cells #[.pointer none] 82) := by
    have e : w.heap.size + 1 = ((w.alloc (.cells #[.pointer p] 82))).heap.size := by simp
    rw [e]; exact heap_alloc_new _ _
  have x0 : ((w.alloc (.cells #[.pointer p] 82)).alloc (.cells #[.pointer none] 82)).cell? ⟨w.heap.size + 1, 0, none⟩ = some (.pointer none) := cellB y0 rfl
  have f0 : ((w.alloc (.cells #[.pointer p] 82)).alloc (.cells #[.pointer none] 82)).frozen? ⟨w.heap.size + 1, 0, none⟩ = false := frozenB y0
  have HB := Lib.hid b0
  have HY := Lib.hid y0
  have HX := Lib.hid x0
  have HF := Lib.hid f0
  have h' := h.below b0
  have HH := Lib.hid h'
  have H00 := Lib.hid h
  clear h b0 y0 x0 f0 h'
  cases hf : Tr.find t k with
  | nil =>
    have e1 : Tr.del t k = t := by unfold Tr.del; rw [hf]
    rw [e1]
    have HFD := Lib.hid hf
    clear hf e1
    go_enter Try.func85, Try.ntmps85
    go_wp2_with fail
    refine (findL k HH.out).mono ?_
    rintro e w9 ⟨pf, rfl, tf, rfl⟩
    rw [HFD.out] at tf
    obtain rfl : pf = none := by simpa [IsTL] using tf
    clear tf
    have x1 := HX.out
    have f1 := HF.out
    go_wp2_with fail
    refine bodyPost_ret (v := .agg #[.pointer p]) (by simp [results, Try.results85, go_sem]) rfl ?_
    have bz : Below w.heap.size w ((w.alloc (.cells #[.pointer p] 82)).alloc (.cells #[.pointer p] 82)) := ((Below.refl _ _).alloc (Nat.le_refl _) _).alloc (by simp) _
    exact ⟨p, rfl, H00.out.below bz, bz⟩
  | node fl fk fx fr =>
    have e1 : Tr.del t k = Tr.drop t k := by unfold Tr.del; rw [hf]
    rw [e1]
    have HN := Lib.hid (show Tr.find t k ≠ .nil by rw [hf]; intro h; cases h)
    have HFD := Lib.hid hf
    clear hf e1
    go_enter Try.func85, Try.ntmps85
    go_wp2_with fail
    refine (findL k HH.out).mono ?_
    rintro e w9 ⟨pf, rfl, tf, rfl⟩
    rw [HFD.out] at tf
    obtain ⟨fb, _, _, hfv, _⟩ := tf
    obtain rfl : pf = some ⟨fb, 0, none⟩ := by simpa using hfv
    clear hfv
    go_wp2_with fail
    refine (dropL k t _ _ HH.out hs HN.out).mono ?_
    rintro e w1 ⟨q, rfl, t1, u1⟩
    have x1 := bcellAt u1 HX.out
    have f1 := bfrozenAt u1 HX.out HF.out
    have y1 := Hold.below (T := 82) u1 _ _ HY.out
    have HT := Lib.hid t1
    have HU := Lib.hid u1
    have HY1 := Lib.hid y1
    clear t1 u1 y1
    go_wp2_with fail
    have hxs : (w1.setCell ⟨w.heap.size + 1, 0, none⟩ (.pointer q)).cell? ⟨w.heap.size + 1, 0, none⟩ = some (.pointer q) := World.cell?_setCell_same' _ _ _ (by rw [x1]; rfl)
    refine bodyPost_ret (v := .agg #[.pointer q]) (by simp [results, Try.results85, go_sem, hxs]) rfl ?_
    exact ⟨q, rfl, HT.out.hold (Hold.setCell HY1.out (by decide)), (HB.out.trans (HU.out.mono HB.out.size)).setCell (p := ⟨w.heap.size + 1, 0, none⟩) (by simp) _⟩
/-- What told answers. -/
def toldVL : Tr Int (Option Addr) → Value
  | .nil => .tuple #[.int .i64 0, .agg #[.pointer none], .bool false]
  | .node _ k x _ => .tuple #[.int .i64 k, .agg #[.pointer x], .bool true]
set_option maxRecDepth 100000 in
set_option maxHeartbeats 800000 in
theorem toldL {w : World} {v : Value} {t : Tr Int (Option Addr)} (h : IsTL w v t) : Calls Try.prog 87 #[v] w fun e w' => e = .returned (toldVL t) ∧ Below w.heap.size w w' := by
  cases t with
  | nil =>
    obtain rfl := h
    have b0 : Below w.heap.size w ((w.alloc (.cells #[.pointer none] 111)).alloc (.cells #[.int .i64 0, .pointer none] 145)) := ((Below.refl _ _).alloc (Nat.le_refl _) _).alloc (by simp) _
    have y0 : ((w.alloc (.cells #[.pointer none] 111)).alloc (.cells #[.int .i64 0, .pointer none] 145)).heap[w.heap.size]? = some (Obj.cells #[.pointer none] 111) := by
      rw [(((Below.refl _ _).alloc (Nat.le_refl _) _ : Below (w.alloc (.cells #[.pointer none] 111)).heap.size (w.alloc (.cells #[.pointer none] 111)) _)).block _ (by simp)]; exact heap_alloc_new _ _
    have y1 : ((w.alloc (.cells #[.pointer none] 111)).alloc (.cells #[.int .i64 0, .pointer none] 145)).heap[w.heap.size + 1]? = some (Obj.cells #[.int .i64 0, .pointer none] 145) := by
      have e : w.heap.size + 1 = (w.alloc (.cells #[.pointer none] 111)).heap.size := by simp
      rw [e]; exact heap_alloc_new _ _
    have x0 := cellB (j := 0) y0 rfl
    have f0 := frozenB (j := 0) y0
    have z0 := cellB (j := 0) y1 rfl
    have z1 := cellB (j := 1) y1 rfl
    have HB := Lib.hid b0
    clear b0 y0 y1
    go_enter Try.func87, Try.ntmps87
    go_wp2_with fail
    generalize ((w.alloc (.cells #[.pointer none] 111)).alloc (.cells #[.int .i64 0, .pointer none] 145)) = W at *
    go_region
    go_wp2_with fail
    have hxs : (W.setCell ⟨w.heap.size, 0, none⟩ (.pointer none)).cell? ⟨w.heap.size, 0, none⟩ = some (.pointer none) := World.cell?_setCell_same' _ _ _ (by rw [x0]; rfl)
    refine bodyPost_ret (v := .tuple #[.int .i64 0, .agg #[.pointer none], .bool false]) (by simp [results, Try.results87, go_sem, hxs]) rfl ?_
    exact ⟨rfl, (HB.out.setCell (p := ⟨w.heap.size, 0, none⟩) (Nat.le_refl _) _).drew⟩
  | node l k x r =>
    obtain ⟨b, pl, pr, rfl, hb, _, _⟩ := h
    have b0 : Below w.heap.size w (w.alloc (.cells #[.pointer none] 111)) := (Below.refl _ _).alloc (Nat.le_refl _) _
    have y0 : (w.alloc (.cells #[.pointer none] 111)).heap[w.heap.size]? = some (Obj.cells #[.pointer none] 111) := heap_alloc_new _ _
    have hb' := Hold.below b0 _ _ hb
    obtain ⟨c0, cx, cl, cr, cs, ch⟩ := nodeCL (x := x) hb'
    have x0 := cellB (j := 0) y0 rfl
    have f0 := frozenB (j := 0) y0
    have HB := Lib.hid b0
    clear hb b0 y0 hb' cl cr cs ch
    go_enter Try.func87, Try.ntmps87
    go_wp2_with fail
    generalize (w.alloc (.cells #[.pointer none] 111)) = W at *
    go_region
    go_wp2_with fail
    have hxs : (W.setCell ⟨w.heap.size, 0, none⟩ (.pointer x)).cell? ⟨w.heap.size, 0, none⟩ = some (.pointer x) := World.cell?_setCell_same' _ _ _ (by rw [x0]; rfl)
    refine bodyPost_ret (v := .tuple #[.int .i64 k, .agg #[.pointer x], .bool true]) (by simp [results, Try.results87, go_sem, hxs]) rfl ?_
    exact ⟨rfl, (HB.out.setCell (p := ⟨w.heap.size, 0, none⟩) (Nat.le_refl _) _).drew⟩
/-- The end of a call whose answer lies in a cell. -/
def CellTold (w : World) (W : World) : Prop := W.cell? ⟨w.heap.size + 1, 0, none⟩ = some (.pointer none) ∧ W.frozen? ⟨w.heap.size + 1, 0, none⟩ = false
theorem two_boxes (w : World) (p : Option Addr) : Below w.heap.size w ((w.alloc (.cells #[.pointer p] 82)).alloc (.cells #[.pointer none] 111)) ∧ ((w.alloc (.cells #[.pointer p] 82)).alloc (.cells #[.pointer none] 111)).cell? ⟨w.heap.size, 0, none⟩ = some (.pointer p) ∧ ((w.alloc (.cells #[.pointer p] 82)).alloc (.cells #[.pointer none] 111)).cell? ⟨w.heap.size + 1, 0, none⟩ = some (.pointer none) ∧ ((w.alloc (.cells #[.pointer p] 82)).alloc (.cells #[.pointer none] 111)).frozen? ⟨w.heap.size + 1, 0, none⟩ = false := by
  have y0 : ((w.alloc (.cells #[.pointer p] 82)).alloc (.cells #[.pointer none] 111)).heap[w.heap.size]? = some (Obj.cells #[.pointer p] 82) := by
    rw [(((Below.refl _ _).alloc (Nat.le_refl _) _ : Below (w.alloc (.cells #[.pointer p] 82)).heap.size (w.alloc (.cells #[.pointer p] 82)) _)).block _ (by simp)]; exact heap_alloc_new _ _
  have y1 : ((w.alloc (.cells #[.pointer p] 82)).alloc (.cells #[.pointer none] 111)).heap[w.heap.size + 1]? = some (Obj.cells #[.pointer none] 111) := by
    have e : w.heap.size + 1 = (w.alloc (.cells #[.pointer p] 82)).heap.size := by simp
    rw [e]; exact heap_alloc_new _ _
  exact ⟨((Below.refl _ _).alloc (Nat.le_refl _) _).alloc (by simp) _, cellB y0 rfl, cellB y1 rfl, frozenB y1⟩
theorem toldL_shape (t : Tr Int (Option Addr)) : ∃ k x b, toldVL t = .tuple #[.int .i64 k, .agg #[.pointer x], .bool b] := by
  cases t <;> exact ⟨_, _, _, rfl⟩
set_option maxRecDepth 100000 in
set_option maxHeartbeats 1600000 in
theorem matL {w : World} {p : Option Addr} {t : Tr Int (Option Addr)} (i : Int) (h : IsTL w (.pointer p) t) (hs : t.size < 1000000) (hi : -9223372036854775808 ≤ i ∧ i ≤ 9223372036854775807) :
    Calls Try.prog 65 #[.agg #[.pointer p], .int .i64 i] w fun e w' => e = .returned (toldVL (Tr.nth t i)) ∧ Below w.heap.size w w' := by
  obtain ⟨b0, z0, x0, f0⟩ := two_boxes w p
  have HB := Lib.hid b0
  have H0 := Lib.hid (h.below b0)
  have HI := Lib.hid hi
  clear h b0 hi
  go_enter Try.func65, Try.ntmps65
  go_wp2_with fail
  generalize ((w.alloc (.cells #[.pointer p] 82)).alloc (.cells #[.pointer none] 111)) = W at *
  go_loopw [7, 1] (fun v j wr => ∃ (t' : Tr Int (Option Addr)) (m : Nat) (j' : Int), wr = W.drewN m ∧ j = .int .i64 j' ∧ IsTL W v t' ∧ t'.size < 1000000 ∧ (-9223372036854775808 ≤ j' ∧ j' ≤ 9223372036854775807) ∧ Tr.nth t' j' = Tr.nth t i) (fun v _ wr => sizeAtL W v)
  case atStart => exact ⟨t, 0, i, rfl, rfl, H0.out, hs, HI.out, rfl⟩
  case round =>
    obtain ⟨t', m, j', rfl, rfl, ht, hz, ⟨hj1, hj2⟩, he⟩ := hrel
    have HSZ := Lib.hid ht.sizeAt
    have HJ1 := Lib.hid hj1
    have HJ2 := Lib.hid hj2
    clear hj1 hj2
    cases t' with
    | nil =>
      obtain rfl := ht
      rw [Tr.nth] at he
      have HE := Lib.hid he
      clear he
      go_wp2_with fail
      refine (toldL (t := .nil) rfl).mono ?_
      rintro e w2 ⟨rfl, u2⟩
      have x2 := bcellAt ((bdn W m).trans (u2.mono (Nat.le_refl _))) x0
      have f2 := bfrozenAt ((bdn W m).trans (u2.mono (Nat.le_refl _))) x0 f0
      have HU := Lib.hid u2
      clear u2 x0 f0
      simp only [toldVL]
      go_wp2_with fail
      have hxs : (w2.setCell ⟨w.heap.size + 1, 0, none⟩ (.pointer none)).cell? ⟨w.heap.size + 1, 0, none⟩ = some (.pointer none) := World.cell?_setCell_same' _ _ _ (by rw [x2]; rfl)
      refine bodyPost_ret (v := .tuple #[.int .i64 0, .agg #[.pointer none], .bool false]) (by simp [results, Try.results65, go_sem, hxs]) rfl ?_
      exact ⟨by rw [← HE.out]; rfl, (HB.out.trans (((bdn W m).trans (HU.out.mono (Nat.le_refl _))).mono HB.out.size)).setCell (p := ⟨w.heap.size + 1, 0, none⟩) (by simp) _⟩
    | node l k x r =>
      have HT := Lib.hid ht
      obtain ⟨b, pl, pr, rfl, hb, hl, hr⟩ := ht
      obtain ⟨pl, rfl⟩ := hl.shape
      obtain ⟨pr, rfl⟩ := hr.shape
      obtain ⟨c0, cx, cl, cr, cs, ch⟩ := nodeCL (x := x) hb
      have HL := Lib.hid hl
      have HR := Lib.hid hr
      have hz1 : l.size < 1000000 := by simp only [Tr.size] at hz; omega
      have hz2 : r.size < 1000000 := by simp only [Tr.size] at hz; omega
      have HSL := Lib.hid hl.sizeAt
      have HSR := Lib.hid hr.sizeAt
      clear hb hl hr cs ch
      rw [Tr.nth] at he
      by_cases hA : j' = (l.size : Int)
      · rw [if_pos hA] at he
        have HE := Lib.hid he
        subst hA
        clear he
        go_wp2_with fail
        refine (sizeL (HL.out.drewN m)).mono ?_
        rintro e w2 ⟨rfl, rfl⟩
        go_wp2_with fail
        refine (toldL (HT.out.drewN m)).mono ?_
        rintro e w2 ⟨rfl, u2⟩
        have x2 := bcellAt ((bdn W m).trans (u2.mono (Nat.le_refl _))) x0
        have f2 := bfrozenAt ((bdn W m).trans (u2.mono (Nat.le_refl _))) x0 f0
        have HU := Lib.hid u2
        clear u2 x0 f0
        simp only [toldVL]
        go_wp2_with fail
        have hxs : (w2.setCell ⟨w.heap.size + 1, 0, none⟩ (.pointer x)).cell? ⟨w.heap.size + 1, 0, none⟩ = some (.pointer x) := World.cell?_setCell_same' _ _ _ (by rw [x2]; rfl)
        refine bodyPost_ret (v := .tuple #[.int .i64 k, .agg #[.pointer x], .bool true]) (by simp [results, Try.results65, go_sem, hxs]) rfl ?_
        exact ⟨by rw [← HE.out]; rfl, (HB.out.trans (((bdn W m).trans (HU.out.mono (Nat.le_refl _))).mono HB.out.size)).setCell (p := ⟨w.heap.size + 1, 0, none⟩) (by simp) _⟩
      · rw [if_neg hA] at he
        have hA' : decide (j' = (l.size : Int)) = false := by simpa using hA
        by_cases hC : j' < (l.size : Int)
        · rw [if_pos hC] at he
          have HE := Lib.hid he
          clear he
          have hcl := bcellAt (bdn W m) cl
          go_wp2_with fail
          refine (sizeL (HL.out.drewN m)).mono ?_
          rintro e w2 ⟨rfl, rfl⟩
          go_wp2_with fail
          refine (sizeL (HL.out.drewN m)).mono ?_
          rintro e w2 ⟨rfl, rfl⟩
          go_wp2_with fail
          go_roundw
          case rel => exact ⟨l, m, j', rfl, rfl, HL.out, hz1, ⟨HJ1.out, HJ2.out⟩, HE.out⟩
          case measure => rw [HSL.out, HSZ.out]; simp only [Tr.size]; omega
        · rw [if_neg hC] at he
          have HE := Lib.hid he
          clear he
          have e1 : IntKind.i64.wrap (j' - (l.size : Int)) = j' - (l.size : Int) := IntWalk.i64_in _ (by have := HJ2.out; omega)
          have e2 : IntKind.i64.wrap (j' - (l.size : Int) - 1) = j' - (l.size : Int) - 1 := IntWalk.i64_in _ (by have := HJ2.out; omega)
          have hj1 := HJ1.out
          have hj2 := HJ2.out
          have HK1 : Hid (-9223372036854775808 ≤ j' - (l.size : Int) - 1 ∧ j' - (l.size : Int) - 1 ≤ 9223372036854775807) := Lib.hid (by omega)
          clear hj1 hj2
          go_wp2_with fail
          refine (sizeL (HL.out.drewN m)).mono ?_
          rintro e w2 ⟨rfl, rfl⟩
          go_wp2_with fail
          refine (sizeL (HL.out.drewN m)).mono ?_
          rintro e w2 ⟨rfl, rfl⟩
          go_wp2_with fail
          go_quiet (first | exact Calls.quiet_of_same (still_of (sizeL (HL.out.drewN _))) | exact (sizeL (HL.out.drewN _)).mono fun _ _ ⟨h1, h2⟩ => ⟨h1, _, h2.symm⟩)
          go_wp2_with fail
          go_roundw
          case rel => exact ⟨r, m + nq, _, by rw [World.drewN_drewN], rfl, HR.out, hz2, HK1.out, HE.out⟩
          case measure => rw [HSR.out, HSZ.out]; simp only [Tr.size]; omega
end Go.Proofs.Ytbgnedeeeaapfaa
