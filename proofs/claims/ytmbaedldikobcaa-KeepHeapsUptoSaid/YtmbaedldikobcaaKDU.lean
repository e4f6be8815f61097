/-
  Put, Drop and what is asked of a map in memory (int,struct{}).
-/
import Derived.Handy
import Derived.IntWalk
import Derived.OwnWalk
import Derived.Test.YtmbaedldikobcaaKMU
namespace Go.Proofs.Ytmbaedldikobcaa
open Go.RowKit
set_option linter.unusedVariables false

set_option maxRecDepth 100000 in
set_option maxHeartbeats 800000 in
theorem mputU {w : World} {p : Option Addr} {t : Tr Int Unit} (k : Int) (x : Unit) (h : IsTU w (.pointer p) t) (hs : t.size < 500000) :
    Calls Try.prog 95 #[.agg #[.pointer p], .int .i64 k, .agg #[]] w fun e w' => ∃ q, e = .returned (.agg #[.pointer q]) ∧ IsTU w' (.pointer q) (Tr.put t k x) ∧ Below w.heap.size w w' := by
  have b0 : Below w.heap.size w (((w.alloc (.cells #[.pointer p] 58)).alloc (.cells #[] 128)).alloc (.cells #[.pointer none] 58)) := (((Below.refl _ _).alloc (Nat.le_refl _) _).alloc (by simp) _).alloc (by simp; omega) _
  have y0 : (((w.alloc (.cells #[.pointer p] 58)).alloc (.cells #[] 128)).alloc (.cells #[.pointer none] 58)).heap[w.heap.size + 2]? = some (Obj.cells #[.pointer none] 58) := by
    have e : w.heap.size + 2 = (((w.alloc (.cells #[.pointer p] 58)).alloc (.cells #[] 128))).heap.size := by simp
    rw [e]; exact heap_alloc_new _ _
  have x0 : (((w.alloc (.cells #[.pointer p] 58)).alloc (.cells #[] 128)).alloc (.cells #[.pointer none] 58)).cell? ⟨w.heap.size + 2, 0, none⟩ = some (.pointer none) := cellB y0 rfl
  have f0 : (((w.alloc (.cells #[.pointer p] 58)).alloc (.cells #[] 128)).alloc (.cells #[.pointer none] 58)).frozen? ⟨w.heap.size + 2, 0, none⟩ = false := frozenB y0
  have HB := Lib.hid b0
  have HY := Lib.hid y0
  have HX := Lib.hid x0
  have HF := Lib.hid f0
  have h' := h.below b0
  have HH := Lib.hid h'
  clear h b0 y0 x0 f0 h'
  go_enter Try.func95, Try.ntmps95
  go_wp2_with fail
  refine (putU k x t _ _ HH.out hs).mono ?_
  rintro e w1 ⟨q, rfl, t1, u1⟩
  have x1 := bcellAt u1 HX.out
  have f1 := bfrozenAt u1 HX.out HF.out
  have y1 := Hold.below (T := 58) u1 _ _ HY.out
  have HT := Lib.hid t1
  have HU := Lib.hid u1
  have HY1 := Lib.hid y1
  clear t1 u1 y1
  go_wp2_with fail
  have hxs : (w1.setCell ⟨w.heap.size + 2, 0, none⟩ (.pointer q)).cell? ⟨w.heap.size + 2, 0, none⟩ = some (.pointer q) := World.cell?_setCell_same' _ _ _ (by rw [x1]; rfl)
  refine bodyPost_ret (v := .agg #[.pointer q]) (by simp [results, Try.results95, go_sem, hxs]) rfl ?_
  exact ⟨q, rfl, HT.out.hold (Hold.setCell HY1.out (by decide)), (HB.out.trans (HU.out.mono HB.out.size)).setCell (p := ⟨w.heap.size + 2, 0, none⟩) (by simp) _⟩

set_option maxRecDepth 100000 in
set_option maxHeartbeats 800000 in
theorem mdropU {w : World} {p : Option Addr} {t : Tr Int Unit} (k : Int) (h : IsTU w (.pointer p) t) (hs : t.size < 500000) :
    Calls Try.prog 96 #[.agg #[.pointer p], .int .i64 k] w fun e w' => ∃ q, e = .returned (.agg #[.pointer q]) ∧ IsTU w' (.pointer q) (Tr.del t k) ∧ Below w.heap.size w w' := by
  have b0 : Below w.heap.size w ((w.alloc (.cells #[.pointer p] 58)).alloc (.cells #[.pointer none] 58)) := ((Below.refl _ _).alloc (Nat.le_refl _) _).alloc (by simp) _
  have y0 : ((w.alloc (.cells #[.pointer p] 58)).alloc (.cells #[.pointer none] 58)).heap[w.heap.size + 1]? = some (Obj.cells #[.pointer none] 58) := by
    have e : w.heap.size + 1 = ((w.alloc (.cells #[.pointer p] 58))).heap.size := by simp
    rw [e]; exact heap_alloc_new _ _
  have x0 : ((w.alloc (.cells #[.pointer p] 58)).alloc (.cells #[.pointer none] 58)).cell? ⟨w.heap.size + 1, 0, none⟩ = some (.pointer none) := cellB y0 rfl
  have f0 : ((w.alloc (.cells #[.pointer p] 58)).alloc (.cells #[.pointer none] 58)).frozen? ⟨w.heap.size + 1, 0, none⟩ = false := frozenB y0
  have HB := Lib.hid b0
  have HY := Lib.hid y0
  have HX := Lib.hid x0
  have HF := Lib.hid f0
  have h' := h.below b0
  have HH := Lib.hid h'
  have H00 := Lib.hid h
  clear h b0 y0 x0 f0 h'
  cases hf : Tr.find t k with
  | nil =>
    have e1 : Tr.del t k = t := by unfold Tr.del; rw [hf]
    rw [e1]
    have HFD := Lib.hid hf
    clear hf e1
    go_enter Try.func96, Try.ntmps96
    go_wp2_with fail
    refine (findU k HH.out).mono ?_
    rintro e w9 ⟨pf, rfl, tf, rfl⟩
    rw [HFD.out] at tf
    obtain rfl : pf = none := by simpa [IsTU] using tf
    clear tf
    have x1 := HX.out
    have f1 := HF.out
    go_wp2_with fail
    refine bodyPost_ret (v := .agg #[.pointer p]) (by simp [results, Try.results96, go_sem]) rfl ?_
    have bz : Below w.heap.size w ((w.alloc (.cells #[.pointer p] 58)).alloc (.cells #[.pointer p] 58)) := ((Below.refl _ _).alloc (Nat.le_refl _) _).alloc (by simp) _
    exact ⟨p, rfl, H00.out.below bz, bz⟩
  | node fl fk fx fr =>
    have e1 : Tr.del t k = Tr.drop t k := by unfold Tr.del; rw [hf]
    rw [e1]
    have HN := Lib.hid (show Tr.find t k ≠ .nil by rw [hf]; intro h; cases h)
    have HFD := Lib.hid hf
    clear hf e1
    go_enter Try.func96, Try.ntmps96
    go_wp2_with fail
    refine (findU k HH.out).mono ?_
    rintro e w9 ⟨pf, rfl, tf, rfl⟩
    rw [HFD.out] at tf
    obtain ⟨fb, _, _, hfv, _⟩ := tf
    obtain rfl : pf = some ⟨fb, 0, none⟩ := by simpa using hfv
    clear hfv
    go_wp2_with fail
    refine (dropU k t _ _ HH.out hs HN.out).mono ?_
    rintro e w1 ⟨q, rfl, t1, u1⟩
    have x1 := bcellAt u1 HX.out
    have f1 := bfrozenAt u1 HX.out HF.out
    have y1 := Hold.below (T := 58) u1 _ _ HY.out
    have HT := Lib.hid t1
    have HU := Lib.hid u1
    have HY1 := Lib.hid y1
    clear t1 u1 y1
    go_wp2_with fail
    have hxs : (w1.setCell ⟨w.heap.size + 1, 0, none⟩ (.pointer q)).cell? ⟨w.heap.size + 1, 0, none⟩ = some (.pointer q) := World.cell?_setCell_same' _ _ _ (by rw [x1]; rfl)
    refine bodyPost_ret (v := .agg #[.pointer q]) (by simp [results, Try.results96, go_sem, hxs]) rfl ?_
    exact ⟨q, rfl, HT.out.hold (Hold.setCell HY1.out (by decide)), (HB.out.trans (HU.out.mono HB.out.size)).setCell (p := ⟨w.heap.size + 1, 0, none⟩) (by simp) _⟩

end Go.Proofs.Ytmbaedldikobcaa
