/-
  Sets in memory: Add, Drop, Len, SetOf, List.
-/
import Derived.Test.YtmbaedldikobcaaKDU
import Derived.Test.YtmbaedldikobcaaKRow
namespace Go.Proofs.Ytmbaedldikobcaa
open Go.RowKit Go.Shelf
attribute [local go_sem] Oper.semAt_some
set_option linter.unusedVariables false

abbrev SetT : TypeId := 60
abbrev NodeU : TypeId := 186

set_option maxRecDepth 100000 in
set_option maxHeartbeats 800000 in
theorem sadd {w : World} {p : Option Addr} {t : Tr Int Unit} (k : Int) (h : IsTU w (.pointer p) t) (hs : t.size < 500000) :
    Calls Try.prog 39 #[.agg #[.pointer p], .int .i64 k] w fun e w' => ∃ q, e = .returned (.agg #[.pointer q]) ∧ IsTU w' (.pointer q) (Tr.put t k ()) ∧ Below w.heap.size w w' := by
  have b0 : Below w.heap.size w ((w.alloc (.cells #[.pointer p] SetT)).alloc (.cells #[.pointer none] SetT)) := ((Below.refl _ _).alloc (Nat.le_refl _) _).alloc (by simp) _
  have y0 : ((w.alloc (.cells #[.pointer p] SetT)).alloc (.cells #[.pointer none] SetT)).heap[w.heap.size + 1]? = some (Obj.cells #[.pointer none] SetT) := by
    have e : w.heap.size + 1 = (w.alloc (.cells #[.pointer p] SetT)).heap.size := by simp
    rw [e]; exact heap_alloc_new _ _
  have HX := Lib.hid (cellB (j := 0) (u := .pointer none) y0 rfl)
  have HF := Lib.hid (frozenB (j := 0) y0)
  have HB := Lib.hid b0
  have HY := Lib.hid y0
  have HH := Lib.hid (h.below b0)
  clear h b0 y0
  go_enter Try.func39, Try.ntmps39
  go_wp2_with fail
  refine (mputU k () HH.out hs).mono ?_
  rintro e w1 ⟨q, rfl, t1, u1⟩
  have x1 := bcellAt u1 HX.out
  have f1 := bfrozenAt u1 HX.out HF.out
  have HY1 := Lib.hid (Hold.below (T := SetT) u1 _ _ HY.out)
  have HT := Lib.hid t1
  have HU := Lib.hid u1
  clear t1 u1
  go_wp2_with fail
  have hxs : (w1.setCell ⟨w.heap.size + 1, 0, none⟩ (.pointer q)).cell? ⟨w.heap.size + 1, 0, none⟩ = some (.pointer q) := World.cell?_setCell_same' _ _ _ (by rw [x1]; rfl)
  refine bodyPost_ret (v := .agg #[.pointer q]) (by simp [results, Try.results39, go_sem, hxs]) rfl ?_
  exact ⟨q, rfl, HT.out.hold (Hold.setCell HY1.out (by decide)), (HB.out.trans (HU.out.mono HB.out.size)).setCell (p := ⟨w.heap.size + 1, 0, none⟩) (by simp) _⟩

set_option maxRecDepth 100000 in
set_option maxHeartbeats 800000 in
theorem sdrop {w : World} {p : Option Addr} {t : Tr Int Unit} (k : Int) (h : IsTU w (.pointer p) t) (hs : t.size < 500000) :
    Calls Try.prog 42 #[.agg #[.pointer p], .int .i64 k] w fun e w' => ∃ q, e = .returned (.agg #[.pointer q]) ∧ IsTU w' (.pointer q) (Tr.del t k) ∧ Below w.heap.size w w' := by
  have b0 : Below w.heap.size w ((w.alloc (.cells #[.pointer p] SetT)).alloc (.cells #[.pointer none] SetT)) := ((Below.refl _ _).alloc (Nat.le_refl _) _).alloc (by simp) _
  have y0 : ((w.alloc (.cells #[.pointer p] SetT)).alloc (.cells #[.pointer none] SetT)).heap[w.heap.size + 1]? = some (Obj.cells #[.pointer none] SetT) := by
    have e : w.heap.size + 1 = (w.alloc (.cells #[.pointer p] SetT)).heap.size := by simp
    rw [e]; exact heap_alloc_new _ _
  have HX := Lib.hid (cellB (j := 0) (u := .pointer none) y0 rfl)
  have HF := Lib.hid (frozenB (j := 0) y0)
  have HB := Lib.hid b0
  have HY := Lib.hid y0
  have HH := Lib.hid (h.below b0)
  clear h b0 y0
  go_enter Try.func42, Try.ntmps42
  go_wp2_with fail
  refine (mdropU k HH.out hs).mono ?_
  rintro e w1 ⟨q, rfl, t1, u1⟩
  have x1 := bcellAt u1 HX.out
  have f1 := bfrozenAt u1 HX.out HF.out
  have HY1 := Lib.hid (Hold.below (T := SetT) u1 _ _ HY.out)
  have HT := Lib.hid t1
  have HU := Lib.hid u1
  clear t1 u1
  go_wp2_with fail
  have hxs : (w1.setCell ⟨w.heap.size + 1, 0, none⟩ (.pointer q)).cell? ⟨w.heap.size + 1, 0, none⟩ = some (.pointer q) := World.cell?_setCell_same' _ _ _ (by rw [x1]; rfl)
  refine bodyPost_ret (v := .agg #[.pointer q]) (by simp [results, Try.results42, go_sem, hxs]) rfl ?_
  exact ⟨q, rfl, HT.out.hold (Hold.setCell HY1.out (by decide)), (HB.out.trans (HU.out.mono HB.out.size)).setCell (p := ⟨w.heap.size + 1, 0, none⟩) (by simp) _⟩

set_option maxHeartbeats 400000 in
theorem slen {w : World} {p : Option Addr} {t : Tr Int Unit} (h : IsTU w (.pointer p) t) : Calls Try.prog 34 #[.agg #[.pointer p]] w fun e w' => e = .returned (.int .i64 (t.size : Int)) ∧ Below w.heap.size w w' := by
  have b0 : Below w.heap.size w (w.alloc (.cells #[.pointer p] SetT)) := (Below.refl _ _).alloc (Nat.le_refl _) _
  have h' := h.below b0
  have HB := Lib.hid b0
  clear h b0
  go_enter Try.func34, Try.ntmps34
  go_wp2_with fail
  refine (mlenU h').mono ?_
  rintro e w1 ⟨rfl, u1⟩
  have HU := Lib.hid u1
  clear u1
  go_wp2_with fail
  go_returns
  exact ⟨rfl, HB.out.trans (HU.out.mono HB.out.size)⟩

/-- The tree of a list of keys. -/
def setOf (l : List Int) : Tr Int Unit := l.foldl (fun t k => Tr.put t k ()) .nil
theorem setOf_snoc (l : List Int) (k : Nat) (h : k < l.length) : setOf (l.take (k + 1)) = Tr.put (setOf (l.take k)) (l[k]) () := by
  unfold setOf
  rw [List.take_succ_eq_append_getElem h, List.foldl_append]
  rfl
theorem setOf_size (l : List Int) : (setOf l).size ≤ l.length := by
  have h : ∀ (l : List Int) (t : Tr Int Unit), (l.foldl (fun t k => Tr.put t k ()) t).size ≤ t.size + l.length := by
    intro l
    induction l with
    | nil => intro t; simp
    | cons a l ih =>
      intro t
      have := ih (Tr.put t a ())
      have h2 := Tr.size_put_le t a ()
      simp only [List.foldl_cons, List.length_cons]
      omega
  have := h l .nil
  simp only [Tr.size] at this
  unfold setOf
  omega

set_option maxRecDepth 100000 in
set_option maxHeartbeats 1600000 in
theorem setof_any {w : World} {v : Value} {l : List Int} (h : Row w 1 v l.length (ints l)) (hl : l.length < 100000) :
    Calls Try.prog 31 #[v] w fun e w' => ∃ q, e = .returned (.agg #[.pointer q]) ∧ IsTU w' (.pointer q) (setOf l) ∧ Below w.heap.size w w' := by
  obtain ⟨aa, ca, rfl, xa⟩ := h.at
  have b0 : Below w.heap.size w ((w.alloc (.cells #[.pointer none] SetT)).alloc (.cells #[.pointer none] SetT)) := ((Below.refl _ _).alloc (Nat.le_refl _) _).alloc (by simp) _
  have y0 : ((w.alloc (.cells #[.pointer none] SetT)).alloc (.cells #[.pointer none] SetT)).heap[w.heap.size]? = some (Obj.cells #[.pointer none] SetT) := by
    rw [(((Below.refl _ _).alloc (Nat.le_refl _) (.cells #[.pointer none] SetT) : Below (w.alloc (.cells #[.pointer none] SetT)).heap.size (w.alloc (.cells #[.pointer none] SetT)) _)).block _ (by simp)]; exact heap_alloc_new _ _
  have y1 : ((w.alloc (.cells #[.pointer none] SetT)).alloc (.cells #[.pointer none] SetT)).heap[w.heap.size + 1]? = some (Obj.cells #[.pointer none] SetT) := by
    have e : w.heap.size + 1 = (w.alloc (.cells #[.pointer none] SetT)).heap.size := by simp
    rw [e]; exact heap_alloc_new _ _
  have HB := Lib.hid b0
  have HY0 := Lib.hid y0
  have HY1 := Lib.hid y1
  have XA := Lib.hid xa
  clear h xa b0 y0 y1
  go_enter Try.func31, Try.ntmps31
  go_wp2_with fail
  generalize ((w.alloc (.cells #[.pointer none] SetT)).alloc (.cells #[.pointer none] SetT)) = W at *
  go_loopw [8] (fun j wr => ∃ (k : Nat) (q : Option Addr), j = .int .i64 (k : Int) ∧ k ≤ l.length ∧ Below w.heap.size w wr ∧ IsTU wr (.pointer q) (setOf (l.take k)) ∧ wr.heap[w.heap.size + 1]? = some (Obj.cells #[.pointer q] SetT) ∧ wr.heap[w.heap.size]? = some (Obj.cells #[.pointer none] SetT)) (fun j _ => l.length - (intOf j).toNat)
  case atStart => exact ⟨0, none, rfl, Nat.zero_le _, HB.out, rfl, HY1.out, HY0.out⟩
  case round =>
    obtain ⟨k, q, rfl, hk, hb, ht, hy1, hy0⟩ := hrel
    have z1 : wr.cell? ⟨w.heap.size + 1, 0, none⟩ = some (.pointer q) := cellB hy1 rfl
    have zf1 : wr.frozen? ⟨w.heap.size + 1, 0, none⟩ = false := frozenB hy1
    have z0 : wr.cell? ⟨w.heap.size, 0, none⟩ = some (.pointer none) := cellB hy0 rfl
    have zf0 : wr.frozen? ⟨w.heap.size, 0, none⟩ = false := frozenB hy0
    have HBB := Lib.hid hb
    have HT := Lib.hid ht
    have HH1 := Lib.hid hy1
    have HH0 := Lib.hid hy0
    clear hb ht hy1 hy0
    by_cases hlt : k < l.length
    · obtain ⟨b1, o1, rfl, q1⟩ := XA.out (by omega)
      have c1 := bcellAt HBB.out (q1 k _ (ints_at l k hlt))
      have HS := Lib.hid (setOf_snoc l k hlt)
      have HZ : Hid ((setOf (l.take k)).size < 500000) := Lib.hid (by have := setOf_size (l.take k); simp at this; omega)
      clear q1 XA
      generalize l[k] = x at *
      go_wp2_with fail
      refine (sadd x HT.out HZ.out).mono ?_
      rintro e w2 ⟨q2, rfl, t2, u2⟩
      have x2 := bcellAt u2 z1
      have f2 := bfrozenAt u2 z1 zf1
      have HT2 := Lib.hid t2
      have HU2 := Lib.hid u2
      clear t2 u2
      go_wp2_with fail
      have hh1 := Hold.below (T := SetT) HU2.out _ _ HH1.out
      have hh0 := Hold.below (T := SetT) HU2.out _ _ HH0.out
      have e1 : (w2.setCell ⟨w.heap.size + 1, 0, none⟩ (.pointer q2)).heap[w.heap.size + 1]? = some (Obj.cells #[.pointer q2] SetT) := setCellB hh1
      have e0 : (w2.setCell ⟨w.heap.size + 1, 0, none⟩ (.pointer q2)).heap[w.heap.size]? = some (Obj.cells #[.pointer none] SetT) := by
        rw [Below.heap_setCell _ _ _ _ (by simp)]; exact hh0
      have E1 := Lib.hid e1
      have E0 := Lib.hid e0
      have E2 := Lib.hid (HT2.out.hold (Hold.setCell (o := 0) (v := .pointer q2) hh1 (by decide)))
      have E3 := Lib.hid ((HBB.out.trans (HU2.out.mono HBB.out.size)).setCell (p := ⟨w.heap.size + 1, 0, none⟩) (by simp) (.pointer q2))
      clear hh1 hh0 e1 e0
      go_roundw
      case rel => exact ⟨k + 1, q2, by go_num, by omega, E3.out, by rw [HS.out]; exact E2.out, E1.out, E0.out⟩
      case measure => simp [intOf]; omega
    · obtain rfl : k = l.length := by omega
      go_wp2_with fail
      have hxs : (wr.setCell ⟨w.heap.size, 0, none⟩ (.pointer q)).cell? ⟨w.heap.size, 0, none⟩ = some (.pointer q) := World.cell?_setCell_same' _ _ _ (by rw [z0]; rfl)
      refine bodyPost_ret (v := .agg #[.pointer q]) (by simp [results, Try.results31, go_sem, hxs]) rfl ?_
      exact ⟨q, rfl, by have := HT.out.hold (Hold.setCell (o := 0) (v := .pointer q) HH0.out (by decide)); rwa [List.take_length] at this, HBB.out.setCell (p := ⟨w.heap.size, 0, none⟩) (Nat.le_refl _) _⟩

end Go.Proofs.Ytmbaedldikobcaa
