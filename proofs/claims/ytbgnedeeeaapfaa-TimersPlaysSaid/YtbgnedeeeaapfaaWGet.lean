/-
  Get of the map of ticks; and its line of a tick, whatever stands there.
-/
import Derived.Test.YtbgnedeeeaapfaaKDL
import Derived.Test.YtbgnedeeeaapfaaKDI
import Derived.Test.YtbgnedeeeaapfaaWPln
import Derived.Test.YtbgnedeeeaapfaaWTou
namespace Go.Proofs.Ytbgnedeeeaapfaa
open Go.RowKit
set_option linter.unusedVariables false
abbrev MapL : TypeId := 82
abbrev MapN : TypeId := 111
def getP (t : Tr Int (Option Addr)) (k : Int) : Option Addr := match Tr.find t k with
  | .nil => none
  | .node _ _ x _ => x
def getB (t : Tr Int (Option Addr)) (k : Int) : Bool := match Tr.find t k with
  | .nil => false
  | .node _ _ x _ => true
theorem told_get (t : Tr Int (Option Addr)) (k : Int) : ∃ k1, toldVL (Tr.find t k) = .tuple #[.int .i64 k1, .agg #[.pointer (getP t k)], .bool (getB t k)] := by
  unfold getP getB
  cases Tr.find t k <;> exact ⟨_, rfl⟩
set_option maxRecDepth 100000 in
set_option maxHeartbeats 1600000 in
theorem mgetL {w : World} {p : Option Addr} {t : Tr Int (Option Addr)} (k : Int) (h : IsTL w (.pointer p) t) :
    Calls Try.prog 78 #[.agg #[.pointer p], .int .i64 k] w fun e w' => e = .returned (.tuple #[.agg #[.pointer (getP t k)], .bool (getB t k)]) ∧ Below w.heap.size w w' := by
  obtain ⟨b0, z0, x0, f0⟩ := two_boxes w p
  obtain ⟨k1, hv⟩ := told_get t k
  generalize getP t k = q at *
  generalize getB t k = bb at *
  have HB := Lib.hid b0
  have H0 := Lib.hid (h.below b0)
  have HV := Lib.hid hv
  clear h b0 hv
  go_enter Try.func78, Try.ntmps78
  go_wp2_with fail
  generalize ((w.alloc (.cells #[.pointer p] 82)).alloc (.cells #[.pointer none] 111)) = W at *
  refine (findL k H0.out).mono ?_
  rintro e w9 ⟨pf, rfl, tf, rfl⟩
  have HT := Lib.hid tf
  clear tf
  go_wp2_with fail
  refine (toldL HT.out).mono ?_
  rintro e w2 ⟨rfl, u2⟩
  rw [HV.out]
  have bx : Below W.heap.size W (w2.alloc (.cells #[.pointer q] MapN)) := u2.alloc u2.size _
  have x2 := bcellAt bx x0
  have f2 := bfrozenAt bx x0 f0
  have hxs : ((w2.alloc (.cells #[.pointer q] MapN)).setCell ⟨w.heap.size + 1, 0, none⟩ (.pointer q)).cell? ⟨w.heap.size + 1, 0, none⟩ = some (.pointer q) := World.cell?_setCell_same' _ _ _ (by rw [x2]; rfl)
  have hb : Below w.heap.size w ((w2.alloc (.cells #[.pointer q] MapN)).setCell ⟨w.heap.size + 1, 0, none⟩ (.pointer q)) :=
    (HB.out.trans (bx.mono HB.out.size)).setCell (p := ⟨w.heap.size + 1, 0, none⟩) (by simp) _
  have HBB := Lib.hid hb
  clear u2 bx hb x0 f0
  go_wp2_with fail
  refine bodyPost_ret (v := .tuple #[.agg #[.pointer q], .bool bb]) (by simp [results, Try.results78, go_sem, hxs]) rfl ?_
  exact ⟨rfl, HBB.out⟩
end Go.Proofs.Ytbgnedeeeaapfaa
