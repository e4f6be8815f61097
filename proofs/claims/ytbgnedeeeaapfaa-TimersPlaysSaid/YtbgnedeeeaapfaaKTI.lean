/-
  A tree of package keep in memory (int,int): what it is, that it stays, and what size, height and grow do.
-/
import Derived.Test.YtbgnedeeeaapfaaKMem
namespace Go.Proofs.Ytbgnedeeeaapfaa
open Go.RowKit
set_option linter.unusedVariables false
/-- At v stands the tree t. -/
def IsTI (w : World) : Value → Tr Int Int → Prop
  | v, .nil => v = .pointer none
  | v, .node l k x r => ∃ b pl pr, v = .pointer (some ⟨b, 0, none⟩) ∧ w.heap[b]? = some (Obj.cells #[.int .i64 k, .int .i64 x, pl, pr, .int .i64 ((Tr.node l k x r).size : Int), .int .i64 ((Tr.node l k x r).height : Int)] 158) ∧ IsTI w pl l ∧ IsTI w pr r
theorem IsTI.hold {w w' : World} (h : Hold 158 w w') : ∀ {t : Tr Int Int} {v : Value}, IsTI w v t → IsTI w' v t
  | .nil, _, ht => ht
  | .node _ _ _ _, _, ⟨b, pl, pr, hv, hb, hl, hr⟩ => ⟨b, pl, pr, hv, h _ _ hb, IsTI.hold h hl, IsTI.hold h hr⟩
theorem IsTI.below {w w' : World} {t : Tr Int Int} {v : Value} (h : IsTI w v t) (hb : Below w.heap.size w w') : IsTI w' v t := h.hold (Hold.below hb)
theorem IsTI.shape {w : World} : ∀ {t : Tr Int Int} {v : Value}, IsTI w v t → ∃ p, v = .pointer p
  | .nil, _, ht => ⟨_, ht⟩
  | .node _ _ _ _, _, ⟨_, _, _, hv, _⟩ => ⟨_, hv⟩
theorem nodeCI {w : World} {b : Nat} {k : Int} {x : Int} {pl pr s h : Value} (hb : w.heap[b]? = some (Obj.cells #[.int .i64 k, .int .i64 x, pl, pr, s, h] 158)) : w.cell? ⟨b, 0, none⟩ = some (.int .i64 k) ∧ w.cell? ⟨b, 1, none⟩ = some (.int .i64 x) ∧ w.cell? ⟨b, 2, none⟩ = some pl ∧ w.cell? ⟨b, 3, none⟩ = some pr ∧ w.cell? ⟨b, 4, none⟩ = some s ∧ w.cell? ⟨b, 5, none⟩ = some h := ⟨cellB hb rfl, cellB hb rfl, cellB hb rfl, cellB hb rfl, cellB hb rfl, cellB hb rfl⟩
set_option maxHeartbeats 400000 in
theorem sizeI {w : World} {v : Value} {t : Tr Int Int} (h : IsTI w v t) : Calls Try.prog 93 #[v] w fun e w' => e = .returned (.int .i64 (t.size : Int)) ∧ w = w' := by
  cases t with
  | nil =>
    obtain rfl := h
    go_enter Try.func93, Try.ntmps93
    go_wp2
    go_ret
    exact ⟨rfl, rfl⟩
  | node l k x r =>
    obtain ⟨b, pl, pr, rfl, hb, _, _⟩ := h
    obtain ⟨c0, cx, cl, cr, cs, ch⟩ := nodeCI (x := x) hb
    clear hb
    go_enter Try.func93, Try.ntmps93
    go_wp2
    go_ret
    exact ⟨rfl, rfl⟩
set_option maxHeartbeats 400000 in
theorem heightI {w : World} {v : Value} {t : Tr Int Int} (h : IsTI w v t) : Calls Try.prog 116 #[v] w fun e w' => e = .returned (.int .i64 (t.height : Int)) ∧ w = w' := by
  cases t with
  | nil =>
    obtain rfl := h
    go_enter Try.func116, Try.ntmps116
    go_wp2
    go_ret
    exact ⟨rfl, rfl⟩
  | node l k x r =>
    obtain ⟨b, pl, pr, rfl, hb, _, _⟩ := h
    obtain ⟨c0, cx, cl, cr, cs, ch⟩ := nodeCI (x := x) hb
    clear hb
    go_enter Try.func116, Try.ntmps116
    go_wp2
    go_ret
    exact ⟨rfl, rfl⟩
/-- A tree that is made: it stands in new memory, the rest is as it was. -/
def MadeI (t : Tr Int Int) (w : World) (e : Ending) (w' : World) : Prop := ∃ p, e = .returned (.pointer p) ∧ IsTI w' (.pointer p) t ∧ Below w.heap.size w w'
theorem madeNewI {w W : World} {pl pr : Value} {l r : Tr Int Int} {k : Int} {x : Int} {s h : Int} (hl : IsTI W pl l) (hr : IsTI W pr r) (hb : Below w.heap.size w W)
    (hs : s = ((Tr.node l k x r).size : Int)) (hh : h = ((Tr.node l k x r).height : Int)) :
    MadeI (.node l k x r) w (.returned (.pointer (some ⟨W.heap.size, 0, none⟩))) (W.alloc (.cells #[.int .i64 k, .int .i64 x, pl, pr, .int .i64 s, .int .i64 h] 158)).drew := by
  subst hs
  subst hh
  have hb' : Below W.heap.size W (W.alloc (.cells #[.int .i64 k, .int .i64 x, pl, pr, .int .i64 ((Tr.node l k x r).size : Int), .int .i64 ((Tr.node l k x r).height : Int)] 158)).drew := ((Below.refl _ _).alloc (Nat.le_refl _) _).drew
  exact ⟨_, rfl, ⟨_, _, _, rfl, heap_alloc_new W _, hl.below hb', hr.below hb'⟩, hb.trans (hb'.mono hb.size)⟩
set_option maxRecDepth 100000 in
set_option maxHeartbeats 800000 in
theorem growI {w : World} {vl vr : Value} {l r : Tr Int Int} (k : Int) (x : Int) (hl : IsTI w vl l) (hr : IsTI w vr r) (hs : l.size + r.size < 1000000) :
    Calls Try.prog 107 #[vl, .agg #[.int .i64 k, .int .i64 x], vr] w (MadeI (.node l k x r) w) := by
  obtain ⟨pl, rfl⟩ := hl.shape
  obtain ⟨pr, rfl⟩ := hr.shape
  have h1 := Tr.height_le l
  have h2 := Tr.height_le r
  have b0 : Below w.heap.size w (w.alloc (.cells #[.int .i64 k, .int .i64 x] 156)) := (Below.refl _ _).alloc (Nat.le_refl _) _
  have hl' := hl.below b0
  have hr' := hr.below b0
  have L1 := Lib.hid hl
  have R1 := Lib.hid hr
  clear hl hr
  go_enter Try.func107, Try.ntmps107
  go_wp2_with fail
  have z : (w.alloc (.cells #[.int .i64 k, .int .i64 x] 156)).heap[w.heap.size]? = some (Obj.cells #[.int .i64 k, .int .i64 x] 156) := heap_alloc_new w _
  generalize (w.alloc (.cells #[.int .i64 k, .int .i64 x] 156)) = W at *
  have z0 : W.cell? ⟨w.heap.size, 0, none⟩ = some (.int .i64 k) := cellB z rfl
  have z1 : W.cell? ⟨w.heap.size, 1, none⟩ = some (.int .i64 x) := cellB z rfl
  clear z
  refine wp_region_still_tail 16 (by kernel_rfl) (by kernel_rfl) ?_
  simp only [List.take_succ_cons, List.take_zero, List.drop_succ_cons, List.drop_zero]
  iterate 4 still_step
  still_call (still_of (sizeI (hl'.below ((Below.refl _ _).drew))))
  iterate 2 still_step
  still_call (still_of (sizeI (hr'.below ((Below.refl _ _).drew))))
  iterate 2 still_step
  still_call (still_of (heightI (hl'.below ((Below.refl _ _).drew))))
  iterate 1 still_step
  still_call (still_of (heightI (hr'.below ((Below.refl _ _).drew))))
  repeat still_step
  refine wpStill_nil ?_
  change wpList _ _ _ _ _ W.drew
  go_wp2_with fail
  all_goals
    go_ret
    exact madeNewI hl' hr' b0 (by simp only [Tr.size]; omega) (by simp only [Tr.height]; omega)
end Go.Proofs.Ytbgnedeeeaapfaa
