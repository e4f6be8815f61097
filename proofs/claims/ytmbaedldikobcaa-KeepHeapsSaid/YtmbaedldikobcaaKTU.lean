/-
  A tree of package keep in memory (int,struct{}): what it is, that it stays, and what size, height and grow do.
-/
import Derived.Test.YtmbaedldikobcaaKMem
namespace Go.Proofs.Ytmbaedldikobcaa
open Go.RowKit
set_option linter.unusedVariables false

/-- At v stands the tree t. -/
def IsTU (w : World) : Value → Tr Int Unit → Prop
  | v, .nil => v = .pointer none
  | v, .node l k x r => ∃ b pl pr, v = .pointer (some ⟨b, 0, none⟩) ∧ w.heap[b]? = some (Obj.cells #[.int .i64 k, pl, pr, .int .i64 ((Tr.node l k x r).size : Int), .int .i64 ((Tr.node l k x r).height : Int)] 186) ∧ IsTU w pl l ∧ IsTU w pr r

theorem IsTU.hold {w w' : World} (h : Hold 186 w w') : ∀ {t : Tr Int Unit} {v : Value}, IsTU w v t → IsTU w' v t
  | .nil, _, ht => ht
  | .node _ _ _ _, _, ⟨b, pl, pr, hv, hb, hl, hr⟩ => ⟨b, pl, pr, hv, h _ _ hb, IsTU.hold h hl, IsTU.hold h hr⟩
theorem IsTU.below {w w' : World} {t : Tr Int Unit} {v : Value} (h : IsTU w v t) (hb : Below w.heap.size w w') : IsTU w' v t := h.hold (Hold.below hb)
theorem IsTU.shape {w : World} : ∀ {t : Tr Int Unit} {v : Value}, IsTU w v t → ∃ p, v = .pointer p
  | .nil, _, ht => ⟨_, ht⟩
  | .node _ _ _ _, _, ⟨_, _, _, hv, _⟩ => ⟨_, hv⟩

theorem nodeCU {w : World} {b : Nat} {k : Int} {x : Unit} {pl pr s h : Value} (hb : w.heap[b]? = some (Obj.cells #[.int .i64 k, pl, pr, s, h] 186)) : w.cell? ⟨b, 0, none⟩ = some (.int .i64 k) ∧ w.cell? ⟨b, 1, none⟩ = some pl ∧ w.cell? ⟨b, 2, none⟩ = some pr ∧ w.cell? ⟨b, 3, none⟩ = some s ∧ w.cell? ⟨b, 4, none⟩ = some h := ⟨cellB hb rfl, cellB hb rfl, cellB hb rfl, cellB hb rfl, cellB hb rfl⟩

set_option maxHeartbeats 400000 in
theorem sizeU {w : World} {v : Value} {t : Tr Int Unit} (h : IsTU w v t) : Calls Try.prog 121 #[v] w fun e w' => e = .returned (.int .i64 (t.size : Int)) ∧ w = w' := by
  cases t with
  | nil =>
    obtain rfl := h
    go_enter Try.func121, Try.ntmps121
    go_wp2
    go_ret
    exact ⟨rfl, rfl⟩
  | node l k x r =>
    obtain ⟨b, pl, pr, rfl, hb, _, _⟩ := h
    obtain ⟨c0, cl, cr, cs, ch⟩ := nodeCU (x := x) hb
    clear hb
    go_enter Try.func121, Try.ntmps121
    go_wp2
    go_ret
    exact ⟨rfl, rfl⟩
set_option maxHeartbeats 400000 in
theorem heightU {w : World} {v : Value} {t : Tr Int Unit} (h : IsTU w v t) : Calls Try.prog 156 #[v] w fun e w' => e = .returned (.int .i64 (t.height : Int)) ∧ w = w' := by
  cases t with
  | nil =>
    obtain rfl := h
    go_enter Try.func156, Try.ntmps156
    go_wp2
    go_ret
    exact ⟨rfl, rfl⟩
  | node l k x r =>
    obtain ⟨b, pl, pr, rfl, hb, _, _⟩ := h
    obtain ⟨c0, cl, cr, cs, ch⟩ := nodeCU (x := x) hb
    clear hb
    go_enter Try.func156, Try.ntmps156
    go_wp2
    go_ret
    exact ⟨rfl, rfl⟩

/-- A tree that is made: it stands in new memory, the rest is as it was. -/
def MadeU (t : Tr Int Unit) (w : World) (e : Ending) (w' : World) : Prop := ∃ p, e = .returned (.pointer p) ∧ IsTU w' (.pointer p) t ∧ Below w.heap.size w w'

theorem madeNewU {w W : World} {pl pr : Value} {l r : Tr Int Unit} {k : Int} {x : Unit} {s h : Int} (hl : IsTU W pl l) (hr : IsTU W pr r) (hb : Below w.heap.size w W)
    (hs : s = ((Tr.node l k x r).size : Int)) (hh : h = ((Tr.node l k x r).height : Int)) :
    MadeU (.node l k x r) w (.returned (.pointer (some ⟨W.heap.size, 0, none⟩))) (W.alloc (.cells #[.int .i64 k, pl, pr, .int .i64 s, .int .i64 h] 186)).drew := by
  subst hs
  subst hh
  have hb' : Below W.heap.size W (W.alloc (.cells #[.int .i64 k, pl, pr, .int .i64 ((Tr.node l k x r).size : Int), .int .i64 ((Tr.node l k x r).height : Int)] 186)).drew := ((Below.refl _ _).alloc (Nat.le_refl _) _).drew
  exact ⟨_, rfl, ⟨_, _, _, rfl, heap_alloc_new W _, hl.below hb', hr.below hb'⟩, hb.trans (hb'.mono hb.size)⟩

set_option maxRecDepth 100000 in
set_option maxHeartbeats 800000 in
theorem growU {w : World} {vl vr : Value} {l r : Tr Int Unit} (k : Int) (x : Unit) (hl : IsTU w vl l) (hr : IsTU w vr r) (hs : l.size + r.size < 1000000) :
    Calls Try.prog 152 #[vl, .agg #[.int .i64 k], vr] w (MadeU (.node l k x r) w) := by
  obtain ⟨pl, rfl⟩ := hl.shape
  obtain ⟨pr, rfl⟩ := hr.shape
  have h1 := Tr.height_le l
  have h2 := Tr.height_le r
  have b0 : Below w.heap.size w (w.alloc (.cells #[.int .i64 k] 182)) := (Below.refl _ _).alloc (Nat.le_refl _) _
  have hl' := hl.below b0
  have hr' := hr.below b0
  have L1 := Lib.hid hl
  have R1 := Lib.hid hr
  clear hl hr
  go_enter Try.func152, Try.ntmps152
  go_wp2_with fail
  have z : (w.alloc (.cells #[.int .i64 k] 182)).heap[w.heap.size]? = some (Obj.cells #[.int .i64 k] 182) := heap_alloc_new w _
  generalize (w.alloc (.cells #[.int .i64 k] 182)) = W at *
  have z0 : W.cell? ⟨w.heap.size, 0, none⟩ = some (.int .i64 k) := cellB z rfl
  clear z
  refine wp_region_still_tail 16 (by kernel_rfl) (by kernel_rfl) ?_
  simp only [List.take_succ_cons, List.take_zero, List.drop_succ_cons, List.drop_zero]
  iterate 4 still_step
  still_call (still_of (sizeU (hl'.below ((Below.refl _ _).drew))))
  iterate 2 still_step
  still_call (still_of (sizeU (hr'.below ((Below.refl _ _).drew))))
  iterate 2 still_step
  still_call (still_of (heightU (hl'.below ((Below.refl _ _).drew))))
  iterate 1 still_step
  still_call (still_of (heightU (hr'.below ((Below.refl _ _).drew))))
  repeat still_step
  refine wpStill_nil ?_
  change wpList _ _ _ _ _ W.drew
  go_wp2_with fail
  all_goals
    go_ret
    exact madeNewU hl' hr' b0 (by simp only [Tr.size]; omega) (by simp only [Tr.height]; omega)

end Go.Proofs.Ytmbaedldikobcaa
