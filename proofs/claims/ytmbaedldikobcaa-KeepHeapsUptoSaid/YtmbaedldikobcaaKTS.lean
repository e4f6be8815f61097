/-
  A tree of package keep in memory (string,int): what it is, that it stays, and what size, height and grow do.
-/
import Derived.Test.YtmbaedldikobcaaKMem
namespace Go.Proofs.Ytmbaedldikobcaa
open Go.RowKit
set_option linter.unusedVariables false

/-- At v stands the tree t. -/
def IsTS (w : World) : Value → Tr ByteArray Int → Prop
  | v, .nil => v = .pointer none
  | v, .node l k x r => ∃ b pl pr, v = .pointer (some ⟨b, 0, none⟩) ∧ w.heap[b]? = some (Obj.cells #[.string k, .int .i64 x, pl, pr, .int .i64 ((Tr.node l k x r).size : Int), .int .i64 ((Tr.node l k x r).height : Int)] 156) ∧ IsTS w pl l ∧ IsTS w pr r

theorem IsTS.hold {w w' : World} (h : Hold 156 w w') : ∀ {t : Tr ByteArray Int} {v : Value}, IsTS w v t → IsTS w' v t
  | .nil, _, ht => ht
  | .node _ _ _ _, _, ⟨b, pl, pr, hv, hb, hl, hr⟩ => ⟨b, pl, pr, hv, h _ _ hb, IsTS.hold h hl, IsTS.hold h hr⟩
theorem IsTS.below {w w' : World} {t : Tr ByteArray Int} {v : Value} (h : IsTS w v t) (hb : Below w.heap.size w w') : IsTS w' v t := h.hold (Hold.below hb)
theorem IsTS.shape {w : World} : ∀ {t : Tr ByteArray Int} {v : Value}, IsTS w v t → ∃ p, v = .pointer p
  | .nil, _, ht => ⟨_, ht⟩
  | .node _ _ _ _, _, ⟨_, _, _, hv, _⟩ => ⟨_, hv⟩

theorem nodeCS {w : World} {b : Nat} {k : ByteArray} {x : Int} {pl pr s h : Value} (hb : w.heap[b]? = some (Obj.cells #[.string k, .int .i64 x, pl, pr, s, h] 156)) : w.cell? ⟨b, 0, none⟩ = some (.string k) ∧ w.cell? ⟨b, 1, none⟩ = some (.int .i64 x) ∧ w.cell? ⟨b, 2, none⟩ = some pl ∧ w.cell? ⟨b, 3, none⟩ = some pr ∧ w.cell? ⟨b, 4, none⟩ = some s ∧ w.cell? ⟨b, 5, none⟩ = some h := ⟨cellB hb rfl, cellB hb rfl, cellB hb rfl, cellB hb rfl, cellB hb rfl, cellB hb rfl⟩

set_option maxHeartbeats 400000 in
theorem sizeS {w : World} {v : Value} {t : Tr ByteArray Int} (h : IsTS w v t) : Calls Try.prog 87 #[v] w fun e w' => e = .returned (.int .i64 (t.size : Int)) ∧ w = w' := by
  cases t with
  | nil =>
    obtain rfl := h
    go_enter Try.func87, Try.ntmps87
    go_wp2
    go_ret
    exact ⟨rfl, rfl⟩
  | node l k x r =>
    obtain ⟨b, pl, pr, rfl, hb, _, _⟩ := h
    obtain ⟨c0, cx, cl, cr, cs, ch⟩ := nodeCS (x := x) hb
    clear hb
    go_enter Try.func87, Try.ntmps87
    go_wp2
    go_ret
    exact ⟨rfl, rfl⟩
set_option maxHeartbeats 400000 in
theorem heightS {w : World} {v : Value} {t : Tr ByteArray Int} (h : IsTS w v t) : Calls Try.prog 118 #[v] w fun e w' => e = .returned (.int .i64 (t.height : Int)) ∧ w = w' := by
  cases t with
  | nil =>
    obtain rfl := h
    go_enter Try.func118, Try.ntmps118
    go_wp2
    go_ret
    exact ⟨rfl, rfl⟩
  | node l k x r =>
    obtain ⟨b, pl, pr, rfl, hb, _, _⟩ := h
    obtain ⟨c0, cx, cl, cr, cs, ch⟩ := nodeCS (x := x) hb
    clear hb
    go_enter Try.func118, Try.ntmps118
    go_wp2
    go_ret
    exact ⟨rfl, rfl⟩

/-- A tree that is made: it stands in new memory, the rest is as it was. -/
def MadeS (t : Tr ByteArray Int) (w : World) (e : Ending) (w' : World) : Prop := ∃ p, e = .returned (.pointer p) ∧ IsTS w' (.pointer p) t ∧ Below w.heap.size w w'

theorem madeNewS {w W : World} {pl pr : Value} {l r : Tr ByteArray Int} {k : ByteArray} {x : Int} {s h : Int} (hl : IsTS W pl l) (hr : IsTS W pr r) (hb : Below w.heap.size w W)
    (hs : s = ((Tr.node l k x r).size : Int)) (hh : h = ((Tr.node l k x r).height : Int)) :
    MadeS (.node l k x r) w (.returned (.pointer (some ⟨W.heap.size, 0, none⟩))) (W.alloc (.cells #[.string k, .int .i64 x, pl, pr, .int .i64 s, .int .i64 h] 156)).drew := by
  subst hs
  subst hh
  have hb' : Below W.heap.size W (W.alloc (.cells #[.string k, .int .i64 x, pl, pr, .int .i64 ((Tr.node l k x r).size : Int), .int .i64 ((Tr.node l k x r).height : Int)] 156)).drew := ((Below.refl _ _).alloc (Nat.le_refl _) _).drew
  exact ⟨_, rfl, ⟨_, _, _, rfl, heap_alloc_new W _, hl.below hb', hr.below hb'⟩, hb.trans (hb'.mono hb.size)⟩

set_option maxRecDepth 100000 in
set_option maxHeartbeats 800000 in
theorem growS {w : World} {vl vr : Value} {l r : Tr ByteArray Int} (k : ByteArray) (x : Int) (hl : IsTS w vl l) (hr : IsTS w vr r) (hs : l.size + r.size < 1000000) :
    Calls Try.prog 117 #[vl, .agg #[.string k, .int .i64 x], vr] w (MadeS (.node l k x r) w) := by
  obtain ⟨pl, rfl⟩ := hl.shape
  obtain ⟨pr, rfl⟩ := hr.shape
  have h1 := Tr.height_le l
  have h2 := Tr.height_le r
  have b0 : Below w.heap.size w (w.alloc (.cells #[.string k, .int .i64 x] 119)) := (Below.refl _ _).alloc (Nat.le_refl _) _
  have hl' := hl.below b0
  have hr' := hr.below b0
  have L1 := Lib.hid hl
  have R1 := Lib.hid hr
  clear hl hr
  go_enter Try.func117, Try.ntmps117
  go_wp2_with fail
  have z : (w.alloc (.cells #[.string k, .int .i64 x] 119)).heap[w.heap.size]? = some (Obj.cells #[.string k, .int .i64 x] 119) := heap_alloc_new w _
  generalize (w.alloc (.cells #[.string k, .int .i64 x] 119)) = W at *
  have z0 : W.cell? ⟨w.heap.size, 0, none⟩ = some (.string k) := cellB z rfl
  have z1 : W.cell? ⟨w.heap.size, 1, none⟩ = some (.int .i64 x) := cellB z rfl
  clear z
  refine wp_region_still_tail 16 (by kernel_rfl) (by kernel_rfl) ?_
  simp only [List.take_succ_cons, List.take_zero, List.drop_succ_cons, List.drop_zero]
  iterate 4 still_step
  still_call (still_of (sizeS (hl'.below ((Below.refl _ _).drew))))
  iterate 2 still_step
  still_call (still_of (sizeS (hr'.below ((Below.refl _ _).drew))))
  iterate 2 still_step
  still_call (still_of (heightS (hl'.below ((Below.refl _ _).drew))))
  iterate 1 still_step
  still_call (still_of (heightS (hr'.below ((Below.refl _ _).drew))))
  repeat still_step
  refine wpStill_nil ?_
  change wpList _ _ _ _ _ W.drew
  go_wp2_with fail
  all_goals
    go_ret
    exact madeNewS hl' hr' b0 (by simp only [Tr.size]; omega) (by simp only [Tr.height]; omega)

end Go.Proofs.Ytmbaedldikobcaa
