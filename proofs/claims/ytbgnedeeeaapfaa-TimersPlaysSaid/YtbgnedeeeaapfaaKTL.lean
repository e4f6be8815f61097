/-
  A tree of package keep in memory (int64,Map[int,int]): what it is, that it stays, and what size, height and grow do.
-/
import Derived.Test.YtbgnedeeeaapfaaKMem
namespace Go.Proofs.Ytbgnedeeeaapfaa
open Go.RowKit
set_option linter.unusedVariables false
set_option maxHeartbeats 400000 in
theorem nanJ (n : Int) (w : World) : Calls Try.prog 112 #[.int .i64 n] w fun e w' => e = .returned (.bool false) ∧ w = w' := by
  go_enter Try.func112, Try.ntmps112
  go_wp2
  go_ret
  exact ⟨rfl, rfl⟩
set_option maxHeartbeats 400000 in
theorem cmpJ_lt {a b : Int} (w : World) (h : a < b) : Calls Try.prog 104 #[.int .i64 a, .int .i64 b] w fun e w' => e = .returned (.int .i64 (-1)) ∧ w = w' := by
  go_enter Try.func104, Try.ntmps104
  go_wp2_with fail
  refine (nanJ _ _).mono ?_
  rintro e w' ⟨rfl, rfl⟩
  go_wp2_with fail
  refine (nanJ _ _).mono ?_
  rintro e w' ⟨rfl, rfl⟩
  go_wp2
  go_ret
  exact ⟨rfl, rfl⟩
set_option maxHeartbeats 400000 in
theorem cmpJ_gt {a b : Int} (w : World) (h : b < a) : Calls Try.prog 104 #[.int .i64 a, .int .i64 b] w fun e w' => e = .returned (.int .i64 1) ∧ w = w' := by
  go_enter Try.func104, Try.ntmps104
  go_wp2_with fail
  refine (nanJ _ _).mono ?_
  rintro e w' ⟨rfl, rfl⟩
  go_wp2_with fail
  refine (nanJ _ _).mono ?_
  rintro e w' ⟨rfl, rfl⟩
  go_wp2
  go_ret
  exact ⟨rfl, rfl⟩
set_option maxHeartbeats 400000 in
theorem cmpJ_eq (a : Int) (w : World) : Calls Try.prog 104 #[.int .i64 a, .int .i64 a] w fun e w' => e = .returned (.int .i64 0) ∧ w = w' := by
  go_enter Try.func104, Try.ntmps104
  go_wp2_with fail
  refine (nanJ _ _).mono ?_
  rintro e w' ⟨rfl, rfl⟩
  go_wp2_with fail
  refine (nanJ _ _).mono ?_
  rintro e w' ⟨rfl, rfl⟩
  go_wp2
  go_ret
  exact ⟨rfl, rfl⟩
/-- At v stands the tree t. -/
def IsTL (w : World) : Value → Tr Int (Option Addr) → Prop
  | v, .nil => v = .pointer none
  | v, .node l k x r => ∃ b pl pr, v = .pointer (some ⟨b, 0, none⟩) ∧ w.heap[b]? = some (Obj.cells #[.int .i64 k, .pointer x, pl, pr, .int .i64 ((Tr.node l k x r).size : Int), .int .i64 ((Tr.node l k x r).height : Int)] 147) ∧ IsTL w pl l ∧ IsTL w pr r
theorem IsTL.hold {w w' : World} (h : Hold 147 w w') : ∀ {t : Tr Int (Option Addr)} {v : Value}, IsTL w v t → IsTL w' v t
  | .nil, _, ht => ht
  | .node _ _ _ _, _, ⟨b, pl, pr, hv, hb, hl, hr⟩ => ⟨b, pl, pr, hv, h _ _ hb, IsTL.hold h hl, IsTL.hold h hr⟩
theorem IsTL.below {w w' : World} {t : Tr Int (Option Addr)} {v : Value} (h : IsTL w v t) (hb : Below w.heap.size w w') : IsTL w' v t := h.hold (Hold.below hb)
theorem IsTL.shape {w : World} : ∀ {t : Tr Int (Option Addr)} {v : Value}, IsTL w v t → ∃ p, v = .pointer p
  | .nil, _, ht => ⟨_, ht⟩
  | .node _ _ _ _, _, ⟨_, _, _, hv, _⟩ => ⟨_, hv⟩
theorem nodeCL {w : World} {b : Nat} {k : Int} {x : Option Addr} {pl pr s h : Value} (hb : w.heap[b]? = some (Obj.cells #[.int .i64 k, .pointer x, pl, pr, s, h] 147)) : w.cell? ⟨b, 0, none⟩ = some (.int .i64 k) ∧ w.cell? ⟨b, 1, none⟩ = some (.pointer x) ∧ w.cell? ⟨b, 2, none⟩ = some pl ∧ w.cell? ⟨b, 3, none⟩ = some pr ∧ w.cell? ⟨b, 4, none⟩ = some s ∧ w.cell? ⟨b, 5, none⟩ = some h := ⟨cellB hb rfl, cellB hb rfl, cellB hb rfl, cellB hb rfl, cellB hb rfl, cellB hb rfl⟩
set_option maxHeartbeats 400000 in
theorem sizeL {w : World} {v : Value} {t : Tr Int (Option Addr)} (h : IsTL w v t) : Calls Try.prog 86 #[v] w fun e w' => e = .returned (.int .i64 (t.size : Int)) ∧ w = w' := by
  cases t with
  | nil =>
    obtain rfl := h
    go_enter Try.func86, Try.ntmps86
    go_wp2
    go_ret
    exact ⟨rfl, rfl⟩
  | node l k x r =>
    obtain ⟨b, pl, pr, rfl, hb, _, _⟩ := h
    obtain ⟨c0, cx, cl, cr, cs, ch⟩ := nodeCL (x := x) hb
    clear hb
    go_enter Try.func86, Try.ntmps86
    go_wp2
    go_ret
    exact ⟨rfl, rfl⟩
set_option maxHeartbeats 400000 in
theorem heightL {w : World} {v : Value} {t : Tr Int (Option Addr)} (h : IsTL w v t) : Calls Try.prog 113 #[v] w fun e w' => e = .returned (.int .i64 (t.height : Int)) ∧ w = w' := by
  cases t with
  | nil =>
    obtain rfl := h
    go_enter Try.func113, Try.ntmps113
    go_wp2
    go_ret
    exact ⟨rfl, rfl⟩
  | node l k x r =>
    obtain ⟨b, pl, pr, rfl, hb, _, _⟩ := h
    obtain ⟨c0, cx, cl, cr, cs, ch⟩ := nodeCL (x := x) hb
    clear hb
    go_enter Try.func113, Try.ntmps113
    go_wp2
    go_ret
    exact ⟨rfl, rfl⟩
/-- A tree that is made: it stands in new memory, the rest is as it was. -/
def MadeL (t : Tr Int (Option Addr)) (w : World) (e : Ending) (w' : World) : Prop := ∃ p, e = .returned (.pointer p) ∧ IsTL w' (.pointer p) t ∧ Below w.heap.size w w'
theorem madeNewL {w W : World} {pl pr : Value} {l r : Tr Int (Option Addr)} {k : Int} {x : Option Addr} {s h : Int} (hl : IsTL W pl l) (hr : IsTL W pr r) (hb : Below w.heap.size w W)
    (hs : s = ((Tr.node l k x r).size : Int)) (hh : h = ((Tr.node l k x r).height : Int)) :
    MadeL (.node l k x r) w (.returned (.pointer (some ⟨W.heap.size, 0, none⟩))) (W.alloc (.cells #[.int .i64 k, .pointer x, pl, pr, .int .i64 s, .int .i64 h] 147)).drew := by
  subst hs
  subst hh
  have hb' : Below W.heap.size W (W.alloc (.cells #[.int .i64 k, .pointer x, pl, pr, .int .i64 ((Tr.node l k x r).size : Int), .int .i64 ((Tr.node l k x r).height : Int)] 147)).drew := ((Below.refl _ _).alloc (Nat.le_refl _) _).drew
  exact ⟨_, rfl, ⟨_, _, _, rfl, heap_alloc_new W _, hl.below hb', hr.below hb'⟩, hb.trans (hb'.mono hb.size)⟩
set_option maxRecDepth 100000 in
set_option maxHeartbeats 800000 in
theorem growL {w : World} {vl vr : Value} {l r : Tr Int (Option Addr)} (k : Int) (x : Option Addr) (hl : IsTL w vl l) (hr : IsTL w vr r) (hs : l.size + r.size < 1000000) :
    Calls Try.prog 105 #[vl, .agg #[.int .i64 k, .pointer x], vr] w (MadeL (.node l k x r) w) := by
  obtain ⟨pl, rfl⟩ := hl.shape
  obtain ⟨pr, rfl⟩ := hr.shape
  have h1 := Tr.height_le l
  have h2 := Tr.height_le r
  have b0 : Below w.heap.size w (w.alloc (.cells #[.int .i64 k, .pointer x] 145)) := (Below.refl _ _).alloc (Nat.le_refl _) _
  have hl' := hl.below b0
  have hr' := hr.below b0
  have L1 := Lib.hid hl
  have R1 := Lib.hid hr
  clear hl hr
  go_enter Try.func105, Try.ntmps105
  go_wp2_with fail
  have z : (w.alloc (.cells #[.int .i64 k, .pointer x] 145)).heap[w.heap.size]? = some (Obj.cells #[.int .i64 k, .pointer x] 145) := heap_alloc_new w _
  generalize (w.alloc (.cells #[.int .i64 k, .pointer x] 145)) = W at *
  have z0 : W.cell? ⟨w.heap.size, 0, none⟩ = some (.int .i64 k) := cellB z rfl
  have z1 : W.cell? ⟨w.heap.size, 1, none⟩ = some (.pointer x) := cellB z rfl
  clear z
  refine wp_region_still_tail 16 (by kernel_rfl) (by kernel_rfl) ?_
  simp only [List.take_succ_cons, List.take_zero, List.drop_succ_cons, List.drop_zero]
  iterate 4 still_step
  still_call (still_of (sizeL (hl'.below ((Below.refl _ _).drew))))
  iterate 2 still_step
  still_call (still_of (sizeL (hr'.below ((Below.refl _ _).drew))))
  iterate 2 still_step
  still_call (still_of (heightL (hl'.below ((Below.refl _ _).drew))))
  iterate 1 still_step
  still_call (still_of (heightL (hr'.below ((Below.refl _ _).drew))))
  repeat still_step
  refine wpStill_nil ?_
  change wpList _ _ _ _ _ W.drew
  go_wp2_with fail
  all_goals
    go_ret
    exact madeNewL hl' hr' b0 (by simp only [Tr.size]; omega) (by simp only [Tr.height]; omega)
end Go.Proofs.Ytbgnedeeeaapfaa
