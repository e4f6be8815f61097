/-
  A statement that leaves its order open, walked in an order of numbers: as KChain, shorter to use.
-/
import Derived.Test.YtgnmieobgdbafaaKChain
namespace Go.Proofs.Ytgnmieobgdbafaa
open Go.RowKit
set_option linter.unusedVariables false
section
variable {P : Program} {ops : Array Oper} {Q : Exit → Act → World → Prop} {md : Region.Mode} {S S' : World → Prop}
/-- 'wpAnyH', the numbers of the operations that are still to come beside it. -/
def LexI (P : Program) (md : Region.Mode) (ops : Array Oper) (Q : Exit → Act → World → Prop) (S : World → Prop) (_is : List Nat) (_os : List Oper) (fuel : Nat) (listed : Array Bool) (a : Act) (w : World) : Prop := wpAnyH P md ops Q S fuel listed a w
theorem li_start (is : List Nat) {l : List Oper} {id : Nat} {a : Act} {w : World} {K : Act → World → Prop} (hm : P.follows .mixedOrders = true) (hs : S w.drew)
    (h : LexI P .any l.toArray (NoPanic (Exit.then K Q)) S is (inOrder l is) l.length (Array.replicate l.length false) a w.drew) : (Code.region id l.toArray true).wp P (Exit.then K Q) a w :=
  wp_region_noPanic (wp_region_held_drew (S := S) hm hs fun _ => h)
theorem li_ok {ops : Array Oper} {md : Region.Mode} {listed : Array Bool} {i : Nat} (h : (Region.noSelect ops && Region.free md ops listed i && (Region.ready md ops listed).contains i) = true) : Region.noSelect ops = true ∧ Region.free md ops listed i = true ∧ (Region.ready md ops listed).contains i = true := by
  simp only [Bool.and_eq_true] at h
  exact ⟨h.1.1, h.1.2, h.2⟩
theorem li_take {i : Nat} {is : List Nat} {o : Oper} {os : List Oper} {fuel : Nat} {listed : Array Bool} {a : Act} {w : World} {v : Value} {K : Act → World → Prop} (hi : ops[i]? = some o)
    (hk : (Region.noSelect ops && Region.free md ops listed i && (Region.ready md ops listed).contains i) = true)
    (hw : Region.wanted o (yielded ops a.tmps) = true) (hS : S w) (hy : ∀ W, S W → (execOp a.eval o).run P W = .ok (.value v) W)
    (h : LexI P md ops (NoPanic (Exit.then K Q)) S is os fuel (listed.setIfInBounds i true) (a.put o.dst v) w) : LexI P md ops (NoPanic (Exit.then K Q)) S (i :: is) (o :: os) (fuel + 1) listed a w :=
  wpAnyH_take hi (li_ok hk).1 (li_ok hk).2.1 (li_ok hk).2.2 (fun _ _ _ h => h) (Or.inl ⟨hw, hy⟩) hS h
theorem li_skip {i : Nat} {is : List Nat} {o : Oper} {os : List Oper} {fuel : Nat} {listed : Array Bool} {a : Act} {w : World} {K : Act → World → Prop} (hi : ops[i]? = some o)
    (hk : (Region.noSelect ops && Region.free md ops listed i && (Region.ready md ops listed).contains i) = true)
    (hw : Region.wanted o (yielded ops a.tmps) = false) (hS : S w)
    (h : LexI P md ops (NoPanic (Exit.then K Q)) S is os fuel (listed.setIfInBounds i true) (a.put o.dst undef) w) : LexI P md ops (NoPanic (Exit.then K Q)) S (i :: is) (o :: os) (fuel + 1) listed a w :=
  wpAnyH_take hi (li_ok hk).1 (li_ok hk).2.1 (li_ok hk).2.2 (fun _ _ _ h => h) (Or.inr ⟨hw, rfl⟩) hS h
theorem li_do {i : Nat} {is : List Nat} {o : Oper} {os : List Oper} {fuel : Nat} {listed : Array Bool} {a : Act} {w : World}
    (hi : ops[i]? = some o) (hr : Region.ready md ops listed = [i]) (hw : Region.wanted o (yielded ops a.tmps) = true)
    (h : ∀ K : Act → World → Prop, (∀ a' w', S w' ∧ LexI P md ops Q S is os fuel (listed.setIfInBounds i true) a' w' → K a' w') → Oper.wp P o a w K Q) : LexI P md ops Q S (i :: is) (o :: os) (fuel + 1) listed a w := by
  refine wpAnyH_all hr (by simp) fun j hj => ?_
  simp only [List.mem_singleton] at hj
  subst hj
  unfold wpOp
  simp only [hi, hw, if_true]
  exact .inl (h _ fun a' w' h => h)
theorem li_done {listed : Array Bool} {a : Act} {w : World} {fuel : Nat} (hr : Region.ready md ops listed = []) (h : Q .normal a w) : LexI P md ops (NoPanic Q) S [] [] fuel listed a w :=
  wpAnyH_done hr (NoPanic.normal h) fuel
end
end Go.Proofs.Ytgnmieobgdbafaa
