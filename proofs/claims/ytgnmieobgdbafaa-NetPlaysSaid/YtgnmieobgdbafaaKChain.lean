/-
  A statement that leaves its order open, with a call that makes memory among reads and a store behind: the operations one behind the other, in an order that is named.
-/
import Derived.Test.YtgnmieobgdbafaaKMem
namespace Go.Proofs.Ytgnmieobgdbafaa
open Go.RowKit
set_option linter.unusedVariables false
section
variable {P : Program} {ops : Array Oper} {Q : Exit → Act → World → Prop} {md : Region.Mode} {S S' : World → Prop}
theorem chain_mono (hs : ∀ W, S' W → S W) : ∀ (fuel : Nat) (listed : Array Bool) (a : Act) (w : World), wpAnyH P md ops Q S' fuel listed a w → wpAnyH P md ops Q S fuel listed a w
  | 0, _, _, _, h => h
  | fuel + 1, _, _, _, h => ⟨h.1, fun i hi => wpOp_mono (fun a' w' h' => ⟨hs _ h'.1, chain_mono hs fuel _ a' w' h'.2⟩) (h.2 i hi)⟩
/-- 'wpAnyH', the operations that are still to come beside it (so that the next one stands written out). -/
def Lex (P : Program) (md : Region.Mode) (ops : Array Oper) (Q : Exit → Act → World → Prop) (S : World → Prop) (_rest : List Oper) (fuel : Nat) (listed : Array Bool) (a : Act) (w : World) : Prop := wpAnyH P md ops Q S fuel listed a w
/-- The operations of a region in the order is. -/
def inOrder (l : List Oper) (is : List Nat) : List Oper := is.filterMap fun i => l[i]?
theorem lex_start (is : List Nat) {l : List Oper} {id : Nat} {a : Act} {w : World} {K : Act → World → Prop} (hm : P.follows .mixedOrders = true) (hs : S w.drew)
    (h : S w.drew → Lex P .any l.toArray (NoPanic (Exit.then K Q)) S (inOrder l is) l.length (Array.replicate l.length false) a w.drew) : (Code.region id l.toArray true).wp P (Exit.then K Q) a w :=
  wp_region_noPanic (wp_region_held_drew (S := S) hm hs h)
theorem lex_take {i : Nat} {o : Oper} {rest : List Oper} {fuel : Nat} {listed : Array Bool} {a : Act} {w : World} {v : Value} {K : Act → World → Prop} (hi : ops[i]? = some o)
    (hn : Region.noSelect ops = true) (hf : Region.free md ops listed i = true) (hr : (Region.ready md ops listed).contains i = true)
    (hw : Region.wanted o (yielded ops a.tmps) = true) (hS : S w) (hy : ∀ W, S W → (execOp a.eval o).run P W = .ok (.value v) W)
    (h : Lex P md ops (NoPanic (Exit.then K Q)) S rest fuel (listed.setIfInBounds i true) (a.put o.dst v) w) : Lex P md ops (NoPanic (Exit.then K Q)) S (o :: rest) (fuel + 1) listed a w :=
  wpAnyH_take hi hn hf hr (fun _ _ _ h => h) (Or.inl ⟨hw, hy⟩) hS h
theorem lex_skip {i : Nat} {o : Oper} {rest : List Oper} {fuel : Nat} {listed : Array Bool} {a : Act} {w : World} {K : Act → World → Prop} (hi : ops[i]? = some o)
    (hn : Region.noSelect ops = true) (hf : Region.free md ops listed i = true) (hr : (Region.ready md ops listed).contains i = true)
    (hw : Region.wanted o (yielded ops a.tmps) = false) (hS : S w)
    (h : Lex P md ops (NoPanic (Exit.then K Q)) S rest fuel (listed.setIfInBounds i true) (a.put o.dst undef) w) : Lex P md ops (NoPanic (Exit.then K Q)) S (o :: rest) (fuel + 1) listed a w :=
  wpAnyH_take hi hn hf hr (fun _ _ _ h => h) (Or.inr ⟨hw, rfl⟩) hS h
theorem lex_call {i : Nat} {o : Oper} {rest : List Oper} {fuel : Nat} {listed : Array Bool} {a : Act} {w : World} {f : FuncId} {vals : Array Value}
    (hi : ops[i]? = some o) (hr : Region.ready md ops listed = [i]) (hw : Region.wanted o (yielded ops a.tmps) = true)
    (hx : (execOp a.eval o).run P w = .ok (.enter f vals) w) (R : Ending → World → Prop) (hc : Calls P f vals w R)
    (h : ∀ e w', R e w' → ∃ v, e = .returned v ∧ ∃ S' : World → Prop, (∀ W, S' W → S W) ∧ S' w' ∧ Lex P md ops Q S' rest fuel (listed.setIfInBounds i true) (a.put o.dst v) w') : Lex P md ops Q S (o :: rest) (fuel + 1) listed a w := by
  refine wpAnyH_all hr (by simp) fun j hj => ?_
  simp only [List.mem_singleton] at hj
  subst hj
  unfold wpOp
  simp only [hi, hw, if_true, Oper.wp, hx, Oper.upon]
  refine .inl (hc.mono fun e w' hR => ?_)
  obtain ⟨v, rfl, S', h1, h2, h3⟩ := h e w' hR
  exact ⟨h1 _ h2, chain_mono h1 _ _ _ _ h3⟩
/-- An operation that stands alone, whatever it does. -/
theorem lex_do {i : Nat} {o : Oper} {rest : List Oper} {fuel : Nat} {listed : Array Bool} {a : Act} {w : World}
    (hi : ops[i]? = some o) (hr : Region.ready md ops listed = [i]) (hw : Region.wanted o (yielded ops a.tmps) = true)
    (h : ∀ K : Act → World → Prop, (∀ a' w', S w' ∧ Lex P md ops Q S rest fuel (listed.setIfInBounds i true) a' w' → K a' w') → Oper.wp P o a w K Q) : Lex P md ops Q S (o :: rest) (fuel + 1) listed a w := by
  refine wpAnyH_all hr (by simp) fun j hj => ?_
  simp only [List.mem_singleton] at hj
  subst hj
  unfold wpOp
  simp only [hi, hw, if_true]
  exact .inl (h _ fun a' w' h => h)
/-- Two operations that stand side by side: either may come first. -/
theorem lex_two {i j : Nat} {oi oj : Oper} {rest : List Oper} {fuel : Nat} {listed : Array Bool} {a : Act} {w : World}
    (hi : ops[i]? = some oi) (hj : ops[j]? = some oj) (hr : Region.ready md ops listed = [i, j]) (hwi : Region.wanted oi (yielded ops a.tmps) = true) (hwj : Region.wanted oj (yielded ops a.tmps) = true)
    (h1 : ∀ K : Act → World → Prop, (∀ a' w', S w' ∧ Lex P md ops Q S (oj :: rest) fuel (listed.setIfInBounds i true) a' w' → K a' w') → Oper.wp P oi a w K Q)
    (h2 : ∀ K : Act → World → Prop, (∀ a' w', S w' ∧ Lex P md ops Q S (oi :: rest) fuel (listed.setIfInBounds j true) a' w' → K a' w') → Oper.wp P oj a w K Q) : Lex P md ops Q S (oi :: oj :: rest) (fuel + 1) listed a w := by
  refine wpAnyH_all hr (by simp) fun q hq => ?_
  simp only [List.mem_cons, List.mem_nil_iff, or_false] at hq
  rcases hq with rfl | rfl
  · unfold wpOp
    simp only [hi, hwi, if_true]
    exact .inl (h1 _ fun a' w' h => h)
  · unfold wpOp
    simp only [hj, hwj, if_true]
    exact .inl (h2 _ fun a' w' h => h)
/-- The operations that are still to come, shown in another order. -/
theorem lex_reorder (is : List Nat) {l rest : List Oper} {fuel : Nat} {listed : Array Bool} {a : Act} {w : World} (h : Lex P md l.toArray Q S (inOrder l is) fuel listed a w) : Lex P md l.toArray Q S rest fuel listed a w := h
theorem lex_done {listed : Array Bool} {a : Act} {w : World} {fuel : Nat} (hr : Region.ready md ops listed = []) (h : Q .normal a w) : Lex P md ops (NoPanic Q) S [] fuel listed a w :=
  wpAnyH_done hr (NoPanic.normal h) fuel
end
end Go.Proofs.Ytgnmieobgdbafaa
