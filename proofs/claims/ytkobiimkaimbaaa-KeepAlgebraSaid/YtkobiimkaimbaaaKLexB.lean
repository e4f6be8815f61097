/-
  A statement that leaves its order open: the operations one behind the other, those that are still to come left unsaid (for statements of a hundred operations).
-/
import Derived.Test.YtkobiimkaimbaaaKChain
namespace Go.Proofs.Ytkobiimkaimbaaa
open Go.RowKit
set_option linter.unusedVariables false

section
variable {P : Program} {l : List Oper} {Q : Exit → Act → World → Prop} {md : Region.Mode} {S S' : World → Prop}
theorem at_drop {i : Nat} {o : Oper} {t : List Oper} (h : l.drop i = o :: t) : l.toArray[i]? = some o := by
  have h1 : (l.drop i)[0]? = some o := by rw [h]; rfl
  rw [List.getElem?_drop] at h1
  simpa using h1
theorem lexb_start (n : Nat) {id : Nat} {a : Act} {w : World} {K : Act → World → Prop} (hn : l.length = n) (hm : P.follows .mixedOrders = true) (hs : S w.drew)
    (h : Lex P .any l.toArray (NoPanic (Exit.then K Q)) S [] n (Array.replicate n false) a w.drew) : (Code.region id l.toArray true).wp P (Exit.then K Q) a w :=
  lex_start [] hm hs fun _ => hn ▸ h
theorem lexb_take (i : Nat) {o : Oper} {t : List Oper} {fuel : Nat} {listed : Array Bool} {a : Act} {w : World} {v : Value} {K : Act → World → Prop} (hi : l.drop i = o :: t)
    (hn : Region.noSelect l.toArray = true) (hf : Region.free md l.toArray listed i = true) (hr : (Region.ready md l.toArray listed).contains i = true)
    (hw : Region.wanted o (yielded l.toArray a.tmps) = true) (hS : S w) (hy : ∀ W, S W → (execOp a.eval o).run P W = .ok (.value v) W)
    (h : Lex P md l.toArray (NoPanic (Exit.then K Q)) S [] fuel (listed.setIfInBounds i true) (a.put o.dst v) w) : Lex P md l.toArray (NoPanic (Exit.then K Q)) S [] (fuel + 1) listed a w :=
  lex_take (rest := []) (at_drop hi) hn hf hr hw hS hy h
theorem lexb_call (i : Nat) {o : Oper} {t : List Oper} {fuel : Nat} {listed : Array Bool} {a : Act} {w : World} {f : FuncId} {vals : Array Value}
    (hi : l.drop i = o :: t) (hr : Region.ready md l.toArray listed = [i]) (hw : Region.wanted o (yielded l.toArray a.tmps) = true)
    (hx : (execOp a.eval o).run P w = .ok (.enter f vals) w) (R : Ending → World → Prop) (hc : Calls P f vals w R)
    (h : ∀ e w', R e w' → ∃ v, e = .returned v ∧ ∃ S' : World → Prop, (∀ W, S' W → S W) ∧ S' w' ∧ Lex P md l.toArray Q S' [] fuel (listed.setIfInBounds i true) (a.put o.dst v) w') : Lex P md l.toArray Q S [] (fuel + 1) listed a w :=
  lex_call (rest := []) (at_drop hi) hr hw hx R hc h
theorem lexb_do (i : Nat) {o : Oper} {t : List Oper} {fuel : Nat} {listed : Array Bool} {a : Act} {w : World}
    (hi : l.drop i = o :: t) (hr : Region.ready md l.toArray listed = [i]) (hw : Region.wanted o (yielded l.toArray a.tmps) = true)
    (h : ∀ K : Act → World → Prop, (∀ a' w', S w' ∧ Lex P md l.toArray Q S [] fuel (listed.setIfInBounds i true) a' w' → K a' w') → Oper.wp P o a w K Q) : Lex P md l.toArray Q S [] (fuel + 1) listed a w :=
  lex_do (rest := []) (at_drop hi) hr hw h
end

end Go.Proofs.Ytkobiimkaimbaaa
