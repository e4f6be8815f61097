/-
  The program's pool beside what the document's turns.
-/
import Derived.Test.YtjpkeoenajlmeaaDoorTROf
namespace Go.Proofs.YtjpkeoenajlmeaaDoor
open Go.RowKit Go.Maps
set_option linter.unusedVariables false

section
variable {w : World} {B a b : Nat} {v : Value} {p : Pl} {a2 : Nat} {vl vs vd : Value} {q : Pl}
theorem IsPool.rmost (h : IsPool w B a b v p) {w' : World} {vl' : Value} (hg : RMostV w B vl w' vl') : IsPool w' B a b v p := by
  obtain ⟨D, ⟨es, clock, hb, h4⟩, h3⟩ := h.dict
  exact ⟨hg.2.1 _ _ h.lay (other_of (by decide) (by decide) (by decide)), h.ga, h.gb, own_hold h.row (hg.hold (by decide) (by decide) (by decide)), ⟨D, ⟨es, clock, hg.2.1 _ _ hb (fun _ _ _ e => by cases e), h4⟩, h3⟩, h.ok, h.nok⟩
end
end Go.Proofs.YtjpkeoenajlmeaaDoor
