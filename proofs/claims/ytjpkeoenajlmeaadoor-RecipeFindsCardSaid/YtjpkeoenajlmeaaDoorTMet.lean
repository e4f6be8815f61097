/-
  A set of terms in memory: those that were told, and those that are under way.
-/
import Derived.Test.YtjpkeoenajlmeaaDoorTSubP
import Derived.Test.YtjpkeoenajlmeaaDoorTPool
import Derived.Maps.OwnSet
namespace Go.Proofs.YtjpkeoenajlmeaaDoor
open Go.RowKit Go.Maps
set_option linter.unusedVariables false

abbrev MetT : TypeId := 121
abbrev UnT : TypeId := 150
theorem lawT : Keyed Tryd.prog TermT := int_keyed Tryd.underlying23
theorem wfT {x : Int} (h : i64R x) : (Lit.int .i64 x).wf = true := wf_i64 h
theorem keyT {x : Int} (h : i64R x) : keyOf Tryd.prog TermT (.int .i64 x) = some (.int .i64 x) := keyOf_int_mk Tryd.underlying23 (wfT h)
theorem zeroU (w : World) : (zeroValue UnT).run Tryd.prog w = .ok (.agg #[]) w := by kernel_rfl
def Met (w : World) (mb : Nat) (acc anc : List Int) : Prop := ∃ D : DataW Unit, w.ownsMap Tryd.prog TermT unitElem mb (acc.length + anc.length) D ∧ ∀ x, i64R x → (Maps.has D (.int .i64 x) = true ↔ x ∈ acc ∨ x ∈ anc)
theorem Met.new (w : World) : Met (w.alloc (.map #[] 0)) w.heap.size [] [] := ⟨_, World.ownsMap_made w _ _ _, fun x _ => by simp [Maps.has]⟩
theorem Met.enter {w : World} {mb : Nat} {acc anc : List Int} {D : DataW Unit} {t : Int} (h : w.ownsMap Tryd.prog TermT unitElem mb (acc.length + anc.length + 1) (D.put (.int .i64 t) (.agg []))) (hm : IsMap D) (ht : i64R t)
    (hD : ∀ x, i64R x → (Maps.has D (.int .i64 x) = true ↔ x ∈ acc ∨ x ∈ anc)) : Met w mb acc (t :: anc) := by
  refine ⟨_, by simpa [Nat.add_assoc] using h, fun x hx => ?_⟩
  by_cases e : x = t
  · subst e
    rw [has_put_same hm (lawT.key (keyT ht))]
    simp
  · rw [has_put_other (fun e' => e (by simpa using e')), hD x hx]
    simp [e]
theorem Met.leave {w : World} {mb : Nat} {acc anc : List Int} {t : Int} (h : Met w mb acc (t :: anc)) : Met w mb (acc ++ [t]) anc := by
  obtain ⟨D, h1, h2⟩ := h
  refine ⟨D, h1.mono (by simp; omega), fun x hx => ?_⟩
  rw [h2 x hx]
  simp [or_assoc]
theorem Met.same {w w' : World} {mb : Nat} {acc anc : List Int} (h : Met w mb acc anc) (hs : ∀ es c, w.heap[mb]? = some (.map es c) → w'.heap[mb]? = some (.map es c)) : Met w' mb acc anc := by
  obtain ⟨D, ⟨es, c, hb, r⟩, h2⟩ := h
  exact ⟨D, ⟨es, c, hs _ _ hb, r⟩, h2⟩
theorem in_i64 {p : Pl} (hl : p.length ≤ 65536) {t : Int} (h : t = 0 ∨ inP p t = true) : i64R t := by
  unfold i64R
  rcases h with rfl | h
  · omega
  · unfold inP at h; simp at h; omega
end Go.Proofs.YtjpkeoenajlmeaaDoor
