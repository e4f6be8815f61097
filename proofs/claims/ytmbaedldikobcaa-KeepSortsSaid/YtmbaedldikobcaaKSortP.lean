/-
  Plain: what a heap holds that numbers were pushed into, each with its place; what is left of it behind each pop.
-/
import Derived.Test.YtmbaedldikobcaaKHeapN
namespace Go.Proofs.Ytmbaedldikobcaa
open Go.RowKit
set_option linter.unusedVariables false

/-- Of the first n numbers of l some: each with its place as its number and its turn. -/
def Psh (l : List Int) (n : Nat) (L : List Hp) : Prop := (∀ x ∈ L, ∃ j : Nat, j < n ∧ j < l.length ∧ x = ⟨l.getD j 0, (j : Int), (j : Int)⟩) ∧ (L.map Hp.num).Nodup
theorem Psh.nil (l : List Int) : Psh l 0 [] := ⟨fun x h => absurd h (by simp), by simp⟩
theorem Psh.push {l : List Int} {n : Nat} {L L' : List Hp} (h : Psh l n L) (hn : n < l.length) (hp : L'.Perm (L ++ [⟨l.getD n 0, (n : Int), (n : Int)⟩])) : Psh l (n + 1) L' := by
  refine ⟨fun x hx => ?_, ?_⟩
  · rcases List.mem_append.1 (hp.mem_iff.1 hx) with hx | hx
    · obtain ⟨j, h1, h2, h3⟩ := h.1 x hx
      exact ⟨j, by omega, h2, h3⟩
    · exact ⟨n, by omega, hn, by simpa using hx⟩
  · rw [(hp.map Hp.num).nodup_iff, List.map_append, List.nodup_append]
    refine ⟨h.2, by simp, fun a ha b hb => ?_⟩
    obtain ⟨x, hx, rfl⟩ := List.mem_map.1 ha
    obtain ⟨j, h1, h2, h3⟩ := h.1 x hx
    have : b = (n : Int) := by simpa using hb
    rw [h3, this]
    simp only [ne_eq]
    omega
theorem Psh.sub {l : List Int} {n : Nat} {L L' : List Hp} {x : Hp} (h : Psh l n L) (hp : (x :: L').Perm L) : Psh l n L' :=
  ⟨fun y hy => h.1 y (hp.mem_iff.1 (List.mem_cons_of_mem _ hy)), (List.nodup_cons.1 ((hp.map Hp.num).nodup_iff.2 h.2)).2⟩
theorem Psh.keys {l : List Int} {n : Nat} {L : List Hp} (h : Psh l n L) (hl : ∀ x ∈ l, InI x) : KeysIn L := fun x hx => by
  obtain ⟨j, _, h2, rfl⟩ := h.1 x hx
  simp only [List.getD_eq_getElem?_getD, List.getElem?_eq_getElem h2, Option.getD_some]
  exact hl _ (List.getElem_mem h2)

/-- What is left behind n pops: what was popped is marked; the last that was is behind nothing that is left. -/
structure Left (l : List Int) (L : List Hp) (sc : Array Value) (n : Nat) (lk ln : Int) : Prop where
  psh : Psh l l.length L
  len : L.length + n = l.length
  ok : HeapOk (fun x => -x) (atH L) L.length
  size : sc.size = l.length
  mark : ∀ j, j < l.length → ∃ b, sc[j]? = some (.bool b) ∧ (b = true → ∀ x ∈ L, x.num ≠ (j : Int))
  last : 0 < n → ∀ x ∈ L, ¬ Ahd (fun x => -x) x ⟨lk, ln, ln⟩

theorem Left.top {l : List Int} {L : List Hp} {sc : Array Value} {n : Nat} {lk ln : Int} (h : Left l L sc n lk ln) (h0 : 0 < L.length) :
    ∃ j : Nat, j < l.length ∧ atH L 0 = ⟨l.getD j 0, (j : Int), (j : Int)⟩ ∧ sc[j]? = some (.bool false) ∧ (0 < n → l.getD j 0 ≤ lk ∧ (l.getD j 0 = lk → ln ≤ (j : Int))) := by
  have hm : atH L 0 ∈ L := by rw [atH_eq h0]; exact List.getElem_mem h0
  obtain ⟨j, _, h2, h3⟩ := h.psh.1 _ hm
  refine ⟨j, h2, h3, ?_, fun hn => ?_⟩
  · obtain ⟨b, e, hb⟩ := h.mark j h2
    cases b with
    | false => exact e
    | true => exact absurd (by rw [h3]) (hb rfl _ hm)
  · have := h.last hn _ hm
    rw [h3] at this
    unfold Ahd at this
    simp only at this
    omega
theorem Left.step {l : List Int} {L L' : List Hp} {sc : Array Value} {n j : Nat} {lk ln k : Int} (h : Left l L sc n lk ln) (h0 : 0 < L.length) (hj : j < l.length) (ht : atH L 0 = ⟨k, (j : Int), (j : Int)⟩)
    (hp : (atH L 0 :: L').Perm L) (hO : HeapOk (fun x => -x) (atH L') (L.length - 1)) : Left l L' (sc.setIfInBounds j (.bool true)) (n + 1) k (j : Int) := by
  have hl : L'.length + 1 = L.length := by have := hp.length_eq; simpa using this
  have hnd := List.nodup_cons.1 ((hp.map Hp.num).nodup_iff.2 h.psh.2)
  refine ⟨h.psh.sub hp, by have := h.len; omega, ?_, by simpa using h.size, fun i hi => ?_, fun _ x hx => ?_⟩
  · rw [show L'.length = L.length - 1 by omega]; exact hO
  · by_cases e : j = i
    · subst e
      refine ⟨true, by simp [h.size, hj], fun _ x hx hxn => hnd.1 ?_⟩
      rw [show Hp.num (atH L 0) = (j : Int) by rw [ht], ← hxn]
      exact List.mem_map_of_mem hx
    · obtain ⟨b, e1, e2⟩ := h.mark i hi
      exact ⟨b, by rw [Array.getElem?_setIfInBounds_ne e]; exact e1, fun hb x hx => e2 hb x (hp.mem_iff.1 (List.mem_cons_of_mem _ hx))⟩
  · have hm : x ∈ L := hp.mem_iff.1 (List.mem_cons_of_mem _ hx)
    obtain ⟨i, hi, rfl⟩ := List.getElem_of_mem hm
    have := h.ok.top i hi
    rw [ht, atH_eq hi] at this
    exact this
theorem Left.start {l : List Int} {L : List Hp} {sc : Array Value} (h : Psh l l.length L) (hl : L.length = l.length) (hO : HeapOk (fun x => -x) (atH L) L.length) (hs : sc.size = l.length) (hf : ∀ j, j < l.length → sc[j]? = some (.bool false)) : Left l L sc 0 0 0 :=
  ⟨h, by omega, hO, hs, fun j hj => ⟨false, hf j hj, fun h => absurd h (by decide)⟩, fun h => absurd h (by omega)⟩
end Go.Proofs.Ytmbaedldikobcaa
