/-
  Plain facts of lines; blocks that stay. No function of the program is named here.
-/
import Derived.Test.YtbgnedeeeaapfaaWMap
import Derived.Test.YtbgnedeeeaapfaaWTck
namespace Go.Proofs.Ytbgnedeeeaapfaa
open Go.RowKit Go.Maps
set_option linter.unusedVariables false
theorem Keep2.touch {S : Nat → Prop} {w w' : World} (ht : Touch S w w') (hS : ∀ k, S k → ∀ cs, w.heap[k]? ≠ some (Obj.cells cs NodeL) ∧ w.heap[k]? ≠ some (Obj.cells cs NodeN)) : Keep2 w w' :=
  ⟨fun b cs hb => by rw [ht.block b (Array.getElem?_eq_some_iff.1 hb).1 (fun h => (hS b h cs).1 hb)]; exact hb, fun b cs hb => by rw [ht.block b (Array.getElem?_eq_some_iff.1 hb).1 (fun h => (hS b h cs).2 hb)]; exact hb⟩
theorem Lines.nil_of {G : Grp} (h : Lines G []) : G = [] := by
  cases G with
  | nil => rfl
  | cons g G =>
    obtain ⟨k, l⟩ := g
    have h1 := h.fl
    have h2 := (h.si (k, l) (by simp)).2
    rw [flat_cons] at h1
    cases l with
    | nil => exact absurd rfl h2
    | cons q l => simp at h1
theorem Lines.head_of {G : Grp} {t : Tm} {ts : List Tm} (h : Lines G (t :: ts)) : ∃ l G', G = (t.tk, (t.pl, t.id) :: l) :: G' := by
  cases G with
  | nil => have := h.fl; simp [flat] at this
  | cons g G =>
    obtain ⟨k, l⟩ := g
    have h1 := h.fl
    have h2 := (h.si (k, l) (by simp)).2
    rw [flat_cons] at h1
    cases l with
    | nil => exact absurd rfl h2
    | cons q l =>
      simp only [List.map_cons, List.cons_append, List.cons.injEq, keyT3, Prod.mk.injEq] at h1
      obtain ⟨⟨rfl, e2, e3⟩, _⟩ := h1
      obtain ⟨q1, q2⟩ := q
      simp only at e2 e3
      subst e2; subst e3
      exact ⟨l, G, rfl⟩
theorem flat_len (G : Grp) (h : ∀ g ∈ G, g.2 ≠ []) : G.length ≤ (flat G).length := by
  induction G with
  | nil => simp
  | cons g G ih =>
    obtain ⟨k, l⟩ := g
    have h1 := h (k, l) (by simp)
    have h2 := ih fun g hg => h g (by simp [hg])
    rw [flat_cons]
    cases l with
    | nil => exact absurd rfl h1
    | cons q l => simp; omega
theorem Lines.glen {G : Grp} {ts : List Tm} (h : Lines G ts) : G.length ≤ ts.length := by
  have h1 := flat_len G fun g hg => (h.si g hg).2
  rw [h.fl, List.length_map] at h1
  exact h1
theorem Lines.llen {G : Grp} {ts : List Tm} (h : Lines G ts) (k : Int) : (lineOf G k).length ≤ ts.length := by
  have h1 := congrArg List.length (h.line k)
  rw [List.length_map, List.length_map] at h1
  rw [h1]; exact List.length_filter_le _ _
def nextP (x : Wh) : Int := match x.ts with
  | [] => 0
  | t :: _ => t.tk
theorem turned_cell {w w' : World} {b : Nat} (h : w.mapTurned w' b) {k : Nat} (hk : k ≠ b) : w'.heap[k]? = w.heap[k]? := by
  obtain ⟨es, c, es', c', hb, rfl⟩ := h
  exact Go.ChangeMaps.heap_setBlock_other hb _ hk
theorem turned_below {w w' : World} {b : Nat} (h : w.mapTurned w' b) {B : Nat} (hb : B ≤ b) (hB : B ≤ w.heap.size) : Below B w w' := (Below.refl B w).grown h.grown hB fun k e => by cases e; exact hb
def dueL (ts : List Tm) (k : Int) : List Tm := ts.filter fun t => decide (t.tk ≤ k)
def restL (ts : List Tm) (k : Int) : List Tm := ts.filter fun t => decide (k < t.tk)
theorem due_split {ds rs : List Tm} {k : Int} (h1 : ∀ t ∈ ds, t.tk ≤ k) (h2 : ∀ t ∈ rs, k < t.tk) : dueL (ds ++ rs) k = ds ∧ restL (ds ++ rs) k = rs := by
  unfold dueL restL
  rw [List.filter_append, List.filter_append, filter_all (l := ds) (fun t ht => by simpa using h1 t ht), filter_none (l := rs) (fun t ht => by simpa using h2 t ht), filter_none (l := ds) (fun t ht => by simpa using h1 t ht), filter_all (l := rs) (fun t ht => by simpa using h2 t ht)]
  simp
theorem ord_le {t : Tm} {ts : List Tm} (h : (t :: ts).Pairwise lt2) : ∀ u ∈ t :: ts, t.tk ≤ u.tk := by
  intro u hu
  rcases List.mem_cons.1 hu with rfl | hu
  · exact Int.le_refl _
  · have := (List.pairwise_cons.1 h).1 u hu
    unfold lt2 at this
    omega
abbrev OwnW (a mb : Nat) : Nat → Prop := fun k => k = a ∨ k = mb
theorem setP_past {x : Wh} {k : Int} {v : Value} (h : k ≤ x.now) : setP x k v = (x, 0, 140) := by unfold setP; rw [if_pos h]
theorem setP_many {x : Wh} {k : Int} {v : Value} (h : ¬ k ≤ x.now) (h2 : 4096 ≤ x.ts.length) : setP x k v = (x, 0, 6) := by unfold setP; rw [if_neg h, if_pos h2]
theorem setP_ok {x : Wh} {k : Int} {v : Value} (h : ¬ k ≤ x.now) (h2 : ¬ 4096 ≤ x.ts.length) : setP x k v = (layP { x with ids := x.ids + 1 } x.ids k v, x.ids, 0) := by unfold setP; rw [if_neg h, if_neg h2]
theorem afterP_no {x : Wh} {n : Int} {v : Value} (h : n < 1 ∨ maxI - x.now < n) : afterP x n v = (x, 0, 2) := by unfold afterP; rw [if_pos h]
theorem afterP_ok {x : Wh} {n : Int} {v : Value} (h : ¬ (n < 1 ∨ maxI - x.now < n)) : afterP x n v = setP x (x.now + n) v := by unfold afterP; rw [if_neg h]
theorem out_none {ts : List Tm} {i : Int} (h : fnd ts i = none) : out ts i = ts := filter_all fun a ha => by simpa using fnd_none h a ha
end Go.Proofs.Ytbgnedeeeaapfaa
