/-
  Plain: what stands in a heap; the least on top; a thing that rises, one that sinks.
-/
namespace Go.Proofs.Ytmbaedldikobcaa
set_option linter.unusedVariables false

/-- A thing in a heap, and its turn. -/
structure Hp where
  key : Int
  num : Int
  turn : Int
  deriving Inhabited, DecidableEq

section
variable (f : Int → Int)
/-- Is to be popped ahead. -/
def Ahd (x y : Hp) : Prop := f x.key < f y.key ∨ (f x.key = f y.key ∧ x.turn < y.turn)
instance (x y : Hp) : Decidable (Ahd f x y) := by unfold Ahd; infer_instance
variable {f}
theorem ahd_iff (x y : Hp) : Ahd f x y ↔ f x.key < f y.key ∨ (x.turn < y.turn ∧ ¬ f y.key < f x.key) := by unfold Ahd; omega
theorem nahd_trans {x y z : Hp} (h : ¬ Ahd f y x) (h' : ¬ Ahd f z y) : ¬ Ahd f z x := by unfold Ahd at *; omega
theorem ahd_nahd {x y : Hp} (h : Ahd f x y) : ¬ Ahd f y x := by unfold Ahd at *; omega
theorem nahd_self (x : Hp) : ¬ Ahd f x x := by unfold Ahd; omega
theorem ahd_nahd_trans {x y z : Hp} (h : Ahd f x y) (h' : ¬ Ahd f z y) : ¬ Ahd f z x := nahd_trans (ahd_nahd h) h'

abbrev par (j : Nat) : Nat := (j - 1) / 2
def HeapOk (f : Int → Int) (g : Nat → Hp) (n : Nat) : Prop := ∀ j, 0 < j → j < n → ¬ Ahd f (g j) (g (par j))
def RiseOk (f : Int → Int) (g : Nat → Hp) (n i : Nat) : Prop := (∀ j, 0 < j → j < n → j ≠ i → ¬ Ahd f (g j) (g (par j))) ∧ ∀ j, 0 < j → j < n → par j = i → 0 < i → ¬ Ahd f (g j) (g (par i))
def SinkOk (f : Int → Int) (g : Nat → Hp) (n i : Nat) : Prop := (∀ j, 0 < j → j < n → par j ≠ i → ¬ Ahd f (g j) (g (par j))) ∧ ∀ j, 0 < j → j < n → par j = i → 0 < i → ¬ Ahd f (g j) (g (par i))
def swp (g : Nat → Hp) (i j : Nat) : Nat → Hp := fun k => if k = i then g j else if k = j then g i else g k

theorem RiseOk.step {g : Nat → Hp} {n i : Nat} (h : RiseOk f g n i) (h0 : 0 < i) (hi : i < n) (ha : Ahd f (g i) (g (par i))) : RiseOk f (swp g i (par i)) n (par i) := by
  obtain ⟨h1, h2⟩ := h
  have hp : par i < i := by unfold par; omega
  refine ⟨fun j j0 jn jp => ?_, fun j j0 jn jp p0 => ?_⟩
  · unfold swp
    by_cases e : j = i
    · subst e
      rw [if_pos rfl, if_neg (by omega), if_pos rfl]
      exact ahd_nahd ha
    · rw [if_neg e, if_neg jp]
      by_cases e1 : par j = i
      · rw [if_pos e1]
        exact h2 j j0 jn e1 h0
      · rw [if_neg e1]
        by_cases e2 : par j = par i
        · rw [if_pos e2]
          have := h1 j j0 jn e
          rw [e2] at this
          exact ahd_nahd_trans ha this
        · rw [if_neg e2]
          exact h1 j j0 jn e
  · unfold swp
    have hpp : par (par i) < par i := by unfold par at *; omega
    rw [if_neg (show ¬ par (par i) = i by omega), if_neg (show ¬ par (par i) = par i by omega)]
    have hq : ¬ Ahd f (g (par i)) (g (par (par i))) := h1 (par i) p0 (by omega) (by omega)
    by_cases e : j = i
    · rw [if_pos e]; exact hq
    · rw [if_neg e, if_neg (show ¬ j = par i by intro e'; rw [e'] at jp; omega)]
      have := h1 j j0 jn e
      rw [jp] at this
      exact nahd_trans hq this
theorem RiseOk.done {g : Nat → Hp} {n i : Nat} (h : RiseOk f g n i) (he : i = 0 ∨ ¬ Ahd f (g i) (g (par i))) : HeapOk f g n := by
  intro j j0 jn
  by_cases e : j = i
  · subst e
    rcases he with he | he
    · omega
    · exact he
  · exact h.1 j j0 jn e
theorem SinkOk.step {g : Nat → Hp} {n i c : Nat} (h : SinkOk f g n i) (hc0 : 0 < c) (hcn : c < n) (hcp : par c = i) (hl : ∀ j, 0 < j → j < n → par j = i → ¬ Ahd f (g j) (g c)) (ha : Ahd f (g c) (g i)) : SinkOk f (swp g i c) n c := by
  obtain ⟨h1, h2⟩ := h
  have hic : i < c := by unfold par at hcp; omega
  refine ⟨fun j j0 jn jp => ?_, fun j j0 jn jp p0 => ?_⟩
  · unfold swp
    by_cases e1 : par j = i
    · rw [if_pos e1]
      have hji : ¬ j = i := by intro e; rw [e] at e1; unfold par at e1; omega
      rw [if_neg hji]
      by_cases e : j = c
      · rw [if_pos e]; exact ahd_nahd ha
      · rw [if_neg e]; exact hl j j0 jn e1
    · rw [if_neg e1, if_neg jp]
      by_cases e : j = i
      · rw [if_pos e]
        have := h2 c hc0 hcn hcp (by omega)
        rw [e]; exact this
      · rw [if_neg e]
        by_cases e' : j = c
        · exact absurd (e' ▸ hcp) e1
        · rw [if_neg e']; exact h1 j j0 jn e1
  · unfold swp
    have hj : c < j := by unfold par at jp; omega
    rw [hcp, if_pos rfl, if_neg (by omega), if_neg (by omega)]
    have := h1 j j0 jn (by omega)
    rwa [jp] at this
theorem SinkOk.done {g : Nat → Hp} {n i : Nat} (h : SinkOk f g n i) (he : ∀ j, 0 < j → j < n → par j = i → ¬ Ahd f (g j) (g i)) : HeapOk f g n := by
  intro j j0 jn
  by_cases e : par j = i
  · rw [e]; exact he j j0 jn e
  · exact h.1 j j0 jn e
theorem HeapOk.top {g : Nat → Hp} {n : Nat} (h : HeapOk f g n) : ∀ j, j < n → ¬ Ahd f (g j) (g 0) := by
  intro j
  induction j using Nat.strongRecOn with
  | ind j ih =>
    intro hj
    by_cases h0 : j = 0
    · subst h0; exact nahd_self _
    · have h1 := h j (by omega) hj
      have h2 := ih (par j) (by unfold par; omega) (by unfold par; omega)
      exact nahd_trans h2 h1
theorem HeapOk.push {g g' : Nat → Hp} {n : Nat} (h : HeapOk f g n) (hg : ∀ j, j < n → g' j = g j) : RiseOk f g' (n + 1) n := by
  refine ⟨fun j j0 jn jp => ?_, fun j j0 jn jp p0 => ?_⟩
  · rw [hg j (by omega), hg (par j) (by unfold par; omega)]
    exact h j j0 (by omega)
  · unfold par at jp; omega
theorem HeapOk.pop {g g' : Nat → Hp} {n m : Nat} (h : HeapOk f g n) (hm : m ≤ n) (hg : ∀ j, 0 < j → j < m → g' j = g j) : SinkOk f g' m 0 := by
  refine ⟨fun j j0 jn jp => ?_, fun j j0 jn jp p0 => by omega⟩
  rw [hg j j0 jn, hg (par j) (by omega) (by unfold par; omega)]
  exact h j j0 (by omega)

/-- The things of a list, by their numbers. -/
def atH (l : List Hp) (j : Nat) : Hp := l.getD j default
theorem atH_eq {l : List Hp} {j : Nat} (h : j < l.length) : atH l j = l[j] := by simp [atH, List.getD, h]
def swapL (l : List Hp) (i j : Nat) : List Hp := (l.set i (atH l j)).set j (atH l i)
theorem swapL_len (l : List Hp) (i j : Nat) : (swapL l i j).length = l.length := by simp [swapL]
theorem atH_swapL {l : List Hp} {i j : Nat} (hi : i < l.length) (hj : j < l.length) : atH (swapL l i j) = swp (atH l) i j := by
  funext k
  unfold swp swapL
  by_cases hk : k < l.length
  · rw [atH_eq (by simpa using hk), List.getElem_set, List.getElem_set]
    by_cases e1 : k = i
    · rw [if_pos e1]
      by_cases e2 : j = k
      · rw [if_pos e2, ← e1, ← e2]
      · rw [if_neg e2, if_pos e1.symm]
    · rw [if_neg e1]
      by_cases e2 : j = k
      · rw [if_pos e2, if_pos e2.symm]
      · rw [if_neg e2, if_neg (fun e => e1 e.symm), if_neg (fun e => e2 e.symm), atH_eq hk]
  · rw [if_neg (by omega), if_neg (by omega)]
    unfold atH
    simp [List.getD, hk]
theorem swapL_perm {l : List Hp} {i j : Nat} (hi : i < l.length) (hj : j < l.length) : (swapL l i j).Perm l := by
  have h := Array.swap_perm (xs := l.toArray) (i := i) (j := j) (by simpa using hi) (by simpa using hj)
  have e : (l.toArray.swap i j (by simpa using hi) (by simpa using hj)).toList = swapL l i j := by
    rw [Array.swap_def]
    simp [swapL, atH_eq hi, atH_eq hj]
  rw [Array.perm_iff_toList_perm, e] at h
  simpa using h
end

end Go.Proofs.Ytmbaedldikobcaa
