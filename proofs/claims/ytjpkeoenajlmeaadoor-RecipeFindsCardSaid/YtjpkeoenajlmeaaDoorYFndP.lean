/-
  No more than needed, as plain data: which operations are kept, how they are renumbered; what is left makes the same.
  No more than needed, as plain data: what is left of a run that makes all makes the same at its end.
  From a proof to a recipe, as plain data: the operation that makes what a step says; it makes just that.
-/
import Derived.Test.YtjpkeoenajlmeaaDoorYOpM
namespace Go.Proofs.YtjpkeoenajlmeaaDoor
set_option linter.unusedVariables false

def useA (c : Int) : Bool := decide (4 ≤ c) && decide (c ≤ 11)
def useB (c : Int) : Bool := (c == 4) || (decide (9 ≤ c) && decide (c ≤ 11))
def zeroO : OpP := ⟨0, 0, 0, 0, emptyS⟩
/-- Does an operation with this number name one ahead of it by A, by B? -/
def refA (o : OpP) (i : Nat) : Bool := useA o.code && (decide (0 ≤ o.a) && decide (o.a < (i : Int)))
def refB (o : OpP) (i : Nat) : Bool := useB o.code && (decide (0 ≤ o.b) && decide (o.b < (i : Int)))
def orAt (f : Nat → Bool) (j : Nat) (b : Bool) : Nat → Bool := fun x => if x = j then f j || b else f x
def markA (f : Nat → Bool) (o : OpP) (i : Nat) : Nat → Bool := if refA o i = true then orAt f o.a.toNat (f i) else f
def markB (f : Nat → Bool) (o : OpP) (i : Nat) : Nat → Bool := if refB o i = true then orAt f o.b.toNat (f i) else f
/-- What one operation marks. -/
def mark1 (f : Nat → Bool) (o : OpP) (i : Nat) : Nat → Bool := markB (markA f o i) o i
/-- From behind: those below i are still to come. -/
def markF (l : List OpP) : Nat → (Nat → Bool) → (Nat → Bool)
  | 0, f => f
  | i + 1, f => markF l i (mark1 f (l.getD i zeroO) i)
def partF (l : List OpP) : Nat → Bool := markF l l.length (fun x => x == l.length - 1)
def movA (o : OpP) (i : Nat) (now : Nat → Int) : Int := if refA o i = true then now o.a.toNat else o.a
def movB (o : OpP) (i : Nat) (now : Nat → Int) : Int := if refB o i = true then now o.b.toNat else o.b
def movP (o : OpP) (i : Nat) (now : Nat → Int) : OpP := ⟨o.code, movA o i now, movB o i now, o.num, o.text⟩
/-- Those that are kept, renumbered. -/
def keepP (f : Nat → Bool) : List OpP → Nat → (Nat → Int) → List OpP → List OpP
  | [], _, _, kept => kept
  | o :: r, i, now, kept => if f i = true then keepP f r (i + 1) (fun x => if x = i then (kept.length : Int) else now x) (kept ++ [movP o i now]) else keepP f r (i + 1) now kept
def trimP (l : List OpP) : List OpP := if l = [] then [] else keepP (partF l) l 0 (fun _ => 0) []

theorem refA_lt {o : OpP} {i : Nat} (h : refA o i = true) : o.a.toNat < i := by
  simp only [refA, Bool.and_eq_true, decide_eq_true_eq] at h; omega
theorem refB_lt {o : OpP} {i : Nat} (h : refB o i = true) : o.b.toNat < i := by
  simp only [refB, Bool.and_eq_true, decide_eq_true_eq] at h; omega
theorem mark1_at (f : Nat → Bool) (o : OpP) (i x : Nat) (hx : i ≤ x) : mark1 f o i x = f x := by
  have hA : ∀ y, i ≤ y → markA f o i y = f y := fun y hy => by
    unfold markA
    split
    · rename_i h; unfold orAt; rw [if_neg (by have := refA_lt h; omega)]
    · rfl
  unfold mark1 markB
  split
  · rename_i h; unfold orAt; rw [if_neg (by have := refB_lt h; omega)]; exact hA x hx
  · exact hA x hx
theorem mark1_up (f : Nat → Bool) (o : OpP) (i x : Nat) (h : f x = true) : mark1 f o i x = true := by
  have hA : ∀ y, f y = true → markA f o i y = true := fun y hy => by
    unfold markA
    split
    · unfold orAt; split
      · rename_i e; rw [← e, hy]; rfl
      · exact hy
    · exact hy
  unfold mark1 markB
  split
  · unfold orAt; split
    · rename_i e; rw [← e, hA x h]; rfl
    · exact hA x h
  · exact hA x h
theorem mark1_refs {f : Nat → Bool} {o : OpP} {i : Nat} (h : f i = true) : (refA o i = true → mark1 f o i o.a.toNat = true) ∧ (refB o i = true → mark1 f o i o.b.toNat = true) := by
  have hAi : markA f o i i = true := by
    unfold markA
    split
    · rename_i hr; unfold orAt; rw [if_neg (by have := refA_lt hr; omega)]; exact h
    · exact h
  constructor
  · intro hr
    have h1 : markA f o i o.a.toNat = true := by unfold markA orAt; rw [if_pos hr, if_pos rfl, h]; simp
    unfold mark1 markB
    split
    · unfold orAt; split
      · rename_i e; rw [← e, h1]; rfl
      · exact h1
    · exact h1
  · intro hr
    unfold mark1 markB orAt
    rw [if_pos hr, if_pos rfl, hAi]; simp
theorem markF_at (l : List OpP) : ∀ (i : Nat) (f : Nat → Bool) (x : Nat), i ≤ x → markF l i f x = f x
  | 0, f, x, _ => rfl
  | i + 1, f, x, h => by
    unfold markF
    rw [markF_at l i _ x (by omega), mark1_at _ _ _ _ (by omega)]
theorem markF_up (l : List OpP) : ∀ (i : Nat) (f : Nat → Bool) (x : Nat), f x = true → markF l i f x = true
  | 0, f, x, h => h
  | i + 1, f, x, h => markF_up l i _ x (mark1_up _ _ _ _ h)
/-- Whatever a kept operation names is kept. -/
theorem markF_closed (l : List OpP) : ∀ (i : Nat) (f : Nat → Bool) (j : Nat), j < i → markF l i f j = true →
    (refA (l.getD j zeroO) j = true → markF l i f (l.getD j zeroO).a.toNat = true) ∧ (refB (l.getD j zeroO) j = true → markF l i f (l.getD j zeroO).b.toNat = true)
  | 0, f, j, h, _ => by omega
  | i + 1, f, j, h, hj => by
    unfold markF at hj ⊢
    by_cases e : j = i
    · subst e
      rw [markF_at l j _ j (Nat.le_refl _), mark1_at _ _ _ _ (Nat.le_refl _)] at hj
      have h2 := mark1_refs (o := l.getD j zeroO) hj
      exact ⟨fun hr => markF_up l j _ _ (h2.1 hr), fun hr => markF_up l j _ _ (h2.2 hr)⟩
    · exact markF_closed l i _ j (by omega) hj
theorem part_last {l : List OpP} (h : l ≠ []) : partF l (l.length - 1) = true := markF_up l _ _ _ (by simp)

/-- What an operation made once it makes again, in a pool that has it. -/
theorem mk_again {p P e : Pl} (hP : Ok P) {n : Nd} {t : Int} {p' : Pl} (hp : Ok p) (h : mkP p n = (t, 0, p')) (he : P = p' ++ e) : mkP P n = (t, 0, P) := by
  have hm := mkP_made hp (n := n) (by rw [h])
  have hok' := mkP_ok hp n
  rw [h] at hm hok'
  simp only at hm hok'
  obtain ⟨h1, h2, h3⟩ := hm
  have hin := h2
  simp only [inP, Bool.and_eq_true, decide_eq_true_eq] at h2
  obtain ⟨i, rfl⟩ : ∃ i : Nat, t = (i : Int) + 1 := ⟨(t - 1).toNat, by omega⟩
  have hi : i < p'.length := by omega
  rw [getD_at hi] at h3
  have hn : numP p' n = i + 1 := by rw [← h3]; exact hok'.first i hi
  have hN : numP P n = i + 1 := by rw [he, numP_app (by omega), hn]
  have hE : errP P n = 0 := hP.err (by omega)
  unfold mkP
  rw [if_neg (fun h => h hE), if_pos (by omega), hN]
  congr 1
theorem md_take {M : List Int} {i : Nat} {j : Int} (h : upB (M.take i) j = true) : mdP (M.take i) j = mdP M j := by
  simp only [upB, Bool.and_eq_true, decide_eq_true_eq, List.length_take] at h
  unfold mdP
  rw [List.getD_eq_getElem?_getD, List.getD_eq_getElem?_getD, List.getElem?_take, if_pos (by omega)]
/-- An operation that was done is done again behind others, where what it names makes the same. -/
theorem do_again {p P e : Pl} (hp : Ok p) (hP : Ok P) {g m m' : List Int} {o o' : OpP} {t : Int} {p' : Pl} (h : doP p g m o = (t, 0, p')) (he : P = p' ++ e) (hin : ∀ x ∈ m, inP p x = true)
    (hc : o'.code = o.code) (hn : o'.num = o.num) (ht : o'.text = o.text) (ha0 : useA o.code = false → o'.a = o.a)
    (ha : useA o.code = true → upB m o.a = true → upB m' o'.a = true ∧ mdP m' o'.a = mdP m o.a) (hb : useB o.code = true → upB m o.b = true → upB m' o'.b = true ∧ mdP m' o'.b = mdP m o.b) :
    doP P g m' o' = (t, 0, P) := by
  obtain ⟨c, a, b, u, s⟩ := o
  obtain ⟨c', a', b', u', s'⟩ := o'
  simp only at hc hn ht ha0 ha hb
  subst hc hn ht
  have hpp : ∃ e2, P = p ++ e2 := by
    obtain ⟨e1, h1⟩ := (doP_out p g m ⟨c', a, b, u', s'⟩).1
    rw [h] at h1
    exact ⟨e1 ++ e, by rw [he]; simp only at h1; rw [h1, List.append_assoc]⟩
  obtain ⟨e2, he2⟩ := hpp
  have hnd : ∀ j j' : Int, upB m j = true → mdP m' j' = mdP m j → ndP P m' j' = ndP p m j := fun j j' hu hm => by
    unfold ndP
    rw [hm, he2, atP_append (hin _ (md_in hu))]
  have hmk : ∀ n, mkP p n = (t, 0, p') → mkP P n = (t, 0, P) := fun n hn => mk_again hP hp hn he
  have no : ∀ {Q : Prop}, noP p = (t, 0, p') → Q := fun h => by
    unfold noP at h
    simp at h
  by_cases k0 : c' = 0
  · subst k0
    have := ha0 rfl
    subst this
    unfold doP at h ⊢
    rw [if_pos rfl] at h ⊢
    by_cases hu : upB g a' = true
    · rw [if_pos hu] at h ⊢; cases h; rfl
    · rw [if_neg hu] at h; exact no h
  by_cases k1 : c' = 1
  · subst k1
    have := ha0 rfl
    subst this
    exact hmk _ h
  by_cases k2 : c' = 2
  · subst k2; exact hmk _ h
  by_cases k3 : c' = 3
  · subst k3; exact hmk _ h
  by_cases k4 : c' = 4
  · subst k4
    have hd : ∀ (q : Pl) (m : List Int) (a b : Int), doP q g m ⟨4, a, b, u', s'⟩ = if (upB m a && upB m b) = true then mkP q ⟨4, 0, 0, 0, emptyS, mdP m a, mdP m b⟩ else noP q := fun _ _ _ _ => rfl
    rw [hd] at h ⊢
    by_cases hu : (upB m a && upB m b) = true
    · rw [if_pos hu] at h
      simp only [Bool.and_eq_true] at hu
      obtain ⟨a1, a2⟩ := ha rfl hu.1
      obtain ⟨b1, b2⟩ := hb rfl hu.2
      rw [if_pos (by rw [a1, b1]; rfl), a2, b2]
      exact hmk _ h
    · rw [if_neg hu] at h; exact no h
  by_cases k5 : c' = 5
  · subst k5
    have hd : ∀ (q : Pl) (m : List Int) (a b : Int), doP q g m ⟨5, a, b, u', s'⟩ = if upB m a = true then mkP q ⟨5, 0, 0, 0, emptyS, mdP m a, 0⟩ else noP q := fun _ _ _ _ => rfl
    rw [hd] at h ⊢
    by_cases hu : upB m a = true
    · rw [if_pos hu] at h
      obtain ⟨a1, a2⟩ := ha rfl hu
      rw [if_pos a1, a2]
      exact hmk _ h
    · rw [if_neg hu] at h; exact no h
  by_cases k6 : c' = 6
  · subst k6
    have hd : ∀ (q : Pl) (m : List Int) (a b : Int), doP q g m ⟨6, a, b, u', s'⟩ = if (upB m a && (ndP q m a).kind == 4) = true then ((ndP q m a).a, 0, q) else noP q := fun _ _ _ _ => rfl
    rw [hd] at h ⊢
    by_cases hu : (upB m a && (ndP p m a).kind == 4) = true
    · rw [if_pos hu] at h
      have hu' := hu
      simp only [Bool.and_eq_true] at hu
      obtain ⟨a1, a2⟩ := ha rfl hu.1
      rw [hnd _ _ hu.1 a2, if_pos (by rw [a1, hu.2]; rfl)]
      cases h; rfl
    · rw [if_neg hu] at h; exact no h
  by_cases k7 : c' = 7
  · subst k7
    have hd : ∀ (q : Pl) (m : List Int) (a b : Int), doP q g m ⟨7, a, b, u', s'⟩ = if (upB m a && (ndP q m a).kind == 4) = true then ((ndP q m a).b, 0, q) else noP q := fun _ _ _ _ => rfl
    rw [hd] at h ⊢
    by_cases hu : (upB m a && (ndP p m a).kind == 4) = true
    · rw [if_pos hu] at h
      simp only [Bool.and_eq_true] at hu
      obtain ⟨a1, a2⟩ := ha rfl hu.1
      rw [hnd _ _ hu.1 a2, if_pos (by rw [a1, hu.2]; rfl)]
      cases h; rfl
    · rw [if_neg hu] at h; exact no h
  by_cases k8 : c' = 8
  · subst k8
    have hd : ∀ (q : Pl) (m : List Int) (a b : Int), doP q g m ⟨8, a, b, u', s'⟩ = if (upB m a && showB (ndP q m a).kind) = true then ((ndP q m a).a, 0, q) else noP q := fun _ _ _ _ => rfl
    rw [hd] at h ⊢
    by_cases hu : (upB m a && showB (ndP p m a).kind) = true
    · rw [if_pos hu] at h
      simp only [Bool.and_eq_true] at hu
      obtain ⟨a1, a2⟩ := ha rfl hu.1
      rw [hnd _ _ hu.1 a2, if_pos (by rw [a1, hu.2]; rfl)]
      cases h; rfl
    · rw [if_neg hu] at h; exact no h
  have key : ∀ (n n' : Nd), (if (upB m a && (upB m b && (ndP p m b).kind == 6)) = true then mkP p n else noP p) = (t, 0, p') → useA c' = true → useB c' = true → (upB m a = true → upB m b = true → mdP m' a' = mdP m a → ndP P m' b' = ndP p m b → n' = n) →
      (if (upB m' a' && (upB m' b' && (ndP P m' b').kind == 6)) = true then mkP P n' else noP P) = (t, 0, P) := fun n n' h u1 u2 hn => by
    by_cases hu : (upB m a && (upB m b && (ndP p m b).kind == 6)) = true
    · rw [if_pos hu] at h
      simp only [Bool.and_eq_true] at hu
      obtain ⟨a1, a2⟩ := ha u1 hu.1
      obtain ⟨b1, b2⟩ := hb u2 hu.2.1
      have hk := hnd _ _ hu.2.1 b2
      rw [hn hu.1 hu.2.1 a2 hk, hk, if_pos (by rw [a1, b1, hu.2.2]; rfl)]
      exact hmk _ h
    · rw [if_neg hu] at h; exact no h
  by_cases k9 : c' = 9
  · subst k9
    exact key _ _ h rfl rfl (fun _ _ q1 q2 => by rw [q1, q2])
  by_cases k10 : c' = 10
  · subst k10
    exact key _ _ h rfl rfl (fun _ _ q1 q2 => by rw [q1, q2])
  by_cases k11 : c' = 11
  · subst k11
    exact key _ _ h rfl rfl (fun _ _ q1 q2 => by rw [q1, q2])
  have hz : doP p g m ⟨c', a, b, u', s'⟩ = noP p := by
    unfold doP
    rw [if_neg k0, if_neg k1, if_neg k2, if_neg k3, if_neg k4, if_neg k5, if_neg k6, if_neg k7, if_neg k8, if_neg k9, if_neg k10, if_neg k11]
  rw [hz] at h
  exact no h
/-- What is used is there: else the operation could not be done. -/
theorem do_used {p : Pl} {g m : List Int} {o : OpP} {t : Int} {p' : Pl} (h : doP p g m o = (t, 0, p')) : (useA o.code = true → upB m o.a = true) ∧ (useB o.code = true → upB m o.b = true) := by
  obtain ⟨c, a, b, u, s⟩ := o
  have no : ∀ {Q : Prop}, noP p = (t, 0, p') → Q := fun h => by
    unfold noP at h
    simp at h
  have one : ∀ {cond : Bool} {x : Int × Int × Pl}, (if (upB m a && cond) = true then x else noP p) = (t, 0, p') → upB m a = true := fun {cond x} h => by
    by_cases hu : (upB m a && cond) = true
    · simp only [Bool.and_eq_true] at hu; exact hu.1
    · rw [if_neg hu] at h; exact no h
  have two : ∀ {cond : Bool} {x : Int × Int × Pl}, (if (upB m a && (upB m b && cond)) = true then x else noP p) = (t, 0, p') → upB m b = true := fun {cond x} h => by
    by_cases hu : (upB m a && (upB m b && cond)) = true
    · simp only [Bool.and_eq_true] at hu; exact hu.2.1
    · rw [if_neg hu] at h; exact no h
  simp only
  constructor
  · intro hc
    simp only [useA, Bool.and_eq_true, decide_eq_true_eq] at hc
    rcases (by omega : c = 4 ∨ c = 5 ∨ c = 6 ∨ c = 7 ∨ c = 8 ∨ c = 9 ∨ c = 10 ∨ c = 11) with e | e | e | e | e | e | e | e
    · subst e; exact one (cond := upB m b) h
    · subst e; exact one (cond := true) (x := mkP p ⟨5, 0, 0, 0, emptyS, mdP m a, 0⟩) (by rw [Bool.and_true]; exact h)
    all_goals (subst e; exact one h)
  · intro hc
    simp only [useB, Bool.or_eq_true, Bool.and_eq_true, decide_eq_true_eq, beq_iff_eq] at hc
    rcases (by omega : c = 4 ∨ c = 9 ∨ c = 10 ∨ c = 11) with e | e | e | e
    · subst e; exact two (cond := true) (x := mkP p ⟨4, 0, 0, 0, emptyS, mdP m a, mdP m b⟩) (by rw [Bool.and_true]; exact h)
    all_goals (subst e; exact two h)
end Go.Proofs.YtjpkeoenajlmeaaDoor
namespace Go.Proofs.YtjpkeoenajlmeaaDoor
set_option linter.unusedVariables false

theorem runP_step (p : Pl) (g m : List Int) (o : OpP) (l : List OpP) : runP p g m (o :: l) = if (doP p g m o).2.1 ≠ 0 then (m, (doP p g m o).2.1, (doP p g m o).2.2) else runP (doP p g m o).2.2 g (m ++ [(doP p g m o).1]) l := rfl
theorem run_again {q : Pl} {g : List Int} {o : OpP} {t : Int} : ∀ (l : List OpP) (p : Pl) (m m' : List Int), runP p g m l = (m', 0, q) → doP q g m' o = (t, 0, q) → runP p g m (l ++ [o]) = (m' ++ [t], 0, q)
  | [], p, m, m', h, hd => by
    simp only [runP] at h
    cases h
    rw [List.nil_append, runP_step, if_neg (by rw [hd]; simp), hd]
    rfl
  | x :: l, p, m, m', h, hd => by
    rw [runP_step] at h
    by_cases he : (doP p g m x).2.1 ≠ 0
    · rw [if_pos he] at h
      have h2 := congrArg (fun x : List Int × Int × Pl => x.2.1) h
      exact absurd h2 he
    · rw [if_neg he] at h
      rw [List.cons_append, runP_step, if_neg he]
      exact run_again l _ _ _ h hd
/-- Each operation of a run that makes all. -/
def EachP (P : Pl) (g M : List Int) (l : List OpP) (k : Nat) : Prop :=
  ∀ i, i < l.length → ∃ q q' e t, Ok q ∧ doP q g (M.take (k + i)) (l.getD i zeroO) = (t, 0, q') ∧ P = q' ++ e ∧ (∀ x ∈ M.take (k + i), inP q x = true) ∧ M.getD (k + i) 0 = t ∧ (M.take (k + i)).length = k + i
theorem run_each {g : List Int} {M : List Int} {P : Pl} : ∀ (l : List OpP) (p : Pl) (m : List Int), Ok p → (∀ x ∈ g, inP p x = true) → (∀ x ∈ m, Der p (Reach p g) x) → runP p g m l = (M, 0, P) →
    Ok P ∧ (∃ e, P = p ++ e) ∧ (∃ made, M = m ++ made) ∧ M.length = m.length + l.length ∧ EachP P g M l m.length
  | [], p, m, hp, hg, hm, h => by
    simp only [runP] at h
    cases h
    exact ⟨hp, ⟨[], by simp⟩, ⟨[], by simp⟩, by simp, fun i hi => by simp at hi⟩
  | o :: l, p, m, hp, hg, hm, h => by
    rw [runP_step] at h
    by_cases he : (doP p g m o).2.1 ≠ 0
    · rw [if_pos he] at h
      have h2 := congrArg (fun x : List Int × Int × Pl => x.2.1) h
      exact absurd h2 he
    · rw [if_neg he] at h
      obtain ⟨e1, h1⟩ := (doP_out p g m o).1
      have hok : Ok (doP p g m o).2.2 := (doP_out p g m o).2 hp
      have hz : (doP p g m o).2.1 = 0 := by omega
      have hS : ∀ t, Reach p g t → inP p t = true ∧ Reach (p ++ e1) g t := fun t h => ⟨Reach.inp hp hg h, (reach_ext hp hg e1).2 h⟩
      obtain ⟨k1, ⟨e2, k2⟩, ⟨made, k3⟩, k4, k5⟩ := run_each l _ (m ++ [(doP p g m o).1]) hok (fun x hx => by rw [h1]; exact inP_le (hg x hx) (by simp)) (fun x hx => by
        rcases List.mem_append.1 hx with hx | hx
        · rw [h1]; exact der_ext hS (hm x hx)
        · rw [List.mem_singleton.1 hx]; exact do_sound hp hg hm hz) h
      have hM : M = m ++ ((doP p g m o).1 :: made) := by rw [k3, List.append_assoc]; rfl
      refine ⟨k1, ⟨e1 ++ e2, by rw [k2, h1, List.append_assoc]⟩, ⟨_, hM⟩, by rw [k4]; simp; omega, fun i hi => ?_⟩
      have hl : M.length = m.length + (l.length + 1) := by rw [k4]; simp; omega
      cases i with
      | zero =>
        have ht : M.take (m.length + 0) = m := by rw [hM]; simp
        refine ⟨p, (doP p g m o).2.2, e2, (doP p g m o).1, hp, ?_, k2, ?_, ?_, by rw [ht]; rfl⟩
        · rw [ht]
          show doP p g m o = ((doP p g m o).1, 0, (doP p g m o).2.2)
          rw [← hz]
        · rw [ht]; exact fun x hx => der_in (fun _ h => Reach.inp hp hg h) (hm x hx)
        · rw [hM, List.getD_eq_getElem?_getD, List.getElem?_append_right (by omega)]
          simp
      | succ i =>
        simp only [List.length_cons] at hi
        obtain ⟨q, q', e, t, a1, a2, a3, a4, a5, a6⟩ := k5 i (by omega)
        have hn : (m ++ [(doP p g m o).1]).length + i = m.length + (i + 1) := by simp; omega
        rw [hn] at a2 a4 a5 a6
        exact ⟨q, q', e, t, a1, by simpa using a2, a3, a4, a5, a6⟩
theorem keepP_len (f : Nat → Bool) : ∀ (r : List OpP) (i : Nat) (now : Nat → Int) (kept : List OpP), (keepP f r i now kept).length ≤ kept.length + r.length ∧ kept.length ≤ (keepP f r i now kept).length
  | [], _, _, kept => by simp [keepP]
  | o :: r, i, now, kept => by
    unfold keepP
    split
    · have := keepP_len f r (i + 1) (fun x => if x = i then (kept.length : Int) else now x) (kept ++ [movP o i now])
      simp only [List.length_append, List.length_cons, List.length_nil] at this ⊢
      omega
    · have := keepP_len f r (i + 1) now kept
      simp only [List.length_cons]
      omega
/-- What is kept runs on, and makes what it made. -/
theorem keep_run {P : Pl} (hP : Ok P) {g M : List Int} {l : List OpP} (hlen : M.length = l.length) (hE : EachP P g M l 0) {f : Nat → Bool}
    (hcl : ∀ j, j < l.length → f j = true → (refA (l.getD j zeroO) j = true → f (l.getD j zeroO).a.toNat = true) ∧ (refB (l.getD j zeroO) j = true → f (l.getD j zeroO).b.toNat = true)) (hlast : f (l.length - 1) = true) :
    ∀ (r : List OpP) (i : Nat) (now : Nat → Int) (kept : List OpP) (m' : List Int), i + r.length = l.length → (∀ j, j < r.length → l.getD (i + j) zeroO = r.getD j zeroO) →
      runP P g [] kept = (m', 0, P) → m'.length = kept.length → (∀ x, x < i → f x = true → (0 ≤ now x ∧ now x < (kept.length : Int)) ∧ m'.getD (now x).toNat 0 = M.getD x 0) →
      ∃ m2, runP P g [] (keepP f r i now kept) = (m2, 0, P) ∧ m2.length = (keepP f r i now kept).length ∧ (r ≠ [] → kept.length < (keepP f r i now kept).length ∧ m2.getD (m2.length - 1) 0 = M.getD (l.length - 1) 0)
  | [], i, now, kept, m', hi, hr, h, hm, hn => ⟨m', h, hm, fun h => absurd rfl h⟩
  | o :: r, i, now, kept, m', hi, hr, h, hm, hn => by
    simp only [List.length_cons] at hi
    have ho : l.getD i zeroO = o := by have := hr 0 (by simp); simpa using this
    have hr' : ∀ j, j < r.length → l.getD (i + 1 + j) zeroO = r.getD j zeroO := fun j hj => by
      have := hr (j + 1) (by simp; omega)
      rw [show i + 1 + j = i + (j + 1) by omega, this]
      simp
    unfold keepP
    by_cases hf : f i = true
    · rw [if_pos hf]
      obtain ⟨q, q', e, t, a1, a2, a3, a4, a5, a6⟩ := hE i (by omega)
      rw [Nat.zero_add] at a2 a4 a5 a6
      rw [ho] at a2
      obtain ⟨c1, c2⟩ := hcl i (by omega) hf
      rw [ho] at c1 c2
      obtain ⟨u1, u2⟩ := do_used a2
      have hup : ∀ j : Int, upB (M.take i) j = true → 0 ≤ j ∧ j < (i : Int) := fun j hj => by
        simp only [upB, Bool.and_eq_true, decide_eq_true_eq, a6] at hj; exact hj
      have hmv : ∀ j : Int, 0 ≤ j ∧ j < (i : Int) → f j.toNat = true → upB m' (now j.toNat) = true ∧ mdP m' (now j.toNat) = mdP (M.take i) j := fun j hj hfj => by
        obtain ⟨⟨b1, b2⟩, b3⟩ := hn j.toNat (by omega) hfj
        refine ⟨by simp only [upB, Bool.and_eq_true, decide_eq_true_eq]; omega, ?_⟩
        rw [md_take (by simp only [upB, Bool.and_eq_true, decide_eq_true_eq, a6]; exact hj)]
        exact b3
      have hd : doP P g m' (movP o i now) = (t, 0, P) := by
        refine do_again a1 hP a2 a3 a4 rfl rfl rfl ?_ ?_ ?_
        · intro hu
          show movA o i now = o.a
          unfold movA
          rw [if_neg (by unfold refA; rw [hu]; simp)]
        · intro hu hb
          have hj := hup _ hb
          have hrf : refA o i = true := by unfold refA; rw [hu]; simp only [Bool.true_and, Bool.and_eq_true, decide_eq_true_eq]; exact hj
          show upB m' (movA o i now) = true ∧ mdP m' (movA o i now) = _
          unfold movA
          rw [if_pos hrf]
          exact hmv _ hj (c1 hrf)
        · intro hu hb
          have hj := hup _ hb
          have hrf : refB o i = true := by unfold refB; rw [hu]; simp only [Bool.true_and, Bool.and_eq_true, decide_eq_true_eq]; exact hj
          show upB m' (movB o i now) = true ∧ mdP m' (movB o i now) = _
          unfold movB
          rw [if_pos hrf]
          exact hmv _ hj (c2 hrf)
      have h2 := run_again kept P [] m' h hd
      obtain ⟨m2, k1, k2, k3⟩ := keep_run hP hlen hE hcl hlast r (i + 1) (fun x => if x = i then (kept.length : Int) else now x) (kept ++ [movP o i now]) (m' ++ [t]) (by omega) hr' h2 (by simp [hm]) (fun x hx hfx => by
        by_cases e : x = i
        · subst e
          rw [if_pos rfl]
          refine ⟨by simp; omega, ?_⟩
          rw [show ((kept.length : Int)).toNat = kept.length by omega, a5, ← hm, List.getD_eq_getElem?_getD, List.getElem?_append_right (by omega)]
          simp
        · obtain ⟨⟨b1, b2⟩, b3⟩ := hn x (by omega) hfx
          rw [if_neg e]
          refine ⟨by simp; omega, ?_⟩
          rw [← b3, List.getD_eq_getElem?_getD, List.getElem?_append_left (by omega), ← List.getD_eq_getElem?_getD])
      refine ⟨m2, k1, k2, fun _ => ?_⟩
      by_cases hz : r = []
      · subst hz
        simp only [List.length_nil] at hi
        simp only [keepP] at k1 k2 ⊢
        rw [h2] at k1
        cases k1
        refine ⟨by simp, ?_⟩
        rw [show l.length - 1 = i by omega, a5, List.getD_eq_getElem?_getD, List.getElem?_append_right (by simp)]
        simp
      · obtain ⟨b1, b2⟩ := k3 hz
        exact ⟨by simp only [List.length_append, List.length_cons, List.length_nil] at b1; omega, b2⟩
    · rw [if_neg hf]
      obtain ⟨m2, k1, k2, k3⟩ := keep_run hP hlen hE hcl hlast r (i + 1) now kept m' (by omega) hr' h hm (fun x hx hfx => hn x (by
        by_cases e : x = i
        · subst e; exact absurd hfx hf
        · omega) hfx)
      refine ⟨m2, k1, k2, fun _ => k3 (fun hz => ?_)⟩
      subst hz
      simp only [List.length_nil] at hi
      rw [show l.length - 1 = i by omega] at hlast
      exact hf hlast
/-- What Trim leaves makes what was made. -/
theorem trim_eval {p : Pl} (hp : Ok p) {g : List Int} (hg : ∀ x ∈ g, inP p x = true) {l : List OpP} (h0 : (folP p g l).2.1 = 0) :
    evlP (folP (folP p g l).2.2 g (trimP l)) = ((evlP (folP p g l)).1, 0, 0) ∧ (folP (folP p g l).2.2 g (trimP l)).2.2 = (folP p g l).2.2 := by
  unfold folP at h0 ⊢
  by_cases h1 : 256 < l.length
  · rw [if_pos h1] at h0; cases h0
  rw [if_neg h1] at h0 ⊢
  by_cases h2 : l.length = 0
  · rw [if_pos h2] at h0; cases h0
  rw [if_neg h2] at h0 ⊢
  generalize hR : runP p g [] l = R at h0 ⊢
  obtain ⟨M, er, P⟩ := R
  simp only at h0
  subst h0
  simp only
  obtain ⟨k1, _, _, k4, k5⟩ := run_each l p [] hp hg (by simp) hR
  simp only [List.length_nil, Nat.zero_add] at k4 k5
  have hne : l ≠ [] := by rintro rfl; exact h2 rfl
  have hcl := fun j (hj : j < l.length) => markF_closed l l.length (fun x => x == l.length - 1) j hj
  obtain ⟨m2, r1, r2, r3⟩ := keep_run k1 k4 k5 hcl (part_last hne) l 0 (fun _ => 0) [] [] (by simp) (fun j _ => by simp) rfl rfl (fun x hx => by omega)
  obtain ⟨r4, r5⟩ := r3 hne
  have hkl := (keepP_len (markF l l.length fun x => x == l.length - 1) l 0 (fun _ => 0) []).1
  have ht : trimP l = keepP (markF l l.length fun x => x == l.length - 1) l 0 (fun _ => 0) [] := by unfold trimP partF; rw [if_neg hne]
  rw [ht]
  simp only [List.length_nil, Nat.zero_add] at hkl r4
  rw [if_neg (by omega), if_neg (by omega), r1]
  refine ⟨?_, rfl⟩
  unfold evlP
  simp only [ne_eq, not_true_eq_false, if_false]
  rw [r5, k4]
end Go.Proofs.YtjpkeoenajlmeaaDoor
namespace Go.Proofs.YtjpkeoenajlmeaaDoor
set_option linter.unusedVariables false

def idxP (g : List Int) (t : Int) : Int := match g.findIdx? (fun x => decide (x = t)) with | some i => (i : Int) | none => -1
/-- What putting answers. -/
def putP (n : Nd) (a b : Int) : OpP :=
  if n.kind = 1 then ⟨1, n.frm, 0, 0, emptyS⟩ else if n.kind = 2 then ⟨2, 0, 0, n.num, emptyS⟩ else if n.kind = 3 then ⟨3, 0, 0, 0, n.text⟩
  else if n.kind = 4 then ⟨4, a, b, 0, emptyS⟩ else if n.kind = 5 then ⟨5, a, 0, 0, emptyS⟩ else if n.kind = 7 then ⟨9, a, b, 0, emptyS⟩
  else if n.kind = 8 then ⟨10, a, b, n.to, emptyS⟩ else ⟨11, a, b, n.frm, emptyS⟩
/-- What saying answers. -/
def sayP (p : Pl) (g : List Int) (st : St) : OpP :=
  if st.r = 0 then ⟨0, idxP g st.t, 0, 0, emptyS⟩ else if st.r = 1 then ⟨6, st.a, 0, 0, emptyS⟩ else if st.r = 2 then ⟨7, st.a, 0, 0, emptyS⟩ else if st.r = 3 then ⟨8, st.a, 0, 0, emptyS⟩
  else putP (atP p st.t).1 st.a st.b
theorem mk_there {p : Pl} (hp : Ok p) {t : Int} (h : inP p t = true) : mkP p (atP p t).1 = (t, 0, p) ∧ shp (atP p t).1 = 0 := by
  simp only [inP, Bool.and_eq_true, decide_eq_true_eq] at h
  obtain ⟨i, rfl⟩ : ∃ i : Nat, t = (i : Int) + 1 := ⟨(t - 1).toNat, by omega⟩
  have hi : i < p.length := by omega
  rw [getD_at hi]
  have hn : numP p (p[i]).1 = i + 1 := hp.first i hi
  have hE : errP p (p[i]).1 = 0 := hp.err (by omega)
  refine ⟨?_, ?_⟩
  · unfold mkP
    rw [if_neg (fun h => h hE), if_pos (by omega), hn]
    congr 1
  · unfold errP at hE
    split at hE
    · rename_i h1; exact absurd hE h1
    · rename_i h1; simpa using h1
theorem plain_nd {n : Nd} (h : shp n = 0) : (1 ≤ n.kind ∧ n.kind ≤ 9) ∧ (namedB n.kind = false → n.frm = 0) ∧ (twoB n.kind = false → n.to = 0) ∧ (n.kind ≠ 2 → n.num = 0) ∧ (n.kind ≠ 3 → n.text = emptyS) ∧ (kidsN n.kind = 0 → n.a = 0) ∧ (kidsN n.kind ≠ 2 → n.b = 0) ∧ (namedB n.kind = true → 0 ≤ n.frm ∧ n.frm < 16) ∧ (twoB n.kind = true → 0 ≤ n.to ∧ n.to < 16) := by
  have hk := kids_of_plain h
  unfold shp at h
  by_cases hp : plainB n = false
  · rw [if_pos hp] at h; cases h
  · rw [if_neg hp] at h
    have hp' : plainB n = true := by simpa using hp
    simp only [plainB, Bool.and_eq_true, Bool.or_eq_true, decide_eq_true_eq, beq_iff_eq] at hp'
    obtain ⟨⟨⟨⟨⟨⟨⟨h1, h2⟩, h3⟩, h4⟩, h5⟩, h6⟩, _⟩, _⟩ := hp'
    split at h
    · cases h
    · rename_i hb
      simp only [Bool.or_eq_true, Bool.and_eq_true, not_or, not_and] at hb
      refine ⟨⟨h1, h2⟩, fun e => by rcases h3 with h | h; rw [e] at h; cases h; exact h, fun e => by rcases h4 with h | h; rw [e] at h; cases h; exact h, fun e => by rcases h5 with h | h; exact absurd h e; exact h, fun e => ?_, hk.1, hk.2, fun e => ?_, fun e => ?_⟩
      · rcases h6 with h | h
        · exact absurd h e
        · by_cases hx : n.text = emptyS
          · exact hx
          · have := ne_bytes hx
            rw [List.isEmpty_iff.1 h] at this
            have h2 : (([] : List UInt8) == emptyS.toList) = true := by rw [Lib.toList_data]; rfl
            rw [h2] at this
            cases this
      · have := hb.1 e
        simp only [Bool.not_eq_true', Bool.not_eq_false] at this
        simpa [nameB] using this
      · have := hb.2 e
        simp only [Bool.not_eq_true', Bool.not_eq_false] at this
        simpa [nameB] using this.1
theorem said_up {ahead : List St} {i : Int} (h : saidP ahead i ≠ 0) : upB (ahead.map (·.t)) i = true ∧ mdP (ahead.map (·.t)) i = saidP ahead i := by
  unfold saidP at h ⊢
  split at h
  · exact absurd rfl h
  · rename_i h1
    rw [if_neg h1]
    refine ⟨by simp only [upB, List.length_map, Bool.and_eq_true, decide_eq_true_eq]; omega, ?_⟩
    unfold mdP
    rw [List.getD_eq_getElem?_getD, List.getD_eq_getElem?_getD, List.getElem?_map, List.getElem?_eq_getElem (by omega)]
    rfl
theorem say_do {p : Pl} (hp : Ok p) {g : List Int} {ahead : List St} {st : St} (hf : followsP p g ahead st = true) : doP p g (ahead.map (·.t)) (sayP p g st) = (st.t, 0, p) := by
  obtain ⟨r, a, b, t⟩ := st
  unfold followsP at hf
  rw [Bool.and_eq_true] at hf
  obtain ⟨hin, hf⟩ := hf
  simp only at hin hf
  have ht0 := in_ne hin
  obtain ⟨hmk, hsh⟩ := mk_there hp hin
  obtain ⟨hk, q1, q2, q3, q4, q5, q6, q7, q8⟩ := plain_nd hsh
  by_cases r0 : r = 0
  · subst r0
    rw [if_pos rfl] at hf
    simp only [Bool.and_eq_true, decide_eq_true_eq] at hf
    have hx : sayP p g ⟨0, a, b, t⟩ = ⟨0, idxP g t, 0, 0, emptyS⟩ := rfl
    rw [hx]
    unfold idxP
    cases hi : g.findIdx? (fun x => decide (x = t)) with
    | none => exact absurd hf.1 (fun h => by have := List.findIdx?_eq_none_iff.1 hi t h; simp at this)
    | some i =>
      obtain ⟨hl, h1, _⟩ := List.findIdx?_eq_some_iff_getElem.1 hi
      have hu : upB g (i : Int) = true := by simp only [upB, Bool.and_eq_true, decide_eq_true_eq]; omega
      show doP p g _ ⟨0, (i : Int), 0, 0, emptyS⟩ = _
      unfold doP
      rw [if_pos rfl, if_pos hu]
      unfold mdP
      rw [show ((i : Int)).toNat = i by omega, List.getD_eq_getElem?_getD, List.getElem?_eq_getElem hl]
      simp at h1
      rw [Option.getD_some, h1]
  rw [if_neg r0] at hf
  by_cases r3 : r = 1 ∨ r = 2 ∨ r = 3
  · rw [if_pos r3] at hf
    simp only [Bool.and_eq_true, beq_iff_eq] at hf
    obtain ⟨hf1, _⟩ := hf
    have hs : saidP ahead a ≠ 0 := fun e => by
      rw [e, atP_zero] at hf1
      have : takeN r zeroM.1 = 0 := by unfold takeN; rfl
      rw [this] at hf1; exact ht0 hf1.symm
    obtain ⟨u1, u2⟩ := said_up hs
    have hn : ndP p (ahead.map (·.t)) a = (atP p (saidP ahead a)).1 := by unfold ndP; rw [u2]
    generalize (atP p (saidP ahead a)).1 = n at *
    unfold takeN at hf1
    rcases r3 with rfl | rfl | rfl
    · by_cases k4 : n.kind = 4
      · rw [if_pos k4, if_pos rfl] at hf1
        have hd : doP p g (ahead.map (·.t)) ⟨6, a, 0, 0, emptyS⟩ = if (upB (ahead.map (·.t)) a && (ndP p (ahead.map (·.t)) a).kind == 4) = true then ((ndP p (ahead.map (·.t)) a).a, 0, p) else noP p := rfl
        show doP p g _ ⟨6, a, 0, 0, emptyS⟩ = _
        rw [hd, hn, if_pos (by rw [u1, k4]; rfl), hf1]
      · rw [if_neg k4] at hf1
        split at hf1
        · rw [if_neg (by decide)] at hf1; exact absurd hf1.symm ht0
        · exact absurd hf1.symm ht0
    · by_cases k4 : n.kind = 4
      · rw [if_pos k4, if_neg (by decide), if_pos rfl] at hf1
        have hd : doP p g (ahead.map (·.t)) ⟨7, a, 0, 0, emptyS⟩ = if (upB (ahead.map (·.t)) a && (ndP p (ahead.map (·.t)) a).kind == 4) = true then ((ndP p (ahead.map (·.t)) a).b, 0, p) else noP p := rfl
        show doP p g _ ⟨7, a, 0, 0, emptyS⟩ = _
        rw [hd, hn, if_pos (by rw [u1, k4]; rfl), hf1]
      · rw [if_neg k4] at hf1
        split at hf1
        · rw [if_neg (by decide)] at hf1; exact absurd hf1.symm ht0
        · exact absurd hf1.symm ht0
    · by_cases k4 : n.kind = 4
      · rw [if_pos k4, if_neg (by decide), if_neg (by decide)] at hf1; exact absurd hf1.symm ht0
      · rw [if_neg k4] at hf1
        split at hf1
        · rename_i hsw
          rw [if_pos rfl] at hf1
          have hd : doP p g (ahead.map (·.t)) ⟨8, a, 0, 0, emptyS⟩ = if (upB (ahead.map (·.t)) a && showB (ndP p (ahead.map (·.t)) a).kind) = true then ((ndP p (ahead.map (·.t)) a).a, 0, p) else noP p := rfl
          show doP p g _ ⟨8, a, 0, 0, emptyS⟩ = _
          rw [hd, hn, if_pos (by rw [u1, hsw]; rfl), hf1]
        · exact absurd hf1.symm ht0
  rw [if_neg r3] at hf
  have hsay : sayP p g ⟨r, a, b, t⟩ = putP (atP p t).1 a b := by
    unfold sayP
    rw [if_neg r0, if_neg (fun h => r3 (.inl h)), if_neg (fun h => r3 (.inr (.inl h))), if_neg (fun h => r3 (.inr (.inr h)))]
  rw [hsay]
  by_cases r4 : r = 4
  · rw [if_pos r4] at hf
    simp only [Bool.and_eq_true] at hf
    have hfr := hf.1
    generalize (atP p t).1 = n at *
    obtain ⟨kk, ff, tt, uu, ss, xa, xb⟩ := n
    simp only at hfr hk q1 q2 q3 q4 q5 q6
    simp only [freeB, Bool.or_eq_true, beq_iff_eq] at hfr
    rcases hfr with (e | e) | e
    · subst e
      obtain rfl := q2 rfl; obtain rfl := q3 (by decide); obtain rfl := q4 (by decide); obtain rfl := q5 rfl; obtain rfl := q6 (by decide)
      exact hmk
    · subst e
      obtain rfl := q1 rfl; obtain rfl := q2 rfl; obtain rfl := q4 (by decide); obtain rfl := q5 rfl; obtain rfl := q6 (by decide)
      exact hmk
    · subst e
      obtain rfl := q1 rfl; obtain rfl := q2 rfl; obtain rfl := q3 (by decide); obtain rfl := q5 rfl; obtain rfl := q6 (by decide)
      exact hmk
  rw [if_neg r4] at hf
  by_cases r5 : r = 5
  · rw [if_pos r5] at hf
    simp only [Bool.and_eq_true, beq_iff_eq] at hf
    obtain ⟨hp1, hp2, hp3⟩ := hf
    have hkeyN := fun (h : keyP p (atP p t).1 ≠ 0) => key_kind h
    have hka := fun (h : 1 ≤ kidsN (atP p t).1.kind) => in_ne (kidA hp hin h)
    have hkb := fun (h : kidsN (atP p t).1.kind = 2) => in_ne (kidB hp hin h)
    generalize (atP p t).1 = n at *
    obtain ⟨kk, ff, tt, uu, ss, xa, xb⟩ := n
    simp only at hk q1 q2 q3 q4 q5 q6 q7 q8 hka hkb
    have hpp : kk = 4 ∨ kk = 5 ∨ kk = 7 ∨ kk = 8 ∨ kk = 9 := by
      unfold partP at hp1
      simp only at hp1
      split at hp1
      · rename_i h; exact .inl h
      · split at hp1
        · rename_i h; exact .inr (.inl h)
        · split at hp1
          · rename_i h; simp only [showB, Bool.or_eq_true, beq_iff_eq] at h; omega
          · cases hp1
    rcases hpp with e | e | e | e | e
    · subst e
      have hb0 := hkb rfl
      have hpt : partP p ⟨4, ff, tt, uu, ss, xa, xb⟩ = (xa, xb, true) := rfl
      rw [hpt] at hp2 hp3
      simp only at hp2 hp3
      rw [if_neg hb0, beq_iff_eq] at hp3
      obtain ⟨u1, u2⟩ := said_up (ahead := ahead) (i := a) (by rw [hp2]; exact hka (by decide))
      obtain ⟨v1, v2⟩ := said_up (ahead := ahead) (i := b) (by rw [hp3]; exact hb0)
      obtain rfl := q1 rfl; obtain rfl := q2 rfl; obtain rfl := q3 (by decide); obtain rfl := q4 (by decide)
      show doP p g _ ⟨4, a, b, 0, emptyS⟩ = _
      have hd : doP p g (ahead.map (·.t)) ⟨4, a, b, 0, emptyS⟩ = if (upB (ahead.map (·.t)) a && upB (ahead.map (·.t)) b) = true then mkP p ⟨4, 0, 0, 0, emptyS, mdP (ahead.map (·.t)) a, mdP (ahead.map (·.t)) b⟩ else noP p := rfl
      rw [hd, if_pos (by rw [u1, v1]; rfl), u2, v2, hp2, hp3]
      exact hmk
    · subst e
      have hpt : partP p ⟨5, ff, tt, uu, ss, xa, xb⟩ = (xa, 0, true) := rfl
      rw [hpt] at hp2
      simp only at hp2
      obtain ⟨u1, u2⟩ := said_up (ahead := ahead) (i := a) (by rw [hp2]; exact hka (by decide))
      obtain rfl := q1 rfl; obtain rfl := q2 rfl; obtain rfl := q3 (by decide); obtain rfl := q4 (by decide); obtain rfl := q6 (by decide)
      show doP p g _ ⟨5, a, 0, 0, emptyS⟩ = _
      have hd : doP p g (ahead.map (·.t)) ⟨5, a, 0, 0, emptyS⟩ = if upB (ahead.map (·.t)) a = true then mkP p ⟨5, 0, 0, 0, emptyS, mdP (ahead.map (·.t)) a, 0⟩ else noP p := rfl
      rw [hd, if_pos u1, u2, hp2]
      exact hmk
    · subst e
      have hpt : partP p ⟨7, ff, tt, uu, ss, xa, xb⟩ = (xa, (keyP p ⟨7, ff, tt, uu, ss, xa, xb⟩ : Int), decide (keyP p ⟨7, ff, tt, uu, ss, xa, xb⟩ ≠ 0)) := rfl
      rw [hpt] at hp1 hp2 hp3
      simp only [decide_eq_true_eq] at hp1 hp2 hp3
      have hk2 := hkeyN hp1
      have hk0 : ((keyP p ⟨7, ff, tt, uu, ss, xa, xb⟩ : Nat) : Int) ≠ 0 := by omega
      rw [if_neg hk0, beq_iff_eq] at hp3
      obtain ⟨u1, u2⟩ := said_up (ahead := ahead) (i := a) (by rw [hp2]; exact hka (by decide))
      obtain ⟨v1, v2⟩ := said_up (ahead := ahead) (i := b) (by rw [hp3]; exact hk0)
      have hnd : ndP p (ahead.map (·.t)) b = keyNd ff := by unfold ndP; rw [v2, hp3, hk2]; rfl
      have hq7 := q7 rfl
      have hq8 := fun h => q8 h
      obtain rfl := q2 rfl; obtain rfl := q3 (by decide); obtain rfl := q4 (by decide); obtain rfl := q6 (by decide)
      show doP p g _ ⟨9, a, b, 0, emptyS⟩ = _
      have hd : doP p g (ahead.map (·.t)) ⟨9, a, b, 0, emptyS⟩ = if (upB (ahead.map (·.t)) a && (upB (ahead.map (·.t)) b && (ndP p (ahead.map (·.t)) b).kind == 6)) = true then mkP p ⟨7, (ndP p (ahead.map (·.t)) b).frm, 0, 0, emptyS, mdP (ahead.map (·.t)) a, 0⟩ else noP p := rfl
      rw [hd, hnd, if_pos (by rw [u1, v1]; rfl), u2, hp2]
      exact hmk
    · subst e
      have hpt : partP p ⟨8, ff, tt, uu, ss, xa, xb⟩ = (xa, (keyP p ⟨8, ff, tt, uu, ss, xa, xb⟩ : Int), decide (keyP p ⟨8, ff, tt, uu, ss, xa, xb⟩ ≠ 0)) := rfl
      rw [hpt] at hp1 hp2 hp3
      simp only [decide_eq_true_eq] at hp1 hp2 hp3
      have hk2 := hkeyN hp1
      have hk0 : ((keyP p ⟨8, ff, tt, uu, ss, xa, xb⟩ : Nat) : Int) ≠ 0 := by omega
      rw [if_neg hk0, beq_iff_eq] at hp3
      obtain ⟨u1, u2⟩ := said_up (ahead := ahead) (i := a) (by rw [hp2]; exact hka (by decide))
      obtain ⟨v1, v2⟩ := said_up (ahead := ahead) (i := b) (by rw [hp3]; exact hk0)
      have hnd : ndP p (ahead.map (·.t)) b = keyNd ff := by unfold ndP; rw [v2, hp3, hk2]; rfl
      have hq7 := q7 rfl
      have hq8 := fun h => q8 h
      obtain rfl := q3 (by decide); obtain rfl := q4 (by decide); obtain rfl := q6 (by decide)
      show doP p g _ ⟨10, a, b, tt, emptyS⟩ = _
      have hd : doP p g (ahead.map (·.t)) ⟨10, a, b, tt, emptyS⟩ = if (upB (ahead.map (·.t)) a && (upB (ahead.map (·.t)) b && (ndP p (ahead.map (·.t)) b).kind == 6)) = true then mkP p ⟨8, (ndP p (ahead.map (·.t)) b).frm, nmP tt, 0, emptyS, mdP (ahead.map (·.t)) a, 0⟩ else noP p := rfl
      rw [hd, hnd, if_pos (by rw [u1, v1]; rfl), u2, hp2]
      rw [show nmP tt = tt from by unfold nmP; rw [if_pos (by have := hq8 rfl; omega)]]
      exact hmk
    · subst e
      have hpt : partP p ⟨9, ff, tt, uu, ss, xa, xb⟩ = (xa, (keyP p ⟨9, ff, tt, uu, ss, xa, xb⟩ : Int), decide (keyP p ⟨9, ff, tt, uu, ss, xa, xb⟩ ≠ 0)) := rfl
      rw [hpt] at hp1 hp2 hp3
      simp only [decide_eq_true_eq] at hp1 hp2 hp3
      have hk2 := hkeyN hp1
      have hk0 : ((keyP p ⟨9, ff, tt, uu, ss, xa, xb⟩ : Nat) : Int) ≠ 0 := by omega
      rw [if_neg hk0, beq_iff_eq] at hp3
      obtain ⟨u1, u2⟩ := said_up (ahead := ahead) (i := a) (by rw [hp2]; exact hka (by decide))
      obtain ⟨v1, v2⟩ := said_up (ahead := ahead) (i := b) (by rw [hp3]; exact hk0)
      have hnd : ndP p (ahead.map (·.t)) b = keyNd tt := by unfold ndP; rw [v2, hp3, hk2]; rfl
      have hq7 := q7 rfl
      have hq8 := fun h => q8 h
      obtain rfl := q3 (by decide); obtain rfl := q4 (by decide); obtain rfl := q6 (by decide)
      show doP p g _ ⟨11, a, b, ff, emptyS⟩ = _
      have hd : doP p g (ahead.map (·.t)) ⟨11, a, b, ff, emptyS⟩ = if (upB (ahead.map (·.t)) a && (upB (ahead.map (·.t)) b && (ndP p (ahead.map (·.t)) b).kind == 6)) = true then mkP p ⟨9, nmP ff, (ndP p (ahead.map (·.t)) b).frm, 0, emptyS, mdP (ahead.map (·.t)) a, 0⟩ else noP p := rfl
      rw [hd, hnd, if_pos (by rw [u1, v1]; rfl), u2, hp2]
      rw [show nmP ff = ff from by unfold nmP; rw [if_pos (by omega)]]
      exact hmk
  · rw [if_neg r5] at hf
    cases hf
/-- A proof's operations make its terms, and turn nothing. -/
theorem say_run {p : Pl} (hp : Ok p) {g : List Int} {L : List St} (hf : ∀ i (hi : i < L.length), followsP p g (L.take i) L[i] = true) : ∀ i, i ≤ L.length → runP p g [] ((L.take i).map (sayP p g)) = ((L.take i).map (·.t), 0, p)
  | 0, _ => rfl
  | i + 1, hi => by
    have h := say_run hp hf i (by omega)
    have hs := say_do hp (hf i (by omega))
    rw [List.take_add_one, List.getElem?_eq_getElem (show i < L.length by omega)]
    simp only [Option.toList_some, List.map_append, List.map_cons, List.map_nil]
    exact run_again _ _ _ _ h hs
/-- What Eval answers of what For tells. -/
theorem say_eval {p : Pl} (hp : Ok p) {g : List Int} {L : List St} (hf : ∀ i (hi : i < L.length), followsP p g (L.take i) L[i] = true) (hn : L ≠ []) (hl : L.length ≤ 256) :
    folP p g (L.map (sayP p g)) = (L.map (·.t), 0, p) ∧ evlP (L.map (·.t), 0, p) = ((L.getLast hn).t, 0, 0) := by
  have h := say_run hp hf L.length (Nat.le_refl _)
  rw [List.take_length] at h
  have h0 : 0 < L.length := List.length_pos_iff.2 hn
  constructor
  · unfold folP
    rw [if_neg (by rw [List.length_map]; omega), if_neg (by rw [List.length_map]; omega)]
    exact h
  · unfold evlP
    simp only [ne_eq, not_true_eq_false, if_false, List.length_map]
    rw [List.getD_eq_getElem?_getD, List.getElem?_map, List.getElem?_eq_getElem (show L.length - 1 < L.length by omega), List.getLast_eq_getElem]
    rfl
end Go.Proofs.YtjpkeoenajlmeaaDoor
