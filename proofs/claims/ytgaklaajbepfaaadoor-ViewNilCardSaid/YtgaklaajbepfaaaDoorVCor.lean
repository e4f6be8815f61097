/-
  Which lists look alike: the closure that lays two terms side by side.
-/
import Derived.Test.YtgaklaajbepfaaaDoorVSame
namespace Go.Proofs.YtgaklaajbepfaaaDoor
open Go.RowKit Go.Maps Go.Shelf
set_option linter.unusedVariables false

/-- A correspondence of terms: one to one, and what stands in two that correspond corresponds. -/
structure Bij (p : Pl) (who : Int) (R : Int → Int → Prop) : Prop where
  fn : ∀ a b b', R a b → R a b' → b = b'
  inj : ∀ a a' b, R a b → R a' b → a = a'
  zero : R 0 0
  step : ∀ a b, R a b → (a = 0 ∧ b = 0) ∨ (inP p a = true ∧ inP p b = true ∧ sameB who (atP p a).1 (atP p b).1 = true ∧ R (atP p a).1.a (atP p b).1.a ∧ R (atP p a).1.b (atP p b).1.b)
/-- What corresponds so far. -/
structure Cor (p : Pl) (m n : Int → Option Int) : Prop where
  inv : ∀ a b, m a = some b ↔ n b = some a
  zero : m 0 = some 0
  ins : ∀ a b, m a = some b → (a = 0 ∧ b = 0) ∨ (inP p a = true ∧ inP p b = true)
def Closed (p : Pl) (who : Int) (m : Int → Option Int) (x y : Int) : Prop := (x = 0 ∧ y = 0) ∨ (sameB who (atP p x).1 (atP p y).1 = true ∧ m (atP p x).1.a = some (atP p y).1.a ∧ m (atP p x).1.b = some (atP p y).1.b)
theorem Closed.more {p : Pl} {who : Int} {m m' : Int → Option Int} {x y : Int} (h : Closed p who m x y) (hm : ∀ a b, m a = some b → m' a = some b) : Closed p who m' x y :=
  h.imp id fun ⟨h1, h2, h3⟩ => ⟨h1, hm _ _ h2, hm _ _ h3⟩
theorem Cor.start (p : Pl) : Cor p anew0 anew0 := by
  refine ⟨fun a b => ?_, rfl, fun a b h => ?_⟩
  · unfold anew0
    constructor
    · intro h
      split at h
      · rename_i e; rw [← Option.some.inj h, e]; rfl
      · cases h
    · intro h
      split at h
      · rename_i e; rw [← Option.some.inj h, e]; rfl
      · cases h
  · unfold anew0 at h
    split at h
    · rename_i e; exact .inl ⟨e, (Option.some.inj h).symm⟩
    · cases h
theorem Cor.put {p : Pl} {m n : Int → Option Int} (h : Cor p m n) {a b : Int} (ha : inP p a = true) (hb : inP p b = true) (h1 : m a = none) (h2 : n b = none) : Cor p (updO m a b) (updO n b a) := by
  refine ⟨fun x y => ?_, ?_, fun x y hxy => ?_⟩
  · unfold updO
    by_cases ex : x = a
    · subst ex
      rw [if_pos rfl]
      by_cases ey : y = b
      · subst ey; rw [if_pos rfl]; simp
      · rw [if_neg ey]
        constructor
        · intro e; exact absurd (Option.some.inj e).symm ey
        · intro e; rw [← h.inv] at e; rw [h1] at e; cases e
    · rw [if_neg ex]
      by_cases ey : y = b
      · subst ey
        rw [if_pos rfl]
        constructor
        · intro e; rw [h.inv] at e; rw [h2] at e; cases e
        · intro e; exact absurd (Option.some.inj e).symm ex
      · rw [if_neg ey]; exact h.inv x y
  · unfold updO
    rw [if_neg (fun e => by rw [← e, inP_zero] at ha; cases ha)]; exact h.zero
  · unfold updO at hxy
    by_cases ex : x = a
    · rw [if_pos ex] at hxy
      rw [ex, ← Option.some.inj hxy]; exact .inr ⟨ha, hb⟩
    · rw [if_neg ex] at hxy; exact h.ins x y hxy
/-- What laying two terms side by side tells. -/
def CorP (p : Pl) (who : Int) (m : Int → Option Int) (a b : Int) (r : Bool) (m' n' : Int → Option Int) : Prop :=
  (r = true → Cor p m' n' ∧ (∀ x y, m x = some y → m' x = some y) ∧ m' a = some b ∧ (∀ x y, m' x = some y → m x = some y ∨ Closed p who m' x y) ∧ (∀ R, Bij p who R → (∀ x y, m x = some y → R x y) → R a b → ∀ x y, m' x = some y → R x y)) ∧
  (r = false → ∀ R, Bij p who R → (∀ x y, m x = some y → R x y) → ¬ R a b)
section
variable {p : Pl} {who : Int} {m n : Int → Option Int} {a b : Int}
theorem corP_met {o : Int} (h : Cor p m n) (hm : m a = some o) : CorP p who m a b (o == b) m n := by
  refine ⟨fun hr => ?_, fun hr R hR hs hab => ?_⟩
  · have e : o = b := by simpa using hr
    subst e
    exact ⟨h, fun _ _ h => h, hm, fun _ _ h => .inl h, fun R _ hs _ x y hxy => hs x y hxy⟩
  · have := hR.fn a b o hab (hs a o hm)
    rw [this] at hr; simp at hr
theorem corP_taken {o : Int} (h : Cor p m n) (hm : m a = none) (hn : n b = some o) : CorP p who m a b false m n := by
  refine ⟨fun hr => (by cases hr), fun _ R hR hs hab => ?_⟩
  have h1 := (h.inv o b).2 hn
  have := hR.inj a o b hab (hs o b h1)
  rw [this, h1] at hm; cases hm
/-- The bodies tell them apart. -/
theorem corP_unlike {m' n' : Int → Option Int} (ha : inP p a = true) (hq : sameB who (atP p a).1 (atP p b).1 = false) : CorP p who m a b false m' n' := by
  refine ⟨fun hr => (by cases hr), fun _ R hR hs hab => ?_⟩
  rcases hR.step a b hab with ⟨rfl, _⟩ | ⟨_, _, h3, _⟩
  · rw [inP_zero] at ha; cases ha
  · rw [hq] at h3; cases h3
/-- What has been put: a correspondence that has the pair has it. -/
theorem put_sub {R : Int → Int → Prop} (hs : ∀ x y, m x = some y → R x y) (hab : R a b) : ∀ x y, updO m a b x = some y → R x y := fun x y h => by
  unfold updO at h
  by_cases e : x = a
  · rw [if_pos e] at h; rw [e, ← Option.some.inj h]; exact hab
  · rw [if_neg e] at h; exact hs x y h
theorem corP_left {m' n' : Int → Option Int} (ha : inP p a = true) (h : CorP p who (updO m a b) (atP p a).1.a (atP p b).1.a false m' n') : CorP p who m a b false m' n' := by
  refine ⟨fun hr => (by cases hr), fun _ R hR hs hab => ?_⟩
  rcases hR.step a b hab with ⟨rfl, _⟩ | ⟨_, _, _, h4, _⟩
  · rw [inP_zero] at ha; cases ha
  · exact h.2 rfl R hR (put_sub hs hab) h4
theorem corP_right {m1 n1 m' n' : Int → Option Int} (ha : inP p a = true) (h : CorP p who (updO m a b) (atP p a).1.a (atP p b).1.a true m1 n1) (h' : CorP p who m1 (atP p a).1.b (atP p b).1.b false m' n') : CorP p who m a b false m' n' := by
  refine ⟨fun hr => (by cases hr), fun _ R hR hs hab => ?_⟩
  rcases hR.step a b hab with ⟨rfl, _⟩ | ⟨_, _, _, h4, h5⟩
  · rw [inP_zero] at ha; cases ha
  · exact h'.2 rfl R hR ((h.1 rfl).2.2.2.2 R hR (put_sub hs hab) h4) h5
theorem corP_both {m1 n1 m' n' : Int → Option Int} (ha : inP p a = true) (hm : m a = none) (hq : sameB who (atP p a).1 (atP p b).1 = true) (h : CorP p who (updO m a b) (atP p a).1.a (atP p b).1.a true m1 n1) (h' : CorP p who m1 (atP p a).1.b (atP p b).1.b true m' n') : CorP p who m a b true m' n' := by
  refine ⟨fun _ => ?_, fun hr => (by cases hr)⟩
  obtain ⟨c1, e1, k1, d1, s1⟩ := h.1 rfl
  obtain ⟨c2, e2, k2, d2, s2⟩ := h'.1 rfl
  have hab : updO m a b a = some b := by unfold updO; rw [if_pos rfl]
  have hc : Closed p who m' a b := .inr ⟨hq, e2 _ _ k1, k2⟩
  refine ⟨c2, fun x y hxy => e2 _ _ (e1 _ _ ?_), e2 _ _ (e1 _ _ hab), fun x y hxy => ?_, fun R hR hs hRab x y hxy => ?_⟩
  · unfold updO
    rw [if_neg (fun e => by rw [e, hm] at hxy; cases hxy)]; exact hxy
  · rcases d2 x y hxy with h1 | h1
    · rcases d1 x y h1 with h2 | h2
      · by_cases e : x = a
        · unfold updO at h2
          rw [if_pos e] at h2
          rw [e, ← Option.some.inj h2]; exact .inr hc
        · unfold updO at h2
          rw [if_neg e] at h2; exact .inl h2
      · exact .inr (h2.more e2)
    · exact .inr h1
  · rcases hR.step a b hRab with ⟨rfl, _⟩ | ⟨_, _, _, h4, h5⟩
    · rw [inP_zero] at ha; cases ha
    · exact s2 R hR (s1 R hR (put_sub hs hRab) h4) h5 x y hxy
end
end Go.Proofs.YtgaklaajbepfaaaDoor
