/-
  Knowledge as plain data: what is reached from what was given, what is derived; what follows of it.
  Steps as plain data: what Check answers.
  A proof as it is laid: plain.
-/
import Derived.Test.YtjmcaceegfdkkaaGreatDoorQbTSubP
namespace Go.Proofs.YtjmcaceegfdkkaaGreatDoor
set_option linter.unusedVariables false
def showB (k : Int) : Bool := k == 7 || k == 8 || k == 9
/-- What a rule takes out of a term of this node; 0: nothing. -/
def takeN (r : Int) (n : Nd) : Int :=
  if n.kind = 4 then (if r = 1 then n.a else if r = 2 then n.b else 0) else if showB n.kind = true then (if r = 3 then n.a else 0) else 0
/-- What is seen by whoever was given g. -/
inductive Reach (p : Pl) (g : List Int) : Int → Prop where
  | given {t : Int} : t ∈ g → Reach p g t
  | step {t : Int} (r : Int) : Reach p g t → takeN r (atP p t).1 ≠ 0 → Reach p g (takeN r (atP p t).1)
theorem Reach.mono {p : Pl} {g g' : List Int} (h : ∀ t ∈ g, t ∈ g') {t : Int} (ht : Reach p g t) : Reach p g' t := by
  induction ht with
  | given h1 => exact .given (h _ h1)
  | step r _ h2 ih => exact .step r ih h2
theorem Reach.inp {p : Pl} (hp : Ok p) {g : List Int} (h : ∀ t ∈ g, inP p t = true) {t : Int} (ht : Reach p g t) : inP p t = true := by
  induction ht with
  | given h1 => exact h _ h1
  | @step t r _ h2 ih =>
    obtain ⟨ha, hb⟩ := kid_less hp ih
    revert h2
    unfold takeN
    split
    · split
      · exact fun h2 => (ha.resolve_left h2).1
      · split
        · exact fun h2 => (hb.resolve_left h2).1
        · exact fun h2 => absurd rfl h2
    · split
      · split
        · exact fun h2 => (ha.resolve_left h2).1
        · exact fun h2 => absurd rfl h2
      · exact fun h2 => absurd rfl h2
/-- What is given, with one more. -/
def addG (p : Pl) (g : List Int) (t : Int) : List Int := if inP p t = true ∧ t ∉ g then g ++ [t] else g
def addsG (p : Pl) (g : List Int) (l : List Int) : List Int := l.foldl (addG p) g
theorem addsG_snoc (p : Pl) (g l : List Int) (t : Int) : addsG p g (l ++ [t]) = addG p (addsG p g l) t := by simp [addsG]
/-- Which rule leads to a term, out of which: 0, 0 where it is given. -/
abbrev Way := Int × Int
/-- What is told of what is seen. -/
structure SeenOk (p : Pl) (g : List Int) (s : Int → Option Way) : Prop where
  nodup : g.Nodup
  ing : ∀ t ∈ g, inP p t = true
  reach : ∀ t, (s t).isSome = true ↔ Reach p g t
  given : ∀ t, s t = some (0, 0) ↔ t ∈ g
  ways : ∀ t r y, s t = some (r, y) → r ≠ 0 → (r = 1 ∨ r = 2 ∨ r = 3) ∧ Reach p g y ∧ takeN r (atP p y).1 = t ∧ t ≠ 0
  zero : ∀ t y, s t = some (0, y) → y = 0
theorem SeenOk.nil (p : Pl) : SeenOk p [] (fun _ => none) :=
  ⟨by simp, fun t h => (by simp at h), fun t => ⟨fun h => (by cases h), fun h => (by
    exfalso
    induction h with
    | given h => simp at h
    | step _ _ _ ih => exact ih)⟩, fun t => (by simp), fun t r y h => (by cases h), fun t y h => (by cases h)⟩
/-- What taking apart leaves: s0 is what was seen, t among it, not taken apart yet. -/
structure Took (p : Pl) (s0 : Int → Option Way) (t : Int) (ws : List Int) (i : Nat) (s : Int → Option Way) : Prop where
  first : ws[0]? = some t
  le : i ≤ ws.length
  nodup : ws.Nodup
  inp : ∀ x ∈ ws, inP p x = true
  seen : ∀ x ∈ ws, (s x).isSome = true
  old : ∀ x, (s0 x).isSome = true → s x = s0 x
  only : ∀ x, (s x).isSome = true → (s0 x).isSome = true ∨ x ∈ ws
  new : ∀ x ∈ ws, x ≠ t → s0 x = none
  done : ∀ j y, j < i → ws[j]? = some y → ∀ r, takeN r (atP p y).1 ≠ 0 → (s (takeN r (atP p y).1)).isSome = true
  least : ∀ Q : Int → Prop, Q t → (∀ x r, Q x → takeN r (atP p x).1 ≠ 0 → Q (takeN r (atP p x).1)) → ∀ x ∈ ws, Q x
  ways : ∀ x ∈ ws, x ≠ t → ∃ r y, s x = some (r, y) ∧ (r = 1 ∨ r = 2 ∨ r = 3) ∧ y ∈ ws ∧ takeN r (atP p y).1 = x ∧ x ≠ 0
theorem Took.start {p : Pl} {s0 : Int → Option Way} {t : Int} (ht : inP p t = true) (hs : (s0 t).isSome = true) : Took p s0 t [t] 0 s0 :=
  ⟨rfl, Nat.zero_le _, by simp, fun x hx => by rw [List.mem_singleton.1 hx]; exact ht, fun x hx => by rw [List.mem_singleton.1 hx]; exact hs, fun _ _ => rfl, fun x h => .inl h, fun x hx hn => absurd (List.mem_singleton.1 hx) hn, fun j y hj => by omega,
    fun Q h _ x hx => by rw [List.mem_singleton.1 hx]; exact h, fun x hx hn => absurd (List.mem_singleton.1 hx) hn⟩
theorem takeN_cases (r : Int) (n : Nd) (h : takeN r n ≠ 0) : r = 1 ∨ r = 2 ∨ r = 3 := by
  unfold takeN at h
  split at h
  · split at h
    · exact .inl ‹_›
    · split at h
      · exact .inr (.inl ‹_›)
      · exact absurd rfl h
  · split at h
    · split at h
      · exact .inr (.inr ‹_›)
      · exact absurd rfl h
    · exact absurd rfl h
theorem take_in {p : Pl} (hp : Ok p) {t : Int} (ht : inP p t = true) (r : Int) (h : takeN r (atP p t).1 ≠ 0) : inP p (takeN r (atP p t).1) = true :=
  Reach.inp hp (g := [t]) (fun x hx => by rw [List.mem_singleton.1 hx]; exact ht) (.step r (.given (by simp)) h)
/-- One more of what a term shows. -/
theorem Took.more {p : Pl} (hp : Ok p) {s0 s : Int → Option Way} {t y : Int} {ws : List Int} {i : Nat} (h : Took p s0 t ws i s) (hy : y ∈ ws) {r : Int} (h0 : takeN r (atP p y).1 ≠ 0) (hn : s (takeN r (atP p y).1) = none) :
    Took p s0 t (ws ++ [takeN r (atP p y).1]) i (fun x => if x = takeN r (atP p y).1 then some (r, y) else s x) := by
  have hmem : takeN r (atP p y).1 ∉ ws := fun hm => by have := h.seen _ hm; rw [hn] at this; cases this
  have hup : ∀ x, (s x).isSome = true → (if x = takeN r (atP p y).1 then some (r, y) else s x) = s x := fun x hx => by
    rw [if_neg (fun e => by rw [e, hn] at hx; cases hx)]
  have h0t : s0 (takeN r (atP p y).1) = none := by
    cases e : s0 (takeN r (atP p y).1) with
    | none => rfl
    | some z => have := h.old _ (by rw [e]; rfl); rw [hn, e] at this; cases this
  refine ⟨?_, ?_, ?_, ?_, ?_, ?_, ?_, ?_, ?_, ?_, ?_⟩
  · have := h.first
    cases ws with
    | nil => cases this
    | cons a l => exact this
  · simpa using Nat.le_succ_of_le h.le
  · exact List.nodup_append.2 ⟨h.nodup, by simp, fun x hx z hz e => hmem (by rw [List.mem_singleton] at hz; rw [← hz, ← e]; exact hx)⟩
  · intro x hx
    rcases List.mem_append.1 hx with hx | hx
    · exact h.inp x hx
    · rw [List.mem_singleton.1 hx]; exact take_in hp (h.inp y hy) r h0
  · intro x hx
    rcases List.mem_append.1 hx with hx | hx
    · rw [hup x (h.seen x hx)]; exact h.seen x hx
    · rw [if_pos (List.mem_singleton.1 hx)]; rfl
  · intro x hx
    rw [hup x (by rw [h.old x hx]; exact hx)]; exact h.old x hx
  · intro x hx
    by_cases e : x = takeN r (atP p y).1
    · exact .inr (by rw [e]; simp)
    · rw [if_neg e] at hx
      exact (h.only x hx).imp id fun q => List.mem_append_left _ q
  · intro x hx hn'
    rcases List.mem_append.1 hx with hx | hx
    · exact h.new x hx hn'
    · rw [List.mem_singleton.1 hx]; exact h0t
  · intro j z hj hz r' h0'
    have hz' : ws[j]? = some z := by
      rw [List.getElem?_append] at hz
      split at hz
      · exact hz
      · rename_i hge
        have := h.le
        omega
    have := h.done j z hj hz' r' h0'
    rw [hup _ this]; exact this
  · intro Q hQ hc x hx
    rcases List.mem_append.1 hx with hx | hx
    · exact h.least Q hQ hc x hx
    · rw [List.mem_singleton.1 hx]; exact hc _ _ (h.least Q hQ hc y hy) h0
  · intro x hx hn'
    rcases List.mem_append.1 hx with hx | hx
    · obtain ⟨r', y', e1, e2, e3, e4, e5⟩ := h.ways x hx hn'
      exact ⟨r', y', by rw [hup x (by rw [e1]; rfl)]; exact e1, e2, List.mem_append_left _ e3, e4, e5⟩
    · rw [List.mem_singleton.1 hx]
      exact ⟨r, y, if_pos rfl, takeN_cases _ _ h0, List.mem_append_left _ hy, rfl, h0⟩
theorem Took.next {p : Pl} {s0 s : Int → Option Way} {t : Int} {ws : List Int} {i : Nat} (h : Took p s0 t ws i s) {y : Int} (hy : ws[i]? = some y) (hd : ∀ r, takeN r (atP p y).1 ≠ 0 → (s (takeN r (atP p y).1)).isSome = true) : Took p s0 t ws (i + 1) s :=
  ⟨h.first, (List.getElem?_eq_some_iff.1 hy).1, h.nodup, h.inp, h.seen, h.old, h.only, h.new, fun j z hj hz r h0 => by
    rcases Nat.lt_or_ge j i with hlt | hge
    · exact h.done j z hlt hz r h0
    · obtain rfl : j = i := by omega
      rw [hy] at hz
      cases hz
      exact hd r h0, h.least, h.ways⟩
def updS (s : Int → Option Way) (t : Int) (z : Way) : Int → Option Way := fun x => if x = t then some z else s x
/-- What was seen already is given now. -/
theorem SeenOk.again {p : Pl} {g : List Int} {s : Int → Option Way} (h : SeenOk p g s) {t : Int} (ht : (s t).isSome = true) (hin : inP p t = true) (hg : t ∉ g) : SeenOk p (g ++ [t]) (updS s t (0, 0)) := by
  have hr := (h.reach t).1 ht
  have hmono : ∀ x, Reach p g x → Reach p (g ++ [t]) x := fun x hx => hx.mono fun y hy => List.mem_append_left _ hy
  have hback : ∀ x, Reach p (g ++ [t]) x → Reach p g x := fun x hx => by
    induction hx with
    | given h1 =>
      rcases List.mem_append.1 h1 with h1 | h1
      · exact .given h1
      · rw [List.mem_singleton.1 h1]; exact hr
    | step r _ h2 ih => exact .step r ih h2
  refine ⟨List.nodup_append.2 ⟨h.nodup, by simp, fun x hx y hy e => hg (by rw [List.mem_singleton] at hy; rw [← hy, ← e]; exact hx)⟩, fun x hx => ?_, fun x => ?_, fun x => ?_, fun x r y e hr0 => ?_, fun x y e => ?_⟩
  · rcases List.mem_append.1 hx with hx | hx
    · exact h.ing x hx
    · rw [List.mem_singleton.1 hx]; exact hin
  · unfold updS
    by_cases e : x = t
    · rw [if_pos e, e]; exact ⟨fun _ => hmono _ hr, fun _ => rfl⟩
    · rw [if_neg e, h.reach x]; exact ⟨hmono x, hback x⟩
  · unfold updS
    by_cases e : x = t
    · rw [if_pos e, e]; simp
    · rw [if_neg e, h.given x]; simp [e]
  · unfold updS at e
    by_cases e' : x = t
    · rw [if_pos e'] at e; cases e; exact absurd rfl hr0
    · rw [if_neg e'] at e
      obtain ⟨h1, h2, h3⟩ := h.ways x r y e hr0
      exact ⟨h1, hmono _ h2, h3⟩
  · unfold updS at e
    by_cases e' : x = t
    · rw [if_pos e'] at e; cases e; rfl
    · rw [if_neg e'] at e; exact h.zero x y e
/-- What was not seen is given, and taken apart. -/
theorem SeenOk.took {p : Pl} {g : List Int} {s s1 : Int → Option Way} (h : SeenOk p g s) {t : Int} {ws : List Int} (ht : s t = none) (hin : inP p t = true) (hT : Took p (updS s t (0, 0)) t ws ws.length s1) : SeenOk p (g ++ [t]) s1 := by
  have hmono : ∀ x, Reach p g x → Reach p (g ++ [t]) x := fun x hx => hx.mono fun y hy => List.mem_append_left _ hy
  have hgt : t ∉ g := fun hm => by have := (h.given t).2 hm; rw [ht] at this; cases this
  have hs0 : ∀ x, x ≠ t → updS s t (0, 0) x = s x := fun x e => if_neg e
  have hs0t : updS s t (0, 0) t = some (0, 0) := if_pos rfl
  have htw : t ∈ ws := List.mem_of_getElem? hT.first
  have hold : ∀ x, (s x).isSome = true → (s1 x).isSome = true ∧ s1 x = s x := fun x hx => by
    have e : x ≠ t := fun e => by rw [e, ht] at hx; cases hx
    have := hT.old x (by rw [hs0 x e]; exact hx)
    rw [this, hs0 x e]
    exact ⟨hx, rfl⟩
  have h1t : s1 t = some (0, 0) := (hT.old t (by rw [hs0t]; rfl)).trans hs0t
  have hws : ∀ x ∈ ws, Reach p (g ++ [t]) x := hT.least _ (.given (by simp)) (fun x r hx h0 => .step r hx h0)
  refine ⟨List.nodup_append.2 ⟨h.nodup, by simp, fun x hx y hy e => hgt (by rw [List.mem_singleton] at hy; rw [← hy, ← e]; exact hx)⟩, fun x hx => ?_, fun x => ⟨fun hx => ?_, fun hx => ?_⟩, fun x => ⟨fun e => ?_, fun hx => ?_⟩, fun x r y e hr0 => ?_, fun x y e => ?_⟩
  · rcases List.mem_append.1 hx with hx | hx
    · exact h.ing x hx
    · rw [List.mem_singleton.1 hx]; exact hin
  · rcases hT.only x hx with h1 | h1
    · by_cases e : x = t
      · rw [e]; exact .given (by simp)
      · rw [hs0 x e] at h1
        exact hmono _ ((h.reach x).1 h1)
    · exact hws x h1
  · induction hx with
    | given h1 =>
      rcases List.mem_append.1 h1 with h1 | h1
      · exact (hold _ ((h.reach _).2 (.given h1))).1
      · rw [List.mem_singleton.1 h1, h1t]; rfl
    | @step x r hx h2 ih =>
      rcases hT.only x ih with h1 | h1
      · by_cases e : x = t
        · rw [e] at h2 ⊢
          obtain ⟨j, hj⟩ := List.getElem?_of_mem htw
          exact hT.done j t (List.getElem?_eq_some_iff.1 hj).1 hj r h2
        · rw [hs0 x e] at h1
          exact (hold _ ((h.reach _).2 (.step r ((h.reach x).1 h1) h2))).1
      · obtain ⟨j, hj⟩ := List.getElem?_of_mem h1
        exact hT.done j x (List.getElem?_eq_some_iff.1 hj).1 hj r h2
  · by_cases e' : x = t
    · rw [e']; simp
    · rcases hT.only x (by rw [e]; rfl) with h1 | h1
      · have := hT.old x h1
        rw [hs0 x e'] at this
        exact List.mem_append_left _ ((h.given x).1 (by rw [← this]; exact e))
      · obtain ⟨r, y, e1, e2, _⟩ := hT.ways x h1 e'
        rw [e] at e1
        cases e1
        omega
  · rcases List.mem_append.1 hx with hx | hx
    · have := (h.given x).2 hx
      rw [(hold x (by rw [this]; rfl)).2, this]
    · rw [List.mem_singleton.1 hx]; exact h1t
  · rcases hT.only x (by rw [e]; rfl) with h1 | h1
    · by_cases e' : x = t
      · rw [e', h1t] at e; cases e; exact absurd rfl hr0
      · have := hT.old x h1
        rw [hs0 x e'] at this
        obtain ⟨q1, q2, q3⟩ := h.ways x r y (by rw [← this]; exact e) hr0
        exact ⟨q1, hmono _ q2, q3⟩
    · by_cases e' : x = t
      · rw [e', h1t] at e; cases e; exact absurd rfl hr0
      · obtain ⟨r', y', e1, e2, e3, e4, e5⟩ := hT.ways x h1 e'
        rw [e] at e1
        cases e1
        exact ⟨e2, hws _ e3, e4, e5⟩
  · rcases hT.only x (by rw [e]; rfl) with h1 | h1
    · by_cases e' : x = t
      · rw [e', h1t] at e; cases e; rfl
      · have := hT.old x h1
        rw [hs0 x e'] at this
        exact h.zero x y (by rw [← this]; exact e)
    · by_cases e' : x = t
      · rw [e', h1t] at e; cases e; rfl
      · obtain ⟨r', y', e1, e2, _⟩ := hT.ways x h1 e'
        rw [e] at e1
        cases e1
        omega
end Go.Proofs.YtjmcaceegfdkkaaGreatDoor
namespace Go.Proofs.YtjmcaceegfdkkaaGreatDoor
set_option linter.unusedVariables false
end Go.Proofs.YtjmcaceegfdkkaaGreatDoor
namespace Go.Proofs.YtjmcaceegfdkkaaGreatDoor
set_option linter.unusedVariables false
end Go.Proofs.YtjmcaceegfdkkaaGreatDoor
