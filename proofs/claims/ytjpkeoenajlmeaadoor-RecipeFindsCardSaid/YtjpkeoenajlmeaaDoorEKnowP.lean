/-
  Knowledge as plain data: what is reached from what was given, what is derived; what follows of it.
  Steps as plain data: what Check answers.
  A proof as it is laid: plain.
-/
import Derived.Test.YtjpkeoenajlmeaaDoorTSubP
namespace Go.Proofs.YtjpkeoenajlmeaaDoor
set_option linter.unusedVariables false

def keyNd (n : Int) : Nd := ⟨6, n, 0, 0, emptyS, 0, 0⟩
def freeB (k : Int) : Bool := k == 1 || k == 2 || k == 3
def showB (k : Int) : Bool := k == 7 || k == 8 || k == 9
/-- What a rule takes out of a term of this node; 0: nothing. -/
def takeN (r : Int) (n : Nd) : Int :=
  if n.kind = 4 then (if r = 1 then n.a else if r = 2 then n.b else 0) else if showB n.kind = true then (if r = 3 then n.a else 0) else 0
/-- The name whose key makes a term of this node. -/
def holdN (n : Nd) : Int := if n.kind = 9 then n.to else n.frm
def keyP (p : Pl) (n : Nd) : Nat := numP p (keyNd (holdN n))
/-- The terms of which a term of this node is made, and whether it is. -/
def partP (p : Pl) (n : Nd) : Int × Int × Bool :=
  if n.kind = 4 then (n.a, n.b, true) else if n.kind = 5 then (n.a, 0, true) else if showB n.kind = true then (n.a, (keyP p n : Int), decide (keyP p n ≠ 0)) else (0, 0, false)

/-- What is seen by whoever was given g. -/
inductive Reach (p : Pl) (g : List Int) : Int → Prop where
  | given {t : Int} : t ∈ g → Reach p g t
  | step {t : Int} (r : Int) : Reach p g t → takeN r (atP p t).1 ≠ 0 → Reach p g (takeN r (atP p t).1)

/-- What is derived, where S is what is seen. -/
inductive Der (p : Pl) (S : Int → Prop) : Int → Prop where
  | seen {t : Int} : S t → Der p S t
  | free {t : Int} : freeB (atP p t).1.kind = true → Der p S t
  | one {t : Int} : (partP p (atP p t).1).2.2 = true → (partP p (atP p t).1).2.1 = 0 → Der p S (partP p (atP p t).1).1 → Der p S t
  | two {t : Int} : (partP p (atP p t).1).2.2 = true → (partP p (atP p t).1).2.1 ≠ 0 → Der p S (partP p (atP p t).1).1 → Der p S (partP p (atP p t).1).2.1 → Der p S t

theorem Reach.mono {p : Pl} {g g' : List Int} (h : ∀ t ∈ g, t ∈ g') {t : Int} (ht : Reach p g t) : Reach p g' t := by
  induction ht with
  | given h1 => exact .given (h _ h1)
  | step r _ h2 ih => exact .step r ih h2
theorem Reach.inp {p : Pl} (hp : Ok p) {g : List Int} (h : ∀ t ∈ g, inP p t = true) {t : Int} (ht : Reach p g t) : inP p t = true := by
  induction ht with
  | given h1 => exact h _ h1
  | @step t r _ h2 ih =>
    obtain ⟨ha, hb⟩ := kid_less hp ih
    revert h2
    unfold takeN
    split
    · split
      · exact fun h2 => (ha.resolve_left h2).1
      · split
        · exact fun h2 => (hb.resolve_left h2).1
        · exact fun h2 => absurd rfl h2
    · split
      · split
        · exact fun h2 => (ha.resolve_left h2).1
        · exact fun h2 => absurd rfl h2
      · exact fun h2 => absurd rfl h2

theorem Der.mono {p : Pl} {S S' : Int → Prop} (h : ∀ t, S t → S' t) {t : Int} (ht : Der p S t) : Der p S' t := by
  induction ht with
  | seen h1 => exact .seen (h _ h1)
  | free h1 => exact .free h1
  | one h1 h2 _ ih => exact .one h1 h2 ih
  | two h1 h2 _ _ ih1 ih2 => exact .two h1 h2 ih1 ih2

/-- A term of kind 6 is derived just if it is seen. -/
theorem der_key {p : Pl} {S : Int → Prop} {t : Int} (hk : (atP p t).1.kind = 6) : Der p S t ↔ S t := by
  constructor
  · intro h
    cases h with
    | seen h => exact h
    | free h => rw [hk] at h; cases h
    | one h1 _ _ => simp [partP, hk, showB] at h1
    | two h1 _ _ _ => simp [partP, hk, showB] at h1
  · exact .seen
/-- The key that a node names stands for a key. -/
theorem key_kind {p : Pl} {n : Nd} (h : keyP p n ≠ 0) : (atP p (keyP p n : Int)).1 = keyNd (holdN n) := by
  unfold keyP at h ⊢
  obtain ⟨i, hi, h1, h2, _⟩ := numP_some h
  have hin : inP p ((i : Int) + 1) = true := by simp [inP]; omega
  rw [h1]
  unfold atP
  rw [if_pos (by simpa using hin), List.getD_eq_getElem?_getD, show ((i + 1 : Nat) : Int).toNat - 1 = i by omega, List.getElem?_eq_getElem hi]
  exact h2

/-- What derived terms show is derived. -/
theorem Der.take {p : Pl} {S : Int → Prop} (hS : ∀ t r, S t → takeN r (atP p t).1 ≠ 0 → S (takeN r (atP p t).1)) {t : Int} (ht : Der p S t) (r : Int) (h0 : takeN r (atP p t).1 ≠ 0) : Der p S (takeN r (atP p t).1) := by
  cases ht with
  | seen h => exact .seen (hS _ _ h h0)
  | free h =>
    exfalso
    revert h0
    unfold takeN
    rw [if_neg (fun e => by rw [e] at h; cases h), if_neg (fun e => by
      simp only [showB, freeB, Bool.or_eq_true, beq_iff_eq] at e h; omega)]
    exact fun h => h rfl
  | one h1 h2 h3 =>
    revert h0
    unfold takeN
    by_cases h4 : (atP p t).1.kind = 4
    · rw [if_pos h4]
      have e : partP p (atP p t).1 = ((atP p t).1.a, (atP p t).1.b, true) := by unfold partP; rw [if_pos h4]
      rw [e] at h2 h3
      split
      · exact fun _ => h3
      · split
        · intro h; exact absurd h2 h
        · intro h; exact absurd rfl h
    · rw [if_neg h4]
      split
      · rename_i hs
        have e : partP p (atP p t).1 = ((atP p t).1.a, (keyP p (atP p t).1 : Int), decide (keyP p (atP p t).1 ≠ 0)) := by
          unfold partP; rw [if_neg h4, if_neg (fun e => by rw [e] at hs; cases hs), if_pos hs]
        rw [e] at h3
        split
        · exact fun _ => h3
        · intro h; exact absurd rfl h
      · intro h; exact absurd rfl h
  | two h1 h2 h3 h5 =>
    revert h0
    unfold takeN
    by_cases h4 : (atP p t).1.kind = 4
    · rw [if_pos h4]
      have e : partP p (atP p t).1 = ((atP p t).1.a, (atP p t).1.b, true) := by unfold partP; rw [if_pos h4]
      rw [e] at h2 h3 h5
      split
      · exact fun _ => h3
      · split
        · exact fun _ => h5
        · intro h; exact absurd rfl h
    · rw [if_neg h4]
      split
      · rename_i hs
        have e : partP p (atP p t).1 = ((atP p t).1.a, (keyP p (atP p t).1 : Int), decide (keyP p (atP p t).1 ≠ 0)) := by
          unfold partP; rw [if_neg h4, if_neg (fun e => by rw [e] at hs; cases hs), if_pos hs]
        rw [e] at h3
        split
        · exact fun _ => h3
        · intro h; exact absurd rfl h
      · intro h; exact absurd rfl h

theorem reach_closed (p : Pl) (g : List Int) : ∀ t r, Reach p g t → takeN r (atP p t).1 ≠ 0 → Reach p g (takeN r (atP p t).1) := fun t r h h0 => .step r h h0
/-- More is more. -/
theorem der_more {p : Pl} {g g' : List Int} (h : ∀ t ∈ g, t ∈ g') {t : Int} (ht : Der p (Reach p g) t) : Der p (Reach p g') t := ht.mono fun t h1 => h1.mono h
/-- What is reached from what is derived is derived. -/
theorem reach_cut {p : Pl} {g g' : List Int} (h : ∀ t ∈ g', Der p (Reach p g) t) {t : Int} (ht : Reach p g' t) : Der p (Reach p g) t := by
  induction ht with
  | given h1 => exact h _ h1
  | step r _ h2 ih => exact ih.take (reach_closed p g) r h2
/-- The cut. -/
theorem der_cut {p : Pl} {g g' : List Int} (h : ∀ t ∈ g', Der p (Reach p g) t) {t : Int} (ht : Der p (Reach p g') t) : Der p (Reach p g) t := by
  induction ht with
  | seen h1 => exact reach_cut h h1
  | free h1 => exact .free h1
  | one h1 h2 _ ih => exact .one h1 h2 ih
  | two h1 h2 _ _ ih1 ih2 => exact .two h1 h2 ih1 ih2
theorem der_out {p : Pl} {S : Int → Prop} (hS : ∀ t, S t → inP p t = true) {t : Int} (h : inP p t = false) : ¬ Der p S t := by
  intro hd
  have e := atP_out h
  cases hd with
  | seen h1 => rw [hS _ h1] at h; cases h
  | free h1 => rw [e] at h1; cases h1
  | one h1 _ _ => rw [e] at h1; cases h1
  | two h1 _ _ _ => rw [e] at h1; cases h1

/-- What is given, with one more. -/
def addG (p : Pl) (g : List Int) (t : Int) : List Int := if inP p t = true ∧ t ∉ g then g ++ [t] else g
def addsG (p : Pl) (g : List Int) (l : List Int) : List Int := l.foldl (addG p) g
theorem addG_in {p : Pl} {g : List Int} (t : Int) (h : ∀ x ∈ g, inP p x = true) : ∀ x ∈ addG p g t, inP p x = true := by
  unfold addG
  split
  · rename_i hc
    intro x hx
    rcases List.mem_append.1 hx with hx | hx
    · exact h x hx
    · rw [List.mem_singleton.1 hx]; exact hc.1
  · exact h
theorem addG_nodup {p : Pl} {g : List Int} (t : Int) (h : g.Nodup) : (addG p g t).Nodup := by
  unfold addG
  split
  · rename_i hc
    exact List.nodup_append.2 ⟨h, by simp, fun x hx y hy e => hc.2 (by rw [List.mem_singleton] at hy; rw [← hy, ← e]; exact hx)⟩
  · exact h
theorem mem_addG {p : Pl} {g : List Int} {t x : Int} : x ∈ addG p g t ↔ x ∈ g ∨ (x = t ∧ inP p t = true) := by
  unfold addG
  split
  · rename_i hc
    simp only [List.mem_append, List.mem_singleton]
    exact ⟨fun h => h.imp id fun e => ⟨e, hc.1⟩, fun h => h.imp id fun e => e.1⟩
  · rename_i hc
    refine ⟨.inl, fun h => h.elim id fun e => ?_⟩
    obtain ⟨rfl, h1⟩ := e
    exact Decidable.byContradiction fun h2 => hc ⟨h1, h2⟩
theorem mem_addsG {p : Pl} : ∀ (l : List Int) (g : List Int) {x : Int}, x ∈ addsG p g l ↔ x ∈ g ∨ (x ∈ l ∧ inP p x = true)
  | [], g, x => by simp [addsG]
  | t :: l, g, x => by
    rw [show addsG p g (t :: l) = addsG p (addG p g t) l from rfl, mem_addsG l, mem_addG]
    simp only [List.mem_cons]
    constructor
    · rintro ((h | ⟨rfl, h⟩) | ⟨h, h'⟩)
      · exact .inl h
      · exact .inr ⟨.inl rfl, h⟩
      · exact .inr ⟨.inr h, h'⟩
    · rintro (h | ⟨rfl | h, h'⟩)
      · exact .inl (.inl h)
      · exact .inl (.inr ⟨rfl, h'⟩)
      · exact .inr ⟨h, h'⟩
theorem addsG_snoc (p : Pl) (g l : List Int) (t : Int) : addsG p g (l ++ [t]) = addG p (addsG p g l) t := by simp [addsG]
theorem addsG_in {p : Pl} {g : List Int} (l : List Int) (h : ∀ x ∈ g, inP p x = true) : ∀ x ∈ addsG p g l, inP p x = true := fun x hx => by
  rcases (mem_addsG l g).1 hx with h1 | h1
  · exact h x h1
  · exact h1.2
theorem addsG_nodup {p : Pl} : ∀ (l : List Int) {g : List Int}, g.Nodup → (addsG p g l).Nodup
  | [], g, h => h
  | t :: l, g, h => addsG_nodup l (addG_nodup t h)

/-- Which rule leads to a term, out of which: 0, 0 where it is given. -/
abbrev Way := Int × Int
/-- What is told of what is seen. -/
structure SeenOk (p : Pl) (g : List Int) (s : Int → Option Way) : Prop where
  nodup : g.Nodup
  ing : ∀ t ∈ g, inP p t = true
  reach : ∀ t, (s t).isSome = true ↔ Reach p g t
  given : ∀ t, s t = some (0, 0) ↔ t ∈ g
  ways : ∀ t r y, s t = some (r, y) → r ≠ 0 → (r = 1 ∨ r = 2 ∨ r = 3) ∧ Reach p g y ∧ takeN r (atP p y).1 = t ∧ t ≠ 0
  zero : ∀ t y, s t = some (0, y) → y = 0
theorem SeenOk.nil (p : Pl) : SeenOk p [] (fun _ => none) :=
  ⟨by simp, fun t h => (by simp at h), fun t => ⟨fun h => (by cases h), fun h => (by
    exfalso
    induction h with
    | given h => simp at h
    | step _ _ _ ih => exact ih)⟩, fun t => (by simp), fun t r y h => (by cases h), fun t y h => (by cases h)⟩

/-- What taking apart leaves: s0 is what was seen, t among it, not taken apart yet. -/
structure Took (p : Pl) (s0 : Int → Option Way) (t : Int) (ws : List Int) (i : Nat) (s : Int → Option Way) : Prop where
  first : ws[0]? = some t
  le : i ≤ ws.length
  nodup : ws.Nodup
  inp : ∀ x ∈ ws, inP p x = true
  seen : ∀ x ∈ ws, (s x).isSome = true
  old : ∀ x, (s0 x).isSome = true → s x = s0 x
  only : ∀ x, (s x).isSome = true → (s0 x).isSome = true ∨ x ∈ ws
  new : ∀ x ∈ ws, x ≠ t → s0 x = none
  done : ∀ j y, j < i → ws[j]? = some y → ∀ r, takeN r (atP p y).1 ≠ 0 → (s (takeN r (atP p y).1)).isSome = true
  least : ∀ Q : Int → Prop, Q t → (∀ x r, Q x → takeN r (atP p x).1 ≠ 0 → Q (takeN r (atP p x).1)) → ∀ x ∈ ws, Q x
  ways : ∀ x ∈ ws, x ≠ t → ∃ r y, s x = some (r, y) ∧ (r = 1 ∨ r = 2 ∨ r = 3) ∧ y ∈ ws ∧ takeN r (atP p y).1 = x ∧ x ≠ 0
theorem Took.start {p : Pl} {s0 : Int → Option Way} {t : Int} (ht : inP p t = true) (hs : (s0 t).isSome = true) : Took p s0 t [t] 0 s0 :=
  ⟨rfl, Nat.zero_le _, by simp, fun x hx => by rw [List.mem_singleton.1 hx]; exact ht, fun x hx => by rw [List.mem_singleton.1 hx]; exact hs, fun _ _ => rfl, fun x h => .inl h, fun x hx hn => absurd (List.mem_singleton.1 hx) hn, fun j y hj => by omega,
    fun Q h _ x hx => by rw [List.mem_singleton.1 hx]; exact h, fun x hx hn => absurd (List.mem_singleton.1 hx) hn⟩
theorem takeN_cases (r : Int) (n : Nd) (h : takeN r n ≠ 0) : r = 1 ∨ r = 2 ∨ r = 3 := by
  unfold takeN at h
  split at h
  · split at h
    · exact .inl ‹_›
    · split at h
      · exact .inr (.inl ‹_›)
      · exact absurd rfl h
  · split at h
    · split at h
      · exact .inr (.inr ‹_›)
      · exact absurd rfl h
    · exact absurd rfl h
theorem take_in {p : Pl} (hp : Ok p) {t : Int} (ht : inP p t = true) (r : Int) (h : takeN r (atP p t).1 ≠ 0) : inP p (takeN r (atP p t).1) = true :=
  Reach.inp hp (g := [t]) (fun x hx => by rw [List.mem_singleton.1 hx]; exact ht) (.step r (.given (by simp)) h)
/-- One more of what a term shows. -/
theorem Took.more {p : Pl} (hp : Ok p) {s0 s : Int → Option Way} {t y : Int} {ws : List Int} {i : Nat} (h : Took p s0 t ws i s) (hy : y ∈ ws) {r : Int} (h0 : takeN r (atP p y).1 ≠ 0) (hn : s (takeN r (atP p y).1) = none) :
    Took p s0 t (ws ++ [takeN r (atP p y).1]) i (fun x => if x = takeN r (atP p y).1 then some (r, y) else s x) := by
  have hmem : takeN r (atP p y).1 ∉ ws := fun hm => by have := h.seen _ hm; rw [hn] at this; cases this
  have hup : ∀ x, (s x).isSome = true → (if x = takeN r (atP p y).1 then some (r, y) else s x) = s x := fun x hx => by
    rw [if_neg (fun e => by rw [e, hn] at hx; cases hx)]
  have h0t : s0 (takeN r (atP p y).1) = none := by
    cases e : s0 (takeN r (atP p y).1) with
    | none => rfl
    | some z => have := h.old _ (by rw [e]; rfl); rw [hn, e] at this; cases this
  refine ⟨?_, ?_, ?_, ?_, ?_, ?_, ?_, ?_, ?_, ?_, ?_⟩
  · have := h.first
    cases ws with
    | nil => cases this
    | cons a l => exact this
  · simpa using Nat.le_succ_of_le h.le
  · exact List.nodup_append.2 ⟨h.nodup, by simp, fun x hx z hz e => hmem (by rw [List.mem_singleton] at hz; rw [← hz, ← e]; exact hx)⟩
  · intro x hx
    rcases List.mem_append.1 hx with hx | hx
    · exact h.inp x hx
    · rw [List.mem_singleton.1 hx]; exact take_in hp (h.inp y hy) r h0
  · intro x hx
    rcases List.mem_append.1 hx with hx | hx
    · rw [hup x (h.seen x hx)]; exact h.seen x hx
    · rw [if_pos (List.mem_singleton.1 hx)]; rfl
  · intro x hx
    rw [hup x (by rw [h.old x hx]; exact hx)]; exact h.old x hx
  · intro x hx
    by_cases e : x = takeN r (atP p y).1
    · exact .inr (by rw [e]; simp)
    · rw [if_neg e] at hx
      exact (h.only x hx).imp id fun q => List.mem_append_left _ q
  · intro x hx hn'
    rcases List.mem_append.1 hx with hx | hx
    · exact h.new x hx hn'
    · rw [List.mem_singleton.1 hx]; exact h0t
  · intro j z hj hz r' h0'
    have hz' : ws[j]? = some z := by
      rw [List.getElem?_append] at hz
      split at hz
      · exact hz
      · rename_i hge
        have := h.le
        omega
    have := h.done j z hj hz' r' h0'
    rw [hup _ this]; exact this
  · intro Q hQ hc x hx
    rcases List.mem_append.1 hx with hx | hx
    · exact h.least Q hQ hc x hx
    · rw [List.mem_singleton.1 hx]; exact hc _ _ (h.least Q hQ hc y hy) h0
  · intro x hx hn'
    rcases List.mem_append.1 hx with hx | hx
    · obtain ⟨r', y', e1, e2, e3, e4, e5⟩ := h.ways x hx hn'
      exact ⟨r', y', by rw [hup x (by rw [e1]; rfl)]; exact e1, e2, List.mem_append_left _ e3, e4, e5⟩
    · rw [List.mem_singleton.1 hx]
      exact ⟨r, y, if_pos rfl, takeN_cases _ _ h0, List.mem_append_left _ hy, rfl, h0⟩
theorem Took.next {p : Pl} {s0 s : Int → Option Way} {t : Int} {ws : List Int} {i : Nat} (h : Took p s0 t ws i s) {y : Int} (hy : ws[i]? = some y) (hd : ∀ r, takeN r (atP p y).1 ≠ 0 → (s (takeN r (atP p y).1)).isSome = true) : Took p s0 t ws (i + 1) s :=
  ⟨h.first, (List.getElem?_eq_some_iff.1 hy).1, h.nodup, h.inp, h.seen, h.old, h.only, h.new, fun j z hj hz r h0 => by
    rcases Nat.lt_or_ge j i with hlt | hge
    · exact h.done j z hlt hz r h0
    · obtain rfl : j = i := by omega
      rw [hy] at hz
      cases hz
      exact hd r h0, h.least, h.ways⟩
def updS (s : Int → Option Way) (t : Int) (z : Way) : Int → Option Way := fun x => if x = t then some z else s x
/-- What was seen already is given now. -/
theorem SeenOk.again {p : Pl} {g : List Int} {s : Int → Option Way} (h : SeenOk p g s) {t : Int} (ht : (s t).isSome = true) (hin : inP p t = true) (hg : t ∉ g) : SeenOk p (g ++ [t]) (updS s t (0, 0)) := by
  have hr := (h.reach t).1 ht
  have hmono : ∀ x, Reach p g x → Reach p (g ++ [t]) x := fun x hx => hx.mono fun y hy => List.mem_append_left _ hy
  have hback : ∀ x, Reach p (g ++ [t]) x → Reach p g x := fun x hx => by
    induction hx with
    | given h1 =>
      rcases List.mem_append.1 h1 with h1 | h1
      · exact .given h1
      · rw [List.mem_singleton.1 h1]; exact hr
    | step r _ h2 ih => exact .step r ih h2
  refine ⟨List.nodup_append.2 ⟨h.nodup, by simp, fun x hx y hy e => hg (by rw [List.mem_singleton] at hy; rw [← hy, ← e]; exact hx)⟩, fun x hx => ?_, fun x => ?_, fun x => ?_, fun x r y e hr0 => ?_, fun x y e => ?_⟩
  · rcases List.mem_append.1 hx with hx | hx
    · exact h.ing x hx
    · rw [List.mem_singleton.1 hx]; exact hin
  · unfold updS
    by_cases e : x = t
    · rw [if_pos e, e]; exact ⟨fun _ => hmono _ hr, fun _ => rfl⟩
    · rw [if_neg e, h.reach x]; exact ⟨hmono x, hback x⟩
  · unfold updS
    by_cases e : x = t
    · rw [if_pos e, e]; simp
    · rw [if_neg e, h.given x]; simp [e]
  · unfold updS at e
    by_cases e' : x = t
    · rw [if_pos e'] at e; cases e; exact absurd rfl hr0
    · rw [if_neg e'] at e
      obtain ⟨h1, h2, h3⟩ := h.ways x r y e hr0
      exact ⟨h1, hmono _ h2, h3⟩
  · unfold updS at e
    by_cases e' : x = t
    · rw [if_pos e'] at e; cases e; rfl
    · rw [if_neg e'] at e; exact h.zero x y e
/-- What was not seen is given, and taken apart. -/
theorem SeenOk.took {p : Pl} {g : List Int} {s s1 : Int → Option Way} (h : SeenOk p g s) {t : Int} {ws : List Int} (ht : s t = none) (hin : inP p t = true) (hT : Took p (updS s t (0, 0)) t ws ws.length s1) : SeenOk p (g ++ [t]) s1 := by
  have hmono : ∀ x, Reach p g x → Reach p (g ++ [t]) x := fun x hx => hx.mono fun y hy => List.mem_append_left _ hy
  have hgt : t ∉ g := fun hm => by have := (h.given t).2 hm; rw [ht] at this; cases this
  have hs0 : ∀ x, x ≠ t → updS s t (0, 0) x = s x := fun x e => if_neg e
  have hs0t : updS s t (0, 0) t = some (0, 0) := if_pos rfl
  have htw : t ∈ ws := List.mem_of_getElem? hT.first
  have hold : ∀ x, (s x).isSome = true → (s1 x).isSome = true ∧ s1 x = s x := fun x hx => by
    have e : x ≠ t := fun e => by rw [e, ht] at hx; cases hx
    have := hT.old x (by rw [hs0 x e]; exact hx)
    rw [this, hs0 x e]
    exact ⟨hx, rfl⟩
  have h1t : s1 t = some (0, 0) := (hT.old t (by rw [hs0t]; rfl)).trans hs0t
  have hws : ∀ x ∈ ws, Reach p (g ++ [t]) x := hT.least _ (.given (by simp)) (fun x r hx h0 => .step r hx h0)
  refine ⟨List.nodup_append.2 ⟨h.nodup, by simp, fun x hx y hy e => hgt (by rw [List.mem_singleton] at hy; rw [← hy, ← e]; exact hx)⟩, fun x hx => ?_, fun x => ⟨fun hx => ?_, fun hx => ?_⟩, fun x => ⟨fun e => ?_, fun hx => ?_⟩, fun x r y e hr0 => ?_, fun x y e => ?_⟩
  · rcases List.mem_append.1 hx with hx | hx
    · exact h.ing x hx
    · rw [List.mem_singleton.1 hx]; exact hin
  · rcases hT.only x hx with h1 | h1
    · by_cases e : x = t
      · rw [e]; exact .given (by simp)
      · rw [hs0 x e] at h1
        exact hmono _ ((h.reach x).1 h1)
    · exact hws x h1
  · induction hx with
    | given h1 =>
      rcases List.mem_append.1 h1 with h1 | h1
      · exact (hold _ ((h.reach _).2 (.given h1))).1
      · rw [List.mem_singleton.1 h1, h1t]; rfl
    | @step x r hx h2 ih =>
      rcases hT.only x ih with h1 | h1
      · by_cases e : x = t
        · rw [e] at h2 ⊢
          obtain ⟨j, hj⟩ := List.getElem?_of_mem htw
          exact hT.done j t (List.getElem?_eq_some_iff.1 hj).1 hj r h2
        · rw [hs0 x e] at h1
          exact (hold _ ((h.reach _).2 (.step r ((h.reach x).1 h1) h2))).1
      · obtain ⟨j, hj⟩ := List.getElem?_of_mem h1
        exact hT.done j x (List.getElem?_eq_some_iff.1 hj).1 hj r h2
  · by_cases e' : x = t
    · rw [e']; simp
    · rcases hT.only x (by rw [e]; rfl) with h1 | h1
      · have := hT.old x h1
        rw [hs0 x e'] at this
        exact List.mem_append_left _ ((h.given x).1 (by rw [← this]; exact e))
      · obtain ⟨r, y, e1, e2, _⟩ := hT.ways x h1 e'
        rw [e] at e1
        cases e1
        omega
  · rcases List.mem_append.1 hx with hx | hx
    · have := (h.given x).2 hx
      rw [(hold x (by rw [this]; rfl)).2, this]
    · rw [List.mem_singleton.1 hx]; exact h1t
  · rcases hT.only x (by rw [e]; rfl) with h1 | h1
    · by_cases e' : x = t
      · rw [e', h1t] at e; cases e; exact absurd rfl hr0
      · have := hT.old x h1
        rw [hs0 x e'] at this
        obtain ⟨q1, q2, q3⟩ := h.ways x r y (by rw [← this]; exact e) hr0
        exact ⟨q1, hmono _ q2, q3⟩
    · by_cases e' : x = t
      · rw [e', h1t] at e; cases e; exact absurd rfl hr0
      · obtain ⟨r', y', e1, e2, e3, e4, e5⟩ := hT.ways x h1 e'
        rw [e] at e1
        cases e1
        exact ⟨e2, hws _ e3, e4, e5⟩
  · rcases hT.only x (by rw [e]; rfl) with h1 | h1
    · by_cases e' : x = t
      · rw [e', h1t] at e; cases e; rfl
      · have := hT.old x h1
        rw [hs0 x e'] at this
        exact h.zero x y (by rw [← this]; exact e)
    · by_cases e' : x = t
      · rw [e', h1t] at e; cases e; rfl
      · obtain ⟨r', y', e1, e2, _⟩ := hT.ways x h1 e'
        rw [e] at e1
        cases e1
        omega
end Go.Proofs.YtjpkeoenajlmeaaDoor
namespace Go.Proofs.YtjpkeoenajlmeaaDoor
set_option linter.unusedVariables false

/-- A step: rule, A, B, the term that it says. -/
structure St where
  r : Int
  a : Int
  b : Int
  t : Int
def zeroSt : St := ⟨0, 0, 0, 0⟩
/-- What the step with this number says; 0, if there is none. -/
def saidP (l : List St) (i : Int) : Int := if i < 0 ∨ (l.length : Int) ≤ i then 0 else (l.getD i.toNat zeroSt).t
def followsP (p : Pl) (given : List Int) (ahead : List St) (s : St) : Bool :=
  inP p s.t && (if s.r = 0 then (decide (s.t ∈ given) && (s.a == 0 && s.b == 0))
    else if s.r = 1 ∨ s.r = 2 ∨ s.r = 3 then (takeN s.r (atP p (saidP ahead s.a)).1 == s.t && s.b == 0)
    else if s.r = 4 then (freeB (atP p s.t).1.kind && (s.a == 0 && s.b == 0))
    else if s.r = 5 then ((partP p (atP p s.t).1).2.2 && (saidP ahead s.a == (partP p (atP p s.t).1).1 && (if (partP p (atP p s.t).1).2.1 = 0 then s.b == 0 else saidP ahead s.b == (partP p (atP p s.t).1).2.1)))
    else false)
/-- The number of the first step from i on that does not follow. -/
def badP (p : Pl) (given : List Int) (l : List St) : Nat → Nat → Option Nat
  | 0, _ => none
  | n + 1, i => if i < l.length then (if followsP p given (l.take i) (l.getD i zeroSt) = true then badP p given l n (i + 1) else some i) else none
def checkP (p : Pl) (given : List Int) (l : List St) (goal : Int) : Int × Int :=
  match badP p given l l.length 0 with
  | some i => (80, (i : Int))
  | none => if l.length = 0 ∨ (l.getD (l.length - 1) zeroSt).t ≠ goal then (81, (l.length : Int)) else (0, 0)
theorem badP_step {p : Pl} {given : List Int} {l : List St} {i : Nat} (hi : i < l.length) (hf : followsP p given (l.take i) l[i] = true) : badP p given l (l.length - i) i = badP p given l (l.length - (i + 1)) (i + 1) := by
  obtain ⟨n, hn⟩ : ∃ n, l.length - i = n + 1 := ⟨l.length - i - 1, by omega⟩
  rw [hn, badP, if_pos hi, List.getD_eq_getElem?_getD, List.getElem?_eq_getElem hi, Option.getD_some, if_pos hf, show l.length - (i + 1) = n by omega]
theorem badP_stop {p : Pl} {given : List Int} {l : List St} {i : Nat} (hi : i < l.length) (hf : followsP p given (l.take i) l[i] = false) : badP p given l (l.length - i) i = some i := by
  obtain ⟨n, hn⟩ : ∃ n, l.length - i = n + 1 := ⟨l.length - i - 1, by omega⟩
  rw [hn, badP, if_pos hi, List.getD_eq_getElem?_getD, List.getElem?_eq_getElem hi, Option.getD_some, if_neg (by rw [hf]; decide)]
theorem badP_none {p : Pl} {given : List Int} {l : List St} (h : ∀ i (hi : i < l.length), followsP p given (l.take i) l[i] = true) : ∀ n i, badP p given l n i = none := by
  intro n
  induction n with
  | zero => intro i; rfl
  | succ n ih =>
    intro i
    rw [badP]
    split
    · rename_i hi
      rw [List.getD_eq_getElem?_getD, List.getElem?_eq_getElem hi, Option.getD_some, if_pos (h i hi)]
      exact ih (i + 1)
    · rfl
end Go.Proofs.YtjpkeoenajlmeaaDoor
namespace Go.Proofs.YtjpkeoenajlmeaaDoor
set_option linter.unusedVariables false

/-- The number of the step that says a term. -/
def posL (L : List St) (u : Int) : Option Nat := L.findIdx? (fun s => decide (s.t = u))
theorem posL_some {L : List St} {u : Int} {i : Nat} (h : posL L u = some i) : ∃ hi : i < L.length, (L[i]).t = u := by
  obtain ⟨hi, h1, _⟩ := List.findIdx?_eq_some_iff_getElem.1 h
  exact ⟨hi, by simpa using h1⟩
theorem posL_none {L : List St} {u : Int} (h : posL L u = none) : ∀ s ∈ L, s.t ≠ u := by
  intro s hs
  have := List.findIdx?_eq_none_iff.1 h s hs
  simpa using this
theorem posL_snoc {L : List St} {s : St} (h : posL L s.t = none) (x : Int) : posL (L ++ [s]) x = if x = s.t then some L.length else posL L x := by
  unfold posL at h ⊢
  rw [List.findIdx?_append]
  by_cases e : x = s.t
  · subst e
    rw [if_pos rfl, h]
    simp [List.findIdx?_cons]
  · rw [if_neg e]
    cases h' : L.findIdx? (fun m => decide (m.t = x)) with
    | some i => simp
    | none =>
      have e' : ¬ s.t = x := fun q => e q.symm
      simp [List.findIdx?_cons, e']
/-- The steps as they are laid: each follows, each says another term, one of R. -/
structure GoodL (p : Pl) (g : List Int) (R : Int → Prop) (L : List St) : Prop where
  nodup : (L.map (·.t)).Nodup
  fol : ∀ i (hi : i < L.length), followsP p g (L.take i) L[i] = true
  loc : ∀ s ∈ L, R s.t
theorem GoodL.nil (p : Pl) (g : List Int) (R : Int → Prop) : GoodL p g R [] := ⟨by simp, fun i hi => by simp at hi, fun s hs => by simp at hs⟩
theorem GoodL.snoc {p : Pl} {g : List Int} {R : Int → Prop} {L : List St} (h : GoodL p g R L) {s : St} (hn : posL L s.t = none) (hf : followsP p g L s = true) (hr : R s.t) : GoodL p g R (L ++ [s]) := by
  refine ⟨?_, fun i hi => ?_, fun x hx => ?_⟩
  · rw [List.map_append]
    exact List.nodup_append.2 ⟨h.nodup, by simp, fun x hx y hy e => by
      obtain ⟨z, hz, rfl⟩ := List.mem_map.1 hx
      simp only [List.map_cons, List.map_nil, List.mem_singleton] at hy
      exact posL_none hn z hz (e.trans hy)⟩
  · rcases Nat.lt_or_ge i L.length with hlt | hge
    · rw [List.take_append_of_le_length (by omega), List.getElem_append_left hlt]
      exact h.fol i hlt
    · have e : i = L.length := by simp at hi; omega
      subst e
      simp only [List.take_left', List.getElem_concat_length]
      simpa using hf
  · rcases List.mem_append.1 hx with hx | hx
    · exact h.loc x hx
    · rw [List.mem_singleton.1 hx]; exact hr
theorem said_at {L : List St} {i : Nat} (hi : i < L.length) : saidP L (i : Int) = (L[i]).t := by
  unfold saidP
  rw [if_neg (by omega), Int.toNat_natCast, List.getD_eq_getElem?_getD, List.getElem?_eq_getElem hi, Option.getD_some]
theorem said_pre {L L' : List St} (h : L <+: L') {i : Nat} (hi : i < L.length) : saidP L' (i : Int) = saidP L (i : Int) := by
  obtain ⟨r, rfl⟩ := h
  rw [said_at hi, said_at (by simp; omega), List.getElem_append_left hi]
theorem free_in {p : Pl} {t : Int} (h : freeB (atP p t).1.kind = true) : inP p t = true := by
  cases hin : inP p t with
  | true => rfl
  | false => rw [atP_out hin] at h; cases h
theorem fol_free {p : Pl} {g : List Int} {L : List St} {u : Int} (h : freeB (atP p u).1.kind = true) : followsP p g L ⟨4, 0, 0, u⟩ = true := by
  unfold followsP
  rw [free_in h, h]; rfl
theorem fol_given {p : Pl} {g : List Int} {L : List St} {u : Int} (hin : inP p u = true) (h : u ∈ g) : followsP p g L ⟨0, 0, 0, u⟩ = true := by
  unfold followsP
  rw [hin]
  simp [h]
theorem fol_way {p : Pl} {g : List Int} {L : List St} {u r y : Int} {i : Nat} (hin : inP p u = true) (hr : r = 1 ∨ r = 2 ∨ r = 3) (hi : i < L.length) (hy : (L[i]).t = y) (h : takeN r (atP p y).1 = u) : followsP p g L ⟨r, (i : Int), 0, u⟩ = true := by
  unfold followsP
  rw [hin]
  simp only [Bool.true_and]
  rw [if_neg (by omega), if_pos hr, said_at hi, hy, h]
  simp
theorem fol_one {p : Pl} {g : List Int} {L : List St} {u : Int} {i : Nat} (hm : (partP p (atP p u).1).2.2 = true) (hin : inP p u = true) (hi : i < L.length) (hy : (L[i]).t = (partP p (atP p u).1).1) (h0 : (partP p (atP p u).1).2.1 = 0) : followsP p g L ⟨5, (i : Int), 0, u⟩ = true := by
  unfold followsP
  rw [hin]
  simp only [Bool.true_and]
  rw [if_neg (by omega), if_neg (by omega), if_neg (by omega), if_pos trivial, hm, said_at hi, hy, if_pos h0]
  simp
theorem fol_two {p : Pl} {g : List Int} {L : List St} {u : Int} {i j : Nat} (hm : (partP p (atP p u).1).2.2 = true) (hin : inP p u = true) (hi : i < L.length) (hy : (L[i]).t = (partP p (atP p u).1).1) (h0 : (partP p (atP p u).1).2.1 ≠ 0) (hj : j < L.length) (hz : (L[j]).t = (partP p (atP p u).1).2.1) :
    followsP p g L ⟨5, (i : Int), (j : Int), u⟩ = true := by
  unfold followsP
  rw [hin]
  simp only [Bool.true_and]
  rw [if_neg (by omega), if_neg (by omega), if_neg (by omega), if_pos trivial, hm, said_at hi, hy, if_neg h0, said_at hj, hz]
  simp
/-- What is laid whole is a proof of what its last step says. -/
theorem GoodL.check {p : Pl} {g : List Int} {R : Int → Prop} {L : List St} (h : GoodL p g R L) {t : Int} (hn : L ≠ []) (hl : (L.getLast hn).t = t) : checkP p g L t = (0, 0) := by
  unfold checkP
  rw [badP_none h.fol]
  simp only
  have h0 : 0 < L.length := List.length_pos_iff.2 hn
  rw [if_neg]
  rintro (e | e)
  · omega
  · rw [List.getD_eq_getElem?_getD, List.getElem?_eq_getElem (by omega), Option.getD_some, ← List.getLast_eq_getElem hn] at e
    exact e hl
end Go.Proofs.YtjpkeoenajlmeaaDoor
