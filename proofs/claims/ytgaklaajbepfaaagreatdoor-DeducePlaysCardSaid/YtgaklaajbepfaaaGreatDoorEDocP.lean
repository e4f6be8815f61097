/-
  The document's seen, Derived, as flags: plain.
  A proof stays among the subterms: plain.
  What Seen tells, as a plain list; two rising lists of the same terms are one.
-/
import Derived.Test.YtgaklaajbepfaaaGreatDoorEDer
namespace Go.Proofs.YtgaklaajbepfaaaGreatDoor
set_option linter.unusedVariables false

/-- A flag set. -/
def updF (f : Nat → Bool) (i : Nat) (b : Bool) : Nat → Bool := fun x => if x = i then b else f x
theorem updF_at (f : Nat → Bool) (i : Nat) (b : Bool) : updF f i b i = b := if_pos rfl
theorem updF_ne {f : Nat → Bool} {i x : Nat} {b : Bool} (h : x ≠ i) : updF f i b x = f x := if_neg h
theorem updF_mono {f : Nat → Bool} {i x : Nat} (h : f x = true) : updF f i true x = true := by
  unfold updF; split
  · rfl
  · exact h
theorem updF_true {f : Nat → Bool} {i x : Nat} (h : updF f i true x = true) : x = i ∨ f x = true := by
  unfold updF at h; split at h
  · exact .inl ‹_›
  · exact .inr h
theorem real_kids {p : Pl} {n : Nd} (h : errP p n = 0) : (1 ≤ kidsN n.kind → inP p n.a = true) ∧ (kidsN n.kind = 2 → inP p n.b = true) := by
  unfold errP at h
  split at h
  · rename_i h1; exact absurd h h1
  · split at h
    · cases h
    · rename_i h2
      have h2' : kidsBad p n = false := by simpa using h2
      simp only [kidsBad, Bool.or_eq_false_iff, Bool.and_eq_false_iff, decide_eq_false_iff_not, Bool.not_eq_false', beq_eq_false_iff_ne] at h2'
      exact ⟨fun e => h2'.1.resolve_left (fun h => h e), fun e => h2'.2.resolve_left (fun h => h e)⟩
theorem in_list {p : Pl} {t : Int} (h : inP p t = true) : atP p t ∈ p := by
  have h' := h
  simp only [inP, Bool.and_eq_true, decide_eq_true_eq] at h'
  unfold atP
  rw [if_pos h, List.getD_eq_getElem?_getD, List.getElem?_eq_getElem (show t.toNat - 1 < p.length by omega)]
  exact List.getElem_mem _
theorem in_nat {p : Pl} {x : Int} (h : inP p x = true) : ∃ z : Nat, x = (z : Int) ∧ 1 ≤ z ∧ z ≤ p.length := by
  simp only [inP, Bool.and_eq_true, decide_eq_true_eq] at h
  obtain ⟨z, rfl⟩ := Int.eq_ofNat_of_zero_le (show 0 ≤ x by omega)
  exact ⟨z, rfl, by omega, by omega⟩
/-- A term's first, a pair's second: terms with a less number. -/
theorem kid_a {p : Pl} (hp : Ok p) {t : Nat} (h : inP p (t : Int) = true) (hk : (atP p (t : Int)).1.kind = 4 ∨ (atP p (t : Int)).1.kind = 5 ∨ (atP p (t : Int)).1.kind = 7 ∨ (atP p (t : Int)).1.kind = 8 ∨ (atP p (t : Int)).1.kind = 9) : ∃ z : Nat, (atP p (t : Int)).1.a = (z : Int) ∧ 1 ≤ z ∧ z < t := by
  have h1 := (real_kids (hp.mem _ (in_list h))).1 (by rcases hk with h | h | h | h | h <;> rw [h] <;> decide)
  obtain ⟨z, hz, z1, _⟩ := in_nat h1
  refine ⟨z, hz, z1, ?_⟩
  rcases (kid_less hp h).1 with h0 | ⟨_, h0⟩ <;> omega
theorem kid_b {p : Pl} (hp : Ok p) {t : Nat} (h : inP p (t : Int) = true) (hk : (atP p (t : Int)).1.kind = 4) : ∃ z : Nat, (atP p (t : Int)).1.b = (z : Int) ∧ 1 ≤ z ∧ z < t := by
  have h1 := (real_kids (hp.mem _ (in_list h))).2 (by rw [hk]; rfl)
  obtain ⟨z, hz, z1, _⟩ := in_nat h1
  refine ⟨z, hz, z1, ?_⟩
  rcases (kid_less hp h).2 with h0 | ⟨_, h0⟩ <;> omega

/-- What is marked when all terms greater than t are gone over. -/
structure SeenD (p : Pl) (g : List Int) (t : Nat) (f : Nat → Bool) : Prop where
  sound : ∀ x : Nat, f x = true → Reach p g (x : Int)
  given : ∀ x : Nat, (x : Int) ∈ g → f x = true
  done : ∀ y : Nat, t < y → f y = true → ∀ r, takeN r (atP p (y : Int)).1 ≠ 0 → ∃ z : Nat, takeN r (atP p (y : Int)).1 = (z : Int) ∧ f z = true
theorem SeenD.step {p : Pl} {g : List Int} {t : Nat} {f f' : Nat → Bool} (h : SeenD p g (t + 1) f) (hm : ∀ x, f x = true → f' x = true) (ha : ∀ y, t < y → f' y = f y) (hs : ∀ x, f' x = true → f x = true ∨ Reach p g (x : Int))
    (hn : f (t + 1) = true → ∀ r, takeN r (atP p ((t + 1 : Nat) : Int)).1 ≠ 0 → ∃ z : Nat, takeN r (atP p ((t + 1 : Nat) : Int)).1 = (z : Int) ∧ f' z = true) : SeenD p g t f' :=
  ⟨fun x hx => (hs x hx).elim (h.sound x) id, fun x hx => hm x (h.given x hx), fun y hy hf r h0 => by
    rw [ha y hy] at hf
    by_cases e : y = t + 1
    · subst e
      exact hn hf r h0
    · obtain ⟨z, hz, hfz⟩ := h.done y (by omega) hf r h0
      exact ⟨z, hz, hm z hfz⟩⟩
theorem SeenD.quiet {p : Pl} {g : List Int} {t : Nat} {f : Nat → Bool} (h : SeenD p g (t + 1) f) (hn : f (t + 1) = false ∨ ((atP p ((t + 1 : Nat) : Int)).1.kind ≠ 4 ∧ showB (atP p ((t + 1 : Nat) : Int)).1.kind = false)) : SeenD p g t f :=
  h.step (fun _ h => h) (fun _ _ => rfl) (fun _ h => .inl h) fun hf r h0 => by
    rcases hn with hn | ⟨h4, h7⟩
    · rw [hn] at hf; cases hf
    · exfalso
      apply h0
      unfold takeN
      rw [if_neg h4, if_neg (by rw [h7]; decide)]
theorem SeenD.pair {p : Pl} {g : List Int} {t A B : Nat} {f : Nat → Bool} (h : SeenD p g (t + 1) f) (hf : f (t + 1) = true) (h4 : (atP p ((t + 1 : Nat) : Int)).1.kind = 4) (ea : (atP p ((t + 1 : Nat) : Int)).1.a = (A : Int)) (eb : (atP p ((t + 1 : Nat) : Int)).1.b = (B : Int)) (a1 : 1 ≤ A) (b1 : 1 ≤ B) (la : A < t + 1) (lb : B < t + 1) : SeenD p g t (updF (updF f A true) B true) := by
  have e1 : takeN 1 (atP p ((t + 1 : Nat) : Int)).1 = (A : Int) := by unfold takeN; rw [if_pos h4, if_pos rfl, ea]
  have e2 : takeN 2 (atP p ((t + 1 : Nat) : Int)).1 = (B : Int) := by unfold takeN; rw [if_pos h4, if_neg (by decide), if_pos rfl, eb]
  have hr := h.sound _ hf
  have ra : Reach p g (A : Int) := by have := Reach.step 1 hr (by rw [e1]; omega); rwa [e1] at this
  have rb : Reach p g (B : Int) := by have := Reach.step 2 hr (by rw [e2]; omega); rwa [e2] at this
  refine h.step (fun x hx => updF_mono (updF_mono hx)) (fun y hy => by rw [updF_ne (by omega), updF_ne (by omega)]) (fun x hx => ?_) (fun _ r h0 => ?_)
  · rcases updF_true hx with rfl | hx
    · exact .inr rb
    · rcases updF_true hx with rfl | hx
      · exact .inr ra
      · exact .inl hx
  · unfold takeN at h0 ⊢
    rw [if_pos h4] at h0 ⊢
    by_cases r1 : r = 1
    · rw [if_pos r1, ea]; exact ⟨A, rfl, updF_mono (updF_at _ _ _)⟩
    · rw [if_neg r1] at h0 ⊢
      by_cases r2 : r = 2
      · rw [if_pos r2, eb]; exact ⟨B, rfl, updF_at _ _ _⟩
      · rw [if_neg r2] at h0; exact absurd rfl h0
theorem SeenD.show {p : Pl} {g : List Int} {t A : Nat} {f : Nat → Bool} (h : SeenD p g (t + 1) f) (hf : f (t + 1) = true) (h4 : (atP p ((t + 1 : Nat) : Int)).1.kind ≠ 4) (h7 : showB (atP p ((t + 1 : Nat) : Int)).1.kind = true) (ea : (atP p ((t + 1 : Nat) : Int)).1.a = (A : Int)) (a1 : 1 ≤ A) (la : A < t + 1) : SeenD p g t (updF f A true) := by
  have e3 : takeN 3 (atP p ((t + 1 : Nat) : Int)).1 = (A : Int) := by unfold takeN; rw [if_neg h4, if_pos h7, if_pos rfl, ea]
  have ra : Reach p g (A : Int) := by have := Reach.step 3 (h.sound _ hf) (by rw [e3]; omega); rwa [e3] at this
  refine h.step (fun x hx => updF_mono hx) (fun y hy => updF_ne (by omega)) (fun x hx => ?_) (fun _ r h0 => ?_)
  · rcases updF_true hx with rfl | hx
    · exact .inr ra
    · exact .inl hx
  · unfold takeN at h0 ⊢
    rw [if_neg h4, if_pos h7] at h0 ⊢
    by_cases r3 : r = 3
    · rw [if_pos r3, ea]; exact ⟨A, rfl, updF_at _ _ _⟩
    · rw [if_neg r3] at h0; exact absurd rfl h0
/-- In the end just what is seen is marked. -/
theorem SeenD.all {p : Pl} {g : List Int} {f : Nat → Bool} (hp : Ok p) (hg : ∀ x ∈ g, inP p x = true) (h : SeenD p g 0 f) (x : Nat) : f x = true ↔ Reach p g (x : Int) := by
  refine ⟨h.sound x, fun hr => ?_⟩
  have key : ∀ t : Int, Reach p g t → ∃ z : Nat, t = (z : Int) ∧ f z = true := by
    intro t ht
    induction ht with
    | given h1 =>
      obtain ⟨z, rfl, _⟩ := in_nat (hg _ h1)
      exact ⟨z, rfl, h.given z h1⟩
    | @step t r h1 h2 ih =>
      obtain ⟨z, rfl, hz⟩ := ih
      obtain ⟨z', e, z1, _⟩ := in_nat (Reach.inp hp hg h1)
      exact h.done z (by omega) hz r h2
  obtain ⟨z, e, hz⟩ := key _ hr
  obtain rfl : x = z := by omega
  exact hz

/-- What is told to be derived when the terms less than t are gone over. -/
structure DerD (p : Pl) (s : Int → Option Way) (t : Nat) (o : Nat → Bool) : Prop where
  low : ∀ x : Nat, x < t → 1 ≤ x → o x = derB p s (x : Int)
  high : ∀ x : Nat, t ≤ x → o x = (s (x : Int)).isSome
theorem DerD.put {p : Pl} {s : Int → Option Way} {t : Nat} {o : Nat → Bool} (h : DerD p s t o) {b : Bool} (hb : b = derB p s (t : Int)) : DerD p s (t + 1) (updF o t b) :=
  ⟨fun x hx x1 => by
    by_cases e : x = t
    · rw [e, updF_at, hb]
    · rw [updF_ne e]; exact h.low x (by omega) x1, fun x hx => by rw [updF_ne (by omega)]; exact h.high x (by omega)⟩
theorem DerD.skip {p : Pl} {s : Int → Option Way} {t : Nat} {o : Nat → Bool} (h : DerD p s t o) (hb : derB p s (t : Int) = (s (t : Int)).isSome) : DerD p s (t + 1) o :=
  ⟨fun x hx x1 => by
    by_cases e : x = t
    · rw [e, hb]; exact h.high t (Nat.le_refl _)
    · exact h.low x (by omega) x1, fun x hx => h.high x (by omega)⟩
section
variable {p : Pl} {s : Int → Option Way} {t : Int}
theorem der_free (h : freeB (atP p t).1.kind = true) : derB p s t = true := derB_iff.2 (.free h)
theorem der_pair (hp : Ok p) (hin : inP p t = true) (h : (atP p t).1.kind = 4) : derB p s t = ((s t).isSome || (derB p s (atP p t).1.a && derB p s (atP p t).1.b)) := by
  have hb : (atP p t).1.b ≠ 0 := fun e => by
    have := (real_kids (hp.mem _ (in_list hin))).2 (by rw [h]; rfl)
    rw [e, inP_zero] at this; cases this
  rw [derB_eq, show partP p (atP p t).1 = ((atP p t).1.a, (atP p t).1.b, true) by unfold partP; rw [if_pos h], h]
  simp only [freeB]
  rw [show ((atP p t).1.b == 0) = false by simpa using hb]; simp
theorem der_hash (h : (atP p t).1.kind = 5) : derB p s t = ((s t).isSome || derB p s (atP p t).1.a) := by
  rw [derB_eq, show partP p (atP p t).1 = ((atP p t).1.a, 0, true) by unfold partP; rw [if_neg (by omega), if_pos h], h]
  simp [freeB]
theorem der_other (h : (atP p t).1.kind ≠ 1 ∧ (atP p t).1.kind ≠ 2 ∧ (atP p t).1.kind ≠ 3 ∧ (atP p t).1.kind ≠ 4 ∧ (atP p t).1.kind ≠ 5 ∧ (atP p t).1.kind ≠ 7 ∧ (atP p t).1.kind ≠ 8 ∧ (atP p t).1.kind ≠ 9) : derB p s t = (s t).isSome := by
  obtain ⟨h1, h2, h3, h4, h5, h7, h8, h9⟩ := h
  have e1 : freeB (atP p t).1.kind = false := by simp [freeB, h1, h2, h3]
  have e2 : partP p (atP p t).1 = (0, 0, false) := by unfold partP; rw [if_neg h4, if_neg h5, if_neg (by simp [showB, h7, h8, h9])]
  rw [derB_eq, e1, e2]
  simp
end
end Go.Proofs.YtgaklaajbepfaaaGreatDoor
namespace Go.Proofs.YtgaklaajbepfaaaGreatDoor
set_option linter.unusedVariables false

def ClosedK (p : Pl) (l : List Int) : Prop := ∀ x ∈ l, (inP p (atP p x).1.a = true → (atP p x).1.a ∈ l) ∧ (inP p (atP p x).1.b = true → (atP p x).1.b ∈ l)
theorem over_closed {p : Pl} (hp : Ok p) : ∀ (f : Nat) (t : Int) (acc : List Int), t.toNat ≤ f → ClosedK p acc → ClosedK p (over p f t acc) := by
  intro f
  induction f with
  | zero =>
    intro t acc ht hc
    rw [over_out p _ (fun h => by have := h.1; simp [inP] at this; omega)]
    exact hc
  | succ f ih =>
    intro t acc ht hc
    by_cases h : inP p t = true ∧ t ∉ acc
    · obtain ⟨hin, hna⟩ := h
      rw [over_in p f hin hna]
      obtain ⟨ka, kb⟩ := kid_less hp hin
      have ht1 : 1 ≤ t := by simp [inP] at hin; omega
      have hA := ih (atP p t).1.a acc (by rcases ka with h | h <;> omega) hc
      have hB := ih (atP p t).1.b _ (by rcases kb with h | h <;> omega) hA
      intro x hx
      rcases List.mem_append.1 hx with hx | hx
      · exact ⟨fun h => List.mem_append_left _ ((hB x hx).1 h), fun h => List.mem_append_left _ ((hB x hx).2 h)⟩
      · rw [List.mem_singleton.1 hx]
        have hf : ∀ y : Int, inP p y = true → (y = 0 ∨ inP p y = true ∧ y < t) → 0 < f := fun y h1 h2 => by
          simp [inP] at h1
          rcases h2 with h2 | h2 <;> omega
        exact ⟨fun h => List.mem_append_left _ ((over_more p f _ _).subset (over_has f h (hf _ h ka))), fun h => List.mem_append_left _ (over_has f h (hf _ h kb))⟩
    · rw [over_out p _ h]
      exact hc
theorem subs_closed {p : Pl} (hp : Ok p) (t : Int) : ClosedK p (subs p t) := by
  by_cases h : t.toNat ≤ p.length
  · exact over_closed hp p.length t [] h (fun x hx => by cases hx)
  · unfold subs
    rw [over_out p _ (fun h' => by have := h'.1; simp [inP] at this; omega)]
    exact fun x hx => by cases hx
theorem subs_self {p : Pl} {t : Int} (h : inP p t = true) : t ∈ subs p t := over_has _ h (by simp [inP] at h; omega)
/-- Where a proof of t may stay. -/
def mayL (p : Pl) (t : Int) (g : List Int) : List Int := subs p t ++ g.flatMap (subs p)
theorem may_in {p : Pl} (hp : Ok p) {t : Int} {g : List Int} {x : Int} (h : x ∈ mayL p t g) : inP p x = true := by
  rcases List.mem_append.1 h with h | h
  · exact subs_in hp h
  · obtain ⟨y, _, h⟩ := List.mem_flatMap.1 h
    exact subs_in hp h
theorem may_closed {p : Pl} (hp : Ok p) (t : Int) (g : List Int) : ClosedK p (mayL p t g) := by
  intro x h
  rcases List.mem_append.1 h with h | h
  · have := subs_closed hp t x h
    exact ⟨fun e => List.mem_append_left _ (this.1 e), fun e => List.mem_append_left _ (this.2 e)⟩
  · obtain ⟨y, hy, h⟩ := List.mem_flatMap.1 h
    have := subs_closed hp y x h
    exact ⟨fun e => List.mem_append_right _ (List.mem_flatMap.2 ⟨y, hy, this.1 e⟩), fun e => List.mem_append_right _ (List.mem_flatMap.2 ⟨y, hy, this.2 e⟩)⟩
theorem may_reach {p : Pl} (hp : Ok p) (t : Int) {g : List Int} (hg : ∀ x ∈ g, inP p x = true) {x : Int} (h : Reach p g x) : x ∈ mayL p t g := by
  induction h with
  | given h1 => exact List.mem_append_right _ (List.mem_flatMap.2 ⟨_, h1, subs_self (hg _ h1)⟩)
  | @step x r h1 h0 ih =>
    have hi := Reach.inp hp hg (.step r h1 h0)
    revert h0 hi
    unfold takeN
    split
    · split
      · exact fun _ hi => (may_closed hp t g x ih).1 hi
      · split
        · exact fun _ hi => (may_closed hp t g x ih).2 hi
        · exact fun h => absurd rfl h
    · split
      · split
        · exact fun _ hi => (may_closed hp t g x ih).1 hi
        · exact fun h => absurd rfl h
      · exact fun h => absurd rfl h
theorem may_len {p : Pl} (hp : Ok p) (t : Int) : ∀ g : List Int, (mayL p t g).length ≤ (g.length + 1) * 65536 := by
  have hs : ∀ x, (subs p x).length ≤ 65536 := fun x => Nat.le_trans (subs_len hp x) hp.len
  have hf : ∀ g : List Int, (g.flatMap (subs p)).length ≤ g.length * 65536 := fun g => by
    induction g with
    | nil => simp
    | cons y g ih =>
      have := hs y
      rw [List.flatMap_cons, List.length_append, List.length_cons]
      omega
  intro g
  have := hf g
  have := hs t
  unfold mayL
  rw [List.length_append]
  omega
theorem mayL_nil (p : Pl) (t : Int) : mayL p t [] = subs p t := by simp [mayL]
theorem mayL_snoc (p : Pl) (t : Int) (g : List Int) (y : Int) : mayL p t (g ++ [y]) = mayL p t g ++ subs p y := by simp [mayL]

theorem followsP_more {p : Pl} {g g' : List Int} (h : ∀ x ∈ g, x ∈ g') {L : List St} {s : St} (hf : followsP p g L s = true) : followsP p g' L s = true := by
  unfold followsP at hf ⊢
  split at hf
  · rw [if_pos ‹_›]
    simp only [Bool.and_eq_true, decide_eq_true_eq] at hf ⊢
    exact ⟨hf.1, h _ hf.2.1, hf.2.2⟩
  · rw [if_neg ‹_›]
    exact hf
theorem GoodL.given {p : Pl} {g g' : List Int} {R : Int → Prop} {L : List St} (hg : GoodL p g R L) (h : ∀ x ∈ g, x ∈ g') : GoodL p g' R L :=
  ⟨hg.nodup, fun i hi => followsP_more h (hg.fol i hi), hg.loc⟩
theorem der_none {p : Pl} {g : List Int} (hp : Ok p) (hg : ∀ x ∈ g, inP p x = true) {s : Int → Option Way} (hs : ∀ x, (s x).isSome = true ↔ Reach p g x) : derB p s 0 = false := by
  rw [der_other (by rw [atP_zero]; decide)]
  cases h : (s 0).isSome with
  | false => rfl
  | true =>
    have := Reach.inp hp hg ((hs 0).1 h)
    rw [inP_zero] at this; cases this
theorem adds_sub {p : Pl} (l : List Int) : ∀ x ∈ addsG p [] l, x ∈ l := fun x hx => by
  rcases (mem_addsG l []).1 hx with h | h
  · cases h
  · exact h.1
theorem adds_len {p : Pl} : ∀ (l g : List Int), (addsG p g l).length ≤ g.length + l.length
  | [], g => by simp [addsG]
  | t :: l, g => by
    rw [show addsG p g (t :: l) = addsG p (addG p g t) l from rfl]
    have h1 := adds_len (p := p) l (addG p g t)
    have h2 : (addG p g t).length ≤ g.length + 1 := by
      unfold addG
      split
      · simp
      · omega
    simp only [List.length_cons]
    omega
end Go.Proofs.YtgaklaajbepfaaaGreatDoor
namespace Go.Proofs.YtgaklaajbepfaaaGreatDoor
set_option linter.unusedVariables false

/-- The terms of the pool that are seen, rising. -/
def seenL (p : Pl) (s : Int → Option Way) : List Int := ((List.range p.length).map fun i : Nat => (i : Int) + 1).filter fun t => (s t).isSome
theorem rise_map (n : Nat) : ((List.range n).map fun i : Nat => (i : Int) + 1).Pairwise (· < ·) := by
  rw [List.pairwise_map]
  refine List.pairwise_lt_range.imp fun h => ?_
  omega
theorem seenL_rise (p : Pl) (s : Int → Option Way) : (seenL p s).Pairwise (· < ·) := (rise_map p.length).filter _
theorem mem_seenL {p : Pl} {s : Int → Option Way} (h : ∀ t, (s t).isSome = true → inP p t = true) {t : Int} : t ∈ seenL p s ↔ (s t).isSome = true := by
  unfold seenL
  rw [List.mem_filter]
  refine ⟨fun h => h.2, fun hs => ⟨?_, hs⟩⟩
  obtain ⟨z, rfl, h1, h2⟩ := in_nat (h t hs)
  rw [List.mem_map]
  exact ⟨z - 1, List.mem_range.2 (by omega), by omega⟩
theorem rise_ext : ∀ {a b : List Int}, a.Pairwise (· < ·) → b.Pairwise (· < ·) → (∀ x, x ∈ a ↔ x ∈ b) → a = b
  | [], [], _, _, _ => rfl
  | [], y :: b, _, _, h => absurd ((h y).2 (by simp)) (by simp)
  | x :: a, [], _, _, h => absurd ((h x).1 (by simp)) (by simp)
  | x :: a, y :: b, ha, hb, h => by
    obtain ⟨h1, h2⟩ := List.pairwise_cons.1 ha
    obtain ⟨h3, h4⟩ := List.pairwise_cons.1 hb
    have e : x = y := by
      have hx := (h x).1 (by simp)
      have hy := (h y).2 (by simp)
      rcases List.mem_cons.1 hx with hx | hx
      · exact hx
      · rcases List.mem_cons.1 hy with hy | hy
        · exact hy.symm
        · have := h1 _ hy; have := h3 _ hx; omega
    subst e
    rw [rise_ext h2 h4 fun z => ?_]
    have hz := h z
    rw [List.mem_cons, List.mem_cons] at hz
    constructor
    · intro hm
      rcases hz.1 (.inr hm) with e | e
      · have := h1 _ hm; omega
      · exact e
    · intro hm
      rcases hz.2 (.inr hm) with e | e
      · have := h3 _ hm; omega
      · exact e
/-- What is seen among the terms up to t: as the document's Seen makes it. -/
theorem seenL_upto (p : Pl) (s : Int → Option Way) (n : Nat) : (((List.range (n + 1)).map fun i : Nat => (i : Int) + 1).filter fun t => (s t).isSome) = (((List.range n).map fun i : Nat => (i : Int) + 1).filter fun t => (s t).isSome) ++ (if (s ((n : Int) + 1)).isSome = true then [(n : Int) + 1] else []) := by
  rw [List.range_succ, List.map_append, List.filter_append]
  congr 1
  simp only [List.map_cons, List.map_nil, List.filter_cons, List.filter_nil]
end Go.Proofs.YtgaklaajbepfaaaGreatDoor
