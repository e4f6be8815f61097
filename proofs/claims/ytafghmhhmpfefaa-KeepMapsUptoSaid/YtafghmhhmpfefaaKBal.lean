/-
  Plain: the trees are balanced: what put, del, join and glue make of balanced trees is balanced, and a balanced tree is no deeper than twice the bits of its size, and one.
-/
import Derived.Test.YtafghmhhmpfefaaKRefG
namespace Go.Proofs.Ytafghmhhmpfefaa
set_option linter.unusedVariables false

theorem bits_lt : ∀ (n : Nat), n < 2 ^ bits n := by
  intro n
  induction n using Nat.strongRecOn with
  | _ n ih =>
    by_cases hn : n = 0
    · subst hn; exact Nat.pow_pos (by decide)
    · have h1 := ih (n / 2) (by omega)
      have h2 : bits n = bits (n / 2) + 1 := by
        unfold bits
        cases n with
        | zero => exact absurd rfl hn
        | succ m =>
          rw [bitsF, if_neg hn, bitsF_eq m ((m + 1) / 2) ((m + 1) / 2) (by omega) (Nat.le_refl _)]
      rw [h2, Nat.pow_succ]
      omega

namespace Tr
section
variable {K V : Type}

def Bal : Tr K V → Prop
  | .nil => True
  | .node l _ _ r => Bal l ∧ Bal r ∧ l.height ≤ r.height + 1 ∧ r.height ≤ l.height + 1

theorem height_zero {t : Tr K V} (h : t.height = 0) : t = .nil := by
  cases t with
  | nil => rfl
  | node => simp [height] at h

theorem bal_balance {l r : Tr K V} (k : K) (v : V) (hl : Bal l) (hr : Bal r) (h1 : l.height ≤ r.height + 2) (h2 : r.height ≤ l.height + 2) :
    Bal (balance l k v r) ∧ (balance l k v r).height ≤ max l.height r.height + 1 ∧ max l.height r.height ≤ (balance l k v r).height ∧
    (l.height ≤ r.height + 1 → r.height ≤ l.height + 1 → (balance l k v r).height = max l.height r.height + 1) := by
  unfold balance
  by_cases c1 : r.height + 1 < l.height
  · rw [if_pos c1]
    cases l with
    | nil => simp [height] at c1
    | node ll lk lv lr =>
      obtain ⟨b1, b2, b3, b4⟩ := hl
      by_cases c : ll.height < lr.height
      · cases lr with
        | nil => simp [height] at c
        | node il ik iv ir =>
          obtain ⟨d1, d2, d3, d4⟩ := b2
          rw [turnR_in c]
          simp only [height] at *
          refine ⟨⟨⟨b1, d1, ?_, ?_⟩, ⟨d2, hr, ?_, ?_⟩, ?_, ?_⟩, ?_, ?_, ?_⟩ <;> (try simp only [height]) <;> omega
      · rw [turnR_out c]
        simp only [height] at *
        refine ⟨⟨b1, ⟨b2, hr, ?_, ?_⟩, ?_, ?_⟩, ?_, ?_, ?_⟩ <;> (try simp only [height]) <;> omega
  · rw [if_neg c1]
    by_cases c2 : l.height + 1 < r.height
    · rw [if_pos c2]
      cases r with
      | nil => simp [height] at c2
      | node rl rk rv rr =>
        obtain ⟨b1, b2, b3, b4⟩ := hr
        by_cases c : rr.height < rl.height
        · cases rl with
          | nil => simp [height] at c
          | node il ik iv ir =>
            obtain ⟨d1, d2, d3, d4⟩ := b1
            rw [turnL_in c]
            simp only [height] at *
            refine ⟨⟨⟨hl, d1, ?_, ?_⟩, ⟨d2, b2, ?_, ?_⟩, ?_, ?_⟩, ?_, ?_, ?_⟩ <;> (try simp only [height]) <;> omega
        · rw [turnL_out c]
          simp only [height] at *
          refine ⟨⟨⟨hl, b1, ?_, ?_⟩, b2, ?_, ?_⟩, ?_, ?_, ?_⟩ <;> (try simp only [height]) <;> omega
    · rw [if_neg c2]
      simp only [height]
      refine ⟨⟨hl, hr, ?_, ?_⟩, ?_, ?_, ?_⟩ <;> first | omega | exact fun _ _ => trivial

theorem bal_join_of (n : Nat) : ∀ (l r : Tr K V) (k : K) (v : V), l.size + r.size ≤ n → Bal l → Bal r →
    Bal (join l k v r) ∧ (join l k v r).height ≤ max l.height r.height + 1 ∧ max l.height r.height ≤ (join l k v r).height ∧
    (l.height ≤ r.height + 1 → r.height ≤ l.height + 1 → (join l k v r).height = max l.height r.height + 1) := by
  induction n with
  | zero =>
    intro l r k v h hl hr
    have e1 : l.height ≤ l.size := height_le l
    have e2 : r.height ≤ r.size := height_le r
    rw [join_even k v (by omega) (by omega)]
    simp only [height]
    refine ⟨⟨hl, hr, ?_, ?_⟩, ?_, ?_, ?_⟩ <;> first | omega | exact fun _ _ => trivial
  | succ n ih =>
    intro l r k v h hl hr
    by_cases c1 : r.height + 1 < l.height
    · cases l with
      | nil => simp [height] at c1
      | node ll lk lv lr =>
        obtain ⟨b1, b2, b3, b4⟩ := hl
        rw [join_left k v c1]
        have hj := ih lr r k v (by simp only [size] at h; omega) b2 hr
        generalize join lr k v r = j at hj ⊢
        simp only [height] at *
        obtain ⟨j1, j2, j3, j4⟩ := hj
        obtain ⟨g1, g2, g3, g4⟩ := bal_balance lk lv b1 j1 (by omega) (by omega)
        generalize balance ll lk lv j = q at *
        refine ⟨g1, ?_, ?_, ?_⟩ <;> omega
    · by_cases c2 : l.height + 1 < r.height
      · cases r with
        | nil => simp [height] at c2
        | node rl rk rv rr =>
          obtain ⟨b1, b2, b3, b4⟩ := hr
          rw [join_right k v c2]
          have hj := ih l rl k v (by simp only [size] at h; omega) hl b1
          generalize join l k v rl = j at hj ⊢
          simp only [height] at *
          obtain ⟨j1, j2, j3, j4⟩ := hj
          obtain ⟨g1, g2, g3, g4⟩ := bal_balance rk rv j1 b2 (by omega) (by omega)
          generalize balance j rk rv rr = q at *
          refine ⟨g1, ?_, ?_, ?_⟩ <;> omega
      · rw [join_even k v c1 c2]
        simp only [height]
        refine ⟨⟨hl, hr, ?_, ?_⟩, ?_, ?_, ?_⟩ <;> first | omega | exact fun _ _ => trivial
theorem bal_join {l r : Tr K V} (k : K) (v : V) (hl : Bal l) (hr : Bal r) :
    Bal (join l k v r) ∧ (join l k v r).height ≤ max l.height r.height + 1 ∧ max l.height r.height ≤ (join l k v r).height ∧
    (l.height ≤ r.height + 1 → r.height ≤ l.height + 1 → (join l k v r).height = max l.height r.height + 1) := bal_join_of _ l r k v (Nat.le_refl _) hl hr

theorem bal_dropFirst (l : Tr K V) : ∀ (k : K) (v : V) (r : Tr K V), Bal (node l k v r) → Bal (dropFirst (node l k v r)) ∧ (dropFirst (node l k v r)).height ≤ (node l k v r).height ∧ (node l k v r).height ≤ (dropFirst (node l k v r)).height + 1 := by
  induction l with
  | nil =>
    rintro k v r ⟨h1, h2, h3, h4⟩
    rw [dropFirst]
    simp only [height] at *
    refine ⟨h2, ?_, ?_⟩ <;> omega
  | node a b c d iha _ =>
    rintro k v r ⟨h1, h2, h3, h4⟩
    rw [dropFirst]
    have hj := iha b c d h1
    have he : (node (node a b c d) k v r).height = max (node a b c d).height r.height + 1 := rfl
    rw [he]
    generalize dropFirst (node a b c d) = j at hj ⊢
    generalize (node a b c d).height = hh at *
    obtain ⟨j1, j2, j3⟩ := hj
    obtain ⟨g1, g2, g3, g4⟩ := bal_balance k v j1 h2 (by omega) (by omega)
    generalize balance j k v r = q at *
    refine ⟨g1, ?_, ?_⟩ <;> omega

theorem bal_glue {l r : Tr K V} (hl : Bal l) (hr : Bal r) (h1 : l.height ≤ r.height + 1) (h2 : r.height ≤ l.height + 1) :
    Bal (glue l r) ∧ (glue l r).height ≤ max l.height r.height + 1 ∧ max l.height r.height ≤ (glue l r).height := by
  cases r with
  | nil => simp only [glue, height]; exact ⟨hl, by omega, by omega⟩
  | node rl rk rv rr =>
    rw [glue]
    obtain ⟨d1, d2, d3⟩ := bal_dropFirst rl rk rv rr hr
    generalize (node rl rk rv rr).height = hh at *
    generalize dropFirst (node rl rk rv rr) = q at *
    obtain ⟨g1, g2, g3, g4⟩ := bal_join (firstOf rl rk rv).1 (firstOf rl rk rv).2 hl d1
    generalize join l (firstOf rl rk rv).1 (firstOf rl rk rv).2 q = j at *
    refine ⟨g1, ?_, ?_⟩ <;> omega
end

section
variable {K V : Type} [o : KOrd K]

theorem bal_put (t : Tr K V) (x : K) (y : V) (h : Bal t) : Bal (put t x y) ∧ (put t x y).height ≤ t.height + 1 ∧ t.height ≤ (put t x y).height := by
  induction t with
  | nil => simp [put, Bal, height]
  | node l k v r hl hr =>
    obtain ⟨b1, b2, b3, b4⟩ := h
    have he : (node l k v r).height = max l.height r.height + 1 := rfl
    rw [he, put]
    split
    · obtain ⟨j1, j2, j3⟩ := hl b1
      generalize put l x y = j at *
      obtain ⟨g1, g2, g3, g4⟩ := bal_balance k v j1 b2 (by omega) (by omega)
      generalize balance j k v r = q at *
      refine ⟨g1, ?_, ?_⟩ <;> omega
    · split
      · obtain ⟨j1, j2, j3⟩ := hr b2
        generalize put r x y = j at *
        obtain ⟨g1, g2, g3, g4⟩ := bal_balance k v b1 j1 (by omega) (by omega)
        generalize balance l k v j = q at *
        refine ⟨g1, ?_, ?_⟩ <;> omega
      · refine ⟨⟨b1, b2, b3, b4⟩, ?_, ?_⟩ <;> simp only [height] <;> omega

theorem bal_drop (t : Tr K V) (x : K) (h : Bal t) : Bal (drop t x) ∧ (drop t x).height ≤ t.height ∧ t.height ≤ (drop t x).height + 1 := by
  induction t with
  | nil => simp [drop, Bal, height]
  | node l k v r hl hr =>
    obtain ⟨b1, b2, b3, b4⟩ := h
    have he : (node l k v r).height = max l.height r.height + 1 := rfl
    rw [he, drop]
    split
    · obtain ⟨j1, j2, j3⟩ := hl b1
      generalize drop l x = j at *
      obtain ⟨g1, g2, g3, g4⟩ := bal_balance k v j1 b2 (by omega) (by omega)
      generalize balance j k v r = q at *
      refine ⟨g1, ?_, ?_⟩ <;> omega
    · split
      · obtain ⟨j1, j2, j3⟩ := hr b2
        generalize drop r x = j at *
        obtain ⟨g1, g2, g3, g4⟩ := bal_balance k v b1 j1 (by omega) (by omega)
        generalize balance l k v j = q at *
        refine ⟨g1, ?_, ?_⟩ <;> omega
      · obtain ⟨g1, g2, g3⟩ := bal_glue b1 b2 b3 b4
        refine ⟨g1, ?_, ?_⟩ <;> omega

theorem bal_del (t : Tr K V) (x : K) (h : Bal t) : Bal (del t x) := by
  unfold del
  split
  · exact h
  · exact (bal_drop t x h).1
end

section
variable {K V : Type}

/-- How many a balanced tree holds at least. -/
theorem bal_size (t : Tr K V) (h : Bal t) : 2 ^ (t.height / 2) ≤ t.size + 1 := by
  induction t with
  | nil => simp [height, size]
  | node l k v r hl hr =>
    obtain ⟨b1, b2, b3, b4⟩ := h
    have h1 := hl b1
    have h2 := hr b2
    simp only [height, size]
    by_cases c : max l.height r.height = 0
    · rw [c]; simp
    · have e : (max l.height r.height + 1) / 2 = (max l.height r.height - 1) / 2 + 1 := by omega
      have p1 : 2 ^ ((max l.height r.height - 1) / 2) ≤ 2 ^ (l.height / 2) := Nat.pow_le_pow_right (by decide) (by omega)
      have p2 : 2 ^ ((max l.height r.height - 1) / 2) ≤ 2 ^ (r.height / 2) := Nat.pow_le_pow_right (by decide) (by omega)
      rw [e, Nat.pow_succ]
      omega

theorem bal_height (t : Tr K V) (h : Bal t) : t.height ≤ 2 * bits t.size + 1 := by
  have h1 := bal_size t h
  have h2 := bits_lt t.size
  have h3 : ¬ bits t.size < t.height / 2 := fun hc => by
    have : 2 ^ (bits t.size + 1) ≤ 2 ^ (t.height / 2) := Nat.pow_le_pow_right (by decide) (by omega)
    rw [Nat.pow_succ] at this
    have : 0 < 2 ^ bits t.size := Nat.pow_pos (by decide)
    omega
  omega
end
end Tr
end Go.Proofs.Ytafghmhhmpfefaa
