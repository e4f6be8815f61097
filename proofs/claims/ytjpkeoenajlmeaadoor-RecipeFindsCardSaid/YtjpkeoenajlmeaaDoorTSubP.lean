/-
  Plain: the subterms of a term, each once, what stands in it ahead of it.
-/
import Derived.Test.YtjpkeoenajlmeaaDoorTBase
namespace Go.Proofs.YtjpkeoenajlmeaaDoor
set_option linter.unusedVariables false

/-- What stands in a term has a number of its own, and a less one. -/
theorem kid_less {p : Pl} (hp : Ok p) {t : Int} (hin : inP p t = true) :
    ((atP p t).1.a = 0 ∨ (inP p (atP p t).1.a = true ∧ (atP p t).1.a < t)) ∧ ((atP p t).1.b = 0 ∨ (inP p (atP p t).1.b = true ∧ (atP p t).1.b < t)) := by
  induction hp with
  | nil => simp [inP] at hin; omega
  | @add p n hp he hn hl ih =>
    by_cases h : inP p t = true
    · obtain ⟨h1, h2⟩ := ih h
      rw [addP, atP_append h]
      refine ⟨h1.imp id fun x => ⟨inP_le x.1 (by simp), x.2⟩, h2.imp id fun x => ⟨inP_le x.1 (by simp), x.2⟩⟩
    · have ht : t = (p.length : Int) + 1 := by
        unfold inP at h hin
        unfold addP at hin
        simp at h hin
        omega
      have hat : (atP (addP p n) t).1 = n := by
        unfold atP
        rw [if_pos hin, ht, addP]
        simp [List.getD]
      rw [hat]
      obtain ⟨h1, h2⟩ := kid_in he
      have hlt : ∀ x, inP p x = true → x < t := fun x hx => by unfold inP at hx; simp at hx; omega
      exact ⟨h1.imp id fun x => ⟨inP_le x (by simp [addP]), hlt _ x⟩, h2.imp id fun x => ⟨inP_le x (by simp [addP]), hlt _ x⟩⟩

/-- Behind acc those subterms that are not there yet. -/
def over (p : Pl) : Nat → Int → List Int → List Int
  | 0, _, acc => acc
  | f + 1, t, acc => if inP p t = true ∧ t ∉ acc then over p f (atP p t).1.b (over p f (atP p t).1.a acc) ++ [t] else acc

theorem over_out (p : Pl) (f : Nat) {t : Int} {acc : List Int} (h : ¬ (inP p t = true ∧ t ∉ acc)) : over p f t acc = acc := by
  cases f with
  | zero => rfl
  | succ f => rw [over, if_neg h]
theorem over_in (p : Pl) (f : Nat) {t : Int} {acc : List Int} (h : inP p t = true) (h' : t ∉ acc) : over p (f + 1) t acc = over p f (atP p t).1.b (over p f (atP p t).1.a acc) ++ [t] := by rw [over, if_pos ⟨h, h'⟩]
theorem over_more (p : Pl) : ∀ (f : Nat) (t : Int) (acc : List Int), acc <+: over p f t acc
  | 0, _, _ => List.prefix_refl _
  | f + 1, t, acc => by
    by_cases h : inP p t = true ∧ t ∉ acc
    · rw [over_in p f h.1 h.2]
      exact ((over_more p f _ acc).trans (over_more p f _ _)).trans (List.prefix_append _ _)
    · rw [over_out p _ h]; exact List.prefix_refl _
theorem over_new {p : Pl} (hp : Ok p) : ∀ (f : Nat) (t : Int) (acc : List Int) (x : Int), x ∈ over p f t acc → x ∈ acc ∨ (inP p x = true ∧ x ≤ t)
  | 0, _, _, _, h => .inl h
  | f + 1, t, acc, x, h => by
    by_cases hc : inP p t = true ∧ t ∉ acc
    · rw [over_in p f hc.1 hc.2] at h
      obtain ⟨ka, kb⟩ := kid_less hp hc.1
      have hsub : ∀ (k : Int) (ac : List Int), (k = 0 ∨ (inP p k = true ∧ k < t)) → x ∈ over p f k ac → x ∈ ac ∨ (inP p x = true ∧ x ≤ t) := fun k ac hk hx => by
        rcases over_new hp f k ac x hx with h1 | ⟨h1, h2⟩
        · exact .inl h1
        · rcases hk with rfl | hk
          · exact absurd h1 (by unfold inP; simp; omega)
          · exact .inr ⟨h1, by omega⟩
      rcases List.mem_append.1 h with h | h
      · rcases hsub _ _ kb h with h | h
        · exact hsub _ _ ka h
        · exact .inr h
      · obtain rfl : x = t := by simpa using h
        exact .inr ⟨hc.1, Int.le_refl _⟩
    · rw [over_out p _ hc] at h; exact .inl h
theorem over_nodup {p : Pl} (hp : Ok p) : ∀ (f : Nat) (t : Int) (acc : List Int), acc.Nodup → (over p f t acc).Nodup
  | 0, _, _, h => h
  | f + 1, t, acc, h => by
    by_cases hc : inP p t = true ∧ t ∉ acc
    · rw [over_in p f hc.1 hc.2]
      obtain ⟨ka, kb⟩ := kid_less hp hc.1
      rw [List.nodup_append]
      refine ⟨over_nodup hp f _ _ (over_nodup hp f _ _ h), by simp, fun x hx y hy => ?_⟩
      obtain rfl : y = t := by simpa using hy
      rintro rfl
      rcases over_new hp f _ _ _ hx with h1 | ⟨h1, h2⟩
      · rcases over_new hp f _ _ _ h1 with h3 | ⟨h3, h4⟩
        · exact hc.2 h3
        · rcases ka with e | e
          · rw [e] at h4; unfold inP at h3; simp at h3; omega
          · omega
      · rcases kb with e | e
        · rw [e] at h2; unfold inP at h1; simp at h1; omega
        · omega
    · rw [over_out p _ hc]; exact h
theorem over_has {p : Pl} (f : Nat) {t : Int} {acc : List Int} (h : inP p t = true) (hf : 0 < f) : t ∈ over p f t acc := by
  obtain ⟨f, rfl⟩ : ∃ g, f = g + 1 := ⟨f - 1, by omega⟩
  by_cases hc : t ∈ acc
  · rw [over_out p _ (fun h => h.2 hc)]; exact hc
  · rw [over_in p f h hc]; simp
/-- A term's subterms. -/
def subs (p : Pl) (t : Int) : List Int := over p p.length t []
theorem subs_in {p : Pl} (hp : Ok p) {t x : Int} (h : x ∈ subs p t) : inP p x = true := by
  rcases over_new hp _ _ _ _ h with h | h
  · cases h
  · exact h.1
theorem nodup_len {l : List Int} (hn : l.Nodup) {n : Nat} (h : ∀ x ∈ l, 1 ≤ x ∧ x ≤ (n : Int)) : l.length ≤ n := by
  have h1 : (l.map Int.toNat).Nodup := by
    rw [List.Nodup, List.pairwise_map]
    refine hn.imp_of_mem fun {a b} ha hb hab => ?_
    have := h a ha; have := h b hb; omega
  have h2 : (l.map Int.toNat) ⊆ List.range (n + 1) := fun x hx => by
    obtain ⟨y, hy, rfl⟩ := List.mem_map.1 hx
    have := h y hy
    simp; omega
  have h3 : (0 :: l.map Int.toNat).Nodup := List.nodup_cons.2 ⟨fun hx => by
    obtain ⟨y, hy, e⟩ := List.mem_map.1 hx
    have := h y hy; omega, h1⟩
  have h4 : (0 :: l.map Int.toNat) ⊆ List.range (n + 1) := fun x hx => by
    rcases List.mem_cons.1 hx with rfl | hx
    · simp
    · exact h2 hx
  have := h3.length_le_of_subset h4
  simp at this
  omega
theorem subs_len {p : Pl} (hp : Ok p) (t : Int) : (subs p t).length ≤ p.length :=
  nodup_len (over_nodup hp _ _ _ List.nodup_nil) fun x hx => by have := subs_in hp hx; unfold inP at this; simpa using this
end Go.Proofs.YtjpkeoenajlmeaaDoor
