/-
  Plain: where the keys of a tree stand.
-/
import Derived.Test.YtkobiimkaimbaaaKBuilt
namespace Go.Proofs.Ytkobiimkaimbaaa
set_option linter.unusedVariables false

theorem there_nth (t : Tr ByteArray Int) (k : ByteArray) (h : Srt t.toL) {l r : Tr ByteArray Int} {v : Int} (hf : Tr.find t k = .node l k v r) : ∃ l' v' r', Tr.nth t ((Tr.rank t k : Nat) : Int) = .node l' k v' r' := by
  rcases Tr.find_atKey t k h with ⟨e, _⟩ | ⟨_, v2, _, _, ha⟩
  · rw [e] at hf; cases hf
  · have hp := h.parts k
    have hr := Tr.rank_below t k h
    have hlt : Tr.rank t k < t.toL.length := by
      rw [hp, ha, hr]; simp
    obtain ⟨l', r', hn⟩ := Tr.nth_some t (Tr.rank t k) hlt
    have hg : t.toL[Tr.rank t k]? = some (k, v2) := by
      rw [hp, ha, hr, List.getElem?_append_right (Nat.le_refl _)]
      simp
    have hk : t.toL[Tr.rank t k] = (k, v2) := (List.getElem?_eq_some_iff.1 hg).2
    rw [hk] at hn
    exact ⟨l', v2, r', hn⟩
theorem none_floor (t : Tr ByteArray Int) (k : ByteArray) (h : Srt t.toL) (hf : Tr.find t k = .nil) : Tr.nth t ((Tr.rank t k : Int) - 1) = .nil ∨ ∃ l' f x r', Tr.nth t ((Tr.rank t k : Int) - 1) = .node l' f x r' ∧ KOrd.lt f k = true := by
  rcases Tr.find_atKey t k h with ⟨_, ha⟩ | ⟨_, _, _, e, _⟩
  · have hp := h.parts k
    have hr := Tr.rank_below t k h
    rw [ha, List.nil_append] at hp
    rcases Nat.eq_zero_or_pos (Tr.rank t k) with h0 | h0
    · exact .inl (Tr.nth_none _ _ (.inl (by omega)))
    · have hlt : Tr.rank t k - 1 < (below t.toL k).length := by omega
      have hlt2 : Tr.rank t k - 1 < t.toL.length := by
        have : t.toL.length = (below t.toL k ++ above t.toL k).length := congrArg List.length hp
        rw [List.length_append] at this; omega
      obtain ⟨l', r', hn⟩ := Tr.nth_some t (Tr.rank t k - 1) hlt2
      have hg : t.toL[Tr.rank t k - 1]? = some ((below t.toL k)[Tr.rank t k - 1]) := by
        conv => lhs; rw [hp]
        rw [List.getElem?_append_left hlt, List.getElem?_eq_getElem hlt]
      have hk : t.toL[Tr.rank t k - 1] = (below t.toL k)[Tr.rank t k - 1] := (List.getElem?_eq_some_iff.1 hg).2
      rw [show (Tr.rank t k : Int) - 1 = ((Tr.rank t k - 1 : Nat) : Int) by omega, hn, hk]
      exact .inr ⟨_, _, _, _, rfl, (mem_below.1 (List.getElem_mem hlt)).2⟩
  · rw [e] at hf; cases hf
theorem none_ceil (t : Tr ByteArray Int) (k : ByteArray) (h : Srt t.toL) (hf : Tr.find t k = .nil) : Tr.nth t ((Tr.rank t k : Nat) : Int) = .nil ∨ ∃ l' c x r', Tr.nth t ((Tr.rank t k : Nat) : Int) = .node l' c x r' ∧ KOrd.lt k c = true := by
  rcases Tr.find_atKey t k h with ⟨_, ha⟩ | ⟨_, _, _, e, _⟩
  · have hp := h.parts k
    have hr := Tr.rank_below t k h
    rw [ha, List.nil_append] at hp
    have hlen : t.toL.length = (below t.toL k).length + (above t.toL k).length := by
      have : t.toL.length = (below t.toL k ++ above t.toL k).length := congrArg List.length hp
      rwa [List.length_append] at this
    rcases Nat.eq_zero_or_pos (above t.toL k).length with h0 | h0
    · exact .inl (Tr.nth_none _ _ (.inr (by rw [← Tr.size_toL]; omega)))
    · have hlt2 : Tr.rank t k < t.toL.length := by omega
      obtain ⟨l', r', hn⟩ := Tr.nth_some t (Tr.rank t k) hlt2
      have hg : t.toL[Tr.rank t k]? = some ((above t.toL k)[0]) := by
        conv => lhs; rw [hp]
        rw [hr, List.getElem?_append_right (Nat.le_refl _), Nat.sub_self, List.getElem?_eq_getElem h0]
      have hk : t.toL[Tr.rank t k] = (above t.toL k)[0] := (List.getElem?_eq_some_iff.1 hg).2
      rw [hn, hk]
      exact .inr ⟨_, _, _, _, rfl, (mem_above.1 (List.getElem_mem h0)).2⟩
  · rw [e] at hf; cases hf

theorem lput_has {l : List Ent} {k x : ByteArray} {v : Int} (h : ∃ b ∈ l, b.1 = x) : ∃ b ∈ lput l k v, b.1 = x := by
  obtain ⟨b, hb, rfl⟩ := h
  unfold lput
  cases h1 : KOrd.lt b.1 k
  · cases h2 : KOrd.lt k b.1
    · exact ⟨(k, v), by simp, (KOrd.tri h1 h2).symm⟩
    · exact ⟨b, by simp [mem_above.2 ⟨hb, h2⟩], rfl⟩
  · exact ⟨b, by simp [mem_below.2 ⟨hb, h1⟩], rfl⟩
theorem treeOf_has (l : List Ent) : ∀ k, k ≤ l.length → ∀ n (hn : n < l.length), n < k → ∃ b ∈ (treeOf (l.take k)).toL, b.1 = (l[n]).1 := by
  intro k
  induction k with
  | zero => intro _ n _ h; omega
  | succ k ih =>
    intro h n hn hnk
    rw [treeOf_snoc l k (by omega), Tr.toL_put _ _ _ (treeOf_list l k (by omega)).1]
    by_cases e : n = k
    · subst e
      exact ⟨((l[n]).1, (l[n]).2), by unfold lput; simp, rfl⟩
    · exact lput_has (ih (by omega) n hn (by omega))
theorem treeOf_srt (l : List Ent) : Srt (treeOf l).toL := by
  have := (treeOf_list l l.length (Nat.le_refl _)).1
  rwa [List.take_length] at this
theorem treeOf_size (l : List Ent) : (treeOf l).size ≤ l.length := by
  have := (treeOf_list l l.length (Nat.le_refl _)).2.2
  rwa [List.take_length] at this
theorem treeOf_find (l : List Ent) (n : Nat) (hn : n < l.length) : ∃ a v b, Tr.find (treeOf l) (l[n]).1 = .node a (l[n]).1 v b := by
  obtain ⟨b, hb, he⟩ := treeOf_has l l.length (Nat.le_refl _) n hn hn
  rw [List.take_length] at hb
  rcases Tr.find_atKey (treeOf l) (l[n]).1 (treeOf_srt l) with ⟨_, ha⟩ | ⟨a, v, c, e, _⟩
  · have := mem_atKey.2 ⟨hb, he⟩
    rw [ha] at this
    cases this
  · exact ⟨a, v, c, e⟩

end Go.Proofs.Ytkobiimkaimbaaa
