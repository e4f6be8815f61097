/-
  Plain: a heap's things, and the same in the order in which they were pushed: the first of the least is the top.
-/
import Derived.Test.YtmbaedldikobcaaKHeapN
import Derived.Test.YtmbaedldikobcaaKLeast
namespace Go.Proofs.Ytmbaedldikobcaa
open Go.RowKit
set_option linter.unusedVariables false

def kn (x : Hp) : Int × Int := (x.key, x.num)
def kns (W : List Hp) : List (Int × Int) := W.map kn
theorem kns_len (W : List Hp) : (kns W).length = W.length := by simp [kns]
theorem kns_append (a b : List Hp) : kns (a ++ b) = kns a ++ kns b := by simp [kns]
theorem kns_take (a : List Hp) (k : Nat) : kns (a.take k) = (kns a).take k := by simp [kns]
theorem kns_drop (a : List Hp) (k : Nat) : kns (a.drop k) = (kns a).drop k := by simp [kns]
theorem keyAt_kns {W : List Hp} {j : Nat} (h : j < W.length) : keyAt (kns W) j = (W[j]).key := by simp [keyAt, kns, kn, List.getD, h]

/-- The heap's things L are those of W, which stand in the order of their turns. -/
structure Both (W L : List Hp) (t : Int) : Prop where
  perm : L.Perm W
  rise : W.Pairwise (fun a b => a.turn < b.turn)
  less : ∀ x ∈ W, x.turn < t
  keys : KeysIn W
  nums : ∀ x ∈ W, InI x.num
  ok : HeapOk id (atH L) L.length

theorem Both.nil (t : Int) : Both [] [] t := ⟨List.Perm.refl _, List.Pairwise.nil, (fun x h => by cases h), (fun x h => by cases h), (fun x h => by cases h), (fun j h1 h2 => by simp at h2)⟩
theorem Both.keysL {W L : List Hp} {t : Int} (h : Both W L t) : KeysIn L := fun x hx => h.keys x (h.perm.mem_iff.1 hx)
theorem Both.len {W L : List Hp} {t : Int} (h : Both W L t) : L.length = W.length := h.perm.length_eq
theorem Both.push {W L L' : List Hp} {t k m : Int} (h : Both W L t) (hk : InI k) (hm : InI m) (hp : L'.Perm (L ++ [⟨k, m, t⟩])) (hO : HeapOk id (atH L') (L.length + 1)) : Both (W ++ [⟨k, m, t⟩]) L' (t + 1) := by
  refine ⟨hp.trans (h.perm.append_right _), ?_, fun x hx => ?_, fun x hx => ?_, fun x hx => ?_, ?_⟩
  · rw [List.pairwise_append]
    refine ⟨h.rise, List.pairwise_singleton _ _, fun a ha b hb => ?_⟩
    obtain rfl : b = ⟨k, m, t⟩ := by simpa using hb
    exact h.less a ha
  · rcases List.mem_append.1 hx with hx | hx
    · have := h.less x hx; omega
    · obtain rfl : x = ⟨k, m, t⟩ := by simpa using hx
      simp only; omega
  · rcases List.mem_append.1 hx with hx | hx
    · exact h.keys x hx
    · obtain rfl : x = ⟨k, m, t⟩ := by simpa using hx
      exact hk
  · rcases List.mem_append.1 hx with hx | hx
    · exact h.nums x hx
    · obtain rfl : x = ⟨k, m, t⟩ := by simpa using hx
      exact hm
  · have := hp.length_eq
    rw [show L'.length = L.length + 1 by simpa using this]; exact hO
theorem Both.none {W L : List Hp} {t r : Int} (h : Both W L t) (h0 : L.length = 0) (hb : Bst (kns W) (kns W).length r) : r = -1 ∧ W = [] ∧ L = [] := by
  have hW : W = [] := List.eq_nil_of_length_eq_zero (by rw [← h.len]; exact h0)
  subst hW
  rcases hb with ⟨_, e⟩ | ⟨b, _, e, _⟩
  · exact ⟨e, rfl, List.eq_nil_of_length_eq_zero h0⟩
  · simp [kns] at e
theorem Both.best {W L : List Hp} {t r : Int} (h : Both W L t) (h0 : 0 < L.length) (hb : Bst (kns W) (kns W).length r) : ∃ a : Nat, r = (a : Int) ∧ ∃ hl : a < W.length, W[a] = atH L 0 := by
  rcases hb with ⟨e, _⟩ | ⟨a, rfl, ha, hall⟩
  · rw [kns_len, ← h.len] at e; omega
  · rw [kns_len] at ha
    refine ⟨a, rfl, ha, ?_⟩
    have htm : atH L 0 ∈ W := h.perm.mem_iff.1 (by rw [atH_eq h0]; exact List.getElem_mem h0)
    obtain ⟨k, hk, hke⟩ := List.getElem_of_mem htm
    have ham : W[a] ∈ L := h.perm.mem_iff.2 (List.getElem_mem ha)
    obtain ⟨i, hi, hie⟩ := List.getElem_of_mem ham
    have htop := h.ok.top i hi
    rw [atH_eq hi, hie, ← hke] at htop
    have hkk := hall k (by rw [kns_len]; exact hk)
    rw [keyAt_kns ha, keyAt_kns hk] at hkk
    have hr := List.pairwise_iff_getElem.1 h.rise
    rw [← hke]
    rcases Nat.lt_trichotomy a k with h1 | h1 | h1
    · exfalso
      have h2 := hr a k ha hk h1
      unfold Ahd at htop
      simp only [id] at htop
      omega
    · subst h1; rfl
    · exfalso
      have h2 := hkk.2 h1
      unfold Ahd at htop
      simp only [id] at htop
      omega
theorem Both.pop {W L L' : List Hp} {t : Int} {a : Nat} (h : Both W L t) (hl : a < W.length) (ha : W[a] = atH L 0) (hp : (atH L 0 :: L').Perm L) (hO : HeapOk id (atH L') (L.length - 1)) : Both (W.take a ++ W.drop (a + 1)) L' t := by
  rw [← List.eraseIdx_eq_take_drop_succ]
  have hs := List.eraseIdx_sublist W a
  refine ⟨?_, h.rise.sublist hs, fun x hx => h.less x (hs.subset hx), fun x hx => h.keys x (hs.subset hx), fun x hx => h.nums x (hs.subset hx), ?_⟩
  · have h1 : (W[a] :: (W.take a ++ W.drop (a + 1))).Perm W := by
      have e := List.take_append_drop a W
      rw [← List.getElem_cons_drop hl] at e
      exact List.perm_middle.symm.trans (List.Perm.of_eq e)
    rw [ha] at h1
    rw [List.eraseIdx_eq_take_drop_succ]
    exact List.perm_cons (atH L 0) |>.1 ((hp.trans h.perm).trans h1.symm)
  · have := hp.length_eq
    rw [show L'.length = L.length - 1 by simp at this; omega]; exact hO
end Go.Proofs.Ytmbaedldikobcaa
