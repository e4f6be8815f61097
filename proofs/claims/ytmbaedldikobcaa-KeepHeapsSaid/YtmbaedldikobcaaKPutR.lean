/-
  The document's own Put on lists of entries: what it makes, and that it is what a map makes.
-/
import Derived.Test.YtmbaedldikobcaaKLive
import Derived.Test.YtmbaedldikobcaaKArgs
namespace Go.Proofs.Ytmbaedldikobcaa
open Go.RowKit
set_option linter.unusedVariables false

abbrev EntR : TypeId := 48
abbrev Ent := ByteArray × Int
def ents (l : List Ent) : List Value := l.flatMap fun x => [.string x.1, .int .i64 x.2]
theorem ents_length (l : List Ent) : (ents l).length = l.length * 2 := by
  induction l with
  | nil => rfl
  | cons a l ih => simp [ents, List.flatMap_cons] at ih ⊢; omega
theorem ents_append (a b : List Ent) : ents (a ++ b) = ents a ++ ents b := by simp [ents]
theorem ents_at (l : List Ent) : ∀ (i : Nat) (h : i < l.length), (ents l)[i * 2]? = some (.string (l[i]).1) ∧ (ents l)[i * 2 + 1]? = some (.int .i64 (l[i]).2) := by
  induction l with
  | nil => intro i h; simp at h
  | cons a l ih =>
    intro i h
    have e : ents (a :: l) = .string a.1 :: .int .i64 a.2 :: ents l := by simp [ents]
    cases i with
    | zero => simp [e]
    | succ i =>
      have := ih i (by simpa using h)
      rw [e, show (i + 1) * 2 = i * 2 + 1 + 1 by omega, show i * 2 + 1 + 1 + 1 = (i * 2 + 1) + 1 + 1 by omega]
      simpa using this
theorem rowE : (Try.prog.info? 48).map (fun i => (i.zero, i.size, i.bytes)) = some (some (.agg #[.string ⟨#[]⟩, .int .i64 0]), 2, 24) := by kernel_rfl

/-- One entry's turn. -/
def pst1 (k : ByteArray) (v : Int) (s : List Ent × Bool) (x : Ent) : List Ent × Bool :=
  match s.2, KOrd.lt x.1 k, KOrd.lt k x.1 with
  | false, true, _ => (s.1 ++ [x], false)
  | false, false, true => (s.1 ++ [(k, v)] ++ [x], true)
  | false, false, false => (s.1 ++ [(k, v)], true)
  | true, true, _ => (s.1 ++ [x], true)
  | true, false, true => (s.1 ++ [x], true)
  | true, false, false => (s.1, true)
def pst (l : List Ent) (k : ByteArray) (v : Int) : List Ent × Bool := l.foldl (pst1 k v) ([], false)
def rput (l : List Ent) (k : ByteArray) (v : Int) : List Ent := if (pst l k v).2 then (pst l k v).1 else (pst l k v).1 ++ [(k, v)]
theorem pst_snoc (l : List Ent) (k : ByteArray) (v : Int) (i : Nat) (h : i < l.length) : pst (l.take (i + 1)) k v = pst1 k v (pst (l.take i) k v) (l[i]) := by
  unfold pst
  rw [List.take_succ_eq_append_getElem h, List.foldl_append]
  rfl
theorem pst1_len (k : ByteArray) (v : Int) (s : List Ent × Bool) (x : Ent) : (pst1 k v s x).1.length ≤ s.1.length + 2 := by
  unfold pst1
  split <;> simp
theorem pst_len (l : List Ent) (k : ByteArray) (v : Int) (i : Nat) : (pst (l.take i) k v).1.length ≤ 2 * i := by
  induction i with
  | zero => simp [pst]
  | succ i ih =>
    by_cases h : i < l.length
    · rw [pst_snoc l k v i h]
      have := pst1_len k v (pst (l.take i) k v) (l[i])
      omega
    · rw [List.take_of_length_le (by omega)]
      rw [List.take_of_length_le (by omega)] at ih
      omega
theorem pst_low (k : ByteArray) (v : Int) (o : List Ent) : ∀ l : List Ent, (∀ b ∈ l, KOrd.lt b.1 k = true) → l.foldl (pst1 k v) (o, false) = (o ++ l, false) := by
  intro l
  induction l generalizing o with
  | nil => intro _; simp
  | cons a l ih =>
    intro h
    have e : pst1 k v (o, false) a = (o ++ [a], false) := by unfold pst1; simp [h a (by simp)]
    rw [List.foldl_cons, e, ih _ (fun b hb => h b (by simp [hb]))]
    simp
theorem pst_high (k : ByteArray) (v : Int) (o : List Ent) : ∀ l : List Ent, (∀ b ∈ l, KOrd.lt k b.1 = true) → l.foldl (pst1 k v) (o, true) = (o ++ l, true) := by
  intro l
  induction l generalizing o with
  | nil => intro _; simp
  | cons a l ih =>
    intro h
    have h1 := h a (by simp)
    have e : pst1 k v (o, true) a = (o ++ [a], true) := by unfold pst1; simp [h1, KOrd.asym h1]
    rw [List.foldl_cons, e, ih _ (fun b hb => h b (by simp [hb]))]
    simp
theorem rput_lput (l : List Ent) (k : ByteArray) (v : Int) (h : Srt l) : rput l k v = lput l k v := by
  have hp := h.parts k
  have hb : ∀ b ∈ below l k, KOrd.lt b.1 k = true := fun b hb => (mem_below.1 hb).2
  have ha : ∀ b ∈ above l k, KOrd.lt k b.1 = true := fun b hb => (mem_above.1 hb).2
  have hk := atKey_short h k
  have hs : pst l k v = (atKey l k ++ above l k).foldl (pst1 k v) (below l k, false) := by
    conv => lhs; unfold pst; rw [hp]
    rw [List.foldl_append, pst_low k v [] _ hb]
    simp
  unfold rput lput
  rw [hs]
  cases e : atKey l k with
  | nil =>
    simp only [List.nil_append]
    cases ea : above l k with
    | nil => simp
    | cons x r =>
      have hx : KOrd.lt k x.1 = true := ha x (by rw [ea]; simp)
      have e1 : pst1 k v (below l k, false) x = (below l k ++ [(k, v)] ++ [x], true) := by unfold pst1; simp [hx, KOrd.asym hx]
      rw [List.foldl_cons, e1, pst_high k v _ r (fun b hb => ha b (by rw [ea]; simp [hb]))]
      simp
  | cons x r =>
    have hr : r = [] := by
      rw [e] at hk
      simp at hk
      exact hk
    subst hr
    have hxk : x.1 = k := (mem_atKey.1 (show x ∈ atKey l k by rw [e]; simp)).2
    have e1 : pst1 k v (below l k, false) x = (below l k ++ [(k, v)], true) := by unfold pst1; simp [hxk, KOrd.irr]
    rw [List.cons_append, List.nil_append, List.foldl_cons, e1, pst_high k v _ _ ha]
    simp

end Go.Proofs.Ytmbaedldikobcaa
