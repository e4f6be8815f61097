/-
  Plain: what the document's own Add, SetOf, Has, Only make of lists of ints, and that it is what sets are.
-/
import Derived.Test.YtkobiimkaimbaaaKSpl
import Derived.Test.YtkobiimkaimbaaaKSet
namespace Go.Proofs.Ytkobiimkaimbaaa
set_option linter.unusedVariables false

/-- One number's turn. -/
def ast1 (k : Int) (s : List Int × Bool) (x : Int) : List Int × Bool :=
  match s.2, KOrd.lt x k, KOrd.lt k x with
  | false, true, _ => (s.1 ++ [x], false)
  | false, false, true => (s.1 ++ [k] ++ [x], true)
  | false, false, false => (s.1 ++ [k], true)
  | true, true, _ => (s.1 ++ [x], true)
  | true, false, true => (s.1 ++ [x], true)
  | true, false, false => (s.1, true)
def ast (l : List Int) (k : Int) : List Int × Bool := l.foldl (ast1 k) ([], false)
def afin (k : Int) (s : List Int × Bool) : List Int := if s.2 then s.1 else s.1 ++ [k]
def radd (l : List Int) (k : Int) : List Int := afin k (ast l k)
def rsetOf (l : List Int) : List Int := l.foldl radd []
def ronly (l m : List Int) (b : Bool) : List Int := l.filter fun x => decide (x ∈ m) == b
theorem ast_snoc (l : List Int) (k : Int) (i : Nat) (h : i < l.length) : ast (l.take (i + 1)) k = ast1 k (ast (l.take i) k) (l[i]) := by
  unfold ast
  rw [List.take_succ_eq_append_getElem h, List.foldl_append]
  rfl
theorem rsetOf_snoc (l : List Int) (i : Nat) (h : i < l.length) : rsetOf (l.take (i + 1)) = radd (rsetOf (l.take i)) (l[i]) := by
  unfold rsetOf
  rw [List.take_succ_eq_append_getElem h, List.foldl_append]
  rfl
theorem ronly_snoc (l m : List Int) (b : Bool) (i : Nat) (h : i < l.length) : ronly (l.take (i + 1)) m b = if decide (l[i] ∈ m) == b then ronly (l.take i) m b ++ [l[i]] else ronly (l.take i) m b := by
  unfold ronly
  rw [List.take_succ_eq_append_getElem h, List.filter_append, List.filter_cons, List.filter_nil]
  split <;> simp
theorem ronly_len (l m : List Int) (b : Bool) : (ronly l m b).length ≤ l.length := List.length_filter_le _ _
theorem ast1_len (k : Int) (s : List Int × Bool) (x : Int) (n : Nat) (h : s.1.length + (if s.2 then 0 else 1) ≤ n) : (ast1 k s x).1.length + (if (ast1 k s x).2 then 0 else 1) ≤ n + 1 := by
  obtain ⟨o, d⟩ := s
  unfold ast1
  cases d <;> cases KOrd.lt x k <;> cases KOrd.lt k x <;> simp at h ⊢ <;> omega
theorem ast_len (l : List Int) (k : Int) (i : Nat) : (ast (l.take i) k).1.length + (if (ast (l.take i) k).2 then 0 else 1) ≤ i + 1 := by
  induction i with
  | zero => simp [ast]
  | succ i ih =>
    by_cases h : i < l.length
    · rw [ast_snoc l k i h]
      exact ast1_len k _ _ _ ih
    · rw [List.take_of_length_le (by omega)]
      rw [List.take_of_length_le (by omega)] at ih
      omega
theorem radd_len (l : List Int) (k : Int) : (radd l k).length ≤ l.length + 1 := by
  have h := ast_len l k l.length
  rw [List.take_length] at h
  unfold radd afin
  split at h <;> rename_i e <;> simp [e] at h ⊢ <;> omega
theorem rsetOf_len (l : List Int) (i : Nat) : (rsetOf (l.take i)).length ≤ i := by
  induction i with
  | zero => simp [rsetOf]
  | succ i ih =>
    by_cases h : i < l.length
    · rw [rsetOf_snoc l i h]
      have := radd_len (rsetOf (l.take i)) l[i]
      omega
    · rw [List.take_of_length_le (by omega)]
      rw [List.take_of_length_le (by omega)] at ih
      omega

theorem ast_high (k : Int) (o : List Int) : ∀ l : List Int, (∀ b ∈ l, KOrd.lt k b = true) → l.foldl (ast1 k) (o, true) = (o ++ l, true) := by
  intro l
  induction l generalizing o with
  | nil => intro _; simp
  | cons a l ih =>
    intro h
    have h1 := h a (by simp)
    have e : ast1 k (o, true) a = (o ++ [a], true) := by unfold ast1; simp [h1, KOrd.asym h1]
    rw [List.foldl_cons, e, ih _ (fun b hb => h b (by simp [hb]))]
    simp
theorem afin_all (k : Int) : ∀ (l o : List Int), SrtK l → afin k (l.foldl (ast1 k) (o, false)) = o ++ (l.filter (fun x => KOrd.lt x k) ++ k :: l.filter (fun x => KOrd.lt k x)) := by
  intro l
  induction l with
  | nil => intro o _; simp [afin]
  | cons a l ih =>
    intro o h
    have h' := List.pairwise_cons.1 h
    rw [List.foldl_cons]
    cases h1 : KOrd.lt a k
    · cases h2 : KOrd.lt k a
      · have e : a = k := KOrd.tri h1 h2
        have e1 : ast1 k (o, false) a = (o ++ [k], true) := by unfold ast1; simp [h1, h2]
        have hr : ∀ b ∈ l, KOrd.lt k b = true := fun b hb => e ▸ h'.1 b hb
        rw [e1, ast_high k _ l hr, List.filter_cons, List.filter_cons, h1, h2, filter_none (l := l) (p := fun x => KOrd.lt x k) (fun b hb => KOrd.asym (hr b hb)), filter_all (l := l) hr]
        simp [afin]
      · have e1 : ast1 k (o, false) a = (o ++ [k] ++ [a], true) := by unfold ast1; simp [h1, h2]
        have hr : ∀ b ∈ l, KOrd.lt k b = true := fun b hb => KOrd.tr h2 (h'.1 b hb)
        rw [e1, ast_high k _ l hr, List.filter_cons, List.filter_cons, h1, h2, filter_none (l := l) (p := fun x => KOrd.lt x k) (fun b hb => KOrd.asym (hr b hb)), filter_all (l := l) hr]
        simp [afin]
    · have e1 : ast1 k (o, false) a = (o ++ [a], false) := by unfold ast1; simp [h1]
      rw [e1, ih _ h'.2, List.filter_cons, List.filter_cons, h1, KOrd.asym h1]
      simp
theorem radd_all (l : List Int) (k : Int) (h : SrtK l) : SrtK (radd l k) ∧ ∀ x, x ∈ radd l k ↔ x = k ∨ x ∈ l := by
  have e : radd l k = l.filter (fun x => KOrd.lt x k) ++ k :: l.filter (fun x => KOrd.lt k x) := by
    have := afin_all k l [] h
    simpa [radd, ast] using this
  rw [e]
  constructor
  · unfold SrtK
    rw [List.pairwise_append, List.pairwise_cons]
    refine ⟨List.Pairwise.filter _ h, ⟨fun b hb => (List.mem_filter.1 hb).2, List.Pairwise.filter _ h⟩, fun a ha b hb => ?_⟩
    rcases List.mem_cons.1 hb with rfl | hb
    · exact (List.mem_filter.1 ha).2
    · exact KOrd.tr (List.mem_filter.1 ha).2 (List.mem_filter.1 hb).2
  · intro x
    rw [List.mem_append, List.mem_cons, List.mem_filter, List.mem_filter]
    constructor
    · rintro (h | h | h)
      · exact .inr h.1
      · exact .inl h
      · exact .inr h.1
    · rintro (h | h)
      · exact .inr (.inl h)
      · rcases Tr.lt_or x k with e | e | e
        · exact .inl ⟨h, e⟩
        · exact .inr (.inl e)
        · exact .inr (.inr ⟨h, e⟩)
theorem rsetOf_all (l : List Int) : SrtK (rsetOf l) ∧ ∀ x, x ∈ rsetOf l ↔ x ∈ l := by
  have h : ∀ (l o : List Int), SrtK o → SrtK (l.foldl radd o) ∧ ∀ x, x ∈ l.foldl radd o ↔ x ∈ o ∨ x ∈ l := by
    intro l
    induction l with
    | nil => intro o h; exact ⟨h, fun x => by simp⟩
    | cons a l ih =>
      intro o h
      obtain ⟨h1, h2⟩ := radd_all o a h
      obtain ⟨h3, h4⟩ := ih _ h1
      refine ⟨h3, fun x => ?_⟩
      rw [List.foldl_cons, h4, h2, List.mem_cons]
      constructor
      · rintro ((h | h) | h)
        · exact .inr (.inl h)
        · exact .inl h
        · exact .inr (.inr h)
      · rintro (h | h | h)
        · exact .inl (.inr h)
        · exact .inl (.inl h)
        · exact .inr h
  obtain ⟨h1, h2⟩ := h l [] List.Pairwise.nil
  exact ⟨h1, fun x => (h2 x).trans ⟨fun h => h.resolve_left (by simp), .inr⟩⟩
theorem ronly_srt {l : List Int} (m : List Int) (b : Bool) (h : SrtK l) : SrtK (ronly l m b) := List.Pairwise.filter _ h
theorem mem_ronly {l m : List Int} {b : Bool} {x : Int} : x ∈ ronly l m b ↔ x ∈ l ∧ decide (x ∈ m) = b := by
  unfold ronly
  rw [List.mem_filter]
  simp

/-- A set in order: its tree's keys. -/
theorem setOf_all (l : List Int) : Srt (setOf l).toL ∧ ∀ x, x ∈ (setOf l).keys ↔ x ∈ l := by
  have h : ∀ (l : List Int) (t : Tr Int Unit), Srt t.toL → Srt (l.foldl (fun t k => Tr.put t k ()) t).toL ∧ ∀ x, x ∈ (l.foldl (fun t k => Tr.put t k ()) t).keys ↔ x ∈ t.keys ∨ x ∈ l := by
    intro l
    induction l with
    | nil => intro t h; exact ⟨h, fun x => by simp⟩
    | cons a l ih =>
      intro t h
      obtain ⟨h3, h4⟩ := ih _ (Tr.srt_put h a ())
      refine ⟨h3, fun x => ?_⟩
      rw [List.foldl_cons, h4, Tr.mem_put h, List.mem_cons]
      constructor
      · rintro ((h | h) | h)
        · exact .inr (.inl h)
        · exact .inl h
        · exact .inr (.inr h)
      · rintro (h | h | h)
        · exact .inl (.inr h)
        · exact .inl (.inl h)
        · exact .inr h
  obtain ⟨h1, h2⟩ := h l .nil Srt.nil
  refine ⟨h1, fun x => ?_⟩
  exact (h2 x).trans ⟨fun h => h.resolve_left (by simp [Tr.keys, keysOf, Tr.toL]), .inr⟩
theorem setOf_keys (l : List Int) : (setOf l).keys = rsetOf l := SrtK.ext (setOf_all l).1.keys (rsetOf_all l).1 fun x => by rw [(setOf_all l).2, (rsetOf_all l).2]

end Go.Proofs.Ytkobiimkaimbaaa
