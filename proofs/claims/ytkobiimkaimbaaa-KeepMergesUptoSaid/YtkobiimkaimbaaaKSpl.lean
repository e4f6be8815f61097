/-
  Plain: a tree cut at a key; two trees in one; what both have; what one has and the other has not. What they are as lists: by who is in, and that they are in order.
-/
import Derived.Test.YtkobiimkaimbaaaKTree
namespace Go.Proofs.Ytkobiimkaimbaaa
set_option linter.unusedVariables false

section
variable {K V : Type} [o : KOrd K]

/-- The keys of a list of entries. -/
def keysOf (l : List (K × V)) : List K := l.map Prod.fst
/-- Rising keys, alone. -/
def SrtK (l : List K) : Prop := l.Pairwise fun a b => o.lt a b = true
theorem Srt.keys {l : List (K × V)} (h : Srt l) : SrtK (keysOf l) := by
  unfold SrtK keysOf
  rw [List.pairwise_map]
  exact h
theorem SrtK.ext : ∀ {l m : List K}, SrtK l → SrtK m → (∀ x, x ∈ l ↔ x ∈ m) → l = m := by
  intro l
  induction l with
  | nil =>
    intro m _ _ h
    cases m with
    | nil => rfl
    | cons b m => exact absurd ((h b).2 (by simp)) (by simp)
  | cons a l ih =>
    intro m hl hm h
    cases m with
    | nil => exact absurd ((h a).1 (by simp)) (by simp)
    | cons b m =>
      have hl' := List.pairwise_cons.1 hl
      have hm' := List.pairwise_cons.1 hm
      have e : a = b := by
        rcases List.mem_cons.1 ((h a).1 (by simp)) with e | e
        · exact e
        · rcases List.mem_cons.1 ((h b).2 (by simp)) with e' | e'
          · exact e'.symm
          · have h1 := hm'.1 a e
            have h2 := hl'.1 b e'
            rw [KOrd.asym h1] at h2
            cases h2
      subst e
      have hne : ∀ x, x ∈ l → x ≠ a := fun x hx e => by
        have := hl'.1 x hx
        rw [e, o.irr] at this
        cases this
      have hne' : ∀ x, x ∈ m → x ≠ a := fun x hx e => by
        have := hm'.1 x hx
        rw [e, o.irr] at this
        cases this
      rw [ih hl'.2 hm'.2 (fun x => ⟨fun hx => (List.mem_cons.1 ((h x).1 (List.mem_cons_of_mem _ hx))).resolve_left (hne x hx), fun hx => (List.mem_cons.1 ((h x).2 (List.mem_cons_of_mem _ hx))).resolve_left (hne' x hx)⟩)]

theorem mem_keys_lput {l : List (K × V)} (h : Srt l) {k x : K} {v : V} : x ∈ keysOf (lput l k v) ↔ x = k ∨ x ∈ keysOf l := by
  have hp := h.parts k
  unfold keysOf lput
  constructor
  · intro hx
    obtain ⟨a, ha, rfl⟩ := List.mem_map.1 hx
    rcases List.mem_append.1 ha with ha | ha
    · exact .inr (List.mem_map.2 ⟨a, (mem_below.1 ha).1, rfl⟩)
    · rcases List.mem_cons.1 ha with rfl | ha
      · exact .inl rfl
      · exact .inr (List.mem_map.2 ⟨a, (mem_above.1 ha).1, rfl⟩)
  · rintro (rfl | hx)
    · simp
    · obtain ⟨a, ha, rfl⟩ := List.mem_map.1 hx
      rw [hp] at ha
      rcases List.mem_append.1 ha with ha | ha
      · exact List.mem_map.2 ⟨a, List.mem_append_left _ ha, rfl⟩
      · rcases List.mem_append.1 ha with ha | ha
        · have := (mem_atKey.1 ha).2
          rw [this]; simp
        · exact List.mem_map.2 ⟨a, List.mem_append_right _ (List.mem_cons_of_mem _ ha), rfl⟩
theorem mem_keys_ldrop {l : List (K × V)} {k x : K} : x ∈ keysOf (ldrop l k) ↔ x ∈ keysOf l ∧ x ≠ k := by
  unfold keysOf ldrop
  constructor
  · intro hx
    obtain ⟨a, ha, rfl⟩ := List.mem_map.1 hx
    rcases List.mem_append.1 ha with ha | ha
    · refine ⟨List.mem_map.2 ⟨a, (mem_below.1 ha).1, rfl⟩, fun e => ?_⟩
      have := (mem_below.1 ha).2
      rw [e, o.irr] at this; cases this
    · refine ⟨List.mem_map.2 ⟨a, (mem_above.1 ha).1, rfl⟩, fun e => ?_⟩
      have := (mem_above.1 ha).2
      rw [e, o.irr] at this; cases this
  · rintro ⟨hx, hne⟩
    obtain ⟨a, ha, rfl⟩ := List.mem_map.1 hx
    cases h1 : o.lt a.1 k
    · cases h2 : o.lt k a.1
      · exact absurd (o.tri h1 h2) hne
      · exact List.mem_map.2 ⟨a, List.mem_append_right _ (mem_above.2 ⟨ha, h2⟩), rfl⟩
    · exact List.mem_map.2 ⟨a, List.mem_append_left _ (mem_below.2 ⟨ha, h1⟩), rfl⟩
theorem mem_keys_below {l : List (K × V)} {k x : K} : x ∈ keysOf (below l k) ↔ x ∈ keysOf l ∧ o.lt x k = true := by
  unfold keysOf
  constructor
  · intro hx
    obtain ⟨a, ha, rfl⟩ := List.mem_map.1 hx
    exact ⟨List.mem_map.2 ⟨a, (mem_below.1 ha).1, rfl⟩, (mem_below.1 ha).2⟩
  · rintro ⟨hx, h⟩
    obtain ⟨a, ha, rfl⟩ := List.mem_map.1 hx
    exact List.mem_map.2 ⟨a, mem_below.2 ⟨ha, h⟩, rfl⟩
theorem mem_keys_above {l : List (K × V)} {k x : K} : x ∈ keysOf (above l k) ↔ x ∈ keysOf l ∧ o.lt k x = true := by
  unfold keysOf
  constructor
  · intro hx
    obtain ⟨a, ha, rfl⟩ := List.mem_map.1 hx
    exact ⟨List.mem_map.2 ⟨a, (mem_above.1 ha).1, rfl⟩, (mem_above.1 ha).2⟩
  · rintro ⟨hx, h⟩
    obtain ⟨a, ha, rfl⟩ := List.mem_map.1 hx
    exact List.mem_map.2 ⟨a, mem_above.2 ⟨ha, h⟩, rfl⟩

namespace Tr
def keys (t : Tr K V) : List K := keysOf t.toL
omit o in
theorem mem_node {l r : Tr K V} {k x : K} {v : V} : x ∈ (node l k v r).keys ↔ x ∈ l.keys ∨ x = k ∨ x ∈ r.keys := by
  unfold keys keysOf
  rw [toL]
  simp
omit o in
theorem mem_join {l r : Tr K V} {k x : K} {v : V} : x ∈ (join l k v r).keys ↔ x ∈ l.keys ∨ x = k ∨ x ∈ r.keys := by
  unfold keys keysOf
  rw [toL_join]
  simp
omit o in
theorem mem_glue {l r : Tr K V} {x : K} : x ∈ (glue l r).keys ↔ x ∈ l.keys ∨ x ∈ r.keys := by
  unfold keys keysOf
  rw [toL_glue]
  simp
omit o in
theorem size_glue (l r : Tr K V) : (glue l r).size = l.size + r.size := by
  rw [← size_toL, toL_glue, List.length_append, size_toL, size_toL]
theorem mem_find {t : Tr K V} {x : K} (h : Srt t.toL) : find t x ≠ .nil ↔ x ∈ t.keys := by
  rcases find_atKey t x h with ⟨e, ha⟩ | ⟨l, v, r, e, ha⟩
  · rw [e]
    refine ⟨fun h => absurd rfl h, fun hx => ?_⟩
    obtain ⟨a, ha', hk⟩ := List.mem_map.1 hx
    have := mem_atKey.2 ⟨ha', hk⟩
    rw [ha] at this
    cases this
  · rw [e]
    refine ⟨fun _ => ?_, fun _ h => by cases h⟩
    have : (x, v) ∈ atKey t.toL x := by rw [ha]; simp
    exact List.mem_map.2 ⟨(x, v), (mem_atKey.1 this).1, rfl⟩
theorem mem_put {t : Tr K V} (h : Srt t.toL) {k x : K} {v : V} : x ∈ (put t k v).keys ↔ x = k ∨ x ∈ t.keys := by
  unfold keys
  rw [toL_put t k v h]
  exact mem_keys_lput h
theorem srt_put {t : Tr K V} (h : Srt t.toL) (k : K) (v : V) : Srt (put t k v).toL := by rw [toL_put t k v h]; exact h.lput k v
theorem mem_del {t : Tr K V} (h : Srt t.toL) {k x : K} : x ∈ (del t k).keys ↔ x ∈ t.keys ∧ x ≠ k := by
  unfold keys
  rw [toL_del t k h]
  exact mem_keys_ldrop
theorem srt_del {t : Tr K V} (h : Srt t.toL) (k : K) : Srt (del t k).toL := by rw [toL_del t k h]; exact h.ldrop k

def splitB : Tr K V → K → Tr K V
  | .nil, _ => .nil
  | .node l k v r, x => if o.lt x k then splitB l x else if o.lt k x then join l k v (splitB r x) else l
def splitA : Tr K V → K → Tr K V
  | .nil, _ => .nil
  | .node l k v r, x => if o.lt x k then join (splitA l x) k v r else if o.lt k x then splitA r x else r
theorem size_split (t : Tr K V) (x : K) : (splitB t x).size + (splitA t x).size ≤ t.size := by
  induction t with
  | nil => exact Nat.le_refl _
  | node l k v r hl hr =>
    rw [splitB, splitA]
    split
    · rw [size_join]; simp only [size]; omega
    · split
      · rw [size_join]; simp only [size]; omega
      · simp only [size]; omega
theorem toL_split (t : Tr K V) (x : K) (h : Srt t.toL) : (splitB t x).toL = below t.toL x ∧ (splitA t x).toL = above t.toL x := by
  induction t with
  | nil => exact ⟨rfl, rfl⟩
  | node l k v r hl hr =>
    have hm := below_mid (show Srt (l.toL ++ (k, v) :: r.toL) from h) (k := x)
    obtain ⟨sl, sr, _⟩ := Srt.mid h
    rw [splitB, splitA]
    split
    · rename_i hx
      obtain ⟨e1, e2, _⟩ := hm.1 hx
      rw [toL_join, (hl sl).1, (hl sl).2, toL, e1, e2]; exact ⟨rfl, rfl⟩
    · split
      · rename_i _ hx
        obtain ⟨e1, e2, _⟩ := hm.2.1 hx
        rw [toL_join, (hr sr).1, (hr sr).2, toL, e1, e2]; exact ⟨rfl, rfl⟩
      · rename_i h1 h2
        obtain ⟨e1, e2, _⟩ := hm.2.2 (o.tri (by simpa using h2) (by simpa using h1))
        rw [toL, e1, e2]; exact ⟨rfl, rfl⟩
theorem srt_splitB {t : Tr K V} {x : K} (h : Srt t.toL) : Srt (splitB t x).toL := by rw [(toL_split t x h).1]; exact h.below x
theorem srt_splitA {t : Tr K V} {x : K} (h : Srt t.toL) : Srt (splitA t x).toL := by rw [(toL_split t x h).2]; exact h.above x
theorem mem_splitB {t : Tr K V} {x y : K} (h : Srt t.toL) : y ∈ (splitB t x).keys ↔ y ∈ t.keys ∧ o.lt y x = true := by
  unfold keys; rw [(toL_split t x h).1]; exact mem_keys_below
theorem mem_splitA {t : Tr K V} {x y : K} (h : Srt t.toL) : y ∈ (splitA t x).keys ↔ y ∈ t.keys ∧ o.lt x y = true := by
  unfold keys; rw [(toL_split t x h).2]; exact mem_keys_above

/-- The value of what both have. -/
def both (how : V → V → V) (v : V) : Tr K V → V
  | .nil => v
  | .node _ _ u _ => how v u
def merge (how : V → V → V) : Tr K V → Tr K V → Tr K V
  | .nil, b => b
  | .node l k v r, .nil => .node l k v r
  | .node l k v r, .node bl bk bv br => join (merge how l (splitB (.node bl bk bv br) k)) k (both how v (find (.node bl bk bv br) k)) (merge how r (splitA (.node bl bk bv br) k))
def common : Tr K V → Tr K V → Tr K V
  | .nil, _ => .nil
  | .node _ _ _ _, .nil => .nil
  | .node l k v r, .node bl bk bv br =>
    match find (.node bl bk bv br) k with
    | .nil => glue (common l (splitB (.node bl bk bv br) k)) (common r (splitA (.node bl bk bv br) k))
    | .node _ _ _ _ => join (common l (splitB (.node bl bk bv br) k)) k v (common r (splitA (.node bl bk bv br) k))
def minus : Tr K V → Tr K V → Tr K V
  | .nil, _ => .nil
  | .node l k v r, .nil => .node l k v r
  | .node l k v r, .node bl bk bv br =>
    match find (.node bl bk bv br) k with
    | .nil => join (minus l (splitB (.node bl bk bv br) k)) k v (minus r (splitA (.node bl bk bv br) k))
    | .node _ _ _ _ => glue (minus l (splitB (.node bl bk bv br) k)) (minus r (splitA (.node bl bk bv br) k))
theorem size_merge (how : V → V → V) (a : Tr K V) : ∀ b : Tr K V, (merge how a b).size ≤ a.size + b.size := by
  induction a with
  | nil => intro b; rw [merge]; exact Nat.le_add_left _ _
  | node l k v r hl hr =>
    intro b
    cases b with
    | nil => rw [merge]; exact Nat.le_add_right _ _
    | node bl bk bv br =>
      rw [merge, size_join]
      have h1 := hl (splitB (.node bl bk bv br) k)
      have h2 := hr (splitA (.node bl bk bv br) k)
      have h3 := size_split (.node bl bk bv br) k
      simp only [size] at h3 ⊢; omega
theorem size_common (a : Tr K V) : ∀ b : Tr K V, (common a b).size ≤ a.size := by
  induction a with
  | nil => intro b; rw [common]; exact Nat.le_refl _
  | node l k v r hl hr =>
    intro b
    cases b with
    | nil => rw [common]; exact Nat.zero_le _
    | node bl bk bv br =>
      have h1 := hl (splitB (.node bl bk bv br) k)
      have h2 := hr (splitA (.node bl bk bv br) k)
      rw [common]
      split
      · rw [size_glue]; simp only [size]; omega
      · rw [size_join]; simp only [size]; omega
theorem size_minus (a : Tr K V) : ∀ b : Tr K V, (minus a b).size ≤ a.size := by
  induction a with
  | nil => intro b; rw [minus]; exact Nat.le_refl _
  | node l k v r hl hr =>
    intro b
    cases b with
    | nil => rw [minus]; exact Nat.le_refl _
    | node bl bk bv br =>
      have h1 := hl (splitB (.node bl bk bv br) k)
      have h2 := hr (splitA (.node bl bk bv br) k)
      rw [minus]
      split
      · rw [size_join]; simp only [size]; omega
      · rw [size_glue]; simp only [size]; omega

/-- A tree of sorted parts. -/
theorem srt_parts {l r : Tr K V} {k : K} {v : V} (hl : Srt l.toL) (hr : Srt r.toL) (h1 : ∀ x ∈ l.keys, o.lt x k = true) (h2 : ∀ x ∈ r.keys, o.lt k x = true) : Srt (l.toL ++ (k, v) :: r.toL) :=
  Srt.make hl hr (fun b hb => h1 _ (List.mem_map.2 ⟨b, hb, rfl⟩)) (fun b hb => h2 _ (List.mem_map.2 ⟨b, hb, rfl⟩))
theorem srt_glued {l r : Tr K V} {k : K} (hl : Srt l.toL) (hr : Srt r.toL) (h1 : ∀ x ∈ l.keys, o.lt x k = true) (h2 : ∀ x ∈ r.keys, o.lt k x = true) : Srt (l.toL ++ r.toL) := by
  unfold Srt
  rw [List.pairwise_append]
  exact ⟨hl, hr, fun b hb c hc => o.tr (h1 _ (List.mem_map.2 ⟨b, hb, rfl⟩)) (h2 _ (List.mem_map.2 ⟨c, hc, rfl⟩))⟩
theorem mid_keys {l r : Tr K V} {k : K} {v : V} (h : Srt (node l k v r).toL) : Srt l.toL ∧ Srt r.toL ∧ (∀ x ∈ l.keys, o.lt x k = true) ∧ (∀ x ∈ r.keys, o.lt k x = true) := by
  obtain ⟨sl, sr, h1, h2, _⟩ := Srt.mid (show Srt (l.toL ++ (k, v) :: r.toL) from h)
  refine ⟨sl, sr, fun x hx => ?_, fun x hx => ?_⟩
  · obtain ⟨a, ha, rfl⟩ := List.mem_map.1 hx
    exact h1 a ha
  · obtain ⟨a, ha, rfl⟩ := List.mem_map.1 hx
    exact h2 a ha

theorem lt_or (x k : K) : o.lt x k = true ∨ x = k ∨ o.lt k x = true := by
  cases h1 : o.lt x k
  · cases h2 : o.lt k x
    · exact .inr (.inl (o.tri h1 h2))
    · exact .inr (.inr rfl)
  · exact .inl rfl

theorem merge_all (how : V → V → V) (a : Tr K V) : ∀ b : Tr K V, Srt a.toL → Srt b.toL → Srt (merge how a b).toL ∧ ∀ x, x ∈ (merge how a b).keys ↔ x ∈ a.keys ∨ x ∈ b.keys := by
  induction a with
  | nil => intro b _ hb; rw [merge]; exact ⟨hb, fun x => by simp [keys, keysOf, toL]⟩
  | node l k v r ihl ihr =>
    intro b ha hb
    cases b with
    | nil => rw [merge]; exact ⟨ha, fun x => by simp [keys, keysOf, toL]⟩
    | node bl bk bv br =>
      obtain ⟨sl, sr, k1, k2⟩ := mid_keys ha
      obtain ⟨s1, m1⟩ := ihl _ sl (srt_splitB (x := k) hb)
      obtain ⟨s2, m2⟩ := ihr _ sr (srt_splitA (x := k) hb)
      rw [merge]
      refine ⟨?_, fun x => ?_⟩
      · rw [toL_join]
        refine srt_parts s1 s2 (fun x hx => ?_) (fun x hx => ?_)
        · rcases (m1 x).1 hx with h | h
          · exact k1 x h
          · exact ((mem_splitB hb).1 h).2
        · rcases (m2 x).1 hx with h | h
          · exact k2 x h
          · exact ((mem_splitA hb).1 h).2
      · rw [mem_join, m1, m2, mem_node, mem_splitB hb, mem_splitA hb]
        constructor
        · rintro ((h | h) | h | (h | h))
          · exact .inl (.inl h)
          · exact .inr h.1
          · exact .inl (.inr (.inl h))
          · exact .inl (.inr (.inr h))
          · exact .inr h.1
        · rintro ((h | h | h) | h)
          · exact .inl (.inl h)
          · exact .inr (.inl h)
          · exact .inr (.inr (.inl h))
          · rcases lt_or x k with e | e | e
            · exact .inl (.inr ⟨h, e⟩)
            · exact .inr (.inl e)
            · exact .inr (.inr (.inr ⟨h, e⟩))
theorem common_all (a : Tr K V) : ∀ b : Tr K V, Srt a.toL → Srt b.toL → Srt (common a b).toL ∧ ∀ x, x ∈ (common a b).keys ↔ x ∈ a.keys ∧ x ∈ b.keys := by
  induction a with
  | nil => intro b _ hb; rw [common]; exact ⟨Srt.nil, fun x => by simp [keys, keysOf, toL]⟩
  | node l k v r ihl ihr =>
    intro b ha hb
    cases b with
    | nil => rw [common]; exact ⟨Srt.nil, fun x => by simp [keys, keysOf, toL]⟩
    | node bl bk bv br =>
      obtain ⟨sl, sr, k1, k2⟩ := mid_keys ha
      obtain ⟨s1, m1⟩ := ihl _ sl (srt_splitB (x := k) hb)
      obtain ⟨s2, m2⟩ := ihr _ sr (srt_splitA (x := k) hb)
      have q1 : ∀ x ∈ (common l (splitB (.node bl bk bv br) k)).keys, o.lt x k = true := fun x hx => k1 x ((m1 x).1 hx).1
      have q2 : ∀ x ∈ (common r (splitA (.node bl bk bv br) k)).keys, o.lt k x = true := fun x hx => k2 x ((m2 x).1 hx).1
      have hf := mem_find (x := k) hb
      have hk : o.lt k k = false := o.irr k
      rw [common]
      split
      · rename_i e
        rw [e] at hf
        have hn : ¬ k ∈ (node bl bk bv br).keys := fun h => (hf.2 h) rfl
        refine ⟨by rw [toL_glue]; exact srt_glued s1 s2 q1 q2, fun x => ?_⟩
        rw [mem_glue, m1, m2, mem_node, mem_splitB hb, mem_splitA hb]
        constructor
        · rintro (h | h)
          · exact ⟨.inl h.1, h.2.1⟩
          · exact ⟨.inr (.inr h.1), h.2.1⟩
        · rintro ⟨h | h | h, h'⟩
          · exact .inl ⟨h, h', k1 x h⟩
          · rw [h] at h'; exact absurd h' hn
          · exact .inr ⟨h, h', k2 x h⟩
      · rename_i e
        rw [e] at hf
        have hn : k ∈ (node bl bk bv br).keys := hf.1 (fun h => by cases h)
        refine ⟨by rw [toL_join]; exact srt_parts s1 s2 q1 q2, fun x => ?_⟩
        rw [mem_join, m1, m2, mem_node, mem_splitB hb, mem_splitA hb]
        constructor
        · rintro (h | h | h)
          · exact ⟨.inl h.1, h.2.1⟩
          · exact ⟨.inr (.inl h), h ▸ hn⟩
          · exact ⟨.inr (.inr h.1), h.2.1⟩
        · rintro ⟨h | h | h, h'⟩
          · exact .inl ⟨h, h', k1 x h⟩
          · exact .inr (.inl h)
          · exact .inr (.inr ⟨h, h', k2 x h⟩)
theorem minus_all (a : Tr K V) : ∀ b : Tr K V, Srt a.toL → Srt b.toL → Srt (minus a b).toL ∧ ∀ x, x ∈ (minus a b).keys ↔ x ∈ a.keys ∧ ¬ x ∈ b.keys := by
  induction a with
  | nil => intro b _ hb; rw [minus]; exact ⟨Srt.nil, fun x => by simp [keys, keysOf, toL]⟩
  | node l k v r ihl ihr =>
    intro b ha hb
    cases b with
    | nil => rw [minus]; exact ⟨ha, fun x => by simp [keys, keysOf, toL]⟩
    | node bl bk bv br =>
      obtain ⟨sl, sr, k1, k2⟩ := mid_keys ha
      obtain ⟨s1, m1⟩ := ihl _ sl (srt_splitB (x := k) hb)
      obtain ⟨s2, m2⟩ := ihr _ sr (srt_splitA (x := k) hb)
      have q1 : ∀ x ∈ (minus l (splitB (.node bl bk bv br) k)).keys, o.lt x k = true := fun x hx => k1 x ((m1 x).1 hx).1
      have q2 : ∀ x ∈ (minus r (splitA (.node bl bk bv br) k)).keys, o.lt k x = true := fun x hx => k2 x ((m2 x).1 hx).1
      have hf := mem_find (x := k) hb
      rw [minus]
      split
      · rename_i e
        rw [e] at hf
        have hn : ¬ k ∈ (node bl bk bv br).keys := fun h => (hf.2 h) rfl
        refine ⟨by rw [toL_join]; exact srt_parts s1 s2 q1 q2, fun x => ?_⟩
        rw [mem_join, m1, m2, mem_node, mem_splitB hb, mem_splitA hb]
        constructor
        · rintro (h | h | h)
          · exact ⟨.inl h.1, fun h' => h.2 ⟨h', k1 x h.1⟩⟩
          · exact ⟨.inr (.inl h), h ▸ hn⟩
          · exact ⟨.inr (.inr h.1), fun h' => h.2 ⟨h', k2 x h.1⟩⟩
        · rintro ⟨h | h | h, h'⟩
          · exact .inl ⟨h, fun q => h' q.1⟩
          · exact .inr (.inl h)
          · exact .inr (.inr ⟨h, fun q => h' q.1⟩)
      · rename_i e
        rw [e] at hf
        have hn : k ∈ (node bl bk bv br).keys := hf.1 (fun h => by cases h)
        refine ⟨by rw [toL_glue]; exact srt_glued s1 s2 q1 q2, fun x => ?_⟩
        rw [mem_glue, m1, m2, mem_node, mem_splitB hb, mem_splitA hb]
        constructor
        · rintro (h | h)
          · exact ⟨.inl h.1, fun h' => h.2 ⟨h', k1 x h.1⟩⟩
          · exact ⟨.inr (.inr h.1), fun h' => h.2 ⟨h', k2 x h.1⟩⟩
        · rintro ⟨h | h | h, h'⟩
          · exact .inl ⟨h, fun q => h' q.1⟩
          · rw [h] at h'; exact absurd hn h'
          · exact .inr ⟨h, fun q => h' q.1⟩
end Tr
end

end Go.Proofs.Ytkobiimkaimbaaa
