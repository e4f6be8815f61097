/-
  Plain: keys in order, trees of them, and the lists that trees are: what stands below a key and above it. No function of the program is named here.
-/
namespace Go.Proofs.Ytgnmieobgdbafaa
set_option linter.unusedVariables false
/-- Keys in order. -/
class KOrd (K : Type) where
  lt : K → K → Bool
  irr : ∀ a, lt a a = false
  tr : ∀ {a b c}, lt a b = true → lt b c = true → lt a c = true
  tri : ∀ {a b}, lt a b = false → lt b a = false → a = b
section
variable {K V : Type} [o : KOrd K]
theorem KOrd.asym {a b : K} (h : o.lt a b = true) : o.lt b a = false := by
  cases hb : o.lt b a
  · rfl
  · have := o.tr h hb
    rw [o.irr] at this
    cases this
/-- Rising keys. -/
def Srt (l : List (K × V)) : Prop := l.Pairwise fun a b => o.lt a.1 b.1 = true
def below (l : List (K × V)) (k : K) : List (K × V) := l.filter fun a => o.lt a.1 k
def above (l : List (K × V)) (k : K) : List (K × V) := l.filter fun a => o.lt k a.1
/-- The entry of a key. -/
def atKey (l : List (K × V)) (k : K) : List (K × V) := l.filter fun a => !o.lt a.1 k && !o.lt k a.1
def lput (l : List (K × V)) (k : K) (v : V) : List (K × V) := below l k ++ (k, v) :: above l k
def ldrop (l : List (K × V)) (k : K) : List (K × V) := below l k ++ above l k
theorem Srt.nil : Srt ([] : List (K × V)) := List.Pairwise.nil
theorem Srt.mid {L R : List (K × V)} {a : K × V} (h : Srt (L ++ a :: R)) : Srt L ∧ Srt R ∧ (∀ b ∈ L, o.lt b.1 a.1 = true) ∧ (∀ b ∈ R, o.lt a.1 b.1 = true) ∧ ∀ b ∈ L, ∀ c ∈ R, o.lt b.1 c.1 = true := by
  unfold Srt at h ⊢
  rw [List.pairwise_append, List.pairwise_cons] at h
  obtain ⟨h1, ⟨h2, h3⟩, h4⟩ := h
  exact ⟨h1, h3, fun b hb => h4 b hb a (by simp), h2, fun b hb c hc => h4 b hb c (by simp [hc])⟩
theorem Srt.make {L R : List (K × V)} {a : K × V} (hL : Srt L) (hR : Srt R) (h1 : ∀ b ∈ L, o.lt b.1 a.1 = true) (h2 : ∀ b ∈ R, o.lt a.1 b.1 = true) : Srt (L ++ a :: R) := by
  unfold Srt at hL hR ⊢
  rw [List.pairwise_append, List.pairwise_cons]
  refine ⟨hL, ⟨h2, hR⟩, fun b hb c hc => ?_⟩
  rcases List.mem_cons.1 hc with rfl | hc
  · exact h1 b hb
  · exact o.tr (h1 b hb) (h2 c hc)
theorem Srt.two {L R : List (K × V)} (h : Srt (L ++ R)) : Srt L ∧ Srt R := by
  unfold Srt at h ⊢
  rw [List.pairwise_append] at h
  exact ⟨h.1, h.2.1⟩
theorem filter_all {A : Type} {p : A → Bool} {l : List A} (h : ∀ a ∈ l, p a = true) : l.filter p = l := List.filter_eq_self.2 h
theorem filter_none {A : Type} {p : A → Bool} {l : List A} (h : ∀ a ∈ l, p a = false) : l.filter p = [] := by
  rw [List.filter_eq_nil_iff]
  intro a ha
  simp [h a ha]
theorem below_mid {L R : List (K × V)} {a : K × V} (h : Srt (L ++ a :: R)) {k : K} :
    (o.lt k a.1 = true → below (L ++ a :: R) k = below L k ∧ above (L ++ a :: R) k = above L k ++ a :: R ∧ atKey (L ++ a :: R) k = atKey L k) ∧
    (o.lt a.1 k = true → below (L ++ a :: R) k = L ++ a :: below R k ∧ above (L ++ a :: R) k = above R k ∧ atKey (L ++ a :: R) k = atKey R k) ∧
    (a.1 = k → below (L ++ a :: R) k = L ∧ above (L ++ a :: R) k = R ∧ atKey (L ++ a :: R) k = [a]) := by
  obtain ⟨h1, h2, h3, h4, h5⟩ := h.mid
  unfold below above atKey
  simp only [List.filter_append, List.filter_cons]
  refine ⟨fun hk => ?_, fun hk => ?_, fun hk => ?_⟩
  · have hr : ∀ b ∈ R, o.lt k b.1 = true := fun b hb => o.tr hk (h4 b hb)
    rw [hk, KOrd.asym hk, filter_none (l := R) fun b hb => KOrd.asym (hr b hb), filter_all (l := R) hr, filter_none (l := R) (p := fun a => !o.lt a.1 k && !o.lt k a.1) fun b hb => by simp [hr b hb]]
    simp
  · have hl : ∀ b ∈ L, o.lt b.1 k = true := fun b hb => o.tr (h3 b hb) hk
    rw [hk, KOrd.asym hk, filter_none (l := L) fun b hb => KOrd.asym (hl b hb), filter_all (l := L) hl, filter_none (l := L) (p := fun a => !o.lt a.1 k && !o.lt k a.1) fun b hb => by simp [hl b hb]]
    simp
  · subst hk
    rw [o.irr, filter_none (l := L) (p := fun b => o.lt a.1 b.1) fun b hb => KOrd.asym (h3 b hb), filter_all (l := L) h3, filter_none (l := R) (p := fun b => o.lt b.1 a.1) fun b hb => KOrd.asym (h4 b hb), filter_all (l := R) h4, filter_none (l := L) fun b hb => by simp [h3 b hb], filter_none (l := R) fun b hb => by simp [h4 b hb]]
    simp
theorem mem_below {l : List (K × V)} {k : K} {b : K × V} : b ∈ below l k ↔ b ∈ l ∧ o.lt b.1 k = true := by unfold below; rw [List.mem_filter]
theorem mem_above {l : List (K × V)} {k : K} {b : K × V} : b ∈ above l k ↔ b ∈ l ∧ o.lt k b.1 = true := by unfold above; rw [List.mem_filter]
theorem mem_atKey {l : List (K × V)} {k : K} {b : K × V} : b ∈ atKey l k ↔ b ∈ l ∧ b.1 = k := by
  unfold atKey
  rw [List.mem_filter]
  constructor
  · rintro ⟨h, h'⟩
    simp only [Bool.and_eq_true, Bool.not_eq_true'] at h'
    exact ⟨h, o.tri h'.1 h'.2⟩
  · rintro ⟨h, rfl⟩
    exact ⟨h, by simp [o.irr]⟩
theorem Srt.below {l : List (K × V)} (h : Srt l) (k : K) : Srt (below l k) := List.Pairwise.filter _ h
theorem Srt.above {l : List (K × V)} (h : Srt l) (k : K) : Srt (above l k) := List.Pairwise.filter _ h
theorem Srt.lput {l : List (K × V)} (h : Srt l) (k : K) (v : V) : Srt (lput l k v) :=
  Srt.make (h.below k) (h.above k) (fun b hb => (mem_below.1 hb).2) (fun b hb => (mem_above.1 hb).2)
theorem Srt.ldrop {l : List (K × V)} (h : Srt l) (k : K) : Srt (ldrop l k) := by
  unfold Go.Proofs.Ytgnmieobgdbafaa.ldrop Srt
  rw [List.pairwise_append]
  exact ⟨h.below k, h.above k, fun b hb c hc => o.tr (mem_below.1 hb).2 (mem_above.1 hc).2⟩
/-- A list in order is what stands below a key, what has it, what stands above. -/
theorem Srt.parts {l : List (K × V)} (h : Srt l) (k : K) : l = Go.Proofs.Ytgnmieobgdbafaa.below l k ++ (atKey l k ++ Go.Proofs.Ytgnmieobgdbafaa.above l k) := by
  induction l with
  | nil => rfl
  | cons a l ih =>
    have h' : Srt ([] ++ a :: l) := h
    have hm := below_mid h' (k := k)
    have hi := ih (by simpa using h'.mid.2.1)
    cases h1 : o.lt k a.1
    · cases h2 : o.lt a.1 k
      · have := hm.2.2 (o.tri h2 h1)
        simp only [List.nil_append] at this
        rw [this.1, this.2.1, this.2.2]; simp
      · have := hm.2.1 h2
        simp only [List.nil_append] at this
        rw [this.1, this.2.1, this.2.2, List.cons_append, ← hi]
    · have := hm.1 h1
      simp only [List.nil_append] at this
      rw [this.1, this.2.1, this.2.2]; simp [Go.Proofs.Ytgnmieobgdbafaa.below, atKey, Go.Proofs.Ytgnmieobgdbafaa.above]
theorem atKey_short {l : List (K × V)} (h : Srt l) (k : K) : (atKey l k).length ≤ 1 := by
  have hs : Srt (atKey l k) := List.Pairwise.filter _ h
  cases e : atKey l k with
  | nil => simp
  | cons a t =>
    cases t with
    | nil => simp
    | cons b t =>
      exfalso
      rw [e] at hs
      unfold Srt at hs
      rw [List.pairwise_cons] at hs
      have := hs.1 b (by simp)
      have ha := (mem_atKey.1 (show a ∈ atKey l k by rw [e]; simp)).2
      have hb := (mem_atKey.1 (show b ∈ atKey l k by rw [e]; simp)).2
      rw [ha, hb, o.irr] at this
      cases this
/-- Trees of keys and what they have. -/
inductive Tr (K V : Type) where
  | nil : Tr K V
  | node (l : Tr K V) (k : K) (v : V) (r : Tr K V) : Tr K V
namespace Tr
def size : Tr K V → Nat
  | .nil => 0
  | .node l _ _ r => l.size + 1 + r.size
def height : Tr K V → Nat
  | .nil => 0
  | .node l _ _ r => max l.height r.height + 1
def toL : Tr K V → List (K × V)
  | .nil => []
  | .node l k v r => l.toL ++ (k, v) :: r.toL

omit o in
theorem height_le (t : Tr K V) : t.height ≤ t.size := by
  induction t with
  | nil => exact Nat.le_refl _
  | node l k v r hl hr => simp only [height, size]; omega
omit o in
theorem size_toL (t : Tr K V) : t.toL.length = t.size := by
  induction t with
  | nil => rfl
  | node l k v r hl hr => simp only [toL, size, List.length_append, List.length_cons, hl, hr]; omega
def turnR (l : Tr K V) (k : K) (v : V) (r : Tr K V) : Tr K V :=
  match l with
  | .nil => .node .nil k v r
  | .node ll lk lv lr =>
    if ll.height < lr.height then
      match lr with
      | .nil => .node (.node ll lk lv .nil) k v r
      | .node il ik iv ir => .node (.node ll lk lv il) ik iv (.node ir k v r)
    else .node ll lk lv (.node lr k v r)
def turnL (l : Tr K V) (k : K) (v : V) (r : Tr K V) : Tr K V :=
  match r with
  | .nil => .node l k v .nil
  | .node rl rk rv rr =>
    if rr.height < rl.height then
      match rl with
      | .nil => .node l k v (.node .nil rk rv rr)
      | .node il ik iv ir => .node (.node l k v il) ik iv (.node ir rk rv rr)
    else .node (.node l k v rl) rk rv rr
def balance (l : Tr K V) (k : K) (v : V) (r : Tr K V) : Tr K V :=
  if r.height + 1 < l.height then turnR l k v r
  else if l.height + 1 < r.height then turnL l k v r
  else .node l k v r
omit o in
theorem toL_turnR (l : Tr K V) (k : K) (v : V) (r : Tr K V) : (turnR l k v r).toL = l.toL ++ (k, v) :: r.toL := by
  unfold turnR
  split
  · rfl
  · split
    · split <;> simp [toL]
    · simp [toL]
omit o in
theorem toL_turnL (l : Tr K V) (k : K) (v : V) (r : Tr K V) : (turnL l k v r).toL = l.toL ++ (k, v) :: r.toL := by
  unfold turnL
  split
  · rfl
  · split
    · split <;> simp [toL]
    · simp [toL]
omit o in
theorem toL_balance (l : Tr K V) (k : K) (v : V) (r : Tr K V) : (balance l k v r).toL = l.toL ++ (k, v) :: r.toL := by
  unfold balance
  split
  · exact toL_turnR _ _ _ _
  · split
    · exact toL_turnL _ _ _ _
    · rfl
omit o in
theorem turnR_in {nl il ir r : Tr K V} {nk ik k : K} {nx ix x : V} (h : nl.height < (node il ik ix ir).height) : turnR (node nl nk nx (node il ik ix ir)) k x r = node (node nl nk nx il) ik ix (node ir k x r) := by
  simp only [turnR]; rw [if_pos h]
omit o in
theorem turnR_out {nl nr r : Tr K V} {nk k : K} {nx x : V} (h : ¬ nl.height < nr.height) : turnR (node nl nk nx nr) k x r = node nl nk nx (node nr k x r) := by
  simp only [turnR]; rw [if_neg h]
omit o in
theorem turnL_in {nr il ir l : Tr K V} {nk ik k : K} {nx ix x : V} (h : nr.height < (node il ik ix ir).height) : turnL l k x (node (node il ik ix ir) nk nx nr) = node (node l k x il) ik ix (node ir nk nx nr) := by
  simp only [turnL]; rw [if_pos h]
omit o in
theorem turnL_out {nl nr l : Tr K V} {nk k : K} {nx x : V} (h : ¬ nr.height < nl.height) : turnL l k x (node nl nk nx nr) = node (node l k x nl) nk nx nr := by
  simp only [turnL]; rw [if_neg h]
omit o in
theorem size_balance (l : Tr K V) (k : K) (v : V) (r : Tr K V) : (balance l k v r).size = l.size + 1 + r.size := by
  rw [← size_toL, toL_balance]; simp [size_toL]; omega
def join (l : Tr K V) (k : K) (v : V) (r : Tr K V) : Tr K V :=
  match l, r with
  | .nil, .nil => .node .nil k v .nil
  | .node ll lk lv lr, .nil => if (nil : Tr K V).height + 1 < (node ll lk lv lr).height then balance ll lk lv (join lr k v .nil) else .node (.node ll lk lv lr) k v .nil
  | .nil, .node rl rk rv rr => if (nil : Tr K V).height + 1 < (node rl rk rv rr).height then balance (join .nil k v rl) rk rv rr else .node .nil k v (.node rl rk rv rr)
  | .node ll lk lv lr, .node rl rk rv rr =>
    if (node rl rk rv rr).height + 1 < (node ll lk lv lr).height then balance ll lk lv (join lr k v (.node rl rk rv rr))
    else if (node ll lk lv lr).height + 1 < (node rl rk rv rr).height then balance (join (.node ll lk lv lr) k v rl) rk rv rr
    else .node (.node ll lk lv lr) k v (.node rl rk rv rr)
termination_by l.size + r.size
decreasing_by all_goals simp only [size]; omega

omit o in
theorem join_left {ll : Tr K V} {lk lv lr} {r : Tr K V} (k : K) (v : V) (h : r.height + 1 < (node ll lk lv lr).height) : join (node ll lk lv lr) k v r = balance ll lk lv (join lr k v r) := by
  cases r <;> (rw [join]; rw [if_pos h])
omit o in
theorem join_right {rl : Tr K V} {rk rv rr} {l : Tr K V} (k : K) (v : V) (h : l.height + 1 < (node rl rk rv rr).height) : join l k v (node rl rk rv rr) = balance (join l k v rl) rk rv rr := by
  cases l
  · rw [join, if_pos h]
  · rw [join, if_neg (by omega), if_pos h]
omit o in
theorem join_even {l r : Tr K V} (k : K) (v : V) (h : ¬ r.height + 1 < l.height) (h' : ¬ l.height + 1 < r.height) : join l k v r = node l k v r := by
  cases l <;> cases r
  · rw [join]
  · rw [join, if_neg h']
  · rw [join, if_neg h]
  · rw [join, if_neg h, if_neg h']
omit o in
theorem toL_join_of (n : Nat) : ∀ (l r : Tr K V) (k : K) (v : V), l.size + r.size ≤ n → (join l k v r).toL = l.toL ++ (k, v) :: r.toL := by
  induction n with
  | zero =>
    intro l r k v h
    cases l <;> cases r <;> simp only [size] at h <;> first | omega | skip
    rw [join]; rfl
  | succ n ih =>
    intro l r k v h
    by_cases h1 : r.height + 1 < l.height
    · cases l with
      | nil => simp [height] at h1
      | node ll lk lv lr =>
        rw [join_left k v h1, toL_balance, ih _ _ _ _ (by simp only [size] at h; omega)]
        simp [toL]
    · by_cases h2 : l.height + 1 < r.height
      · cases r with
        | nil => simp [height] at h2
        | node rl rk rv rr =>
          rw [join_right k v h2, toL_balance, ih _ _ _ _ (by simp only [size] at h; omega)]
          simp [toL]
      · rw [join_even k v h1 h2]; rfl
omit o in
theorem toL_join (l : Tr K V) (k : K) (v : V) (r : Tr K V) : (join l k v r).toL = l.toL ++ (k, v) :: r.toL := toL_join_of _ l r k v (Nat.le_refl _)
omit o in
theorem size_join (l : Tr K V) (k : K) (v : V) (r : Tr K V) : (join l k v r).size = l.size + 1 + r.size := by
  rw [← size_toL, toL_join]; simp [size_toL]; omega
/-- The first entry of a tree, or the one that is handed in. -/
def firstOf : Tr K V → K → V → K × V
  | .nil, k, v => (k, v)
  | .node l k v _, _, _ => firstOf l k v
def dropFirst : Tr K V → Tr K V
  | .nil => .nil
  | .node .nil _ _ r => r
  | .node (.node a b c d) k v r => balance (dropFirst (.node a b c d)) k v r
def glue (l r : Tr K V) : Tr K V :=
  match r with
  | .nil => l
  | .node rl rk rv rr => join l (firstOf rl rk rv).1 (firstOf rl rk rv).2 (dropFirst (.node rl rk rv rr))
omit o in
theorem toL_dropFirst (l : Tr K V) : ∀ (k : K) (v : V) (r : Tr K V), firstOf l k v :: (dropFirst (.node l k v r)).toL = (node l k v r).toL := by
  induction l with
  | nil => intro k v r; simp [firstOf, dropFirst, toL]
  | node a b c d iha _ =>
    intro k v r
    rw [dropFirst, toL_balance, firstOf, ← List.cons_append, iha]
    simp [toL]
omit o in
theorem toL_glue (l r : Tr K V) : (glue l r).toL = l.toL ++ r.toL := by
  cases r with
  | nil => simp [glue, toL]
  | node rl rk rv rr => rw [glue, toL_join, ← toL_dropFirst rl rk rv rr]
omit o in
theorem size_dropFirst (l : Tr K V) (k : K) (v : V) (r : Tr K V) : (dropFirst (.node l k v r)).size = l.size + r.size := by
  have h := congrArg List.length (toL_dropFirst l k v r)
  simp only [List.length_cons, size_toL, size] at h
  omega
def find : Tr K V → K → Tr K V
  | .nil, _ => .nil
  | .node l k v r, x => if o.lt x k then find l x else if o.lt k x then find r x else .node l k v r
def put : Tr K V → K → V → Tr K V
  | .nil, x, y => .node .nil x y .nil
  | .node l k v r, x, y => if o.lt x k then balance (put l x y) k v r else if o.lt k x then balance l k v (put r x y) else .node l x y r
def drop : Tr K V → K → Tr K V
  | .nil, _ => .nil
  | .node l k v r, x => if o.lt x k then balance (drop l x) k v r else if o.lt k x then balance l k v (drop r x) else glue l r
theorem toL_put (t : Tr K V) (x : K) (y : V) (h : Srt t.toL) : (put t x y).toL = lput t.toL x y := by
  induction t with
  | nil => rfl
  | node l k v r hl hr =>
    have hm := below_mid (show Srt (l.toL ++ (k, v) :: r.toL) from h) (k := x)
    obtain ⟨sl, sr, _⟩ := Srt.mid h
    rw [put]
    split
    · rename_i hx
      obtain ⟨e1, e2, _⟩ := hm.1 hx
      rw [toL_balance, hl sl, toL, lput, lput, e1, e2]; simp
    · split
      · rename_i _ hx
        obtain ⟨e1, e2, _⟩ := hm.2.1 hx
        rw [toL_balance, hr sr, toL, lput, lput, e1, e2]; simp
      · rename_i h1 h2
        obtain ⟨e1, e2, _⟩ := hm.2.2 (o.tri (by simpa using h2) (by simpa using h1))
        rw [toL, toL, lput, e1, e2]
theorem toL_drop (t : Tr K V) (x : K) (h : Srt t.toL) : (drop t x).toL = ldrop t.toL x := by
  induction t with
  | nil => rfl
  | node l k v r hl hr =>
    have hm := below_mid (show Srt (l.toL ++ (k, v) :: r.toL) from h) (k := x)
    obtain ⟨sl, sr, _⟩ := Srt.mid h
    rw [drop]
    split
    · rename_i hx
      obtain ⟨e1, e2, _⟩ := hm.1 hx
      rw [toL_balance, hl sl, toL, ldrop, ldrop, e1, e2]; simp
    · split
      · rename_i _ hx
        obtain ⟨e1, e2, _⟩ := hm.2.1 hx
        rw [toL_balance, hr sr, toL, ldrop, ldrop, e1, e2]; simp
      · rename_i h1 h2
        obtain ⟨e1, e2, _⟩ := hm.2.2 (o.tri (by simpa using h2) (by simpa using h1))
        rw [toL_glue, toL, ldrop, e1, e2]
theorem find_atKey (t : Tr K V) (x : K) (h : Srt t.toL) : (find t x = .nil ∧ atKey t.toL x = []) ∨ ∃ l v r, find t x = .node l x v r ∧ atKey t.toL x = [(x, v)] := by
  induction t with
  | nil => exact .inl ⟨rfl, rfl⟩
  | node l k v r hl hr =>
    have hm := below_mid (show Srt (l.toL ++ (k, v) :: r.toL) from h) (k := x)
    obtain ⟨sl, sr, _⟩ := Srt.mid h
    rw [find, toL]
    split
    · rename_i hx
      rw [(hm.1 hx).2.2]; exact hl sl
    · split
      · rename_i _ hx
        rw [(hm.2.1 hx).2.2]; exact hr sr
      · rename_i h1 h2
        have e : k = x := o.tri (by simpa using h2) (by simpa using h1)
        subst e
        rw [(hm.2.2 rfl).2.2]
        exact .inr ⟨l, v, r, rfl, rfl⟩
theorem size_put_le (t : Tr K V) (x : K) (y : V) : (put t x y).size ≤ t.size + 1 := by
  induction t with
  | nil => simp [put, size]
  | node l k v r hl hr =>
    rw [put]
    split
    · rw [size_balance]; simp only [size]; omega
    · split
      · rw [size_balance]; simp only [size]; omega
      · simp only [size]; omega
theorem size_drop_le (t : Tr K V) (x : K) : (drop t x).size ≤ t.size := by
  induction t with
  | nil => simp [drop]
  | node l k v r hl hr =>
    rw [drop]
    split
    · rw [size_balance]; simp only [size]; omega
    · split
      · rw [size_balance]; simp only [size]; omega
      · rw [← size_toL, toL_glue, List.length_append, size_toL, size_toL]; simp only [size]; omega
/-- drop, where the key is there; else the tree itself. -/
def del (t : Tr K V) (x : K) : Tr K V := match find t x with
  | .nil => t
  | .node _ _ _ _ => drop t x
theorem toL_del (t : Tr K V) (x : K) (h : Srt t.toL) : (del t x).toL = ldrop t.toL x := by
  unfold del
  rcases find_atKey t x h with ⟨e, ha⟩ | ⟨l, v, r, e, ha⟩
  · rw [e]
    have hp := h.parts x
    rw [ha, List.nil_append] at hp
    exact hp
  · rw [e]; exact toL_drop t x h
theorem size_del_le (t : Tr K V) (x : K) : (del t x).size ≤ t.size := by
  unfold del
  split
  · exact Nat.le_refl _
  · exact size_drop_le t x
/-- How many keys are below one. -/
def rank : Tr K V → K → Nat
  | .nil, _ => 0
  | .node l k _ r, x => if o.lt k x then l.size + 1 + rank r x else rank l x
theorem rank_below (t : Tr K V) (x : K) (h : Srt t.toL) : rank t x = (below t.toL x).length := by
  induction t with
  | nil => rfl
  | node l k v r hl hr =>
    have hm := below_mid (show Srt (l.toL ++ (k, v) :: r.toL) from h) (k := x)
    obtain ⟨sl, sr, _⟩ := Srt.mid h
    rw [rank, toL]
    split
    · rename_i hx
      rw [(hm.2.1 hx).1, hr sr, List.length_append, List.length_cons, size_toL]; omega
    · rename_i hx
      cases h2 : o.lt x k
      · have e : k = x := o.tri (by simpa using hx) h2
        rw [(hm.2.2 e).1, hl sl]
        subst e
        have : below l.toL k = l.toL := filter_all fun b hb => (Srt.mid h).2.2.1 b hb
        rw [this]
      · rw [(hm.1 h2).1, hl sl]
/-- Where a tree's entry of a number stands. -/
def nth : Tr K V → Int → Tr K V
  | .nil, _ => .nil
  | .node l k v r, i => if i = l.size then .node l k v r else if i < l.size then nth l i else nth r (i - l.size - 1)
omit o in
theorem nth_none (t : Tr K V) (i : Int) (h : i < 0 ∨ t.size ≤ i) : nth t i = .nil := by
  induction t generalizing i with
  | nil => rfl
  | node l k v r hl hr =>
    rw [nth]
    simp only [size] at h
    rw [if_neg (by omega)]
    split
    · exact hl _ (by omega)
    · exact hr _ (by omega)
omit o in
theorem nth_some (t : Tr K V) (i : Nat) (h : i < t.toL.length) : ∃ l r, nth t i = .node l (t.toL[i]).1 (t.toL[i]).2 r := by
  induction t generalizing i with
  | nil => simp [toL] at h
  | node l k v r hl hr =>
    rw [nth]
    simp only [toL] at h ⊢
    rw [List.length_append, List.length_cons] at h
    rcases Nat.lt_trichotomy i l.size with h1 | h1 | h1
    · rw [if_neg (by omega), if_pos (by omega)]
      have hi : i < l.toL.length := by rw [size_toL]; exact h1
      rw [List.getElem_append_left hi]
      exact hl i hi
    · rw [if_pos (by omega)]
      subst h1
      refine ⟨l, r, ?_⟩
      rw [List.getElem_append_right (by rw [size_toL]; omega)]
      simp [size_toL]
    · rw [if_neg (by omega), if_neg (by omega)]
      have hi : i - l.size - 1 < r.toL.length := by rw [size_toL] at h; omega
      have e : ((i : Int) - l.size - 1) = ((i - l.size - 1 : Nat) : Int) := by omega
      rw [e]
      obtain ⟨a, b, hab⟩ := hr (i - l.size - 1) hi
      refine ⟨a, b, ?_⟩
      rw [hab]
      have e2 : (l.toL ++ (k, v) :: r.toL)[i]'(by simp; omega) = r.toL[i - l.size - 1] := by
        rw [List.getElem_append_right (by rw [size_toL]; omega), List.getElem_cons]
        simp only [size_toL]
        rw [dif_neg (by omega)]
      rw [e2]
end Tr
end
end Go.Proofs.Ytgnmieobgdbafaa
