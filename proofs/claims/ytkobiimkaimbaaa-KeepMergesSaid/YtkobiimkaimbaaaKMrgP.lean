/-
  Plain: two maps in one: what each key has, and what was asked for on the way, in order.
-/
import Derived.Test.YtkobiimkaimbaaaKSpl
namespace Go.Proofs.Ytkobiimkaimbaaa
set_option linter.unusedVariables false

section
variable {K V : Type} [o : KOrd K]

/-- What a key has. -/
def lget (l : List (K × V)) (k : K) : Option V := match atKey l k with
  | [] => none
  | a :: _ => some a.2
theorem lget_mem {l : List (K × V)} (h : Srt l) {x : K} {y : V} : (x, y) ∈ l ↔ lget l x = some y := by
  unfold lget
  constructor
  · intro hm
    have ha : (x, y) ∈ atKey l x := mem_atKey.2 ⟨hm, rfl⟩
    have hs := atKey_short h x
    cases e : atKey l x with
    | nil => rw [e] at ha; cases ha
    | cons a t =>
      rw [e] at ha hs
      have ht : t = [] := List.eq_nil_of_length_eq_zero (by simpa using hs)
      subst ht
      have := List.mem_singleton.1 ha
      rw [← this]
  · intro hm
    cases e : atKey l x with
    | nil => rw [e] at hm; cases hm
    | cons a t =>
      rw [e] at hm
      have ha : a ∈ atKey l x := by rw [e]; simp
      obtain ⟨h1, h2⟩ := mem_atKey.1 ha
      have h3 : a.2 = y := by simpa using hm
      have : a = (x, y) := by rw [← h2, ← h3]
      rw [← this]; exact h1
theorem Srt.ext : ∀ {l m : List (K × V)}, Srt l → Srt m → (∀ x, x ∈ l ↔ x ∈ m) → l = m := by
  intro l
  induction l with
  | nil =>
    intro m _ _ h
    cases m with
    | nil => rfl
    | cons b m => exact absurd ((h b).2 (by simp)) (by simp)
  | cons a l ih =>
    intro m hl hm h
    cases m with
    | nil => exact absurd ((h a).1 (by simp)) (by simp)
    | cons b m =>
      have hl' := List.pairwise_cons.1 hl
      have hm' := List.pairwise_cons.1 hm
      have e : a = b := by
        rcases List.mem_cons.1 ((h a).1 (by simp)) with e | e
        · exact e
        · rcases List.mem_cons.1 ((h b).2 (by simp)) with e' | e'
          · exact e'.symm
          · have h1 := hm'.1 a e
            have h2 := hl'.1 b e'
            rw [KOrd.asym h1] at h2
            cases h2
      subst e
      have hne : ∀ x, x ∈ l → x ≠ a := fun x hx e => by
        have := hl'.1 x hx
        rw [e, o.irr] at this
        cases this
      have hne' : ∀ x, x ∈ m → x ≠ a := fun x hx e => by
        have := hm'.1 x hx
        rw [e, o.irr] at this
        cases this
      rw [ih hl'.2 hm'.2 (fun x => ⟨fun hx => (List.mem_cons.1 ((h x).1 (List.mem_cons_of_mem _ hx))).resolve_left (hne x hx), fun hx => (List.mem_cons.1 ((h x).2 (List.mem_cons_of_mem _ hx))).resolve_left (hne' x hx)⟩)]
theorem lget_ext {l m : List (K × V)} (hl : Srt l) (hm : Srt m) (h : ∀ x, lget l x = lget m x) : l = m :=
  hl.ext hm fun ⟨x, y⟩ => by rw [lget_mem hl, lget_mem hm, h]
theorem lget_mid {L R : List (K × V)} {k : K} {v : V} (h : Srt (L ++ (k, v) :: R)) {x : K} :
    (o.lt x k = true → lget (L ++ (k, v) :: R) x = lget L x) ∧ (o.lt k x = true → lget (L ++ (k, v) :: R) x = lget R x) ∧ (k = x → lget (L ++ (k, v) :: R) x = some v) := by
  obtain ⟨h1, h2, h3⟩ := below_mid h (k := x)
  refine ⟨fun e => ?_, fun e => ?_, fun e => ?_⟩
  · unfold lget; rw [(h1 e).2.2]
  · unfold lget; rw [(h2 e).2.2]
  · unfold lget; rw [(h3 e).2.2]
theorem lget_below {l : List (K × V)} {k x : K} (h : o.lt x k = true) : lget (below l k) x = lget l x := by
  have e : atKey (below l k) x = atKey l x := by
    unfold atKey below
    rw [List.filter_filter]
    refine List.filter_congr fun a _ => ?_
    cases h1 : o.lt a.1 x
    · cases h2 : o.lt x a.1
      · have := o.tri h1 h2
        simp [this, h]
      · simp
    · simp
  unfold lget; rw [e]
theorem lget_above {l : List (K × V)} {k x : K} (h : o.lt k x = true) : lget (above l k) x = lget l x := by
  have e : atKey (above l k) x = atKey l x := by
    unfold atKey above
    rw [List.filter_filter]
    refine List.filter_congr fun a _ => ?_
    cases h1 : o.lt a.1 x
    · cases h2 : o.lt x a.1
      · have := o.tri h1 h2
        simp [this, h]
      · simp
    · simp
  unfold lget; rw [e]
theorem lget_lput {l : List (K × V)} (h : Srt l) {k x : K} {v : V} : (x = k → lget (lput l k v) x = some v) ∧ (x ≠ k → lget (lput l k v) x = lget l x) := by
  have hs := h.lput k v
  unfold lput at hs ⊢
  refine ⟨fun e => (lget_mid hs).2.2 e.symm, fun e => ?_⟩
  cases h1 : o.lt x k
  · cases h2 : o.lt k x
    · exact absurd (o.tri h1 h2) e
    · rw [(lget_mid hs).2.1 h2, lget_above h2]
  · rw [(lget_mid hs).1 h1, lget_below h1]

/-- What a key has of two. -/
def mlook (how : V → V → V) : Option V → Option V → Option V
  | some u, some v => some (how u v)
  | some u, none => some u
  | none, v => v
/-- What is asked for while two trees are merged. -/
def logT : Tr K V → Tr K V → List (V × V)
  | .nil, _ => []
  | .node _ _ _ _, .nil => []
  | .node l k v r, .node bl bk bv br => logT l (Tr.splitB (.node bl bk bv br) k) ++ ((match Tr.find (.node bl bk bv br) k with | .nil => [] | .node _ _ u _ => [(v, u)]) ++ logT r (Tr.splitA (.node bl bk bv br) k))
theorem logT_len (a : Tr K V) : ∀ b : Tr K V, (logT a b).length ≤ a.size := by
  induction a with
  | nil => intro b; rw [logT]; exact Nat.le_refl _
  | node l k v r ihl ihr =>
    intro b
    cases b with
    | nil => rw [logT]; exact Nat.zero_le _
    | node bl bk bv br =>
      have h1 := ihl (Tr.splitB (.node bl bk bv br) k)
      have h2 := ihr (Tr.splitA (.node bl bk bv br) k)
      rw [logT, List.length_append, List.length_append]
      split <;> simp only [Tr.size, List.length_nil, List.length_cons] <;> omega
/-- What both have, by rising keys. -/
def logL (a b : List (K × V)) : List (V × V) := a.filterMap fun e => (lget b e.1).map fun u => (e.2, u)
theorem lget_find {t : Tr K V} {k : K} (h : Srt t.toL) : lget t.toL k = match Tr.find t k with | .nil => none | .node _ _ u _ => some u := by
  unfold lget
  rcases Tr.find_atKey t k h with ⟨e, ha⟩ | ⟨l, v, r, e, ha⟩ <;> rw [e, ha]
theorem lget_nil (k : K) : lget ([] : List (K × V)) k = none := rfl
theorem fmap_congr {A B : Type} {f g : A → Option B} : ∀ {l : List A}, (∀ x ∈ l, f x = g x) → l.filterMap f = l.filterMap g := by
  intro l
  induction l with
  | nil => intro _; rfl
  | cons a l ih =>
    intro h
    rw [List.filterMap_cons, List.filterMap_cons, h a (by simp), ih (fun x hx => h x (by simp [hx]))]
theorem log_eq (a : Tr K V) : ∀ b : Tr K V, Srt a.toL → Srt b.toL → logT a b = logL a.toL b.toL := by
  induction a with
  | nil => intro b _ _; simp [logT, logL, Tr.toL]
  | node l k v r ihl ihr =>
    intro b ha hb
    cases b with
    | nil =>
      rw [logT, logL, List.filterMap_eq_nil_iff.2]
      intro e _
      show Option.map _ (lget [] e.1) = none
      rw [lget_nil]; rfl
    | node bl bk bv br =>
      obtain ⟨sl, sr, k1, k2, _⟩ := Srt.mid (show Srt (l.toL ++ (k, v) :: r.toL) from ha)
      rw [logT, ihl _ sl (Tr.srt_splitB hb), ihr _ sr (Tr.srt_splitA hb), (Tr.toL_split _ k hb).1, (Tr.toL_split _ k hb).2]
      generalize hB : (Tr.node bl bk bv br) = B at *
      unfold logL
      rw [show (Tr.node l k v r).toL = l.toL ++ (k, v) :: r.toL from rfl, List.filterMap_append, List.filterMap_cons]
      have e1 : List.filterMap (fun e => (lget (below B.toL k) e.1).map fun u => (e.2, u)) l.toL = List.filterMap (fun e => (lget B.toL e.1).map fun u => (e.2, u)) l.toL := fmap_congr fun e he => by rw [lget_below (k1 e he)]
      have e2 : List.filterMap (fun e => (lget (above B.toL k) e.1).map fun u => (e.2, u)) r.toL = List.filterMap (fun e => (lget B.toL e.1).map fun u => (e.2, u)) r.toL := fmap_congr fun e he => by rw [lget_above (k2 e he)]
      rw [e1, e2]
      simp only
      rw [lget_find hb]
      cases Tr.find B k <;> simp
theorem merge_get (how : V → V → V) (a : Tr K V) : ∀ b : Tr K V, Srt a.toL → Srt b.toL → ∀ x, lget (Tr.merge how a b).toL x = mlook how (lget a.toL x) (lget b.toL x) := by
  induction a with
  | nil => intro b _ _ x; rw [Tr.merge]; rfl
  | node l k v r ihl ihr =>
    intro b ha hb x
    cases b with
    | nil =>
      rw [Tr.merge]
      cases lget (Tr.node l k v r).toL x <;> rfl
    | node bl bk bv br =>
      obtain ⟨sl, sr, k1, k2, _⟩ := Srt.mid (show Srt (l.toL ++ (k, v) :: r.toL) from ha)
      have hm := (Tr.merge_all how (.node l k v r) (.node bl bk bv br) ha hb).1
      rw [Tr.merge, Tr.toL_join] at hm ⊢
      have hl := ihl _ sl (Tr.srt_splitB (x := k) hb) x
      have hr := ihr _ sr (Tr.srt_splitA (x := k) hb) x
      rw [(Tr.toL_split _ k hb).1] at hl
      rw [(Tr.toL_split _ k hb).2] at hr
      have hA := lget_mid (show Srt (l.toL ++ (k, v) :: r.toL) from ha) (x := x)
      rw [show (Tr.node l k v r).toL = l.toL ++ (k, v) :: r.toL from rfl]
      cases h1 : o.lt x k
      · cases h2 : o.lt k x
        · have e : k = x := o.tri h2 h1
          rw [(lget_mid hm).2.2 e, hA.2.2 e, ← e, lget_find hb]
          cases Tr.find (.node bl bk bv br) k <;> rfl
        · rw [(lget_mid hm).2.1 h2, hA.2.1 h2, hr, lget_above h2]
      · rw [(lget_mid hm).1 h1, hA.1 h1, hl, lget_below h1]

/-- One entry's turn in the document's Merge. -/
def rm1 (how : V → V → V) (v : List (K × V)) (out : List (K × V)) (e : K × V) : List (K × V) := lput out e.1 (match lget v e.1 with | some x => how x e.2 | none => e.2)
def rmerge (how : V → V → V) (v w : List (K × V)) : List (K × V) := w.foldl (rm1 how v) v
theorem rmerge_snoc (how : V → V → V) (v w : List (K × V)) (i : Nat) (h : i < w.length) : rmerge how v (w.take (i + 1)) = rm1 how v (rmerge how v (w.take i)) (w[i]) := by
  unfold rmerge
  rw [List.take_succ_eq_append_getElem h, List.foldl_append]
  rfl
theorem rm1_srt {how : V → V → V} {v out : List (K × V)} (h : Srt out) (e : K × V) : Srt (rm1 how v out e) := h.lput _ _
theorem rmerge_srt {how : V → V → V} {v : List (K × V)} (h : Srt v) : ∀ w, Srt (rmerge how v w) := by
  have : ∀ (w out : List (K × V)), Srt out → Srt (w.foldl (rm1 how v) out) := by
    intro w
    induction w with
    | nil => intro out h; exact h
    | cons e w ih => intro out h; exact ih _ (rm1_srt h e)
  exact fun w => this w v h
theorem lput_len (l : List (K × V)) (k : K) (v : V) : (lput l k v).length ≤ l.length + 1 := by
  unfold lput
  rw [List.length_append, List.length_cons]
  have : (below l k).length + (above l k).length ≤ l.length := by
    unfold below above
    induction l with
    | nil => simp
    | cons a l ih =>
      rw [List.filter_cons, List.filter_cons]
      cases h1 : o.lt a.1 k
      · cases h2 : o.lt k a.1 <;> simp <;> omega
      · rw [KOrd.asym h1]; simp; omega
  omega
theorem rmerge_len (how : V → V → V) (v w : List (K × V)) (i : Nat) : (rmerge how v (w.take i)).length ≤ v.length + i := by
  induction i with
  | zero => simp [rmerge]
  | succ i ih =>
    by_cases h : i < w.length
    · rw [rmerge_snoc how v w i h]
      have := lput_len (rmerge how v (w.take i)) (w[i]).1 (match lget v (w[i]).1 with | some x => how x (w[i]).2 | none => (w[i]).2)
      unfold rm1; omega
    · rw [List.take_of_length_le (by omega)]
      rw [List.take_of_length_le (by omega)] at ih
      omega
theorem rmerge_get {how : V → V → V} {v : List (K × V)} : ∀ (w out : List (K × V)), Srt w → Srt out → (∀ e ∈ w, lget out e.1 = lget v e.1) → ∀ x, lget (w.foldl (rm1 how v) out) x = match lget w x with
    | none => lget out x
    | some y => mlook how (lget v x) (some y) := by
  intro w
  induction w with
  | nil => intro out _ _ _ x; rfl
  | cons e w ih =>
    intro out hw ho hv x
    have hw' := List.pairwise_cons.1 hw
    have hm := lget_mid (show Srt ([] ++ (e.1, e.2) :: w) from hw) (x := x)
    simp only [List.nil_append] at hm
    rw [List.foldl_cons, ih _ hw'.2 (rm1_srt ho e) (fun e' he' => ?_)]
    · by_cases hx : x = e.1
      · have hn : lget w x = none := by
          unfold lget
          rw [show atKey w x = [] from filter_none fun a ha => by rw [hx]; simp [hw'.1 a ha]]
        rw [hn, hm.2.2 hx.symm]
        simp only
        unfold rm1
        rw [(lget_lput ho).1 hx, hx]
        cases lget v e.1 <;> rfl
      · have h2 : lget (e :: w) x = lget w x := by
          cases h1 : o.lt x e.1
          · cases h2 : o.lt e.1 x
            · exact absurd (o.tri h1 h2) hx
            · exact hm.2.1 h2
          · rw [hm.1 h1]
            unfold lget
            rw [show atKey w x = [] from filter_none fun a ha => by simp [o.tr h1 (hw'.1 a ha)]]
            rfl
        rw [h2]
        unfold rm1
        rw [(lget_lput ho).2 hx]
    · unfold rm1
      rw [(lget_lput ho).2 (fun e2 => by have := hw'.1 e' he'; rw [e2, o.irr] at this; cases this)]
      exact hv e' (List.mem_cons_of_mem _ he')
/-- Two maps in one: as the document has it. -/
theorem merge_lists (how : V → V → V) (a b : Tr K V) (ha : Srt a.toL) (hb : Srt b.toL) : (Tr.merge how a b).toL = rmerge how a.toL b.toL := by
  refine lget_ext (Tr.merge_all how a b ha hb).1 (rmerge_srt ha _) fun x => ?_
  rw [merge_get how a b ha hb, rmerge, rmerge_get _ _ hb ha (fun _ _ => rfl)]
  cases lget b.toL x <;> cases lget a.toL x <;> rfl
theorem logL_snoc (a b : List (K × V)) (i : Nat) (h : i < a.length) : logL (a.take (i + 1)) b = logL (a.take i) b ++ (match lget b (a[i]).1 with | some u => [((a[i]).2, u)] | none => []) := by
  unfold logL
  rw [List.take_succ_eq_append_getElem h, List.filterMap_append]
  congr 1
  rw [List.filterMap_cons, List.filterMap_nil]
  cases lget b (a[i]).1 <;> rfl
theorem logL_prefix (a b : List (K × V)) (i : Nat) : logL (a.take i) b <+: logL a b := by
  unfold logL
  conv => rhs; rw [← List.take_append_drop i a]
  rw [List.filterMap_append]
  exact List.prefix_append _ _
theorem logL_len (a b : List (K × V)) : (logL a b).length ≤ a.length := List.length_filterMap_le _ _
end

end Go.Proofs.Ytkobiimkaimbaaa
