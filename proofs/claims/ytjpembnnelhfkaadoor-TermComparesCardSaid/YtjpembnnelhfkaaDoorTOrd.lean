/-
  The order of trees, plain; the tree of a term of a pool.
-/
import Derived.Test.YtjpembnnelhfkaaDoorTTree
import Derived.Test.YtjpembnnelhfkaaDoorTPTree
import Derived.Test.YtjpembnnelhfkaaDoorTCmp
namespace Go.Proofs.YtjpembnnelhfkaaDoor
set_option linter.unusedVariables false

structure Cmp {α : Type} (c : α → α → Int) : Prop where
  anti : ∀ a b, c b a = - c a b
  eq : ∀ a b, c a b = 0 → a = b
  tr : ∀ a b d, c a b ≤ 0 → c b d ≤ 0 → c a d ≤ 0
  rng : ∀ a b, -1 ≤ c a b ∧ c a b ≤ 1
theorem Cmp.refl {α : Type} {c : α → α → Int} (h : Cmp c) (a : α) : c a a = 0 := by have := h.anti a a; omega
theorem cmpOf_cmp {K : Type} [o : KOrd K] : Cmp (cmpOf (K := K)) where
  anti a b := by
    unfold cmpOf
    cases h1 : o.lt a b with
    | true => have h2 := KOrd.asym h1; simp [h2]
    | false => cases h2 : o.lt b a <;> simp
  eq a b h := by
    unfold cmpOf at h
    cases h1 : o.lt a b with
    | true => rw [h1] at h; simp at h
    | false =>
      rw [h1] at h
      cases h2 : o.lt b a with
      | true => rw [h2] at h; simp at h
      | false => exact o.tri h1 h2
  tr a b d h1 h2 := by
    have key : ∀ x y : K, cmpOf x y ≤ 0 ↔ o.lt y x = false := fun x y => by
      unfold cmpOf
      cases h1 : o.lt x y with
      | true => have h2 := KOrd.asym h1; simp [h2]
      | false => cases h2 : o.lt y x <;> simp
    rw [key] at h1 h2 ⊢
    cases h3 : o.lt d a with
    | false => rfl
    | true =>
      cases h4 : o.lt a b with
      | true => have := o.tr h3 h4; rw [h2] at this; cases this
      | false =>
        have e := o.tri h4 h1
        subst e
        rw [h3] at h2; cases h2
  rng a b := by unfold cmpOf; split <;> (try split) <;> omega
def lexC {α β : Type} (c : α → α → Int) (d : β → β → Int) (x y : α × β) : Int := if c x.1 y.1 = 0 then d x.2 y.2 else c x.1 y.1
theorem Cmp.lex {α β : Type} {c : α → α → Int} {d : β → β → Int} (hc : Cmp c) (hd : Cmp d) : Cmp (lexC c d) where
  anti x y := by
    unfold lexC
    have h1 := hc.anti x.1 y.1
    have h2 := hd.anti x.2 y.2
    split <;> split <;> omega
  eq x y h := by
    unfold lexC at h
    split at h
    · rename_i h1
      exact Prod.ext (hc.eq _ _ h1) (hd.eq _ _ h)
    · rename_i h1; exact absurd h h1
  tr x y z h1 h2 := by
    unfold lexC at *
    have a1 : c x.1 y.1 ≤ 0 := by split at h1 <;> omega
    have a2 : c y.1 z.1 ≤ 0 := by split at h2 <;> omega
    have a3 := hc.tr _ _ _ a1 a2
    split
    · rename_i h0
      have e := hc.eq _ _ h0
      rw [← e] at a2 h2
      have a4 := hc.anti x.1 y.1
      have a5 : c x.1 y.1 = 0 := by omega
      have a6 : c y.1 x.1 = 0 := by omega
      rw [if_pos a5] at h1
      rw [if_pos a6] at h2
      exact hd.tr _ _ _ h1 h2
    · omega
  rng x y := by
    unfold lexC
    have h1 := hc.rng x.1 y.1
    have h2 := hd.rng x.2 y.2
    split <;> omega

def keyO (n : Nd) : Int × Int × Int × Int × ByteArray := (n.kind, n.frm, n.to, n.num, n.text)
def cmpK : (Int × Int × Int × Int × ByteArray) → (Int × Int × Int × Int × ByteArray) → Int := lexC cmpOf (lexC cmpOf (lexC cmpOf (lexC cmpOf cmpOf)))
theorem cmpK_cmp : Cmp cmpK := cmpOf_cmp.lex (cmpOf_cmp.lex (cmpOf_cmp.lex (cmpOf_cmp.lex cmpOf_cmp)))
/-- How two nodes' own fields compare. -/
def ownL (x y : Nd) : List Int := [cmpOf x.kind y.kind, cmpOf x.frm y.frm, cmpOf x.to y.to, cmpOf x.num y.num, cmpOf x.text y.text]
def own5 (x y : Nd) : Int := orI (ownL x y)
theorem own_key (x y : Nd) : own5 x y = cmpK (keyO x) (keyO y) := by
  unfold own5 ownL cmpK keyO
  simp only [orI, lexC]
  split
  · split
    · split
      · split
        · split <;> omega
        · rfl
      · rfl
    · rfl
  · rfl
theorem own_eq {x y : Nd} (h : own5 x y = 0) : x.kind = y.kind ∧ x.frm = y.frm ∧ x.to = y.to ∧ x.num = y.num ∧ x.text = y.text := by
  rw [own_key] at h
  have := cmpK_cmp.eq _ _ h
  simp only [keyO, Prod.mk.injEq] at this
  exact this
theorem own_bare {x y : Nd} : own5 (bareN x) (bareN y) = own5 x y := rfl

/-- Two lists of trees in order. -/
def cF : Fo → Fo → Int
  | .nil, .nil => 0
  | .nil, .cons _ _ _ => -1
  | .cons _ _ _, .nil => 1
  | .cons n k r, .cons n' k' r' => if own5 n n' ≠ 0 then own5 n n' else if cF k k' ≠ 0 then cF k k' else cF r r'
theorem cF_anti : ∀ f g : Fo, cF g f = - cF f g
  | .nil, .nil => rfl
  | .nil, .cons _ _ _ => rfl
  | .cons _ _ _, .nil => rfl
  | .cons n k r, .cons n' k' r' => by
    simp only [cF]
    have h1 := cF_anti k k'
    have h2 := cF_anti r r'
    have h3 : own5 n' n = - own5 n n' := by rw [own_key, own_key]; exact cmpK_cmp.anti _ _
    rw [h1, h2, h3]
    split <;> split <;> (try split) <;> (try split) <;> omega
theorem cF_rng : ∀ f g : Fo, -1 ≤ cF f g ∧ cF f g ≤ 1
  | .nil, .nil => by simp [cF]
  | .nil, .cons _ _ _ => by simp [cF]
  | .cons _ _ _, .nil => by simp [cF]
  | .cons n k r, .cons n' k' r' => by
    simp only [cF]
    have h1 := cF_rng k k'
    have h2 := cF_rng r r'
    have h3 := cmpK_cmp.rng (keyO n) (keyO n')
    rw [← own_key] at h3
    split
    · exact h3
    · split
      · exact h1
      · exact h2
theorem cF_eq : ∀ f g : Fo, Bare f → Bare g → cF f g = 0 → f = g
  | .nil, .nil, _, _, _ => rfl
  | .nil, .cons _ _ _, _, _, h => by simp [cF] at h
  | .cons _ _ _, .nil, _, _, h => by simp [cF] at h
  | .cons n k r, .cons n' k' r', b1, b2, h => by
    simp only [cF] at h
    by_cases h1 : own5 n n' ≠ 0
    · rw [if_pos h1] at h; exact absurd h h1
    · rw [if_neg h1] at h
      by_cases h2 : cF k k' ≠ 0
      · rw [if_pos h2] at h; exact absurd h h2
      · rw [if_neg h2] at h
        obtain ⟨e1, e2, e3, e4, e5⟩ := own_eq (by simpa using h1)
        obtain ⟨ba, bb, bk, br⟩ := b1
        obtain ⟨ba', bb', bk', br'⟩ := b2
        rw [Nd.eq_of e1 e2 e3 e4 e5 (ba.trans ba'.symm) (bb.trans bb'.symm), cF_eq k k' bk bk' (by simpa using h2), cF_eq r r' br br' h]
theorem cF_refl (f : Fo) : cF f f = 0 := by have := cF_anti f f; omega
theorem cF_tr : ∀ f g h : Fo, Bare f → Bare g → Bare h → cF f g ≤ 0 → cF g h ≤ 0 → cF f h ≤ 0
  | .nil, _, .nil, _, _, _, _, _ => by simp [cF]
  | .nil, _, .cons _ _ _, _, _, _, _, _ => by simp [cF]
  | .cons _ _ _, .nil, _, _, _, _, h1, _ => by simp [cF] at h1
  | .cons _ _ _, .cons _ _ _, .nil, _, _, _, _, h2 => by simp [cF] at h2
  | .cons n k r, .cons n' k' r', .cons n'' k'' r'', b1, b2, b3, h1, h2 => by
    obtain ⟨_, _, bk, br⟩ := b1
    obtain ⟨_, _, bk', br'⟩ := b2
    obtain ⟨_, _, bk'', br''⟩ := b3
    simp only [cF] at h1 h2 ⊢
    have a1 : own5 n n' ≤ 0 := by by_cases h : own5 n n' ≠ 0; rw [if_pos h] at h1; exact h1; omega
    have a2 : own5 n' n'' ≤ 0 := by by_cases h : own5 n' n'' ≠ 0; rw [if_pos h] at h2; exact h2; omega
    have a3 : own5 n n'' ≤ 0 := by rw [own_key] at a1 a2 ⊢; exact cmpK_cmp.tr _ _ _ a1 a2
    by_cases h3 : own5 n n'' ≠ 0
    · rw [if_pos h3]; exact a3
    · rw [if_neg h3]
      have e0 : keyO n = keyO n'' := by rw [own_key] at h3; exact cmpK_cmp.eq _ _ (by simpa using h3)
      have a4 : own5 n' n'' = - own5 n n' := by rw [own_key, own_key, ← e0]; exact cmpK_cmp.anti _ _
      have a5 : own5 n n' = 0 := by omega
      have a6 : own5 n' n'' = 0 := by omega
      rw [if_neg (by rw [a5]; simp)] at h1
      rw [if_neg (by rw [a6]; simp)] at h2
      have c1 : cF k k' ≤ 0 := by by_cases h : cF k k' ≠ 0; rw [if_pos h] at h1; exact h1; omega
      have c2 : cF k' k'' ≤ 0 := by by_cases h : cF k' k'' ≠ 0; rw [if_pos h] at h2; exact h2; omega
      have c3 := cF_tr k k' k'' bk bk' bk'' c1 c2
      by_cases h4 : cF k k'' ≠ 0
      · rw [if_pos h4]; exact c3
      · rw [if_neg h4]
        have e1 := cF_eq k k'' bk bk'' (by simpa using h4)
        subst e1
        have c4 := cF_anti k k'
        have c5 : cF k k' = 0 := by omega
        have c6 : cF k' k = 0 := by omega
        rw [if_neg (by rw [c5]; simp)] at h1
        rw [if_neg (by rw [c6]; simp)] at h2
        exact cF_tr r r' r'' br br' br'' h1 h2
theorem cF_lt {f g h : Fo} (b1 : Bare f) (b2 : Bare g) (b3 : Bare h) (h1 : cF f g < 0) (h2 : cF g h < 0) : cF f h < 0 := by
  have a := cF_tr f g h b1 b2 b3 (by omega) (by omega)
  rcases Int.lt_or_eq_of_le a with h3 | h3
  · exact h3
  · have e := cF_eq f h b1 b3 h3
    subst e
    have := cF_anti f g
    omega
theorem cF_cons (n : Nd) (k r : Fo) (n' : Nd) (k' r' : Fo) : cF (.cons n k r) (.cons n' k' r') = if cF (.cons n k .nil) (.cons n' k' .nil) ≠ 0 then cF (.cons n k .nil) (.cons n' k' .nil) else cF r r' := by
  simp only [cF]
  by_cases h1 : own5 n n' ≠ 0
  · simp [h1]
  · simp only [h1, if_false]
    by_cases h2 : cF k k' ≠ 0
    · simp [h2]
    · simp [h2]

/-- A number's tree in a pool: none, or one. -/
def TreeAt (p : Pl) (t : Int) (f : Fo) : Prop := (inP p t = true ∧ RepF p [t] f ∧ Bare f) ∨ (inP p t = false ∧ f = .nil)
theorem TreeAt.bare {p : Pl} {t : Int} {f : Fo} (h : TreeAt p t f) : Bare f := by
  rcases h with ⟨_, _, h⟩ | ⟨_, rfl⟩
  · exact h
  · trivial
theorem tree_ex {p : Pl} (hp : Ok p) : ∀ (n : Nat) (t : Int), t.toNat ≤ n → ∃ f, TreeAt p t f := by
  intro n
  induction n with
  | zero =>
    intro t ht
    refine ⟨.nil, .inr ⟨?_, rfl⟩⟩
    cases h : inP p t with
    | false => rfl
    | true => simp only [inP, Bool.and_eq_true, decide_eq_true_eq] at h; omega
  | succ n ih =>
    intro t ht
    cases hin : inP p t with
    | false => exact ⟨.nil, .inr ⟨hin, rfl⟩⟩
    | true =>
      have hless := hp.less_at hin
      have hki := kids_in hp hin
      have hpos : 1 ≤ t := by simp only [inP, Bool.and_eq_true, decide_eq_true_eq] at hin; exact hin.1
      have sub : ∀ s, inP p s = true → s < t → ∃ n' k', RepF p [s] (.cons n' k' .nil) ∧ Bare (.cons n' k' .nil) := fun s hs hl => by
        obtain ⟨f, h⟩ := ih s (by omega)
        rcases h with ⟨_, h1, h2⟩ | ⟨h1, _⟩
        · match f, h1 with
          | .cons n' k' .nil, h1 => exact ⟨n', k', h1, h2⟩
        · rw [hs] at h1; cases h1
      have bz : (bareN (atP p t).1).a = 0 ∧ (bareN (atP p t).1).b = 0 := ⟨rfl, rfl⟩
      rcases kids_cases (atP p t).1.kind with h | h | h
      · exact ⟨.cons (bareN (atP p t).1) .nil .nil, .inl ⟨hin, ⟨hin, ⟨[], trivial, by rw [show (bareN (atP p t).1).kind = (atP p t).1.kind from rfl, h]; rfl, node_kids hp hin h⟩, trivial⟩, ⟨rfl, rfl, trivial, trivial⟩⟩⟩
      · obtain ⟨n1, k1, r1, b1⟩ := sub _ (hki.1 (by omega)) hless.1
        exact ⟨.cons (bareN (atP p t).1) (.cons n1 k1 .nil) .nil, .inl ⟨hin, ⟨hin, ⟨[(atP p t).1.a], r1, by rw [show (bareN (atP p t).1).kind = (atP p t).1.kind from rfl, h]; rfl, node_kids hp hin h⟩, trivial⟩, ⟨rfl, rfl, b1, trivial⟩⟩⟩
      · obtain ⟨n1, k1, r1, b1⟩ := sub _ (hki.1 (by omega)) hless.1
        obtain ⟨n2, k2, r2, b2⟩ := sub _ (hki.2 h) hless.2
        exact ⟨.cons (bareN (atP p t).1) (.cons n1 k1 (.cons n2 k2 .nil)) .nil, .inl ⟨hin, ⟨hin, ⟨[(atP p t).1.a, (atP p t).1.b], ⟨r1.1, r1.2.1, r2⟩, by rw [show (bareN (atP p t).1).kind = (atP p t).1.kind from rfl, h]; rfl, node_kids hp hin h⟩, trivial⟩, ⟨rfl, rfl, ⟨b1.1, b1.2.1, b1.2.2.1, b2⟩, trivial⟩⟩⟩
theorem TreeAt.zero (p : Pl) : TreeAt p 0 .nil := .inr ⟨inP_zero p, rfl⟩
/-- A term's tree, its node, its kids' trees. -/
theorem TreeAt.kids {p : Pl} (hp : Ok p) {t : Int} {f : Fo} (h : TreeAt p t f) (hin : inP p t = true) : ∃ k f1 f2, f = .cons (bareN (atP p t).1) k .nil ∧ TreeAt p (atP p t).1.a f1 ∧ TreeAt p (atP p t).1.b f2 ∧ f1.size < f.size ∧ f2.size < f.size ∧
    ((f1 = .nil ∧ f2 = .nil ∧ k = .nil) ∨ ∃ n1 k1, f1 = .cons n1 k1 .nil ∧ k = .cons n1 k1 f2) ∧ 1 ≤ (atP p t).1.kind ∧ (kidsN (atP p t).1.kind = 0 ↔ f1 = .nil) := by
  rcases h with ⟨_, h1, hb⟩ | ⟨h1, _⟩
  case inr => rw [hin] at h1; cases h1
  have hkd : 1 ≤ (atP p t).1.kind := by
    obtain ⟨i, hi, rfl, e⟩ := atP_get hin
    have he := hp.mem _ (List.getElem_mem hi)
    rw [← e] at he
    generalize (atP p ((i : Int) + 1)).1 = n at *
    unfold errP at he
    by_cases hs : shp n ≠ 0
    · rw [if_pos hs] at he; exact absurd he hs
    · have hs' : shp n = 0 := by simpa using hs
      unfold shp at hs'
      by_cases hp : plainB n = false
      · rw [if_pos hp] at hs'; cases hs'
      · have hp' : plainB n = true := by simpa using hp
        simp only [plainB, Bool.and_eq_true, decide_eq_true_eq] at hp'
        exact hp'.1.1.1.1.1.1.1
  match f, h1, hb with
  | .cons n k .nil, ⟨_, ⟨ka, r1, r2, r3⟩, _⟩, ⟨ba, bb, bk, _⟩ =>
    have hn : n = bareN (atP p t).1 := by
      rw [r3]
      obtain ⟨kk, ff, tt, uu, ss, xa, xb⟩ := n
      simp only at ba bb
      subst ba bb
      rfl
    have ha : (atP p t).1.a = ka.getD 0 0 := by rw [r3]; rfl
    have hb' : (atP p t).1.b = ka.getD 1 0 := by rw [r3]; rfl
    have hkk : n.kind = (atP p t).1.kind := by rw [hn]; rfl
    rw [ha, hb', ← hkk]
    rw [← hkk] at hkd
    match ka, k, r1, r2, bk with
    | [], .nil, _, r2, _ => exact ⟨.nil, .nil, .nil, by rw [hn], TreeAt.zero p, TreeAt.zero p, by simp [Fo.size], by simp [Fo.size], .inl ⟨rfl, rfl, rfl⟩, hkd, by simp at r2; exact ⟨fun _ => rfl, fun _ => r2.symm⟩⟩
    | [t1], .cons n1 k1 .nil, r1, r2, bk =>
      exact ⟨.cons n1 k1 .nil, .cons n1 k1 .nil, .nil, by rw [hn], .inl ⟨r1.1, r1, bk⟩, TreeAt.zero p, by simp [Fo.size], by simp [Fo.size]; omega, .inr ⟨n1, k1, rfl, rfl⟩, hkd, by simp at r2; exact ⟨fun h => by omega, fun h => by cases h⟩⟩
    | [t1, t2], .cons n1 k1 (.cons n2 k2 .nil), r1, r2, bk =>
      exact ⟨.cons n1 k1 (.cons n2 k2 .nil), .cons n1 k1 .nil, .cons n2 k2 .nil, by rw [hn], .inl ⟨r1.1, ⟨r1.1, r1.2.1, trivial⟩, ⟨bk.1, bk.2.1, bk.2.2.1, trivial⟩⟩, .inl ⟨r1.2.2.1, r1.2.2, bk.2.2.2⟩, by simp [Fo.size]; omega, by simp [Fo.size]; omega, .inr ⟨n1, k1, rfl, rfl⟩, hkd, by simp at r2; exact ⟨fun h => by omega, fun h => by cases h⟩⟩
    | t1 :: t2 :: t3 :: ts, _, _, r2, _ => have := kidsN_le n.kind; simp at r2; omega
    | [_], .nil, h, _, _ => exact h.elim
    | [_, _], .nil, h, _, _ => exact h.elim
    | [], .cons _ _ _, h, _, _ => exact h.elim
    | [_], .cons _ _ (.cons _ _ _), h, _, _ => exact h.2.2.elim
    | [_, _], .cons _ _ .nil, h, _, _ => exact h.2.2.elim
    | [_, _], .cons _ _ (.cons _ _ (.cons _ _ _)), h, _, _ => exact h.2.2.2.2.elim
theorem TreeAt.same {p : Pl} (hp : Ok p) {t s : Int} {f g : Fo} (h : TreeAt p t f) (k : TreeAt p s g) : (inP p t = true → inP p s = true → f = g → t = s) ∧ (t = s → f = g) := by
  constructor
  · intro h1 h2 e
    subst e
    rcases h with ⟨_, r, _⟩ | ⟨h, _⟩
    · rcases k with ⟨_, r', _⟩ | ⟨k, _⟩
      · have := RepF.term hp r r'
        simpa using this
      · rw [h2] at k; cases k
    · rw [h1] at h; cases h
  · rintro rfl
    rcases h with ⟨h, r, b⟩ | ⟨h, rfl⟩
    · rcases k with ⟨_, r', b'⟩ | ⟨k, _⟩
      · exact RepF.tree r r' b b'
      · rw [h] at k; cases k
    · rcases k with ⟨k, _⟩ | ⟨_, rfl⟩
      · rw [h] at k; cases k
      · rfl
theorem cmp_zero_lt {k : Int} (h : 1 ≤ k) : cmpOf (0 : Int) k = -1 ∧ cmpOf k (0 : Int) = 1 := by
  have h1 : KOrd.lt (0 : Int) k = true := by show decide (0 < k) = true; simp; omega
  have h2 := KOrd.asym h1
  unfold cmpOf
  rw [h1, h2]
  exact ⟨rfl, rfl⟩
/-- How two terms compare, step by step. -/
theorem cmp_step {p : Pl} (hp : Ok p) {t s : Int} {f g : Fo} (hf : TreeAt p t f) (hg : TreeAt p s g) :
    (own5 (atP p t).1 (atP p s).1 ≠ 0 → cF f g = own5 (atP p t).1 (atP p s).1) ∧
    (own5 (atP p t).1 (atP p s).1 = 0 → inP p t = inP p s ∧ ∃ f1 g1 f2 g2, TreeAt p (atP p t).1.a f1 ∧ TreeAt p (atP p s).1.a g1 ∧ TreeAt p (atP p t).1.b f2 ∧ TreeAt p (atP p s).1.b g2 ∧ (inP p t = true → f1.size < f.size ∧ f2.size < f.size) ∧ cF f g = (if cF f1 g1 ≠ 0 then cF f1 g1 else cF f2 g2) ∧ (inP p t = false → (atP p t).1.a = (atP p s).1.a ∧ (atP p t).1.b = (atP p s).1.b ∧ cF f g = 0) ∧ ((atP p t).1.a = (atP p s).1.a → cF f1 g1 = 0) ∧ ((atP p t).1.a ≠ (atP p s).1.a → cF f1 g1 ≠ 0) ∧ ((atP p t).1.b = (atP p s).1.b → cF f2 g2 = 0)) := by
  have sm : ∀ {x y : Int} {u v : Fo}, TreeAt p x u → TreeAt p y v → x = y → cF u v = 0 := fun hu hv e => by
    rw [(hu.same hp hv).2 e]; exact cF_refl _
  cases ht : inP p t with
  | true =>
    obtain ⟨k, f1, f2, e1, e2, e3, e4, e5, e6, e7, e8⟩ := hf.kids hp ht
    cases hs : inP p s with
    | true =>
      obtain ⟨k', g1, g2, d1, d2, d3, d4, d5, d6, d7, d8⟩ := hg.kids hp hs
      rw [e1, d1]
      constructor
      · intro h
        simp only [cF]
        rw [if_pos (by rw [own_bare]; exact h), own_bare]
      · intro h
        obtain ⟨q1, _⟩ := own_eq h
        refine ⟨rfl, f1, g1, f2, g2, e2, d2, e3, d3, fun _ => ⟨by rw [← e1]; exact e4, by rw [← e1]; exact e5⟩, ?_, (fun h => by cases h), sm e2 d2, fun hne h0 => ?_, sm e3 d3⟩
        · have hc : cF (.cons (bareN (atP p t).1) k .nil) (.cons (bareN (atP p s).1) k' .nil) = cF k k' := by
            simp only [cF]
            rw [if_neg (by rw [own_bare, h]; simp)]
            split
            · rfl
            · rename_i h; simp at h; exact h.symm
          rw [hc]
          rcases e6 with ⟨x1, x2, x3⟩ | ⟨n1, k1, x1, x2⟩
          · have := d8.1 (by rw [← q1]; exact e8.2 x1)
            rcases d6 with ⟨y1, y2, y3⟩ | ⟨n1', k1', y1, y2⟩
            · rw [x1, x2, x3, y1, y2, y3]; simp [cF]
            · rw [this] at y1; cases y1
          · rcases d6 with ⟨y1, y2, y3⟩ | ⟨n1', k1', y1, y2⟩
            · have := e8.1 (by rw [q1]; exact d8.2 y1)
              rw [this] at x1; cases x1
            · rw [x2, y2, cF_cons, ← x1, ← y1]
        · have ee := cF_eq f1 g1 e2.bare d2.bare h0
          rcases e6 with ⟨x1, x2, x3⟩ | ⟨n1, k1, x1, x2⟩
          · subst x1
            rcases e2 with ⟨_, r, _⟩ | ⟨z1, _⟩
            · exact r.elim
            · rcases d2 with ⟨_, r, _⟩ | ⟨z2, _⟩
              · rw [← ee] at r; exact r.elim
              · have ka := (kids_in hp ht).1
                have k0 := e8.2 rfl
                have n1 := node_kids hp ht k0
                have k0' : kidsN (atP p s).1.kind = 0 := by rw [← q1]; exact k0
                have n2 := node_kids hp hs k0'
                exact hne (by rw [n1, n2]; rfl)
          · have a1 : inP p (atP p t).1.a = true := by
              rcases e2 with ⟨z, _, _⟩ | ⟨_, z⟩
              · exact z
              · rw [z] at x1; cases x1
            have a2 : inP p (atP p s).1.a = true := by
              rcases d2 with ⟨z, _, _⟩ | ⟨_, z⟩
              · exact z
              · rw [← ee, x1] at z; cases z
            exact hne ((e2.same hp d2).1 a1 a2 ee)
    | false =>
      have hg0 : g = .nil := by rcases hg with ⟨h, _⟩ | ⟨_, h⟩; rw [hs] at h; cases h; exact h
      have hz := cmp_zero_lt e7
      have ho : own5 (atP p t).1 (atP p s).1 = 1 := by
        rw [atP_out hs]
        unfold own5 ownL
        show orI [cmpOf (atP p t).1.kind (0 : Int), _, _, _, _] = 1
        rw [hz.2]; rfl
      rw [ho, e1, hg0]
      exact ⟨fun _ => rfl, fun h => by cases h⟩
  | false =>
    have hf0 : f = .nil := by rcases hf with ⟨h, _⟩ | ⟨_, h⟩; rw [ht] at h; cases h; exact h
    cases hs : inP p s with
    | true =>
      obtain ⟨k', g1, g2, d1, d2, d3, d4, d5, d6, d7, d8⟩ := hg.kids hp hs
      have hz := cmp_zero_lt d7
      have ho : own5 (atP p t).1 (atP p s).1 = -1 := by
        rw [atP_out ht]
        unfold own5 ownL
        show orI [cmpOf (0 : Int) (atP p s).1.kind, _, _, _, _] = -1
        rw [hz.1]; rfl
      rw [ho, d1, hf0]
      exact ⟨fun _ => rfl, fun h => by cases h⟩
    | false =>
      have hg0 : g = .nil := by rcases hg with ⟨h, _⟩ | ⟨_, h⟩; rw [hs] at h; cases h; exact h
      rw [atP_out ht, atP_out hs, hf0, hg0]
      constructor
      · intro h
        exact absurd (by rw [own_key]; exact cmpK_cmp.refl _) h
      · intro _
        exact ⟨rfl, .nil, .nil, .nil, .nil, TreeAt.zero p, TreeAt.zero p, TreeAt.zero p, TreeAt.zero p, (fun h => by cases h), by simp [cF], fun _ => ⟨rfl, rfl, rfl⟩, fun _ => rfl, fun h => absurd rfl h, fun _ => rfl⟩
end Go.Proofs.YtjpembnnelhfkaaDoor
