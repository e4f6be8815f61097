/-
  Trees as plain data: a list of trees is nothing, or a label, its kids and the rest; how many nodes, how deep, what it is refused with, its terms in a pool.
  Memory: rows that a slice reads as, what stays; texts.
-/
import Derived.WalkKit
import Derived.WalkSpells
import Derived.WalkLawsBesides
import Derived.Lib.Hide
import Derived.Deep.QuietTactic
import Derived.BigQuiet
import Derived.StillTailTactics
import Derived.Deep.RegionHeld3
import Derived.Handy
import Derived.OwnWalk
import Derived.IntWalk
import Derived.LoopN
import Derived.Maps.OwnSet
import Derived.Maps.AppendAt
import Derived.Maps.Views
import Derived.Defers
import Derived.StringKeys
import Derived.Test.YtjmcaceegfdkkaaGreatDoorQcTBase
namespace Go.Proofs.YtjmcaceegfdkkaaGreatDoor
set_option linter.unusedVariables false
inductive Fo where
 | nil
 | cons (n : Nd) (kids rest : Fo)
def Fo.len : Fo → Nat
 | .nil => 0
 | .cons _ _ r => r.len + 1
def Fo.size : Fo → Nat
 | .nil => 0
 | .cons _ k r => 1 + k.size + r.size
def Fo.depth : Fo → Nat
 | .nil => 0
 | .cons _ k r => max (1 + k.depth) r.depth
def AllF (C : Nd → Fo → Prop) : Fo → Prop
 | .nil => True
 | .cons n k r => C n k ∧ AllF C r
theorem fo_all {C : Nd → Fo → Prop} (step : ∀ n k, AllF C k → C n k) : ∀ f, AllF C f
 | .nil => trivial
 | .cons n k r => ⟨step n k (fo_all step k), fo_all step r⟩
theorem tree_all {C : Nd → Fo → Prop} (step : ∀ n k, AllF C k → C n k) (n : Nd) (k : Fo) : C n k := step n k (fo_all step k)
def partsL : Fo → Int → Int → Int
 | .nil, n, _ => n
 | .cons _ k r, n, m => if n ≤ m then partsL r (n + partsL k 1 (m - n)) m else n
theorem partsL_bd (f : Fo) : ∀ n m : Int, 1 ≤ n → n ≤ partsL f n m ∧ partsL f n m ≤ max n (m + 1) := by
 induction f with
 | nil => intro n m h; simp only [partsL]; omega
 | cons x k r ihk ihr =>
  intro n m h
  simp only [partsL]
  split
  ·have h1 := ihk 1 (m - n) (by omega)
   have h2 := ihr (n + partsL k 1 (m - n)) m (by omega)
   omega
  ·omega
theorem partsL_size (f : Fo) : ∀ n m : Int, 1 ≤ n → partsL f n m ≤ m → partsL f n m = n + (f.size : Int) := by
 induction f with
 | nil => intro n m h _; simp [partsL, Fo.size]
 | cons x k r ihk ihr =>
  intro n m h hle
  simp only [partsL] at hle ⊢
  split
  ·rename_i hn
   rw [if_pos hn] at hle
   have b1 := partsL_bd k 1 (m - n) (by omega)
   have b2 := partsL_bd r (n + partsL k 1 (m - n)) m (by omega)
   have e1 := ihk 1 (m - n) (by omega) (by omega)
   have e2 := ihr _ m (by omega) hle
   rw [e2, e1]
   simp only [Fo.size]
   omega
  ·rename_i hn
   rw [if_neg hn] at hle
   omega
def lk : Fo → Int → Int → Int × Int
 | .nil, s, _ => (s, 0)
 | .cons n k r, s, d =>
  if 4096 ≤ s ∨ 64 ≤ d then (s, 52) else if k.len ≠ kidsN n.kind then (s + 1, 53) else if shp n ≠ 0 then (s + 1, shp n) else
   if (lk k (s + 1) (d + 1)).2 ≠ 0 then lk k (s + 1) (d + 1) else lk r (lk k (s + 1) (d + 1)).1 d
def lkT (n : Nd) (k : Fo) (s d : Int) : Int × Int :=
 if 4096 ≤ s ∨ 64 ≤ d then (s, 52) else if k.len ≠ kidsN n.kind then (s + 1, 53) else if shp n ≠ 0 then (s + 1, shp n) else lk k (s + 1) (d + 1)
theorem lk_cons (n : Nd) (k r : Fo) (s d : Int) : lk (.cons n k r) s d = if (lkT n k s d).2 ≠ 0 then lkT n k s d else lk r (lkT n k s d).1 d := by
 simp only [lk, lkT]
 by_cases h1 : 4096 ≤ s ∨ 64 ≤ d
 ·simp [h1]
 ·simp only [h1, if_false]
  by_cases h2 : k.len ≠ kidsN n.kind
  ·rw [if_pos h2, if_pos h2]; simp
  ·rw [if_neg h2, if_neg h2]
   by_cases h3 : shp n ≠ 0
   ·rw [if_pos h3, if_pos h3]; simp [h3]
   ·rw [if_neg h3, if_neg h3]
def Good : Fo → Prop
 | .nil => True
 | .cons n k r => k.len = kidsN n.kind ∧ shp n = 0 ∧ Good k ∧ Good r
theorem lk_ok : ∀ (f : Fo) (s d : Int), (lk f s d).2 = 0 → 0 ≤ s → s ≤ 4096 → d ≤ 64 → (lk f s d).1 = s + (f.size : Int) ∧ (lk f s d).1 ≤ 4096 ∧ Good f ∧ d + (f.depth : Int) ≤ 64 := by
 intro f
 induction f with
 | nil => intro s d h h0 h1 h2; simp [lk, Fo.size, Good, Fo.depth]; omega
 | cons n k r ihk ihr =>
  intro s d h h0 h1 h2
  simp only [lk] at h ⊢
  by_cases c1 : 4096 ≤ s ∨ 64 ≤ d
  ·simp [c1] at h
  ·simp only [c1, if_false] at h ⊢
   by_cases c2 : k.len ≠ kidsN n.kind
   ·rw [if_pos c2] at h; simp at h
   ·rw [if_neg c2] at h ⊢
    by_cases c3 : shp n ≠ 0
    ·rw [if_pos c3] at h; exact absurd h c3
    ·rw [if_neg c3] at h ⊢
     by_cases c4 : (lk k (s + 1) (d + 1)).2 ≠ 0
     ·rw [if_pos c4] at h; exact absurd h c4
     ·rw [if_neg c4] at h ⊢
      obtain ⟨k1, k2, k3, k4⟩ := ihk (s + 1) (d + 1) (by simpa using c4) (by omega) (by omega) (by omega)
      obtain ⟨r1, r2, r3, r4⟩ := ihr _ d h (by omega) k2 h2
      refine ⟨?_, r2, ⟨by simpa using c2, by simpa using c3, k3, r3⟩, ?_⟩
      ·rw [r1, k1]; simp only [Fo.size]; omega
      ·simp only [Fo.depth]; omega
def nodeOf (n : Nd) (ka : List Int) : Nd := ⟨n.kind, n.frm, n.to, n.num, n.text, ka.getD 0 0, ka.getD 1 0⟩
def Bare : Fo → Prop
 | .nil => True
 | .cons n k r => n.a = 0 ∧ n.b = 0 ∧ Bare k ∧ Bare r
def grF : Fo → Pl → List Int × Int × Pl
 | .nil, p => ([], 0, p)
 | .cons n k r, p =>
  if (grF k p).2.1 ≠ 0 then ([], (grF k p).2.1, (grF k p).2.2) else
   if (mkP (grF k p).2.2 (nodeOf n (grF k p).1)).2.1 ≠ 0 then ([], (mkP (grF k p).2.2 (nodeOf n (grF k p).1)).2.1, (mkP (grF k p).2.2 (nodeOf n (grF k p).1)).2.2) else
    ((mkP (grF k p).2.2 (nodeOf n (grF k p).1)).1 :: (grF r (mkP (grF k p).2.2 (nodeOf n (grF k p).1)).2.2).1, (grF r (mkP (grF k p).2.2 (nodeOf n (grF k p).1)).2.2).2.1, (grF r (mkP (grF k p).2.2 (nodeOf n (grF k p).1)).2.2).2.2)
def grT (n : Nd) (k : Fo) (p : Pl) : Int × Int × Pl :=
 if (grF k p).2.1 ≠ 0 then (0, (grF k p).2.1, (grF k p).2.2) else mkP (grF k p).2.2 (nodeOf n (grF k p).1)
theorem grF_cons (n : Nd) (k r : Fo) (p : Pl) : grF (.cons n k r) p =
  if (grT n k p).2.1 ≠ 0 then ([], (grT n k p).2.1, (grT n k p).2.2) else ((grT n k p).1 :: (grF r (grT n k p).2.2).1, (grF r (grT n k p).2.2).2.1, (grF r (grT n k p).2.2).2.2) := by
 simp only [grF, grT]
 by_cases h1 : (grF k p).2.1 ≠ 0
 ·simp [h1]
 ·simp only [h1, if_false]
def RepF (p : Pl) : List Int → Fo → Prop
 | [], .nil => True
 | t :: ts, .cons n k r => inP p t = true ∧ (∃ ka, RepF p ka k ∧ ka.length = kidsN n.kind ∧ (atP p t).1 = nodeOf n ka) ∧ RepF p ts r
 | _, _ => False
theorem RepF.length {p : Pl} : ∀ {ts : List Int} {f : Fo}, RepF p ts f → ts.length = f.len
 | [], .nil, _ => rfl
 | t :: ts, .cons n k r, h => by have := RepF.length h.2.2; simp [Fo.len, this]
 | [], .cons _ _ _, h => h.elim
 | _ :: _, .nil, h => h.elim
theorem RepF.more {p e : Pl} : ∀ {f : Fo} {ts : List Int}, RepF p ts f → RepF (p ++ e) ts f
 | .nil, [], _ => trivial
 | .cons n k r, t :: ts, h => by
  obtain ⟨h1, ⟨ka, h2, h3, h4⟩, h5⟩ := h
  exact ⟨inP_le h1 (by simp), ⟨ka, h2.more, h3, by rw [atP_append h1]; exact h4⟩, h5.more⟩
 | .cons _ _ _, [], h => h.elim
 | .nil, _ :: _, h => h.elim
theorem two_list {a b : List Int} (h1 : a.length = b.length) (h2 : a.length ≤ 2) (h3 : a.getD 0 0 = b.getD 0 0) (h4 : a.getD 1 0 = b.getD 1 0) : a = b := by
 match a, b with
 | [], [] => rfl
 | [x], [y] => simp at h3; rw [h3]
 | [x, y], [z, u] => simp at h3 h4; rw [h3, h4]
 | [], _ :: _ => simp at h1
 | _ :: _, [] => simp at h1
 | [_], _ :: _ :: _ => simp at h1
 | _ :: _ :: _, [_] => simp at h1
 | _ :: _ :: _ :: _, _ => simp at h2
 | [_, _], _ :: _ :: _ :: _ => simp at h1
theorem kidsN_le (k : Int) : kidsN k ≤ 2 := by rcases kids_cases k with h | h | h <;> omega
theorem nodeOf_inj {n n' : Nd} {ka ka' : List Int} (h : nodeOf n ka = nodeOf n' ka') (ha : n.a = 0) (hb : n.b = 0) (ha' : n'.a = 0) (hb' : n'.b = 0) (hl : ka.length = kidsN n.kind) (hl' : ka'.length = kidsN n'.kind) : n = n' ∧ ka = ka' := by
 obtain ⟨k, f, t, u, s, a, b⟩ := n
 obtain ⟨k', f', t', u', s', a', b'⟩ := n'
 simp only [nodeOf, Nd.mk.injEq] at h ha hb ha' hb' hl hl'
 obtain ⟨rfl, rfl, rfl, rfl, rfl, h6, h7⟩ := h
 subst ha hb ha' hb'
 exact ⟨rfl, two_list (by omega) (by rw [hl]; exact kidsN_le _) h6 h7⟩
theorem RepF.tree {p : Pl} : ∀ {f g : Fo} {ts : List Int}, RepF p ts f → RepF p ts g → Bare f → Bare g → f = g
 | .nil, .nil, _, _, _, _, _ => rfl
 | .cons n k r, .cons n' k' r', t :: ts, h, h', b, b' => by
  obtain ⟨h1, ⟨ka, h2, h3, h4⟩, h5⟩ := h
  obtain ⟨h1', ⟨ka', h2', h3', h4'⟩, h5'⟩ := h'
  obtain ⟨ba, bb, bk, br⟩ := b
  obtain ⟨ba', bb', bk', br'⟩ := b'
  obtain ⟨rfl, rfl⟩ := nodeOf_inj (h4.symm.trans h4') ba bb ba' bb' h3 h3'
  rw [RepF.tree h2 h2' bk bk', RepF.tree h5 h5' br br']
 | .cons _ _ _, .nil, [], h, _, _, _ => h.elim
 | .cons _ _ _, .nil, _ :: _, _, h, _, _ => h.elim
 | .nil, .cons _ _ _, [], _, h, _, _ => h.elim
 | .nil, .cons _ _ _, _ :: _, h, _, _, _ => h.elim
 | .cons _ _ _, .cons _ _ _, [], h, _, _, _ => h.elim
theorem atP_get {p : Pl} {t : Int} (h : inP p t = true) : ∃ i, ∃ hi : i < p.length, t = (i : Int) + 1 ∧ atP p t = p[i] := by
 have h' := h
 simp only [inP, Bool.and_eq_true, decide_eq_true_eq] at h'
 refine ⟨t.toNat - 1, by omega, by omega, ?_⟩
 unfold atP
 rw [if_pos h, List.getD_eq_getElem?_getD, List.getElem?_eq_getElem (by omega)]
 rfl
theorem Ok.sizes {p : Pl} (h : Ok p) : ∀ m ∈ p, m.2.1 = szN p m.1 ∧ m.2.2 = dpN p m.1 := by
 induction h with
 | nil => intro m hm; cases hm
 | @add p n hp he hn hl ih =>
  have key : ∀ x, errP p x = 0 → szN (addP p n) x = szN p x ∧ dpN (addP p n) x = dpN p x := fun x hx => by
   have hk := kid_in hx
   unfold addP szN szP dpN dpP
   rw [at_kid hk.1, at_kid hk.2]
   exact ⟨rfl, rfl⟩
  intro m hm
  rcases List.mem_append.1 hm with h | h
  ·obtain ⟨e1, e2⟩ := ih m h
   obtain ⟨k1, k2⟩ := key m.1 (hp.mem m h)
   exact ⟨e1.trans k1.symm, e2.trans k2.symm⟩
  ·rw [List.mem_singleton] at h
   subst h
   obtain ⟨k1, k2⟩ := key n he
   exact ⟨k1.symm, k2.symm⟩
theorem Ok.at_sizes {p : Pl} (h : Ok p) {t : Int} (ht : inP p t = true) : szP p t = szN p (atP p t).1 ∧ dpP p t = dpN p (atP p t).1 := by
 obtain ⟨i, hi, rfl, e⟩ := atP_get ht
 obtain ⟨e1, e2⟩ := h.sizes _ (List.getElem_mem hi)
 unfold szP dpP
 rw [e]
 exact ⟨e1, e2⟩
theorem szP_zero (p : Pl) : szP p 0 = 0 := by unfold szP; rw [atP_zero]; rfl
theorem dpP_zero (p : Pl) : dpP p 0 = 0 := by unfold dpP; rw [atP_zero]; rfl
def sumSz (p : Pl) : List Int → Int
 | [] => 0
 | t :: ts => szP p t + sumSz p ts
def maxDp (p : Pl) : List Int → Int
 | [] => 0
 | t :: ts => max (dpP p t) (maxDp p ts)
theorem sum_two {p : Pl} {ka : List Int} (h : ka.length ≤ 2) (n : Nd) : szN p (nodeOf n ka) = 1 + sumSz p ka ∧ (∀ x : Int, 0 ≤ x → maxDp p ka ≤ x → dpN p (nodeOf n ka) ≤ 1 + x) := by
 match ka with
 | [] =>
  refine ⟨by simp [szN, nodeOf, sumSz, szP_zero], fun x h0 hx => ?_⟩
  simp only [dpN, nodeOf, List.getD_nil, dpP_zero]
  omega
 | [a] =>
  refine ⟨by simp [szN, nodeOf, sumSz, szP_zero], fun x h0 hx => ?_⟩
  simp only [maxDp] at hx
  simp only [dpN, nodeOf, List.getD_cons_zero, List.getD_cons_succ, List.getD_nil, dpP_zero]
  omega
 | [a, b] =>
  refine ⟨by simp [szN, nodeOf, sumSz]; omega, fun x h0 hx => ?_⟩
  simp only [maxDp] at hx
  simp only [dpN, nodeOf, List.getD_cons_zero, List.getD_cons_succ]
  omega
 | _ :: _ :: _ :: _ => exact absurd h (by simp)
theorem RepF.sizes {p : Pl} (hp : Ok p) : ∀ {f : Fo} {ts : List Int}, RepF p ts f → sumSz p ts = (f.size : Int) ∧ maxDp p ts ≤ (f.depth : Int)
 | .nil, [], _ => ⟨rfl, Int.le_refl _⟩
 | .cons n k r, t :: ts, h => by
  obtain ⟨h1, ⟨ka, h2, h3, h4⟩, h5⟩ := h
  obtain ⟨k1, k2⟩ := RepF.sizes hp h2
  obtain ⟨r1, r2⟩ := RepF.sizes hp h5
  obtain ⟨s1, s2⟩ := hp.at_sizes h1
  obtain ⟨t1, t2⟩ := sum_two (p := p) (ka := ka) (by rw [h3]; exact kidsN_le _) n
  have t3 := t2 _ (by omega) k2
  rw [h4] at s1 s2
  simp only [sumSz, maxDp, Fo.size, Fo.depth]
  omega
 | .cons _ _ _, [], h => h.elim
 | .nil, _ :: _, h => h.elim
theorem mkP_good {p : Pl} {n : Nd} (hp : Ok p) (he : errP p n = 0) (hl : p.length < 65536) : (mkP p n).2.1 = 0 ∧ inP (mkP p n).2.2 (mkP p n).1 = true ∧ (atP (mkP p n).2.2 (mkP p n).1).1 = n ∧ (∃ e, (mkP p n).2.2 = p ++ e ∧ e.length ≤ 1) := by
 unfold mkP
 rw [if_neg (by rw [he]; simp)]
 by_cases h : numP p n ≠ 0
 ·rw [if_pos h]
  obtain ⟨i, hi, e1, e2, _⟩ := numP_some h
  have hin : inP p ((numP p n : Nat) : Int) = true := by simp [inP]; omega
  refine ⟨rfl, hin, ?_, [], by simp, by simp⟩
  obtain ⟨j, hj, e3, e4⟩ := atP_get hin
  rw [e4]
  have : j = i := by omega
  subst this
  exact e2
 ·rw [if_neg h, if_neg (by omega)]
  have hin : inP (addP p n) ((p.length : Int) + 1) = true := by simp [inP, addP]; omega
  refine ⟨rfl, hin, ?_, [(n, szN p n, dpN p n)], rfl, by simp⟩
  obtain ⟨j, hj, e3, e4⟩ := atP_get hin
  show (atP (addP p n) ((p.length : Int) + 1)).1 = n
  rw [e4]
  have : j = p.length := by omega
  subst this
  simp [addP]
theorem shp_nodeOf {n : Nd} {ka : List Int} (hs : shp n = 0) (hk : ka.length = kidsN n.kind) (ha : n.a = 0) (hb : n.b = 0) : shp (nodeOf n ka) = 0 := by
 have hl := kidsN_le n.kind
 have hp : plainB (nodeOf n ka) = true := by
  have hp' : plainB n = true := by
   unfold shp at hs
   by_cases h : plainB n = false
   ·rw [if_pos h] at hs; cases hs
   ·simpa using h
  unfold plainB at hp'
  show (decide (1 ≤ n.kind) && decide (n.kind ≤ 9) && (namedB n.kind || n.frm == 0) && (twoB n.kind || n.to == 0) && (n.kind == 2 || n.num == 0) && (n.kind == 3 || n.text.toList.isEmpty) && (decide (1 ≤ kidsN n.kind) || ka.getD 0 0 == 0) && (kidsN n.kind == 2 || ka.getD 1 0 == 0)) = true
  simp only [Bool.and_eq_true, Bool.or_eq_true, decide_eq_true_eq, beq_iff_eq] at hp' ⊢
  obtain ⟨⟨⟨⟨⟨⟨⟨q1, q2⟩, q3⟩, q4⟩, q5⟩, q6⟩, q7⟩, q8⟩ := hp'
  refine ⟨⟨⟨⟨⟨⟨⟨q1, q2⟩, q3⟩, q4⟩, q5⟩, q6⟩, ?_⟩, ?_⟩
  ·by_cases h : 1 ≤ kidsN n.kind
   ·exact .inl h
   ·right
    have : ka = [] := List.eq_nil_of_length_eq_zero (by omega)
    subst this; rfl
  ·by_cases h : kidsN n.kind = 2
   ·exact .inl h
   ·right
    match ka, hk with
    | [], _ => rfl
    | [a], _ => rfl
    | _ :: _ :: _, hk => simp at hk; omega
 unfold shp at hs ⊢
 rw [if_neg (by rw [hp]; decide)]
 by_cases h : plainB n = false
 ·rw [if_pos h] at hs; cases hs
 ·rw [if_neg h] at hs
  exact hs
theorem errP_nodeOf {p : Pl} {n : Nd} {ka : List Int} {k : Fo} (hp : Ok p) (hr : RepF p ka k) (hs : shp n = 0) (hk : ka.length = kidsN n.kind) (ha : n.a = 0) (hb : n.b = 0) (h1 : 1 + (k.size : Int) ≤ 4096) (h2 : 1 + (k.depth : Int) ≤ 64) : errP p (nodeOf n ka) = 0 := by
 obtain ⟨s1, s2⟩ := RepF.sizes hp hr
 obtain ⟨t1, t2⟩ := sum_two (p := p) (ka := ka) (by rw [hk]; exact kidsN_le _) n
 have t3 := t2 _ (by omega) s2
 have hin : ∀ t ∈ ka, inP p t = true := by
  clear s1 s2 t1 t2 t3 hk h1 h2
  induction ka generalizing k with
  | nil => intro t ht; cases ht
  | cons x xs ih =>
   cases k with
   | nil => exact hr.elim
   | cons m j r =>
    intro t ht
    rcases List.mem_cons.1 ht with rfl | ht
    ·exact hr.1
    ·exact ih hr.2.2 t ht
 unfold errP
 rw [if_neg (by rw [shp_nodeOf hs hk ha hb]; simp)]
 have hkb : kidsBad p (nodeOf n ka) = false := by
  show (decide (1 ≤ kidsN n.kind) && !inP p (ka.getD 0 0) || kidsN n.kind == 2 && !inP p (ka.getD 1 0)) = false
  simp only [Bool.or_eq_false_iff, Bool.and_eq_false_iff, decide_eq_false_iff_not, Bool.not_eq_false', beq_eq_false_iff_ne]
  have hl := kidsN_le n.kind
  constructor
  ·match ka, hk with
   | [], hk => left; simp at hk; omega
   | a :: _, _ => right; exact hin a (by simp)
  ·match ka, hk with
   | [], hk => left; simp at hk; omega
   | [a], hk => left; simp at hk; omega
   | _ :: b :: _, _ => right; exact hin b (by simp)
 rw [if_neg (by rw [hkb]; decide), if_neg]
 omega
theorem grF_good : ∀ (f : Fo) (p : Pl), Ok p → Good f → Bare f → (f.size : Int) ≤ 4096 → (f.depth : Int) ≤ 64 → p.length + f.size ≤ 65536 →
  (grF f p).2.1 = 0 ∧ RepF (grF f p).2.2 (grF f p).1 f ∧ Ok (grF f p).2.2 ∧ ∃ e, (grF f p).2.2 = p ++ e ∧ e.length ≤ f.size := by
 intro f
 induction f with
 | nil => intro p hp _ _ _ _ _; exact ⟨rfl, trivial, hp, [], by simp [grF], by simp⟩
 | cons n k r ihk ihr =>
  intro p hp hg hb h1 h2 h3
  obtain ⟨g1, g2, g3, g4⟩ := hg
  obtain ⟨b1, b2, b3, b4⟩ := hb
  simp only [Fo.size, Fo.depth] at h1 h2 h3
  obtain ⟨k1, k2, k3, e, k4, k5⟩ := ihk p hp g3 b3 (by omega) (by omega) (by omega)
  have hl : (grF k p).1.length = kidsN n.kind := by rw [k2.length]; exact g1
  have he := errP_nodeOf k3 k2 g2 hl b1 b2 (by omega) (by omega)
  obtain ⟨m1, m2, m3, x, m4, m5⟩ := mkP_good k3 he (by rw [k4]; simp; omega)
  have mo := mkP_ok k3 (nodeOf n (grF k p).1)
  simp only [grF]
  rw [if_neg (by rw [k1]; simp), if_neg (by rw [m1]; simp)]
  have k2' : RepF (mkP (grF k p).2.2 (nodeOf n (grF k p).1)).2.2 (grF k p).1 k := by rw [m4]; exact k2.more
  have hlen2 : (mkP (grF k p).2.2 (nodeOf n (grF k p).1)).2.2.length ≤ p.length + k.size + 1 := by rw [m4, k4]; simp; omega
  obtain ⟨r1, r2, r3, y, r4, r5⟩ := ihr _ mo g4 b4 (by omega) (by omega) (by omega)
  have hge : ∃ ee, (mkP (grF k p).2.2 (nodeOf n (grF k p).1)).2.2 = p ++ ee ∧ ee.length ≤ k.size + 1 := ⟨e ++ x, by rw [m4, k4, List.append_assoc], by simp; omega⟩
  obtain ⟨ee, e1, e2⟩ := hge
  generalize (mkP (grF k p).2.2 (nodeOf n (grF k p).1)).2.2 = p2 at *
  generalize (mkP (grF k p).2.2 (nodeOf n (grF k p).1)).1 = t at *
  refine ⟨r1, ?_, r3, ee ++ y, ?_, by simp [Fo.size]; omega⟩
  ·rw [r4] at r2 ⊢
   exact ⟨inP_le m2 (by simp), ⟨_, k2'.more, hl, by rw [atP_append m2]; exact m3⟩, r2⟩
  ·show (grF r p2).2.2 = _
   rw [r4, e1, List.append_assoc]
theorem grT_good (n : Nd) (k : Fo) (p : Pl) (hp : Ok p) (hg : Good (.cons n k .nil)) (hb : Bare (.cons n k .nil)) (h1 : ((Fo.cons n k .nil).size : Int) ≤ 4096) (h2 : ((Fo.cons n k .nil).depth : Int) ≤ 64) (h3 : p.length + (Fo.cons n k .nil).size ≤ 65536) :
  (grT n k p).2.1 = 0 ∧ RepF (grT n k p).2.2 [(grT n k p).1] (.cons n k .nil) ∧ Ok (grT n k p).2.2 ∧ ∃ e, (grT n k p).2.2 = p ++ e ∧ e.length ≤ (Fo.cons n k .nil).size := by
 have h := grF_good _ p hp hg hb h1 h2 h3
 rw [grF_cons] at h
 by_cases c : (grT n k p).2.1 ≠ 0
 ·rw [if_pos c] at h; exact absurd h.1 c
 ·rw [if_neg c] at h
  simp only [grF] at h
  refine ⟨by simpa using c, h.2⟩
def ofP (n : Nd) (k : Fo) (p : Pl) : Int × Int × Pl :=
 if (lkT n k 0 0).2 ≠ 0 then (0, (lkT n k 0 0).2, p) else if (grT n k p).2.1 ≠ 0 then (0, (grT n k p).2.1, p) else grT n k p
theorem ofP_ok (n : Nd) (k : Fo) (p : Pl) (hp : Ok p) (hb : Bare (.cons n k .nil)) (h3 : p.length + (Fo.cons n k .nil).size ≤ 65536) :
  ((lkT n k 0 0).2 ≠ 0 ∧ ofP n k p = (0, (lkT n k 0 0).2, p)) ∨
  ((lkT n k 0 0).2 = 0 ∧ (grT n k p).2.1 = 0 ∧ ofP n k p = grT n k p ∧ RepF (grT n k p).2.2 [(grT n k p).1] (.cons n k .nil) ∧ Ok (grT n k p).2.2 ∧ ∃ e, (grT n k p).2.2 = p ++ e ∧ e.length ≤ (Fo.cons n k .nil).size) := by
 by_cases h : (lkT n k 0 0).2 = 0
 ·have hk : (lk (.cons n k .nil) 0 0).2 = 0 := by rw [lk_cons, if_neg (by rw [h]; simp)]; rfl
  obtain ⟨a1, a2, a3, a4⟩ := lk_ok _ 0 0 hk (by omega) (by omega) (by omega)
  obtain ⟨q1, q2⟩ := grT_good n k p hp a3 hb (by omega) (by omega) h3
  refine .inr ⟨h, q1, ?_, q2⟩
  unfold ofP
  rw [if_neg (by rw [h]; simp), if_neg (by rw [q1]; simp)]
 ·refine .inl ⟨h, ?_⟩
  unfold ofP
  rw [if_pos h]
end Go.Proofs.YtjmcaceegfdkkaaGreatDoor
namespace Go.Proofs.YtjmcaceegfdkkaaGreatDoor
open Go.RowKit
set_option linter.unusedVariables false
theorem bytesLess_irr : ∀ l : List UInt8, Op.bytesLess l l = false
 | [] => rfl
 | a :: l => by simp [Op.bytesLess, bytesLess_irr l]
theorem bytesLess_tr : ∀ a b c : List UInt8, Op.bytesLess a b = true → Op.bytesLess b c = true → Op.bytesLess a c = true
 | _, [], _, h, _ => by cases ‹List UInt8› <;> simp [Op.bytesLess] at h
 | _, _ :: _, [], _, h => by simp [Op.bytesLess] at h
 | [], _ :: _, _ :: _, _, _ => rfl
 | x :: a, y :: b, z :: c, h1, h2 => by
  simp only [Op.bytesLess, Bool.or_eq_true, decide_eq_true_eq, Bool.and_eq_true, beq_iff_eq] at h1 h2 ⊢
  rcases h1 with h1 | ⟨rfl, h1⟩
  ·rcases h2 with h2 | ⟨rfl, h2⟩
   ·exact .inl (UInt8.lt_trans h1 h2)
   ·exact .inl h1
  ·rcases h2 with h2 | ⟨rfl, h2⟩
   ·exact .inl h2
   ·exact .inr ⟨rfl, bytesLess_tr a b c h1 h2⟩
theorem bytesLess_tri : ∀ a b : List UInt8, Op.bytesLess a b = false → Op.bytesLess b a = false → a = b
 | [], [], _, _ => rfl
 | [], _ :: _, h, _ => by simp [Op.bytesLess] at h
 | _ :: _, [], _, h => by simp [Op.bytesLess] at h
 | x :: a, y :: b, h1, h2 => by
  simp only [Op.bytesLess, Bool.or_eq_false_iff, decide_eq_false_iff_not, Bool.and_eq_false_iff, beq_eq_false_iff_ne] at h1 h2
  have e : x = y := UInt8.le_antisymm (UInt8.not_lt.1 h2.1) (UInt8.not_lt.1 h1.1)
  subst e
  rw [bytesLess_tri a b (by simpa using h1.2) (by simpa using h2.2)]
theorem toList_inj {a b : ByteArray} (h : a.toList = b.toList) : a = b := by
 rw [ByteArray.toList_eq, ByteArray.toList_eq] at h
 cases a; cases b
 simpa using h
theorem beq_self_list (s : ByteArray) : (s.toList == s.toList) = true := by simp
def Hold (T : TypeId) (w w' : World) : Prop := ∀ (b : Nat) (cs : Array Value), w.heap[b]? = some (Obj.cells cs T) → w'.heap[b]? = some (Obj.cells cs T)
theorem Hold.trans {T : TypeId} {a b c : World} (h : Hold T a b) (k : Hold T b c) : Hold T a c := fun i cs hi => k i cs (h i cs hi)
theorem Hold.below {T : TypeId} {w w' : World} (h : Below w.heap.size w w') : Hold T w w' := fun b cs hb => by
 rw [h.block b (Array.getElem?_eq_some_iff.1 hb).1]; exact hb
theorem still_of {P : Program} {f : FuncId} {args : Array Value} {w : World} {v : Value} (h : Calls P f args w fun e w' => e = .returned v ∧ w = w') : Calls P f args w fun e w' => e = .returned v ∧ w' = w :=
 h.mono fun _ _ ⟨a, b⟩ => ⟨a, b.symm⟩
theorem bmore {w a b : World} (h : Below w.heap.size w a) (hb : Below a.heap.size a b) : Below w.heap.size w b := h.trans (hb.mono h.size)
theorem bdd (w : World) (n : Nat) : Below w.heap.size w (w.drewN n).drew := ⟨rfl, rfl, rfl, Nat.le_refl _, fun _ _ => rfl⟩
theorem bd (w : World) : Below w.heap.size w w.drew := ⟨rfl, rfl, rfl, Nat.le_refl _, fun _ _ => rfl⟩
theorem bdn (w : World) (n : Nat) : Below w.heap.size w (w.drewN n) := ⟨rfl, rfl, rfl, Nat.le_refl _, fun _ _ => rfl⟩
theorem bcellAt {w w' : World} {b o : Nat} {u : Value} (h : Below w.heap.size w w') (hc : w.cell? ⟨b, o, none⟩ = some u) : w'.cell? ⟨b, o, none⟩ = some u := by
 rw [h.cell (p := ⟨b, o, none⟩) (World.block_lt_of_cell? w _ hc)]; exact hc
theorem Hold.setCell {T T' : TypeId} {w : World} {c o : Nat} {cs : Array Value} {fr : Nat × Nat} {v : Value} (hc : w.heap[c]? = some (Obj.cells cs T' fr)) (hne : T' ≠ T) : Hold T w (w.setCell ⟨c, o, none⟩ v) := by
 intro b cs' hb
 have hbc : b ≠ c := by
  rintro rfl
  rw [hc] at hb
  simp only [Option.some.injEq, Obj.cells.injEq] at hb
  exact hne hb.2.1
 rw [Below.heap_setCell _ _ _ _ hbc]
 exact hb
theorem frozenB {w : World} {b j : Nat} {cs : Array Value} {T : TypeId} (hb : w.heap[b]? = some (Obj.cells cs T)) : w.frozen? ⟨b, j, none⟩ = false := by
 unfold World.frozen?
 rw [hb]
 simp
theorem setCellB {w : World} {b j : Nat} {cs : Array Value} {T : TypeId} {u : Value} (hb : w.heap[b]? = some (Obj.cells cs T)) : (w.setCell ⟨b, j, none⟩ u).heap[b]? = some (Obj.cells (cs.setIfInBounds j u) T) := by
 simp [World.setCell, Array.getElem?_modify, hb]
theorem own_hold {w w' : World} {base n size : Nat} {e : TypeId} {v : Value} {xs : List Value} (h : w.ownsRow base e size v n xs) (hh : Hold e w w') : w'.ownsRow base e size v n xs := by
 obtain ⟨h1, h2⟩ := h
 refine ⟨h1, ?_⟩
 rcases h2 with h2 | ⟨g, cap, cur, rfl, hb, hg', rest⟩
 ·exact .inl h2
 ·exact .inr ⟨g, cap, cur, rfl, hb, hh _ _ hg', rest⟩
theorem own_type {w : World} {base n size : Nat} {e : TypeId} {v : Value} {xs : List Value} {g : Nat} (h : w.ownsRow base e size v n xs) (hg : v.ownBlock = some g) : base ≤ g ∧ ∃ cur, w.heap[g]? = some (Obj.cells cur e) := by
 rcases h.2 with ⟨rfl, _⟩ | ⟨g', cap, cur, rfl, hb, hg', _⟩
 ·simp [Value.ownBlock] at hg
 ·simp only [Value.ownBlock, Option.some.injEq] at hg
  subst hg
  exact ⟨hb, cur, hg'⟩
theorem cellB {w : World} {b j : Nat} {cs : Array Value} {T : TypeId} {u : Value} (hb : w.heap[b]? = some (Obj.cells cs T)) (hj : cs[j]? = some u) : w.cell? ⟨b, j, none⟩ = some u := by
 unfold World.cell?
 simp [hb, hj]
theorem cs3 {w : World} {b : Nat} {c0 c1 c2 : Value} {T : TypeId} {cs : Array Value} (h : w.heap[b]? = some (Obj.cells cs T)) (h0 : cs[0]? = some c0) (h1 : cs[1]? = some c1) (h2 : cs[2]? = some c2) : w.cell? ⟨b, 0, none⟩ = some c0 ∧ w.cell? ⟨b, 1, none⟩ = some c1 ∧ w.cell? ⟨b, 2, none⟩ = some c2 := ⟨cellB (j := 0) h h0, cellB (j := 1) h h1, cellB (j := 2) h h2⟩
theorem cs4 {w : World} {b : Nat} {c0 c1 c2 c3 : Value} {T : TypeId} {cs : Array Value} (h : w.heap[b]? = some (Obj.cells cs T)) (h0 : cs[0]? = some c0) (h1 : cs[1]? = some c1) (h2 : cs[2]? = some c2) (h3 : cs[3]? = some c3) : w.cell? ⟨b, 0, none⟩ = some c0 ∧ w.cell? ⟨b, 1, none⟩ = some c1 ∧ w.cell? ⟨b, 2, none⟩ = some c2 ∧ w.cell? ⟨b, 3, none⟩ = some c3 := ⟨cellB (j := 0) h h0, cellB (j := 1) h h1, cellB (j := 2) h h2, cellB (j := 3) h h3⟩
theorem cs5 {w : World} {b : Nat} {c0 c1 c2 c3 c4 : Value} {T : TypeId} {cs : Array Value} (h : w.heap[b]? = some (Obj.cells cs T)) (h0 : cs[0]? = some c0) (h1 : cs[1]? = some c1) (h2 : cs[2]? = some c2) (h3 : cs[3]? = some c3) (h4 : cs[4]? = some c4) : w.cell? ⟨b, 0, none⟩ = some c0 ∧ w.cell? ⟨b, 1, none⟩ = some c1 ∧ w.cell? ⟨b, 2, none⟩ = some c2 ∧ w.cell? ⟨b, 3, none⟩ = some c3 ∧ w.cell? ⟨b, 4, none⟩ = some c4 := ⟨cellB (j := 0) h h0, cellB (j := 1) h h1, cellB (j := 2) h h2, cellB (j := 3) h h3, cellB (j := 4) h h4⟩
theorem cs6 {w : World} {b : Nat} {c0 c1 c2 c3 c4 c5 : Value} {T : TypeId} {cs : Array Value} (h : w.heap[b]? = some (Obj.cells cs T)) (h0 : cs[0]? = some c0) (h1 : cs[1]? = some c1) (h2 : cs[2]? = some c2) (h3 : cs[3]? = some c3) (h4 : cs[4]? = some c4) (h5 : cs[5]? = some c5) : w.cell? ⟨b, 0, none⟩ = some c0 ∧ w.cell? ⟨b, 1, none⟩ = some c1 ∧ w.cell? ⟨b, 2, none⟩ = some c2 ∧ w.cell? ⟨b, 3, none⟩ = some c3 ∧ w.cell? ⟨b, 4, none⟩ = some c4 ∧ w.cell? ⟨b, 5, none⟩ = some c5 := ⟨cellB (j := 0) h h0, cellB (j := 1) h h1, cellB (j := 2) h h2, cellB (j := 3) h h3, cellB (j := 4) h h4, cellB (j := 5) h h5⟩
theorem cs7 {w : World} {b : Nat} {c0 c1 c2 c3 c4 c5 c6 : Value} {T : TypeId} {cs : Array Value} (h : w.heap[b]? = some (Obj.cells cs T)) (h0 : cs[0]? = some c0) (h1 : cs[1]? = some c1) (h2 : cs[2]? = some c2) (h3 : cs[3]? = some c3) (h4 : cs[4]? = some c4) (h5 : cs[5]? = some c5) (h6 : cs[6]? = some c6) : w.cell? ⟨b, 0, none⟩ = some c0 ∧ w.cell? ⟨b, 1, none⟩ = some c1 ∧ w.cell? ⟨b, 2, none⟩ = some c2 ∧ w.cell? ⟨b, 3, none⟩ = some c3 ∧ w.cell? ⟨b, 4, none⟩ = some c4 ∧ w.cell? ⟨b, 5, none⟩ = some c5 ∧ w.cell? ⟨b, 6, none⟩ = some c6 := ⟨cellB (j := 0) h h0, cellB (j := 1) h h1, cellB (j := 2) h h2, cellB (j := 3) h h3, cellB (j := 4) h h4, cellB (j := 5) h h5, cellB (j := 6) h h6⟩
theorem fz4 {w : World} {b : Nat} {cs : Array Value} {T : TypeId} (h : w.heap[b]? = some (Obj.cells cs T)) : w.frozen? ⟨b, 0, none⟩ = false ∧ w.frozen? ⟨b, 1, none⟩ = false ∧ w.frozen? ⟨b, 2, none⟩ = false ∧ w.frozen? ⟨b, 3, none⟩ = false := ⟨frozenB (j := 0) h, frozenB (j := 1) h, frozenB (j := 2) h, frozenB (j := 3) h⟩
theorem fz5 {w : World} {b : Nat} {cs : Array Value} {T : TypeId} (h : w.heap[b]? = some (Obj.cells cs T)) : w.frozen? ⟨b, 0, none⟩ = false ∧ w.frozen? ⟨b, 1, none⟩ = false ∧ w.frozen? ⟨b, 2, none⟩ = false ∧ w.frozen? ⟨b, 3, none⟩ = false ∧ w.frozen? ⟨b, 4, none⟩ = false := ⟨frozenB (j := 0) h, frozenB (j := 1) h, frozenB (j := 2) h, frozenB (j := 3) h, frozenB (j := 4) h⟩
theorem fz6 {w : World} {b : Nat} {cs : Array Value} {T : TypeId} (h : w.heap[b]? = some (Obj.cells cs T)) : w.frozen? ⟨b, 0, none⟩ = false ∧ w.frozen? ⟨b, 1, none⟩ = false ∧ w.frozen? ⟨b, 2, none⟩ = false ∧ w.frozen? ⟨b, 3, none⟩ = false ∧ w.frozen? ⟨b, 4, none⟩ = false ∧ w.frozen? ⟨b, 5, none⟩ = false := ⟨frozenB (j := 0) h, frozenB (j := 1) h, frozenB (j := 2) h, frozenB (j := 3) h, frozenB (j := 4) h, frozenB (j := 5) h⟩
def Row (w : World) (size : Nat) (v : Value) (n : Nat) (cs : List Value) : Prop :=
 cs.length = n * size ∧ ((v = .slice none 0 0 ∧ n = 0) ∨
  ∃ b off cap, v = .slice (some ⟨b, off, none⟩) n cap ∧ b < w.heap.size ∧ n ≤ cap ∧ cap ≤ maxLen ∧ ∀ j u, cs[j]? = some u → w.cell? ⟨b, off + j, none⟩ = some u)
theorem Row.below {w w' : World} {size n : Nat} {v : Value} {cs : List Value} (h : Row w size v n cs) (hb : Below w.heap.size w w') : Row w' size v n cs := by
 obtain ⟨h1, h2⟩ := h
 refine ⟨h1, ?_⟩
 rcases h2 with h2 | ⟨b, off, cap, rfl, h3, h4, h5, h6⟩
 ·exact .inl h2
 ·exact .inr ⟨b, off, cap, rfl, Nat.lt_of_lt_of_le h3 hb.size, h4, h5, fun j u hj => bcellAt hb (h6 j u hj)⟩
theorem Row.shape {w : World} {size n : Nat} {v : Value} {cs : List Value} (h : Row w size v n cs) : ∃ a c, v = .slice a n c := by
 rcases h.2 with ⟨rfl, rfl⟩ | ⟨b, off, cap, rfl, _⟩
 ·exact ⟨_, _, rfl⟩
 ·exact ⟨_, _, rfl⟩
theorem row_of_own {w : World} {base : Nat} {e : TypeId} {size n : Nat} {v : Value} {xs : List Value} (h : w.ownsRow base e size v n xs) : Row w size v n xs := by
 have h' := h
 obtain ⟨h1, h2⟩ := h
 refine ⟨h1, ?_⟩
 rcases h2 with h2 | ⟨g, cap, cur, rfl, hb, hg, hle, hm, hc, ht⟩
 ·exact .inl h2
 ·refine .inr ⟨g, 0, cap, rfl, (Array.getElem?_eq_some_iff.1 hg).1, hle, hm, fun j u hj => ?_⟩
  rw [Nat.zero_add, World.ownsRow.cellAt h' j (by rw [← h1]; exact (List.getElem?_eq_some_iff.1 hj).1)]
  exact hj
theorem Row.at {w : World} {n : Nat} {v : Value} {cs : List Value} (h : Row w 1 v n cs) : ∃ a c, v = .slice a n c ∧ (0 < n → ∃ b off, a = some ⟨b, off, none⟩ ∧ ∀ j u, cs[j]? = some u → w.cell? ⟨b, off + j, none⟩ = some u) := by
 rcases h.2 with ⟨rfl, rfl⟩ | ⟨b, off, cap, rfl, _, _, _, h6⟩
 ·exact ⟨_, _, rfl, fun h => by omega⟩
 ·exact ⟨_, _, rfl, fun _ => ⟨b, off, rfl, h6⟩⟩
theorem own_kept {w w' : World} {base n size : Nat} {e : TypeId} {v : Value} {xs : List Value} {row : Option Nat} (h : w.ownsRow base e size v n xs) (hg : w.grownBy w' row)
  (hr : ∀ r, row = some r → v.ownBlock ≠ some r) : w'.ownsRow base e size v n xs := by
 obtain ⟨h1, h2⟩ := h
 refine ⟨h1, ?_⟩
 rcases h2 with h2 | ⟨g, cap, cur, rfl, hb, hg', rest⟩
 ·exact .inl h2
 ·refine .inr ⟨g, cap, cur, rfl, hb, ?_, rest⟩
  rw [hg.block g (Array.getElem?_eq_some_iff.1 hg').1 (fun e => hr g e.symm rfl)]
  exact hg'
theorem own_base {w : World} {base base' n size : Nat} {e : TypeId} {v : Value} {xs : List Value} (h : w.ownsRow base e size v n xs) (hb : base' ≤ base) : w.ownsRow base' e size v n xs := by
 obtain ⟨h1, h2⟩ := h
 refine ⟨h1, ?_⟩
 rcases h2 with h2 | ⟨g, cap, cur, rfl, hb', rest⟩
 ·exact .inl h2
 ·exact .inr ⟨g, cap, cur, rfl, by omega, rest⟩
theorem Row.at2 {w : World} {size n : Nat} {v : Value} {cs : List Value} (h : Row w size v n cs) : ∃ a c, v = .slice a n c ∧ (0 < n → ∃ b off, a = some ⟨b, off, none⟩ ∧ ∀ j u, cs[j]? = some u → w.cell? ⟨b, off + j, none⟩ = some u) := by
 rcases h.2 with ⟨rfl, rfl⟩ | ⟨b, off, cap, rfl, _, _, _, h6⟩
 ·exact ⟨_, _, rfl, fun h => by omega⟩
 ·exact ⟨_, _, rfl, fun _ => ⟨b, off, rfl, h6⟩⟩
theorem grown_below {w w' : World} {B : Nat} {row : Option Nat} (h : w.grownBy w' row) (hB : B ≤ w.heap.size) (hr : ∀ k, row = some k → B ≤ k) : Below B w w' :=
 (Below.refl B w).grown h hB hr
theorem grownBy_set (w : World) (a o : Nat) (v : Value) : w.grownBy (w.setCell ⟨a, o, none⟩ v) (some a) :=
 ⟨rfl, rfl, rfl, by simp [World.setCell], fun k hk hne => Below.heap_setCell _ _ _ _ (fun e => hne (by rw [e]))⟩
theorem ne_bytes {a b : ByteArray} (h : a ≠ b) : (a.toList == b.toList) = false := by
 cases e : a.toList == b.toList
 ·rfl
 ·exact absurd (toList_inj (eq_of_beq e)) h
end Go.Proofs.YtjmcaceegfdkkaaGreatDoor
