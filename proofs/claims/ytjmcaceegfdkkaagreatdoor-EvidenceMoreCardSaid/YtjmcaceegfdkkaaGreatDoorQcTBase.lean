/-
  Terms as plain data: nodes, what a node by itself is refused with, a pool as a list; what Make answers.
-/
import Derived.Test.YtjmcaceegfdkkaaGreatDoorRows
namespace Go.Proofs.YtjmcaceegfdkkaaGreatDoor
set_option linter.unusedVariables false
structure Nd where
 kind : Int
 frm : Int
 to : Int
 num : Int
 text : ByteArray
 a : Int
 b : Int
theorem Nd.eq_of {x y : Nd} (h1 : x.kind = y.kind) (h2 : x.frm = y.frm) (h3 : x.to = y.to) (h4 : x.num = y.num) (h5 : x.text = y.text) (h6 : x.a = y.a) (h7 : x.b = y.b) : x = y := by
 cases x; cases y; simp at *; exact ⟨h1, h2, h3, h4, h5, h6, h7⟩
instance : DecidableEq Nd := fun x y =>
 if h : x.kind = y.kind ∧ x.frm = y.frm ∧ x.to = y.to ∧ x.num = y.num ∧ x.text = y.text ∧ x.a = y.a ∧ x.b = y.b then
  .isTrue (Nd.eq_of h.1 h.2.1 h.2.2.1 h.2.2.2.1 h.2.2.2.2.1 h.2.2.2.2.2.1 h.2.2.2.2.2.2)
 else .isFalse fun e => h (by subst e; exact ⟨rfl, rfl, rfl, rfl, rfl, rfl, rfl⟩)
def emptyS : ByteArray := ⟨#[]⟩
def zeroN : Nd := ⟨0, 0, 0, 0, emptyS, 0, 0⟩
def kidsN (k : Int) : Nat := if k = 4 then 2 else if k = 5 ∨ k = 7 ∨ k = 8 ∨ k = 9 then 1 else 0
def twoB (k : Int) : Bool := k == 8 || k == 9
def namedB (k : Int) : Bool := k == 1 || k == 6 || k == 7 || twoB k
def nameB (n : Int) : Bool := decide (0 ≤ n) && decide (n < 16)
def plainB (n : Nd) : Bool :=
 decide (1 ≤ n.kind) && decide (n.kind ≤ 9) && (namedB n.kind || n.frm == 0) && (twoB n.kind || n.to == 0) && (n.kind == 2 || n.num == 0) && (n.kind == 3 || n.text.toList.isEmpty) && (decide (1 ≤ kidsN n.kind) || n.a == 0) && (kidsN n.kind == 2 || n.b == 0)
def shp (n : Nd) : Int :=
 if plainB n = false then 53 else if ((namedB n.kind && !nameB n.frm) || (twoB n.kind && (!nameB n.to || n.frm == n.to))) = true then 50 else if 64 < n.text.size then 1 else 0
abbrev Md := Nd × Int × Int
abbrev Pl := List Md
def zeroM : Md := (zeroN, 0, 0)
def inP (p : Pl) (t : Int) : Bool := decide (1 ≤ t) && decide (t ≤ (p.length : Int))
def atP (p : Pl) (t : Int) : Md := if inP p t = true then p.getD (t.toNat - 1) zeroM else zeroM
def szP (p : Pl) (t : Int) : Int := (atP p t).2.1
def dpP (p : Pl) (t : Int) : Int := (atP p t).2.2
def szN (p : Pl) (n : Nd) : Int := 1 + szP p n.a + szP p n.b
def dpN (p : Pl) (n : Nd) : Int := 1 + max (dpP p n.a) (dpP p n.b)
def kidsBad (p : Pl) (n : Nd) : Bool := (decide (1 ≤ kidsN n.kind) && !inP p n.a) || (kidsN n.kind == 2 && !inP p n.b)
def errP (p : Pl) (n : Nd) : Int :=
 if shp n ≠ 0 then shp n else if kidsBad p n = true then 51 else if 4096 < szN p n ∨ 64 < dpN p n then 52 else 0
def numP (p : Pl) (n : Nd) : Nat := match p.findIdx? (fun m => m.1 = n) with | some i => i + 1 | none => 0
def addP (p : Pl) (n : Nd) : Pl := p ++ [(n, szN p n, dpN p n)]
def mkP (p : Pl) (n : Nd) : Int × Int × Pl :=
 if errP p n ≠ 0 then (0, errP p n, p) else if numP p n ≠ 0 then ((numP p n : Int), 0, p) else if 65536 ≤ p.length then (0, 6, p) else ((p.length : Int) + 1, 0, addP p n)
inductive Ok : Pl → Prop where
 | nil : Ok []
 | add {p : Pl} {n : Nd} : Ok p → errP p n = 0 → numP p n = 0 → p.length < 65536 → Ok (addP p n)
theorem numP_zero {p : Pl} {n : Nd} : numP p n = 0 ↔ ∀ m ∈ p, m.1 ≠ n := by
 unfold numP
 split
 ·rename_i i h
  constructor
  ·intro e; omega
  ·intro hm
   obtain ⟨hi, h1, _⟩ := List.findIdx?_eq_some_iff_getElem.1 h
   exact absurd (by simpa using h1) (hm _ (List.getElem_mem hi))
 ·rename_i h
  rw [List.findIdx?_eq_none_iff] at h
  simp only [true_iff]
  intro m hm e
  have := h m hm
  simp [e] at this
theorem numP_some {p : Pl} {n : Nd} (h : numP p n ≠ 0) : ∃ i, ∃ hi : i < p.length, numP p n = i + 1 ∧ (p[i]).1 = n ∧ ∀ j (hj : j < i), (p[j]).1 ≠ n := by
 unfold numP at h ⊢
 split at h
 ·rename_i i hx
  obtain ⟨hi, h1, h2⟩ := List.findIdx?_eq_some_iff_getElem.1 hx
  refine ⟨i, hi, rfl, by simpa using h1, fun j hj => by simpa using h2 j hj⟩
 ·exact absurd rfl h
theorem inP_le {p q : Pl} {t : Int} (h : inP p t = true) (hl : p.length ≤ q.length) : inP q t = true := by
 simp only [inP, Bool.and_eq_true, decide_eq_true_eq] at h ⊢; omega
theorem atP_append {p q : Pl} {t : Int} (h : inP p t = true) : atP (p ++ q) t = atP p t := by
 have h' : inP (p ++ q) t = true := inP_le h (by simp)
 unfold atP
 rw [if_pos h, if_pos h']
 simp only [inP, Bool.and_eq_true, decide_eq_true_eq] at h
 rw [List.getD_eq_getElem?_getD, List.getD_eq_getElem?_getD, List.getElem?_append_left (by omega)]
theorem inP_zero (p : Pl) : inP p 0 = false := by simp [inP]
theorem atP_out {p : Pl} {t : Int} (h : inP p t = false) : atP p t = zeroM := by unfold atP; rw [if_neg (by rw [h]; decide)]
theorem atP_zero (p : Pl) : atP p 0 = zeroM := atP_out (inP_zero p)
theorem kids_of_plain {n : Nd} (h : shp n = 0) : (kidsN n.kind = 0 → n.a = 0) ∧ (kidsN n.kind ≠ 2 → n.b = 0) := by
 unfold shp at h
 by_cases hp : plainB n = false
 ·rw [if_pos hp] at h; cases h
 ·have hp' : plainB n = true := by simpa using hp
  simp only [plainB, Bool.and_eq_true, Bool.or_eq_true, decide_eq_true_eq, beq_iff_eq] at hp'
  exact ⟨fun e => by rcases hp'.1.2 with h | h; omega; exact h, fun e => by rcases hp'.2 with h | h; exact absurd h e; exact h⟩
theorem kids_cases (k : Int) : kidsN k = 0 ∨ kidsN k = 1 ∨ kidsN k = 2 := by unfold kidsN; split; exact .inr (.inr rfl); split; exact .inr (.inl rfl); exact .inl rfl
theorem kid_in {p : Pl} {n : Nd} (h : errP p n = 0) : (n.a = 0 ∨ inP p n.a = true) ∧ (n.b = 0 ∨ inP p n.b = true) := by
 unfold errP at h
 split at h
 ·rename_i h1; exact absurd h h1
 ·rename_i h1
  have hs : shp n = 0 := by simpa using h1
  split at h
  ·cases h
  ·rename_i h2
   have h2' : kidsBad p n = false := by simpa using h2
   simp only [kidsBad, Bool.or_eq_false_iff, Bool.and_eq_false_iff, decide_eq_false_iff_not, Bool.not_eq_false', beq_eq_false_iff_ne] at h2'
   obtain ⟨ka, kb⟩ := kids_of_plain hs
   constructor
   ·rcases h2'.1 with h | h
    ·exact .inl (ka (by omega))
    ·exact .inr h
   ·rcases h2'.2 with h | h
    ·exact .inl (kb h)
    ·exact .inr h
theorem at_kid {p q : Pl} {t : Int} (h : t = 0 ∨ inP p t = true) : atP (p ++ q) t = atP p t := by
 rcases h with rfl | h
 ·rw [atP_zero, atP_zero]
 ·exact atP_append h
theorem errP_more {p q : Pl} {n : Nd} (h : errP p n = 0) : errP (p ++ q) n = 0 := by
 have hk := kid_in h
 have e1 : szN (p ++ q) n = szN p n := by unfold szN szP; rw [at_kid hk.1, at_kid hk.2]
 have e2 : dpN (p ++ q) n = dpN p n := by unfold dpN dpP; rw [at_kid hk.1, at_kid hk.2]
 unfold errP at h ⊢
 split at h
 ·rename_i h1; exact absurd h h1
 ·rename_i h1
  rw [if_neg h1]
  split at h
  ·cases h
  ·rename_i h2
   have h3 : kidsBad (p ++ q) n = false := by
    have h2' : kidsBad p n = false := by simpa using h2
    simp only [kidsBad, Bool.or_eq_false_iff, Bool.and_eq_false_iff, decide_eq_false_iff_not, Bool.not_eq_false'] at h2' ⊢
    exact ⟨h2'.1.elim .inl (fun h => .inr (inP_le h (by simp))), h2'.2.elim .inl (fun h => .inr (inP_le h (by simp)))⟩
   rw [if_neg (by rw [h3]; decide), e1, e2]
   exact h
theorem Ok.len {p : Pl} (h : Ok p) : p.length ≤ 65536 := by
 cases h with
 | nil => simp
 | add _ _ _ h => simp [addP]; omega
theorem Ok.mem {p : Pl} (h : Ok p) : ∀ m ∈ p, errP p m.1 = 0 := by
 induction h with
 | nil => intro m hm; cases hm
 | add hp he hn hl ih =>
  intro m hm
  rcases List.mem_append.1 hm with h | h
  ·exact errP_more (ih m h)
  ·rw [List.mem_singleton] at h
   subst h
   exact errP_more he
theorem Ok.err {p : Pl} (h : Ok p) {n : Nd} (hn : numP p n ≠ 0) : errP p n = 0 := by
 obtain ⟨i, hi, _, e, _⟩ := numP_some hn
 rw [← e]; exact h.mem _ (List.getElem_mem hi)
theorem mkP_ok {p : Pl} (h : Ok p) (n : Nd) : Ok (mkP p n).2.2 := by
 unfold mkP
 split
 ·exact h
 ·rename_i h1
  split
  ·exact h
  ·rename_i h2
   split
   ·exact h
   ·rename_i h3
    exact .add h (by simpa using h1) (by simpa using h2) (by omega)
theorem Ok.first {p : Pl} (h : Ok p) : ∀ i (hi : i < p.length), numP p (p[i]).1 = i + 1 := by
 induction h with
 | nil => intro i hi; simp at hi
 | @add p n hp he hn hl ih =>
  intro i hi
  have hm := numP_zero.1 hn
  rcases Nat.lt_or_ge i p.length with hlt | hge
  ·have e : ((addP p n)[i]).1 = (p[i]).1 := by simp [addP, List.getElem_append_left hlt]
   rw [e]
   have h0 : numP (addP p n) (p[i]).1 ≠ 0 := fun h0 => numP_zero.1 h0 (p[i]) (by simp [addP]) rfl
   obtain ⟨j, hj, h1, h2, h3⟩ := numP_some h0
   have h0' : numP p (p[i]).1 ≠ 0 := by rw [ih i hlt]; omega
   obtain ⟨j', hj', h1', h2', h3'⟩ := numP_some h0'
   have hij : j' = i := by have := ih i hlt; omega
   subst hij
   rw [h1]
   rcases Nat.lt_trichotomy j j' with h | h | h
   ·have := h3' j h
    rw [← h2] at this
    simp [addP, List.getElem_append_left (show j < p.length by omega)] at this
   ·rw [h]
   ·have := h3 j' h
    exact absurd e this
  ·have e : i = p.length := by simp [addP] at hi; omega
   subst e
   have e : ((addP p n)[p.length]).1 = n := by simp [addP]
   rw [e]
   have h0 : numP (addP p n) n ≠ 0 := fun h0 => numP_zero.1 h0 (n, szN p n, dpN p n) (by simp [addP]) rfl
   obtain ⟨j, hj, h1, h2, h3⟩ := numP_some h0
   rw [h1]
   rcases Nat.lt_or_ge j p.length with h | h
   ·have h2' : (p[j]).1 = n := by rw [← h2]; simp [addP, List.getElem_append_left h]
    exact absurd h2' (hm _ (List.getElem_mem h))
   ·have : j = p.length := by simp [addP] at hj; omega
    rw [this]
end Go.Proofs.YtjmcaceegfdkkaaGreatDoor
