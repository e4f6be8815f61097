/-
  Letters as plain data: their trees; what letter a term is, as the program reads it; that this is the letter whose tree the term has.
-/
import Derived.Lib.Strings
import Derived.Test.YtjmcaceegfdkkaaGreatDoorQcTKit
namespace Go.Proofs.YtjmcaceegfdkkaaGreatDoor
set_option linter.unusedVariables false
structure Lt where
 kind : Int
 frm : Int
 c : Int
 text : ByteArray
 fake : Bool
theorem Lt.eq_of {x y : Lt} (h1 : x.kind = y.kind) (h2 : x.frm = y.frm) (h3 : x.c = y.c) (h4 : x.text = y.text) (h5 : x.fake = y.fake) : x = y := by
 cases x; cases y; simp at *; exact ⟨h1, h2, h3, h4, h5⟩
def zeroL : Lt := ⟨0, 0, 0, emptyS, false⟩
def dealS : ByteArray := ⟨#[100, 101, 97, 108]⟩
def abortS : ByteArray := ⟨#[97, 98, 111, 114, 116]⟩
def resolveS : ByteArray := ⟨#[114, 101, 115, 111, 108, 118, 101]⟩
def abortedS : ByteArray := ⟨#[97, 98, 111, 114, 116, 101, 100]⟩
def insteadS : ByteArray := ⟨#[105, 110, 115, 116, 101, 97, 100]⟩
def fullS : ByteArray := ⟨#[102, 117, 108, 108]⟩
abbrev Tr := Nd × Fo
def one (x : Tr) : Fo := .cons x.1 x.2 .nil
def two (x y : Tr) : Fo := .cons x.1 x.2 (.cons y.1 y.2 .nil)
def dataT (s : ByteArray) : Tr := (⟨3, 0, 0, 0, s, 0, 0⟩, .nil)
def numT (n : Int) : Tr := (⟨2, 0, 0, n, emptyS, 0, 0⟩, .nil)
def pairT (x y : Tr) : Tr := (⟨4, 0, 0, 0, emptyS, 0, 0⟩, two x y)
def signT (who : Int) (x : Tr) : Tr := (⟨7, who, 0, 0, emptyS, 0, 0⟩, one x)
def promT (who : Int) (x : Tr) (fake : Bool) : Tr := (⟨if fake = true then 9 else 8, who, 1 - who, 0, emptyS, 0, 0⟩, one x)
def dealT (c : Int) (s : ByteArray) : Tr := pairT (dataT dealS) (pairT (numT c) (dataT s))
def letT (l : Lt) (f1 f2 : Bool) : Tr :=
 if l.kind = 1 then promT l.frm (dealT l.c l.text) l.fake else
 if l.kind = 2 then signT l.frm (dealT l.c l.text) else
 if l.kind = 3 then signT 0 (pairT (dataT abortS) (numT l.c)) else
 if l.kind = 4 then signT l.frm (pairT (dataT resolveS) (pairT (promT 0 (dealT l.c l.text) (l.fake && f1)) (promT 1 (dealT l.c l.text) (l.fake && f2)))) else
 if l.kind = 5 then signT 2 (pairT (dataT abortedS) (numT l.c)) else
 if l.kind = 6 then signT 2 (pairT (dataT insteadS) (dealT l.c l.text)) else pairT (dataT fullS) (numT l.c)
def fromB (k : Int) : Bool := k == 1 || k == 2 || k == 4
def textB (k : Int) : Bool := fromB k || k == 6
def fakeB (k : Int) : Bool := k == 1 || k == 4
def chkP (l : Lt) : Int :=
 if l.kind < 1 ∨ 7 < l.kind then 110 else
 if l.frm ≠ 0 ∧ (l.frm ≠ 1 ∨ fromB l.kind = false) then 110 else
 if l.text ≠ emptyS ∧ textB l.kind = false then 110 else
 if l.fake = true ∧ fakeB l.kind = false then 110 else
 if 64 < l.text.size then 1 else 0
theorem chk_ok {l : Lt} : chkP l = 0 ↔ (1 ≤ l.kind ∧ l.kind ≤ 7) ∧ (l.frm = 0 ∨ (l.frm = 1 ∧ fromB l.kind = true)) ∧ (l.text = emptyS ∨ textB l.kind = true) ∧ (l.fake = true → fakeB l.kind = true) ∧ l.text.size ≤ 64 := by
 unfold chkP
 by_cases h1 : l.kind < 1 ∨ 7 < l.kind
 ·rw [if_pos h1]; constructor
  ·intro h; cases h
  ·intro h; omega
 rw [if_neg h1]
 by_cases h2 : l.frm ≠ 0 ∧ (l.frm ≠ 1 ∨ fromB l.kind = false)
 ·rw [if_pos h2]; constructor
  ·intro h; cases h
  ·rintro ⟨_, h | ⟨h, h'⟩, _⟩
   ·exact absurd h h2.1
   ·rcases h2.2 with h3 | h3
    ·exact absurd h h3
    ·rw [h'] at h3; cases h3
 rw [if_neg h2]
 by_cases h3 : l.text ≠ emptyS ∧ textB l.kind = false
 ·rw [if_pos h3]; constructor
  ·intro h; cases h
  ·rintro ⟨_, _, h | h, _⟩
   ·exact absurd h h3.1
   ·rw [h3.2] at h; cases h
 rw [if_neg h3]
 by_cases h4 : l.fake = true ∧ fakeB l.kind = false
 ·rw [if_pos h4]; constructor
  ·intro h; cases h
  ·rintro ⟨_, _, _, h, _⟩
   have := h h4.1
   rw [h4.2] at this; cases this
 rw [if_neg h4]
 by_cases h5 : 64 < l.text.size
 ·rw [if_pos h5]; constructor
  ·intro h; cases h
  ·rintro ⟨_, _, _, _, h⟩; omega
 rw [if_neg h5]
 refine ⟨fun _ => ⟨by omega, ?_, ?_, fun h => ?_, by omega⟩, fun _ => rfl⟩
 ·by_cases h : l.frm = 0
  ·exact .inl h
  ·refine .inr ⟨?_, ?_⟩
   ·by_cases h6 : l.frm = 1
    ·exact h6
    ·exact absurd ⟨h, .inl h6⟩ h2
   ·cases h6 : fromB l.kind with
    | true => rfl
    | false => exact absurd ⟨h, .inr h6⟩ h2
 ·by_cases h : l.text = emptyS
  ·exact .inl h
  ·refine .inr ?_
   cases h6 : textB l.kind with
   | true => rfl
   | false => exact absurd ⟨h, h6⟩ h3
 ·cases h6 : fakeB l.kind with
  | true => rfl
  | false => exact absurd ⟨h, h6⟩ h4
theorem nd_plain {n : Nd} (h : shp n = 0) : (1 ≤ n.kind ∧ n.kind ≤ 9) ∧ (namedB n.kind = false → n.frm = 0) ∧ (twoB n.kind = false → n.to = 0) ∧ (n.kind ≠ 2 → n.num = 0) ∧ (n.kind ≠ 3 → n.text = emptyS) ∧ (kidsN n.kind = 0 → n.a = 0) ∧ (kidsN n.kind ≠ 2 → n.b = 0) ∧ (twoB n.kind = true → n.frm ≠ n.to) ∧ n.text.size ≤ 64 := by
 have hk := kids_of_plain h
 unfold shp at h
 by_cases hp : plainB n = false
 ·rw [if_pos hp] at h; cases h
 ·rw [if_neg hp] at h
  have hp' : plainB n = true := by simpa using hp
  simp only [plainB, Bool.and_eq_true, Bool.or_eq_true, decide_eq_true_eq, beq_iff_eq] at hp'
  obtain ⟨⟨⟨⟨⟨⟨⟨h1, h2⟩, h3⟩, h4⟩, h5⟩, h6⟩, _⟩, _⟩ := hp'
  split at h
  ·cases h
  ·rename_i hb
   split at h
   ·cases h
   rename_i hs
   simp only [Bool.or_eq_true, Bool.and_eq_true, not_or, not_and] at hb
   refine ⟨⟨h1, h2⟩, fun e => by rcases h3 with h | h; rw [e] at h; cases h; exact h, fun e => by rcases h4 with h | h; rw [e] at h; cases h; exact h, fun e => by rcases h5 with h | h; exact absurd h e; exact h, fun e => ?_, hk.1, hk.2, fun e => ?_, by omega⟩
   ·rcases h6 with h | h
    ·exact absurd h e
    ·by_cases hx : n.text = emptyS
     ·exact hx
     ·have := ne_bytes hx
      rw [List.isEmpty_iff.1 h] at this
      have h2 : (([] : List UInt8) == emptyS.toList) = true := by rw [Lib.toList_data]; rfl
      rw [h2] at this
      cases this
   ·have := hb.2 e
    simp only [Bool.not_eq_true', Bool.not_eq_false] at this
    have h7 := this.2
    simpa using h7
theorem shp_at {p : Pl} (hp : Ok p) {t : Int} (h : inP p t = true) : shp (atP p t).1 = 0 := by
 obtain ⟨i, hi, rfl, e⟩ := atP_get h
 rw [e]
 have hE : errP p (p[i]).1 = 0 := hp.err (by have := hp.first i hi; omega)
 unfold errP at hE
 split at hE
 ·rename_i h1; exact absurd hE h1
 ·rename_i h1; simpa using h1
theorem at_in0 {p : Pl} {t : Int} (h : (atP p t).1.kind ≠ 0) : inP p t = true := by
 cases hi : inP p t with
 | true => rfl
 | false => rw [atP_out hi] at h; exact absurd rfl h
theorem nd_num {p : Pl} (hp : Ok p) {t : Int} (h : (atP p t).1.kind = 2) : inP p t = true ∧ (atP p t).1 = ⟨2, 0, 0, (atP p t).1.num, emptyS, 0, 0⟩ := by
 have hin := at_in0 (p := p) (t := t) (by rw [h]; decide)
 obtain ⟨_, q1, q2, q3, q4, q5, q6, _, _⟩ := nd_plain (shp_at hp hin)
 generalize (atP p t).1 = n at *
 rw [h] at q1 q2 q3 q4 q5 q6
 exact ⟨hin, Nd.eq_of h (q1 rfl) (q2 rfl) rfl (q4 (by decide)) (q5 rfl) (q6 (by decide))⟩
theorem nd_data {p : Pl} (hp : Ok p) {t : Int} (h : (atP p t).1.kind = 3) : inP p t = true ∧ (atP p t).1 = ⟨3, 0, 0, 0, (atP p t).1.text, 0, 0⟩ ∧ (atP p t).1.text.size ≤ 64 := by
 have hin := at_in0 (p := p) (t := t) (by rw [h]; decide)
 obtain ⟨_, q1, q2, q3, q4, q5, q6, _, q8⟩ := nd_plain (shp_at hp hin)
 generalize (atP p t).1 = n at *
 rw [h] at q1 q2 q3 q4 q5 q6
 exact ⟨hin, Nd.eq_of h (q1 rfl) (q2 rfl) (q3 (by decide)) rfl (q5 rfl) (q6 (by decide)), q8⟩
theorem nd_pair {p : Pl} (hp : Ok p) {t : Int} (h : (atP p t).1.kind = 4) : inP p t = true ∧ (atP p t).1 = ⟨4, 0, 0, 0, emptyS, (atP p t).1.a, (atP p t).1.b⟩ := by
 have hin := at_in0 (p := p) (t := t) (by rw [h]; decide)
 obtain ⟨_, q1, q2, q3, q4, q5, q6, _, q8⟩ := nd_plain (shp_at hp hin)
 generalize (atP p t).1 = n at *
 rw [h] at q1 q2 q3 q4 q5 q6
 exact ⟨hin, Nd.eq_of h (q1 rfl) (q2 rfl) (q3 (by decide)) (q4 (by decide)) rfl rfl⟩
theorem nd_sign {p : Pl} (hp : Ok p) {t : Int} (h : (atP p t).1.kind = 7) : inP p t = true ∧ (atP p t).1 = ⟨7, (atP p t).1.frm, 0, 0, emptyS, (atP p t).1.a, 0⟩ := by
 have hin := at_in0 (p := p) (t := t) (by rw [h]; decide)
 obtain ⟨_, q1, q2, q3, q4, q5, q6, _, q8⟩ := nd_plain (shp_at hp hin)
 generalize (atP p t).1 = n at *
 rw [h] at q1 q2 q3 q4 q5 q6
 exact ⟨hin, Nd.eq_of h rfl (q2 rfl) (q3 (by decide)) (q4 (by decide)) rfl (q6 (by decide))⟩
theorem nd_prom {p : Pl} (hp : Ok p) {t : Int} (h : (atP p t).1.kind = 8 ∨ (atP p t).1.kind = 9) : inP p t = true ∧ (atP p t).1 = ⟨(atP p t).1.kind, (atP p t).1.frm, (atP p t).1.to, 0, emptyS, (atP p t).1.a, 0⟩ ∧ (atP p t).1.frm ≠ (atP p t).1.to := by
 have hin := at_in0 (p := p) (t := t) (by rcases h with h | h <;> (rw [h]; decide))
 obtain ⟨_, q1, q2, q3, q4, q5, q6, q7, q8⟩ := nd_plain (shp_at hp hin)
 generalize (atP p t).1 = n at *
 refine ⟨hin, Nd.eq_of rfl rfl rfl (q3 (by omega)) (q4 (by omega)) rfl (q6 ?_), q7 ?_⟩
 ·rcases h with h | h <;> (rw [h]; decide)
 ·rcases h with h | h <;> (rw [h]; decide)
theorem nd_text {p : Pl} (hp : Ok p) {t : Int} (h : (atP p t).1.text ≠ emptyS) : (atP p t).1.kind = 3 := by
 cases hi : inP p t with
 | false => rw [atP_out hi] at h; exact absurd rfl h
 | true =>
  obtain ⟨_, _, _, _, q4, _⟩ := nd_plain (shp_at hp hi)
  by_cases e : (atP p t).1.kind = 3
  ·exact e
  ·exact absurd (q4 e) h
theorem nd_behind {p : Pl} (hp : Ok p) {t : Int} (h : inP p (atP p t).1.b = true) : (atP p t).1.kind = 4 := by
 cases hi : inP p t with
 | false => rw [atP_out hi] at h; have := inP_zero p; rw [show zeroM.1.b = 0 from rfl, this] at h; cases h
 | true =>
  obtain ⟨_, _, _, _, _, _, q6, _⟩ := nd_plain (shp_at hp hi)
  by_cases e : kidsN (atP p t).1.kind = 2
  ·unfold kidsN at e; split at e
   ·assumption
   ·split at e <;> cases e
  ·rw [q6 e, inP_zero] at h; cases h
def RT (p : Pl) (t : Int) (x : Tr) : Prop := RepF p [t] (one x)
theorem rt_iff {p : Pl} {t : Int} {n : Nd} {k : Fo} : RT p t (n, k) ↔ inP p t = true ∧ ∃ ka, RepF p ka k ∧ ka.length = kidsN n.kind ∧ (atP p t).1 = nodeOf n ka :=
 ⟨fun h => ⟨h.1, h.2.1⟩, fun h => ⟨h.1, h.2, trivial⟩⟩
theorem rt_leaf {p : Pl} {t : Int} {n : Nd} (hn : kidsN n.kind = 0) (ha : n.a = 0) (hb : n.b = 0) : RT p t (n, .nil) ↔ inP p t = true ∧ (atP p t).1 = n := by
 rw [rt_iff]
 constructor
 ·rintro ⟨h1, ka, h2, h3, h4⟩
  cases ka with
  | nil => exact ⟨h1, h4.trans (Nd.eq_of rfl rfl rfl rfl rfl ha.symm hb.symm)⟩
  | cons _ _ => exact h2.elim
 ·rintro ⟨h1, h2⟩
  exact ⟨h1, [], trivial, hn.symm, h2.trans (Nd.eq_of rfl rfl rfl rfl rfl ha hb)⟩
theorem rt_one {p : Pl} {t : Int} {n : Nd} {x : Tr} (hn : kidsN n.kind = 1) : RT p t (n, one x) ↔ inP p t = true ∧ ∃ a, (atP p t).1 = ⟨n.kind, n.frm, n.to, n.num, n.text, a, 0⟩ ∧ RT p a x := by
 rw [rt_iff]
 constructor
 ·rintro ⟨h1, ka, h2, h3, h4⟩
  match ka, h2, h3 with
  | [a], h2, _ => exact ⟨h1, a, h4, h2⟩
 ·rintro ⟨h1, a, h2, h3⟩
  exact ⟨h1, [a], h3, hn.symm, h2⟩
theorem rt_two {p : Pl} {t : Int} {n : Nd} {x y : Tr} (hn : kidsN n.kind = 2) : RT p t (n, two x y) ↔ inP p t = true ∧ ∃ a b, (atP p t).1 = ⟨n.kind, n.frm, n.to, n.num, n.text, a, b⟩ ∧ RT p a x ∧ RT p b y := by
 rw [rt_iff]
 constructor
 ·rintro ⟨h1, ka, h2, h3, h4⟩
  match ka, h2, h3 with
  | [a, b], h2, _ => exact ⟨h1, a, b, h4, ⟨h2.1, h2.2.1, trivial⟩, h2.2.2⟩
 ·rintro ⟨h1, a, b, h2, h3, h4⟩
  exact ⟨h1, [a, b], ⟨h3.1, h3.2.1, h4⟩, hn.symm, h2⟩
theorem rt_data {p : Pl} {t : Int} {s : ByteArray} : RT p t (dataT s) ↔ inP p t = true ∧ (atP p t).1 = ⟨3, 0, 0, 0, s, 0, 0⟩ := rt_leaf rfl rfl rfl
theorem rt_num {p : Pl} {t n : Int} : RT p t (numT n) ↔ inP p t = true ∧ (atP p t).1 = ⟨2, 0, 0, n, emptyS, 0, 0⟩ := rt_leaf rfl rfl rfl
theorem rt_pair {p : Pl} {t : Int} {x y : Tr} : RT p t (pairT x y) ↔ inP p t = true ∧ ∃ a b, (atP p t).1 = ⟨4, 0, 0, 0, emptyS, a, b⟩ ∧ RT p a x ∧ RT p b y := rt_two rfl
theorem rt_sign {p : Pl} {t who : Int} {x : Tr} : RT p t (signT who x) ↔ inP p t = true ∧ ∃ a, (atP p t).1 = ⟨7, who, 0, 0, emptyS, a, 0⟩ ∧ RT p a x := rt_one rfl
theorem rt_prom {p : Pl} {t who : Int} {x : Tr} {f : Bool} : RT p t (promT who x f) ↔ inP p t = true ∧ ∃ a, (atP p t).1 = ⟨if f = true then 9 else 8, who, 1 - who, 0, emptyS, a, 0⟩ ∧ RT p a x := by
 unfold promT
 exact rt_one (by cases f <;> rfl)
theorem RT.inp {p : Pl} {t : Int} {x : Tr} (h : RT p t x) : inP p t = true := h.1
def ahP (p : Pl) (t : Int) : ByteArray := (atP p (atP p t).1.a).1.text
def bhP (p : Pl) (t : Int) : Int := (atP p t).1.b
def nuP (p : Pl) (t : Int) : Option Int := if (atP p t).1.kind = 2 then some (atP p t).1.num else none
def dlP (p : Pl) (t : Int) : Option (Int × ByteArray) :=
 if ahP p t = dealS ∧ (atP p (atP p (bhP p t)).1.a).1.kind = 2 ∧ (atP p (atP p (bhP p t)).1.b).1.kind = 3 then
  some ((atP p (atP p (bhP p t)).1.a).1.num, (atP p (atP p (bhP p t)).1.b).1.text) else none
def ptyB (n : Int) : Bool := n == 0 || n == 1
def prP (p : Pl) (t : Int) : Option Lt :=
 match dlP p (atP p t).1.a with
 | some (c, s) => if ((atP p t).1.kind = 8 ∨ (atP p t).1.kind = 9) ∧ ptyB (atP p t).1.frm = true ∧ ptyB (atP p t).1.to = true then some ⟨1, (atP p t).1.frm, c, s, (atP p t).1.kind == 9⟩ else none
 | none => none
def boP (p : Pl) (t : Int) : Option (Int × ByteArray × Bool) :=
 match prP p (atP p t).1.a, prP p (atP p t).1.b with
 | some x, some y => if x.frm = 0 ∧ y.frm = 1 ∧ x.c = y.c ∧ x.text = y.text then some (x.c, x.text, x.fake || y.fake) else none
 | _, _ => none
def byP (p : Pl) (t : Int) : Int := if (atP p t).1.kind = 7 then (atP p t).1.frm else -4
def inrP (p : Pl) (t : Int) : Int := if (atP p t).1.kind = 7 then (atP p t).1.a else t
def rdS (p : Pl) (who inn : Int) : Option Lt :=
 if ahP p inn = dealS then (if ptyB who = true then (dlP p inn).map fun x => ⟨2, who, x.1, x.2, false⟩ else none) else
 if ahP p inn = abortS then (if who = 0 then (nuP p (bhP p inn)).map fun x => ⟨3, 0, x, emptyS, false⟩ else none) else
 if ahP p inn = resolveS then (if ptyB who = true then (boP p (bhP p inn)).map fun x => ⟨4, who, x.1, x.2.1, x.2.2⟩ else none) else
 if ahP p inn = abortedS then (if who = 2 then (nuP p (bhP p inn)).map fun x => ⟨5, 0, x, emptyS, false⟩ else none) else
 if ahP p inn = insteadS then (if who = 2 then (dlP p (bhP p inn)).map fun x => ⟨6, 0, x.1, x.2, false⟩ else none) else
 if ahP p inn = fullS then (if who = -4 then (nuP p (bhP p inn)).map fun x => ⟨7, 0, x, emptyS, false⟩ else none) else none
def rdP (p : Pl) (t : Int) : Option Lt :=
 if (atP p t).1.kind = 8 ∨ (atP p t).1.kind = 9 then prP p t else
 if (atP p t).1.kind = 7 ∨ (atP p t).1.kind = 4 then rdS p (byP p t) (inrP p t) else none
theorem dealS_ne : dealS ≠ emptyS := by decide
theorem ah_data {p : Pl} (hp : Ok p) {t : Int} {s : ByteArray} (h : ahP p t = s) (hs : s ≠ emptyS) : RT p (atP p t).1.a (dataT s) := by
 unfold ahP at h
 have hk := nd_text hp (t := (atP p t).1.a) (by rw [h]; exact hs)
 obtain ⟨h1, h2, _⟩ := nd_data hp hk
 rw [rt_data]
 exact ⟨h1, by rw [h2, h]⟩
theorem pair_of {p : Pl} (hp : Ok p) {t : Int} {x y : Tr} (ha : RT p (atP p t).1.a x) (hb : RT p (atP p t).1.b y) : RT p t (pairT x y) := by
 have hk := nd_behind hp hb.inp
 obtain ⟨h1, h2⟩ := nd_pair hp hk
 exact rt_pair.2 ⟨h1, _, _, h2, ha, hb⟩
theorem nu_some {p : Pl} (hp : Ok p) {t c : Int} : nuP p t = some c ↔ RT p t (numT c) := by
 unfold nuP
 rw [rt_num]
 constructor
 ·intro h
  split at h
  ·rename_i hk
   cases h
   exact nd_num hp hk
  ·cases h
 ·rintro ⟨h1, h2⟩
  rw [h2]
  rfl
theorem dl_some {p : Pl} (hp : Ok p) {t c : Int} {s : ByteArray} : dlP p t = some (c, s) ↔ RT p t (dealT c s) := by
 unfold dlP
 constructor
 ·intro h
  split at h
  ·rename_i hc
   obtain ⟨h1, h2, h3⟩ := hc
   simp only [Option.some.injEq, Prod.mk.injEq] at h
   obtain ⟨h4, h5⟩ := h
   obtain ⟨i2, e2⟩ := nd_num hp h2
   obtain ⟨i3, e3, _⟩ := nd_data hp h3
   rw [h4] at e2
   rw [h5] at e3
   exact pair_of hp (ah_data hp h1 dealS_ne) (pair_of hp (rt_num.2 ⟨i2, e2⟩) (rt_data.2 ⟨i3, e3⟩))
  ·cases h
 ·intro h
  obtain ⟨h1, a, b, h2, h3, h4⟩ := rt_pair.1 h
  obtain ⟨h5, h6⟩ := rt_data.1 h3
  obtain ⟨h7, a2, b2, h8, h9, h10⟩ := rt_pair.1 h4
  obtain ⟨h11, h12⟩ := rt_num.1 h9
  obtain ⟨h13, h14⟩ := rt_data.1 h10
  simp only [ahP, bhP, h2, h6, h8, h12, h14]
  rfl
theorem dl_size {p : Pl} (hp : Ok p) {t c : Int} {s : ByteArray} (h : dlP p t = some (c, s)) : s.size ≤ 64 := by
 obtain ⟨_, a, b, _, _, h4⟩ := rt_pair.1 ((dl_some hp).1 h)
 obtain ⟨_, _, _, _, _, h10⟩ := rt_pair.1 h4
 obtain ⟨h13, h14⟩ := rt_data.1 h10
 have := (nd_data hp (t := _) (by rw [h14])).2.2
 rw [h14] at this
 exact this
theorem pty_iff {n : Int} : ptyB n = true ↔ n = 0 ∨ n = 1 := by simp [ptyB]
theorem pr_some {p : Pl} (hp : Ok p) {t : Int} {l : Lt} : prP p t = some l ↔ l.kind = 1 ∧ ptyB l.frm = true ∧ l.text.size ≤ 64 ∧ RT p t (promT l.frm (dealT l.c l.text) l.fake) := by
 unfold prP
 constructor
 ·intro h
  cases hd : dlP p (atP p t).1.a with
  | none => rw [hd] at h; cases h
  | some x =>
   obtain ⟨c, s⟩ := x
   rw [hd] at h
   simp only at h
   split at h
   ·rename_i hc
    obtain ⟨h1, h2, h3⟩ := hc
    cases h
    obtain ⟨i1, i2, i3⟩ := nd_prom hp h1
    refine ⟨rfl, h2, dl_size hp hd, rt_prom.2 ⟨i1, _, ?_, (dl_some hp).1 hd⟩⟩
    rw [pty_iff] at h2 h3
    generalize (atP p t).1 = n at *
    rw [i2]
    refine Nd.eq_of ?_ rfl ?_ rfl rfl rfl rfl
    ·simp only
     rcases h1 with e | e <;> (rw [e]; rfl)
    ·simp only; omega
   ·cases h
 ·rintro ⟨h1, h2, h3, h4⟩
  obtain ⟨h5, a, h6, h7⟩ := rt_prom.1 h4
  rw [h6]
  simp only [(dl_some hp).2 h7]
  have hk : (if l.fake = true then (9 : Int) else 8) = 8 ∨ (if l.fake = true then (9 : Int) else 8) = 9 := by cases l.fake <;> simp
  rw [pty_iff] at h2
  rw [if_pos ⟨hk, pty_iff.2 h2, pty_iff.2 (by omega)⟩]
  congr 1
  refine Lt.eq_of h1.symm rfl rfl rfl ?_
  cases l.fake <;> rfl
theorem bo_some {p : Pl} (hp : Ok p) {t c : Int} {s : ByteArray} {f : Bool} : boP p t = some (c, s, f) ↔ s.size ≤ 64 ∧ ∃ f1 f2, f = (f1 || f2) ∧ RT p t (pairT (promT 0 (dealT c s) f1) (promT 1 (dealT c s) f2)) := by
 unfold boP
 constructor
 ·intro h
  cases hx : prP p (atP p t).1.a with
  | none => rw [hx] at h; cases h
  | some x =>
   cases hy : prP p (atP p t).1.b with
   | none => rw [hx, hy] at h; cases h
   | some y =>
    rw [hx, hy] at h
    simp only at h
    split at h
    ·rename_i hc
     obtain ⟨h1, h2, h3, h4⟩ := hc
     simp only [Option.some.injEq, Prod.mk.injEq] at h
     obtain ⟨rfl, rfl, rfl⟩ := h
     obtain ⟨_, _, x3, x4⟩ := (pr_some hp).1 hx
     obtain ⟨_, _, y3, y4⟩ := (pr_some hp).1 hy
     rw [h1] at x4
     rw [h2, ← h3, ← h4] at y4
     exact ⟨x3, _, _, rfl, pair_of hp x4 y4⟩
    ·cases h
 ·rintro ⟨hs, f1, f2, rfl, h⟩
  obtain ⟨h1, a, b, h2, h3, h4⟩ := rt_pair.1 h
  rw [h2]
  have hx := (pr_some hp (t := a) (l := ⟨1, 0, c, s, f1⟩)).2 ⟨rfl, rfl, hs, h3⟩
  have hy := (pr_some hp (t := b) (l := ⟨1, 1, c, s, f2⟩)).2 ⟨rfl, rfl, hs, h4⟩
  simp only [hx, hy, if_true, and_self]
theorem six_ne : abortS ≠ emptyS ∧ resolveS ≠ emptyS ∧ abortedS ≠ emptyS ∧ insteadS ≠ emptyS ∧ fullS ≠ emptyS := by decide
theorem six_apart : abortS ≠ dealS ∧ resolveS ≠ dealS ∧ resolveS ≠ abortS ∧ abortedS ≠ dealS ∧ abortedS ≠ abortS ∧ abortedS ≠ resolveS ∧ insteadS ≠ dealS ∧ insteadS ≠ abortS ∧ insteadS ≠ resolveS ∧ insteadS ≠ abortedS ∧ fullS ≠ dealS ∧ fullS ≠ abortS ∧ fullS ≠ resolveS ∧ fullS ≠ abortedS ∧ fullS ≠ insteadS := by decide
theorem ah_of {p : Pl} {t : Int} {s : ByteArray} {y : Tr} (h : RT p t (pairT (dataT s) y)) : ahP p t = s ∧ RT p (bhP p t) y := by
 obtain ⟨h1, a, b, h2, h3, h4⟩ := rt_pair.1 h
 obtain ⟨h5, h6⟩ := rt_data.1 h3
 refine ⟨?_, ?_⟩
 ·simp only [ahP, h2, h6]
 ·simp only [bhP, h2]; exact h4
theorem rdS_out {p : Pl} (hp : Ok p) {who inn : Int} {l : Lt} (h : rdS p who inn = some l) : chkP l = 0 ∧ ∃ f1 f2 X, (l.kind = 4 → l.fake = (f1 || f2)) ∧ RT p inn X ∧ ((who ≠ -4 ∧ letT l f1 f2 = signT who X) ∨ (who = -4 ∧ letT l f1 f2 = X)) := by
 have bh : ∀ {s : ByteArray} {Y : Tr}, ahP p inn = s → s ≠ emptyS → RT p (bhP p inn) Y → RT p inn (pairT (dataT s) Y) := fun h1 h2 h3 => pair_of hp (ah_data hp h1 h2) h3
 obtain ⟨n1, n2, n3, n4, n5⟩ := six_ne
 unfold rdS at h
 by_cases h1 : ahP p inn = dealS
 ·rw [if_pos h1] at h
  by_cases hw : ptyB who = true
  ·rw [if_pos hw] at h
   cases hd : dlP p inn with
   | none => rw [hd] at h; cases h
   | some x =>
    rw [hd] at h
    cases h
    rw [pty_iff] at hw
    have hs := dl_size hp hd
    exact ⟨chk_ok.2 ⟨by simp, (by rcases hw with e | e; exact .inl e; exact .inr ⟨e, rfl⟩), .inr rfl, (fun h => by cases h), hs⟩, true, true, _, (fun h => by cases h), (dl_some hp).1 hd, .inl ⟨by omega, rfl⟩⟩
  ·rw [if_neg hw] at h; cases h
 rw [if_neg h1] at h
 by_cases h2 : ahP p inn = abortS
 ·rw [if_pos h2] at h
  by_cases hw : who = 0
  ·rw [if_pos hw] at h
   cases hd : nuP p (bhP p inn) with
   | none => rw [hd] at h; cases h
   | some x =>
    rw [hd] at h
    cases h
    subst hw
    exact ⟨chk_ok.2 ⟨by simp, .inl rfl, .inl rfl, (fun h => by cases h), (show emptyS.size ≤ 64 by decide)⟩, true, true, _, (fun h => by cases h), bh h2 n1 ((nu_some hp).1 hd), .inl ⟨by omega, rfl⟩⟩
  ·rw [if_neg hw] at h; cases h
 rw [if_neg h2] at h
 by_cases h3 : ahP p inn = resolveS
 ·rw [if_pos h3] at h
  by_cases hw : ptyB who = true
  ·rw [if_pos hw] at h
   cases hd : boP p (bhP p inn) with
   | none => rw [hd] at h; cases h
   | some x =>
    obtain ⟨c, s, f⟩ := x
    rw [hd] at h
    cases h
    rw [pty_iff] at hw
    obtain ⟨hs, f1, f2, rfl, hr⟩ := (bo_some hp).1 hd
    refine ⟨chk_ok.2 ⟨by simp, (by rcases hw with e | e; exact .inl e; exact .inr ⟨e, rfl⟩), .inr rfl, (fun h => rfl), hs⟩, f1, f2, _, fun h => rfl, bh h3 n2 hr, .inl ⟨by omega, ?_⟩⟩
    cases f1 <;> cases f2 <;> rfl
  ·rw [if_neg hw] at h; cases h
 rw [if_neg h3] at h
 by_cases h4 : ahP p inn = abortedS
 ·rw [if_pos h4] at h
  by_cases hw : who = 2
  ·rw [if_pos hw] at h
   cases hd : nuP p (bhP p inn) with
   | none => rw [hd] at h; cases h
   | some x =>
    rw [hd] at h
    cases h
    subst hw
    exact ⟨chk_ok.2 ⟨by simp, .inl rfl, .inl rfl, (fun h => by cases h), (show emptyS.size ≤ 64 by decide)⟩, true, true, _, (fun h => by cases h), bh h4 n3 ((nu_some hp).1 hd), .inl ⟨by omega, rfl⟩⟩
  ·rw [if_neg hw] at h; cases h
 rw [if_neg h4] at h
 by_cases h5 : ahP p inn = insteadS
 ·rw [if_pos h5] at h
  by_cases hw : who = 2
  ·rw [if_pos hw] at h
   cases hd : dlP p (bhP p inn) with
   | none => rw [hd] at h; cases h
   | some x =>
    rw [hd] at h
    cases h
    subst hw
    have hs := dl_size hp hd
    exact ⟨chk_ok.2 ⟨by simp, .inl rfl, .inr rfl, (fun h => by cases h), hs⟩, true, true, _, (fun h => by cases h), bh h5 n4 ((dl_some hp).1 hd), .inl ⟨by omega, rfl⟩⟩
  ·rw [if_neg hw] at h; cases h
 rw [if_neg h5] at h
 by_cases h6 : ahP p inn = fullS
 ·rw [if_pos h6] at h
  by_cases hw : who = -4
  ·rw [if_pos hw] at h
   cases hd : nuP p (bhP p inn) with
   | none => rw [hd] at h; cases h
   | some x =>
    rw [hd] at h
    cases h
    exact ⟨chk_ok.2 ⟨by simp, .inl rfl, .inl rfl, (fun h => by cases h), (show emptyS.size ≤ 64 by decide)⟩, true, true, _, (fun h => by cases h), bh h6 n5 ((nu_some hp).1 hd), .inr ⟨hw, rfl⟩⟩
  ·rw [if_neg hw] at h; cases h
 rw [if_neg h6] at h; cases h
theorem rd_some {p : Pl} (hp : Ok p) {t : Int} {l : Lt} : rdP p t = some l ↔ chkP l = 0 ∧ ∃ f1 f2, (l.kind = 4 → l.fake = (f1 || f2)) ∧ RT p t (letT l f1 f2) := by
 constructor
 ·intro h
  unfold rdP at h
  split at h
  ·obtain ⟨h1, h2, h3, h4⟩ := (pr_some hp).1 h
   rw [pty_iff] at h2
   refine ⟨chk_ok.2 ⟨by omega, ?_, .inr ?_, fun _ => ?_, h3⟩, true, true, fun e => by omega, ?_⟩
   ·rcases h2 with e | e
    ·exact .inl e
    ·exact .inr ⟨e, by rw [h1]; rfl⟩
   ·rw [h1]; rfl
   ·rw [h1]; rfl
   ·unfold letT; rw [if_pos h1]; exact h4
  ·rename_i hk
   split at h
   ·rename_i hk2
    obtain ⟨hc, f1, f2, X, hf, hx, hr⟩ := rdS_out hp h
    refine ⟨hc, f1, f2, hf, ?_⟩
    rcases hk2 with e | e
    ·unfold byP inrP at *
     rw [if_pos e] at hx hr
     obtain ⟨i1, i2⟩ := nd_sign hp e
     rcases hr with ⟨_, h2⟩ | ⟨h1, h2⟩
     ·rw [h2]; exact rt_sign.2 ⟨i1, _, i2, hx⟩
     ·have := (nd_plain (shp_at hp i1)).1
      exfalso
      have hs := shp_at hp i1
      unfold shp at hs
      split at hs
      ·cases hs
      ·split at hs
       ·cases hs
       ·rename_i hb
        simp only [Bool.or_eq_true, Bool.and_eq_true, not_or, not_and] at hb
        have h3 := hb.1 (by rw [e]; rfl)
        simp only [Bool.not_eq_true', Bool.not_eq_false, nameB, Bool.and_eq_true, decide_eq_true_eq] at h3
        omega
    ·unfold byP inrP at *
     rw [if_neg (by omega)] at hx hr
     rcases hr with ⟨h1, _⟩ | ⟨_, h2⟩
     ·exact absurd rfl h1
     ·rw [h2]; exact hx
   ·cases h
 ·rintro ⟨hc, f1, f2, hf, hr⟩
  obtain ⟨⟨k1, k2⟩, hfr, htx, hfk, hsz⟩ := chk_ok.1 hc
  obtain ⟨m1, m2, m3, m4, m5, m6, m7, m8, m9, m10, m11, m12, m13, m14, m15⟩ := six_apart
  obtain ⟨lk, lf, lc, ls, lx⟩ := l
  simp only at k1 k2 hfr htx hfk hsz hf
  have hk : lk = 1 ∨ lk = 2 ∨ lk = 3 ∨ lk = 4 ∨ lk = 5 ∨ lk = 6 ∨ lk = 7 := by omega
  have hl01 : ptyB lf = true := pty_iff.2 (by rcases hfr with h | h; exact .inl h; exact .inr h.1)
  have hx0 : fakeB lk = false → lx = false := fun h => by
   cases lx with
   | false => rfl
   | true => rw [hfk rfl] at h; cases h
  have hf0 : fromB lk = false → lf = 0 := fun h => by
   rcases hfr with e | ⟨_, e⟩
   ·exact e
   ·rw [h] at e; cases e
  have ht0 : textB lk = false → ls = emptyS := fun h => by
   rcases htx with e | e
   ·exact e
   ·rw [h] at e; cases e
  unfold rdP byP inrP
  rcases hk with e | e | e | e | e | e | e
  ·subst e
   have hr' : RT p t (promT lf (dealT lc ls) lx) := hr
   obtain ⟨_, a, h2, _⟩ := rt_prom.1 hr'
   rw [if_pos (by rw [h2]; cases lx <;> simp)]
   exact (pr_some hp).2 ⟨rfl, hl01, hsz, hr'⟩
  ·subst e
   obtain rfl := hx0 rfl
   obtain ⟨_, a, h2, h3⟩ := rt_sign.1 (show RT p t (signT lf (dealT lc ls)) from hr)
   rw [if_neg (by rw [h2]; simp), if_pos (by rw [h2]; exact .inl rfl), h2, if_pos rfl, if_pos rfl]
   unfold rdS
   rw [if_pos (ah_of h3).1, if_pos hl01, (dl_some hp).2 h3]
   rfl
  ·subst e
   obtain rfl := hx0 rfl
   obtain rfl := hf0 rfl
   obtain rfl := ht0 rfl
   obtain ⟨_, a, h2, h3⟩ := rt_sign.1 (show RT p t (signT 0 (pairT (dataT abortS) (numT lc))) from hr)
   rw [if_neg (by rw [h2]; simp), if_pos (by rw [h2]; exact .inl rfl), h2, if_pos rfl, if_pos rfl]
   unfold rdS
   rw [(ah_of h3).1, if_neg m1, if_pos rfl, if_pos rfl, (nu_some hp).2 (ah_of h3).2]
   rfl
  ·subst e
   obtain rfl := hf rfl
   have hr' : RT p t (signT lf (pairT (dataT resolveS) (pairT (promT 0 (dealT lc ls) f1) (promT 1 (dealT lc ls) f2)))) := by
    have h9 := hr
    have e1 : ((f1 || f2) && f1) = f1 := by cases f1 <;> cases f2 <;> rfl
    have e2 : ((f1 || f2) && f2) = f2 := by cases f1 <;> cases f2 <;> rfl
    have : letT ⟨4, lf, lc, ls, f1 || f2⟩ f1 f2 = signT lf (pairT (dataT resolveS) (pairT (promT 0 (dealT lc ls) ((f1 || f2) && f1)) (promT 1 (dealT lc ls) ((f1 || f2) && f2)))) := rfl
    rw [this, e1, e2] at h9
    exact h9
   obtain ⟨_, a, h2, h3⟩ := rt_sign.1 hr'
   rw [if_neg (by rw [h2]; simp), if_pos (by rw [h2]; exact .inl rfl), h2, if_pos rfl, if_pos rfl]
   unfold rdS
   rw [(ah_of h3).1, if_neg m2, if_neg m3, if_pos rfl, if_pos hl01, (bo_some hp).2 ⟨hsz, f1, f2, rfl, (ah_of h3).2⟩]
   rfl
  ·subst e
   obtain rfl := hx0 rfl
   obtain rfl := hf0 rfl
   obtain rfl := ht0 rfl
   obtain ⟨_, a, h2, h3⟩ := rt_sign.1 (show RT p t (signT 2 (pairT (dataT abortedS) (numT lc))) from hr)
   rw [if_neg (by rw [h2]; simp), if_pos (by rw [h2]; exact .inl rfl), h2, if_pos rfl, if_pos rfl]
   unfold rdS
   rw [(ah_of h3).1, if_neg m4, if_neg m5, if_neg m6, if_pos rfl, if_pos rfl, (nu_some hp).2 (ah_of h3).2]
   rfl
  ·subst e
   obtain rfl := hx0 rfl
   obtain rfl := hf0 rfl
   obtain ⟨_, a, h2, h3⟩ := rt_sign.1 (show RT p t (signT 2 (pairT (dataT insteadS) (dealT lc ls))) from hr)
   rw [if_neg (by rw [h2]; simp), if_pos (by rw [h2]; exact .inl rfl), h2, if_pos rfl, if_pos rfl]
   unfold rdS
   rw [(ah_of h3).1, if_neg m7, if_neg m8, if_neg m9, if_neg m10, if_pos rfl, if_pos rfl, (dl_some hp).2 (ah_of h3).2]
   rfl
  ·subst e
   obtain rfl := hx0 rfl
   obtain rfl := hf0 rfl
   obtain rfl := ht0 rfl
   have h3 : RT p t (pairT (dataT fullS) (numT lc)) := hr
   obtain ⟨_, a, b, h2, _⟩ := rt_pair.1 h3
   have e4 : (atP p t).1.kind = 4 := by rw [h2]
   rw [if_neg (by omega), if_pos (.inr e4), if_neg (by omega), if_neg (by omega)]
   unfold rdS
   rw [(ah_of h3).1, if_neg m11, if_neg m12, if_neg m13, if_neg m14, if_neg m15, if_pos rfl, if_pos rfl, (nu_some hp).2 (ah_of h3).2]
   rfl
theorem good_lk : ∀ (f : Fo) (s d : Int), Good f → 0 ≤ s → s + (f.size : Int) ≤ 4096 → d + (f.depth : Int) ≤ 64 → (lk f s d).2 = 0 ∧ (lk f s d).1 = s + (f.size : Int) := by
 intro f
 induction f with
 | nil => intro s d _ _ _ _; simp [lk, Fo.size]
 | cons n k r ihk ihr =>
  intro s d hg h0 h1 h2
  obtain ⟨g1, g2, g3, g4⟩ := hg
  simp only [Fo.size, Fo.depth] at h1 h2
  obtain ⟨a1, a2⟩ := ihk (s + 1) (d + 1) g3 (by omega) (by omega) (by omega)
  obtain ⟨b1, b2⟩ := ihr (s + 1 + (k.size : Int)) d g4 (by omega) (by omega) (by omega)
  simp only [lk]
  rw [if_neg (by omega), if_neg (by rw [g1]; simp), if_neg (by rw [g2]; simp), if_neg (by rw [a1]; simp), a2]
  refine ⟨b1, ?_⟩
  rw [b2]; simp only [Fo.size]; omega
theorem good_lkT {n : Nd} {k : Fo} (h : Good (.cons n k .nil)) (h1 : (Fo.cons n k .nil).size ≤ 4096) (h2 : (Fo.cons n k .nil).depth ≤ 64) : (lkT n k 0 0).2 = 0 := by
 have h3 := (good_lk _ 0 0 h (by omega) (by omega) (by omega)).1
 rw [lk_cons] at h3
 split at h3
 ·rename_i h4; exact absurd h3 h4
 ·rename_i h4; simpa using h4
def Gd (x : Tr) (s d : Nat) : Prop := Good (one x) ∧ (one x).size ≤ s ∧ (one x).depth ≤ d
theorem gd_one {n : Nd} {x : Tr} {s d : Nat} (hn : kidsN n.kind = 1) (hs : shp n = 0) (h : Gd x s d) : Gd (n, one x) (s + 1) (d + 1) := by
 obtain ⟨h1, h2, h3⟩ := h
 refine ⟨⟨hn.symm, hs, h1, trivial⟩, ?_, ?_⟩
 ·simp only [one, Fo.size] at h2 ⊢; omega
 ·simp only [one, Fo.depth] at h3 ⊢; omega
theorem gd_two {n : Nd} {x y : Tr} {s d s' d' : Nat} (hn : kidsN n.kind = 2) (hs : shp n = 0) (h : Gd x s d) (h' : Gd y s' d') : Gd (n, two x y) (s + s' + 1) (max d d' + 1) := by
 obtain ⟨h1, h2, h3⟩ := h
 obtain ⟨h1', h2', h3'⟩ := h'
 refine ⟨⟨hn.symm, hs, ⟨h1.1, h1.2.1, h1.2.2.1, h1'⟩, trivial⟩, ?_, ?_⟩
 ·simp only [one, two, Fo.size] at h2 h2' ⊢; omega
 ·simp only [one, two, Fo.depth] at h3 h3' ⊢; omega
theorem shp_of {n : Nd} (h1 : plainB n = true) (h2 : ((namedB n.kind && !nameB n.frm) || (twoB n.kind && (!nameB n.to || n.frm == n.to))) = false) (h3 : n.text.size ≤ 64) : shp n = 0 := by
 unfold shp
 rw [if_neg (by rw [h1]; decide), if_neg (by rw [h2]; decide), if_neg (by omega)]
theorem emptyL : emptyS.toList.isEmpty = true := by rw [Lib.toList_data]; rfl
theorem plain_mk {n : Nd} (h : (decide (1 ≤ n.kind) && decide (n.kind ≤ 9) && (namedB n.kind || n.frm == 0) && (twoB n.kind || n.to == 0) && (n.kind == 2 || n.num == 0) && (decide (1 ≤ kidsN n.kind) || n.a == 0) && (kidsN n.kind == 2 || n.b == 0)) = true) (ht : (n.kind == 3 || n.text.toList.isEmpty) = true) : plainB n = true := by
 unfold plainB
 rw [ht, Bool.and_true]
 exact h
theorem shp_mk {n : Nd} (h : (decide (1 ≤ n.kind) && decide (n.kind ≤ 9) && (namedB n.kind || n.frm == 0) && (twoB n.kind || n.to == 0) && (n.kind == 2 || n.num == 0) && (decide (1 ≤ kidsN n.kind) || n.a == 0) && (kidsN n.kind == 2 || n.b == 0)) = true) (ht : n.text = emptyS) (h2 : ((namedB n.kind && !nameB n.frm) || (twoB n.kind && (!nameB n.to || n.frm == n.to))) = false) : shp n = 0 :=
 shp_of (plain_mk h (by rw [ht, emptyL, Bool.or_true])) h2 (by rw [ht]; decide)
theorem gd_data {s : ByteArray} (h : s.size ≤ 64) : Gd (dataT s) 1 1 :=
 ⟨⟨rfl, shp_of (plain_mk rfl rfl) rfl h, trivial, trivial⟩, Nat.le_refl _, Nat.le_refl _⟩
theorem gd_num (n : Int) : Gd (numT n) 1 1 :=
 ⟨⟨rfl, shp_mk rfl rfl rfl, trivial, trivial⟩, Nat.le_refl _, Nat.le_refl _⟩
theorem gd_pair {x y : Tr} {s d s' d' : Nat} (h : Gd x s d) (h' : Gd y s' d') : Gd (pairT x y) (s + s' + 1) (max d d' + 1) := gd_two rfl (shp_mk rfl rfl rfl) h h'
theorem gd_sign {x : Tr} {s d : Nat} {who : Int} (hw : who = 0 ∨ who = 1 ∨ who = 2) (h : Gd x s d) : Gd (signT who x) (s + 1) (d + 1) := by
 refine gd_one rfl ?_ h
 rcases hw with rfl | rfl | rfl <;> exact shp_mk rfl rfl rfl
theorem gd_prom {x : Tr} {s d : Nat} {who : Int} {f : Bool} (hw : who = 0 ∨ who = 1) (h : Gd x s d) : Gd (promT who x f) (s + 1) (d + 1) := by
 refine gd_one (by cases f <;> rfl) ?_ h
 rcases hw with rfl | rfl <;> cases f <;> exact shp_mk rfl rfl rfl
theorem gd_deal {c : Int} {s : ByteArray} (h : s.size ≤ 64) : Gd (dealT c s) 5 3 := gd_pair (gd_data (by decide)) (gd_pair (gd_num c) (gd_data h))
theorem Gd.le {x : Tr} {s d s' d' : Nat} (h : Gd x s d) (h1 : s ≤ s') (h2 : d ≤ d') : Gd x s' d' := ⟨h.1, Nat.le_trans h.2.1 h1, Nat.le_trans h.2.2 h2⟩
theorem gd_let {l : Lt} (h : chkP l = 0) (f1 f2 : Bool) : Gd (letT l f1 f2) 20 20 := by
 obtain ⟨⟨k1, k2⟩, hfr, htx, hfk, hsz⟩ := chk_ok.1 h
 have hd := gd_deal (c := l.c) hsz
 have hw : l.frm = 0 ∨ l.frm = 1 := by rcases hfr with h | h; exact .inl h; exact .inr h.1
 have hw2 : l.frm = 0 ∨ l.frm = 1 ∨ l.frm = 2 := by omega
 unfold letT
 split
 ·exact (gd_prom hw hd).le (by omega) (by omega)
 split
 ·exact (gd_sign hw2 hd).le (by omega) (by omega)
 split
 ·exact (gd_sign (.inl rfl) (gd_pair (gd_data (by decide)) (gd_num _))).le (by omega) (by omega)
 split
 ·exact (gd_sign hw2 (gd_pair (gd_data (by decide)) (gd_pair (gd_prom (.inl rfl) hd) (gd_prom (.inr rfl) hd)))).le (by omega) (by omega)
 split
 ·exact (gd_sign (.inr (.inr rfl)) (gd_pair (gd_data (by decide)) (gd_num _))).le (by omega) (by omega)
 split
 ·exact (gd_sign (.inr (.inr rfl)) (gd_pair (gd_data (by decide)) hd)).le (by omega) (by omega)
 ·exact (gd_pair (gd_data (by decide)) (gd_num _)).le (by omega) (by omega)
end Go.Proofs.YtjmcaceegfdkkaaGreatDoor
