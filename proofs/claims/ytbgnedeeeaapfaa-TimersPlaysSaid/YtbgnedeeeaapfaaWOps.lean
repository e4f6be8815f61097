/-
  Plain: what is done with a wheel, and that it stays one.
-/
import Derived.Test.YtbgnedeeeaapfaaWPln
namespace Go.Proofs.Ytbgnedeeeaapfaa
set_option linter.unusedVariables false
theorem mem_ins {ts : List Tm} {t a : Tm} : a ∈ ins ts t ↔ a = t ∨ a ∈ ts := by
  unfold ins
  rw [List.mem_append, List.mem_cons, List.mem_filter, List.mem_filter]
  constructor
  · rintro (⟨h, _⟩ | h | ⟨h, _⟩)
    · exact .inr h
    · exact .inl h
    · exact .inr h
  · rintro (h | h)
    · exact .inr (.inl h)
    · by_cases hk : a.tk ≤ t.tk
      · exact .inl ⟨h, by simpa using hk⟩
      · exact .inr (.inr ⟨h, by simp; omega⟩)
theorem mem_out {ts : List Tm} {i : Int} {a : Tm} : a ∈ out ts i ↔ a ∈ ts ∧ a.id ≠ i := by
  unfold out
  rw [List.mem_filter]; simp
theorem ins_perm (ts : List Tm) (t : Tm) : (ins ts t).Perm (t :: ts) := by
  unfold ins
  refine List.perm_middle.trans (List.Perm.cons t ?_)
  have := List.filter_append_perm (fun a : Tm => decide (a.tk ≤ t.tk)) ts
  refine List.Perm.trans ?_ this
  rw [show (ts.filter fun a => !decide (a.tk ≤ t.tk)) = ts.filter fun a => decide (t.tk < a.tk) from List.filter_congr fun a _ => by simp [← Int.not_le]]
theorem ins_len (ts : List Tm) (t : Tm) : (ins ts t).length = ts.length + 1 := (ins_perm ts t).length_eq
theorem ins_nd {ts : List Tm} {t : Tm} (h : ts.Pairwise fun a b => a.id ≠ b.id) (hf : ∀ a ∈ ts, a.id ≠ t.id) : (ins ts t).Pairwise fun a b => a.id ≠ b.id :=
  ((ins_perm ts t).pairwise_iff (fun {_ _} hne => Ne.symm hne)).2 (List.pairwise_cons.2 ⟨fun a ha e => hf a ha e.symm, h⟩)
theorem ins_ord {ts : List Tm} {t : Tm} (h : ts.Pairwise lt2) (hp : ∀ a ∈ ts, a.pl < t.pl) : (ins ts t).Pairwise lt2 := by
  unfold ins
  rw [List.pairwise_append, List.pairwise_cons]
  refine ⟨h.filter _, ⟨fun a ha => ?_, h.filter _⟩, fun a ha b hb => ?_⟩
  · have := (List.mem_filter.1 ha).2
    exact .inl (by simpa using this)
  · obtain ⟨h1, h2⟩ := List.mem_filter.1 ha
    simp only [decide_eq_true_eq] at h2
    rcases List.mem_cons.1 hb with rfl | hb
    · have := hp a h1
      unfold lt2; omega
    · have := (List.mem_filter.1 hb).2
      simp only [decide_eq_true_eq] at this
      exact .inl (by omega)
theorem id_inj {ts : List Tm} (hn : ts.Pairwise fun a b => a.id ≠ b.id) {t a : Tm} (ht : t ∈ ts) (ha : a ∈ ts) (e : a.id = t.id) : a = t := by
  rcases List.mem_iff_getElem.1 ht with ⟨i, hi, rfl⟩
  rcases List.mem_iff_getElem.1 ha with ⟨j, hj, rfl⟩
  rw [List.pairwise_iff_getElem] at hn
  rcases Nat.lt_trichotomy i j with h | h | h
  · exact absurd e.symm (hn i j hi hj h)
  · subst h; rfl
  · exact absurd e (hn j i hj hi h)
theorem fnd_some {ts : List Tm} {i : Int} {t : Tm} (h : fnd ts i = some t) : t ∈ ts ∧ t.id = i := by
  unfold fnd at h
  exact ⟨List.mem_of_find?_eq_some h, by simpa using List.find?_some h⟩
theorem fnd_none {ts : List Tm} {i : Int} (h : fnd ts i = none) : ∀ t ∈ ts, t.id ≠ i := by
  unfold fnd at h
  rw [List.find?_eq_none] at h
  intro t ht e
  exact h t ht (by simpa using e)
theorem fnd_mem {ts : List Tm} (hn : ts.Pairwise fun a b => a.id ≠ b.id) {t : Tm} (ht : t ∈ ts) : fnd ts t.id = some t := by
  cases e : fnd ts t.id with
  | none => exact absurd rfl (fnd_none e t ht)
  | some a =>
    obtain ⟨h1, h2⟩ := fnd_some e
    rw [id_inj hn ht h1 h2]
theorem fnd_ext {ts us : List Tm} {i : Int} (hn : us.Pairwise fun a b => a.id ≠ b.id) (h : ∀ t : Tm, t.id = i → (t ∈ ts ↔ t ∈ us)) : fnd ts i = fnd us i := by
  cases e : fnd ts i with
  | none =>
    cases e' : fnd us i with
    | none => rfl
    | some a =>
      obtain ⟨h1, h2⟩ := fnd_some e'
      exact absurd h2 (fnd_none e a ((h a h2).2 h1))
  | some a =>
    obtain ⟨h1, h2⟩ := fnd_some e
    rw [← h2, fnd_mem hn ((h a h2).1 h1)]
theorem fnd_ins {ts : List Tm} {t : Tm} (hn : ts.Pairwise fun a b => a.id ≠ b.id) (hf : ∀ a ∈ ts, a.id ≠ t.id) (i : Int) : fnd (ins ts t) i = if i = t.id then some t else fnd ts i := by
  by_cases e : i = t.id
  · rw [if_pos e, e]
    exact fnd_mem (ins_nd hn hf) (mem_ins.2 (.inl rfl))
  · rw [if_neg e]
    refine fnd_ext hn fun a ha => ?_
    rw [mem_ins]
    constructor
    · rintro (rfl | h)
      · exact absurd ha.symm e
      · exact h
    · exact .inr
theorem out_nd {ts : List Tm} {i : Int} (hn : ts.Pairwise fun a b => a.id ≠ b.id) : (out ts i).Pairwise fun a b => a.id ≠ b.id := hn.filter _
theorem out_ord {ts : List Tm} {i : Int} (hn : ts.Pairwise lt2) : (out ts i).Pairwise lt2 := hn.filter _
theorem fnd_out {ts : List Tm} (hn : ts.Pairwise fun a b => a.id ≠ b.id) (j i : Int) : fnd (out ts j) i = if i = j then none else fnd ts i := by
  by_cases e : i = j
  · rw [if_pos e]
    cases h : fnd (out ts j) i with
    | none => rfl
    | some a =>
      obtain ⟨h1, h2⟩ := fnd_some h
      exact absurd (h2.trans e) (mem_out.1 h1).2
  · rw [if_neg e]
    refine fnd_ext hn fun a ha => ?_
    rw [mem_out]
    exact ⟨fun h => h.1, fun h => ⟨h, by rw [ha]; exact e⟩⟩
theorem out_len {ts : List Tm} (hn : ts.Pairwise fun a b => a.id ≠ b.id) {t : Tm} (ht : t ∈ ts) : (out ts t.id).length + 1 = ts.length := by
  obtain ⟨A, C, rfl⟩ := List.append_of_mem ht
  unfold out
  rw [List.pairwise_append, List.pairwise_cons] at hn
  rw [List.filter_append, List.filter_cons, filter_all (l := A) (fun a ha => by simpa using hn.2.2 a ha t (by simp)), filter_all (l := C) (fun a ha => by simpa using Ne.symm (hn.2.1.1 a ha))]
  simp; omega
theorem out_head {t : Tm} {ts : List Tm} (hn : (t :: ts).Pairwise fun a b => a.id ≠ b.id) : out (t :: ts) t.id = ts := by
  rw [List.pairwise_cons] at hn
  unfold out
  rw [List.filter_cons, filter_all (l := ts) (fun a ha => by simpa using Ne.symm (hn.1 a ha))]
  simp
def layP (x : Wh) (id at' : Int) (v : Value) : Wh := { x with pls := x.pls + 1, ts := ins x.ts ⟨id, at', x.pls, v⟩ }
def takeP (x : Wh) (id : Int) : Wh := { x with ts := out x.ts id }
def setP (x : Wh) (at' : Int) (v : Value) : Wh × Int × Int :=
  if at' ≤ x.now then (x, 0, 140) else if 4096 ≤ x.ts.length then (x, 0, 6) else (layP { x with ids := x.ids + 1 } x.ids at' v, x.ids, 0)
def afterP (x : Wh) (n : Int) (v : Value) : Wh × Int × Int := if n < 1 ∨ maxI - x.now < n then (x, 0, 2) else setP x (x.now + n) v
def moveP (x : Wh) (id at' : Int) : Wh × Int := match fnd x.ts id with
  | none => (x, 7)
  | some t => if at' ≤ x.now then (x, 140) else (layP (takeP x id) id at' t.v, 0)
def cancelP (x : Wh) (id : Int) : Wh := takeP x id
theorem Good.lay {x : Wh} (h : Good x) {id at' : Int} {v : Value} (hf : ∀ a ∈ x.ts, a.id ≠ id) (h0 : 0 ≤ id) (h1 : id < x.ids) (h2 : x.now ≤ at') (h3 : at' ≤ maxI) (hl : x.ts.length < 4096) (hp : x.pls < 400000) : Good (layP x id at' v) := by
  have hpl : ∀ a ∈ x.ts, a.pl < x.pls := fun a ha => (h.per a ha).2.2.2.2.2
  refine ⟨h.now0, h.nowM, h.ids0, h.idM, ?_, ?_, ins_ord h.ord hpl, ins_nd h.nd hf, fun t ht => ?_, ?_⟩
  · have := h.pls0; simp only [layP]; omega
  · simp only [layP]; omega
  · have := h.ids0; have := h.pls0
    rcases mem_ins.1 ht with rfl | ht
    · simp only [layP]; omega
    · have := h.per t ht
      simp only [layP]; omega
  · simp only [layP, ins_len]; omega
theorem Good.take {x : Wh} (h : Good x) (id : Int) : Good (takeP x id) :=
  ⟨h.now0, h.nowM, h.ids0, h.idM, h.pls0, h.plM, out_ord h.ord, out_nd h.nd, fun t ht => h.per t (mem_out.1 ht).1, Nat.le_trans (List.length_filter_le _ _) h.len⟩
theorem Good.more {x : Wh} (h : Good x) (hp : x.ids < 400000) : Good { x with ids := x.ids + 1 } :=
  ⟨h.now0, h.nowM, by have := h.ids0; simp only; omega, by simp only; omega, h.pls0, h.plM, h.ord, h.nd, fun t ht => by have := h.per t ht; simp only; omega, h.len⟩
theorem Good.at {x : Wh} (h : Good x) {n : Int} (h1 : x.now ≤ n) (h2 : n ≤ maxI) (h3 : ∀ t ∈ x.ts, n ≤ t.tk) : Good { x with now := n } :=
  ⟨by have := h.now0; simp only; omega, h2, h.ids0, h.idM, h.pls0, h.plM, h.ord, h.nd, fun t ht => by have := h.per t ht; have := h3 t ht; simp only; omega, h.len⟩
theorem Good.new : Good ⟨0, 0, 0, []⟩ := ⟨by simp, by simp [maxI], by simp, by simp, by simp, by simp, List.Pairwise.nil, List.Pairwise.nil, fun t ht => (by cases ht), by simp⟩
end Go.Proofs.Ytbgnedeeeaapfaa
