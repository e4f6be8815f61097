/-
  Nothing comes of nothing, nothing twice: plain.
-/
import Derived.Test.YtgnmieobgdbafaaNBd
namespace Go.Proofs.Ytgnmieobgdbafaa
open Go.RowKit
set_option linter.unusedVariables false
/-- What flies has numbers of its own, none of which came; and was sent. -/
structure KeeP (x : Nt) (seen : List Int) : Prop where
  nd : (x.fl.map (·.id)).Nodup
  rng : ∀ p ∈ x.fl, p.id ≤ (x.ids : Int)
  sn : ∀ i ∈ seen, i ≤ (x.ids : Int)
  ap : ∀ p ∈ x.fl, p.id ∉ seen
  src : ∀ p ∈ x.fl, ∃ q ∈ x.hd, q.fr = p.fr ∧ q.tt = p.tt ∧ q.bd = p.bd
theorem KeeP.new : KeeP newNt [] := ⟨List.nodup_nil, fun p hp => (by cases hp), fun p hp => (by cases hp), fun p hp => (by cases hp), fun p hp => (by cases hp)⟩
theorem nodup_snoc {l : List Int} {a : Int} (h : l.Nodup) (ha : a ∉ l) : (l ++ [a]).Nodup := by
  rw [List.nodup_append]
  refine ⟨h, by simp, fun b hb c hc => ?_⟩
  simp only [List.mem_singleton] at hc
  subst hc
  exact fun e => ha (e ▸ hb)
theorem KeeP.send {x : Nt} {seen : List Int} (h : KeeP x seen) (f t : Int) (b : ByteArray) : KeeP (sendP x f t b).1 seen := by
  rcases sendP_cases x f t b with ⟨e, _, he⟩ | ⟨i, j, rfl, rfl, hi, hj, _, he⟩
  · rw [he]; exact h
  · rw [he]
    refine ⟨?_, fun p hp => ?_, fun i hi => ?_, fun p hp hs => ?_, fun p hp => ?_⟩
    · show ((x.fl ++ [_]).map _).Nodup
      rw [List.map_append]
      refine nodup_snoc h.nd fun hm => ?_
      obtain ⟨p, hp, e⟩ := List.mem_map.1 hm
      have := h.rng p hp
      simp only at e
      omega
    · rcases List.mem_append.1 (show p ∈ x.fl ++ [_] from hp) with hp | hp
      · have := h.rng p hp; show p.id ≤ ((x.ids + 1 : Nat) : Int); omega
      · rw [List.mem_singleton.1 hp]; show (x.ids : Int) + 1 ≤ ((x.ids + 1 : Nat) : Int); omega
    · have := h.sn i hi; show i ≤ ((x.ids + 1 : Nat) : Int); omega
    · rcases List.mem_append.1 (show p ∈ x.fl ++ [_] from hp) with hp | hp
      · exact h.ap p hp hs
      · rw [List.mem_singleton.1 hp] at hs
        have := h.sn _ hs
        have e : (x.ids : Int) + 1 ≤ (x.ids : Int) := this
        omega
    · rcases List.mem_append.1 (show p ∈ x.fl ++ [_] from hp) with hp | hp
      · obtain ⟨q, hq, e⟩ := h.src p hp
        exact ⟨q, List.mem_append_left _ hq, e⟩
      · rw [List.mem_singleton.1 hp]
        exact ⟨_, List.mem_append_right _ (List.mem_singleton.2 rfl), rfl, rfl, rfl⟩
theorem KeeP.sub {x : Nt} {seen : List Int} (h : KeeP x seen) {l : List Pk} (hl : l.Sublist x.fl) (cm : Nat → Int) : KeeP { x with fl := l, cm := cm } seen :=
  ⟨List.Nodup.sublist (hl.map _) h.nd, fun p hp => h.rng p (hl.subset hp), h.sn, fun p hp => h.ap p (hl.subset hp), fun p hp => h.src p (hl.subset hp)⟩
theorem out_sub (l : List Pk) (k : Nat) : (outP l k).Sublist l := by
  unfold outP
  conv => rhs; rw [← List.take_append_drop k l]
  exact List.Sublist.append (List.Sublist.refl _) (by rw [← List.drop_drop]; exact List.drop_sublist _ _)
theorem out_perm {l : List Pk} {k : Nat} {p : Pk} (h : l[k]? = some p) : l.Perm (p :: outP l k) := by
  have := (split_at h).1
  conv => lhs; rw [this]
  exact List.perm_middle
theorem in_perm (l : List Pk) (k : Nat) (p : Pk) : (inP l k p).Perm (p :: l) := by
  unfold inP
  conv => rhs; rw [← List.take_append_drop k l]
  exact List.perm_middle
/-- What came: its number came now. -/
theorem KeeP.came {x : Nt} {seen : List Int} (h : KeeP x seen) {k : Nat} {p : Pk} (hk : x.fl[k]? = some p) (cm : Nat → Int) : KeeP { x with fl := outP x.fl k, cm := cm } (seen ++ [p.id]) := by
  have h1 := h.sub (out_sub x.fl k) cm
  have hp := (out_perm hk).map (·.id)
  have hnd := hp.nodup_iff.1 h.nd
  refine ⟨h1.nd, h1.rng, fun i hi => ?_, fun q hq hs => ?_, h1.src⟩
  · rcases List.mem_append.1 hi with hi | hi
    · exact h.sn i hi
    · rw [List.mem_singleton.1 hi]; exact h.rng p (List.mem_of_getElem? hk)
  · rcases List.mem_append.1 hs with hs | hs
    · exact h1.ap q hq hs
    · have e := List.mem_singleton.1 hs
      rw [List.map_cons, List.nodup_cons] at hnd
      exact hnd.1 (List.mem_map.2 ⟨q, hq, e⟩)
theorem KeeP.same {x : Nt} {seen : List Int} (h : KeeP x seen) {l : List Pk} (h1 : (l.map (·.id)).Nodup) (h2 : ∀ p ∈ l, ∃ q ∈ x.fl, q.id = p.id ∧ q.fr = p.fr ∧ q.tt = p.tt ∧ q.bd = p.bd) : KeeP { x with fl := l } seen := by
  refine ⟨h1, fun p hp => ?_, h.sn, fun p hp => ?_, fun p hp => ?_⟩
  · obtain ⟨q, hq, e, _⟩ := h2 p hp; rw [← e]; exact h.rng q hq
  · obtain ⟨q, hq, e, _⟩ := h2 p hp; rw [← e]; exact h.ap q hq
  · obtain ⟨q, hq, e, e1, e2, e3⟩ := h2 p hp
    obtain ⟨r, hr, f1, f2, f3⟩ := h.src q hq
    exact ⟨r, hr, f1.trans e1, f2.trans e2, f3.trans e3⟩
theorem KeeP.drop {x : Nt} {seen : List Int} (h : KeeP x seen) (i : Int) : KeeP (dropP x i).1 seen := by
  unfold dropP
  split
  · exact h
  · exact h.sub (out_sub _ _) x.cm
theorem KeeP.mov {x : Nt} {seen : List Int} (h : KeeP x seen) (i t : Int) : KeeP (movP x i t).1 seen := by
  rcases hg : getP x.fl i with _ | p
  · rw [movP_no (.inl hg)]; exact h
  rcases hg2 : getP x.fl t with _ | q
  · rw [movP_no (.inr hg2)]; exact h
  rw [movP_ok hg hg2]
  obtain ⟨m, rfl, hm, hml, hmn⟩ := getP_some hg
  rw [hmn]
  have hp : (inP (outP x.fl m) t.toNat p).Perm x.fl := (in_perm _ _ _).trans (out_perm hm).symm
  exact h.same ((hp.map _).nodup_iff.2 h.nd) fun r hr => ⟨r, hp.mem_iff.1 hr, rfl, rfl, rfl, rfl⟩
theorem KeeP.hold {x : Nt} {seen : List Int} (h : KeeP x seen) (i t : Int) : KeeP (holdP x i t).1 seen := by
  rcases hg : getP x.fl i with _ | p
  · rw [holdP_no hg]; exact h
  by_cases ht : t < 0 ∨ 1000 < t
  · rw [holdP_arg hg ht]; exact h
  rw [holdP_ok hg ht]
  obtain ⟨m, rfl, hm, hml, hmn⟩ := getP_some hg
  rw [hmn]
  refine h.same ?_ fun r hr => ?_
  · have e : (x.fl.set m { p with hl := t }).map (·.id) = x.fl.map (·.id) := by
      rw [List.map_set]
      apply List.ext_getElem?
      intro j
      by_cases hj : j = m
      · subst hj
        rw [List.getElem?_set_self (by simpa using hml), List.getElem?_map, hm]; rfl
      · rw [List.getElem?_set_ne (fun e => hj e.symm)]
    rw [e]; exact h.nd
  · rcases List.mem_or_eq_of_mem_set hr with hr | rfl
    · exact ⟨r, hr, rfl, rfl, rfl, rfl⟩
    · exact ⟨p, List.mem_of_getElem? hm, rfl, rfl, rfl, rfl⟩
theorem KeeP.tick {x : Nt} {seen : List Int} (h : KeeP x seen) : KeeP (tickP x) seen := by
  refine h.same ?_ fun r hr => ?_
  · rw [List.map_map]; exact h.nd
  · obtain ⟨p, hp, rfl⟩ := List.mem_map.1 hr
    exact ⟨p, hp, rfl, rfl, rfl, rfl⟩
theorem KeeP.cut {x : Nt} {seen : List Int} (h : KeeP x seen) (a b : Int) (c : Bool) : KeeP (cutP x a b c).1 seen := by
  unfold cutP
  split
  · exact h
  · exact ⟨h.nd, h.rng, h.sn, h.ap, h.src⟩
theorem dblP_cases (x : Nt) (i : Int) : (∃ e : Int, e ≠ 0 ∧ dblP x i = (x, 0, e)) ∨ ∃ (k : Nat) (p : Pk), i = (k : Int) ∧ x.fl[k]? = some p ∧ dblP x i = ({ x with ids := x.ids + 1, fl := x.fl ++ [{ p with id := x.ids + 1, hl := 0 }] }, x.ids + 1, 0) := by
  rcases hg : getP x.fl i with _ | p
  · exact .inl ⟨7, by decide, dblP_no hg⟩
  by_cases hd : 1024 ≤ x.fl.length
  · exact .inl ⟨6, by decide, dblP_many hg hd⟩
  obtain ⟨k, rfl, hk, _, _⟩ := getP_some hg
  exact .inr ⟨k, p, rfl, hk, dblP_ok hg hd⟩
theorem KeeP.dbl {x : Nt} {seen : List Int} (h : KeeP x seen) (i : Int) : KeeP (dblP x i).1 seen := by
  rcases dblP_cases x i with ⟨e, _, he⟩ | ⟨k, p, rfl, hk, he⟩
  · rw [he]; exact h
  · rw [he]
    refine ⟨?_, fun q hq => ?_, fun i hi => ?_, fun q hq hs => ?_, fun q hq => ?_⟩
    · show ((x.fl ++ [_]).map _).Nodup
      rw [List.map_append]
      refine nodup_snoc h.nd fun hm => ?_
      obtain ⟨p, hp, e⟩ := List.mem_map.1 hm
      have := h.rng p hp
      simp only at e
      omega
    · rcases List.mem_append.1 (show q ∈ x.fl ++ [_] from hq) with hq | hq
      · have := h.rng q hq; show q.id ≤ ((x.ids + 1 : Nat) : Int); omega
      · rw [List.mem_singleton.1 hq]; show (x.ids : Int) + 1 ≤ ((x.ids + 1 : Nat) : Int); omega
    · have := h.sn i hi; show i ≤ ((x.ids + 1 : Nat) : Int); omega
    · rcases List.mem_append.1 (show q ∈ x.fl ++ [_] from hq) with hq | hq
      · exact h.ap q hq hs
      · rw [List.mem_singleton.1 hq] at hs
        have := h.sn _ hs
        have e : (x.ids : Int) + 1 ≤ (x.ids : Int) := this
        omega
    · rcases List.mem_append.1 (show q ∈ x.fl ++ [_] from hq) with hq | hq
      · exact h.src q hq
      · rw [List.mem_singleton.1 hq]
        exact h.src p (List.mem_of_getElem? hk)
theorem dropP_cases (x : Nt) (i : Int) : (∃ e : Int, e ≠ 0 ∧ dropP x i = (x, e)) ∨ ∃ (k : Nat) (p : Pk), i = (k : Int) ∧ x.fl[k]? = some p ∧ dropP x i = ({ x with fl := outP x.fl k }, 0) := by
  rcases hg : getP x.fl i with _ | p
  · exact .inl ⟨7, by decide, by unfold dropP; rw [hg]⟩
  · obtain ⟨k, rfl, hk, _, _⟩ := getP_some hg
    exact .inr ⟨k, p, rfl, hk, by unfold dropP; rw [hg]; rfl⟩
theorem mov_len (x : Nt) (i t : Int) : (movP x i t).1.fl.length = x.fl.length := by
  rcases hg : getP x.fl i with _ | p
  · rw [movP_no (.inl hg)]
  rcases hg2 : getP x.fl t with _ | q
  · rw [movP_no (.inr hg2)]
  rw [movP_ok hg hg2]
  obtain ⟨m, rfl, hm, hml, hmn⟩ := getP_some hg
  obtain ⟨j, rfl, hj, hjl, hjn⟩ := getP_some hg2
  rw [hmn, hjn]
  show (inP (outP x.fl m) j p).length = _
  rw [in_len _ _ _ (by rw [out_len _ _ hml]; omega), out_len _ _ hml]; omega
theorem hold_len (x : Nt) (i t : Int) : (holdP x i t).1.fl.length = x.fl.length := by
  rcases hg : getP x.fl i with _ | p
  · rw [holdP_no hg]
  by_cases ht : t < 0 ∨ 1000 < t
  · rw [holdP_arg hg ht]
  rw [holdP_ok hg ht]; simp
theorem tick_len2 (x : Nt) : (tickP x).fl.length = x.fl.length := by show (x.fl.map tick1).length = _; simp
theorem cut_len (x : Nt) (a b : Int) (c : Bool) : (cutP x a b c).1.fl.length = x.fl.length := by unfold cutP; split <;> rfl
end Go.Proofs.Ytgnmieobgdbafaa
