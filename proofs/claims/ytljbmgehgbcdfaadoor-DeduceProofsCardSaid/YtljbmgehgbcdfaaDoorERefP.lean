/-
  The document's own Check: plain.
-/
import Derived.Test.YtljbmgehgbcdfaaDoorEDer
import Derived.Test.YtljbmgehgbcdfaaDoorTRef1
namespace Go.Proofs.YtljbmgehgbcdfaaDoor
set_option linter.unusedVariables false

theorem kid_realP {p : Pl} {n : Nd} (h : errP p n = 0) : (1 ≤ kidsN n.kind → inP p n.a = true) ∧ (kidsN n.kind = 2 → inP p n.b = true) := by
  unfold errP at h
  split at h
  · rename_i h1; exact absurd h h1
  · split at h
    · cases h
    · rename_i h2
      have h2' : kidsBad p n = false := by simpa using h2
      simp only [kidsBad, Bool.or_eq_false_iff, Bool.and_eq_false_iff, decide_eq_false_iff_not, Bool.not_eq_false', beq_eq_false_iff_ne] at h2'
      exact ⟨fun e => h2'.1.resolve_left (fun h => h e), fun e => h2'.2.resolve_left (fun h => h e)⟩
theorem at_memP {p : Pl} {t : Int} (h : inP p t = true) : ∃ i, ∃ hi : i < p.length, t = (i : Int) + 1 ∧ atP p t = p[i] := by
  have h' := h
  simp only [inP, Bool.and_eq_true, decide_eq_true_eq] at h'
  refine ⟨t.toNat - 1, by omega, by omega, ?_⟩
  unfold atP
  rw [if_pos h, List.getD_eq_getElem?_getD, List.getElem?_eq_getElem (show t.toNat - 1 < p.length by omega)]
  rfl
theorem in_neP {p : Pl} {t : Int} (h : inP p t = true) : t ≠ 0 := fun e => by rw [e, inP_zero] at h; cases h
theorem err_at {p : Pl} (hp : Ok p) {t : Int} (h : inP p t = true) : errP p (atP p t).1 = 0 := by
  obtain ⟨i, hi, _, e⟩ := at_memP h
  rw [e]
  exact hp.mem _ (List.getElem_mem hi)
/-- A key's node has no more than its name. -/
theorem key_node {p : Pl} {n : Nd} (h : errP p n = 0) (hk : n.kind = 6) : n = keyNd n.frm := by
  have hs : shp n = 0 := by
    unfold errP at h
    split at h
    · rename_i h1; exact absurd h h1
    · rename_i h1; simpa using h1
  have hp : plainB n = true := by
    unfold shp at hs
    cases e : plainB n with
    | true => rfl
    | false => rw [if_pos e] at hs; cases hs
  unfold plainB at hp
  rw [hk] at hp
  simp only [Bool.and_eq_true, Bool.or_eq_true, beq_iff_eq, decide_eq_true_eq] at hp
  obtain ⟨⟨⟨⟨⟨⟨⟨_, _⟩, _⟩, h3⟩, h4⟩, h5⟩, h6⟩, h7⟩ := hp
  have e3 : n.to = 0 := h3.resolve_left (by decide)
  have e4 : n.num = 0 := h4.resolve_left (by decide)
  have e5 : n.text = emptyS := by
    have := h5.resolve_left (by decide)
    refine toList_inj ?_
    show n.text.toList = (⟨#[]⟩ : ByteArray).toList
    rw [emp_nil]
    exact List.isEmpty_iff.1 this
  have e6 : n.a = 0 := h6.resolve_left (by decide)
  have e7 : n.b = 0 := h7.resolve_left (by decide)
  exact Nd.eq_of hk rfl e3 e4 e5 e6 e7
/-- The key of a name, told by its node. -/
theorem key_iff {p : Pl} (hp : Ok p) {n : Nd} {y : Int} : (decide (keyP p n ≠ 0) && (y == (keyP p n : Int))) = ((atP p y).1.kind == 6 && (atP p y).1.frm == holdN n) := by
  rw [Bool.eq_iff_iff]
  simp only [Bool.and_eq_true, decide_eq_true_eq, beq_iff_eq]
  constructor
  · rintro ⟨h0, rfl⟩
    rw [key_kind h0]
    exact ⟨rfl, rfl⟩
  · rintro ⟨h1, h2⟩
    have hin : inP p y = true := by
      cases e : inP p y with
      | true => rfl
      | false => rw [atP_out e] at h1; cases h1
    have hn := key_node (err_at hp hin) h1
    rw [h2] at hn
    obtain ⟨i, hi, rfl, e⟩ := at_memP hin
    have := hp.first i hi
    rw [← e, hn] at this
    unfold keyP
    rw [this]
    exact ⟨by omega, by omega⟩

def aheadB (i : Nat) (x y : Int) (a b : Bool) : Bool := (if a = true then decide (0 ≤ x) && decide (x < (i : Int)) else x == 0) && (if b = true then decide (0 ≤ y) && decide (y < (i : Int)) else y == 0)
theorem said_take {l : List St} {i : Nat} (hi : i ≤ l.length) {x : Int} (h0 : 0 ≤ x) (h1 : x < (i : Int)) : saidP (l.take i) x = (l.getD x.toNat zeroSt).t := by
  unfold saidP
  have hl : (l.take i).length = i := by simp; omega
  rw [if_neg (by rw [hl]; omega), List.getD_eq_getElem?_getD, List.getD_eq_getElem?_getD, List.getElem?_take, if_pos (by omega)]
theorem said_out {l : List St} {i : Nat} (hi : i ≤ l.length) {x : Int} (h : ¬ (0 ≤ x ∧ x < (i : Int))) : saidP (l.take i) x = 0 := by
  unfold saidP
  have hl : (l.take i).length = i := by simp; omega
  rw [if_pos (by rw [hl]; omega)]
/-- What a step by RuleMake asks. -/
def mkB (p : Pl) (l : List St) (i : Nat) (s : St) : Bool := (partP p (atP p s.t).1).2.2 && (saidP (l.take i) s.a == (partP p (atP p s.t).1).1 && (if (partP p (atP p s.t).1).2.1 = 0 then s.b == 0 else saidP (l.take i) s.b == (partP p (atP p s.t).1).2.1))
section
variable {p : Pl} {l : List St} {i : Nat} {s : St}
theorem out_ne {x z : Int} (hi : i ≤ l.length) (hz : z ≠ 0) (h : (decide (0 ≤ x) && decide (x < (i : Int))) = false) : (saidP (l.take i) x == z) = false := by
  rw [said_out hi (by simpa using h)]
  simpa using fun e => hz e.symm
theorem mk4 (hp : Ok p) (hin : inP p s.t = true) (hi : i ≤ l.length) (hk : (atP p s.t).1.kind = 4) : mkB p l i s = (aheadB i s.a s.b true true && (saidP (l.take i) s.a == (atP p s.t).1.a && saidP (l.take i) s.b == (atP p s.t).1.b)) := by
  have hkr := kid_realP (err_at hp hin)
  have ha := in_neP (hkr.1 (by rw [hk]; decide))
  have hb := in_neP (hkr.2 (by rw [hk]; rfl))
  have e : partP p (atP p s.t).1 = ((atP p s.t).1.a, (atP p s.t).1.b, true) := by unfold partP; rw [if_pos hk]
  unfold mkB aheadB
  rw [e]
  simp only [if_neg hb, Bool.true_and, if_true]
  cases h1 : decide (0 ≤ s.a) && decide (s.a < (i : Int)) with
  | false => rw [out_ne hi ha h1]; simp
  | true =>
    cases h2 : decide (0 ≤ s.b) && decide (s.b < (i : Int)) with
    | false => rw [out_ne hi hb h2]; simp
    | true => simp
theorem mk5 (hp : Ok p) (hin : inP p s.t = true) (hi : i ≤ l.length) (hk : (atP p s.t).1.kind = 5) : mkB p l i s = (aheadB i s.a s.b true false && saidP (l.take i) s.a == (atP p s.t).1.a) := by
  have hkr := kid_realP (err_at hp hin)
  have ha := in_neP (hkr.1 (by rw [hk]; decide))
  have e : partP p (atP p s.t).1 = ((atP p s.t).1.a, 0, true) := by unfold partP; rw [if_neg (by omega), if_pos hk]
  unfold mkB aheadB
  rw [e]
  simp only [Bool.true_and, if_true]
  cases h1 : decide (0 ≤ s.a) && decide (s.a < (i : Int)) with
  | false => rw [out_ne hi ha h1]; simp
  | true => cases s.b == 0 <;> simp
theorem mk7 (hp : Ok p) (hin : inP p s.t = true) (hi : i ≤ l.length) (hk : (atP p s.t).1.kind = 7 ∨ (atP p s.t).1.kind = 8 ∨ (atP p s.t).1.kind = 9) :
    mkB p l i s = (aheadB i s.a s.b true true && (saidP (l.take i) s.a == (atP p s.t).1.a && ((atP p (saidP (l.take i) s.b)).1.kind == 6 && (atP p (saidP (l.take i) s.b)).1.frm == holdN (atP p s.t).1))) := by
  have hkr := kid_realP (err_at hp hin)
  have ha := in_neP (hkr.1 (by rcases hk with h | h | h <;> rw [h] <;> decide))
  have e := show_part (p := p) hk
  rw [← key_iff hp]
  unfold mkB aheadB
  rw [e]
  simp only [if_true]
  cases h1 : decide (0 ≤ s.a) && decide (s.a < (i : Int)) with
  | false => rw [out_ne hi ha h1]; simp
  | true =>
    by_cases h0 : keyP p (atP p s.t).1 = 0
    · rw [h0]; simp
    · have hz : ((keyP p (atP p s.t).1 : Nat) : Int) ≠ 0 := by omega
      cases h2 : decide (0 ≤ s.b) && decide (s.b < (i : Int)) with
      | false => rw [out_ne hi hz h2, if_neg hz]; simp
      | true => rw [if_neg hz]; simp [h0]
theorem mkx (hk : (atP p s.t).1.kind ≠ 4 ∧ (atP p s.t).1.kind ≠ 5 ∧ (atP p s.t).1.kind ≠ 7 ∧ (atP p s.t).1.kind ≠ 8 ∧ (atP p s.t).1.kind ≠ 9) : mkB p l i s = false := by
  obtain ⟨h4, h5, h7, h8, h9⟩ := hk
  have e : partP p (atP p s.t).1 = (0, 0, false) := by unfold partP; rw [if_neg h4, if_neg h5, if_neg (by simp [showB, h7, h8, h9])]
  unfold mkB
  rw [e]; rfl
/-- What the steps ask, in the document's own words. -/
theorem fol0 {g : List Int} (hin : inP p s.t = true) (hr : s.r = 0) : followsP p g (l.take i) s = (aheadB i s.a s.b false false && decide (s.t ∈ g)) := by
  unfold followsP aheadB
  rw [hin, if_pos hr]
  cases decide (s.t ∈ g) <;> cases s.a == 0 <;> cases s.b == 0 <;> rfl
theorem fol4 {g : List Int} (hin : inP p s.t = true) (hr : s.r = 4) : followsP p g (l.take i) s = (aheadB i s.a s.b false false && freeB (atP p s.t).1.kind) := by
  unfold followsP aheadB
  rw [hin, if_neg (by omega), if_neg (by omega), if_pos hr]
  cases freeB (atP p s.t).1.kind <;> cases s.a == 0 <;> cases s.b == 0 <;> rfl
theorem fol5 {g : List Int} (hin : inP p s.t = true) (hr : s.r = 5) : followsP p g (l.take i) s = mkB p l i s := by
  unfold followsP mkB
  rw [hin, if_neg (by omega), if_neg (by omega), if_neg (by omega), if_pos hr]
  rfl
theorem folx {g : List Int} (hr : s.r ≠ 0 ∧ s.r ≠ 1 ∧ s.r ≠ 2 ∧ s.r ≠ 3 ∧ s.r ≠ 4 ∧ s.r ≠ 5) : followsP p g (l.take i) s = false := by
  obtain ⟨h0, h1, h2, h3, h4, h5⟩ := hr
  unfold followsP
  rw [if_neg h0, if_neg (by omega), if_neg h4, if_neg h5]
  simp
theorem take_zero (r : Int) : takeN r zeroM.1 = 0 := by unfold takeN; rw [if_neg (by decide), if_neg (by decide)]
theorem fol1 {g : List Int} (hin : inP p s.t = true) (hi : i ≤ l.length) (hr : s.r = 1 ∨ s.r = 2 ∨ s.r = 3) : followsP p g (l.take i) s = (aheadB i s.a s.b true false && takeN s.r (atP p (saidP (l.take i) s.a)).1 == s.t) := by
  have ht := in_neP hin
  unfold followsP aheadB
  rw [hin, if_neg (by omega), if_pos hr]
  simp only [Bool.true_and, if_true]
  cases h1 : decide (0 ≤ s.a) && decide (s.a < (i : Int)) with
  | false =>
    rw [said_out hi (by simpa using h1), atP_zero, take_zero]
    have : ((0 : Int) == s.t) = false := by simpa using fun e => ht e.symm
    simp [this]
  | true => cases s.b == 0 <;> simp
end
theorem take1 {n : Nd} {t : Int} (ht : t ≠ 0) : (takeN 1 n == t) = (n.kind == 4 && n.a == t) := by
  unfold takeN
  by_cases h4 : n.kind = 4
  · rw [if_pos h4, if_pos rfl, h4]; simp
  · rw [if_neg h4]
    have e : (n.kind == 4) = false := by simpa using h4
    have e0 : ((0 : Int) == t) = false := by simpa using fun e => ht e.symm
    split <;> simp [e, e0]
theorem take2 {n : Nd} {t : Int} (ht : t ≠ 0) : (takeN 2 n == t) = (n.kind == 4 && n.b == t) := by
  unfold takeN
  by_cases h4 : n.kind = 4
  · rw [if_pos h4, if_neg (by omega), if_pos rfl, h4]; simp
  · rw [if_neg h4]
    have e : (n.kind == 4) = false := by simpa using h4
    have e0 : ((0 : Int) == t) = false := by simpa using fun e => ht e.symm
    split <;> simp [e, e0]
theorem take3 {n : Nd} {t : Int} (ht : t ≠ 0) : (takeN 3 n == t) = (showB n.kind && n.a == t) := by
  unfold takeN
  have e0 : ((0 : Int) == t) = false := by simpa using fun e => ht e.symm
  by_cases h4 : n.kind = 4
  · rw [if_pos h4, if_neg (by omega), if_neg (by omega), h4]
    simp [showB, e0]
  · rw [if_neg h4]
    cases hs : showB n.kind with
    | true => simp
    | false => simp [e0]
end Go.Proofs.YtljbmgehgbcdfaaDoor
