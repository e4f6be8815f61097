/-
  Plain: so many were set, and all are there.
-/
import Derived.Test.YtbgnedeeeaapfaaWOps
import Derived.Test.YtbgnedeeeaapfaaW0
namespace Go.Proofs.Ytbgnedeeeaapfaa
open Go.RowKit Go.Maps
set_option linter.unusedVariables false
/-- What was set of a list of ticks: each that is above 0, with its tick as value. -/
structure SetsV (x : Wh) (c : Nat) (l : List Int) : Prop where
  now : x.now = 0
  ids : x.ids = c
  pls : x.pls = c
  len : x.ts.length = c
  val : ∀ t ∈ x.ts, t.v = .int .i64 t.tk ∧ 0 < t.tk
  cnt : ∀ b : Int, (dueL x.ts b).length = (l.filter fun t => decide (0 < t ∧ t ≤ b)).length
theorem SetsV.new : SetsV ⟨0, 0, 0, []⟩ 0 [] := ⟨rfl, rfl, rfl, rfl, (fun t ht => by cases ht), fun b => rfl⟩
theorem SetsV.past {x : Wh} {c : Nat} {l : List Int} (h : SetsV x c l) {t : Int} (ht : t ≤ 0) (v : Value) : setP x t v = (x, 0, 140) ∧ SetsV x c (l ++ [t]) := by
  refine ⟨setP_past (by rw [h.now]; exact ht), h.now, h.ids, h.pls, h.len, h.val, fun b => ?_⟩
  rw [h.cnt, List.filter_append, List.filter_cons, if_neg (by simp; omega)]
  simp
theorem SetsV.set {x : Wh} {c : Nat} {l : List Int} (h : SetsV x c l) (hg : Good x) (hc : c < 4096) {t : Int} (ht : 0 < t) : ∃ x', setP x t (.int .i64 t) = (x', (c : Int), 0) ∧ SetsV x' (c + 1) (l ++ [t]) := by
  have h1 : ¬ t ≤ x.now := by rw [h.now]; omega
  have h2 : ¬ 4096 ≤ x.ts.length := by rw [h.len]; omega
  rw [setP_ok h1 h2, h.ids]
  refine ⟨_, rfl, h.now, by simp only [layP]; push_cast; rfl, by simp only [layP, h.pls]; push_cast; rfl, by simp only [layP, ins_len, h.len], fun u hu => ?_, fun b => ?_⟩
  · rcases mem_ins.1 hu with rfl | hu
    · exact ⟨rfl, ht⟩
    · exact h.val u hu
  · have e : (dueL (layP { x with ids := (c : Int) + 1 } c t (.int .i64 t)).ts b).length = (dueL (⟨(c : Int), t, x.pls, .int .i64 t⟩ :: x.ts) b).length := by
      unfold dueL
      exact ((ins_perm x.ts _).filter _).length_eq
    rw [e, List.filter_append, List.length_append, ← h.cnt]
    unfold dueL
    rw [List.filter_cons, List.filter_cons]
    by_cases hb : t ≤ b
    · rw [if_pos (by simpa using hb), if_pos (by simp; omega)]; simp
    · rw [if_neg (by simpa using hb), if_neg (by simp; omega)]; simp
theorem SetsV.zero {x : Wh} {c : Nat} {l : List Int} (h : SetsV x c l) : dueL x.ts 0 = [] ∧ restL x.ts 0 = x.ts :=
  ⟨filter_none fun t ht => by have := (h.val t ht).2; simp; omega, filter_all fun t ht => by have := (h.val t ht).2; simpa using this⟩
theorem restL_rest (ts : List Tm) {a b : Int} (h : a ≤ b) : restL (restL ts a) b = restL ts b := by
  unfold restL
  rw [List.filter_filter]
  exact List.filter_congr fun t _ => by by_cases hb : b < t.tk <;> simp [hb]; omega
theorem due_more {ts : List Tm} (ho : ts.Pairwise lt2) {a b : Int} (h : a ≤ b) : dueL ts b = dueL ts a ++ dueL (restL ts a) b := by
  induction ts with
  | nil => rfl
  | cons t ts ih =>
    have hle := ord_le ho
    rw [List.pairwise_cons] at ho
    have ih := ih ho.2
    unfold dueL restL at *
    by_cases h1 : t.tk ≤ a
    · rw [List.filter_cons_of_pos (by simp; omega), List.filter_cons_of_pos (by simp; omega), List.filter_cons_of_neg (by simp; omega), ih]; rfl
    · have hn : ts.filter (fun t => decide (t.tk ≤ a)) = [] := filter_none fun u hu => by have := hle u (by simp [hu]); simp; omega
      have hr : ts.filter (fun t => decide (a < t.tk)) = ts := filter_all fun u hu => by have := hle u (by simp [hu]); simp; omega
      rw [List.filter_cons_of_neg (p := fun t : Tm => decide (t.tk ≤ a)) (by simp; omega), List.filter_cons_of_pos (p := fun t : Tm => decide (a < t.tk)) (by simp; omega), hn, hr]
      rfl
/-- The ticks of what falls due. -/
def tksL (ts : List Tm) (b : Int) : List Int := (dueL ts b).map (·.tk)
theorem tksL_len (ts : List Tm) (b : Int) : (tksL ts b).length = (dueL ts b).length := by simp [tksL]
theorem tksL_le (ts : List Tm) (b : Int) : ∀ t ∈ tksL ts b, t ≤ b := by
  intro t ht
  obtain ⟨u, hu, rfl⟩ := List.mem_map.1 ht
  simpa using (List.mem_filter.1 hu).2
theorem tksL_ord {ts : List Tm} (ho : ts.Pairwise lt2) (b : Int) : (tksL ts b).Pairwise (· ≤ ·) := by
  unfold tksL dueL
  refine List.pairwise_map.2 ((ho.filter _).imp fun {a c} h => ?_)
  unfold lt2 at h; omega
theorem tksL_vals {ts : List Tm} (hv : ∀ t ∈ ts, t.v = .int .i64 t.tk) (b : Int) : (dueL ts b).map (·.v) = (tksL ts b).map (Value.int .i64) := by
  unfold tksL
  rw [List.map_map]
  exact List.map_congr_left fun t ht => hv t (List.mem_filter.1 ht).1
theorem due_rest_len (ts : List Tm) (b : Int) : (restL ts b).length = ts.length - (dueL ts b).length ∧ (dueL ts b).length ≤ ts.length := by
  unfold restL dueL
  induction ts with
  | nil => exact ⟨rfl, Nat.le_refl _⟩
  | cons t ts ih =>
    by_cases h : t.tk ≤ b
    · rw [List.filter_cons_of_neg (by simp; omega), List.filter_cons_of_pos (by simp; omega)]
      simp only [List.length_cons]; omega
    · rw [List.filter_cons_of_pos (by simp; omega), List.filter_cons_of_neg (by simp; omega)]
      simp only [List.length_cons]; omega
end Go.Proofs.Ytbgnedeeeaapfaa
