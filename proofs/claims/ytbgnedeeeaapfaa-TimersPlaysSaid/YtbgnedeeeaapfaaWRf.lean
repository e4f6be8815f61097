/-
  What Find, Values, Set and After do with the document's wheel in memory.
-/
import Derived.Test.YtbgnedeeeaapfaaWRp
import Derived.Test.YtbgnedeeeaapfaaW0
import Derived.Test.YtbgnedeeeaapfaaW4S
namespace Go.Proofs.Ytbgnedeeeaapfaa
open Go.RowKit
set_option linter.unusedVariables false
/-- The place of an id; -1: there is none. -/
def idxP : List Tm → Int → Int
  | [], _ => -1
  | t :: ts, i => if t.id = i then 0 else if idxP ts i < 0 then -1 else idxP ts i + 1
theorem idxP_ge (ts : List Tm) (i : Int) : -1 ≤ idxP ts i := by
  induction ts with
  | nil => simp [idxP]
  | cons t ts ih =>
    rw [idxP]
    split
    · omega
    · split <;> omega
/-- What idxP says: nobody has the id, or the first who has it stands there. -/
theorem idxP_none {ts : List Tm} {i : Int} (h : fnd ts i = none) : idxP ts i = -1 := by
  induction ts with
  | nil => rfl
  | cons t ts ih =>
    have h1 : ¬ t.id = i := fnd_none h t (by simp)
    have h2 : fnd ts i = none := by simpa [fnd, h1] using h
    rw [idxP, if_neg h1, ih h2]; rfl
theorem idxP_some {ts : List Tm} {i : Int} {t : Tm} (h : fnd ts i = some t) : ∃ A C, ts = A ++ t :: C ∧ idxP ts i = (A.length : Int) ∧ ∀ a ∈ A, a.id ≠ i := by
  induction ts with
  | nil => simp [fnd] at h
  | cons s ts ih =>
    by_cases h1 : s.id = i
    · have : s = t := by simpa [fnd, h1] using h
      subst this
      exact ⟨[], ts, rfl, by rw [idxP, if_pos h1]; rfl, fun a ha => by cases ha⟩
    · have h2 : fnd ts i = some t := by simpa [fnd, h1] using h
      obtain ⟨A, C, e1, e2, e3⟩ := ih h2
      refine ⟨s :: A, C, by rw [e1]; rfl, by rw [idxP, if_neg h1, e2, if_neg (by omega)]; simp, fun a ha => ?_⟩
      rcases List.mem_cons.1 ha with rfl | ha
      · exact h1
      · exact e3 a ha
theorem idxP_app {A C : List Tm} {i : Int} (h : ∀ a ∈ A, a.id ≠ i) : idxP (A ++ C) i = if idxP C i < 0 then -1 else idxP C i + (A.length : Int) := by
  induction A with
  | nil =>
    have := idxP_ge C i
    simp only [List.nil_append, List.length_nil]
    split <;> omega
  | cons a A ih =>
    have := idxP_ge C i
    rw [List.cons_append, idxP, if_neg (h a (by simp)), ih fun b hb => h b (by simp [hb])]
    simp only [List.length_cons]
    split
    · rfl
    · rw [if_neg (by omega)]; push_cast; omega
set_option maxRecDepth 100000 in
set_option maxHeartbeats 1600000 in
theorem rfind_any {w : World} {B r : Nat} {sl : Value} {x : Wh} (h : IsR w B r sl x) (i : Int) (hl : x.ts.length ≤ 5000) :
    Calls Try.prog 52 #[.pointer (some ⟨r, 0, none⟩), .int .i64 i] w fun e w' => e = .returned (.int .i64 (idxP x.ts i)) ∧ w = w' := by
  have x2 := cellB (j := 2) h.lay rfl
  have HR := Lib.hid h.row
  have HL := Lib.hid hl
  obtain ⟨sa, sc, rfl⟩ := (row_of_own h.row).shape
  clear h hl
  go_enter Try.func52, Try.ntmps52
  go_wp2_with fail
  go_loopw [5] (fun v wr => ∃ A C : List Tm, v = .int .i64 (A.length : Int) ∧ x.ts = A ++ C ∧ (∀ a ∈ A, a.id ≠ i) ∧ wr = w) (fun v _ => 5001 - (intOf v).toNat)
  case atStart => exact ⟨[], x.ts, rfl, rfl, (fun a ha => by cases ha), rfl⟩
  case round =>
    obtain ⟨A, C, rfl, hsp, hA, rfl⟩ := hrel
    have HSP := Lib.hid hsp
    have HA := Lib.hid hA
    have hlen : x.ts.length = A.length + C.length := by rw [hsp, List.length_append]
    cases C with
    | nil =>
      have HE : Hid (idxP x.ts i = -1) := Lib.hid (by rw [hsp, idxP_app hA]; rfl)
      have hlt : decide ((A.length : Int) < (x.ts.length : Int)) = false := by simp at hlen ⊢; omega
      have hlt2 : decide (A.length < x.ts.length) = false := by simp at hlen ⊢; omega
      have hlt3 : ¬ A.length < x.ts.length := by simp at hlen ⊢; omega
      clear hsp hA hlen
      go_wp2_with fail
      go_returns
      exact ⟨(by rw [HE.out]; rfl), rfl⟩
    | cons t C =>
      obtain ⟨gg, gc, hg⟩ := own_slice HR.out (by simp at hlen; omega)
      cases hg
      have hla := (laid_of_own HR.out).1
      obtain ⟨t0, _, _⟩ := hla.at3 (k := A.length) (t := t) (by rw [hsp, List.getElem?_append_right (Nat.le_refl _)]; simp)
      have hlt : decide ((A.length : Int) < (x.ts.length : Int)) = true := by simp at hlen ⊢; omega
      have hk0 : (0 : Int) ≤ (A.length : Int) := by omega
      have hk1 : (A.length : Int) < (x.ts.length : Int) := by simp at hlen ⊢; omega
      have hwk : IntKind.i64.wrap ((A.length : Int) + 1) = (A.length : Int) + 1 := IntWalk.i64_in _ (by have := HL.out; omega)
      have HLEN := Lib.hid hlen
      by_cases he : t.id = i
      · have HE : Hid (idxP x.ts i = (A.length : Int)) := Lib.hid (by rw [hsp, idxP_app hA, idxP, if_pos he, if_neg (by omega)]; omega)
        subst he
        clear hsp hA hla hlen
        go_wp2_with fail
        go_returns
        exact ⟨(by rw [HE.out]; rfl), rfl⟩
      · have hne : (t.id == i) = false := by simpa using he
        have HNE := Lib.hid he
        clear hsp hA hla hlen
        go_wp2_with fail
        go_roundw
        case rel => exact ⟨A ++ [t], C, by simp, by rw [HSP.out]; simp, fun a ha => (by
          rcases List.mem_append.1 ha with ha | ha
          · exact HA.out a ha
          · rw [List.mem_singleton.1 ha]; exact HNE.out), by first | rfl | trivial⟩
        case measure => have := HLEN.out; have := HL.out; simp [intOf] at *; omega
/-- The values of a row of timers. -/
def valsL (l : List Tm) : List Value := l.map (·.v)
set_option maxRecDepth 100000 in
set_option maxHeartbeats 1600000 in
theorem rvalues_any {w : World} {B : Nat} {sl : Value} {l : List Tm} (h : w.ownsRow B RtT 3 sl l.length (tmsC l)) (hv : ∀ t ∈ l, ∃ s : ByteArray, t.v = .string s) (hl : l.length ≤ 5000) :
    Calls Try.prog 49 #[sl] w fun e w' => ∃ u, e = .returned u ∧ w'.ownsRow w.heap.size ElTS 1 u l.length (valsL l) ∧ Below w.heap.size w w' := by
  have HR := Lib.hid h
  have HV := Lib.hid hv
  have HL := Lib.hid hl
  obtain ⟨sa, sc, rfl⟩ := (row_of_own h).shape
  clear h hl hv
  go_enter Try.func49, Try.ntmps49
  go_wp2_with fail
  go_loopw [4, 3] (fun v u wr => ∃ A C : List Tm, v = .int .i64 (A.length : Int) ∧ l = A ++ C ∧ wr.ownsRow w.heap.size ElTS 1 u A.length (valsL A) ∧ Below w.heap.size w wr) (fun v _ _ => 5001 - (intOf v).toNat)
  case atStart => exact ⟨[], l, rfl, rfl, World.ownsRow_nil _ _ _ 1, Below.refl _ _⟩
  case round =>
    obtain ⟨A, C, rfl, hsp, ho, hb⟩ := hrel
    have HSP := Lib.hid hsp
    have HO := Lib.hid ho
    have HB := Lib.hid hb
    have hlen : l.length = A.length + C.length := by rw [hsp, List.length_append]
    cases C with
    | nil =>
      have HE : Hid (l = A) := Lib.hid (by rw [hsp]; simp)
      have hlt : decide ((A.length : Int) < (l.length : Int)) = false := by simp at hlen ⊢; omega
      have hlt2 : decide (A.length < l.length) = false := by simp at hlen ⊢; omega
      have hlt3 : ¬ A.length < l.length := by simp at hlen ⊢; omega
      clear hsp hlen ho hb
      go_wp2_with fail
      go_returns
      exact ⟨_, rfl, by rw [HE.out]; exact HO.out, HB.out⟩
    | cons t C =>
      obtain ⟨gg, gc, hg⟩ := own_slice HR.out (by simp at hlen; omega)
      cases hg
      have hla := (laid_of_own HR.out).1
      obtain ⟨_, _, t2⟩ := hla.at3 (k := A.length) (t := t) (by rw [hsp, List.getElem?_append_right (Nat.le_refl _)]; simp)
      obtain ⟨s, hs⟩ := HV.out t (by rw [hsp]; simp)
      rw [hs] at t2
      have t2 := bcellAt HB.out t2
      have hlt : decide ((A.length : Int) < (l.length : Int)) = true := by simp at hlen ⊢; omega
      have hk0 : (0 : Int) ≤ (A.length : Int) := by omega
      have hk1 : (A.length : Int) < (l.length : Int) := by simp at hlen ⊢; omega
      have hwk : IntKind.i64.wrap ((A.length : Int) + 1) = (A.length : Int) + 1 := IntWalk.i64_in _ (by have := HL.out; omega)
      have HLEN := Lib.hid hlen
      have HS := Lib.hid hs
      have b5 : Below wr.heap.size wr (wr.alloc (.cells #[.string s] 9)) := (Below.refl _ _).alloc (Nat.le_refl _) _
      have q5 := cellB (j := 0) (heap_alloc_new wr (.cells #[.string s] 9)) rfl
      have O5 := Lib.hid (own_hold ho (Hold.below b5))
      have B5 := Lib.hid (hb.trans (b5.mono hb.size))
      have S5 := Lib.hid B5.out.size
      have HLC := Lib.hid (show (valsL A).length ≤ 1000000 by have := HL.out; rw [valsL, List.length_map]; omega)
      have HVL := Lib.hid (show (valsL A).length = A.length by simp [valsL])
      clear hsp hla hlen hs ho hb b5
      go_wp2_with (at_builtin; refine wpList_appS rfl _ _ rfl w.heap.size _ (valsL A) rfl (by rw [HVL.out]; exact O5.out) _ s rfl q5 HLC.out S5.out ?_)
      intro v6 w6 o6 g6 at6
      have B6 := Lib.hid (B5.out.grown g6 B5.out.size (fun k e => (own_from O5.out e).1))
      have O6 := Lib.hid o6
      clear o6 g6 at6 q5 t2
      go_wp2_with fail
      go_roundw
      case rel => exact ⟨A ++ [t], C, by simp, by rw [HSP.out]; simp, by
        have h := O6.out
        have e : valsL (A ++ [t]) = valsL A ++ [.string s] := by simp [valsL, HS.out]
        rw [e, List.length_append, List.length_singleton]
        simpa [HVL.out] using h, B6.out⟩
      case measure => have := HLEN.out; have := HL.out; simp [intOf] at *; omega
end Go.Proofs.Ytbgnedeeeaapfaa
