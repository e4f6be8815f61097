/-
  A heap in memory: what is less; which of two things is ahead.
-/
import Derived.Test.YtmbaedldikobcaaKHeapP
import Derived.Test.YtmbaedldikobcaaKChain
import Derived.Test.YtmbaedldikobcaaKRow
import Derived.Maps.AppendAt
import Derived.Laws.Tables
import Derived.StillTailTactics
import Derived.RangeFuncNested
import Derived.Deep.RegionHeld3
import Derived.Deep.DeepCutAuto
namespace Go.Proofs.Ytmbaedldikobcaa
open Go.RowKit
set_option linter.unusedVariables false

abbrev HeT : TypeId := 147
abbrev PuT : TypeId := 149
abbrev ThT : TypeId := 88
/-- A thing, as the program has it. -/
abbrev thV (k n : Int) : Value := .agg #[.int .i64 k, .int .i64 n]
/-- What the heap was made with says which number is less. -/
structure Less (f : Int → Int) (fl : Nat) : Prop where
  run : ∀ (W : World) (a b c d : Int), -9223372036854775808 ≤ a → a ≤ 9223372036854775807 → -9223372036854775808 ≤ c → c ≤ 9223372036854775807 → Calls Try.prog fl #[thV a b, thV c d] W fun e w' => e = .returned (.bool (decide (f a < f c))) ∧ Below W.heap.size W w'
  enter : ∀ args W, (callFunc fl args).run Try.prog W = .ok (.enter fl args) W
set_option maxHeartbeats 800000 in
theorem less_up : Less id 52 := by
  refine ⟨?_, enters_of Try.func52 (by kernel_rfl) rfl⟩
  intro W a b c d _ _ _ _
  go_enter Try.func52, Try.ntmps52
  go_wp2_with fail
  go_returns
  exact ⟨by simp, ((Below.refl _ _).alloc (Nat.le_refl _) _).alloc (by simp) _⟩
set_option maxHeartbeats 800000 in
theorem less_down : Less (fun x => -x) 58 := by
  refine ⟨?_, enters_of Try.func58 (by kernel_rfl) rfl⟩
  intro W a b c d _ _ _ _
  go_enter Try.func58, Try.ntmps58
  go_wp2_with fail
  go_returns
  exact ⟨by simp, ((Below.refl _ _).alloc (Nat.le_refl _) _).alloc (by simp) _⟩

section
variable {f : Int → Int} {xk xn xt yk yn yt : Int}
theorem ahd_low (h : f xk < f yk) : decide (Ahd f ⟨xk, xn, xt⟩ ⟨yk, yn, yt⟩) = true := decide_eq_true (.inl h)
theorem ahd_may (h : f yk ≤ f xk) (h' : xt < yt) : decide (Ahd f ⟨xk, xn, xt⟩ ⟨yk, yn, yt⟩) = !decide (f yk < f xk) := by
  by_cases e : f yk < f xk
  · rw [decide_eq_true e, decide_eq_false (fun a => by unfold Ahd at a; simp only at a; omega)]; rfl
  · rw [decide_eq_false e, decide_eq_true (show Ahd f _ _ from .inr ⟨by simp only; omega, h'⟩)]; rfl
theorem ahd_not (h : f yk ≤ f xk) (h' : yt ≤ xt) : decide (Ahd f ⟨xk, xn, xt⟩ ⟨yk, yn, yt⟩) = false := decide_eq_false (fun a => by unfold Ahd at a; simp only at a; omega)
end
/-- In block g, at place i, lies x. -/
def At3 (w : World) (g i : Nat) (x : Hp) : Prop := w.cell? ⟨g, i * 3, none⟩ = some (.int .i64 x.key) ∧ w.cell? ⟨g, i * 3 + 1, none⟩ = some (.int .i64 x.num) ∧ w.cell? ⟨g, i * 3 + 2, none⟩ = some (.int .i64 x.turn)
theorem At3.below {w w' : World} {g i : Nat} {x : Hp} (h : At3 w g i x) (hb : Below w.heap.size w w') : At3 w' g i x := ⟨bcellAt hb h.1, bcellAt hb h.2.1, bcellAt hb h.2.2⟩
/-- A number that an int holds. -/
abbrev InI (x : Int) : Prop := -9223372036854775808 ≤ x ∧ x ≤ 9223372036854775807

set_option maxRecDepth 100000 in
set_option maxHeartbeats 4000000 in
theorem ahead_any {f : Int → Int} {fl : Nat} (hF : Less f fl) {w : World} {hb g n cap : Nat} {t : Int} (h0 : w.heap[hb]? = some (Obj.cells #[.func (.func fl) #[] #[], .slice (some ⟨g, 0, none⟩) n cap, .int .i64 t] HeT))
    {i j : Nat} (hi : i < n) (hj : j < n) {x y : Hp} (hx : At3 w g i x) (hy : At3 w g j y) (ix : InI x.key) (iy : InI y.key) :
    Calls Try.prog 141 #[.pointer (some ⟨hb, 0, none⟩), .int .i64 (i : Int), .int .i64 (j : Int)] w fun e w' => e = .returned (.bool (decide (Ahd f x y))) ∧ Below w.heap.size w w' := by
  have HF := Lib.hid hF
  have eg := hF.enter
  clear hF
  obtain ⟨xk, xn, xt⟩ := x
  obtain ⟨yk, yn, yt⟩ := y
  obtain ⟨x0, x1, x2⟩ := hx
  obtain ⟨y0, y1, y2⟩ := hy
  have z0 := cellB (j := 0) h0 rfl
  have z1 := cellB (j := 1) h0 rfl
  simp only at x0 x1 x2 y0 y1 y2
  have IX := Lib.hid ix
  have IY := Lib.hid iy
  clear ix iy
  have i0 : (0 : Int) ≤ (i : Int) := by omega
  have i1 : (i : Int) < (n : Int) := by omega
  have j0 : (0 : Int) ≤ (j : Int) := by omega
  have j1 : (j : Int) < (n : Int) := by omega
  have H0 := Lib.hid h0
  clear h0 hi hj
  go_enter Try.func141, Try.ntmps141
  go_wp2_with fail
  go_cut [7, 8] (fun v7 v8 W => ∃ b7 b8, v7 = .pointer (some ⟨b7, 0, none⟩) ∧ v8 = .pointer (some ⟨b8, 0, none⟩) ∧ W.heap[b7]? = some (Obj.cells #[.int .i64 xk, .int .i64 xn, .int .i64 xt] PuT) ∧ W.heap[b8]? = some (Obj.cells #[.int .i64 yk, .int .i64 yn, .int .i64 yt] PuT) ∧ Below w.heap.size w W)
  case first =>
    refine lex_start [0, 1, 2, 3, 4, 5, 6, 7, 8, 9, 10, 11, 12, 13, 14, 15, 16, 17] (S := fun W => W.cell? ⟨hb, 1, none⟩ = some (.slice (some ⟨g, 0, none⟩) n cap) ∧ W.cell? ⟨g, i * 3, none⟩ = some (.int .i64 xk) ∧ W.cell? ⟨g, i * 3 + 1, none⟩ = some (.int .i64 xn) ∧ W.cell? ⟨g, i * 3 + 2, none⟩ = some (.int .i64 xt) ∧ W.cell? ⟨g, j * 3, none⟩ = some (.int .i64 yk) ∧ W.cell? ⟨g, j * 3 + 1, none⟩ = some (.int .i64 yn) ∧ W.cell? ⟨g, j * 3 + 2, none⟩ = some (.int .i64 yt)) (by kernel_rfl) ⟨bcellAt (bd _) z1, bcellAt (bd _) x0, bcellAt (bd _) x1, bcellAt (bd _) x2, bcellAt (bd _) y0, bcellAt (bd _) y1, bcellAt (bd _) y2⟩ (fun hS => ?_)
    simp only [inOrder, List.filterMap, List.getElem?_cons_succ, List.getElem?_cons_zero]
    refine lex_take (i := 0) (v := ?_) rfl (by kernel_rfl) (by kernel_rfl) (by kernel_rfl) (by rfl) hS ?_ ?_
    rotate_left
    · ((intro W hW; obtain ⟨k0, k1, k2, k3, k4, k5, k6⟩ := hW; go_simp) <;> with_reducible rfl)
    simp only [Act.put, List.setIfInBounds_toArray, List.set_cons_zero, List.set_cons_succ]
    refine lex_take (i := 1) (v := ?_) rfl (by kernel_rfl) (by kernel_rfl) (by kernel_rfl) (by rfl) hS ?_ ?_
    rotate_left
    · ((intro W hW; obtain ⟨k0, k1, k2, k3, k4, k5, k6⟩ := hW; go_simp) <;> with_reducible rfl)
    simp only [Act.put, List.setIfInBounds_toArray, List.set_cons_zero, List.set_cons_succ]
    refine lex_take (i := 2) (v := ?_) rfl (by kernel_rfl) (by kernel_rfl) (by kernel_rfl) (by rfl) hS ?_ ?_
    rotate_left
    · ((intro W hW; obtain ⟨k0, k1, k2, k3, k4, k5, k6⟩ := hW; go_simp) <;> with_reducible rfl)
    simp only [Act.put, List.setIfInBounds_toArray, List.set_cons_zero, List.set_cons_succ]
    refine lex_take (i := 3) (v := ?_) rfl (by kernel_rfl) (by kernel_rfl) (by kernel_rfl) (by rfl) hS ?_ ?_
    rotate_left
    · ((intro W hW; obtain ⟨k0, k1, k2, k3, k4, k5, k6⟩ := hW; go_simp) <;> with_reducible rfl)
    simp only [Act.put, List.setIfInBounds_toArray, List.set_cons_zero, List.set_cons_succ]
    refine lex_take (i := 4) (v := ?_) rfl (by kernel_rfl) (by kernel_rfl) (by kernel_rfl) (by rfl) hS ?_ ?_
    rotate_left
    · ((intro W hW; obtain ⟨k0, k1, k2, k3, k4, k5, k6⟩ := hW; go_simp) <;> with_reducible rfl)
    simp only [Act.put, List.setIfInBounds_toArray, List.set_cons_zero, List.set_cons_succ]
    refine lex_take (i := 5) (v := ?_) rfl (by kernel_rfl) (by kernel_rfl) (by kernel_rfl) (by rfl) hS ?_ ?_
    rotate_left
    · ((intro W hW; obtain ⟨k0, k1, k2, k3, k4, k5, k6⟩ := hW; go_simp) <;> with_reducible rfl)
    simp only [Act.put, List.setIfInBounds_toArray, List.set_cons_zero, List.set_cons_succ]
    refine lex_take (i := 6) (v := ?_) rfl (by kernel_rfl) (by kernel_rfl) (by kernel_rfl) (by rfl) hS ?_ ?_
    rotate_left
    · ((intro W hW; obtain ⟨k0, k1, k2, k3, k4, k5, k6⟩ := hW; go_simp) <;> with_reducible rfl)
    simp only [Act.put, List.setIfInBounds_toArray, List.set_cons_zero, List.set_cons_succ]
    refine lex_take (i := 7) (v := ?_) rfl (by kernel_rfl) (by kernel_rfl) (by kernel_rfl) (by rfl) hS ?_ ?_
    rotate_left
    · ((intro W hW; obtain ⟨k0, k1, k2, k3, k4, k5, k6⟩ := hW; go_simp) <;> with_reducible rfl)
    simp only [Act.put, List.setIfInBounds_toArray, List.set_cons_zero, List.set_cons_succ]
    refine lex_take (i := 8) (v := ?_) rfl (by kernel_rfl) (by kernel_rfl) (by kernel_rfl) (by rfl) hS ?_ ?_
    rotate_left
    · ((intro W hW; obtain ⟨k0, k1, k2, k3, k4, k5, k6⟩ := hW; go_simp) <;> with_reducible rfl)
    simp only [Act.put, List.setIfInBounds_toArray, List.set_cons_zero, List.set_cons_succ]
    refine lex_take (i := 9) (v := ?_) rfl (by kernel_rfl) (by kernel_rfl) (by kernel_rfl) (by rfl) hS ?_ ?_
    rotate_left
    · ((intro W hW; obtain ⟨k0, k1, k2, k3, k4, k5, k6⟩ := hW; go_simp) <;> with_reducible rfl)
    simp only [Act.put, List.setIfInBounds_toArray, List.set_cons_zero, List.set_cons_succ]
    refine lex_take (i := 10) (v := ?_) rfl (by kernel_rfl) (by kernel_rfl) (by kernel_rfl) (by rfl) hS ?_ ?_
    rotate_left
    · ((intro W hW; obtain ⟨k0, k1, k2, k3, k4, k5, k6⟩ := hW; go_simp) <;> with_reducible rfl)
    simp only [Act.put, List.setIfInBounds_toArray, List.set_cons_zero, List.set_cons_succ]
    refine lex_take (i := 11) (v := ?_) rfl (by kernel_rfl) (by kernel_rfl) (by kernel_rfl) (by rfl) hS ?_ ?_
    rotate_left
    · ((intro W hW; obtain ⟨k0, k1, k2, k3, k4, k5, k6⟩ := hW; go_simp) <;> with_reducible rfl)
    simp only [Act.put, List.setIfInBounds_toArray, List.set_cons_zero, List.set_cons_succ]
    refine lex_take (i := 12) (v := ?_) rfl (by kernel_rfl) (by kernel_rfl) (by kernel_rfl) (by rfl) hS ?_ ?_
    rotate_left
    · ((intro W hW; obtain ⟨k0, k1, k2, k3, k4, k5, k6⟩ := hW; go_simp) <;> with_reducible rfl)
    simp only [Act.put, List.setIfInBounds_toArray, List.set_cons_zero, List.set_cons_succ]
    refine lex_take (i := 13) (v := ?_) rfl (by kernel_rfl) (by kernel_rfl) (by kernel_rfl) (by rfl) hS ?_ ?_
    rotate_left
    · ((intro W hW; obtain ⟨k0, k1, k2, k3, k4, k5, k6⟩ := hW; go_simp) <;> with_reducible rfl)
    simp only [Act.put, List.setIfInBounds_toArray, List.set_cons_zero, List.set_cons_succ]
    have hVw : Below w.heap.size w w.drew := bd _
    generalize w.drew = V at *
    obtain ⟨s0, s1, s2, s3, s4, s5, s6⟩ := hS
    have HSS : Hid (∀ X, Below V.heap.size V X → X.cell? ⟨hb, 1, none⟩ = some (.slice (some ⟨g, 0, none⟩) n cap) ∧ X.cell? ⟨g, i * 3, none⟩ = some (.int .i64 xk) ∧ X.cell? ⟨g, i * 3 + 1, none⟩ = some (.int .i64 xn) ∧ X.cell? ⟨g, i * 3 + 2, none⟩ = some (.int .i64 xt) ∧ X.cell? ⟨g, j * 3, none⟩ = some (.int .i64 yk) ∧ X.cell? ⟨g, j * 3 + 1, none⟩ = some (.int .i64 yn) ∧ X.cell? ⟨g, j * 3 + 2, none⟩ = some (.int .i64 yt)) := Lib.hid fun X hb => ⟨bcellAt hb s0, bcellAt hb s1, bcellAt hb s2, bcellAt hb s3, bcellAt hb s4, bcellAt hb s5, bcellAt hb s6⟩
    have HV := Lib.hid hVw
    clear hVw s0 s1 s2 s3 s4 s5 s6 x0 x1 x2 y0 y1 y2 z0 z1
    refine lex_two (i := 14) (j := 15) rfl rfl (by kernel_rfl) (by rfl) (by rfl) (fun K hK => ?_) (fun K hK => ?_)
    · go_simp
      refine hK _ _ ⟨HSS.out _ (((Below.refl _ _).alloc (Nat.le_refl _) _)), ?_⟩
      clear hK K
      refine lex_do (i := 15) rfl (by kernel_rfl) (by rfl) (fun K hK => ?_)
      go_simp
      refine hK _ _ ⟨HSS.out _ (((Below.refl _ _).alloc (Nat.le_refl _) _).alloc (by simp) _), ?_⟩
      clear hK K
      refine lex_do (i := 16) rfl (by kernel_rfl) (by rfl) (fun K hK => ?_)
      go_simp
      refine hK _ _ ⟨HSS.out _ (((Below.refl _ _).alloc (Nat.le_refl _) _).alloc (by simp) _), ?_⟩
      clear hK K
      refine lex_do (i := 17) rfl (by kernel_rfl) (by rfl) (fun K hK => ?_)
      go_simp
      refine hK _ _ ⟨HSS.out _ (((Below.refl _ _).alloc (Nat.le_refl _) _).alloc (by simp) _), ?_⟩
      clear hK K
      refine lex_done (by kernel_rfl) ?_
      go_wp2_with fail
      go_meet
      refine ⟨_, _, rfl, rfl, ?_, ?_, HV.out.trans ((((Below.refl V.heap.size V).alloc (Nat.le_refl _) _).alloc (by simp) _).mono HV.out.size)⟩
      · exact heap_alloc2_old _ _ _
      · exact heap_alloc2_new _ _ _
    · go_simp
      refine hK _ _ ⟨HSS.out _ (((Below.refl _ _).alloc (Nat.le_refl _) _)), ?_⟩
      clear hK K
      refine lex_do (i := 14) rfl (by kernel_rfl) (by rfl) (fun K hK => ?_)
      go_simp
      refine hK _ _ ⟨HSS.out _ (((Below.refl _ _).alloc (Nat.le_refl _) _).alloc (by simp) _), ?_⟩
      clear hK K
      refine lex_do (i := 16) rfl (by kernel_rfl) (by rfl) (fun K hK => ?_)
      go_simp
      refine hK _ _ ⟨HSS.out _ (((Below.refl _ _).alloc (Nat.le_refl _) _).alloc (by simp) _), ?_⟩
      clear hK K
      refine lex_do (i := 17) rfl (by kernel_rfl) (by rfl) (fun K hK => ?_)
      go_simp
      refine hK _ _ ⟨HSS.out _ (((Below.refl _ _).alloc (Nat.le_refl _) _).alloc (by simp) _), ?_⟩
      clear hK K
      refine lex_done (by kernel_rfl) ?_
      go_wp2_with fail
      go_meet
      refine ⟨_, _, rfl, rfl, ?_, ?_, HV.out.trans ((((Below.refl V.heap.size V).alloc (Nat.le_refl _) _).alloc (by simp) _).mono HV.out.size)⟩
      · exact heap_alloc2_new _ _ _
      · exact heap_alloc2_old _ _ _
  obtain ⟨b7, b8, rfl, rfl, h7, h8, hbw⟩ := hcut
  have HB := Lib.hid hbw
  have H7 := Lib.hid h7
  have H8 := Lib.hid h8
  have p0 := cellB (j := 0) h7 rfl
  have p1 := cellB (j := 1) h7 rfl
  have p2 := cellB (j := 2) h7 rfl
  have q0 := cellB (j := 0) h8 rfl
  have q1 := cellB (j := 1) h8 rfl
  have q2 := cellB (j := 2) h8 rfl
  have r0 := bcellAt hbw z0
  clear x0 x1 x2 y0 y1 y2 z0 z1 hbw h7 h8
  go_wp2_with fail
  go_still_tail 8, (by kernel_rfl)
  change wpList _ _ _ _ _ wc.drew
  go_wp2_with fail
  refine (HF.out.run _ _ _ _ _ IX.out.1 IX.out.2 IY.out.1 IY.out.2).mono ?_
  rintro e w2 ⟨rfl, u2⟩
  have HB2 := Lib.hid (bmore (bd wc) u2)
  replace p0 := bcellAt HB2.out p0
  replace p1 := bcellAt HB2.out p1
  replace p2 := bcellAt HB2.out p2
  replace q0 := bcellAt HB2.out q0
  replace q1 := bcellAt HB2.out q1
  replace q2 := bcellAt HB2.out q2
  replace r0 := bcellAt HB2.out r0
  clear u2
  by_cases hl : f xk < f yk
  · rw [decide_eq_true hl]
    have HL := Lib.hid hl
    clear hl
    go_wp2_with fail
    go_returns
    exact ⟨by rw [decide_eq_true (show Ahd f _ _ from .inl HL.out)]; rfl, HB.out.trans (HB2.out.mono HB.out.size)⟩
  · rw [decide_eq_false hl]
    have HL := Lib.hid hl
    clear hl
    have hk : ∀ w' : World, Below w2.heap.size w2 w' → w'.cell? ⟨b7, 0, none⟩ = some (.int .i64 xk) ∧ w'.cell? ⟨b7, 1, none⟩ = some (.int .i64 xn) ∧ w'.cell? ⟨b7, 2, none⟩ = some (.int .i64 xt) ∧ w'.cell? ⟨b8, 0, none⟩ = some (.int .i64 yk) ∧ w'.cell? ⟨b8, 1, none⟩ = some (.int .i64 yn) ∧ w'.cell? ⟨b8, 2, none⟩ = some (.int .i64 yt) ∧ w'.cell? ⟨hb, 0, none⟩ = some (.func (.func fl) #[] #[]) ∧ Below w2.heap.size w2 w' := fun w' hb => ⟨bcellAt hb p0, bcellAt hb p1, bcellAt hb p2, bcellAt hb q0, bcellAt hb q1, bcellAt hb q2, bcellAt hb r0, hb⟩
    have HK := Lib.hid hk
    clear hk p0 p1 p2 q0 q1 q2 r0
    go_wp2_with fail
    by_cases ht : xt < yt
    · have ht2 : decide (xt < yt) = true := decide_eq_true ht
      have HT := Lib.hid ht
      clear ht
      go_region_held3 (fun w' => w'.cell? ⟨b7, 0, none⟩ = some (.int .i64 xk) ∧ w'.cell? ⟨b7, 1, none⟩ = some (.int .i64 xn) ∧ w'.cell? ⟨b7, 2, none⟩ = some (.int .i64 xt) ∧ w'.cell? ⟨b8, 0, none⟩ = some (.int .i64 yk) ∧ w'.cell? ⟨b8, 1, none⟩ = some (.int .i64 yn) ∧ w'.cell? ⟨b8, 2, none⟩ = some (.int .i64 yt) ∧ w'.cell? ⟨hb, 0, none⟩ = some (.func (.func fl) #[] #[]) ∧ Below w2.heap.size w2 w')
        ((refine HK.out _ ?_; first | exact bdd _ _ | exact bd _ | exact bdn _ _ | exact (bmore (by first | assumption | exact bdn _ _ | exact bd _ | exact Below.refl _ _) u3)))
        ((first
          | ((with_reducible refine (HF.out.run _ _ _ _ _ IY.out.1 IY.out.2 IX.out.1 IX.out.2).mono ?_); rintro e w3 ⟨rfl, u3⟩)))
      have HB3 := Lib.hid (HB2.out.trans ((bmore (bd w2) u3).mono HB2.out.size))
      clear u3
      go_wp2_with fail
      go_returns
      exact ⟨by rw [ahd_may HL.out HT.out]; rfl, HB.out.trans (HB3.out.mono HB.out.size)⟩
    · have ht2 : decide (xt < yt) = false := decide_eq_false ht
      have HT := Lib.hid ht
      clear ht
      refine lex_start [0, 1, 2, 3, 4, 5, 6, 7, 8, 9, 10, 11, 12, 13, 14, 15, 16, 17] (S := fun w' => w'.cell? ⟨b7, 0, none⟩ = some (.int .i64 xk) ∧ w'.cell? ⟨b7, 1, none⟩ = some (.int .i64 xn) ∧ w'.cell? ⟨b7, 2, none⟩ = some (.int .i64 xt) ∧ w'.cell? ⟨b8, 0, none⟩ = some (.int .i64 yk) ∧ w'.cell? ⟨b8, 1, none⟩ = some (.int .i64 yn) ∧ w'.cell? ⟨b8, 2, none⟩ = some (.int .i64 yt) ∧ w'.cell? ⟨hb, 0, none⟩ = some (.func (.func fl) #[] #[]) ∧ Below w2.heap.size w2 w') (by kernel_rfl) (HK.out _ (bd _)) (fun hS => ?_)
      simp only [inOrder, List.filterMap, List.getElem?_cons_succ, List.getElem?_cons_zero]
      refine lex_take (i := 0) (v := ?_) rfl (by kernel_rfl) (by kernel_rfl) (by kernel_rfl) (by rfl) hS ?_ ?_
      rotate_left
      · ((intro W hW; obtain ⟨k0, k1, k2, k3, k4, k5, k6, k7⟩ := hW; go_simp) <;> with_reducible rfl)
      simp only [Act.put, List.setIfInBounds_toArray, List.set_cons_zero, List.set_cons_succ]
      refine lex_take (i := 1) (v := ?_) rfl (by kernel_rfl) (by kernel_rfl) (by kernel_rfl) (by rfl) hS ?_ ?_
      rotate_left
      · ((intro W hW; obtain ⟨k0, k1, k2, k3, k4, k5, k6, k7⟩ := hW; go_simp) <;> with_reducible rfl)
      simp only [Act.put, List.setIfInBounds_toArray, List.set_cons_zero, List.set_cons_succ]
      refine lex_take (i := 2) (v := ?_) rfl (by kernel_rfl) (by kernel_rfl) (by kernel_rfl) (by rfl) hS ?_ ?_
      rotate_left
      · ((intro W hW; obtain ⟨k0, k1, k2, k3, k4, k5, k6, k7⟩ := hW; go_simp) <;> with_reducible rfl)
      simp only [Act.put, List.setIfInBounds_toArray, List.set_cons_zero, List.set_cons_succ]
      refine lex_take (i := 3) (v := ?_) rfl (by kernel_rfl) (by kernel_rfl) (by kernel_rfl) (by rfl) hS ?_ ?_
      rotate_left
      · ((intro W hW; obtain ⟨k0, k1, k2, k3, k4, k5, k6, k7⟩ := hW; go_simp) <;> with_reducible rfl)
      simp only [Act.put, List.setIfInBounds_toArray, List.set_cons_zero, List.set_cons_succ]
      refine lex_take (i := 4) (v := ?_) rfl (by kernel_rfl) (by kernel_rfl) (by kernel_rfl) (by rfl) hS ?_ ?_
      rotate_left
      · ((intro W hW; obtain ⟨k0, k1, k2, k3, k4, k5, k6, k7⟩ := hW; go_simp) <;> with_reducible rfl)
      simp only [Act.put, List.setIfInBounds_toArray, List.set_cons_zero, List.set_cons_succ]
      refine lex_take (i := 5) (v := ?_) rfl (by kernel_rfl) (by kernel_rfl) (by kernel_rfl) (by rfl) hS ?_ ?_
      rotate_left
      · ((intro W hW; obtain ⟨k0, k1, k2, k3, k4, k5, k6, k7⟩ := hW; go_simp) <;> with_reducible rfl)
      simp only [Act.put, List.setIfInBounds_toArray, List.set_cons_zero, List.set_cons_succ]
      refine lex_skip (i := 6) rfl (by kernel_rfl) (by kernel_rfl) (by kernel_rfl) (by rfl) hS ?_
      simp only [Act.put, List.setIfInBounds_toArray, List.set_cons_zero, List.set_cons_succ]
      refine lex_skip (i := 7) rfl (by kernel_rfl) (by kernel_rfl) (by kernel_rfl) (by rfl) hS ?_
      simp only [Act.put, List.setIfInBounds_toArray, List.set_cons_zero, List.set_cons_succ]
      refine lex_skip (i := 8) rfl (by kernel_rfl) (by kernel_rfl) (by kernel_rfl) (by rfl) hS ?_
      simp only [Act.put, List.setIfInBounds_toArray, List.set_cons_zero, List.set_cons_succ]
      refine lex_skip (i := 9) rfl (by kernel_rfl) (by kernel_rfl) (by kernel_rfl) (by rfl) hS ?_
      simp only [Act.put, List.setIfInBounds_toArray, List.set_cons_zero, List.set_cons_succ]
      refine lex_skip (i := 10) rfl (by kernel_rfl) (by kernel_rfl) (by kernel_rfl) (by rfl) hS ?_
      simp only [Act.put, List.setIfInBounds_toArray, List.set_cons_zero, List.set_cons_succ]
      refine lex_skip (i := 11) rfl (by kernel_rfl) (by kernel_rfl) (by kernel_rfl) (by rfl) hS ?_
      simp only [Act.put, List.setIfInBounds_toArray, List.set_cons_zero, List.set_cons_succ]
      refine lex_skip (i := 12) rfl (by kernel_rfl) (by kernel_rfl) (by kernel_rfl) (by rfl) hS ?_
      simp only [Act.put, List.setIfInBounds_toArray, List.set_cons_zero, List.set_cons_succ]
      refine lex_skip (i := 13) rfl (by kernel_rfl) (by kernel_rfl) (by kernel_rfl) (by rfl) hS ?_
      simp only [Act.put, List.setIfInBounds_toArray, List.set_cons_zero, List.set_cons_succ]
      refine lex_skip (i := 14) rfl (by kernel_rfl) (by kernel_rfl) (by kernel_rfl) (by rfl) hS ?_
      simp only [Act.put, List.setIfInBounds_toArray, List.set_cons_zero, List.set_cons_succ]
      refine lex_skip (i := 15) rfl (by kernel_rfl) (by kernel_rfl) (by kernel_rfl) (by rfl) hS ?_
      simp only [Act.put, List.setIfInBounds_toArray, List.set_cons_zero, List.set_cons_succ]
      refine lex_take (i := 16) (v := ?_) rfl (by kernel_rfl) (by kernel_rfl) (by kernel_rfl) (by rfl) hS ?_ ?_
      rotate_left
      · ((intro W hW; obtain ⟨k0, k1, k2, k3, k4, k5, k6, k7⟩ := hW; go_simp) <;> with_reducible rfl)
      simp only [Act.put, List.setIfInBounds_toArray, List.set_cons_zero, List.set_cons_succ]
      refine lex_take (i := 17) (v := ?_) rfl (by kernel_rfl) (by kernel_rfl) (by kernel_rfl) (by rfl) hS ?_ ?_
      rotate_left
      · ((intro W hW; obtain ⟨k0, k1, k2, k3, k4, k5, k6, k7⟩ := hW; go_simp) <;> with_reducible rfl)
      simp only [Act.put, List.setIfInBounds_toArray, List.set_cons_zero, List.set_cons_succ]
      refine lex_done (by kernel_rfl) ?_
      go_wp2_with fail
      go_returns
      exact ⟨by rw [ahd_not HL.out HT.out]; rfl, HB.out.trans ((HB2.out.trans ((bd w2).mono HB2.out.size)).mono HB.out.size)⟩
end Go.Proofs.Ytmbaedldikobcaa
