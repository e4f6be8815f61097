/-
  A statement that leaves its order open, with two stores at its end: the operations in an order that is named; F false holds up to the first store (p), F true behind it, up to the last (q).
-/
import Derived.Test.YtgnmieobgdbafaaKChain
namespace Go.Proofs.Ytgnmieobgdbafaa
open Go.RowKit
set_option linter.unusedVariables false
section
variable {P : Program} {ops : Array Oper} {Q : Exit → Act → World → Prop} {md : Region.Mode} {F : Bool → World → Prop} {Fi : World → Prop} {p q : Nat}
def wpAnyT (P : Program) (md : Region.Mode) (ops : Array Oper) (Q : Exit → Act → World → Prop) (F : Bool → World → Prop) (p q : Nat) : Nat → Array Bool → Act → World → Prop
  | 0, listed, a, w => Region.ready md ops listed = [] ∧ Q .normal a w
  | fuel + 1, listed, a, w =>
    (Region.ready md ops listed = [] → Q .normal a w) ∧
    ∀ i ∈ Region.ready md ops listed, wpOp P ops Q i (fun a' w' => (i ≠ q → F ((listed.setIfInBounds i true).getD p true) w') ∧ wpAnyT P md ops Q F p q fuel (listed.setIfInBounds i true) a' w') a w
theorem wpAny_of_t : ∀ (fuel : Nat) (listed : Array Bool) (a : Act) (w : World), wpAnyT P md ops Q F p q fuel listed a w → wpAny P md ops Q fuel listed a w
  | 0, _, _, _, h => h
  | fuel + 1, _, _, _, h => ⟨h.1, fun i hi => wpOp_mono (fun a' w' h' => wpAny_of_t fuel _ a' w' h'.2) (h.2 i hi)⟩
/-- What is waited for by o stands ahead of it. -/
def Waits (md : Region.Mode) (ops : Array Oper) (o i : Nat) : Prop := ∀ op, ops[o]? = some op → ∃ e ∈ op.after, Region.binds md e = true ∧ e.on = i
theorem waits_of {o i : Nat} (h : ((ops[o]?.map fun op => op.after.any fun e => Region.binds md e && e.on == i).getD true) = true) : Waits md ops o i := fun op hop => by
  rw [hop] at h
  simp only [Option.map_some, Option.getD_some, Array.any_eq_true'] at h
  obtain ⟨e, he, hb⟩ := h
  simp only [Bool.and_eq_true, beq_iff_eq] at hb
  exact ⟨e, he, hb.1, hb.2⟩
theorem wpAnyT_first {i : Nat} {oi : Oper} {v : Value} (hi : ops[i]? = some oi) (hsel : ∀ (j : Nat) (o : Oper) cs b, ops[j]? = some o → o.op ≠ .select cs b)
    (hQ : ∀ c a w, Q (.panic c) (a.put oi.dst v) w → Q (.panic c) a w) (hip : i ≠ p) (hiq : i ≠ q) (hwait : Waits md ops q i) :
    ∀ (fuel : Nat) (listed : Array Bool) (a : Act) (w : World),
      (∀ j oj, ops[j]? = some oj → j ≠ i → listed.getD j true = false → (∀ e ∈ oj.after, Region.binds md e = true → e.on ≠ i) → oi.apart ops oj = true) →
      i ∈ Region.ready md ops listed → ((∀ b W, F b W → Fi W) ∨ (listed.getD p true = false ∧ (∀ W, F false W → Fi W) ∧ Waits md ops p i)) → YieldsIf P ops Fi oi v a → F (listed.getD p true) w →
      wpAnyT P md ops Q F p q fuel (listed.setIfInBounds i true) (a.put oi.dst v) w → wpAnyT P md ops Q F p q (fuel + 1) listed a w := by
  have keep : ∀ (listed : Array Bool) (w : World), ((∀ b W, F b W → Fi W) ∨ (listed.getD p true = false ∧ (∀ W, F false W → Fi W) ∧ Waits md ops p i)) → F (listed.getD p true) w → Fi w := fun listed w hc hS => by
    rcases hc with hc | ⟨h1, h2, _⟩
    · exact hc _ _ hS
    · rw [h1] at hS; exact h2 _ hS
  intro fuel
  induction fuel with
  | zero =>
    intro listed a w _ hr hc hy hS H
    refine ⟨fun h => (by rw [h] at hr; cases hr), fun j hj => ?_⟩
    by_cases hji : j = i
    · subst hji; exact hy.wpOp hi (keep _ _ hc hS) ⟨fun _ => by rw [getD_set_ne true hip]; exact hS, H⟩
    · have := ready_mono hj hji
      rw [H.1] at this
      cases this
  | succ fuel ih =>
    intro listed a w hfree hr hc hy hS H
    refine ⟨fun h => (by rw [h] at hr; cases hr), fun j hj => ?_⟩
    by_cases hji : j = i
    · subst hji; exact hy.wpOp hi (keep _ _ hc hS) ⟨fun _ => by rw [getD_set_ne true hip]; exact hS, H⟩
    · have h1 := H.2 j (ready_mono hj hji)
      obtain ⟨hjun, oj, hoj, hall⟩ := mem_ready.1 hj
      have hnot : ∀ e ∈ oj.after, Region.binds md e = true → e.on ≠ i := fun e he hb heq => by
        have h1 := hall e he hb
        have h0 := (mem_ready.1 hr).1
        rw [heq] at h1
        rcases Nat.lt_or_ge i listed.size with h' | h'
        · simp [h'] at h0 h1; rw [h0] at h1; cases h1
        · simp [Array.getElem?_eq_none h'] at h1
      have hjq : j ≠ q := fun e => by
        subst e
        obtain ⟨e, he, hb, ho⟩ := hwait oj hoj
        exact hnot e he hb ho
      have h2 := wpOp_putIf hoj (hfree j oj hoj hji hjun hnot) (fun cs b => hsel i oi cs b hi) (fun cs b => hsel j oj cs b hoj) hQ hy h1
      have hfree' : ∀ k ok, ops[k]? = some ok → k ≠ i → (listed.setIfInBounds j true).getD k true = false →
          (∀ e ∈ ok.after, Region.binds md e = true → e.on ≠ i) → oi.apart ops ok = true := fun k ok hk hki hun hno => by
        refine hfree k ok hk hki ?_ hno
        by_cases hjk : j = k
        · subst hjk; exact hjun
        · rw [getD_set_ne true hjk] at hun; exact hun
      have hc' : (∀ b W, F b W → Fi W) ∨ ((listed.setIfInBounds j true).getD p true = false ∧ (∀ W, F false W → Fi W) ∧ Waits md ops p i) := by
        rcases hc with hc | ⟨h5, h6, h7⟩
        · exact .inl hc
        · have hjp : j ≠ p := fun e => by
            subst e
            obtain ⟨e, he, hb, ho⟩ := h7 oj hoj
            exact hnot e he hb ho
          exact .inr ⟨by rw [getD_set_ne true hjp]; exact h5, h6, h7⟩
      refine wpOp_mono (fun a' w' h3 => ?_) h2
      have hS' : F ((listed.setIfInBounds j true).getD p true) w' := by
        have := h3.2.1 hjq
        rw [Array.setIfInBounds_comm _ _ (Ne.symm hji), getD_set_ne true hip] at this
        exact this
      refine ⟨fun _ => hS', ih (listed.setIfInBounds j true) a' w' hfree' (ready_mono hr (Ne.symm hji)) hc' h3.1 hS' ?_⟩
      rw [Array.setIfInBounds_comm _ _ hji]
      exact h3.2.2
/-- 'wpAnyT', the operations that are still to come beside it. -/
def LexT (P : Program) (md : Region.Mode) (ops : Array Oper) (Q : Exit → Act → World → Prop) (F : Bool → World → Prop) (p q : Nat) (_rest : List Oper) (fuel : Nat) (listed : Array Bool) (a : Act) (w : World) : Prop := wpAnyT P md ops Q F p q fuel listed a w
theorem lext_start (is : List Nat) (p q : Nat) {l : List Oper} {id : Nat} {a : Act} {w : World} (hm : P.follows .mixedOrders = true)
    (h : LexT P .any l.toArray (NoPanic Q) F p q (inOrder l is) l.length (Array.replicate l.length false) a w.drew) : (Code.region id l.toArray true).wp P Q a w :=
  wp_region_noPanic (wp_region_any hm (wpAny_of_t _ _ _ _ (by simpa [LexT] using h)))
/-- A read that the first store waits for. -/
theorem lext_take {i : Nat} {o : Oper} {rest : List Oper} {fuel : Nat} {listed : Array Bool} {a : Act} {w : World} {v : Value} (hi : ops[i]? = some o) (hip : i ≠ p) (hiq : i ≠ q)
    (hn : Region.noSelect ops = true) (hf : Region.free md ops listed i = true) (hr : (Region.ready md ops listed).contains i = true)
    (hwq : ((ops[q]?.map fun op => op.after.any fun e => Region.binds md e && e.on == i).getD true) = true) (hwp : ((ops[p]?.map fun op => op.after.any fun e => Region.binds md e && e.on == i).getD true) = true) (hlp : listed.getD p true = false)
    (hw : Region.wanted o (yielded ops a.tmps) = true) (hS : F false w) (hy : ∀ W, F false W → (execOp a.eval o).run P W = .ok (.value v) W)
    (h : LexT P md ops (NoPanic Q) F p q rest fuel (listed.setIfInBounds i true) (a.put o.dst v) w) : LexT P md ops (NoPanic Q) F p q (o :: rest) (fuel + 1) listed a w :=
  wpAnyT_first (Fi := F false) hi (Region.noSelect_spec hn) (fun _ _ _ h => h) hip hiq (waits_of hwq) fuel listed a w (Region.free_spec hi hf) (by simpa using hr) (.inr ⟨hlp, fun _ h => h, waits_of hwp⟩) (Or.inl ⟨hw, hy⟩) (by rw [hlp]; exact hS) h
/-- A read that may stand behind the first store. -/
theorem lext_late {i : Nat} {o : Oper} {rest : List Oper} {fuel : Nat} {listed : Array Bool} {a : Act} {w : World} {v : Value} {b : Bool} (hi : ops[i]? = some o) (hip : i ≠ p) (hiq : i ≠ q)
    (hn : Region.noSelect ops = true) (hf : Region.free md ops listed i = true) (hr : (Region.ready md ops listed).contains i = true)
    (hwq : ((ops[q]?.map fun op => op.after.any fun e => Region.binds md e && e.on == i).getD true) = true) (hlp : listed.getD p true = b)
    (hFF : ∀ W, F false W → F true W) (hw : Region.wanted o (yielded ops a.tmps) = true) (hS : F b w) (hy : ∀ W, F true W → (execOp a.eval o).run P W = .ok (.value v) W)
    (h : LexT P md ops (NoPanic Q) F p q rest fuel (listed.setIfInBounds i true) (a.put o.dst v) w) : LexT P md ops (NoPanic Q) F p q (o :: rest) (fuel + 1) listed a w :=
  wpAnyT_first (Fi := F true) hi (Region.noSelect_spec hn) (fun _ _ _ h => h) hip hiq (waits_of hwq) fuel listed a w (Region.free_spec hi hf) (by simpa using hr) (.inl fun b' W h => by cases b'; exact hFF _ h; exact h) (Or.inl ⟨hw, hy⟩) (by rw [hlp]; exact hS) h
theorem lext_do {i : Nat} {o : Oper} {rest : List Oper} {fuel : Nat} {listed : Array Bool} {a : Act} {w : World} {b : Bool}
    (hi : ops[i]? = some o) (hr : Region.ready md ops listed = [i]) (hlp : (listed.setIfInBounds i true).getD p true = b) (hw : Region.wanted o (yielded ops a.tmps) = true)
    (h : ∀ K : Act → World → Prop, (∀ a' w', (i ≠ q → F b w') ∧ LexT P md ops Q F p q rest fuel (listed.setIfInBounds i true) a' w' → K a' w') → Oper.wp P o a w K Q) : LexT P md ops Q F p q (o :: rest) (fuel + 1) listed a w := by
  refine ⟨fun h0 => (by rw [hr] at h0; cases h0), fun j hj => ?_⟩
  rw [hr, List.mem_singleton] at hj
  subst hj
  unfold wpOp
  simp only [hi, hw, if_true]
  exact .inl (h _ fun a' w' h => by rw [hlp]; exact h)
theorem lext_done {listed : Array Bool} {a : Act} {w : World} {fuel : Nat} (hr : Region.ready md ops listed = []) (h : Q .normal a w) : LexT P md ops (NoPanic Q) F p q [] fuel listed a w := by
  cases fuel with
  | zero => exact ⟨hr, NoPanic.normal h⟩
  | succ n => exact ⟨fun _ => NoPanic.normal h, fun i hi => by rw [hr] at hi; cases hi⟩
end
end Go.Proofs.Ytgnmieobgdbafaa
