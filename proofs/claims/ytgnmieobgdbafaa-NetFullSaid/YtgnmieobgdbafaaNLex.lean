/-
  A statement that leaves its order open, with one operation (q) that waits for all others, whatever it does: reads ahead of it.
-/
import Derived.Test.YtgnmieobgdbafaaTChI
import Derived.Test.YtgnmieobgdbafaaKLexT
namespace Go.Proofs.Ytgnmieobgdbafaa
open Go.RowKit
set_option linter.unusedVariables false
section
variable {P : Program} {ops : Array Oper} {Q : Exit → Act → World → Prop} {md : Region.Mode} {S : World → Prop} {q : Nat}
def wpAnyQ (P : Program) (md : Region.Mode) (ops : Array Oper) (Q : Exit → Act → World → Prop) (S : World → Prop) (q : Nat) : Nat → Array Bool → Act → World → Prop
  | 0, listed, a, w => Region.ready md ops listed = [] ∧ Q .normal a w
  | fuel + 1, listed, a, w =>
    (Region.ready md ops listed = [] → Q .normal a w) ∧
    ∀ i ∈ Region.ready md ops listed, wpOp P ops Q i (fun a' w' => (i ≠ q → S w') ∧ wpAnyQ P md ops Q S q fuel (listed.setIfInBounds i true) a' w') a w
theorem wpAny_of_q : ∀ (fuel : Nat) (listed : Array Bool) (a : Act) (w : World), wpAnyQ P md ops Q S q fuel listed a w → wpAny P md ops Q fuel listed a w
  | 0, _, _, _, h => h
  | fuel + 1, _, _, _, h => ⟨h.1, fun i hi => wpOp_mono (fun a' w' h' => wpAny_of_q fuel _ a' w' h'.2) (h.2 i hi)⟩
def waitB (md : Region.Mode) (ops : Array Oper) (o i : Nat) : Bool := (ops[o]?.map fun op => op.after.any fun e => Region.binds md e && e.on == i).getD false
theorem waitB_spec {o i : Nat} (h : waitB md ops o i = true) : ∃ op, ops[o]? = some op ∧ ∃ e ∈ op.after, Region.binds md e = true ∧ e.on = i := by
  unfold waitB at h
  cases ho : ops[o]? with
  | none => simp [ho] at h
  | some op =>
    simp only [ho, Option.map_some, Option.getD_some, Array.any_eq_true'] at h
    obtain ⟨e, he, hb⟩ := h
    simp only [Bool.and_eq_true, beq_iff_eq] at hb
    exact ⟨op, rfl, e, he, hb.1, hb.2⟩
/-- Whatever is listed, what it waits for is listed. -/
def Closed (md : Region.Mode) (ops : Array Oper) (listed : Array Bool) : Prop := ∀ (j : Nat) (op : Oper), ops[j]? = some op → listed.getD j false = true → ∀ e ∈ op.after, Region.binds md e = true → listed.getD e.on false = true
def closedB (md : Region.Mode) (ops : Array Oper) (listed : Array Bool) : Bool := (List.range ops.size).all fun j => !listed.getD j false || ((ops[j]?).map fun op => op.after.all fun e => !Region.binds md e || listed.getD e.on false).getD true
theorem closed_of {listed : Array Bool} (h : closedB md ops listed = true) : Closed md ops listed := by
  intro j op hop hj e he hb
  unfold closedB at h
  rw [List.all_eq_true] at h
  have h1 := h j (List.mem_range.2 (Array.getElem?_eq_some_iff.1 hop).1)
  simp only [hj, Bool.not_true, Bool.false_or, hop, Option.map_some, Option.getD_some, Array.all_eq_true'] at h1
  have h2 := h1 e he
  simpa [hb] using h2
def pathB (md : Region.Mode) (ops : Array Oper) (q : Nat) : Nat → List Nat → Bool
  | i, [] => waitB md ops q i
  | i, j :: l => waitB md ops j i && pathB md ops q j l
def reachB (md : Region.Mode) (ops : Array Oper) (q : Nat) : Nat → Nat → Bool
  | 0, i => waitB md ops q i
  | n + 1, i => waitB md ops q i || (List.range ops.size).any fun j => waitB md ops j i && reachB md ops q n j
theorem reach_path : ∀ (n i : Nat), reachB md ops q n i = true → ∃ l, pathB md ops q i l = true := by
  intro n
  induction n with
  | zero => intro i h; exact ⟨[], h⟩
  | succ n ih =>
    intro i h
    simp only [reachB, Bool.or_eq_true, List.any_eq_true, Bool.and_eq_true] at h
    rcases h with h | ⟨j, _, h1, h2⟩
    · exact ⟨[], h⟩
    · obtain ⟨l, hl⟩ := ih j h2
      exact ⟨j :: l, by simp only [pathB, h1, hl, Bool.and_self]⟩
theorem not_ready {listed : Array Bool} (hc : Closed md ops listed) : ∀ (l : List Nat) (i : Nat), listed.getD i false ≠ true → pathB md ops q i l = true → q ∉ Region.ready md ops listed := by
  intro l
  induction l with
  | nil =>
    intro i hi hp hr
    obtain ⟨op, hop, e, he, hb, ho⟩ := waitB_spec hp
    obtain ⟨_, oj, hoj, hall⟩ := mem_ready.1 hr
    rw [hop] at hoj
    obtain rfl := Option.some.inj hoj
    exact hi (ho ▸ hall e he hb)
  | cons j l ih =>
    intro i hi hp
    simp only [pathB, Bool.and_eq_true] at hp
    obtain ⟨op, hop, e, he, hb, ho⟩ := waitB_spec hp.1
    exact ih j (fun h => hi (ho ▸ hc j op hop h e he hb)) hp.2
theorem getD_set_same {l : Array Bool} {i : Nat} (h : l.getD i true = false) (b : Bool) : (l.setIfInBounds i b).getD i false = b := by
  have : i < l.size := by
    rcases Nat.lt_or_ge i l.size with h' | h'
    · exact h'
    · simp [Array.getElem?_eq_none h'] at h
  simp [Array.getD_eq_getD_getElem?, Array.getElem?_setIfInBounds_self_of_lt this]
theorem getD_set_other {l : Array Bool} {i j : Nat} (h : i ≠ j) (b d : Bool) : (l.setIfInBounds i b).getD j d = l.getD j d := by
  simp [Array.getD_eq_getD_getElem?, Array.getElem?_setIfInBounds_ne h]
theorem Closed.add {listed : Array Bool} (hc : Closed md ops listed) {j : Nat} (hj : j ∈ Region.ready md ops listed) : Closed md ops (listed.setIfInBounds j true) := by
  intro k op hop hk e he hb
  have hup : ∀ m, listed.getD m false = true → (listed.setIfInBounds j true).getD m false = true := fun m hm => by
    by_cases h : j = m
    · subst h; exact getD_set_same (mem_ready.1 hj).1 true
    · rw [getD_set_other h]; exact hm
  by_cases h : j = k
  · subst h
    obtain ⟨_, oj, hoj, hall⟩ := mem_ready.1 hj
    rw [hop] at hoj
    obtain rfl := Option.some.inj hoj
    exact hup _ (hall e he hb)
  · rw [getD_set_other h] at hk
    exact hup _ (hc k op hop hk e he hb)
theorem wpAnyQ_first {i : Nat} {oi : Oper} {v : Value} (hi : ops[i]? = some oi) (hsel : ∀ (j : Nat) (o : Oper) cs b, ops[j]? = some o → o.op ≠ .select cs b)
    (hQ : ∀ c a w, Q (.panic c) (a.put oi.dst v) w → Q (.panic c) a w) (hiq : i ≠ q) (path : List Nat) (hp : pathB md ops q i path = true) :
    ∀ (fuel : Nat) (listed : Array Bool) (a : Act) (w : World),
      (∀ j oj, ops[j]? = some oj → j ≠ i → listed.getD j true = false → (∀ e ∈ oj.after, Region.binds md e = true → e.on ≠ i) → oi.apart ops oj = true) → Closed md ops listed →
      i ∈ Region.ready md ops listed → YieldsIf P ops S oi v a → S w →
      wpAnyQ P md ops Q S q fuel (listed.setIfInBounds i true) (a.put oi.dst v) w → wpAnyQ P md ops Q S q (fuel + 1) listed a w := by
  intro fuel
  induction fuel with
  | zero =>
    intro listed a w _ hcl hr hy hS H
    refine ⟨fun h => (by rw [h] at hr; cases hr), fun j hj => ?_⟩
    by_cases hji : j = i
    · subst hji; exact hy.wpOp hi hS ⟨fun _ => hS, H⟩
    · have := ready_mono hj hji
      rw [H.1] at this
      cases this
  | succ fuel ih =>
    intro listed a w hfree hcl hr hy hS H
    refine ⟨fun h => (by rw [h] at hr; cases hr), fun j hj => ?_⟩
    by_cases hji : j = i
    · subst hji; exact hy.wpOp hi hS ⟨fun _ => hS, H⟩
    · have h1 := H.2 j (ready_mono hj hji)
      obtain ⟨hjun, oj, hoj, hall⟩ := mem_ready.1 hj
      have hun : listed.getD i false ≠ true := fun h0 => by
        have := (mem_ready.1 hr).1
        rcases Nat.lt_or_ge i listed.size with h' | h'
        · simp [Array.getD_eq_getD_getElem?, h'] at h0 this; rw [h0] at this; cases this
        · simp [Array.getD_eq_getD_getElem?, Array.getElem?_eq_none h'] at h0
      have hnot : ∀ e ∈ oj.after, Region.binds md e = true → e.on ≠ i := fun e he hb heq => hun (heq ▸ hall e he hb)
      have hjq : j ≠ q := fun e => by
        subst e
        exact not_ready hcl path i hun hp hj
      have h2 := wpOp_putIf hoj (hfree j oj hoj hji hjun hnot) (fun cs b => hsel i oi cs b hi) (fun cs b => hsel j oj cs b hoj) hQ hy h1
      have hfree' : ∀ k ok, ops[k]? = some ok → k ≠ i → (listed.setIfInBounds j true).getD k true = false →
          (∀ e ∈ ok.after, Region.binds md e = true → e.on ≠ i) → oi.apart ops ok = true := fun k ok hk hki hun hno => by
        refine hfree k ok hk hki ?_ hno
        by_cases hjk : j = k
        · subst hjk; exact hjun
        · rw [getD_set_other hjk] at hun; exact hun
      refine wpOp_mono (fun a' w' h3 => ?_) h2
      have hS' : S w' := h3.2.1 hjq
      refine ⟨fun _ => hS', ih (listed.setIfInBounds j true) a' w' hfree' (hcl.add hj) (ready_mono hr (Ne.symm hji)) h3.1 hS' ?_⟩
      rw [Array.setIfInBounds_comm _ _ hji]
      exact h3.2.2
/-- 'wpAnyQ', the operations that are still to come beside it. -/
def LexQ (P : Program) (md : Region.Mode) (ops : Array Oper) (Q : Exit → Act → World → Prop) (S : World → Prop) (q : Nat) (_is : List Nat) (_os : List Oper) (fuel : Nat) (listed : Array Bool) (a : Act) (w : World) : Prop := wpAnyQ P md ops Q S q fuel listed a w
theorem lq_start (is : List Nat) (q : Nat) {l : List Oper} {id : Nat} {a : Act} {w : World} (hm : P.follows .mixedOrders = true)
    (h : LexQ P .any l.toArray (NoPanic Q) S q is (inOrder l is) l.length (Array.replicate l.length false) a w.drew) : (Code.region id l.toArray true).wp P Q a w :=
  wp_region_noPanic (wp_region_any hm (wpAny_of_q _ _ _ _ (by simpa [LexQ] using h)))
theorem lq_ok {ops : Array Oper} {md : Region.Mode} {listed : Array Bool} {i q : Nat} (h : (Region.noSelect ops && Region.free md ops listed i && (Region.ready md ops listed).contains i && closedB md ops listed && reachB md ops q 9 i && i != q) = true) :
    Region.noSelect ops = true ∧ Region.free md ops listed i = true ∧ (Region.ready md ops listed).contains i = true ∧ closedB md ops listed = true ∧ reachB md ops q 9 i = true ∧ i ≠ q := by
  simp only [Bool.and_eq_true, bne_iff_ne] at h
  exact ⟨h.1.1.1.1.1, h.1.1.1.1.2, h.1.1.1.2, h.1.1.2, h.1.2, h.2⟩
theorem lq_take {i : Nat} {is : List Nat} {o : Oper} {os : List Oper} {fuel : Nat} {listed : Array Bool} {a : Act} {w : World} {v : Value} (hi : ops[i]? = some o)
    (hk : (Region.noSelect ops && Region.free md ops listed i && (Region.ready md ops listed).contains i && closedB md ops listed && reachB md ops q 9 i && i != q) = true)
    (hw : Region.wanted o (yielded ops a.tmps) = true) (hS : S w) (hy : ∀ W, S W → (execOp a.eval o).run P W = .ok (.value v) W)
    (h : LexQ P md ops (NoPanic Q) S q is os fuel (listed.setIfInBounds i true) (a.put o.dst v) w) : LexQ P md ops (NoPanic Q) S q (i :: is) (o :: os) (fuel + 1) listed a w := by
  obtain ⟨path, hp⟩ := reach_path _ _ (lq_ok hk).2.2.2.2.1
  exact wpAnyQ_first hi (Region.noSelect_spec (lq_ok hk).1) (fun _ _ _ h => h) (lq_ok hk).2.2.2.2.2 path hp fuel listed a w (Region.free_spec hi (lq_ok hk).2.1) (closed_of (lq_ok hk).2.2.2.1) (by simpa using (lq_ok hk).2.2.1) (Or.inl ⟨hw, hy⟩) hS h
theorem lq_do {i : Nat} {is : List Nat} {o : Oper} {os : List Oper} {fuel : Nat} {listed : Array Bool} {a : Act} {w : World}
    (hi : ops[i]? = some o) (hr : Region.ready md ops listed = [i]) (hw : Region.wanted o (yielded ops a.tmps) = true)
    (h : ∀ K : Act → World → Prop, (∀ a' w', (i ≠ q → S w') ∧ LexQ P md ops Q S q is os fuel (listed.setIfInBounds i true) a' w' → K a' w') → Oper.wp P o a w K Q) : LexQ P md ops Q S q (i :: is) (o :: os) (fuel + 1) listed a w := by
  refine ⟨fun h0 => (by rw [hr] at h0; cases h0), fun j hj => ?_⟩
  rw [hr, List.mem_singleton] at hj
  subst hj
  unfold wpOp
  simp only [hi, hw, if_true]
  exact .inl (h _ fun a' w' h => h)
theorem lq_done {listed : Array Bool} {a : Act} {w : World} {fuel : Nat} (hr : Region.ready md ops listed = []) (h : Q .normal a w) : LexQ P md ops (NoPanic Q) S q [] [] fuel listed a w := by
  cases fuel with
  | zero => exact ⟨hr, NoPanic.normal h⟩
  | succ n => exact ⟨fun _ => NoPanic.normal h, fun i hi => by rw [hr] at hi; cases hi⟩
end
end Go.Proofs.Ytgnmieobgdbafaa
