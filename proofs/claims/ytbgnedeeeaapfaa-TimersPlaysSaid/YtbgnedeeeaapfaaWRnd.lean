/-
  A statement that leaves its order open, inside a round of a range over a function: where it defers nothing, it may be walked as outside a round.
-/
import Derived.Test.YtbgnedeeeaapfaaKLexT
import Derived.OrdersIn
import Derived.ControlIn
import Derived.AtR
namespace Go.Proofs.Ytbgnedeeeaapfaa
set_option linter.unusedVariables false
section
variable {F : Fence} {n : Nat} {P : Program} {ops : Array Oper} {Q : Exit → Act → World → Prop} {md : Region.Mode}
/-- None of the operations defers a call. -/
def noDefer (ops : Array Oper) : Bool := ops.all fun o => match o.op with | .defer _ => false | _ => true
theorem noDefer_at {ops : Array Oper} (h : noDefer ops = true) {i : Nat} {o : Oper} (ho : ops[i]? = some o) : ∀ c, o.op ≠ .defer c := by
  intro c e
  obtain ⟨hi, rfl⟩ := Array.getElem?_eq_some_iff.1 ho
  unfold noDefer at h
  rw [Array.all_eq_true] at h
  have := h i hi
  rw [e] at this
  cases this
theorem op_plain {o : Oper} {a : Act} {w : World} {K : Act → World → Prop} (hd : ∀ c, o.op ≠ .defer c) (h : o.wpIn F.plain n P a w K Q) : o.wpIn F n P a w K Q := by
  unfold Oper.wpIn at *
  rw [Oper.semAt_eq _ _ _ hd] at *
  exact ⟨h.1, h.2⟩
theorem any_plain (hd : noDefer ops = true) : ∀ (fuel : Nat) (listed : Array Bool) (a : Act) (w : World), wpAnyIn F.plain n P md ops Q fuel listed a w → wpAnyIn F n P md ops Q fuel listed a w := by
  intro fuel
  induction fuel with
  | zero => intro listed a w h; exact h
  | succ fuel ih =>
    intro listed a w h
    refine ⟨h.1, fun i hi => ?_⟩
    have hx := h.2 i hi
    unfold wpOpIn at hx ⊢
    cases ho : ops[i]? with
    | none => simp only [ho] at hx ⊢; exact ih _ _ _ hx
    | some o =>
      simp only [ho] at hx ⊢
      split
      · rename_i hw
        simp only [hw, if_true] at hx
        exact Oper.wpIn_mono (fun a w => ih _ a w) (op_plain (noDefer_at hd ho) hx)
      · rename_i hw
        simp only [hw] at hx
        exact ⟨hx.1, ih _ _ _ hx.2⟩
/-- The region, entered in a round. -/
theorem region_round {id : Nat} {a : Act} {w : World} (hm : P.follows .mixedOrders = true) (hd : noDefer ops = true)
    (h : wpAnyIn F.plain n P .any ops Q ops.size (Array.replicate ops.size false) a { w with drawn := w.drawn + 1 }) : (Code.region id ops true).wpIn F n P Q a w :=
  wpIn_region_any hm (any_plain hd _ _ _ _ h)
/-- A round of the fence that shuts nothing out is, outside rounds, that fence. -/
theorem wide_plain (l : Nat) : (Fence.wide.inRound l).plain = Fence.wide := rfl
/-- One operation, walked outside every fence. -/
theorem op_wide {o : Oper} {a : Act} {w : World} {K : Act → World → Prop} (h : o.wp P a w K Q) : o.wpIn Fence.wide n P a w K Q := by
  refine ⟨fun _ _ => trivial, ?_⟩
  unfold Oper.wp at h
  show o.uponIn Fence.wide n P a K Q ((execOp a.eval o).run P w)
  generalize (execOp a.eval o).run P w = r at *
  cases r with
  | ok x w' =>
    cases x with
    | value v => exact h
    | skip => exact h
    | defer d => exact h
    | enter f args => exact ⟨(fun hd => by cases hd), callsIn_wide.2 h⟩
    | row row args => exact ⟨(fun hd => by cases hd), fun c cs _ => let ⟨v, w', r, s⟩ := h c cs; ⟨v, w', r, stepsIn_wide.2 s⟩⟩
    | _ => exact h.elim
  | halt x w' =>
    cases x with
    | panic v => exact h
    | _ => exact h.elim
theorem any_wide (hL : ¬ LetsOut Q) : ∀ (fuel : Nat) (listed : Array Bool) (a : Act) (w : World), wpAny P md ops Q fuel listed a w → wpAnyIn Fence.wide n P md ops Q fuel listed a w := by
  intro fuel
  induction fuel with
  | zero => intro listed a w h; exact h
  | succ fuel ih =>
    intro listed a w h
    refine ⟨h.1, fun i hi => ?_⟩
    have hx := h.2 i hi
    unfold wpOp at hx
    unfold wpOpIn
    cases ho : ops[i]? with
    | none => simp only [ho] at hx ⊢; exact ih _ _ _ hx
    | some o =>
      simp only [ho] at hx ⊢
      split
      · rename_i hw
        simp only [hw, if_true] at hx
        rcases hx with hx | hx
        · exact Oper.wpIn_mono (fun a w => ih _ a w) (op_wide hx)
        · exact absurd hx.2 hL
      · rename_i hw
        simp only [hw] at hx
        exact ⟨fun _ _ => trivial, ih _ _ _ hx⟩
/-- A region that draws its order, in a round under the fence that shuts nothing out: it may be walked as if there were no round. -/
theorem region_in_round {id l : Nat} {a : Act} {w : World} (hm : P.follows .mixedOrders = true) (hd : noDefer ops = true) (hL : ¬ LetsOut Q)
    (h : wpAny P .any ops Q ops.size (Array.replicate ops.size false) a { w with drawn := w.drawn + 1 }) : (Code.region id ops true).wpIn (Fence.wide.inRound l) n P Q a w :=
  region_round hm hd (any_wide hL _ _ _ _ h)
/-- The LexT chain in such a round: as lext_start. -/
theorem roundT_start {F : Bool → World → Prop} (is : List Nat) (p q : Nat) {l : List Oper} {id lp : Nat} {a : Act} {w : World} {K : Act → World → Prop} {Q' : Exit → Act → World → Prop} (hm : P.follows .mixedOrders = true) (hd : noDefer l.toArray = true)
    (h : LexT P .any l.toArray (NoPanic (Exit.then K (fun _ _ _ => False))) F p q (inOrder l is) l.length (Array.replicate l.length false) a w.drew) : (Code.region id l.toArray true).wpIn (Fence.wide.inRound lp) n P (Exit.then K Q') a w := by
  refine wpIn_mono (region_in_round (Q := NoPanic (Exit.then K (fun _ _ _ => False))) hm hd (fun ⟨a, w, h⟩ => h) (wpAny_of_t _ _ _ _ (by simpa [LexT] using h))) (fun e a w h => ?_)
  cases e <;> first | exact h | exact (h : False).elim
/-- The same, whatever comes behind. -/
theorem roundT_any {F : Bool → World → Prop} (is : List Nat) (p q : Nat) {l : List Oper} {id lp : Nat} {a : Act} {w : World} {Q : Exit → Act → World → Prop} (hm : P.follows .mixedOrders = true) (hd : noDefer l.toArray = true)
    (h : LexT P .any l.toArray (NoPanic (fun e a w => e = .normal ∧ Q e a w)) F p q (inOrder l is) l.length (Array.replicate l.length false) a w.drew) : (Code.region id l.toArray true).wpIn (Fence.wide.inRound lp) n P Q a w := by
  refine wpIn_mono (region_in_round (Q := NoPanic (fun e a w => e = .normal ∧ Q e a w)) hm hd (fun ⟨a, w, h⟩ => (by have := h.1; cases this)) (wpAny_of_t _ _ _ _ (by simpa [LexT] using h))) (fun e a w h => ?_)
  cases e <;> first | exact h.2 | exact (h : False).elim
end
end Go.Proofs.Ytbgnedeeeaapfaa
