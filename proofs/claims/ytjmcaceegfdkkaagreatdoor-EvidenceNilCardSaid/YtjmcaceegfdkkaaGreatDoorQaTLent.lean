/-
  The law's alike: two pools that are the same plain one.
  The two pools beside each other.
  A statement that leaves its order open, whose last operation turns what its reads have read: the operations in an order that is named; F holds up to the operation p.
  Trees in a row of the call's own: what is appended one behind the other.
  The document's own Lent: a tree in new memory.
-/
import Derived.Test.YtjmcaceegfdkkaaGreatDoorQaLKind
import Derived.Test.YtjmcaceegfdkkaaGreatDoorQaTKey
import Derived.Test.YtjmcaceegfdkkaaGreatDoorQaTLacks
import Derived.Test.YtjmcaceegfdkkaaGreatDoorQaTClone
import Derived.Test.YtjmcaceegfdkkaaGreatDoorQaTChain
import Derived.Test.YtjmcaceegfdkkaaGreatDoorQaLRead
namespace Go.Proofs.YtjmcaceegfdkkaaGreatDoor
open Go.RowKit Go.Maps
set_option linter.unusedVariables false
theorem nok_zero : NdOk zeroM.1 := by
  have z : i64R 0 := i64R_lit (by omega)
  exact ⟨z, z, z, ⟨by decide, by decide⟩, emptyS_le, z, z⟩
theorem atP_nok {p : Pl} (h : ∀ m ∈ p, NdOk m.1) (t : Int) : NdOk (atP p t).1 := by
  unfold atP
  split
  · by_cases hl : t.toNat - 1 < p.length
    · rw [show p.getD (t.toNat - 1) zeroM = p[t.toNat - 1] by simp [List.getD_eq_getElem?_getD, hl]]; exact h _ (List.getElem_mem hl)
    · rw [show p.getD (t.toNat - 1) zeroM = zeroM by simp [List.getD_eq_getElem?_getD, List.getElem?_eq_none (Nat.le_of_not_lt hl)]]; exact nok_zero
  · exact nok_zero
section
variable {w : World} {B a b : Nat} {v : Value} {p : Pl} {B2 a2 : Nat} {vl vs vd : Value}
end
end Go.Proofs.YtjmcaceegfdkkaaGreatDoor
namespace Go.Proofs.YtjmcaceegfdkkaaGreatDoor
open Go.RowKit Go.Maps
set_option linter.unusedVariables false
section
variable {w : World} {B a b : Nat} {v : Value} {p : Pl} {a2 : Nat} {vl vs vd : Value} {q : Pl}
/-- What a Make of the program leaves, of the blocks of another type. -/
theorem Grew.hold (h : IsPool w B a b v p) {p' : Pl} {w' : World} (hg : Grew w B a b v p' w') {T : TypeId} (h1 : T ≠ PoolT) (h2 : T ≠ MadeT) : Hold T w w' := fun k cs hk => by
  obtain ⟨D, hown, _⟩ := h.dict
  obtain ⟨es, clock, hb, _⟩ := hown
  have hk0 := (Array.getElem?_eq_some_iff.1 hk).1
  rw [hg.2.1 k hk0 ?_ ?_ ?_]
  · exact hk
  · rintro rfl
    have h0 := h.lay
    rw [h0] at hk
    simp only [Option.some.injEq, Obj.cells.injEq] at hk
    exact h1 hk.2.1.symm
  · rintro rfl
    rw [hb] at hk
    simp at hk
  · intro e
    obtain ⟨_, cur, hc⟩ := own_type h.row e
    rw [hk] at hc
    simp only [Option.some.injEq, Obj.cells.injEq] at hc
    exact h2 hc.2.1
end
end Go.Proofs.YtjmcaceegfdkkaaGreatDoor
namespace Go.Proofs.YtjmcaceegfdkkaaGreatDoor
open Go.RowKit
set_option linter.unusedVariables false
section
variable {P : Program} {ops : Array Oper} {Q : Exit → Act → World → Prop} {md : Region.Mode} {F : World → Prop} {p : Nat}
def wpAnyG (P : Program) (md : Region.Mode) (ops : Array Oper) (Q : Exit → Act → World → Prop) (F : World → Prop) (p : Nat) : Nat → Array Bool → Act → World → Prop
  | 0, listed, a, w => Region.ready md ops listed = [] ∧ Q .normal a w
  | fuel + 1, listed, a, w =>
    (Region.ready md ops listed = [] → Q .normal a w) ∧
    ∀ i ∈ Region.ready md ops listed, wpOp P ops Q i (fun a' w' => (i ≠ p → F w') ∧ wpAnyG P md ops Q F p fuel (listed.setIfInBounds i true) a' w') a w
theorem wpAny_of_g : ∀ (fuel : Nat) (listed : Array Bool) (a : Act) (w : World), wpAnyG P md ops Q F p fuel listed a w → wpAny P md ops Q fuel listed a w
  | 0, _, _, _, h => h
  | fuel + 1, _, _, _, h => ⟨h.1, fun i hi => wpOp_mono (fun a' w' h' => wpAny_of_g fuel _ a' w' h'.2) (h.2 i hi)⟩
theorem wpAnyG_first {i : Nat} {oi : Oper} {v : Value} (hi : ops[i]? = some oi) (hsel : ∀ (j : Nat) (o : Oper) cs b, ops[j]? = some o → o.op ≠ .select cs b)
    (hQ : ∀ c a w, Q (.panic c) (a.put oi.dst v) w → Q (.panic c) a w) (hip : i ≠ p) (hwait : ∀ op, ops[p]? = some op → ∃ e ∈ op.after, Region.binds md e = true ∧ e.on = i) :
    ∀ (fuel : Nat) (listed : Array Bool) (a : Act) (w : World),
      (∀ j oj, ops[j]? = some oj → j ≠ i → listed.getD j true = false → (∀ e ∈ oj.after, Region.binds md e = true → e.on ≠ i) → oi.apart ops oj = true) →
      i ∈ Region.ready md ops listed → YieldsIf P ops F oi v a → F w →
      wpAnyG P md ops Q F p fuel (listed.setIfInBounds i true) (a.put oi.dst v) w → wpAnyG P md ops Q F p (fuel + 1) listed a w := by
  intro fuel
  induction fuel with
  | zero =>
    intro listed a w _ hr hy hS H
    refine ⟨fun h => (by rw [h] at hr; cases hr), fun j hj => ?_⟩
    by_cases hji : j = i
    · subst hji; exact hy.wpOp hi hS ⟨fun _ => hS, H⟩
    · have := ready_mono hj hji
      rw [H.1] at this
      cases this
  | succ fuel ih =>
    intro listed a w hfree hr hy hS H
    refine ⟨fun h => (by rw [h] at hr; cases hr), fun j hj => ?_⟩
    by_cases hji : j = i
    · subst hji; exact hy.wpOp hi hS ⟨fun _ => hS, H⟩
    · have h1 := H.2 j (ready_mono hj hji)
      obtain ⟨hjun, oj, hoj, hall⟩ := mem_ready.1 hj
      have hnot : ∀ e ∈ oj.after, Region.binds md e = true → e.on ≠ i := fun e he hb heq => by
        have h1 := hall e he hb
        have h0 := (mem_ready.1 hr).1
        rw [heq] at h1
        rcases Nat.lt_or_ge i listed.size with h' | h'
        · simp [h'] at h0 h1; rw [h0] at h1; cases h1
        · simp [Array.getElem?_eq_none h'] at h1
      have hjp : j ≠ p := fun e => by
        subst e
        obtain ⟨e, he, hb, ho⟩ := hwait oj hoj
        exact hnot e he hb ho
      have h2 := wpOp_putIf hoj (hfree j oj hoj hji hjun hnot) (fun cs b => hsel i oi cs b hi) (fun cs b => hsel j oj cs b hoj) hQ hy h1
      have hfree' : ∀ k ok, ops[k]? = some ok → k ≠ i → (listed.setIfInBounds j true).getD k true = false →
          (∀ e ∈ ok.after, Region.binds md e = true → e.on ≠ i) → oi.apart ops ok = true := fun k ok hk hki hun hno => by
        refine hfree k ok hk hki ?_ hno
        by_cases hjk : j = k
        · subst hjk; exact hjun
        · rw [getD_set_ne true hjk] at hun; exact hun
      refine wpOp_mono (fun a' w' h3 => ⟨h3.2.1, ih (listed.setIfInBounds j true) a' w' hfree' (ready_mono hr (Ne.symm hji)) h3.1 (h3.2.1 hjp) ?_⟩) h2
      rw [Array.setIfInBounds_comm _ _ hji]
      exact h3.2.2
/-- 'wpAnyG', the operations that are still to come beside it. -/
def LexG (P : Program) (md : Region.Mode) (ops : Array Oper) (Q : Exit → Act → World → Prop) (F : World → Prop) (p : Nat) (_rest : List Oper) (fuel : Nat) (listed : Array Bool) (a : Act) (w : World) : Prop := wpAnyG P md ops Q F p fuel listed a w
theorem lexg_start (is : List Nat) (p : Nat) {l : List Oper} {id : Nat} {a : Act} {w : World} (hm : P.follows .mixedOrders = true)
    (h : LexG P .any l.toArray (NoPanic Q) F p (inOrder l is) l.length (Array.replicate l.length false) a w.drew) : (Code.region id l.toArray true).wp P Q a w :=
  wp_region_noPanic (wp_region_any hm (wpAny_of_g _ _ _ _ (by simpa [LexG] using h)))
theorem lexg_take {i : Nat} {o : Oper} {rest : List Oper} {fuel : Nat} {listed : Array Bool} {a : Act} {w : World} {v : Value} (hi : ops[i]? = some o) (hip : i ≠ p)
    (hn : Region.noSelect ops = true) (hf : Region.free md ops listed i = true) (hr : (Region.ready md ops listed).contains i = true) (hwt : ((ops[p]?.map fun op => op.after.any fun e => Region.binds md e && e.on == i).getD true) = true)
    (hw : Region.wanted o (yielded ops a.tmps) = true) (hS : F w) (hy : ∀ W, F W → (execOp a.eval o).run P W = .ok (.value v) W)
    (h : LexG P md ops (NoPanic Q) F p rest fuel (listed.setIfInBounds i true) (a.put o.dst v) w) : LexG P md ops (NoPanic Q) F p (o :: rest) (fuel + 1) listed a w :=
  wpAnyG_first hi (Region.noSelect_spec hn) (fun _ _ _ h => h) hip (fun op hop => by
    rw [hop] at hwt
    simp only [Option.map_some, Option.getD_some, Array.any_eq_true'] at hwt
    obtain ⟨e, he, hb⟩ := hwt
    simp only [Bool.and_eq_true, beq_iff_eq] at hb
    exact ⟨e, he, hb.1, hb.2⟩) fuel listed a w (Region.free_spec hi hf) (by simpa using hr) (Or.inl ⟨hw, hy⟩) hS h
theorem lexg_call {i : Nat} {o : Oper} {rest : List Oper} {fuel : Nat} {listed : Array Bool} {a : Act} {w : World} {f : FuncId} {vals : Array Value}
    (hi : ops[i]? = some o) (hr : Region.ready md ops listed = [i]) (hw : Region.wanted o (yielded ops a.tmps) = true)
    (hx : (execOp a.eval o).run P w = .ok (.enter f vals) w) (R : Ending → World → Prop) (hc : Calls P f vals w R)
    (h : ∀ e w', R e w' → ∃ v, e = .returned v ∧ (i ≠ p → F w') ∧ LexG P md ops Q F p rest fuel (listed.setIfInBounds i true) (a.put o.dst v) w') : LexG P md ops Q F p (o :: rest) (fuel + 1) listed a w := by
  refine ⟨fun h0 => (by rw [hr] at h0; cases h0), fun j hj => ?_⟩
  rw [hr, List.mem_singleton] at hj
  subst hj
  unfold wpOp
  simp only [hi, hw, if_true, Oper.wp, hx, Oper.upon]
  refine .inl (hc.mono fun e w' hR => ?_)
  obtain ⟨v, rfl, h1, h2⟩ := h e w' hR
  exact ⟨h1, h2⟩
theorem lexg_do {i : Nat} {o : Oper} {rest : List Oper} {fuel : Nat} {listed : Array Bool} {a : Act} {w : World}
    (hi : ops[i]? = some o) (hr : Region.ready md ops listed = [i]) (hw : Region.wanted o (yielded ops a.tmps) = true)
    (h : ∀ K : Act → World → Prop, (∀ a' w', (i ≠ p → F w') ∧ LexG P md ops Q F p rest fuel (listed.setIfInBounds i true) a' w' → K a' w') → Oper.wp P o a w K Q) : LexG P md ops Q F p (o :: rest) (fuel + 1) listed a w := by
  refine ⟨fun h0 => (by rw [hr] at h0; cases h0), fun j hj => ?_⟩
  rw [hr, List.mem_singleton] at hj
  subst hj
  unfold wpOp
  simp only [hi, hw, if_true]
  exact .inl (h _ fun a' w' h => h)
theorem lexg_done {listed : Array Bool} {a : Act} {w : World} {fuel : Nat} (hr : Region.ready md ops listed = []) (h : Q .normal a w) : LexG P md ops (NoPanic Q) F p [] fuel listed a w := by
  cases fuel with
  | zero => exact ⟨hr, NoPanic.normal h⟩
  | succ n => exact ⟨fun _ => NoPanic.normal h, fun i hi => by rw [hr] at hi; cases hi⟩
end
end Go.Proofs.YtjmcaceegfdkkaaGreatDoor
namespace Go.Proofs.YtjmcaceegfdkkaaGreatDoor
open Go.RowKit Go.Maps
set_option linter.unusedVariables false
def six (n : Nd) (v : Value) : List Value := [.int .i64 n.kind, .int .i64 n.frm, .int .i64 n.to, .int .u64 n.num, .string n.text, v]
/-- These cells are those of these trees. -/
def RowF (w : World) (G : Nat → Prop) : List (Nd × Fo) → List Value → Prop
  | [], xs => xs = []
  | x :: l, xs => ∃ v ys, xs = six x.1 v ++ ys ∧ IsK w G v x.2 ∧ RowF w G l ys
theorem RowF.at {w : World} {G : Nat → Prop} {b : Nat} : ∀ {l : List (Nd × Fo)} {xs : List Value} {off : Nat}, RowF w G l xs → (∀ j u, xs[j]? = some u → w.cell? ⟨b, off + j, none⟩ = some u) → AtF w G (foOf l) b off
  | [], _, _, _, _ => trivial
  | x :: l, _, off, ⟨v, ys, rfl, h1, h2⟩, hc => by
    have c0 := hc 0 _ (by simp [six]; rfl)
    have c1 := hc 1 _ (by simp [six]; rfl)
    have c2 := hc 2 _ (by simp [six]; rfl)
    have c3 := hc 3 _ (by simp [six]; rfl)
    have c4 := hc 4 _ (by simp [six]; rfl)
    have c5 := hc 5 _ (by simp [six]; rfl)
    refine AtF.mk c0 c1 c2 c3 c4 c5 h1 (RowF.at h2 fun j u hj => ?_)
    have := hc (6 + j) u (by rw [Nat.add_comm 6 j]; simpa [six] using hj)
    rw [← Nat.add_assoc] at this
    exact this
end Go.Proofs.YtjmcaceegfdkkaaGreatDoor
namespace Go.Proofs.YtjmcaceegfdkkaaGreatDoor
open Go.RowKit Go.Maps
set_option linter.unusedVariables false
/-- Blocks of trees that were made behind w. -/
def NewT (w w' : World) (b : Nat) : Prop := w.heap.size ≤ b ∧ ∃ cs, w'.heap[b]? = some (Obj.cells cs TrT)
theorem IsK.newT {w w' : World} {B : Nat} {v : Value} {k : Fo} (h : IsK w' (NewT w w') v k) : IsK w' (Safe w' B) v k := h.keep fun b hb _ => ⟨.inr hb.2, rfl⟩
end Go.Proofs.YtjmcaceegfdkkaaGreatDoor
