/-
  A statement that leaves its order open, whose last operation turns what its reads have read: the operations in an order that is named; F holds up to the operation p.
  Trees in a row of the call's own: what is appended one behind the other.
  make of one, or two, trees.
  Trees in new memory; what a term's tree is.
-/
import Derived.Test.YtgaklaajbepfaaaGreatDoorTChain
import Derived.Test.YtgaklaajbepfaaaGreatDoorTParts
import Derived.Test.YtgaklaajbepfaaaGreatDoorTApp
import Derived.Test.YtgaklaajbepfaaaGreatDoorTFor
import Derived.Test.YtgaklaajbepfaaaGreatDoorTKit
import Derived.Test.YtgaklaajbepfaaaGreatDoorTGrow
namespace Go.Proofs.YtgaklaajbepfaaaGreatDoor
open Go.RowKit
set_option linter.unusedVariables false

section
variable {P : Program} {ops : Array Oper} {Q : Exit → Act → World → Prop} {md : Region.Mode} {F : World → Prop} {p : Nat}

def wpAnyG (P : Program) (md : Region.Mode) (ops : Array Oper) (Q : Exit → Act → World → Prop) (F : World → Prop) (p : Nat) : Nat → Array Bool → Act → World → Prop
  | 0, listed, a, w => Region.ready md ops listed = [] ∧ Q .normal a w
  | fuel + 1, listed, a, w =>
    (Region.ready md ops listed = [] → Q .normal a w) ∧
    ∀ i ∈ Region.ready md ops listed, wpOp P ops Q i (fun a' w' => (i ≠ p → F w') ∧ wpAnyG P md ops Q F p fuel (listed.setIfInBounds i true) a' w') a w

theorem wpAny_of_g : ∀ (fuel : Nat) (listed : Array Bool) (a : Act) (w : World), wpAnyG P md ops Q F p fuel listed a w → wpAny P md ops Q fuel listed a w
  | 0, _, _, _, h => h
  | fuel + 1, _, _, _, h => ⟨h.1, fun i hi => wpOp_mono (fun a' w' h' => wpAny_of_g fuel _ a' w' h'.2) (h.2 i hi)⟩

theorem wpAnyG_first {i : Nat} {oi : Oper} {v : Value} (hi : ops[i]? = some oi) (hsel : ∀ (j : Nat) (o : Oper) cs b, ops[j]? = some o → o.op ≠ .select cs b)
    (hQ : ∀ c a w, Q (.panic c) (a.put oi.dst v) w → Q (.panic c) a w) (hip : i ≠ p) (hwait : ∀ op, ops[p]? = some op → ∃ e ∈ op.after, Region.binds md e = true ∧ e.on = i) :
    ∀ (fuel : Nat) (listed : Array Bool) (a : Act) (w : World),
      (∀ j oj, ops[j]? = some oj → j ≠ i → listed.getD j true = false → (∀ e ∈ oj.after, Region.binds md e = true → e.on ≠ i) → oi.apart ops oj = true) →
      i ∈ Region.ready md ops listed → YieldsIf P ops F oi v a → F w →
      wpAnyG P md ops Q F p fuel (listed.setIfInBounds i true) (a.put oi.dst v) w → wpAnyG P md ops Q F p (fuel + 1) listed a w := by
  intro fuel
  induction fuel with
  | zero =>
    intro listed a w _ hr hy hS H
    refine ⟨fun h => (by rw [h] at hr; cases hr), fun j hj => ?_⟩
    by_cases hji : j = i
    · subst hji; exact hy.wpOp hi hS ⟨fun _ => hS, H⟩
    · have := ready_mono hj hji
      rw [H.1] at this
      cases this
  | succ fuel ih =>
    intro listed a w hfree hr hy hS H
    refine ⟨fun h => (by rw [h] at hr; cases hr), fun j hj => ?_⟩
    by_cases hji : j = i
    · subst hji; exact hy.wpOp hi hS ⟨fun _ => hS, H⟩
    · have h1 := H.2 j (ready_mono hj hji)
      obtain ⟨hjun, oj, hoj, hall⟩ := mem_ready.1 hj
      have hnot : ∀ e ∈ oj.after, Region.binds md e = true → e.on ≠ i := fun e he hb heq => by
        have h1 := hall e he hb
        have h0 := (mem_ready.1 hr).1
        rw [heq] at h1
        rcases Nat.lt_or_ge i listed.size with h' | h'
        · simp [h'] at h0 h1; rw [h0] at h1; cases h1
        · simp [Array.getElem?_eq_none h'] at h1
      have hjp : j ≠ p := fun e => by
        subst e
        obtain ⟨e, he, hb, ho⟩ := hwait oj hoj
        exact hnot e he hb ho
      have h2 := wpOp_putIf hoj (hfree j oj hoj hji hjun hnot) (fun cs b => hsel i oi cs b hi) (fun cs b => hsel j oj cs b hoj) hQ hy h1
      have hfree' : ∀ k ok, ops[k]? = some ok → k ≠ i → (listed.setIfInBounds j true).getD k true = false →
          (∀ e ∈ ok.after, Region.binds md e = true → e.on ≠ i) → oi.apart ops ok = true := fun k ok hk hki hun hno => by
        refine hfree k ok hk hki ?_ hno
        by_cases hjk : j = k
        · subst hjk; exact hjun
        · rw [getD_set_ne true hjk] at hun; exact hun
      refine wpOp_mono (fun a' w' h3 => ⟨h3.2.1, ih (listed.setIfInBounds j true) a' w' hfree' (ready_mono hr (Ne.symm hji)) h3.1 (h3.2.1 hjp) ?_⟩) h2
      rw [Array.setIfInBounds_comm _ _ hji]
      exact h3.2.2

/-- 'wpAnyG', the operations that are still to come beside it. -/
def LexG (P : Program) (md : Region.Mode) (ops : Array Oper) (Q : Exit → Act → World → Prop) (F : World → Prop) (p : Nat) (_rest : List Oper) (fuel : Nat) (listed : Array Bool) (a : Act) (w : World) : Prop := wpAnyG P md ops Q F p fuel listed a w

theorem lexg_start (is : List Nat) (p : Nat) {l : List Oper} {id : Nat} {a : Act} {w : World} (hm : P.follows .mixedOrders = true)
    (h : LexG P .any l.toArray (NoPanic Q) F p (inOrder l is) l.length (Array.replicate l.length false) a w.drew) : (Code.region id l.toArray true).wp P Q a w :=
  wp_region_noPanic (wp_region_any hm (wpAny_of_g _ _ _ _ (by simpa [LexG] using h)))
theorem lexg_take {i : Nat} {o : Oper} {rest : List Oper} {fuel : Nat} {listed : Array Bool} {a : Act} {w : World} {v : Value} (hi : ops[i]? = some o) (hip : i ≠ p)
    (hn : Region.noSelect ops = true) (hf : Region.free md ops listed i = true) (hr : (Region.ready md ops listed).contains i = true) (hwt : ((ops[p]?.map fun op => op.after.any fun e => Region.binds md e && e.on == i).getD true) = true)
    (hw : Region.wanted o (yielded ops a.tmps) = true) (hS : F w) (hy : ∀ W, F W → (execOp a.eval o).run P W = .ok (.value v) W)
    (h : LexG P md ops (NoPanic Q) F p rest fuel (listed.setIfInBounds i true) (a.put o.dst v) w) : LexG P md ops (NoPanic Q) F p (o :: rest) (fuel + 1) listed a w :=
  wpAnyG_first hi (Region.noSelect_spec hn) (fun _ _ _ h => h) hip (fun op hop => by
    rw [hop] at hwt
    simp only [Option.map_some, Option.getD_some, Array.any_eq_true'] at hwt
    obtain ⟨e, he, hb⟩ := hwt
    simp only [Bool.and_eq_true, beq_iff_eq] at hb
    exact ⟨e, he, hb.1, hb.2⟩) fuel listed a w (Region.free_spec hi hf) (by simpa using hr) (Or.inl ⟨hw, hy⟩) hS h
theorem lexg_call {i : Nat} {o : Oper} {rest : List Oper} {fuel : Nat} {listed : Array Bool} {a : Act} {w : World} {f : FuncId} {vals : Array Value}
    (hi : ops[i]? = some o) (hr : Region.ready md ops listed = [i]) (hw : Region.wanted o (yielded ops a.tmps) = true)
    (hx : (execOp a.eval o).run P w = .ok (.enter f vals) w) (R : Ending → World → Prop) (hc : Calls P f vals w R)
    (h : ∀ e w', R e w' → ∃ v, e = .returned v ∧ (i ≠ p → F w') ∧ LexG P md ops Q F p rest fuel (listed.setIfInBounds i true) (a.put o.dst v) w') : LexG P md ops Q F p (o :: rest) (fuel + 1) listed a w := by
  refine ⟨fun h0 => (by rw [hr] at h0; cases h0), fun j hj => ?_⟩
  rw [hr, List.mem_singleton] at hj
  subst hj
  unfold wpOp
  simp only [hi, hw, if_true, Oper.wp, hx, Oper.upon]
  refine .inl (hc.mono fun e w' hR => ?_)
  obtain ⟨v, rfl, h1, h2⟩ := h e w' hR
  exact ⟨h1, h2⟩
theorem lexg_do {i : Nat} {o : Oper} {rest : List Oper} {fuel : Nat} {listed : Array Bool} {a : Act} {w : World}
    (hi : ops[i]? = some o) (hr : Region.ready md ops listed = [i]) (hw : Region.wanted o (yielded ops a.tmps) = true)
    (h : ∀ K : Act → World → Prop, (∀ a' w', (i ≠ p → F w') ∧ LexG P md ops Q F p rest fuel (listed.setIfInBounds i true) a' w' → K a' w') → Oper.wp P o a w K Q) : LexG P md ops Q F p (o :: rest) (fuel + 1) listed a w := by
  refine ⟨fun h0 => (by rw [hr] at h0; cases h0), fun j hj => ?_⟩
  rw [hr, List.mem_singleton] at hj
  subst hj
  unfold wpOp
  simp only [hi, hw, if_true]
  exact .inl (h _ fun a' w' h => h)
theorem lexg_done {listed : Array Bool} {a : Act} {w : World} {fuel : Nat} (hr : Region.ready md ops listed = []) (h : Q .normal a w) : LexG P md ops (NoPanic Q) F p [] fuel listed a w := by
  cases fuel with
  | zero => exact ⟨hr, NoPanic.normal h⟩
  | succ n => exact ⟨fun _ => NoPanic.normal h, fun i hi => by rw [hr] at hi; cases hi⟩
end
end Go.Proofs.YtgaklaajbepfaaaGreatDoor
namespace Go.Proofs.YtgaklaajbepfaaaGreatDoor
open Go.RowKit Go.Maps
set_option linter.unusedVariables false

theorem rowTree : (Tryz.prog.info? TrT).map (fun i => (i.zero, i.size, i.bytes)) = some (some (.agg #[.int .i64 0, .int .i64 0, .int .i64 0, .int .u64 0, .string ⟨#[]⟩, .slice none 0 0]), 6, 72) := by kernel_rfl
theorem news6 (w : World) (x0 x1 x2 x3 x4 x5 : Value) (T : TypeId) : ∀ j u, [x0, x1, x2, x3, x4, x5][j]? = some u → (w.alloc (.cells #[x0, x1, x2, x3, x4, x5] T)).cell? ((⟨w.heap.size, 0, none⟩ : Addr).add j) = some u := by
  intro j u hj
  have hadd : (⟨w.heap.size, 0, none⟩ : Addr).add j = ⟨w.heap.size, j, none⟩ := by unfold Addr.add; split <;> simp_all
  rw [hadd, World.cell?, heap_alloc_new w _]
  simpa using hj

def six (n : Nd) (v : Value) : List Value := [.int .i64 n.kind, .int .i64 n.frm, .int .i64 n.to, .int .u64 n.num, .string n.text, v]
/-- These cells are those of these trees. -/
def RowF (w : World) (G : Nat → Prop) : List (Nd × Fo) → List Value → Prop
  | [], xs => xs = []
  | x :: l, xs => ∃ v ys, xs = six x.1 v ++ ys ∧ IsK w G v x.2 ∧ RowF w G l ys
theorem RowF.length {w : World} {G : Nat → Prop} : ∀ {l : List (Nd × Fo)} {xs : List Value}, RowF w G l xs → xs.length = l.length * 6
  | [], _, rfl => rfl
  | x :: l, _, ⟨v, ys, rfl, _, h⟩ => by have := RowF.length h; simp [six, this]; omega
theorem RowF.keep {w w' : World} {G G' : Nat → Prop} (hk : ∀ b, G b → b < w.heap.size → G' b ∧ w'.heap[b]? = w.heap[b]?) : ∀ {l : List (Nd × Fo)} {xs : List Value}, RowF w G l xs → RowF w' G' l xs
  | [], _, h => h
  | x :: l, _, ⟨v, ys, e, h1, h2⟩ => ⟨v, ys, e, h1.keep hk, RowF.keep hk h2⟩
theorem RowF.snoc {w : World} {G : Nat → Prop} {n : Nd} {k : Fo} {v : Value} (hv : IsK w G v k) : ∀ {l : List (Nd × Fo)} {xs : List Value}, RowF w G l xs → RowF w G (l ++ [(n, k)]) (xs ++ six n v)
  | [], _, rfl => ⟨v, [], by simp, hv, rfl⟩
  | x :: l, _, ⟨u, ys, e, h1, h2⟩ => ⟨u, ys ++ six n v, by rw [e, List.append_assoc], h1, RowF.snoc hv h2⟩
theorem RowF.at {w : World} {G : Nat → Prop} {b : Nat} : ∀ {l : List (Nd × Fo)} {xs : List Value} {off : Nat}, RowF w G l xs → (∀ j u, xs[j]? = some u → w.cell? ⟨b, off + j, none⟩ = some u) → AtF w G (foOf l) b off
  | [], _, _, _, _ => trivial
  | x :: l, _, off, ⟨v, ys, rfl, h1, h2⟩, hc => by
    have c0 := hc 0 _ (by simp [six]; rfl)
    have c1 := hc 1 _ (by simp [six]; rfl)
    have c2 := hc 2 _ (by simp [six]; rfl)
    have c3 := hc 3 _ (by simp [six]; rfl)
    have c4 := hc 4 _ (by simp [six]; rfl)
    have c5 := hc 5 _ (by simp [six]; rfl)
    refine AtF.mk c0 c1 c2 c3 c4 c5 h1 (RowF.at h2 fun j u hj => ?_)
    have := hc (6 + j) u (by rw [Nat.add_comm 6 j]; simpa [six] using hj)
    rw [← Nat.add_assoc] at this
    exact this
/-- A list of trees and what follows. -/
def foApp : List (Nd × Fo) → Fo → Fo
  | [], r => r
  | x :: l, r => .cons x.1 x.2 (foApp l r)
theorem foApp_snoc (l : List (Nd × Fo)) (n : Nd) (k r : Fo) : foApp (l ++ [(n, k)]) r = foApp l (.cons n k r) := by
  induction l with
  | nil => rfl
  | cons x l ih => simp [foApp, ih]
theorem foApp_nil (l : List (Nd × Fo)) : foApp l .nil = foOf l := by
  induction l with
  | nil => rfl
  | cons x l ih => simp [foApp, foOf, ih]
/-- A row of the call's own as a slice of trees; it may have one more. -/
theorem isK_row {w : World} {G : Nat → Prop} {base m : Nat} {v : Value} {a : Option Addr} {c : Nat} {l : List (Nd × Fo)} {xs zs : List Value} (ho : w.ownsRow base TrT 6 v m (xs ++ zs)) (hv : v = .slice a m c) (hm : l.length ≤ m) (hr : RowF w G l xs) (hg : ∀ b, v.ownBlock = some b → G b) : IsK w G (.slice a l.length c) (foOf l) := by
  have hrow := row_of_own ho
  obtain ⟨_, hr2⟩ := hrow
  subst hv
  rcases hr2 with ⟨e, h0⟩ | ⟨b, off, cap, e, h3, h4, h5, h6⟩
  · cases e
    obtain rfl : l = [] := List.eq_nil_of_length_eq_zero (by omega)
    exact IsK.nils _ _ _ _ (Nat.zero_le _)
  · cases e
    refine ⟨_, _, by rw [foOf_len], by rw [foOf_len]; omega, h5, fun _ => ?_⟩
    have hb : (Value.slice (some (⟨b, off, none⟩ : Addr)) m c).ownBlock = some b := rfl
    refine ⟨b, off, rfl, hg b hb, RowF.at hr fun j u hj => h6 j u ?_⟩
    rw [List.getElem?_append_left (List.getElem?_eq_some_iff.1 hj).1]
    exact hj
end Go.Proofs.YtgaklaajbepfaaaGreatDoor
namespace Go.Proofs.YtgaklaajbepfaaaGreatDoor
open Go.RowKit
set_option maxRecDepth 100000 in
theorem mk_one (W : World) : (Instr.makeSlice TreesT (.int .i64 1) (.int .i64 1)).run Tryz.prog W = .ok (.slice (some ⟨W.heap.size, 0, none⟩) 1 1) (W.alloc (.cells #[.int .i64 0, .int .i64 0, .int .i64 0, .int .u64 0, .string ⟨#[]⟩, .slice none 0 0] TrT)) := by kernel_rfl
set_option maxRecDepth 100000 in
theorem mk_two (W : World) : (Instr.makeSlice TreesT (.int .i64 2) (.int .i64 2)).run Tryz.prog W = .ok (.slice (some ⟨W.heap.size, 0, none⟩) 2 2) (W.alloc (.cells #[.int .i64 0, .int .i64 0, .int .i64 0, .int .u64 0, .string ⟨#[]⟩, .slice none 0 0, .int .i64 0, .int .i64 0, .int .i64 0, .int .u64 0, .string ⟨#[]⟩, .slice none 0 0] TrT)) := by kernel_rfl
end Go.Proofs.YtgaklaajbepfaaaGreatDoor
namespace Go.Proofs.YtgaklaajbepfaaaGreatDoor
open Go.RowKit Go.Maps
set_option linter.unusedVariables false

/-- Blocks of trees that were made behind w. -/
def NewT (w w' : World) (b : Nat) : Prop := w.heap.size ≤ b ∧ ∃ cs, w'.heap[b]? = some (Obj.cells cs TrT)
/-- Blocks of trees from B on, but one. -/
def ButT (B : Nat) (o : Option Nat) (w : World) (b : Nat) : Prop := B ≤ b ∧ o ≠ some b ∧ ∃ cs, w.heap[b]? = some (Obj.cells cs TrT)
theorem cell_grow' {w w' : World} {b o : Nat} {u : Value} {row : Option Nat} (h : w.cell? ⟨b, o, none⟩ = some u) (hg : w.grownBy w' row) (hn : row ≠ some b) : w'.cell? ⟨b, o, none⟩ = some u := by
  rw [cell_of_heap (hg.block b (World.block_lt_of_cell? w _ h) (fun e => hn e.symm))]; exact h
theorem foApp_size : ∀ (l : List (Nd × Fo)) (r : Fo), r.size ≤ (foApp l r).size
  | [], _ => Nat.le_refl _
  | x :: l, r => by have := foApp_size l r; simp only [foApp, Fo.size]; omega
theorem IsK.newT {w w' : World} {B : Nat} {v : Value} {k : Fo} (h : IsK w' (NewT w w') v k) : IsK w' (Safe w' B) v k := h.keep fun b hb _ => ⟨.inr hb.2, rfl⟩
def bareN (n : Nd) : Nd := ⟨n.kind, n.frm, n.to, n.num, n.text, 0, 0⟩
def GK (kb : Nat) (w : World) (b : Nat) : Prop := kb < b ∧ ∃ cs, w.heap[b]? = some (Obj.cells cs TrT)
def kaOf : Nat → Nd → List Int
  | 0, _ => []
  | 1, n => [n.a]
  | _ + 2, n => [n.a, n.b]
theorem node_kids {p : Pl} (hp : Ok p) {t : Int} (hin : inP p t = true) {K : Nat} (h2 : kidsN (atP p t).1.kind = K) : (atP p t).1 = nodeOf (bareN (atP p t).1) (kaOf K (atP p t).1) := by
  obtain ⟨i, hi, rfl, e⟩ := atP_get hin
  have he := hp.mem _ (List.getElem_mem hi)
  rw [← e] at he
  have hs : shp (atP p ((i : Int) + 1)).1 = 0 := by
    unfold errP at he
    by_cases h : shp (atP p ((i : Int) + 1)).1 ≠ 0
    · rw [if_pos h] at he; exact absurd he h
    · simpa using h
  obtain ⟨ka, kb⟩ := kids_of_plain hs
  have hk2 := kidsN_le (atP p ((i : Int) + 1)).1.kind
  generalize (atP p ((i : Int) + 1)).1 = n at *
  rw [h2] at ka kb hk2
  obtain ⟨kk, ff, tt, uu, ss, xa, xb⟩ := n
  match K, hk2 with
  | 0, _ => simp only [kaOf, nodeOf, bareN, List.getD_nil, Nd.mk.injEq, true_and]; exact ⟨ka rfl, kb (by decide)⟩
  | 1, _ => simp only [kaOf, nodeOf, bareN, List.getD_cons_zero, List.getD_cons_succ, List.getD_nil, Nd.mk.injEq, true_and]; exact kb (by decide)
  | 2, _ => rfl
theorem kids_in {p : Pl} (hp : Ok p) {t : Int} (hin : inP p t = true) : (1 ≤ kidsN (atP p t).1.kind → inP p (atP p t).1.a = true) ∧ (kidsN (atP p t).1.kind = 2 → inP p (atP p t).1.b = true) := by
  obtain ⟨i, hi, rfl, e⟩ := atP_get hin
  have he := hp.mem _ (List.getElem_mem hi)
  rw [← e] at he
  generalize (atP p ((i : Int) + 1)).1 = n at *
  unfold errP at he
  by_cases h : shp n ≠ 0
  · rw [if_pos h] at he; exact absurd he h
  · rw [if_neg h] at he
    by_cases h2 : kidsBad p n = true
    · rw [if_pos h2] at he; cases he
    · have h2' : kidsBad p n = false := by simpa using h2
      unfold kidsBad at h2'
      simp only [Bool.or_eq_false_iff, Bool.and_eq_false_iff, decide_eq_false_iff_not, Bool.not_eq_false', beq_eq_false_iff_ne] at h2'
      exact ⟨fun h => h2'.1.resolve_left (fun g => g h), fun h => h2'.2.resolve_left (fun g => g h)⟩
theorem pool_turn6 {w : World} {B a b : Nat} {vv : Value} {p : Pl} {kb : Nat} {cs : Array Value} {T : TypeId} {o0 o1 o2 o3 o4 o5 : Nat} {u0 u1 u2 u3 u4 u5 : Value} {w6 : World} (h : IsPool w B a b vv p) (hk : w.heap[kb]? = some (Obj.cells cs T)) (h1 : T ≠ PoolT) (h2 : T ≠ MadeT)
    (e : w6 = (((((w.setCell ⟨kb, o0, none⟩ u0).setCell ⟨kb, o1, none⟩ u1).setCell ⟨kb, o2, none⟩ u2).setCell ⟨kb, o3, none⟩ u3).setCell ⟨kb, o4, none⟩ u4).setCell ⟨kb, o5, none⟩ u5) : IsPool w6 B a b vv p := by
  subst e
  have k1 := setCellB (j := o0) (u := u0) hk
  have k2 := setCellB (j := o1) (u := u1) k1
  have k3 := setCellB (j := o2) (u := u2) k2
  have k4 := setCellB (j := o3) (u := u3) k3
  have k5 := setCellB (j := o4) (u := u4) k4
  exact (((((h.turn u0 hk h1 h2).turn u1 k1 h1 h2).turn u2 k2 h1 h2).turn u3 k3 h1 h2).turn u4 k4 h1 h2).turn u5 k5 h1 h2

/-- What Tree answers. -/
def TreePost (w : World) (p : Pl) (t : Int) (e : Ending) (w' : World) : Prop := ∃ n k v, e = .returned (.agg (treeA n v)) ∧ IsK w' (NewT w w') v k ∧ OkF (.cons n k .nil) ∧ Below w.heap.size w w' ∧ (inP p t = true → RepF p [t] (.cons n k .nil)) ∧ (inP p t = false → n = zeroN ∧ k = .nil)
theorem Ok.less {p : Pl} (h : Ok p) : ∀ i (hi : i < p.length), (p[i]).1.a ≤ i ∧ (p[i]).1.b ≤ i := by
  induction h with
  | nil => intro i hi; simp at hi
  | @add p n hp he hn hl ih =>
    intro i hi
    rcases Nat.lt_or_ge i p.length with hlt | hge
    · have e : ((addP p n)[i]).1 = (p[i]).1 := by simp [addP, List.getElem_append_left hlt]
      rw [e]; exact ih i hlt
    · have e : i = p.length := by simp [addP] at hi; omega
      subst e
      have e : ((addP p n)[p.length]).1 = n := by simp [addP]
      rw [e]
      have hk := kid_in he
      have key : ∀ t, (t = 0 ∨ inP p t = true) → t ≤ (p.length : Int) := fun t ht => by
        rcases ht with rfl | ht
        · omega
        · simp only [inP, Bool.and_eq_true, decide_eq_true_eq] at ht; omega
      exact ⟨key _ hk.1, key _ hk.2⟩
theorem Ok.less_at {p : Pl} (h : Ok p) {t : Int} (ht : inP p t = true) : (atP p t).1.a < t ∧ (atP p t).1.b < t := by
  obtain ⟨i, hi, rfl, e⟩ := atP_get ht
  have := h.less i hi
  rw [e]; omega
end Go.Proofs.YtgaklaajbepfaaaGreatDoor
