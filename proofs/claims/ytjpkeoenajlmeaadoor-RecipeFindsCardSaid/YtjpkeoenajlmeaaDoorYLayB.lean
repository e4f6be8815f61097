/-
  How a proof is laid, as a relation: what is laid already, and for what; one answer alone.
  How a proof is laid: one term.
  How a proof is laid: a term that is made.
  Proof: the program's own.
-/
import Derived.Test.YtjpkeoenajlmeaaDoorEKnowP
import Derived.Test.YtjpkeoenajlmeaaDoorEDer
import Derived.Test.YtjpkeoenajlmeaaDoorYFol
namespace Go.Proofs.YtjpkeoenajlmeaaDoor
set_option linter.unusedVariables false

/-- Behind the steps L the term u is laid: at the place i of the steps L'. -/
inductive LayR (p : Pl) (s : Int → Option Way) : Int → List St → Nat → List St → Prop where
  | old {u : Int} {L : List St} {i : Nat} : posL L u = some i → LayR p s u L i L
  | free {u : Int} {L : List St} : posL L u = none → freeB (atP p u).1.kind = true → LayR p s u L L.length (L ++ [⟨4, 0, 0, u⟩])
  | given {u : Int} {L : List St} : posL L u = none → freeB (atP p u).1.kind = false → s u = some (0, 0) → LayR p s u L L.length (L ++ [⟨0, 0, 0, u⟩])
  | way {u wr wy : Int} {L L1 : List St} {i : Nat} : posL L u = none → freeB (atP p u).1.kind = false → s u = some (wr, wy) → wy ≠ 0 → LayR p s wy L i L1 → LayR p s u L L1.length (L1 ++ [⟨wr, (i : Int), 0, u⟩])
  | one {u pa pb : Int} {L L1 : List St} {i : Nat} : posL L u = none → freeB (atP p u).1.kind = false → s u = none → partP p (atP p u).1 = (pa, pb, true) → pb = 0 → LayR p s pa L i L1 → LayR p s u L L1.length (L1 ++ [⟨5, (i : Int), 0, u⟩])
  | two {u pa pb : Int} {L L1 L2 : List St} {i j : Nat} : posL L u = none → freeB (atP p u).1.kind = false → s u = none → partP p (atP p u).1 = (pa, pb, true) → pb ≠ 0 → LayR p s pa L i L1 → LayR p s pb L1 j L2 → LayR p s u L L2.length (L2 ++ [⟨5, (i : Int), (j : Int), u⟩])
/-- What is laid is told by what it is laid for and behind. -/
theorem LayR.det {p : Pl} {s : Int → Option Way} {u : Int} {L L1 : List St} {i : Nat} (h : LayR p s u L i L1) : ∀ {k : Nat} {M : List St}, LayR p s u L k M → i = k ∧ L1 = M := by
  induction h with
  | old h1 =>
    intro k M h
    cases h with
    | old h2 => rw [h1] at h2; cases h2; exact ⟨rfl, rfl⟩
    | free h2 => rw [h1] at h2; cases h2
    | given h2 => rw [h1] at h2; cases h2
    | way h2 => rw [h1] at h2; cases h2
    | one h2 => rw [h1] at h2; cases h2
    | two h2 => rw [h1] at h2; cases h2
  | free h1 f1 =>
    intro k M h
    cases h with
    | old h2 => rw [h1] at h2; cases h2
    | free h2 => exact ⟨rfl, rfl⟩
    | given h2 f2 => rw [f1] at f2; cases f2
    | way h2 f2 => rw [f1] at f2; cases f2
    | one h2 f2 => rw [f1] at f2; cases f2
    | two h2 f2 => rw [f1] at f2; cases f2
  | given h1 f1 s1 =>
    intro k M h
    cases h with
    | old h2 => rw [h1] at h2; cases h2
    | free h2 f2 => rw [f1] at f2; cases f2
    | given h2 => exact ⟨rfl, rfl⟩
    | way h2 f2 s2 y2 => rw [s1] at s2; cases s2; exact absurd rfl y2
    | one h2 f2 s2 => rw [s1] at s2; cases s2
    | two h2 f2 s2 => rw [s1] at s2; cases s2
  | way h1 f1 s1 y1 _ ih =>
    intro k M h
    cases h with
    | old h2 => rw [h1] at h2; cases h2
    | free h2 f2 => rw [f1] at f2; cases f2
    | given h2 f2 s2 => rw [s1] at s2; cases s2; exact absurd rfl y1
    | way h2 f2 s2 y2 l2 =>
      rw [s1] at s2; cases s2
      obtain ⟨rfl, rfl⟩ := ih l2
      exact ⟨rfl, rfl⟩
    | one h2 f2 s2 => rw [s1] at s2; cases s2
    | two h2 f2 s2 => rw [s1] at s2; cases s2
  | one h1 f1 s1 p1 b1 _ ih =>
    intro k M h
    cases h with
    | old h2 => rw [h1] at h2; cases h2
    | free h2 f2 => rw [f1] at f2; cases f2
    | given h2 f2 s2 => rw [s1] at s2; cases s2
    | way h2 f2 s2 => rw [s1] at s2; cases s2
    | one h2 f2 s2 p2 b2 l2 =>
      rw [p1] at p2; cases p2
      obtain ⟨rfl, rfl⟩ := ih l2
      exact ⟨rfl, rfl⟩
    | two h2 f2 s2 p2 b2 => rw [p1] at p2; cases p2; exact absurd b1 b2
  | two h1 f1 s1 p1 b1 _ _ iha ihb =>
    intro k M h
    cases h with
    | old h2 => rw [h1] at h2; cases h2
    | free h2 f2 => rw [f1] at f2; cases f2
    | given h2 f2 s2 => rw [s1] at s2; cases s2
    | way h2 f2 s2 => rw [s1] at s2; cases s2
    | one h2 f2 s2 p2 b2 => rw [p1] at p2; cases p2; exact absurd b2 b1
    | two h2 f2 s2 p2 b2 l2 m2 =>
      rw [p1] at p2; cases p2
      obtain ⟨rfl, rfl⟩ := iha l2
      obtain ⟨rfl, rfl⟩ := ihb m2
      exact ⟨rfl, rfl⟩
end Go.Proofs.YtjpkeoenajlmeaaDoor
namespace Go.Proofs.YtjpkeoenajlmeaaDoor
open Go.RowKit Go.Maps
set_option linter.unusedVariables false

abbrev NumT : TypeId := 95
abbrev PKnowT : TypeId := 49
abbrev FnT : TypeId := 66
abbrev SlStT : TypeId := 53
abbrev StT : TypeId := 98
def stA (s : St) : Array Value := #[.int .i64 s.r, .int .i64 s.a, .int .i64 s.b, .int .i64 s.t]
def stC (s : St) : List Value := [.int .i64 s.r, .int .i64 s.a, .int .i64 s.b, .int .i64 s.t]
def sts (l : List St) : List Value := l.flatMap stC
theorem sts_length (l : List St) : (sts l).length = l.length * 4 := by
  induction l with
  | nil => rfl
  | cons a l ih => simp [sts, stC, List.flatMap_cons] at ih ⊢; omega
theorem sts_append (a b : List St) : sts (a ++ b) = sts a ++ sts b := by simp [sts]
theorem sts_at (l : List St) : ∀ (i : Nat) (h : i < l.length), (sts l)[i * 4]? = some (.int .i64 (l[i]).r) ∧ (sts l)[i * 4 + 1]? = some (.int .i64 (l[i]).a) ∧ (sts l)[i * 4 + 2]? = some (.int .i64 (l[i]).b) ∧ (sts l)[i * 4 + 3]? = some (.int .i64 (l[i]).t) := by
  induction l with
  | nil => intro i h; simp at h
  | cons a l ih =>
    intro i h
    have e : sts (a :: l) = .int .i64 a.r :: .int .i64 a.a :: .int .i64 a.b :: .int .i64 a.t :: sts l := by simp [sts, stC]
    cases i with
    | zero => simp [e]
    | succ i =>
      have := ih i (by simpa using h)
      have hx : ∀ j, (sts (a :: l))[(i + 1) * 4 + j]? = (sts l)[i * 4 + j]? := fun j => by
        rw [e, show (i + 1) * 4 + j = i * 4 + j + 1 + 1 + 1 + 1 by omega]
        simp
      have h0 := hx 0
      simp only [Nat.add_zero] at h0
      rw [h0, hx 1, hx 2, hx 3]
      simpa using this
theorem andB {x y : Bool} : (x && y) = true ↔ x = true ∧ y = true := by simp
theorem rowSt : (Tryd.prog.info? StT).map (fun i => (i.zero, i.size, i.bytes)) = some (some (.agg #[.int .i64 0, .int .i64 0, .int .i64 0, .int .i64 0]), 4, 32) := by kernel_rfl
theorem zeroI (w : World) : (zeroValue IntT).run Tryd.prog w = .ok (.int .i64 0) w := by kernel_rfl
/-- append of one step to a list of the call's own, and where the answer lies. -/
theorem wpList_append_st {w : World} {ops : Array Oper} {rest : List Oper} {o : Oper} {a : Act} {Q : Exit → Act → World → Prop} (hg : o.guard = none) (s x : Operand)
    (ho : o.op = .call { callee := .builtin .append, args := #[s, x], argTypes := #[SlStT, SlStT] })
    (base : Nat) (v : Value) (xs : List St) (hs : a.eval s = v) (hown : w.ownsRow base StT 4 v xs.length (sts xs)) (b : Nat) (t : St) (hx : a.eval x = .slice (some ⟨b, 0, none⟩) 1 1) (hb : w.heap[b]? = some (Obj.cells (stA t) StT))
    (hlen : xs.length ≤ 1000000) (hbase : base ≤ w.heap.size)
    (h : ∀ v' w', w'.ownsRow base StT 4 v' (xs ++ [t]).length (sts (xs ++ [t])) → w.grownBy w' v.ownBlock → (v'.ownBlock = v.ownBlock ∨ v'.ownBlock = some w.heap.size) → wpList Tryd.prog ops Q rest (a.put o.dst v') w') : wpList Tryd.prog ops Q (o :: rest) a w := by
  obtain ⟨i0, hi, hz0, hz1, hz2⟩ := info_parts rowSt
  refine wpList_append_at w hg s x SlStT ho base StT i0 (.agg #[.int .i64 0, .int .i64 0, .int .i64 0, .int .i64 0]) 4 32 Tryd.underlying53 hi hz0 hz1 hz2 rfl (by decide) v _ _ hs hown ⟨b, 0, none⟩ 1 1 (stC t) hx (by decide) rfl (fun j u hj => by
    have hadd : (⟨b, 0, none⟩ : Addr).add j = ⟨b, j, none⟩ := by unfold Addr.add; split <;> simp_all
    rw [hadd]
    refine cellB hb ?_
    rw [← hj]; simp [stA, stC]) (by simp [stC]; exact ⟨rfl, rfl, rfl, rfl⟩) (by unfold maxLen; omega) (by omega) hbase ?_
  intro v' w' h6 h7 h8
  exact h v' w' (by simpa [sts_append, sts] using h6) h7 h8

/-- The numbers of the steps, in memory. -/
def NumM (w : World) (nm : Nat) (L : List St) : Prop := ∃ D : DataW Unit, w.ownsMap Tryd.prog TermT (plainElem Tryd.prog IntT) nm L.length D ∧ ∀ x, i64R x → Maps.has D (.int .i64 x) = (posL L x).isSome ∧ D.atKey (.int .i64 x) (.lit (.int .i64 0)) = .lit (.int .i64 (((posL L x).getD 0 : Nat) : Int))
theorem NumM.new (w : World) : NumM (w.alloc (.map #[] 0)) w.heap.size [] := ⟨_, World.ownsMap_made w _ _ _, fun x _ => ⟨rfl, rfl⟩⟩
theorem NumM.same {w w' : World} {nm : Nat} {L : List St} (h : NumM w nm L) (hs : ∀ es c, w.heap[nm]? = some (.map es c) → w'.heap[nm]? = some (.map es c)) : NumM w' nm L := by
  obtain ⟨D, ⟨es, c, hb, r⟩, h2⟩ := h
  exact ⟨D, ⟨es, c, hs _ _ hb, r⟩, h2⟩
theorem NumM.mapb {w : World} {nm : Nat} {L : List St} (h : NumM w nm L) : ∃ es c, w.heap[nm]? = some (.map es c) := by
  obtain ⟨D, ⟨es, c, hb, _⟩, _⟩ := h
  exact ⟨es, c, hb⟩
theorem NumM.below {w w' : World} {nm : Nat} {L : List St} (h : NumM w nm L) (hb : Below w.heap.size w w') : NumM w' nm L :=
  h.same fun es c hm => by rw [hb.block nm (Array.getElem?_eq_some_iff.1 hm).1]; exact hm
theorem NumM.look {w : World} {nm : Nat} {L : List St} (h : NumM w nm L) {x : Int} (hx : i64R x) : (Instr.lookup NumT (.map (some nm)) (.int .i64 x) true).run Tryd.prog w = .ok (.tuple #[.int .i64 (((posL L x).getD 0 : Nat) : Int), .bool (posL L x).isSome]) w := by
  obtain ⟨D, h1, h2⟩ := h
  obtain ⟨v, ps, hr, hv⟩ := h1.look_ok lawT Tryd.underlying95 (zeroI w) (plainElem_int Tryd.underlying3 (by decide)) (keyT hx)
  obtain ⟨m, rfl, h3, _⟩ := plainElem_int_inv Tryd.underlying3 hv
  rw [(h2 x hx).2] at h3
  simp at h3
  obtain ⟨rfl, _⟩ := h3
  rw [hr, (h2 x hx).1]
theorem NumM.look1 {w : World} {nm : Nat} {L : List St} (h : NumM w nm L) {x : Int} (hx : i64R x) : (Instr.lookup NumT (.map (some nm)) (.int .i64 x) false).run Tryd.prog w = .ok (.int .i64 (((posL L x).getD 0 : Nat) : Int)) w := by
  obtain ⟨D, h1, h2⟩ := h
  obtain ⟨c, hr, hc, _⟩ := h1.lookup_int lawT Tryd.underlying95 Tryd.underlying3 (zeroI w) (keyT hx)
  rw [(h2 x hx).2] at hc
  simp only [DataW.lit.injEq, Lit.int.injEq, true_and] at hc
  rw [hr, ← hc]
theorem NumM.put {w' : World} {nm : Nat} {L : List St} {D : DataW Unit} {s : St} (hm : IsMap D) (hD : ∀ x, i64R x → Maps.has D (.int .i64 x) = (posL L x).isSome ∧ D.atKey (.int .i64 x) (.lit (.int .i64 0)) = .lit (.int .i64 (((posL L x).getD 0 : Nat) : Int))) (hs : i64R s.t) (hn : posL L s.t = none)
    (h : w'.ownsMap Tryd.prog TermT (plainElem Tryd.prog IntT) nm (L.length + 1) (D.put (.int .i64 s.t) (.lit (.int .i64 (L.length : Int))))) : NumM w' nm (L ++ [s]) := by
  refine ⟨_, by simpa using h, fun x hx => ?_⟩
  rw [posL_snoc hn]
  by_cases e : x = s.t
  · subst e
    rw [has_put_same hm (lawT.key (keyT hx)), atKey_put_same hm (lawT.key (keyT hx)), if_pos rfl]; exact ⟨rfl, rfl⟩
  · rw [has_put_other (fun e' => e (by simpa using e')), atKey_put_other (fun e' => e (by simpa using e')), if_neg e]
    exact hD x hx
theorem GoodL.inp {p : Pl} {g : List Int} {R : Int → Prop} {L : List St} (h : GoodL p g R L) : ∀ s ∈ L, inP p s.t = true := by
  intro s hs
  obtain ⟨i, hi⟩ := List.getElem?_of_mem hs
  obtain ⟨hi', rfl⟩ := List.getElem?_eq_some_iff.1 hi
  have := h.fol i hi'
  unfold followsP at this
  exact (andB.1 this).1
theorem GoodL.len {p : Pl} {g : List Int} {R : Int → Prop} {L : List St} (h : GoodL p g R L) : L.length ≤ p.length := by
  have := nodup_in (p := p) h.nodup (fun x hx => by
    obtain ⟨s, hs, rfl⟩ := List.mem_map.1 hx
    exact h.inp s hs)
  simpa using this

/-- A proof under way, in memory. -/
structure IsLay (w : World) (n0 nbx kbx fbx lbx nm k : Nat) (lv : Value) (L : List St) : Prop where
  nb : w.heap[nbx]? = some (Obj.cells #[.map (some nm)] NumT)
  kb : w.heap[kbx]? = some (Obj.cells #[.pointer (some ⟨k, 0, none⟩)] PKnowT)
  fb : w.heap[fbx]? = some (Obj.cells #[.func (.func 49) #[] #[.pointer (some ⟨nbx, 0, none⟩), .pointer (some ⟨kbx, 0, none⟩), .pointer (some ⟨fbx, 0, none⟩), .pointer (some ⟨lbx, 0, none⟩)]] FnT)
  lb : w.heap[lbx]? = some (Obj.cells #[lv] SlStT)
  row : w.ownsRow n0 StT 4 lv L.length (sts L)
  num : NumM w nm L
  gl : n0 ≤ lbx
  gm : n0 ≤ nm
theorem IsLay.below {w w' : World} {n0 nbx kbx fbx lbx nm k : Nat} {lv : Value} {L : List St} (h : IsLay w n0 nbx kbx fbx lbx nm k lv L) (hb : Below w.heap.size w w') : IsLay w' n0 nbx kbx fbx lbx nm k lv L :=
  ⟨Hold.below hb _ _ h.nb, Hold.below hb _ _ h.kb, Hold.below hb _ _ h.fb, Hold.below hb _ _ h.lb, own_hold h.row (Hold.below hb), h.num.below hb, h.gl, h.gm⟩
/-- A cell of a block of its own has turned, of a step that is not one of the list. -/
theorem IsLay.set {w : World} {n0 nbx kbx fbx lbx nm k : Nat} {lv : Value} {L : List St} (h : IsLay w n0 nbx kbx fbx lbx nm k lv L) {sb : Nat} {cs : Array Value} (hs : w.heap[sb]? = some (Obj.cells cs StT)) (hn : lv.ownBlock ≠ some sb) (j : Nat) (u : Value) : IsLay (w.setCell ⟨sb, j, none⟩ u) n0 nbx kbx fbx lbx nm k lv L :=
  ⟨Hold.setCell hs (by decide) _ _ h.nb, Hold.setCell hs (by decide) _ _ h.kb, Hold.setCell hs (by decide) _ _ h.fb, Hold.setCell hs (by decide) _ _ h.lb,
    own_kept h.row (grownBy_set w sb j u) (fun r e => by cases e; exact hn), h.num.same (fun es c hm => by
      rw [Below.heap_setCell _ _ _ _ (fun e => by rw [show nm = sb from e, hs] at hm; cases hm)]
      exact hm), h.gl, h.gm⟩
/-- What laying leaves as it was. -/
structure KL (w : World) (lbx nm : Nat) (lv : Value) (w' : World) : Prop where
  size : w.heap.size ≤ w'.heap.size
  keep : ∀ j, j < w.heap.size → j ≠ lbx → j ≠ nm → lv.ownBlock ≠ some j → w'.heap[j]? = w.heap[j]?
/-- The list lies where it lay, or in a newer block. -/
def VN (w : World) (lv lv' : Value) : Prop := lv'.ownBlock = lv.ownBlock ∨ ∃ q, lv'.ownBlock = some q ∧ w.heap.size ≤ q
theorem VN.refl (w : World) (lv : Value) : VN w lv lv := .inl rfl
theorem VN.trans {A B : World} {x y z : Value} (hs : A.heap.size ≤ B.heap.size) (h : VN A x y) (k : VN B y z) : VN A x z := by
  rcases k with e | ⟨q, e, hq⟩
  · rcases h with e' | ⟨q, e', hq⟩
    · exact .inl (e.trans e')
    · exact .inr ⟨q, e.trans e', hq⟩
  · exact .inr ⟨q, e, Nat.le_trans hs hq⟩
theorem KL.of {w w' : World} {lbx nm : Nat} {lv : Value} (h : Below w.heap.size w w') : KL w lbx nm lv w' := ⟨h.size, fun j hj _ _ _ => h.block j hj⟩
theorem KL.trans {A B C : World} {lbx nm : Nat} {lv lv' : Value} (h : KL A lbx nm lv B) (k : KL B lbx nm lv' C) (hl : VN A lv lv') : KL A lbx nm lv C :=
  ⟨Nat.le_trans h.size k.size, fun j hj h1 h2 h3 => (k.keep j (Nat.lt_of_lt_of_le hj h.size) h1 h2 (fun e => by
    rcases hl with e' | ⟨q, e', hq⟩
    · exact h3 (e'.symm.trans e)
    · rw [e'] at e
      cases e
      omega)).trans (h.keep j hj h1 h2 h3)⟩
theorem KL.set {A B : World} {lbx nm : Nat} {lv : Value} (h : KL A lbx nm lv B) {sb : Nat} (hs : A.heap.size ≤ sb) (j : Nat) (u : Value) : KL A lbx nm lv (B.setCell ⟨sb, j, none⟩ u) :=
  ⟨by have := h.size; simpa [World.setCell] using this, fun i hi h1 h2 h3 => by rw [Below.heap_setCell _ _ _ _ (by simp; omega)]; exact h.keep i hi h1 h2 h3⟩

section
variable {w0 : World} {B a b : Nat} {v : Value} {p : Pl} {B2 k : Nat} {gv : Value} {mb : Nat} {g : List Int} {s : Int → Option Way} {R N : Int → Prop} {nbx kbx fbx lbx nm : Nat}
/-- What laying a term answers and leaves. -/
def LayPost (w0 : World) (p : Pl) (g : List Int) (R : Int → Prop) (s : Int → Option Way) (nbx kbx fbx lbx nm k : Nat) (N : Int → Prop) (w : World) (lv : Value) (L : List St) (u : Int) (e : Ending) (w' : World) : Prop :=
  ∃ (i : Nat) (lv' : Value) (L' : List St), e = .returned (.int .i64 (i : Int)) ∧ IsLay w' w0.heap.size nbx kbx fbx lbx nm k lv' L' ∧ GoodL p g R L' ∧ L <+: L' ∧ (∃ hi : i < L'.length, (L'[i]).t = u) ∧ Below w0.heap.size w0 w' ∧ KL w lbx nm lv w' ∧ VN w lv lv' ∧ (∀ x ∈ L', x ∈ L ∨ N x.t) ∧ (posL L u = none → i + 1 = L'.length) ∧ LayR p s u L i L'
def LayC (w0 : World) (p : Pl) (g : List Int) (R : Int → Prop) (s : Int → Option Way) (nbx kbx fbx lbx nm k : Nat) (N : Int → Prop) (u : Int) : Prop :=
  ∀ (w : World) (lv : Value) (L : List St), Below w0.heap.size w0 w → IsLay w w0.heap.size nbx kbx fbx lbx nm k lv L → GoodL p g R L → Calls Tryd.prog 49 #[.int .i64 u, .pointer (some ⟨nbx, 0, none⟩), .pointer (some ⟨kbx, 0, none⟩), .pointer (some ⟨fbx, 0, none⟩), .pointer (some ⟨lbx, 0, none⟩)] w (LayPost w0 p g R s nbx kbx fbx lbx nm k N w lv L u)
set_option maxRecDepth 100000 in
set_option maxHeartbeats 25600000 in
theorem lay_old (hp : IsPool w0 B a b v p) (hk : IsKnow w0 B2 k gv mb a p g s) {u : Int} (hu : i64R u) {w : World} {lv : Value} {L : List St} {i0 : Nat} (h0 : Below w0.heap.size w0 w) (hl : IsLay w w0.heap.size nbx kbx fbx lbx nm k lv L) (hgd : GoodL p g R L) (hpos : posL L u = some i0)  :
    Calls Tryd.prog 49 #[.int .i64 u, .pointer (some ⟨nbx, 0, none⟩), .pointer (some ⟨kbx, 0, none⟩), .pointer (some ⟨fbx, 0, none⟩), .pointer (some ⟨lbx, 0, none⟩)] w (LayPost w0 p g R s nbx kbx fbx lbx nm k N w lv L u) := by
  have hlk := hl.num.look hu
  rw [hpos] at hlk
  have cN : w.cell? ⟨nbx, 0, none⟩ = some (.map (some nm)) := cellB hl.nb rfl
  have H0 := Lib.hid h0
  have HL := Lib.hid hl
  have HGD := Lib.hid hgd
  have HPOS := Lib.hid hpos
  simp only [Option.getD_some, Option.isSome_some] at hlk
  clear hp hk hl hgd h0 hpos
  go_enter Tryd.func49, Tryd.ntmps49
  go_wp2_with fail
  go_returns
  exact ⟨i0, lv, L, rfl, HL.out, HGD.out, List.prefix_refl _, posL_some HPOS.out, H0.out, KL.of (Below.refl _ _), .inl rfl, fun x hx => .inl hx, fun h => (by rw [HPOS.out] at h; cases h), .old HPOS.out⟩
set_option maxRecDepth 100000 in
set_option maxHeartbeats 25600000 in
theorem lay_free (hp : IsPool w0 B a b v p) (hk : IsKnow w0 B2 k gv mb a p g s) {u : Int} (hu : i64R u) {w : World} {lv : Value} {L : List St} (h0 : Below w0.heap.size w0 w) (hl : IsLay w w0.heap.size nbx kbx fbx lbx nm k lv L) (hgd : GoodL p g R L) (hpos : posL L u = none) (hfr : freeB (atP p u).1.kind = true) (hru : R u) (hnu : N u) :
    Calls Tryd.prog 49 #[.int .i64 u, .pointer (some ⟨nbx, 0, none⟩), .pointer (some ⟨kbx, 0, none⟩), .pointer (some ⟨fbx, 0, none⟩), .pointer (some ⟨lbx, 0, none⟩)] w (LayPost w0 p g R s nbx kbx fbx lbx nm k N w lv L u) := by
  have HLR : Hid (LayR p s u L L.length (L ++ [⟨4, 0, 0, u⟩])) := Lib.hid (.free hpos hfr)
  have hlk := hl.num.look hu
  rw [hpos] at hlk
  have cN : w.cell? ⟨nbx, 0, none⟩ = some (.map (some nm)) := cellB hl.nb rfl
  have H0 := Lib.hid h0
  have HL := Lib.hid hl
  have HGD := Lib.hid hgd
  have HPOS := Lib.hid hpos
  have HRU := Lib.hid hru
  have HNU := Lib.hid hnu
  have HFOL := Lib.hid (fol_free (g := g) (L := L) hfr)
  cases hsu : s u with
  | none =>
    simp only [Option.getD_none, Option.isSome_none] at hlk
    have HU := Lib.hid hu
    have HP := Lib.hid hp
    have HK := Lib.hid hk
    have hlen : L.length ≤ 65536 := Nat.le_trans hgd.len hp.ok.len
    have b4 := bA0 w (.cells #[.int .i64 0, .int .i64 0, .int .i64 0, .int .i64 u] StT)
    have hs4 : (w.alloc (.cells #[.int .i64 0, .int .i64 0, .int .i64 0, .int .i64 u] StT)).heap[w.heap.size]? = some (Obj.cells #[.int .i64 0, .int .i64 0, .int .i64 0, .int .i64 u] StT) := heap_alloc_new _ _
    have hnl : lv.ownBlock ≠ some w.heap.size := fun e => by
      obtain ⟨_, cur, hc⟩ := own_type hl.row e
      exact absurd (Array.getElem?_eq_some_iff.1 hc).1 (Nat.lt_irrefl _)
    have HNL := Lib.hid hnl
    have cK : (w.alloc (.cells #[.int .i64 0, .int .i64 0, .int .i64 0, .int .i64 u] StT)).cell? ⟨kbx, 0, none⟩ = some (.pointer (some ⟨k, 0, none⟩)) := cellB (hl.below b4).kb rfl
    have cA : (w.alloc (.cells #[.int .i64 0, .int .i64 0, .int .i64 0, .int .i64 u] StT)).cell? ⟨k, 0, none⟩ = some (.pointer (some ⟨a, 0, none⟩)) := cellB (hk.below (bmore h0 b4)).lay rfl
    have HN := Lib.hid (pnode (hp.below (bmore h0 b4)) u)
    have FR := Lib.hid (fun (W : World) => free_any (atP p u).1 W)
    have hsk := fun (W : World) (h : Below w0.heap.size w0 W) => ((hk.below h).seen.look hu)
    have hck := fun (W : World) (h : Below w0.heap.size w0 W) => (show W.cell? ⟨k, 2, none⟩ = some (.map (some mb)) from cellB (hk.below h).lay rfl)
    have HSK := Lib.hid hsk
    have HCK := Lib.hid hck
    have HS4 := Lib.hid hs4
    have H4 := Lib.hid b4
    rw [hfr] at FR
    generalize hnn : (atP p u).1 = n at *
    have HNN := Lib.hid hnn
    generalize inP p u = iu at *
    clear hp hk hl hgd h0 hpos b4 hs4 hnl hsk hck hu hnn hfr
    have HSU := Lib.hid hsu
    clear hsu
    obtain ⟨kk, ff, tt, uu, ss, xa, xb⟩ := n
    simp only [nodeA] at HN FR
    go_enter Tryd.func49, Tryd.ntmps49
    go_wp2_with fail
    refine HN.out.mono ?_
    rintro e w5 ⟨rfl, u5⟩
    have b6 := bA0 w5 (.cells #[.int .i64 kk, .int .i64 ff, .int .i64 tt, .int .u64 uu, .string ss, .int .i64 xa, .int .i64 xb] NodeT)
    have hn6 : (w5.alloc (.cells #[.int .i64 kk, .int .i64 ff, .int .i64 tt, .int .u64 uu, .string ss, .int .i64 xa, .int .i64 xb] NodeT)).heap[w5.heap.size]? = some (Obj.cells #[.int .i64 kk, .int .i64 ff, .int .i64 tt, .int .u64 uu, .string ss, .int .i64 xa, .int .i64 xb] NodeT) := heap_alloc_new _ _
    have H6 := Lib.hid (bmore H4.out (bmore u5 b6))
    have HS6 := Lib.hid (Hold.below (bmore u5 b6) _ _ HS4.out)
    have HN6 := Lib.hid hn6
    clear u5 b6 hn6 cK cA hlk cN
    have cK := cellB (j := 0) (HL.out.below H6.out).kb rfl
    have cM := HCK.out _ (bmore H0.out H6.out)
    have hlk := HSK.out _ (bmore H0.out H6.out)
    rw [HSU.out] at hlk; simp only [wayV, Option.getD_none, Option.isSome_none] at hlk
    go_upto_region 6 with fail
    generalize (w5.alloc (.cells #[.int .i64 kk, .int .i64 ff, .int .i64 tt, .int .u64 uu, .string ss, .int .i64 xa, .int .i64 xb] NodeT)) = W6 at *
    generalize w5.heap.size = nbk at *
    have b7 := bA0 W6 (.cells #[.int .i64 0, .int .i64 0] WayT)
    have hw7 : (W6.alloc (.cells #[.int .i64 0, .int .i64 0] WayT)).heap[W6.heap.size]? = some (Obj.cells #[.int .i64 0, .int .i64 0] WayT) := heap_alloc_new _ _
    have H7 := Lib.hid (bmore H6.out b7)
    have HS7 := Lib.hid (Hold.below b7 _ _ HS6.out)
    have hn7 := Hold.below b7 _ _ HN6.out
    have HN7 := Lib.hid hn7
    have HW7 := Lib.hid hw7
    have y0 := cellB (j := 0) hn7 rfl
    have y1 := cellB (j := 1) hn7 rfl
    have y2 := cellB (j := 2) hn7 rfl
    have y3 := cellB (j := 3) hn7 rfl
    have y4 := cellB (j := 4) hn7 rfl
    have y5 := cellB (j := 5) hn7 rfl
    have y6 := cellB (j := 6) hn7 rfl
    clear b7 hw7 hn7
    go_wp2_with fail
    generalize (W6.alloc (.cells #[.int .i64 0, .int .i64 0] WayT)) = W7 at *
    generalize W6.heap.size = wb at *
    refine (FR.out _).mono ?_
    rintro e w8 ⟨rfl, u8⟩
    have H8 := Lib.hid (bmore H7.out u8)
    have HS8 := Lib.hid (Hold.below u8 _ _ HS7.out)
    have HN8 := Lib.hid (Hold.below u8 _ _ HN7.out)
    have HW8 := Lib.hid (Hold.below u8 _ _ HW7.out)
    clear u8 y0 y1 y2 y3 y4 y5 y6 cK cM hlk
    have hs8 := HS8.out
    have f0 := frozenB (j := 0) hs8
    have x0 := cellB (j := 0) hs8 rfl
    have HSX : Hid ((w8.setCell ⟨w.heap.size, 0, none⟩ (.int .i64 4)).heap[w.heap.size]? = some (Obj.cells #[.int .i64 4, .int .i64 0, .int .i64 0, .int .i64 u] StT)) := Lib.hid (setCellB hs8)
    have HLX := Lib.hid ((HL.out.below H8.out).set hs8 HNL.out 0 (.int .i64 4))
    have H0X := Lib.hid ((bmore H0.out H8.out).setCell (p := ⟨w.heap.size, 0, none⟩) (H0.out.size) (.int .i64 4))
    have HKX : Hid (KL w lbx nm lv (w8.setCell ⟨w.heap.size, 0, none⟩ (.int .i64 4))) := Lib.hid ((KL.of H8.out).set (Nat.le_refl _) 0 _)
    have HVX := Lib.hid (VN.refl w lv)
    have HGX := HGD
    have HPX := HPOS
    have HPRE : Hid (L <+: L) := Lib.hid (List.prefix_refl _)
    have HNW : Hid (∀ x ∈ L, x ∈ L ∨ N x.t) := Lib.hid (fun x hx => .inl hx)
    clear hs8
    go_upto_region 17 with fail
    generalize (w8.setCell ⟨w.heap.size, 0, none⟩ (.int .i64 4)) = W9 at *
    clear f0 x0
    obtain ⟨lva, lvc, hlvs⟩ := (row_of_own HLX.out.row).shape
    subst hlvs
    have hs9 := HSX.out
    have z0 := cellB (j := 0) hs9 rfl
    have z1 := cellB (j := 1) hs9 rfl
    have z2 := cellB (j := 2) hs9 rfl
    have z3 := cellB (j := 3) hs9 rfl
    have cL : W9.cell? ⟨lbx, 0, none⟩ = some (.slice lva L.length lvc) := cellB HLX.out.lb rfl
    have bT := bA0 W9 (.cells #[.int .i64 4, .int .i64 0, .int .i64 0, .int .i64 u] StT)
    have HBT := Lib.hid bT
    have HLT := Lib.hid (HLX.out.below bT)
    have hnew : (W9.alloc (.cells #[.int .i64 4, .int .i64 0, .int .i64 0, .int .i64 u] StT)).heap[W9.heap.size]? = some (Obj.cells (stA ⟨4, 0, 0, u⟩) StT) := heap_alloc_new _ _
    have HNEW := Lib.hid hnew
    have hlen9 : L.length ≤ 65536 := Nat.le_trans HGX.out.len HP.out.ok.len
    have hnbl : nbx ≠ lbx := fun e => by
      have h9 := HLX.out.nb
      rw [e, HLX.out.lb] at h9
      simp only [Option.some.injEq, Obj.cells.injEq] at h9
      exact absurd h9.2.1 (by decide)
    have hnb1 : ¬ nbx = lbx := hnbl
    have hnb2 : ¬ lbx = nbx := fun e => hnbl e.symm
    have hlnm : nm ≠ lbx := fun e => by
      obtain ⟨es, c, hm⟩ := HLX.out.num.mapb
      rw [e, HLX.out.lb] at hm; cases hm
    have HLNM := Lib.hid hlnm
    have hq : ∀ w', (W9.alloc (.cells #[.int .i64 4, .int .i64 0, .int .i64 0, .int .i64 u] StT)).grownBy w' (Value.slice lva L.length lvc).ownBlock → w'.heap[lbx]? = some (Obj.cells #[.slice lva L.length lvc] SlStT) ∧ w'.cell? ⟨lbx, 0, none⟩ = some (.slice lva L.length lvc) ∧ w'.frozen? ⟨lbx, 0, none⟩ = false ∧ w'.cell? ⟨nbx, 0, none⟩ = some (.map (some nm)) := fun w' hg => by
      have e : w'.heap[lbx]? = some (Obj.cells #[.slice lva L.length lvc] SlStT) := hold_row HLT.out.row hg (by decide) _ _ HLT.out.lb
      have e2 : w'.heap[nbx]? = some (Obj.cells #[.map (some nm)] NumT) := hold_row HLT.out.row hg (by decide) _ _ HLT.out.nb
      exact ⟨e, cellB e rfl, frozenB e, cellB e2 rfl⟩
    have HQ := Lib.hid hq
    have hbs : w0.heap.size ≤ (W9.alloc (.cells #[.int .i64 4, .int .i64 0, .int .i64 0, .int .i64 u] StT)).heap.size := Nat.le_trans H0X.out.size bT.size
    have hwl : wrap64 ((L.length : Int) + 1 - 1) = (L.length : Int) := by unfold wrap64; omega
    have hwl2 : (L ++ [(⟨4, 0, 0, u⟩ : St)]).length = L.length + 1 := by simp
    have HWL := Lib.hid hwl2
    clear hs9 bT hnew hq hlnm hnbl hwl2
    go_wp2_with (first
      | (at_builtin; refine wpList_append_st rfl _ _ rfl w0.heap.size (.slice lva L.length lvc) L rfl HLT.out.row _ ⟨4, 0, 0, u⟩ rfl HNEW.out (by omega) hbs ?_; intro v5 w9 hrow9 hg9 hw9; rw [HWL.out] at hrow9; obtain ⟨q0, q1, q2, q3⟩ := HQ.out w9 hg9; obtain ⟨sa, sc, rfl⟩ := (row_of_own hrow9).shape)
      | (at_mapUpdate; obtain ⟨D0, hown0, hD0⟩ := HLT.out.num.same (w' := w9.setCell ⟨lbx, 0, none⟩ (.slice sa (L.length + 1) sc)) (fun es c hm => (Below.heap_setCell _ _ _ _ HLNM.out).trans (map_row HLT.out.row hg9 hm)); have hm0 := hown0.isMap; refine wpList_mapUpdate_own _ rfl _ _ _ NumT rfl TermT IntT lawT Tryd.underlying95 (plainElem Tryd.prog IntT) nm L.length D0 rfl hown0 (by unfold maxLen; omega) _ _ (.int .i64 u) rfl rfl (keyT HU.out) (.lit (.int .i64 (L.length : Int))) [] (plainElem_int Tryd.underlying3 (wf_i64 (by unfold i64R; omega))) ?_; intro w10 hown10 hg10; have hn10 := NumM.put (s := ⟨4, 0, 0, u⟩) hm0 hD0 HU.out HPX.out hown10; have hrun10 := hn10.look1 HU.out; rw [posL_snoc HPX.out, if_pos rfl] at hrun10; simp only [Option.getD_some] at hrun10; have c10 : w10.cell? ⟨nbx, 0, none⟩ = some (.map (some nm)) := cellB (hold_map (HLT.out.num.same (w' := w9.setCell ⟨lbx, 0, none⟩ (.slice sa (L.length + 1) sc)) (fun es c hm => (Below.heap_setCell _ _ _ _ HLNM.out).trans (map_row HLT.out.row hg9 hm))).mapb hg10 _ _ _ (Hold.setCell q0 (by decide) _ _ (hold_row HLT.out.row hg9 (by decide) _ _ HLT.out.nb))) rfl))
    go_returns
    have hmb9 := (HLT.out.num.same (w' := w9.setCell ⟨lbx, 0, none⟩ (.slice sa (L.length + 1) sc)) (fun es c hm => (Below.heap_setCell _ _ _ _ HLNM.out).trans (map_row HLT.out.row hg9 hm))).mapb
    have hT : ∀ T, T ≠ StT → T ≠ SlStT → Hold T (W9.alloc (.cells #[.int .i64 4, .int .i64 0, .int .i64 0, .int .i64 u] StT)) w10 := fun T h1 h2 => ((hold_row HLT.out.row hg9 h1).trans (Hold.setCell q0 (Ne.symm h2))).trans (hold_map hmb9 hg10 T)
    have hrw10 : w10.ownsRow w0.heap.size StT 4 (.slice sa (L.length + 1) sc) (L ++ [(⟨4, 0, 0, u⟩ : St)]).length (sts (L ++ [(⟨4, 0, 0, u⟩ : St)])) := by
      rw [HWL.out]
      exact own_hold (own_hold hrow9 (Hold.setCell q0 (by decide))) (hold_map hmb9 hg10 _)
    have hb10 : Below w0.heap.size (W9.alloc (.cells #[.int .i64 4, .int .i64 0, .int .i64 0, .int .i64 u] StT)) w10 := ((((Below.refl _ _).grown hg9 hbs (fun q e => (own_type HLT.out.row e).1)).setCell (p := ⟨lbx, 0, none⟩) HLX.out.gl _)).trans (grown_below hg10 (by rw [show (w9.setCell ⟨lbx, 0, none⟩ (.slice sa (L.length + 1) sc)).heap.size = w9.heap.size by simp [World.setCell]]; exact Nat.le_trans hbs hg9.size) (fun q e => by cases e; exact HLX.out.gm))
    have hkl : KL W9 lbx nm (.slice lva L.length lvc) w10 := ⟨Nat.le_trans HBT.out.size (Nat.le_trans hg9.size (by have := hg10.size; simpa [World.setCell] using this)), fun j hj h1 h2 h3 => by
      have e1 : j < (W9.alloc (.cells #[.int .i64 4, .int .i64 0, .int .i64 0, .int .i64 u] StT)).heap.size := Nat.lt_of_lt_of_le hj HBT.out.size
      have e2 : j < w9.heap.size := Nat.lt_of_lt_of_le e1 hg9.size
      rw [hg10.block j (by simpa [World.setCell] using e2) (fun e => h2 (Option.some.inj e)), Below.heap_setCell _ _ _ _ h1, hg9.block j e1 (fun e => h3 e.symm), HBT.out.block j hj]⟩
    have hw9' : VN w (Value.slice lva L.length lvc) (Value.slice sa (L.length + 1) sc) := by
      have h9 := hw9
      try rw [HWL.out] at h9
      rcases h9 with e | e
      · exact .inl e
      · exact .inr ⟨_, e, Nat.le_trans HKX.out.size HBT.out.size⟩
    refine ⟨L.length, .slice sa (L.length + 1) sc, L ++ [⟨4, 0, 0, u⟩], rfl, ⟨hT _ (by decide) (by decide) _ _ HLT.out.nb, hT _ (by decide) (by decide) _ _ HLT.out.kb, hT _ (by decide) (by decide) _ _ HLT.out.fb, hold_map hmb9 hg10 _ _ _ (setCellB q0), hrw10, hn10, HLX.out.gl, HLX.out.gm⟩, HGX.out.snoc HPX.out HFOL.out HRU.out, HPRE.out.trans ⟨_, rfl⟩, ⟨by simp, by simp⟩, (H0X.out.trans (HBT.out.mono H0X.out.size)).trans hb10, HKX.out.trans hkl HVX.out, VN.trans (Nat.le_refl _) HVX.out hw9', fun x hx => ?_, fun _ => (by simp), HLR.out⟩
    rcases List.mem_append.1 hx with hx | hx
    · exact HNW.out x hx
    · rw [List.mem_singleton.1 hx]; exact .inr HNU.out
  | some z =>
    obtain ⟨wr, wy⟩ := z
    simp only [Option.getD_none, Option.isSome_none] at hlk
    have HU := Lib.hid hu
    have HP := Lib.hid hp
    have HK := Lib.hid hk
    have hlen : L.length ≤ 65536 := Nat.le_trans hgd.len hp.ok.len
    have b4 := bA0 w (.cells #[.int .i64 0, .int .i64 0, .int .i64 0, .int .i64 u] StT)
    have hs4 : (w.alloc (.cells #[.int .i64 0, .int .i64 0, .int .i64 0, .int .i64 u] StT)).heap[w.heap.size]? = some (Obj.cells #[.int .i64 0, .int .i64 0, .int .i64 0, .int .i64 u] StT) := heap_alloc_new _ _
    have hnl : lv.ownBlock ≠ some w.heap.size := fun e => by
      obtain ⟨_, cur, hc⟩ := own_type hl.row e
      exact absurd (Array.getElem?_eq_some_iff.1 hc).1 (Nat.lt_irrefl _)
    have HNL := Lib.hid hnl
    have cK : (w.alloc (.cells #[.int .i64 0, .int .i64 0, .int .i64 0, .int .i64 u] StT)).cell? ⟨kbx, 0, none⟩ = some (.pointer (some ⟨k, 0, none⟩)) := cellB (hl.below b4).kb rfl
    have cA : (w.alloc (.cells #[.int .i64 0, .int .i64 0, .int .i64 0, .int .i64 u] StT)).cell? ⟨k, 0, none⟩ = some (.pointer (some ⟨a, 0, none⟩)) := cellB (hk.below (bmore h0 b4)).lay rfl
    have HN := Lib.hid (pnode (hp.below (bmore h0 b4)) u)
    have FR := Lib.hid (fun (W : World) => free_any (atP p u).1 W)
    have hsk := fun (W : World) (h : Below w0.heap.size w0 W) => ((hk.below h).seen.look hu)
    have hck := fun (W : World) (h : Below w0.heap.size w0 W) => (show W.cell? ⟨k, 2, none⟩ = some (.map (some mb)) from cellB (hk.below h).lay rfl)
    have HSK := Lib.hid hsk
    have HCK := Lib.hid hck
    have HS4 := Lib.hid hs4
    have H4 := Lib.hid b4
    rw [hfr] at FR
    generalize hnn : (atP p u).1 = n at *
    have HNN := Lib.hid hnn
    generalize inP p u = iu at *
    clear hp hk hl hgd h0 hpos b4 hs4 hnl hsk hck hu hnn hfr
    have HSU := Lib.hid hsu
    clear hsu
    obtain ⟨kk, ff, tt, uu, ss, xa, xb⟩ := n
    simp only [nodeA] at HN FR
    go_enter Tryd.func49, Tryd.ntmps49
    go_wp2_with fail
    refine HN.out.mono ?_
    rintro e w5 ⟨rfl, u5⟩
    have b6 := bA0 w5 (.cells #[.int .i64 kk, .int .i64 ff, .int .i64 tt, .int .u64 uu, .string ss, .int .i64 xa, .int .i64 xb] NodeT)
    have hn6 : (w5.alloc (.cells #[.int .i64 kk, .int .i64 ff, .int .i64 tt, .int .u64 uu, .string ss, .int .i64 xa, .int .i64 xb] NodeT)).heap[w5.heap.size]? = some (Obj.cells #[.int .i64 kk, .int .i64 ff, .int .i64 tt, .int .u64 uu, .string ss, .int .i64 xa, .int .i64 xb] NodeT) := heap_alloc_new _ _
    have H6 := Lib.hid (bmore H4.out (bmore u5 b6))
    have HS6 := Lib.hid (Hold.below (bmore u5 b6) _ _ HS4.out)
    have HN6 := Lib.hid hn6
    clear u5 b6 hn6 cK cA hlk cN
    have cK := cellB (j := 0) (HL.out.below H6.out).kb rfl
    have cM := HCK.out _ (bmore H0.out H6.out)
    have hlk := HSK.out _ (bmore H0.out H6.out)
    rw [HSU.out] at hlk; simp only [wayV, Option.getD_some, Option.isSome_some] at hlk
    go_upto_region 6 with fail
    generalize (w5.alloc (.cells #[.int .i64 kk, .int .i64 ff, .int .i64 tt, .int .u64 uu, .string ss, .int .i64 xa, .int .i64 xb] NodeT)) = W6 at *
    generalize w5.heap.size = nbk at *
    have b7 := bA0 W6 (.cells #[.int .i64 wr, .int .i64 wy] WayT)
    have hw7 : (W6.alloc (.cells #[.int .i64 wr, .int .i64 wy] WayT)).heap[W6.heap.size]? = some (Obj.cells #[.int .i64 wr, .int .i64 wy] WayT) := heap_alloc_new _ _
    have H7 := Lib.hid (bmore H6.out b7)
    have HS7 := Lib.hid (Hold.below b7 _ _ HS6.out)
    have hn7 := Hold.below b7 _ _ HN6.out
    have HN7 := Lib.hid hn7
    have HW7 := Lib.hid hw7
    have y0 := cellB (j := 0) hn7 rfl
    have y1 := cellB (j := 1) hn7 rfl
    have y2 := cellB (j := 2) hn7 rfl
    have y3 := cellB (j := 3) hn7 rfl
    have y4 := cellB (j := 4) hn7 rfl
    have y5 := cellB (j := 5) hn7 rfl
    have y6 := cellB (j := 6) hn7 rfl
    clear b7 hw7 hn7
    go_wp2_with fail
    generalize (W6.alloc (.cells #[.int .i64 wr, .int .i64 wy] WayT)) = W7 at *
    generalize W6.heap.size = wb at *
    refine (FR.out _).mono ?_
    rintro e w8 ⟨rfl, u8⟩
    have H8 := Lib.hid (bmore H7.out u8)
    have HS8 := Lib.hid (Hold.below u8 _ _ HS7.out)
    have HN8 := Lib.hid (Hold.below u8 _ _ HN7.out)
    have HW8 := Lib.hid (Hold.below u8 _ _ HW7.out)
    clear u8 y0 y1 y2 y3 y4 y5 y6 cK cM hlk
    have hs8 := HS8.out
    have f0 := frozenB (j := 0) hs8
    have x0 := cellB (j := 0) hs8 rfl
    have HSX : Hid ((w8.setCell ⟨w.heap.size, 0, none⟩ (.int .i64 4)).heap[w.heap.size]? = some (Obj.cells #[.int .i64 4, .int .i64 0, .int .i64 0, .int .i64 u] StT)) := Lib.hid (setCellB hs8)
    have HLX := Lib.hid ((HL.out.below H8.out).set hs8 HNL.out 0 (.int .i64 4))
    have H0X := Lib.hid ((bmore H0.out H8.out).setCell (p := ⟨w.heap.size, 0, none⟩) (H0.out.size) (.int .i64 4))
    have HKX : Hid (KL w lbx nm lv (w8.setCell ⟨w.heap.size, 0, none⟩ (.int .i64 4))) := Lib.hid ((KL.of H8.out).set (Nat.le_refl _) 0 _)
    have HVX := Lib.hid (VN.refl w lv)
    have HGX := HGD
    have HPX := HPOS
    have HPRE : Hid (L <+: L) := Lib.hid (List.prefix_refl _)
    have HNW : Hid (∀ x ∈ L, x ∈ L ∨ N x.t) := Lib.hid (fun x hx => .inl hx)
    clear hs8
    go_upto_region 17 with fail
    generalize (w8.setCell ⟨w.heap.size, 0, none⟩ (.int .i64 4)) = W9 at *
    clear f0 x0
    obtain ⟨lva, lvc, hlvs⟩ := (row_of_own HLX.out.row).shape
    subst hlvs
    have hs9 := HSX.out
    have z0 := cellB (j := 0) hs9 rfl
    have z1 := cellB (j := 1) hs9 rfl
    have z2 := cellB (j := 2) hs9 rfl
    have z3 := cellB (j := 3) hs9 rfl
    have cL : W9.cell? ⟨lbx, 0, none⟩ = some (.slice lva L.length lvc) := cellB HLX.out.lb rfl
    have bT := bA0 W9 (.cells #[.int .i64 4, .int .i64 0, .int .i64 0, .int .i64 u] StT)
    have HBT := Lib.hid bT
    have HLT := Lib.hid (HLX.out.below bT)
    have hnew : (W9.alloc (.cells #[.int .i64 4, .int .i64 0, .int .i64 0, .int .i64 u] StT)).heap[W9.heap.size]? = some (Obj.cells (stA ⟨4, 0, 0, u⟩) StT) := heap_alloc_new _ _
    have HNEW := Lib.hid hnew
    have hlen9 : L.length ≤ 65536 := Nat.le_trans HGX.out.len HP.out.ok.len
    have hnbl : nbx ≠ lbx := fun e => by
      have h9 := HLX.out.nb
      rw [e, HLX.out.lb] at h9
      simp only [Option.some.injEq, Obj.cells.injEq] at h9
      exact absurd h9.2.1 (by decide)
    have hnb1 : ¬ nbx = lbx := hnbl
    have hnb2 : ¬ lbx = nbx := fun e => hnbl e.symm
    have hlnm : nm ≠ lbx := fun e => by
      obtain ⟨es, c, hm⟩ := HLX.out.num.mapb
      rw [e, HLX.out.lb] at hm; cases hm
    have HLNM := Lib.hid hlnm
    have hq : ∀ w', (W9.alloc (.cells #[.int .i64 4, .int .i64 0, .int .i64 0, .int .i64 u] StT)).grownBy w' (Value.slice lva L.length lvc).ownBlock → w'.heap[lbx]? = some (Obj.cells #[.slice lva L.length lvc] SlStT) ∧ w'.cell? ⟨lbx, 0, none⟩ = some (.slice lva L.length lvc) ∧ w'.frozen? ⟨lbx, 0, none⟩ = false ∧ w'.cell? ⟨nbx, 0, none⟩ = some (.map (some nm)) := fun w' hg => by
      have e : w'.heap[lbx]? = some (Obj.cells #[.slice lva L.length lvc] SlStT) := hold_row HLT.out.row hg (by decide) _ _ HLT.out.lb
      have e2 : w'.heap[nbx]? = some (Obj.cells #[.map (some nm)] NumT) := hold_row HLT.out.row hg (by decide) _ _ HLT.out.nb
      exact ⟨e, cellB e rfl, frozenB e, cellB e2 rfl⟩
    have HQ := Lib.hid hq
    have hbs : w0.heap.size ≤ (W9.alloc (.cells #[.int .i64 4, .int .i64 0, .int .i64 0, .int .i64 u] StT)).heap.size := Nat.le_trans H0X.out.size bT.size
    have hwl : wrap64 ((L.length : Int) + 1 - 1) = (L.length : Int) := by unfold wrap64; omega
    have hwl2 : (L ++ [(⟨4, 0, 0, u⟩ : St)]).length = L.length + 1 := by simp
    have HWL := Lib.hid hwl2
    clear hs9 bT hnew hq hlnm hnbl hwl2
    go_wp2_with (first
      | (at_builtin; refine wpList_append_st rfl _ _ rfl w0.heap.size (.slice lva L.length lvc) L rfl HLT.out.row _ ⟨4, 0, 0, u⟩ rfl HNEW.out (by omega) hbs ?_; intro v5 w9 hrow9 hg9 hw9; rw [HWL.out] at hrow9; obtain ⟨q0, q1, q2, q3⟩ := HQ.out w9 hg9; obtain ⟨sa, sc, rfl⟩ := (row_of_own hrow9).shape)
      | (at_mapUpdate; obtain ⟨D0, hown0, hD0⟩ := HLT.out.num.same (w' := w9.setCell ⟨lbx, 0, none⟩ (.slice sa (L.length + 1) sc)) (fun es c hm => (Below.heap_setCell _ _ _ _ HLNM.out).trans (map_row HLT.out.row hg9 hm)); have hm0 := hown0.isMap; refine wpList_mapUpdate_own _ rfl _ _ _ NumT rfl TermT IntT lawT Tryd.underlying95 (plainElem Tryd.prog IntT) nm L.length D0 rfl hown0 (by unfold maxLen; omega) _ _ (.int .i64 u) rfl rfl (keyT HU.out) (.lit (.int .i64 (L.length : Int))) [] (plainElem_int Tryd.underlying3 (wf_i64 (by unfold i64R; omega))) ?_; intro w10 hown10 hg10; have hn10 := NumM.put (s := ⟨4, 0, 0, u⟩) hm0 hD0 HU.out HPX.out hown10; have hrun10 := hn10.look1 HU.out; rw [posL_snoc HPX.out, if_pos rfl] at hrun10; simp only [Option.getD_some] at hrun10; have c10 : w10.cell? ⟨nbx, 0, none⟩ = some (.map (some nm)) := cellB (hold_map (HLT.out.num.same (w' := w9.setCell ⟨lbx, 0, none⟩ (.slice sa (L.length + 1) sc)) (fun es c hm => (Below.heap_setCell _ _ _ _ HLNM.out).trans (map_row HLT.out.row hg9 hm))).mapb hg10 _ _ _ (Hold.setCell q0 (by decide) _ _ (hold_row HLT.out.row hg9 (by decide) _ _ HLT.out.nb))) rfl))
    go_returns
    have hmb9 := (HLT.out.num.same (w' := w9.setCell ⟨lbx, 0, none⟩ (.slice sa (L.length + 1) sc)) (fun es c hm => (Below.heap_setCell _ _ _ _ HLNM.out).trans (map_row HLT.out.row hg9 hm))).mapb
    have hT : ∀ T, T ≠ StT → T ≠ SlStT → Hold T (W9.alloc (.cells #[.int .i64 4, .int .i64 0, .int .i64 0, .int .i64 u] StT)) w10 := fun T h1 h2 => ((hold_row HLT.out.row hg9 h1).trans (Hold.setCell q0 (Ne.symm h2))).trans (hold_map hmb9 hg10 T)
    have hrw10 : w10.ownsRow w0.heap.size StT 4 (.slice sa (L.length + 1) sc) (L ++ [(⟨4, 0, 0, u⟩ : St)]).length (sts (L ++ [(⟨4, 0, 0, u⟩ : St)])) := by
      rw [HWL.out]
      exact own_hold (own_hold hrow9 (Hold.setCell q0 (by decide))) (hold_map hmb9 hg10 _)
    have hb10 : Below w0.heap.size (W9.alloc (.cells #[.int .i64 4, .int .i64 0, .int .i64 0, .int .i64 u] StT)) w10 := ((((Below.refl _ _).grown hg9 hbs (fun q e => (own_type HLT.out.row e).1)).setCell (p := ⟨lbx, 0, none⟩) HLX.out.gl _)).trans (grown_below hg10 (by rw [show (w9.setCell ⟨lbx, 0, none⟩ (.slice sa (L.length + 1) sc)).heap.size = w9.heap.size by simp [World.setCell]]; exact Nat.le_trans hbs hg9.size) (fun q e => by cases e; exact HLX.out.gm))
    have hkl : KL W9 lbx nm (.slice lva L.length lvc) w10 := ⟨Nat.le_trans HBT.out.size (Nat.le_trans hg9.size (by have := hg10.size; simpa [World.setCell] using this)), fun j hj h1 h2 h3 => by
      have e1 : j < (W9.alloc (.cells #[.int .i64 4, .int .i64 0, .int .i64 0, .int .i64 u] StT)).heap.size := Nat.lt_of_lt_of_le hj HBT.out.size
      have e2 : j < w9.heap.size := Nat.lt_of_lt_of_le e1 hg9.size
      rw [hg10.block j (by simpa [World.setCell] using e2) (fun e => h2 (Option.some.inj e)), Below.heap_setCell _ _ _ _ h1, hg9.block j e1 (fun e => h3 e.symm), HBT.out.block j hj]⟩
    have hw9' : VN w (Value.slice lva L.length lvc) (Value.slice sa (L.length + 1) sc) := by
      have h9 := hw9
      try rw [HWL.out] at h9
      rcases h9 with e | e
      · exact .inl e
      · exact .inr ⟨_, e, Nat.le_trans HKX.out.size HBT.out.size⟩
    refine ⟨L.length, .slice sa (L.length + 1) sc, L ++ [⟨4, 0, 0, u⟩], rfl, ⟨hT _ (by decide) (by decide) _ _ HLT.out.nb, hT _ (by decide) (by decide) _ _ HLT.out.kb, hT _ (by decide) (by decide) _ _ HLT.out.fb, hold_map hmb9 hg10 _ _ _ (setCellB q0), hrw10, hn10, HLX.out.gl, HLX.out.gm⟩, HGX.out.snoc HPX.out HFOL.out HRU.out, HPRE.out.trans ⟨_, rfl⟩, ⟨by simp, by simp⟩, (H0X.out.trans (HBT.out.mono H0X.out.size)).trans hb10, HKX.out.trans hkl HVX.out, VN.trans (Nat.le_refl _) HVX.out hw9', fun x hx => ?_, fun _ => (by simp), HLR.out⟩
    rcases List.mem_append.1 hx with hx | hx
    · exact HNW.out x hx
    · rw [List.mem_singleton.1 hx]; exact .inr HNU.out
set_option maxRecDepth 100000 in
set_option maxHeartbeats 25600000 in
theorem lay_given (hp : IsPool w0 B a b v p) (hk : IsKnow w0 B2 k gv mb a p g s) {u : Int} (hu : i64R u) {w : World} {lv : Value} {L : List St} (h0 : Below w0.heap.size w0 w) (hl : IsLay w w0.heap.size nbx kbx fbx lbx nm k lv L) (hgd : GoodL p g R L) (hpos : posL L u = none) (hfr : freeB (atP p u).1.kind = false) (hin : inP p u = true) (hsu : s u = some (0, 0)) (hug : u ∈ g) (hru : R u) (hnu : N u) :
    Calls Tryd.prog 49 #[.int .i64 u, .pointer (some ⟨nbx, 0, none⟩), .pointer (some ⟨kbx, 0, none⟩), .pointer (some ⟨fbx, 0, none⟩), .pointer (some ⟨lbx, 0, none⟩)] w (LayPost w0 p g R s nbx kbx fbx lbx nm k N w lv L u) := by
  have HLR : Hid (LayR p s u L L.length (L ++ [⟨0, 0, 0, u⟩])) := Lib.hid (.given hpos hfr hsu)
  have hlk := hl.num.look hu
  rw [hpos] at hlk
  have cN : w.cell? ⟨nbx, 0, none⟩ = some (.map (some nm)) := cellB hl.nb rfl
  have H0 := Lib.hid h0
  have HL := Lib.hid hl
  have HGD := Lib.hid hgd
  have HPOS := Lib.hid hpos
  have HRU := Lib.hid hru
  have HNU := Lib.hid hnu
  have HSU := Lib.hid hsu
  have HFOL := Lib.hid (fol_given (p := p) (L := L) hin hug)
  clear hsu hin hug hru hnu
  simp only [Option.getD_none, Option.isSome_none] at hlk
  have HU := Lib.hid hu
  have HP := Lib.hid hp
  have HK := Lib.hid hk
  have hlen : L.length ≤ 65536 := Nat.le_trans hgd.len hp.ok.len
  have b4 := bA0 w (.cells #[.int .i64 0, .int .i64 0, .int .i64 0, .int .i64 u] StT)
  have hs4 : (w.alloc (.cells #[.int .i64 0, .int .i64 0, .int .i64 0, .int .i64 u] StT)).heap[w.heap.size]? = some (Obj.cells #[.int .i64 0, .int .i64 0, .int .i64 0, .int .i64 u] StT) := heap_alloc_new _ _
  have hnl : lv.ownBlock ≠ some w.heap.size := fun e => by
    obtain ⟨_, cur, hc⟩ := own_type hl.row e
    exact absurd (Array.getElem?_eq_some_iff.1 hc).1 (Nat.lt_irrefl _)
  have HNL := Lib.hid hnl
  have cK : (w.alloc (.cells #[.int .i64 0, .int .i64 0, .int .i64 0, .int .i64 u] StT)).cell? ⟨kbx, 0, none⟩ = some (.pointer (some ⟨k, 0, none⟩)) := cellB (hl.below b4).kb rfl
  have cA : (w.alloc (.cells #[.int .i64 0, .int .i64 0, .int .i64 0, .int .i64 u] StT)).cell? ⟨k, 0, none⟩ = some (.pointer (some ⟨a, 0, none⟩)) := cellB (hk.below (bmore h0 b4)).lay rfl
  have HN := Lib.hid (pnode (hp.below (bmore h0 b4)) u)
  have FR := Lib.hid (fun (W : World) => free_any (atP p u).1 W)
  have hsk := fun (W : World) (h : Below w0.heap.size w0 W) => ((hk.below h).seen.look hu)
  have hck := fun (W : World) (h : Below w0.heap.size w0 W) => (show W.cell? ⟨k, 2, none⟩ = some (.map (some mb)) from cellB (hk.below h).lay rfl)
  have HSK := Lib.hid hsk
  have HCK := Lib.hid hck
  have HS4 := Lib.hid hs4
  have H4 := Lib.hid b4
  rw [hfr] at FR
  generalize hnn : (atP p u).1 = n at *
  have HNN := Lib.hid hnn
  generalize inP p u = iu at *
  clear hp hk hl hgd h0 hpos b4 hs4 hnl hsk hck hu hnn hfr
  obtain ⟨kk, ff, tt, uu, ss, xa, xb⟩ := n
  simp only [nodeA] at HN FR
  go_enter Tryd.func49, Tryd.ntmps49
  go_wp2_with fail
  refine HN.out.mono ?_
  rintro e w5 ⟨rfl, u5⟩
  have b6 := bA0 w5 (.cells #[.int .i64 kk, .int .i64 ff, .int .i64 tt, .int .u64 uu, .string ss, .int .i64 xa, .int .i64 xb] NodeT)
  have hn6 : (w5.alloc (.cells #[.int .i64 kk, .int .i64 ff, .int .i64 tt, .int .u64 uu, .string ss, .int .i64 xa, .int .i64 xb] NodeT)).heap[w5.heap.size]? = some (Obj.cells #[.int .i64 kk, .int .i64 ff, .int .i64 tt, .int .u64 uu, .string ss, .int .i64 xa, .int .i64 xb] NodeT) := heap_alloc_new _ _
  have H6 := Lib.hid (bmore H4.out (bmore u5 b6))
  have HS6 := Lib.hid (Hold.below (bmore u5 b6) _ _ HS4.out)
  have HN6 := Lib.hid hn6
  clear u5 b6 hn6 cK cA hlk cN
  have cK := cellB (j := 0) (HL.out.below H6.out).kb rfl
  have cM := HCK.out _ (bmore H0.out H6.out)
  have hlk := HSK.out _ (bmore H0.out H6.out)
  rw [HSU.out] at hlk; simp only [wayV, Option.getD_some, Option.isSome_some] at hlk
  go_upto_region 6 with fail
  generalize (w5.alloc (.cells #[.int .i64 kk, .int .i64 ff, .int .i64 tt, .int .u64 uu, .string ss, .int .i64 xa, .int .i64 xb] NodeT)) = W6 at *
  generalize w5.heap.size = nbk at *
  have b7 := bA0 W6 (.cells #[.int .i64 0, .int .i64 0] WayT)
  have hw7 : (W6.alloc (.cells #[.int .i64 0, .int .i64 0] WayT)).heap[W6.heap.size]? = some (Obj.cells #[.int .i64 0, .int .i64 0] WayT) := heap_alloc_new _ _
  have H7 := Lib.hid (bmore H6.out b7)
  have HS7 := Lib.hid (Hold.below b7 _ _ HS6.out)
  have hn7 := Hold.below b7 _ _ HN6.out
  have HN7 := Lib.hid hn7
  have HW7 := Lib.hid hw7
  have y0 := cellB (j := 0) hn7 rfl
  have y1 := cellB (j := 1) hn7 rfl
  have y2 := cellB (j := 2) hn7 rfl
  have y3 := cellB (j := 3) hn7 rfl
  have y4 := cellB (j := 4) hn7 rfl
  have y5 := cellB (j := 5) hn7 rfl
  have y6 := cellB (j := 6) hn7 rfl
  clear b7 hw7 hn7
  go_wp2_with fail
  generalize (W6.alloc (.cells #[.int .i64 0, .int .i64 0] WayT)) = W7 at *
  generalize W6.heap.size = wb at *
  refine (FR.out _).mono ?_
  rintro e w8 ⟨rfl, u8⟩
  have H8 := Lib.hid (bmore H7.out u8)
  have HS8 := Lib.hid (Hold.below u8 _ _ HS7.out)
  have HN8 := Lib.hid (Hold.below u8 _ _ HN7.out)
  have HW8 := Lib.hid (Hold.below u8 _ _ HW7.out)
  clear u8 y0 y1 y2 y3 y4 y5 y6 cK cM hlk
  have hs8 := HS8.out
  have hw8 := HW8.out
  have f0 := frozenB (j := 0) hs8
  have x0 := cellB (j := 0) hs8 rfl
  have d0 := cellB (j := 0) hw8 rfl
  have d1 := cellB (j := 1) hw8 rfl
  have hsb : w.heap.size ≠ wb := fun e => by
    rw [← e, hs8] at hw8
    simp only [Option.some.injEq, Obj.cells.injEq] at hw8
    exact absurd hw8.2.1 (by decide)
  have hsb1 : ¬ w.heap.size = wb := hsb
  have hsb2 : ¬ wb = w.heap.size := fun e => hsb e.symm
  have HSX : Hid ((w8.setCell ⟨w.heap.size, 0, none⟩ (.int .i64 0)).heap[w.heap.size]? = some (Obj.cells #[.int .i64 0, .int .i64 0, .int .i64 0, .int .i64 u] StT)) := Lib.hid (setCellB hs8)
  have HLX := Lib.hid ((HL.out.below H8.out).set hs8 HNL.out 0 (.int .i64 0))
  have H0X := Lib.hid ((bmore H0.out H8.out).setCell (p := ⟨w.heap.size, 0, none⟩) (H0.out.size) (.int .i64 0))
  have HKX : Hid (KL w lbx nm lv (w8.setCell ⟨w.heap.size, 0, none⟩ (.int .i64 0))) := Lib.hid ((KL.of H8.out).set (Nat.le_refl _) 0 _)
  have HVX := Lib.hid (VN.refl w lv)
  have HGX := HGD
  have HPX := HPOS
  have HPRE : Hid (L <+: L) := Lib.hid (List.prefix_refl _)
  have HNW : Hid (∀ x ∈ L, x ∈ L ∨ N x.t) := Lib.hid (fun x hx => .inl hx)
  clear hs8 hw8 hsb
  go_upto_region 17 with fail
  generalize (w8.setCell ⟨w.heap.size, 0, none⟩ (.int .i64 0)) = W9 at *
  clear f0 x0 d0 d1 hsb1 hsb2
  obtain ⟨lva, lvc, hlvs⟩ := (row_of_own HLX.out.row).shape
  subst hlvs
  have hs9 := HSX.out
  have z0 := cellB (j := 0) hs9 rfl
  have z1 := cellB (j := 1) hs9 rfl
  have z2 := cellB (j := 2) hs9 rfl
  have z3 := cellB (j := 3) hs9 rfl
  have cL : W9.cell? ⟨lbx, 0, none⟩ = some (.slice lva L.length lvc) := cellB HLX.out.lb rfl
  have bT := bA0 W9 (.cells #[.int .i64 0, .int .i64 0, .int .i64 0, .int .i64 u] StT)
  have HBT := Lib.hid bT
  have HLT := Lib.hid (HLX.out.below bT)
  have hnew : (W9.alloc (.cells #[.int .i64 0, .int .i64 0, .int .i64 0, .int .i64 u] StT)).heap[W9.heap.size]? = some (Obj.cells (stA ⟨0, 0, 0, u⟩) StT) := heap_alloc_new _ _
  have HNEW := Lib.hid hnew
  have hlen9 : L.length ≤ 65536 := Nat.le_trans HGX.out.len HP.out.ok.len
  have hnbl : nbx ≠ lbx := fun e => by
    have h9 := HLX.out.nb
    rw [e, HLX.out.lb] at h9
    simp only [Option.some.injEq, Obj.cells.injEq] at h9
    exact absurd h9.2.1 (by decide)
  have hnb1 : ¬ nbx = lbx := hnbl
  have hnb2 : ¬ lbx = nbx := fun e => hnbl e.symm
  have hlnm : nm ≠ lbx := fun e => by
    obtain ⟨es, c, hm⟩ := HLX.out.num.mapb
    rw [e, HLX.out.lb] at hm; cases hm
  have HLNM := Lib.hid hlnm
  have hq : ∀ w', (W9.alloc (.cells #[.int .i64 0, .int .i64 0, .int .i64 0, .int .i64 u] StT)).grownBy w' (Value.slice lva L.length lvc).ownBlock → w'.heap[lbx]? = some (Obj.cells #[.slice lva L.length lvc] SlStT) ∧ w'.cell? ⟨lbx, 0, none⟩ = some (.slice lva L.length lvc) ∧ w'.frozen? ⟨lbx, 0, none⟩ = false ∧ w'.cell? ⟨nbx, 0, none⟩ = some (.map (some nm)) := fun w' hg => by
    have e : w'.heap[lbx]? = some (Obj.cells #[.slice lva L.length lvc] SlStT) := hold_row HLT.out.row hg (by decide) _ _ HLT.out.lb
    have e2 : w'.heap[nbx]? = some (Obj.cells #[.map (some nm)] NumT) := hold_row HLT.out.row hg (by decide) _ _ HLT.out.nb
    exact ⟨e, cellB e rfl, frozenB e, cellB e2 rfl⟩
  have HQ := Lib.hid hq
  have hbs : w0.heap.size ≤ (W9.alloc (.cells #[.int .i64 0, .int .i64 0, .int .i64 0, .int .i64 u] StT)).heap.size := Nat.le_trans H0X.out.size bT.size
  have hwl : wrap64 ((L.length : Int) + 1 - 1) = (L.length : Int) := by unfold wrap64; omega
  have hwl2 : (L ++ [(⟨0, 0, 0, u⟩ : St)]).length = L.length + 1 := by simp
  have HWL := Lib.hid hwl2
  clear hs9 bT hnew hq hlnm hnbl hwl2
  go_wp2_with (first
    | (at_builtin; refine wpList_append_st rfl _ _ rfl w0.heap.size (.slice lva L.length lvc) L rfl HLT.out.row _ ⟨0, 0, 0, u⟩ rfl HNEW.out (by omega) hbs ?_; intro v5 w9 hrow9 hg9 hw9; rw [HWL.out] at hrow9; obtain ⟨q0, q1, q2, q3⟩ := HQ.out w9 hg9; obtain ⟨sa, sc, rfl⟩ := (row_of_own hrow9).shape)
    | (at_mapUpdate; obtain ⟨D0, hown0, hD0⟩ := HLT.out.num.same (w' := w9.setCell ⟨lbx, 0, none⟩ (.slice sa (L.length + 1) sc)) (fun es c hm => (Below.heap_setCell _ _ _ _ HLNM.out).trans (map_row HLT.out.row hg9 hm)); have hm0 := hown0.isMap; refine wpList_mapUpdate_own _ rfl _ _ _ NumT rfl TermT IntT lawT Tryd.underlying95 (plainElem Tryd.prog IntT) nm L.length D0 rfl hown0 (by unfold maxLen; omega) _ _ (.int .i64 u) rfl rfl (keyT HU.out) (.lit (.int .i64 (L.length : Int))) [] (plainElem_int Tryd.underlying3 (wf_i64 (by unfold i64R; omega))) ?_; intro w10 hown10 hg10; have hn10 := NumM.put (s := ⟨0, 0, 0, u⟩) hm0 hD0 HU.out HPX.out hown10; have hrun10 := hn10.look1 HU.out; rw [posL_snoc HPX.out, if_pos rfl] at hrun10; simp only [Option.getD_some] at hrun10; have c10 : w10.cell? ⟨nbx, 0, none⟩ = some (.map (some nm)) := cellB (hold_map (HLT.out.num.same (w' := w9.setCell ⟨lbx, 0, none⟩ (.slice sa (L.length + 1) sc)) (fun es c hm => (Below.heap_setCell _ _ _ _ HLNM.out).trans (map_row HLT.out.row hg9 hm))).mapb hg10 _ _ _ (Hold.setCell q0 (by decide) _ _ (hold_row HLT.out.row hg9 (by decide) _ _ HLT.out.nb))) rfl))
  go_returns
  have hmb9 := (HLT.out.num.same (w' := w9.setCell ⟨lbx, 0, none⟩ (.slice sa (L.length + 1) sc)) (fun es c hm => (Below.heap_setCell _ _ _ _ HLNM.out).trans (map_row HLT.out.row hg9 hm))).mapb
  have hT : ∀ T, T ≠ StT → T ≠ SlStT → Hold T (W9.alloc (.cells #[.int .i64 0, .int .i64 0, .int .i64 0, .int .i64 u] StT)) w10 := fun T h1 h2 => ((hold_row HLT.out.row hg9 h1).trans (Hold.setCell q0 (Ne.symm h2))).trans (hold_map hmb9 hg10 T)
  have hrw10 : w10.ownsRow w0.heap.size StT 4 (.slice sa (L.length + 1) sc) (L ++ [(⟨0, 0, 0, u⟩ : St)]).length (sts (L ++ [(⟨0, 0, 0, u⟩ : St)])) := by
    rw [HWL.out]
    exact own_hold (own_hold hrow9 (Hold.setCell q0 (by decide))) (hold_map hmb9 hg10 _)
  have hb10 : Below w0.heap.size (W9.alloc (.cells #[.int .i64 0, .int .i64 0, .int .i64 0, .int .i64 u] StT)) w10 := ((((Below.refl _ _).grown hg9 hbs (fun q e => (own_type HLT.out.row e).1)).setCell (p := ⟨lbx, 0, none⟩) HLX.out.gl _)).trans (grown_below hg10 (by rw [show (w9.setCell ⟨lbx, 0, none⟩ (.slice sa (L.length + 1) sc)).heap.size = w9.heap.size by simp [World.setCell]]; exact Nat.le_trans hbs hg9.size) (fun q e => by cases e; exact HLX.out.gm))
  have hkl : KL W9 lbx nm (.slice lva L.length lvc) w10 := ⟨Nat.le_trans HBT.out.size (Nat.le_trans hg9.size (by have := hg10.size; simpa [World.setCell] using this)), fun j hj h1 h2 h3 => by
    have e1 : j < (W9.alloc (.cells #[.int .i64 0, .int .i64 0, .int .i64 0, .int .i64 u] StT)).heap.size := Nat.lt_of_lt_of_le hj HBT.out.size
    have e2 : j < w9.heap.size := Nat.lt_of_lt_of_le e1 hg9.size
    rw [hg10.block j (by simpa [World.setCell] using e2) (fun e => h2 (Option.some.inj e)), Below.heap_setCell _ _ _ _ h1, hg9.block j e1 (fun e => h3 e.symm), HBT.out.block j hj]⟩
  have hw9' : VN w (Value.slice lva L.length lvc) (Value.slice sa (L.length + 1) sc) := by
    have h9 := hw9
    try rw [HWL.out] at h9
    rcases h9 with e | e
    · exact .inl e
    · exact .inr ⟨_, e, Nat.le_trans HKX.out.size HBT.out.size⟩
  refine ⟨L.length, .slice sa (L.length + 1) sc, L ++ [⟨0, 0, 0, u⟩], rfl, ⟨hT _ (by decide) (by decide) _ _ HLT.out.nb, hT _ (by decide) (by decide) _ _ HLT.out.kb, hT _ (by decide) (by decide) _ _ HLT.out.fb, hold_map hmb9 hg10 _ _ _ (setCellB q0), hrw10, hn10, HLX.out.gl, HLX.out.gm⟩, HGX.out.snoc HPX.out HFOL.out HRU.out, HPRE.out.trans ⟨_, rfl⟩, ⟨by simp, by simp⟩, (H0X.out.trans (HBT.out.mono H0X.out.size)).trans hb10, HKX.out.trans hkl HVX.out, VN.trans (Nat.le_refl _) HVX.out hw9', fun x hx => ?_, fun _ => (by simp), HLR.out⟩
  rcases List.mem_append.1 hx with hx | hx
  · exact HNW.out x hx
  · rw [List.mem_singleton.1 hx]; exact .inr HNU.out
set_option maxRecDepth 100000 in
set_option maxHeartbeats 25600000 in
theorem lay_way (hp : IsPool w0 B a b v p) (hk : IsKnow w0 B2 k gv mb a p g s) {u : Int} (hu : i64R u) {w : World} {lv : Value} {L : List St} (h0 : Below w0.heap.size w0 w) (hl : IsLay w w0.heap.size nbx kbx fbx lbx nm k lv L) (hgd : GoodL p g R L) (hpos : posL L u = none) {Ny : Int → Prop} {wr wy : Int} (hfr : freeB (atP p u).1.kind = false) (hin : inP p u = true) (hsu : s u = some (wr, wy)) (hy0 : wy ≠ 0) (hwr : wr = 1 ∨ wr = 2 ∨ wr = 3) (htk : takeN wr (atP p wy).1 = u) (hly : LayC w0 p g R s nbx kbx fbx lbx nm k Ny wy) (hny : ¬ Ny u) (hns : ∀ x, Ny x → N x) (hru : R u) (hnu : N u) :
    Calls Tryd.prog 49 #[.int .i64 u, .pointer (some ⟨nbx, 0, none⟩), .pointer (some ⟨kbx, 0, none⟩), .pointer (some ⟨fbx, 0, none⟩), .pointer (some ⟨lbx, 0, none⟩)] w (LayPost w0 p g R s nbx kbx fbx lbx nm k N w lv L u) := by
  have HLR : Hid (∀ (i : Nat) (L1 : List St), LayR p s wy L i L1 → LayR p s u L L1.length (L1 ++ [⟨wr, (i : Int), 0, u⟩])) := Lib.hid (fun i L1 h => .way hpos hfr hsu hy0 h)
  have hlk := hl.num.look hu
  rw [hpos] at hlk
  have cN : w.cell? ⟨nbx, 0, none⟩ = some (.map (some nm)) := cellB hl.nb rfl
  have H0 := Lib.hid h0
  have HL := Lib.hid hl
  have HGD := Lib.hid hgd
  have HPOS := Lib.hid hpos
  have HRU := Lib.hid hru
  have HNU := Lib.hid hnu
  have HSU := Lib.hid hsu
  have HFW : Hid (∀ (L1 : List St) (i1 : Nat) (hi1 : i1 < L1.length), (L1[i1]).t = wy → followsP p g L1 ⟨wr, (i1 : Int), 0, u⟩ = true) := Lib.hid (fun L1 i1 hi1 ht1 => fol_way hin hwr hi1 ht1 htk)
  have HY0 := Lib.hid hy0
  have HWR := Lib.hid hwr
  have HTK := Lib.hid htk
  have HLY := Lib.hid hly
  have HNY := Lib.hid hny
  have HNS := Lib.hid hns
  clear hsu hin hru hnu hy0 hwr htk hly hny hns
  simp only [Option.getD_none, Option.isSome_none] at hlk
  have HU := Lib.hid hu
  have HP := Lib.hid hp
  have HK := Lib.hid hk
  have hlen : L.length ≤ 65536 := Nat.le_trans hgd.len hp.ok.len
  have b4 := bA0 w (.cells #[.int .i64 0, .int .i64 0, .int .i64 0, .int .i64 u] StT)
  have hs4 : (w.alloc (.cells #[.int .i64 0, .int .i64 0, .int .i64 0, .int .i64 u] StT)).heap[w.heap.size]? = some (Obj.cells #[.int .i64 0, .int .i64 0, .int .i64 0, .int .i64 u] StT) := heap_alloc_new _ _
  have hnl : lv.ownBlock ≠ some w.heap.size := fun e => by
    obtain ⟨_, cur, hc⟩ := own_type hl.row e
    exact absurd (Array.getElem?_eq_some_iff.1 hc).1 (Nat.lt_irrefl _)
  have HNL := Lib.hid hnl
  have cK : (w.alloc (.cells #[.int .i64 0, .int .i64 0, .int .i64 0, .int .i64 u] StT)).cell? ⟨kbx, 0, none⟩ = some (.pointer (some ⟨k, 0, none⟩)) := cellB (hl.below b4).kb rfl
  have cA : (w.alloc (.cells #[.int .i64 0, .int .i64 0, .int .i64 0, .int .i64 u] StT)).cell? ⟨k, 0, none⟩ = some (.pointer (some ⟨a, 0, none⟩)) := cellB (hk.below (bmore h0 b4)).lay rfl
  have HN := Lib.hid (pnode (hp.below (bmore h0 b4)) u)
  have FR := Lib.hid (fun (W : World) => free_any (atP p u).1 W)
  have hsk := fun (W : World) (h : Below w0.heap.size w0 W) => ((hk.below h).seen.look hu)
  have hck := fun (W : World) (h : Below w0.heap.size w0 W) => (show W.cell? ⟨k, 2, none⟩ = some (.map (some mb)) from cellB (hk.below h).lay rfl)
  have HSK := Lib.hid hsk
  have HCK := Lib.hid hck
  have HS4 := Lib.hid hs4
  have H4 := Lib.hid b4
  rw [hfr] at FR
  generalize hnn : (atP p u).1 = n at *
  have HNN := Lib.hid hnn
  generalize inP p u = iu at *
  clear hp hk hl hgd h0 hpos b4 hs4 hnl hsk hck hu hnn hfr
  obtain ⟨kk, ff, tt, uu, ss, xa, xb⟩ := n
  simp only [nodeA] at HN FR
  go_enter Tryd.func49, Tryd.ntmps49
  go_wp2_with fail
  refine HN.out.mono ?_
  rintro e w5 ⟨rfl, u5⟩
  have b6 := bA0 w5 (.cells #[.int .i64 kk, .int .i64 ff, .int .i64 tt, .int .u64 uu, .string ss, .int .i64 xa, .int .i64 xb] NodeT)
  have hn6 : (w5.alloc (.cells #[.int .i64 kk, .int .i64 ff, .int .i64 tt, .int .u64 uu, .string ss, .int .i64 xa, .int .i64 xb] NodeT)).heap[w5.heap.size]? = some (Obj.cells #[.int .i64 kk, .int .i64 ff, .int .i64 tt, .int .u64 uu, .string ss, .int .i64 xa, .int .i64 xb] NodeT) := heap_alloc_new _ _
  have H6 := Lib.hid (bmore H4.out (bmore u5 b6))
  have HS6 := Lib.hid (Hold.below (bmore u5 b6) _ _ HS4.out)
  have HN6 := Lib.hid hn6
  clear u5 b6 hn6 cK cA hlk cN
  have cK := cellB (j := 0) (HL.out.below H6.out).kb rfl
  have cM := HCK.out _ (bmore H0.out H6.out)
  have hlk := HSK.out _ (bmore H0.out H6.out)
  rw [HSU.out] at hlk; simp only [wayV, Option.getD_some, Option.isSome_some] at hlk
  go_upto_region 6 with fail
  generalize (w5.alloc (.cells #[.int .i64 kk, .int .i64 ff, .int .i64 tt, .int .u64 uu, .string ss, .int .i64 xa, .int .i64 xb] NodeT)) = W6 at *
  generalize w5.heap.size = nbk at *
  have b7 := bA0 W6 (.cells #[.int .i64 wr, .int .i64 wy] WayT)
  have hw7 : (W6.alloc (.cells #[.int .i64 wr, .int .i64 wy] WayT)).heap[W6.heap.size]? = some (Obj.cells #[.int .i64 wr, .int .i64 wy] WayT) := heap_alloc_new _ _
  have H7 := Lib.hid (bmore H6.out b7)
  have HS7 := Lib.hid (Hold.below b7 _ _ HS6.out)
  have hn7 := Hold.below b7 _ _ HN6.out
  have HN7 := Lib.hid hn7
  have HW7 := Lib.hid hw7
  have y0 := cellB (j := 0) hn7 rfl
  have y1 := cellB (j := 1) hn7 rfl
  have y2 := cellB (j := 2) hn7 rfl
  have y3 := cellB (j := 3) hn7 rfl
  have y4 := cellB (j := 4) hn7 rfl
  have y5 := cellB (j := 5) hn7 rfl
  have y6 := cellB (j := 6) hn7 rfl
  clear b7 hw7 hn7
  go_wp2_with fail
  generalize (W6.alloc (.cells #[.int .i64 wr, .int .i64 wy] WayT)) = W7 at *
  generalize W6.heap.size = wb at *
  refine (FR.out _).mono ?_
  rintro e w8 ⟨rfl, u8⟩
  have H8 := Lib.hid (bmore H7.out u8)
  have HS8 := Lib.hid (Hold.below u8 _ _ HS7.out)
  have HN8 := Lib.hid (Hold.below u8 _ _ HN7.out)
  have HW8 := Lib.hid (Hold.below u8 _ _ HW7.out)
  clear u8 y0 y1 y2 y3 y4 y5 y6 cK cM hlk
  have hs8 := HS8.out
  have hw8 := HW8.out
  have f0 := frozenB (j := 0) hs8
  have x0 := cellB (j := 0) hs8 rfl
  have d0 := cellB (j := 0) hw8 rfl
  have d1 := cellB (j := 1) hw8 rfl
  have hsb : w.heap.size ≠ wb := fun e => by
    rw [← e, hs8] at hw8
    simp only [Option.some.injEq, Obj.cells.injEq] at hw8
    exact absurd hw8.2.1 (by decide)
  have hsb1 : ¬ w.heap.size = wb := hsb
  have hsb2 : ¬ wb = w.heap.size := fun e => hsb e.symm
  have HSX : Hid ((w8.setCell ⟨w.heap.size, 0, none⟩ (.int .i64 wr)).heap[w.heap.size]? = some (Obj.cells #[.int .i64 wr, .int .i64 0, .int .i64 0, .int .i64 u] StT)) := Lib.hid (setCellB hs8)
  have HLX := Lib.hid ((HL.out.below H8.out).set hs8 HNL.out 0 (.int .i64 wr))
  have H0X := Lib.hid ((bmore H0.out H8.out).setCell (p := ⟨w.heap.size, 0, none⟩) (H0.out.size) (.int .i64 wr))
  have HKX : Hid (KL w lbx nm lv (w8.setCell ⟨w.heap.size, 0, none⟩ (.int .i64 wr))) := Lib.hid ((KL.of H8.out).set (Nat.le_refl _) 0 _)
  have e1 : (w8.setCell ⟨w.heap.size, 0, none⟩ (.int .i64 wr)).cell? ⟨wb, 1, none⟩ = some (.int .i64 wy) := cellB ((Below.heap_setCell _ _ _ _ hsb2).trans hw8) rfl
  have e2 : (w8.setCell ⟨w.heap.size, 0, none⟩ (.int .i64 wr)).cell? ⟨fbx, 0, none⟩ = some (.func (.func 49) #[] #[.pointer (some ⟨nbx, 0, none⟩), .pointer (some ⟨kbx, 0, none⟩), .pointer (some ⟨fbx, 0, none⟩), .pointer (some ⟨lbx, 0, none⟩)]) := cellB HLX.out.fb rfl
  have hy0 := ebF HY0.out
  have hy1 : (wy != 0) = true := by rw [bne, hy0]; rfl
  clear hs8 hw8 hsb
  go_upto_region 15 with fail
  generalize (w8.setCell ⟨w.heap.size, 0, none⟩ (.int .i64 wr)) = W9 at *
  clear f0 x0 d0 d1
  go_wp2_with fail
  refine (HLY.out W9 lv L H0X.out HLX.out HGD.out).mono ?_
  rintro e w10 ⟨i1, lv1, L1, rfl, l1, g1, pr1, ⟨hi1, ht1⟩, b1, k1, v1, nw1, _, lr1⟩
  have HLR1 := Lib.hid lr1
  clear lr1
  have hsk : w10.heap[w.heap.size]? = some (Obj.cells #[.int .i64 wr, .int .i64 0, .int .i64 0, .int .i64 u] StT) := by
    have h9 := HSX.out
    rw [k1.keep _ (Array.getElem?_eq_some_iff.1 h9).1 (fun e => ?_) (fun e => ?_) HNL.out]
    · exact h9
    · rw [e, HLX.out.lb] at h9
      simp only [Option.some.injEq, Obj.cells.injEq] at h9
      exact absurd h9.2.1 (by decide)
    · obtain ⟨es, c, hm⟩ := HLX.out.num.mapb
      rw [e, hm] at h9; cases h9
  have hnl1 : lv1.ownBlock ≠ some w.heap.size := fun e => by
    rcases v1 with e' | ⟨q, e', hq⟩
    · exact HNL.out (e'.symm.trans e)
    · rw [e'] at e
      cases e
      have := (Array.getElem?_eq_some_iff.1 HSX.out).1
      omega
  have f1 := frozenB (j := 1) hsk
  have x1 := cellB (j := 1) hsk rfl
  have HGX := Lib.hid g1
  have HPRE := Lib.hid pr1
  have HFOL := Lib.hid (HFW.out L1 i1 hi1 ht1)
  have HPX : Hid (posL L1 u = none) := Lib.hid (by
    cases e : posL L1 u with
    | none => rfl
    | some i =>
      obtain ⟨hi, ht⟩ := posL_some e
      rcases nw1 _ (List.getElem_mem hi) with h9 | h9
      · exact absurd ht (posL_none HPOS.out _ h9)
      · rw [ht] at h9; exact absurd h9 HNY.out)
  have HNW : Hid (∀ x ∈ L1, x ∈ L ∨ N x.t) := Lib.hid (fun x hx => (nw1 x hx).imp id (HNS.out x.t))
  have HVX := Lib.hid (VN.trans HKX.out.size (VN.refl w lv) v1)
  have HSY : Hid ((w10.setCell ⟨w.heap.size, 1, none⟩ (.int .i64 (i1 : Int))).heap[w.heap.size]? = some (Obj.cells #[.int .i64 wr, .int .i64 (i1 : Int), .int .i64 0, .int .i64 u] StT)) := Lib.hid (setCellB hsk)
  have HLY2 := Lib.hid (l1.set hsk hnl1 1 (.int .i64 (i1 : Int)))
  have H0Y := Lib.hid (b1.setCell (p := ⟨w.heap.size, 1, none⟩) (H0.out.size) (.int .i64 (i1 : Int)))
  have HKY : Hid (KL w lbx nm lv (w10.setCell ⟨w.heap.size, 1, none⟩ (.int .i64 (i1 : Int)))) := Lib.hid ((HKX.out.trans k1 (VN.refl w lv)).set (Nat.le_refl _) 1 _)
  clear l1 g1 pr1 hi1 ht1 b1 k1 v1 nw1 hsk hnl1 e1 e2 hsb1 hsb2 hy0 hy1 HSX HLX H0X HKX
  have HSX := HSY
  have HLX := HLY2
  have H0X := H0Y
  have HKX := HKY
  clear HSY HLY2 H0Y HKY HLY
  go_upto_region 17 with fail
  generalize (w10.setCell ⟨w.heap.size, 1, none⟩ (.int .i64 (i1 : Int))) = W11 at *
  clear f1 x1
  obtain ⟨lva, lvc, hlvs⟩ := (row_of_own HLX.out.row).shape
  subst hlvs
  have hs9 := HSX.out
  have z0 := cellB (j := 0) hs9 rfl
  have z1 := cellB (j := 1) hs9 rfl
  have z2 := cellB (j := 2) hs9 rfl
  have z3 := cellB (j := 3) hs9 rfl
  have cL : W11.cell? ⟨lbx, 0, none⟩ = some (.slice lva L1.length lvc) := cellB HLX.out.lb rfl
  have bT := bA0 W11 (.cells #[.int .i64 wr, .int .i64 (i1 : Int), .int .i64 0, .int .i64 u] StT)
  have HBT := Lib.hid bT
  have HLT := Lib.hid (HLX.out.below bT)
  have hnew : (W11.alloc (.cells #[.int .i64 wr, .int .i64 (i1 : Int), .int .i64 0, .int .i64 u] StT)).heap[W11.heap.size]? = some (Obj.cells (stA ⟨wr, (i1 : Int), 0, u⟩) StT) := heap_alloc_new _ _
  have HNEW := Lib.hid hnew
  have hlen9 : L1.length ≤ 65536 := Nat.le_trans HGX.out.len HP.out.ok.len
  have hnbl : nbx ≠ lbx := fun e => by
    have h9 := HLX.out.nb
    rw [e, HLX.out.lb] at h9
    simp only [Option.some.injEq, Obj.cells.injEq] at h9
    exact absurd h9.2.1 (by decide)
  have hnb1 : ¬ nbx = lbx := hnbl
  have hnb2 : ¬ lbx = nbx := fun e => hnbl e.symm
  have hlnm : nm ≠ lbx := fun e => by
    obtain ⟨es, c, hm⟩ := HLX.out.num.mapb
    rw [e, HLX.out.lb] at hm; cases hm
  have HLNM := Lib.hid hlnm
  have hq : ∀ w', (W11.alloc (.cells #[.int .i64 wr, .int .i64 (i1 : Int), .int .i64 0, .int .i64 u] StT)).grownBy w' (Value.slice lva L1.length lvc).ownBlock → w'.heap[lbx]? = some (Obj.cells #[.slice lva L1.length lvc] SlStT) ∧ w'.cell? ⟨lbx, 0, none⟩ = some (.slice lva L1.length lvc) ∧ w'.frozen? ⟨lbx, 0, none⟩ = false ∧ w'.cell? ⟨nbx, 0, none⟩ = some (.map (some nm)) := fun w' hg => by
    have e : w'.heap[lbx]? = some (Obj.cells #[.slice lva L1.length lvc] SlStT) := hold_row HLT.out.row hg (by decide) _ _ HLT.out.lb
    have e2 : w'.heap[nbx]? = some (Obj.cells #[.map (some nm)] NumT) := hold_row HLT.out.row hg (by decide) _ _ HLT.out.nb
    exact ⟨e, cellB e rfl, frozenB e, cellB e2 rfl⟩
  have HQ := Lib.hid hq
  have hbs : w0.heap.size ≤ (W11.alloc (.cells #[.int .i64 wr, .int .i64 (i1 : Int), .int .i64 0, .int .i64 u] StT)).heap.size := Nat.le_trans H0X.out.size bT.size
  have hwl : wrap64 ((L1.length : Int) + 1 - 1) = (L1.length : Int) := by unfold wrap64; omega
  have hwl2 : (L1 ++ [(⟨wr, (i1 : Int), 0, u⟩ : St)]).length = L1.length + 1 := by simp
  have HWL := Lib.hid hwl2
  clear hs9 bT hnew hq hlnm hnbl hwl2
  go_wp2_with (first
    | (at_builtin; refine wpList_append_st rfl _ _ rfl w0.heap.size (.slice lva L1.length lvc) L1 rfl HLT.out.row _ ⟨wr, (i1 : Int), 0, u⟩ rfl HNEW.out (by omega) hbs ?_; intro v5 w9 hrow9 hg9 hw9; rw [HWL.out] at hrow9; obtain ⟨q0, q1, q2, q3⟩ := HQ.out w9 hg9; obtain ⟨sa, sc, rfl⟩ := (row_of_own hrow9).shape)
    | (at_mapUpdate; obtain ⟨D0, hown0, hD0⟩ := HLT.out.num.same (w' := w9.setCell ⟨lbx, 0, none⟩ (.slice sa (L1.length + 1) sc)) (fun es c hm => (Below.heap_setCell _ _ _ _ HLNM.out).trans (map_row HLT.out.row hg9 hm)); have hm0 := hown0.isMap; refine wpList_mapUpdate_own _ rfl _ _ _ NumT rfl TermT IntT lawT Tryd.underlying95 (plainElem Tryd.prog IntT) nm L1.length D0 rfl hown0 (by unfold maxLen; omega) _ _ (.int .i64 u) rfl rfl (keyT HU.out) (.lit (.int .i64 (L1.length : Int))) [] (plainElem_int Tryd.underlying3 (wf_i64 (by unfold i64R; omega))) ?_; intro w10 hown10 hg10; have hn10 := NumM.put (s := ⟨wr, (i1 : Int), 0, u⟩) hm0 hD0 HU.out HPX.out hown10; have hrun10 := hn10.look1 HU.out; rw [posL_snoc HPX.out, if_pos rfl] at hrun10; simp only [Option.getD_some] at hrun10; have c10 : w10.cell? ⟨nbx, 0, none⟩ = some (.map (some nm)) := cellB (hold_map (HLT.out.num.same (w' := w9.setCell ⟨lbx, 0, none⟩ (.slice sa (L1.length + 1) sc)) (fun es c hm => (Below.heap_setCell _ _ _ _ HLNM.out).trans (map_row HLT.out.row hg9 hm))).mapb hg10 _ _ _ (Hold.setCell q0 (by decide) _ _ (hold_row HLT.out.row hg9 (by decide) _ _ HLT.out.nb))) rfl))
  go_returns
  have hmb9 := (HLT.out.num.same (w' := w9.setCell ⟨lbx, 0, none⟩ (.slice sa (L1.length + 1) sc)) (fun es c hm => (Below.heap_setCell _ _ _ _ HLNM.out).trans (map_row HLT.out.row hg9 hm))).mapb
  have hT : ∀ T, T ≠ StT → T ≠ SlStT → Hold T (W11.alloc (.cells #[.int .i64 wr, .int .i64 (i1 : Int), .int .i64 0, .int .i64 u] StT)) w10 := fun T h1 h2 => ((hold_row HLT.out.row hg9 h1).trans (Hold.setCell q0 (Ne.symm h2))).trans (hold_map hmb9 hg10 T)
  have hrw10 : w10.ownsRow w0.heap.size StT 4 (.slice sa (L1.length + 1) sc) (L1 ++ [(⟨wr, (i1 : Int), 0, u⟩ : St)]).length (sts (L1 ++ [(⟨wr, (i1 : Int), 0, u⟩ : St)])) := by
    rw [HWL.out]
    exact own_hold (own_hold hrow9 (Hold.setCell q0 (by decide))) (hold_map hmb9 hg10 _)
  have hb10 : Below w0.heap.size (W11.alloc (.cells #[.int .i64 wr, .int .i64 (i1 : Int), .int .i64 0, .int .i64 u] StT)) w10 := ((((Below.refl _ _).grown hg9 hbs (fun q e => (own_type HLT.out.row e).1)).setCell (p := ⟨lbx, 0, none⟩) HLX.out.gl _)).trans (grown_below hg10 (by rw [show (w9.setCell ⟨lbx, 0, none⟩ (.slice sa (L1.length + 1) sc)).heap.size = w9.heap.size by simp [World.setCell]]; exact Nat.le_trans hbs hg9.size) (fun q e => by cases e; exact HLX.out.gm))
  have hkl : KL W11 lbx nm (.slice lva L1.length lvc) w10 := ⟨Nat.le_trans HBT.out.size (Nat.le_trans hg9.size (by have := hg10.size; simpa [World.setCell] using this)), fun j hj h1 h2 h3 => by
    have e1 : j < (W11.alloc (.cells #[.int .i64 wr, .int .i64 (i1 : Int), .int .i64 0, .int .i64 u] StT)).heap.size := Nat.lt_of_lt_of_le hj HBT.out.size
    have e2 : j < w9.heap.size := Nat.lt_of_lt_of_le e1 hg9.size
    rw [hg10.block j (by simpa [World.setCell] using e2) (fun e => h2 (Option.some.inj e)), Below.heap_setCell _ _ _ _ h1, hg9.block j e1 (fun e => h3 e.symm), HBT.out.block j hj]⟩
  have hw9' : VN w (Value.slice lva L1.length lvc) (Value.slice sa (L1.length + 1) sc) := by
    have h9 := hw9
    try rw [HWL.out] at h9
    rcases h9 with e | e
    · exact .inl e
    · exact .inr ⟨_, e, Nat.le_trans HKX.out.size HBT.out.size⟩
  refine ⟨L1.length, .slice sa (L1.length + 1) sc, L1 ++ [⟨wr, (i1 : Int), 0, u⟩], rfl, ⟨hT _ (by decide) (by decide) _ _ HLT.out.nb, hT _ (by decide) (by decide) _ _ HLT.out.kb, hT _ (by decide) (by decide) _ _ HLT.out.fb, hold_map hmb9 hg10 _ _ _ (setCellB q0), hrw10, hn10, HLX.out.gl, HLX.out.gm⟩, HGX.out.snoc HPX.out HFOL.out HRU.out, HPRE.out.trans ⟨_, rfl⟩, ⟨by simp, by simp⟩, (H0X.out.trans (HBT.out.mono H0X.out.size)).trans hb10, HKX.out.trans hkl HVX.out, VN.trans (Nat.le_refl _) HVX.out hw9', fun x hx => ?_, fun _ => (by simp), HLR.out _ _ HLR1.out⟩
  rcases List.mem_append.1 hx with hx | hx
  · exact HNW.out x hx
  · rw [List.mem_singleton.1 hx]; exact .inr HNU.out
end
end Go.Proofs.YtjpkeoenajlmeaaDoor
namespace Go.Proofs.YtjpkeoenajlmeaaDoor
open Go.RowKit Go.Maps
set_option linter.unusedVariables false

section
variable {w0 : World} {B a b : Nat} {v : Value} {p : Pl} {B2 k : Nat} {gv : Value} {mb : Nat} {g : List Int} {s : Int → Option Way} {R N : Int → Prop} {nbx kbx fbx lbx nm : Nat}
set_option maxRecDepth 100000 in
set_option maxHeartbeats 25600000 in
theorem lay_one (hp : IsPool w0 B a b v p) (hk : IsKnow w0 B2 k gv mb a p g s) {u : Int} (hu : i64R u) {w : World} {lv : Value} {L : List St} (h0 : Below w0.heap.size w0 w) (hl : IsLay w w0.heap.size nbx kbx fbx lbx nm k lv L) (hgd : GoodL p g R L) (hpos : posL L u = none) {Na : Int → Prop} {pa pb : Int} (hfr : freeB (atP p u).1.kind = false) (hin : inP p u = true) (hsu : s u = none) (hpt : partP p (atP p u).1 = (pa, pb, true)) (hla : LayC w0 p g R s nbx kbx fbx lbx nm k Na pa) (hna : ¬ Na u) (hnsa : ∀ x, Na x → N x) (hru : R u) (hnu : N u) (hb0 : pb = 0) :
    Calls Tryd.prog 49 #[.int .i64 u, .pointer (some ⟨nbx, 0, none⟩), .pointer (some ⟨kbx, 0, none⟩), .pointer (some ⟨fbx, 0, none⟩), .pointer (some ⟨lbx, 0, none⟩)] w (LayPost w0 p g R s nbx kbx fbx lbx nm k N w lv L u) := by
  have HLR : Hid (∀ (i : Nat) (L1 : List St), LayR p s pa L i L1 → LayR p s u L L1.length (L1 ++ [⟨5, (i : Int), 0, u⟩])) := Lib.hid (fun i L1 h => .one hpos hfr hsu hpt hb0 h)
  have hlk := hl.num.look hu
  rw [hpos] at hlk
  have cN : w.cell? ⟨nbx, 0, none⟩ = some (.map (some nm)) := cellB hl.nb rfl
  have H0 := Lib.hid h0
  have HL := Lib.hid hl
  have HGD := Lib.hid hgd
  have HPOS := Lib.hid hpos
  have HRU := Lib.hid hru
  have HNU := Lib.hid hnu
  have HSU := Lib.hid hsu
  have HPT := Lib.hid hpt
  have HLA := Lib.hid hla
  have HNA := Lib.hid hna
  have HNSA := Lib.hid hnsa
  have HFW : Hid (∀ (L1 : List St) (i1 : Nat) (hi1 : i1 < L1.length), (L1[i1]).t = pa → followsP p g L1 ⟨5, (i1 : Int), 0, u⟩ = true) := Lib.hid (fun L1 i1 hi1 ht1 => fol_one (by rw [hpt]) hin hi1 (by rw [hpt]; exact ht1) (by rw [hpt]; exact hb0))
  subst hb0
  clear hsu hin hru hnu hpt hla hna hnsa
  simp only [Option.getD_none, Option.isSome_none] at hlk
  have HU := Lib.hid hu
  have HP := Lib.hid hp
  have HK := Lib.hid hk
  have hlen : L.length ≤ 65536 := Nat.le_trans hgd.len hp.ok.len
  have b4 := bA0 w (.cells #[.int .i64 0, .int .i64 0, .int .i64 0, .int .i64 u] StT)
  have hs4 : (w.alloc (.cells #[.int .i64 0, .int .i64 0, .int .i64 0, .int .i64 u] StT)).heap[w.heap.size]? = some (Obj.cells #[.int .i64 0, .int .i64 0, .int .i64 0, .int .i64 u] StT) := heap_alloc_new _ _
  have hnl : lv.ownBlock ≠ some w.heap.size := fun e => by
    obtain ⟨_, cur, hc⟩ := own_type hl.row e
    exact absurd (Array.getElem?_eq_some_iff.1 hc).1 (Nat.lt_irrefl _)
  have HNL := Lib.hid hnl
  have cK : (w.alloc (.cells #[.int .i64 0, .int .i64 0, .int .i64 0, .int .i64 u] StT)).cell? ⟨kbx, 0, none⟩ = some (.pointer (some ⟨k, 0, none⟩)) := cellB (hl.below b4).kb rfl
  have cA : (w.alloc (.cells #[.int .i64 0, .int .i64 0, .int .i64 0, .int .i64 u] StT)).cell? ⟨k, 0, none⟩ = some (.pointer (some ⟨a, 0, none⟩)) := cellB (hk.below (bmore h0 b4)).lay rfl
  have HN := Lib.hid (pnode (hp.below (bmore h0 b4)) u)
  have FR := Lib.hid (fun (W : World) => free_any (atP p u).1 W)
  have hsk := fun (W : World) (h : Below w0.heap.size w0 W) => ((hk.below h).seen.look hu)
  have hck := fun (W : World) (h : Below w0.heap.size w0 W) => (show W.cell? ⟨k, 2, none⟩ = some (.map (some mb)) from cellB (hk.below h).lay rfl)
  have HSK := Lib.hid hsk
  have HCK := Lib.hid hck
  have HS4 := Lib.hid hs4
  have H4 := Lib.hid b4
  rw [hfr] at FR
  have PA := Lib.hid (fun (W : World) (h : IsPool W B a b v p) => by have := parts_pool h (atP_nok h.nok u); rw [HPT.out] at this; exact this)
  clear HPT
  generalize hnn : (atP p u).1 = n at *
  have HNN := Lib.hid hnn
  generalize inP p u = iu at *
  clear hp hk hl hgd h0 hpos b4 hs4 hnl hsk hck hu hnn hfr
  obtain ⟨kk, ff, tt, uu, ss, xa, xb⟩ := n
  simp only [nodeA] at HN FR PA
  go_enter Tryd.func49, Tryd.ntmps49
  go_wp2_with fail
  refine HN.out.mono ?_
  rintro e w5 ⟨rfl, u5⟩
  have b6 := bA0 w5 (.cells #[.int .i64 kk, .int .i64 ff, .int .i64 tt, .int .u64 uu, .string ss, .int .i64 xa, .int .i64 xb] NodeT)
  have hn6 : (w5.alloc (.cells #[.int .i64 kk, .int .i64 ff, .int .i64 tt, .int .u64 uu, .string ss, .int .i64 xa, .int .i64 xb] NodeT)).heap[w5.heap.size]? = some (Obj.cells #[.int .i64 kk, .int .i64 ff, .int .i64 tt, .int .u64 uu, .string ss, .int .i64 xa, .int .i64 xb] NodeT) := heap_alloc_new _ _
  have H6 := Lib.hid (bmore H4.out (bmore u5 b6))
  have HS6 := Lib.hid (Hold.below (bmore u5 b6) _ _ HS4.out)
  have HN6 := Lib.hid hn6
  clear u5 b6 hn6 cK cA hlk cN
  have cK := cellB (j := 0) (HL.out.below H6.out).kb rfl
  have cM := HCK.out _ (bmore H0.out H6.out)
  have hlk := HSK.out _ (bmore H0.out H6.out)
  rw [HSU.out] at hlk; simp only [wayV, Option.getD_none, Option.isSome_none] at hlk
  go_upto_region 6 with fail
  generalize (w5.alloc (.cells #[.int .i64 kk, .int .i64 ff, .int .i64 tt, .int .u64 uu, .string ss, .int .i64 xa, .int .i64 xb] NodeT)) = W6 at *
  generalize w5.heap.size = nbk at *
  have b7 := bA0 W6 (.cells #[.int .i64 0, .int .i64 0] WayT)
  have hw7 : (W6.alloc (.cells #[.int .i64 0, .int .i64 0] WayT)).heap[W6.heap.size]? = some (Obj.cells #[.int .i64 0, .int .i64 0] WayT) := heap_alloc_new _ _
  have H7 := Lib.hid (bmore H6.out b7)
  have HS7 := Lib.hid (Hold.below b7 _ _ HS6.out)
  have hn7 := Hold.below b7 _ _ HN6.out
  have HN7 := Lib.hid hn7
  have HW7 := Lib.hid hw7
  have y0 := cellB (j := 0) hn7 rfl
  have y1 := cellB (j := 1) hn7 rfl
  have y2 := cellB (j := 2) hn7 rfl
  have y3 := cellB (j := 3) hn7 rfl
  have y4 := cellB (j := 4) hn7 rfl
  have y5 := cellB (j := 5) hn7 rfl
  have y6 := cellB (j := 6) hn7 rfl
  clear b7 hw7 hn7
  go_wp2_with fail
  generalize (W6.alloc (.cells #[.int .i64 0, .int .i64 0] WayT)) = W7 at *
  generalize W6.heap.size = wb at *
  refine (FR.out _).mono ?_
  rintro e w8 ⟨rfl, u8⟩
  have H8 := Lib.hid (bmore H7.out u8)
  have HS8 := Lib.hid (Hold.below u8 _ _ HS7.out)
  have HN8 := Lib.hid (Hold.below u8 _ _ HN7.out)
  have HW8 := Lib.hid (Hold.below u8 _ _ HW7.out)
  clear u8 y0 y1 y2 y3 y4 y5 y6 cK cM hlk
  have hn8 := HN8.out
  have y0 := cellB (j := 0) hn8 rfl
  have y1 := cellB (j := 1) hn8 rfl
  have y2 := cellB (j := 2) hn8 rfl
  have y3 := cellB (j := 3) hn8 rfl
  have y4 := cellB (j := 4) hn8 rfl
  have y5 := cellB (j := 5) hn8 rfl
  have y6 := cellB (j := 6) hn8 rfl
  have cK8 : w8.cell? ⟨kbx, 0, none⟩ = some (.pointer (some ⟨k, 0, none⟩)) := cellB (HL.out.below H8.out).kb rfl
  have cA8 : w8.cell? ⟨k, 0, none⟩ = some (.pointer (some ⟨a, 0, none⟩)) := cellB (HK.out.below (bmore H0.out H8.out)).lay rfl
  have hkp : ∀ V : World, Below w8.heap.size w8 V → V.cell? ⟨kbx, 0, none⟩ = some (.pointer (some ⟨k, 0, none⟩)) ∧ V.cell? ⟨k, 0, none⟩ = some (.pointer (some ⟨a, 0, none⟩)) ∧ V.cell? ⟨nbk, 0, none⟩ = some (.int .i64 kk) ∧ V.cell? ⟨nbk, 1, none⟩ = some (.int .i64 ff) ∧ V.cell? ⟨nbk, 2, none⟩ = some (.int .i64 tt) ∧ V.cell? ⟨nbk, 3, none⟩ = some (.int .u64 uu) ∧ V.cell? ⟨nbk, 4, none⟩ = some (.string ss) ∧ V.cell? ⟨nbk, 5, none⟩ = some (.int .i64 xa) ∧ V.cell? ⟨nbk, 6, none⟩ = some (.int .i64 xb) ∧ Below w8.heap.size w8 V := fun V hV => ⟨bcellAt hV cK8, bcellAt hV cA8, bcellAt hV y0, bcellAt hV y1, bcellAt hV y2, bcellAt hV y3, bcellAt hV y4, bcellAt hV y5, bcellAt hV y6, hV⟩
  have HKP := Lib.hid hkp
  have HPP := Lib.hid (HP.out.below (bmore H0.out H8.out))
  clear hkp hn8
  go_upto_region 7 with fail
  go_region_held3 (fun w' => w'.cell? ⟨kbx, 0, none⟩ = some (.pointer (some ⟨k, 0, none⟩)) ∧ w'.cell? ⟨k, 0, none⟩ = some (.pointer (some ⟨a, 0, none⟩)) ∧ w'.cell? ⟨nbk, 0, none⟩ = some (.int .i64 kk) ∧ w'.cell? ⟨nbk, 1, none⟩ = some (.int .i64 ff) ∧ w'.cell? ⟨nbk, 2, none⟩ = some (.int .i64 tt) ∧ w'.cell? ⟨nbk, 3, none⟩ = some (.int .u64 uu) ∧ w'.cell? ⟨nbk, 4, none⟩ = some (.string ss) ∧ w'.cell? ⟨nbk, 5, none⟩ = some (.int .i64 xa) ∧ w'.cell? ⟨nbk, 6, none⟩ = some (.int .i64 xb) ∧ Below w8.heap.size w8 w') ((refine HKP.out _ ?_; first | exact bdd _ _ | exact bd _ | exact bmore (by first | assumption | exact bdn _ _ | exact bd _ | exact Below.refl _ _) u1))
    (((with_reducible refine (PA.out _ (HPP.out.below (by first | assumption | exact bdn _ _ | exact bd _ | exact Below.refl _ _))).mono ?_); rintro e w9 ⟨rfl, u1⟩))
  have hz := bmore (bd w8) u1
  have H9 := Lib.hid (bmore H8.out hz)
  have HS9 := Lib.hid (Hold.below hz _ _ HS8.out)
  have HL9 := Lib.hid (HL.out.below H9.out)
  have eF : w9.cell? ⟨fbx, 0, none⟩ = some (.func (.func 49) #[] #[.pointer (some ⟨nbx, 0, none⟩), .pointer (some ⟨kbx, 0, none⟩), .pointer (some ⟨fbx, 0, none⟩), .pointer (some ⟨lbx, 0, none⟩)]) := cellB HL9.out.fb rfl
  clear hz u1 y0 y1 y2 y3 y4 y5 y6 cK8 cA8 HKP HPP PA
  go_wp2_with fail
  refine (HLA.out w9 lv L (bmore H0.out H9.out) HL9.out HGD.out).mono ?_
  rintro e w10 ⟨i1, lv1, L1, rfl, l1, g1, pr1, ⟨hi1, ht1⟩, b1, k1, v1, nw1, _, lr1⟩
  have HLR1 := Lib.hid lr1
  clear lr1
  have hskw10 : w10.heap[w.heap.size]? = some (Obj.cells #[.int .i64 0, .int .i64 0, .int .i64 0, .int .i64 u] StT) := by
    have h9 := HS9.out
    rw [k1.keep _ (Array.getElem?_eq_some_iff.1 h9).1 (fun e => ?_) (fun e => ?_) HNL.out]
    · exact h9
    · rw [e, HL9.out.lb] at h9
      simp only [Option.some.injEq, Obj.cells.injEq] at h9
      exact absurd h9.2.1 (by decide)
    · obtain ⟨es, c, hm⟩ := HL9.out.num.mapb
      rw [e, hm] at h9; cases h9
  have hnl1 : lv1.ownBlock ≠ some w.heap.size := fun e => by
    rcases v1 with e' | ⟨q, e', hq⟩
    · exact HNL.out (e'.symm.trans e)
    · rw [e'] at e
      cases e
      have := (Array.getElem?_eq_some_iff.1 HS9.out).1
      omega
  have f0 := frozenB (j := 0) hskw10
  have x0 := cellB (j := 0) hskw10 rfl
  have f1 := frozenB (j := 1) hskw10
  have x1 := cellB (j := 1) hskw10 rfl
  have HG1 := Lib.hid g1
  have HPR1 := Lib.hid pr1
  have HI1 := Lib.hid (⟨hi1, ht1⟩ : ∃ hi1 : i1 < L1.length, (L1[i1]).t = pa)
  have HNW1 := Lib.hid nw1
  have HV1 := Lib.hid (VN.trans H9.out.size (VN.refl w lv) v1)
  have HNL1 := Lib.hid hnl1
  have hs11 : ((w10.setCell ⟨w.heap.size, 0, none⟩ (.int .i64 5)).setCell ⟨w.heap.size, 1, none⟩ (.int .i64 (i1 : Int))).heap[w.heap.size]? = some (Obj.cells #[.int .i64 5, .int .i64 (i1 : Int), .int .i64 0, .int .i64 u] StT) := setCellB (setCellB hskw10)
  have HS11 := Lib.hid hs11
  have HL11 := Lib.hid ((l1.set hskw10 hnl1 0 (.int .i64 5)).set (setCellB hskw10) hnl1 1 (.int .i64 (i1 : Int)))
  have H011 := Lib.hid ((b1.setCell (p := ⟨w.heap.size, 0, none⟩) (H0.out.size) (.int .i64 5)).setCell (p := ⟨w.heap.size, 1, none⟩) (H0.out.size) (.int .i64 (i1 : Int)))
  have HK11 : Hid (KL w lbx nm lv ((w10.setCell ⟨w.heap.size, 0, none⟩ (.int .i64 5)).setCell ⟨w.heap.size, 1, none⟩ (.int .i64 (i1 : Int)))) := Lib.hid ((((KL.of H9.out).trans k1 (VN.refl w lv)).set (Nat.le_refl _) 0 _).set (Nat.le_refl _) 1 _)
  clear l1 g1 pr1 hi1 ht1 b1 k1 v1 nw1 hskw10 hnl1 hs11 eF HLA
  go_upto_region 17 with fail
  generalize ((w10.setCell ⟨w.heap.size, 0, none⟩ (.int .i64 5)).setCell ⟨w.heap.size, 1, none⟩ (.int .i64 (i1 : Int))) = W11 at *
  clear f0 x0 f1 x1
  have HSX := HS11
  have HLX := HL11
  have H0X := H011
  have HKX := HK11
  have HVX := HV1
  have HGX := HG1
  have HPRE := HPR1
  have HPX : Hid (posL L1 u = none) := Lib.hid (by
    cases e : posL L1 u with
    | none => rfl
    | some i =>
      obtain ⟨hi, ht⟩ := posL_some e
      rcases HNW1.out _ (List.getElem_mem hi) with h9 | h9
      · exact absurd ht (posL_none HPOS.out _ h9)
      · rw [ht] at h9; exact absurd h9 HNA.out)
  have HNW : Hid (∀ x ∈ L1, x ∈ L ∨ N x.t) := Lib.hid (fun x hx => (HNW1.out x hx).imp id (HNSA.out x.t))
  have HFOL : Hid (followsP p g L1 ⟨5, (i1 : Int), 0, u⟩ = true) := Lib.hid (by
    obtain ⟨hi1, ht1⟩ := HI1.out
    exact HFW.out L1 i1 hi1 ht1)
  obtain ⟨lva, lvc, hlvs⟩ := (row_of_own HLX.out.row).shape
  subst hlvs
  have hs9 := HSX.out
  have z0 := cellB (j := 0) hs9 rfl
  have z1 := cellB (j := 1) hs9 rfl
  have z2 := cellB (j := 2) hs9 rfl
  have z3 := cellB (j := 3) hs9 rfl
  have cL : W11.cell? ⟨lbx, 0, none⟩ = some (.slice lva L1.length lvc) := cellB HLX.out.lb rfl
  have bT := bA0 W11 (.cells #[.int .i64 5, .int .i64 (i1 : Int), .int .i64 0, .int .i64 u] StT)
  have HBT := Lib.hid bT
  have HLT := Lib.hid (HLX.out.below bT)
  have hnew : (W11.alloc (.cells #[.int .i64 5, .int .i64 (i1 : Int), .int .i64 0, .int .i64 u] StT)).heap[W11.heap.size]? = some (Obj.cells (stA ⟨5, (i1 : Int), 0, u⟩) StT) := heap_alloc_new _ _
  have HNEW := Lib.hid hnew
  have hlen9 : L1.length ≤ 65536 := Nat.le_trans HGX.out.len HP.out.ok.len
  have hnbl : nbx ≠ lbx := fun e => by
    have h9 := HLX.out.nb
    rw [e, HLX.out.lb] at h9
    simp only [Option.some.injEq, Obj.cells.injEq] at h9
    exact absurd h9.2.1 (by decide)
  have hnb1 : ¬ nbx = lbx := hnbl
  have hnb2 : ¬ lbx = nbx := fun e => hnbl e.symm
  have hlnm : nm ≠ lbx := fun e => by
    obtain ⟨es, c, hm⟩ := HLX.out.num.mapb
    rw [e, HLX.out.lb] at hm; cases hm
  have HLNM := Lib.hid hlnm
  have hq : ∀ w', (W11.alloc (.cells #[.int .i64 5, .int .i64 (i1 : Int), .int .i64 0, .int .i64 u] StT)).grownBy w' (Value.slice lva L1.length lvc).ownBlock → w'.heap[lbx]? = some (Obj.cells #[.slice lva L1.length lvc] SlStT) ∧ w'.cell? ⟨lbx, 0, none⟩ = some (.slice lva L1.length lvc) ∧ w'.frozen? ⟨lbx, 0, none⟩ = false ∧ w'.cell? ⟨nbx, 0, none⟩ = some (.map (some nm)) := fun w' hg => by
    have e : w'.heap[lbx]? = some (Obj.cells #[.slice lva L1.length lvc] SlStT) := hold_row HLT.out.row hg (by decide) _ _ HLT.out.lb
    have e2 : w'.heap[nbx]? = some (Obj.cells #[.map (some nm)] NumT) := hold_row HLT.out.row hg (by decide) _ _ HLT.out.nb
    exact ⟨e, cellB e rfl, frozenB e, cellB e2 rfl⟩
  have HQ := Lib.hid hq
  have hbs : w0.heap.size ≤ (W11.alloc (.cells #[.int .i64 5, .int .i64 (i1 : Int), .int .i64 0, .int .i64 u] StT)).heap.size := Nat.le_trans H0X.out.size bT.size
  have hwl : wrap64 ((L1.length : Int) + 1 - 1) = (L1.length : Int) := by unfold wrap64; omega
  have hwl2 : (L1 ++ [(⟨5, (i1 : Int), 0, u⟩ : St)]).length = L1.length + 1 := by simp
  have HWL := Lib.hid hwl2
  clear hs9 bT hnew hq hlnm hnbl hwl2
  go_wp2_with (first
    | (at_builtin; refine wpList_append_st rfl _ _ rfl w0.heap.size (.slice lva L1.length lvc) L1 rfl HLT.out.row _ ⟨5, (i1 : Int), 0, u⟩ rfl HNEW.out (by omega) hbs ?_; intro v5 w9 hrow9 hg9 hw9; rw [HWL.out] at hrow9; obtain ⟨q0, q1, q2, q3⟩ := HQ.out w9 hg9; obtain ⟨sa, sc, rfl⟩ := (row_of_own hrow9).shape)
    | (at_mapUpdate; obtain ⟨D0, hown0, hD0⟩ := HLT.out.num.same (w' := w9.setCell ⟨lbx, 0, none⟩ (.slice sa (L1.length + 1) sc)) (fun es c hm => (Below.heap_setCell _ _ _ _ HLNM.out).trans (map_row HLT.out.row hg9 hm)); have hm0 := hown0.isMap; refine wpList_mapUpdate_own _ rfl _ _ _ NumT rfl TermT IntT lawT Tryd.underlying95 (plainElem Tryd.prog IntT) nm L1.length D0 rfl hown0 (by unfold maxLen; omega) _ _ (.int .i64 u) rfl rfl (keyT HU.out) (.lit (.int .i64 (L1.length : Int))) [] (plainElem_int Tryd.underlying3 (wf_i64 (by unfold i64R; omega))) ?_; intro w10 hown10 hg10; have hn10 := NumM.put (s := ⟨5, (i1 : Int), 0, u⟩) hm0 hD0 HU.out HPX.out hown10; have hrun10 := hn10.look1 HU.out; rw [posL_snoc HPX.out, if_pos rfl] at hrun10; simp only [Option.getD_some] at hrun10; have c10 : w10.cell? ⟨nbx, 0, none⟩ = some (.map (some nm)) := cellB (hold_map (HLT.out.num.same (w' := w9.setCell ⟨lbx, 0, none⟩ (.slice sa (L1.length + 1) sc)) (fun es c hm => (Below.heap_setCell _ _ _ _ HLNM.out).trans (map_row HLT.out.row hg9 hm))).mapb hg10 _ _ _ (Hold.setCell q0 (by decide) _ _ (hold_row HLT.out.row hg9 (by decide) _ _ HLT.out.nb))) rfl))
  go_returns
  have hmb9 := (HLT.out.num.same (w' := w9.setCell ⟨lbx, 0, none⟩ (.slice sa (L1.length + 1) sc)) (fun es c hm => (Below.heap_setCell _ _ _ _ HLNM.out).trans (map_row HLT.out.row hg9 hm))).mapb
  have hT : ∀ T, T ≠ StT → T ≠ SlStT → Hold T (W11.alloc (.cells #[.int .i64 5, .int .i64 (i1 : Int), .int .i64 0, .int .i64 u] StT)) w10 := fun T h1 h2 => ((hold_row HLT.out.row hg9 h1).trans (Hold.setCell q0 (Ne.symm h2))).trans (hold_map hmb9 hg10 T)
  have hrw10 : w10.ownsRow w0.heap.size StT 4 (.slice sa (L1.length + 1) sc) (L1 ++ [(⟨5, (i1 : Int), 0, u⟩ : St)]).length (sts (L1 ++ [(⟨5, (i1 : Int), 0, u⟩ : St)])) := by
    rw [HWL.out]
    exact own_hold (own_hold hrow9 (Hold.setCell q0 (by decide))) (hold_map hmb9 hg10 _)
  have hb10 : Below w0.heap.size (W11.alloc (.cells #[.int .i64 5, .int .i64 (i1 : Int), .int .i64 0, .int .i64 u] StT)) w10 := ((((Below.refl _ _).grown hg9 hbs (fun q e => (own_type HLT.out.row e).1)).setCell (p := ⟨lbx, 0, none⟩) HLX.out.gl _)).trans (grown_below hg10 (by rw [show (w9.setCell ⟨lbx, 0, none⟩ (.slice sa (L1.length + 1) sc)).heap.size = w9.heap.size by simp [World.setCell]]; exact Nat.le_trans hbs hg9.size) (fun q e => by cases e; exact HLX.out.gm))
  have hkl : KL W11 lbx nm (.slice lva L1.length lvc) w10 := ⟨Nat.le_trans HBT.out.size (Nat.le_trans hg9.size (by have := hg10.size; simpa [World.setCell] using this)), fun j hj h1 h2 h3 => by
    have e1 : j < (W11.alloc (.cells #[.int .i64 5, .int .i64 (i1 : Int), .int .i64 0, .int .i64 u] StT)).heap.size := Nat.lt_of_lt_of_le hj HBT.out.size
    have e2 : j < w9.heap.size := Nat.lt_of_lt_of_le e1 hg9.size
    rw [hg10.block j (by simpa [World.setCell] using e2) (fun e => h2 (Option.some.inj e)), Below.heap_setCell _ _ _ _ h1, hg9.block j e1 (fun e => h3 e.symm), HBT.out.block j hj]⟩
  have hw9' : VN w (Value.slice lva L1.length lvc) (Value.slice sa (L1.length + 1) sc) := by
    have h9 := hw9
    try rw [HWL.out] at h9
    rcases h9 with e | e
    · exact .inl e
    · exact .inr ⟨_, e, Nat.le_trans HKX.out.size HBT.out.size⟩
  refine ⟨L1.length, .slice sa (L1.length + 1) sc, L1 ++ [⟨5, (i1 : Int), 0, u⟩], rfl, ⟨hT _ (by decide) (by decide) _ _ HLT.out.nb, hT _ (by decide) (by decide) _ _ HLT.out.kb, hT _ (by decide) (by decide) _ _ HLT.out.fb, hold_map hmb9 hg10 _ _ _ (setCellB q0), hrw10, hn10, HLX.out.gl, HLX.out.gm⟩, HGX.out.snoc HPX.out HFOL.out HRU.out, HPRE.out.trans ⟨_, rfl⟩, ⟨by simp, by simp⟩, (H0X.out.trans (HBT.out.mono H0X.out.size)).trans hb10, HKX.out.trans hkl HVX.out, VN.trans (Nat.le_refl _) HVX.out hw9', fun x hx => ?_, fun _ => (by simp), HLR.out _ _ HLR1.out⟩
  rcases List.mem_append.1 hx with hx | hx
  · exact HNW.out x hx
  · rw [List.mem_singleton.1 hx]; exact .inr HNU.out
set_option maxRecDepth 100000 in
set_option maxHeartbeats 25600000 in
theorem lay_two (hp : IsPool w0 B a b v p) (hk : IsKnow w0 B2 k gv mb a p g s) {u : Int} (hu : i64R u) {w : World} {lv : Value} {L : List St} (h0 : Below w0.heap.size w0 w) (hl : IsLay w w0.heap.size nbx kbx fbx lbx nm k lv L) (hgd : GoodL p g R L) (hpos : posL L u = none) {Na : Int → Prop} {pa pb : Int} (hfr : freeB (atP p u).1.kind = false) (hin : inP p u = true) (hsu : s u = none) (hpt : partP p (atP p u).1 = (pa, pb, true)) (hla : LayC w0 p g R s nbx kbx fbx lbx nm k Na pa) (hna : ¬ Na u) (hnsa : ∀ x, Na x → N x) (hru : R u) (hnu : N u) {Nb : Int → Prop} (hb0 : pb ≠ 0) (hlb : LayC w0 p g R s nbx kbx fbx lbx nm k Nb pb) (hnb : ¬ Nb u) (hnsb : ∀ x, Nb x → N x) :
    Calls Tryd.prog 49 #[.int .i64 u, .pointer (some ⟨nbx, 0, none⟩), .pointer (some ⟨kbx, 0, none⟩), .pointer (some ⟨fbx, 0, none⟩), .pointer (some ⟨lbx, 0, none⟩)] w (LayPost w0 p g R s nbx kbx fbx lbx nm k N w lv L u) := by
  have HLR : Hid (∀ (i j : Nat) (L1 L2 : List St), LayR p s pa L i L1 → LayR p s pb L1 j L2 → LayR p s u L L2.length (L2 ++ [⟨5, (i : Int), (j : Int), u⟩])) := Lib.hid (fun i j L1 L2 h1 h2 => .two hpos hfr hsu hpt hb0 h1 h2)
  have hlk := hl.num.look hu
  rw [hpos] at hlk
  have cN : w.cell? ⟨nbx, 0, none⟩ = some (.map (some nm)) := cellB hl.nb rfl
  have H0 := Lib.hid h0
  have HL := Lib.hid hl
  have HGD := Lib.hid hgd
  have HPOS := Lib.hid hpos
  have HRU := Lib.hid hru
  have HNU := Lib.hid hnu
  have HSU := Lib.hid hsu
  have HPT := Lib.hid hpt
  have HLA := Lib.hid hla
  have HNA := Lib.hid hna
  have HNSA := Lib.hid hnsa
  have HB0 := Lib.hid hb0
  have HLB := Lib.hid hlb
  have HNB := Lib.hid hnb
  have HNSB := Lib.hid hnsb
  have HFW : Hid (∀ (L1 : List St) (i1 i2 : Nat) (hi1 : i1 < L1.length) (hi2 : i2 < L1.length), (L1[i1]).t = pa → (L1[i2]).t = pb → followsP p g L1 ⟨5, (i1 : Int), (i2 : Int), u⟩ = true) := Lib.hid (fun L1 i1 i2 hi1 hi2 ht1 ht2 => fol_two (by rw [hpt]) hin hi1 (by rw [hpt]; exact ht1) (by rw [hpt]; exact hb0) hi2 (by rw [hpt]; exact ht2))
  clear hsu hin hru hnu hpt hla hna hnsa hb0 hlb hnb hnsb
  simp only [Option.getD_none, Option.isSome_none] at hlk
  have HU := Lib.hid hu
  have HP := Lib.hid hp
  have HK := Lib.hid hk
  have hlen : L.length ≤ 65536 := Nat.le_trans hgd.len hp.ok.len
  have b4 := bA0 w (.cells #[.int .i64 0, .int .i64 0, .int .i64 0, .int .i64 u] StT)
  have hs4 : (w.alloc (.cells #[.int .i64 0, .int .i64 0, .int .i64 0, .int .i64 u] StT)).heap[w.heap.size]? = some (Obj.cells #[.int .i64 0, .int .i64 0, .int .i64 0, .int .i64 u] StT) := heap_alloc_new _ _
  have hnl : lv.ownBlock ≠ some w.heap.size := fun e => by
    obtain ⟨_, cur, hc⟩ := own_type hl.row e
    exact absurd (Array.getElem?_eq_some_iff.1 hc).1 (Nat.lt_irrefl _)
  have HNL := Lib.hid hnl
  have cK : (w.alloc (.cells #[.int .i64 0, .int .i64 0, .int .i64 0, .int .i64 u] StT)).cell? ⟨kbx, 0, none⟩ = some (.pointer (some ⟨k, 0, none⟩)) := cellB (hl.below b4).kb rfl
  have cA : (w.alloc (.cells #[.int .i64 0, .int .i64 0, .int .i64 0, .int .i64 u] StT)).cell? ⟨k, 0, none⟩ = some (.pointer (some ⟨a, 0, none⟩)) := cellB (hk.below (bmore h0 b4)).lay rfl
  have HN := Lib.hid (pnode (hp.below (bmore h0 b4)) u)
  have FR := Lib.hid (fun (W : World) => free_any (atP p u).1 W)
  have hsk := fun (W : World) (h : Below w0.heap.size w0 W) => ((hk.below h).seen.look hu)
  have hck := fun (W : World) (h : Below w0.heap.size w0 W) => (show W.cell? ⟨k, 2, none⟩ = some (.map (some mb)) from cellB (hk.below h).lay rfl)
  have HSK := Lib.hid hsk
  have HCK := Lib.hid hck
  have HS4 := Lib.hid hs4
  have H4 := Lib.hid b4
  rw [hfr] at FR
  have PA := Lib.hid (fun (W : World) (h : IsPool W B a b v p) => by have := parts_pool h (atP_nok h.nok u); rw [HPT.out] at this; exact this)
  clear HPT
  generalize hnn : (atP p u).1 = n at *
  have HNN := Lib.hid hnn
  generalize inP p u = iu at *
  clear hp hk hl hgd h0 hpos b4 hs4 hnl hsk hck hu hnn hfr
  obtain ⟨kk, ff, tt, uu, ss, xa, xb⟩ := n
  simp only [nodeA] at HN FR PA
  go_enter Tryd.func49, Tryd.ntmps49
  go_wp2_with fail
  refine HN.out.mono ?_
  rintro e w5 ⟨rfl, u5⟩
  have b6 := bA0 w5 (.cells #[.int .i64 kk, .int .i64 ff, .int .i64 tt, .int .u64 uu, .string ss, .int .i64 xa, .int .i64 xb] NodeT)
  have hn6 : (w5.alloc (.cells #[.int .i64 kk, .int .i64 ff, .int .i64 tt, .int .u64 uu, .string ss, .int .i64 xa, .int .i64 xb] NodeT)).heap[w5.heap.size]? = some (Obj.cells #[.int .i64 kk, .int .i64 ff, .int .i64 tt, .int .u64 uu, .string ss, .int .i64 xa, .int .i64 xb] NodeT) := heap_alloc_new _ _
  have H6 := Lib.hid (bmore H4.out (bmore u5 b6))
  have HS6 := Lib.hid (Hold.below (bmore u5 b6) _ _ HS4.out)
  have HN6 := Lib.hid hn6
  clear u5 b6 hn6 cK cA hlk cN
  have cK := cellB (j := 0) (HL.out.below H6.out).kb rfl
  have cM := HCK.out _ (bmore H0.out H6.out)
  have hlk := HSK.out _ (bmore H0.out H6.out)
  rw [HSU.out] at hlk; simp only [wayV, Option.getD_none, Option.isSome_none] at hlk
  go_upto_region 6 with fail
  generalize (w5.alloc (.cells #[.int .i64 kk, .int .i64 ff, .int .i64 tt, .int .u64 uu, .string ss, .int .i64 xa, .int .i64 xb] NodeT)) = W6 at *
  generalize w5.heap.size = nbk at *
  have b7 := bA0 W6 (.cells #[.int .i64 0, .int .i64 0] WayT)
  have hw7 : (W6.alloc (.cells #[.int .i64 0, .int .i64 0] WayT)).heap[W6.heap.size]? = some (Obj.cells #[.int .i64 0, .int .i64 0] WayT) := heap_alloc_new _ _
  have H7 := Lib.hid (bmore H6.out b7)
  have HS7 := Lib.hid (Hold.below b7 _ _ HS6.out)
  have hn7 := Hold.below b7 _ _ HN6.out
  have HN7 := Lib.hid hn7
  have HW7 := Lib.hid hw7
  have y0 := cellB (j := 0) hn7 rfl
  have y1 := cellB (j := 1) hn7 rfl
  have y2 := cellB (j := 2) hn7 rfl
  have y3 := cellB (j := 3) hn7 rfl
  have y4 := cellB (j := 4) hn7 rfl
  have y5 := cellB (j := 5) hn7 rfl
  have y6 := cellB (j := 6) hn7 rfl
  clear b7 hw7 hn7
  go_wp2_with fail
  generalize (W6.alloc (.cells #[.int .i64 0, .int .i64 0] WayT)) = W7 at *
  generalize W6.heap.size = wb at *
  refine (FR.out _).mono ?_
  rintro e w8 ⟨rfl, u8⟩
  have H8 := Lib.hid (bmore H7.out u8)
  have HS8 := Lib.hid (Hold.below u8 _ _ HS7.out)
  have HN8 := Lib.hid (Hold.below u8 _ _ HN7.out)
  have HW8 := Lib.hid (Hold.below u8 _ _ HW7.out)
  clear u8 y0 y1 y2 y3 y4 y5 y6 cK cM hlk
  have hn8 := HN8.out
  have y0 := cellB (j := 0) hn8 rfl
  have y1 := cellB (j := 1) hn8 rfl
  have y2 := cellB (j := 2) hn8 rfl
  have y3 := cellB (j := 3) hn8 rfl
  have y4 := cellB (j := 4) hn8 rfl
  have y5 := cellB (j := 5) hn8 rfl
  have y6 := cellB (j := 6) hn8 rfl
  have cK8 : w8.cell? ⟨kbx, 0, none⟩ = some (.pointer (some ⟨k, 0, none⟩)) := cellB (HL.out.below H8.out).kb rfl
  have cA8 : w8.cell? ⟨k, 0, none⟩ = some (.pointer (some ⟨a, 0, none⟩)) := cellB (HK.out.below (bmore H0.out H8.out)).lay rfl
  have hkp : ∀ V : World, Below w8.heap.size w8 V → V.cell? ⟨kbx, 0, none⟩ = some (.pointer (some ⟨k, 0, none⟩)) ∧ V.cell? ⟨k, 0, none⟩ = some (.pointer (some ⟨a, 0, none⟩)) ∧ V.cell? ⟨nbk, 0, none⟩ = some (.int .i64 kk) ∧ V.cell? ⟨nbk, 1, none⟩ = some (.int .i64 ff) ∧ V.cell? ⟨nbk, 2, none⟩ = some (.int .i64 tt) ∧ V.cell? ⟨nbk, 3, none⟩ = some (.int .u64 uu) ∧ V.cell? ⟨nbk, 4, none⟩ = some (.string ss) ∧ V.cell? ⟨nbk, 5, none⟩ = some (.int .i64 xa) ∧ V.cell? ⟨nbk, 6, none⟩ = some (.int .i64 xb) ∧ Below w8.heap.size w8 V := fun V hV => ⟨bcellAt hV cK8, bcellAt hV cA8, bcellAt hV y0, bcellAt hV y1, bcellAt hV y2, bcellAt hV y3, bcellAt hV y4, bcellAt hV y5, bcellAt hV y6, hV⟩
  have HKP := Lib.hid hkp
  have HPP := Lib.hid (HP.out.below (bmore H0.out H8.out))
  clear hkp hn8
  go_upto_region 7 with fail
  go_region_held3 (fun w' => w'.cell? ⟨kbx, 0, none⟩ = some (.pointer (some ⟨k, 0, none⟩)) ∧ w'.cell? ⟨k, 0, none⟩ = some (.pointer (some ⟨a, 0, none⟩)) ∧ w'.cell? ⟨nbk, 0, none⟩ = some (.int .i64 kk) ∧ w'.cell? ⟨nbk, 1, none⟩ = some (.int .i64 ff) ∧ w'.cell? ⟨nbk, 2, none⟩ = some (.int .i64 tt) ∧ w'.cell? ⟨nbk, 3, none⟩ = some (.int .u64 uu) ∧ w'.cell? ⟨nbk, 4, none⟩ = some (.string ss) ∧ w'.cell? ⟨nbk, 5, none⟩ = some (.int .i64 xa) ∧ w'.cell? ⟨nbk, 6, none⟩ = some (.int .i64 xb) ∧ Below w8.heap.size w8 w') ((refine HKP.out _ ?_; first | exact bdd _ _ | exact bd _ | exact bmore (by first | assumption | exact bdn _ _ | exact bd _ | exact Below.refl _ _) u1))
    (((with_reducible refine (PA.out _ (HPP.out.below (by first | assumption | exact bdn _ _ | exact bd _ | exact Below.refl _ _))).mono ?_); rintro e w9 ⟨rfl, u1⟩))
  have hz := bmore (bd w8) u1
  have H9 := Lib.hid (bmore H8.out hz)
  have HS9 := Lib.hid (Hold.below hz _ _ HS8.out)
  have HL9 := Lib.hid (HL.out.below H9.out)
  have eF : w9.cell? ⟨fbx, 0, none⟩ = some (.func (.func 49) #[] #[.pointer (some ⟨nbx, 0, none⟩), .pointer (some ⟨kbx, 0, none⟩), .pointer (some ⟨fbx, 0, none⟩), .pointer (some ⟨lbx, 0, none⟩)]) := cellB HL9.out.fb rfl
  clear hz u1 y0 y1 y2 y3 y4 y5 y6 cK8 cA8 HKP HPP PA
  go_wp2_with fail
  refine (HLA.out w9 lv L (bmore H0.out H9.out) HL9.out HGD.out).mono ?_
  rintro e w10 ⟨i1, lv1, L1, rfl, l1, g1, pr1, ⟨hi1, ht1⟩, b1, k1, v1, nw1, _, lr1⟩
  have HLR1 := Lib.hid lr1
  clear lr1
  have hskw10 : w10.heap[w.heap.size]? = some (Obj.cells #[.int .i64 0, .int .i64 0, .int .i64 0, .int .i64 u] StT) := by
    have h9 := HS9.out
    rw [k1.keep _ (Array.getElem?_eq_some_iff.1 h9).1 (fun e => ?_) (fun e => ?_) HNL.out]
    · exact h9
    · rw [e, HL9.out.lb] at h9
      simp only [Option.some.injEq, Obj.cells.injEq] at h9
      exact absurd h9.2.1 (by decide)
    · obtain ⟨es, c, hm⟩ := HL9.out.num.mapb
      rw [e, hm] at h9; cases h9
  have hnl1 : lv1.ownBlock ≠ some w.heap.size := fun e => by
    rcases v1 with e' | ⟨q, e', hq⟩
    · exact HNL.out (e'.symm.trans e)
    · rw [e'] at e
      cases e
      have := (Array.getElem?_eq_some_iff.1 HS9.out).1
      omega
  have f0 := frozenB (j := 0) hskw10
  have x0 := cellB (j := 0) hskw10 rfl
  have f1 := frozenB (j := 1) hskw10
  have x1 := cellB (j := 1) hskw10 rfl
  have HG1 := Lib.hid g1
  have HPR1 := Lib.hid pr1
  have HI1 := Lib.hid (⟨hi1, ht1⟩ : ∃ hi1 : i1 < L1.length, (L1[i1]).t = pa)
  have HNW1 := Lib.hid nw1
  have HV1 := Lib.hid (VN.trans H9.out.size (VN.refl w lv) v1)
  have HNL1 := Lib.hid hnl1
  have hs11 : ((w10.setCell ⟨w.heap.size, 0, none⟩ (.int .i64 5)).setCell ⟨w.heap.size, 1, none⟩ (.int .i64 (i1 : Int))).heap[w.heap.size]? = some (Obj.cells #[.int .i64 5, .int .i64 (i1 : Int), .int .i64 0, .int .i64 u] StT) := setCellB (setCellB hskw10)
  have HS11 := Lib.hid hs11
  have HL11 := Lib.hid ((l1.set hskw10 hnl1 0 (.int .i64 5)).set (setCellB hskw10) hnl1 1 (.int .i64 (i1 : Int)))
  have H011 := Lib.hid ((b1.setCell (p := ⟨w.heap.size, 0, none⟩) (H0.out.size) (.int .i64 5)).setCell (p := ⟨w.heap.size, 1, none⟩) (H0.out.size) (.int .i64 (i1 : Int)))
  have HK11 : Hid (KL w lbx nm lv ((w10.setCell ⟨w.heap.size, 0, none⟩ (.int .i64 5)).setCell ⟨w.heap.size, 1, none⟩ (.int .i64 (i1 : Int)))) := Lib.hid ((((KL.of H9.out).trans k1 (VN.refl w lv)).set (Nat.le_refl _) 0 _).set (Nat.le_refl _) 1 _)
  clear l1 g1 pr1 hi1 ht1 b1 k1 v1 nw1 hskw10 hnl1 hs11 eF HLA
  have eF : ((w10.setCell ⟨w.heap.size, 0, none⟩ (.int .i64 5)).setCell ⟨w.heap.size, 1, none⟩ (.int .i64 (i1 : Int))).cell? ⟨fbx, 0, none⟩ = some (.func (.func 49) #[] #[.pointer (some ⟨nbx, 0, none⟩), .pointer (some ⟨kbx, 0, none⟩), .pointer (some ⟨fbx, 0, none⟩), .pointer (some ⟨lbx, 0, none⟩)]) := cellB HL11.out.fb rfl
  have hb0 := ebF HB0.out
  have hb1 : (pb != 0) = true := by rw [bne, hb0]; rfl
  go_upto_region 9 with fail
  generalize ((w10.setCell ⟨w.heap.size, 0, none⟩ (.int .i64 5)).setCell ⟨w.heap.size, 1, none⟩ (.int .i64 (i1 : Int))) = W11 at *
  clear f0 x0 f1 x1
  go_wp2_with fail
  refine (HLB.out W11 lv1 L1 H011.out HL11.out HG1.out).mono ?_
  rintro e w12 ⟨i2, lv2, L2, rfl, l2, g2, pr2, ⟨hi2, ht2⟩, b2, k2, v2, nw2, _, lr2⟩
  have HLR2 := Lib.hid lr2
  clear lr2
  have hskw12 : w12.heap[w.heap.size]? = some (Obj.cells #[.int .i64 5, .int .i64 (i1 : Int), .int .i64 0, .int .i64 u] StT) := by
    have h9 := HS11.out
    rw [k2.keep _ (Array.getElem?_eq_some_iff.1 h9).1 (fun e => ?_) (fun e => ?_) HNL1.out]
    · exact h9
    · rw [e, HL11.out.lb] at h9
      simp only [Option.some.injEq, Obj.cells.injEq] at h9
      exact absurd h9.2.1 (by decide)
    · obtain ⟨es, c, hm⟩ := HL11.out.num.mapb
      rw [e, hm] at h9; cases h9
  have hnl2 : lv2.ownBlock ≠ some w.heap.size := fun e => by
    rcases v2 with e' | ⟨q, e', hq⟩
    · exact HNL1.out (e'.symm.trans e)
    · rw [e'] at e
      cases e
      have := (Array.getElem?_eq_some_iff.1 HS11.out).1
      omega
  have f2 := frozenB (j := 2) hskw12
  have x2 := cellB (j := 2) hskw12 rfl
  have HSX : Hid ((w12.setCell ⟨w.heap.size, 2, none⟩ (.int .i64 (i2 : Int))).heap[w.heap.size]? = some (Obj.cells #[.int .i64 5, .int .i64 (i1 : Int), .int .i64 (i2 : Int), .int .i64 u] StT)) := Lib.hid (setCellB hskw12)
  have HLX := Lib.hid (l2.set hskw12 hnl2 2 (.int .i64 (i2 : Int)))
  have H0X := Lib.hid (b2.setCell (p := ⟨w.heap.size, 2, none⟩) (H0.out.size) (.int .i64 (i2 : Int)))
  have HKX : Hid (KL w lbx nm lv (w12.setCell ⟨w.heap.size, 2, none⟩ (.int .i64 (i2 : Int)))) := Lib.hid ((HK11.out.trans k2 HV1.out).set (Nat.le_refl _) 2 _)
  have HVX := Lib.hid (VN.trans HK11.out.size HV1.out v2)
  have HGX := Lib.hid g2
  have HPRE := Lib.hid (HPR1.out.trans pr2)
  have HPX : Hid (posL L2 u = none) := Lib.hid (by
    cases e : posL L2 u with
    | none => rfl
    | some i =>
      obtain ⟨hi, ht⟩ := posL_some e
      rcases nw2 _ (List.getElem_mem hi) with h8 | h9
      · rcases HNW1.out _ h8 with h9 | h9
        · exact absurd ht (posL_none HPOS.out _ h9)
        · rw [ht] at h9; exact absurd h9 HNA.out
      · rw [ht] at h9; exact absurd h9 HNB.out)
  have HNW : Hid (∀ x ∈ L2, x ∈ L ∨ N x.t) := Lib.hid (fun x hx => by
    rcases nw2 x hx with h8 | h9
    · exact (HNW1.out x h8).imp id (HNSA.out x.t)
    · exact .inr (HNSB.out x.t h9))
  have HFOL : Hid (followsP p g L2 ⟨5, (i1 : Int), (i2 : Int), u⟩ = true) := Lib.hid (by
    obtain ⟨hi1, ht1⟩ := HI1.out
    obtain ⟨r, rfl⟩ := pr2
    exact HFW.out _ i1 i2 (by simp; omega) hi2 (by rw [List.getElem_append_left hi1]; exact ht1) ht2)
  clear l2 g2 pr2 hi2 ht2 b2 k2 v2 nw2 hskw12 hnl2 eF HLB hb0 hb1 HS11 HL11 H011 HK11
  go_upto_region 17 with fail
  generalize (w12.setCell ⟨w.heap.size, 2, none⟩ (.int .i64 (i2 : Int))) = W13 at *
  clear f2 x2
  obtain ⟨lva, lvc, hlvs⟩ := (row_of_own HLX.out.row).shape
  subst hlvs
  have hs9 := HSX.out
  have z0 := cellB (j := 0) hs9 rfl
  have z1 := cellB (j := 1) hs9 rfl
  have z2 := cellB (j := 2) hs9 rfl
  have z3 := cellB (j := 3) hs9 rfl
  have cL : W13.cell? ⟨lbx, 0, none⟩ = some (.slice lva L2.length lvc) := cellB HLX.out.lb rfl
  have bT := bA0 W13 (.cells #[.int .i64 5, .int .i64 (i1 : Int), .int .i64 (i2 : Int), .int .i64 u] StT)
  have HBT := Lib.hid bT
  have HLT := Lib.hid (HLX.out.below bT)
  have hnew : (W13.alloc (.cells #[.int .i64 5, .int .i64 (i1 : Int), .int .i64 (i2 : Int), .int .i64 u] StT)).heap[W13.heap.size]? = some (Obj.cells (stA ⟨5, (i1 : Int), (i2 : Int), u⟩) StT) := heap_alloc_new _ _
  have HNEW := Lib.hid hnew
  have hlen9 : L2.length ≤ 65536 := Nat.le_trans HGX.out.len HP.out.ok.len
  have hnbl : nbx ≠ lbx := fun e => by
    have h9 := HLX.out.nb
    rw [e, HLX.out.lb] at h9
    simp only [Option.some.injEq, Obj.cells.injEq] at h9
    exact absurd h9.2.1 (by decide)
  have hnb1 : ¬ nbx = lbx := hnbl
  have hnb2 : ¬ lbx = nbx := fun e => hnbl e.symm
  have hlnm : nm ≠ lbx := fun e => by
    obtain ⟨es, c, hm⟩ := HLX.out.num.mapb
    rw [e, HLX.out.lb] at hm; cases hm
  have HLNM := Lib.hid hlnm
  have hq : ∀ w', (W13.alloc (.cells #[.int .i64 5, .int .i64 (i1 : Int), .int .i64 (i2 : Int), .int .i64 u] StT)).grownBy w' (Value.slice lva L2.length lvc).ownBlock → w'.heap[lbx]? = some (Obj.cells #[.slice lva L2.length lvc] SlStT) ∧ w'.cell? ⟨lbx, 0, none⟩ = some (.slice lva L2.length lvc) ∧ w'.frozen? ⟨lbx, 0, none⟩ = false ∧ w'.cell? ⟨nbx, 0, none⟩ = some (.map (some nm)) := fun w' hg => by
    have e : w'.heap[lbx]? = some (Obj.cells #[.slice lva L2.length lvc] SlStT) := hold_row HLT.out.row hg (by decide) _ _ HLT.out.lb
    have e2 : w'.heap[nbx]? = some (Obj.cells #[.map (some nm)] NumT) := hold_row HLT.out.row hg (by decide) _ _ HLT.out.nb
    exact ⟨e, cellB e rfl, frozenB e, cellB e2 rfl⟩
  have HQ := Lib.hid hq
  have hbs : w0.heap.size ≤ (W13.alloc (.cells #[.int .i64 5, .int .i64 (i1 : Int), .int .i64 (i2 : Int), .int .i64 u] StT)).heap.size := Nat.le_trans H0X.out.size bT.size
  have hwl : wrap64 ((L2.length : Int) + 1 - 1) = (L2.length : Int) := by unfold wrap64; omega
  have hwl2 : (L2 ++ [(⟨5, (i1 : Int), (i2 : Int), u⟩ : St)]).length = L2.length + 1 := by simp
  have HWL := Lib.hid hwl2
  clear hs9 bT hnew hq hlnm hnbl hwl2
  go_wp2_with (first
    | (at_builtin; refine wpList_append_st rfl _ _ rfl w0.heap.size (.slice lva L2.length lvc) L2 rfl HLT.out.row _ ⟨5, (i1 : Int), (i2 : Int), u⟩ rfl HNEW.out (by omega) hbs ?_; intro v5 w9 hrow9 hg9 hw9; rw [HWL.out] at hrow9; obtain ⟨q0, q1, q2, q3⟩ := HQ.out w9 hg9; obtain ⟨sa, sc, rfl⟩ := (row_of_own hrow9).shape)
    | (at_mapUpdate; obtain ⟨D0, hown0, hD0⟩ := HLT.out.num.same (w' := w9.setCell ⟨lbx, 0, none⟩ (.slice sa (L2.length + 1) sc)) (fun es c hm => (Below.heap_setCell _ _ _ _ HLNM.out).trans (map_row HLT.out.row hg9 hm)); have hm0 := hown0.isMap; refine wpList_mapUpdate_own _ rfl _ _ _ NumT rfl TermT IntT lawT Tryd.underlying95 (plainElem Tryd.prog IntT) nm L2.length D0 rfl hown0 (by unfold maxLen; omega) _ _ (.int .i64 u) rfl rfl (keyT HU.out) (.lit (.int .i64 (L2.length : Int))) [] (plainElem_int Tryd.underlying3 (wf_i64 (by unfold i64R; omega))) ?_; intro w10 hown10 hg10; have hn10 := NumM.put (s := ⟨5, (i1 : Int), (i2 : Int), u⟩) hm0 hD0 HU.out HPX.out hown10; have hrun10 := hn10.look1 HU.out; rw [posL_snoc HPX.out, if_pos rfl] at hrun10; simp only [Option.getD_some] at hrun10; have c10 : w10.cell? ⟨nbx, 0, none⟩ = some (.map (some nm)) := cellB (hold_map (HLT.out.num.same (w' := w9.setCell ⟨lbx, 0, none⟩ (.slice sa (L2.length + 1) sc)) (fun es c hm => (Below.heap_setCell _ _ _ _ HLNM.out).trans (map_row HLT.out.row hg9 hm))).mapb hg10 _ _ _ (Hold.setCell q0 (by decide) _ _ (hold_row HLT.out.row hg9 (by decide) _ _ HLT.out.nb))) rfl))
  go_returns
  have hmb9 := (HLT.out.num.same (w' := w9.setCell ⟨lbx, 0, none⟩ (.slice sa (L2.length + 1) sc)) (fun es c hm => (Below.heap_setCell _ _ _ _ HLNM.out).trans (map_row HLT.out.row hg9 hm))).mapb
  have hT : ∀ T, T ≠ StT → T ≠ SlStT → Hold T (W13.alloc (.cells #[.int .i64 5, .int .i64 (i1 : Int), .int .i64 (i2 : Int), .int .i64 u] StT)) w10 := fun T h1 h2 => ((hold_row HLT.out.row hg9 h1).trans (Hold.setCell q0 (Ne.symm h2))).trans (hold_map hmb9 hg10 T)
  have hrw10 : w10.ownsRow w0.heap.size StT 4 (.slice sa (L2.length + 1) sc) (L2 ++ [(⟨5, (i1 : Int), (i2 : Int), u⟩ : St)]).length (sts (L2 ++ [(⟨5, (i1 : Int), (i2 : Int), u⟩ : St)])) := by
    rw [HWL.out]
    exact own_hold (own_hold hrow9 (Hold.setCell q0 (by decide))) (hold_map hmb9 hg10 _)
  have hb10 : Below w0.heap.size (W13.alloc (.cells #[.int .i64 5, .int .i64 (i1 : Int), .int .i64 (i2 : Int), .int .i64 u] StT)) w10 := ((((Below.refl _ _).grown hg9 hbs (fun q e => (own_type HLT.out.row e).1)).setCell (p := ⟨lbx, 0, none⟩) HLX.out.gl _)).trans (grown_below hg10 (by rw [show (w9.setCell ⟨lbx, 0, none⟩ (.slice sa (L2.length + 1) sc)).heap.size = w9.heap.size by simp [World.setCell]]; exact Nat.le_trans hbs hg9.size) (fun q e => by cases e; exact HLX.out.gm))
  have hkl : KL W13 lbx nm (.slice lva L2.length lvc) w10 := ⟨Nat.le_trans HBT.out.size (Nat.le_trans hg9.size (by have := hg10.size; simpa [World.setCell] using this)), fun j hj h1 h2 h3 => by
    have e1 : j < (W13.alloc (.cells #[.int .i64 5, .int .i64 (i1 : Int), .int .i64 (i2 : Int), .int .i64 u] StT)).heap.size := Nat.lt_of_lt_of_le hj HBT.out.size
    have e2 : j < w9.heap.size := Nat.lt_of_lt_of_le e1 hg9.size
    rw [hg10.block j (by simpa [World.setCell] using e2) (fun e => h2 (Option.some.inj e)), Below.heap_setCell _ _ _ _ h1, hg9.block j e1 (fun e => h3 e.symm), HBT.out.block j hj]⟩
  have hw9' : VN w (Value.slice lva L2.length lvc) (Value.slice sa (L2.length + 1) sc) := by
    have h9 := hw9
    try rw [HWL.out] at h9
    rcases h9 with e | e
    · exact .inl e
    · exact .inr ⟨_, e, Nat.le_trans HKX.out.size HBT.out.size⟩
  refine ⟨L2.length, .slice sa (L2.length + 1) sc, L2 ++ [⟨5, (i1 : Int), (i2 : Int), u⟩], rfl, ⟨hT _ (by decide) (by decide) _ _ HLT.out.nb, hT _ (by decide) (by decide) _ _ HLT.out.kb, hT _ (by decide) (by decide) _ _ HLT.out.fb, hold_map hmb9 hg10 _ _ _ (setCellB q0), hrw10, hn10, HLX.out.gl, HLX.out.gm⟩, HGX.out.snoc HPX.out HFOL.out HRU.out, HPRE.out.trans ⟨_, rfl⟩, ⟨by simp, by simp⟩, (H0X.out.trans (HBT.out.mono H0X.out.size)).trans hb10, HKX.out.trans hkl HVX.out, VN.trans (Nat.le_refl _) HVX.out hw9', fun x hx => ?_, fun _ => (by simp), HLR.out _ _ _ _ HLR1.out HLR2.out⟩
  rcases List.mem_append.1 hx with hx | hx
  · exact HNW.out x hx
  · rw [List.mem_singleton.1 hx]; exact .inr HNU.out
end
end Go.Proofs.YtjpkeoenajlmeaaDoor
namespace Go.Proofs.YtjpkeoenajlmeaaDoor
open Go.RowKit Go.Maps
set_option linter.unusedVariables false

theorem LayC.mono {w0 : World} {p : Pl} {g : List Int} {R : Int → Prop} {s : Int → Option Way} {nbx kbx fbx lbx nm k : Nat} {N N' : Int → Prop} {u : Int} (h : LayC w0 p g R s nbx kbx fbx lbx nm k N u) (hn : ∀ x, N x → N' x) : LayC w0 p g R s nbx kbx fbx lbx nm k N' u := by
  intro w lv L h0 hl hg
  refine (h w lv L h0 hl hg).mono ?_
  rintro e w' ⟨i, lv', L', e1, e2, e3, e4, e5, e6, e7, e8, e9, e10⟩
  exact ⟨i, lv', L', e1, e2, e3, e4, e5, e6, e7, e8, fun x hx => (e9 x hx).imp id (hn _), e10⟩
theorem part_a {p : Pl} {n : Nd} (h : (partP p n).2.2 = true) : (partP p n).1 = n.a := by
  revert h
  unfold partP
  split
  · exact fun _ => rfl
  · split
    · exact fun _ => rfl
    · split
      · exact fun _ => rfl
      · intro h; cases h
theorem part_b {p : Pl} {n : Nd} (h : (partP p n).2.2 = true) (h0 : (partP p n).2.1 ≠ 0) : (partP p n).2.1 = n.b ∨ (atP p (partP p n).2.1).1.kind = 6 := by
  revert h h0
  unfold partP
  split
  · exact fun _ _ => .inl rfl
  · split
    · exact fun _ h => absurd rfl h
    · split
      · intro h _
        have h0 : keyP p n ≠ 0 := by simpa using h
        exact .inr (by show (atP p (keyP p n : Int)).1.kind = 6; rw [key_kind h0]; rfl)
      · intro h; cases h
theorem taken_less {p : Pl} (hp : Ok p) {y r : Int} (hy : inP p y = true) (h0 : takeN r (atP p y).1 ≠ 0) : takeN r (atP p y).1 < y := by
  obtain ⟨ha, hb⟩ := kid_less hp hy
  revert h0
  unfold takeN
  split
  · split
    · exact fun h2 => (ha.resolve_left h2).2
    · split
      · exact fun h2 => (hb.resolve_left h2).2
      · exact fun h2 => absurd rfl h2
  · split
    · split
      · exact fun h2 => (ha.resolve_left h2).2
      · exact fun h2 => absurd rfl h2
    · exact fun h2 => absurd rfl h2

section
variable {w0 : World} {B a b : Nat} {v : Value} {p : Pl} {B2 k : Nat} {gv : Value} {mb : Nat} {g : List Int} {s : Int → Option Way} {R : Int → Prop} {s : Int → Option Way} {nbx kbx fbx lbx nm : Nat}
theorem lay_seen (hp : IsPool w0 B a b v p) (hk : IsKnow w0 B2 k gv mb a p g s) (hR : ∀ x, Reach p g x → R x) : ∀ (n : Nat) (u : Int), (s u).isSome = true → p.length - u.toNat < n → LayC w0 p g R s nbx kbx fbx lbx nm k (fun x => (s x).isSome = true ∧ u ≤ x) u := by
  intro n
  induction n with
  | zero => intro u _ h; omega
  | succ n ih =>
    intro u hsu hn w lv L h0 hl hg
    have hru := (hk.ok.reach u).1 hsu
    have hin := hru.inp hp.ok hk.ok.ing
    have hu : i64R u := in_i64 hp.ok.len (.inr hin)
    cases hpos : posL L u with
    | some i => exact lay_old hp hk hu h0 hl hg hpos
    | none =>
      cases hfr : freeB (atP p u).1.kind with
      | true => exact lay_free hp hk hu h0 hl hg hpos hfr (hR u hru) ⟨hsu, Int.le_refl _⟩
      | false =>
        cases hs : s u with
        | none => rw [hs] at hsu; cases hsu
        | some z =>
          obtain ⟨r, y⟩ := z
          by_cases hr : r = 0
          · subst hr
            obtain rfl := hk.ok.zero u y hs
            exact lay_given hp hk hu h0 hl hg hpos hfr hin hs ((hk.ok.given u).1 hs) (hR u hru) ⟨hsu, Int.le_refl _⟩
          · obtain ⟨h1, h2, h3, h4⟩ := hk.ok.ways u r y hs hr
            have hyin := h2.inp hp.ok hk.ok.ing
            have hlt : u < y := by
              have := taken_less hp.ok (r := r) hyin (by rw [h3]; exact h4)
              rwa [h3] at this
            have hsy := (hk.ok.reach y).2 h2
            simp only [inP, Bool.and_eq_true, decide_eq_true_eq] at hyin hin
            refine lay_way hp hk hu h0 hl hg hpos hfr (by simp [inP]; omega) hs (by omega) h1 h3 (ih y hsy (by omega)) (fun h => by omega) (fun x h => ⟨h.1, by omega⟩) (hR u hru) ⟨hsu, Int.le_refl _⟩
theorem lay_all (hp : IsPool w0 B a b v p) (hk : IsKnow w0 B2 k gv mb a p g s) (hR : ∀ x, Reach p g x → R x) (hRk : ∀ u, R u → inP p u = true → (inP p (atP p u).1.a = true → R (atP p u).1.a) ∧ (inP p (atP p u).1.b = true → R (atP p u).1.b)) :
    ∀ (n : Nat) (u : Int), u.toNat < n → Der p (fun x => (s x).isSome = true) u → R u → LayC w0 p g R s nbx kbx fbx lbx nm k (fun x => (s x).isSome = true ∨ x ≤ u) u := by
  intro n
  induction n with
  | zero => intro u h; omega
  | succ n ih =>
    intro u hn hd hru
    by_cases hsu : (s u).isSome = true
    · exact (lay_seen hp hk hR _ u hsu (Nat.lt_succ_self _)).mono (fun x h => .inl h.1)
    · have hsn : s u = none := by simpa using hsu
      have hS : ∀ x, (s x).isSome = true → inP p x = true := fun x hx => ((hk.ok.reach x).1 hx).inp hp.ok hk.ok.ing
      have hin : inP p u = true := by
        cases e : inP p u with
        | true => rfl
        | false => exact absurd hd (der_out hS e)
      have hu : i64R u := in_i64 hp.ok.len (.inr hin)
      have hin' := hin
      simp only [inP, Bool.and_eq_true, decide_eq_true_eq] at hin'
      intro w lv L h0 hl hg
      cases hpos : posL L u with
      | some i => exact lay_old hp hk hu h0 hl hg hpos
      | none =>
        cases hfr : freeB (atP p u).1.kind with
        | true => exact lay_free hp hk hu h0 hl hg hpos hfr hru (.inr (Int.le_refl _))
        | false =>
          have hpa : ∀ {pa}, Der p (fun x => (s x).isSome = true) pa → inP p pa = true := fun {pa} h => by
            cases e : inP p pa with
            | true => rfl
            | false => exact absurd h (der_out hS e)
          cases hd with
          | seen h => exact absurd h hsu
          | free h => rw [hfr] at h; cases h
          | one hm hb ha =>
            have hai := hpa ha
            have hlt : (partP p (atP p u).1).1 < u := by
              rcases (part_cases hp.ok hm).1 with e | e
              · rw [e, inP_zero] at hai; cases hai
              · exact e.2
            have hra : R (partP p (atP p u).1).1 := by
              rw [part_a hm] at hai ⊢
              exact (hRk u hru hin).1 hai
            have hLA := ih _ (by omega) ha hra
            exact lay_one hp hk hu h0 hl hg hpos hfr hin hsn (Prod.ext rfl (Prod.ext rfl hm)) hLA (fun h => by rcases h with h | h; exact hsu h; omega) (fun x h => h.imp id (fun h => by omega)) hru (.inr (Int.le_refl _)) hb
          | two hm hb ha hbd =>
            have hai := hpa ha
            have hbi := hpa hbd
            have hlt : (partP p (atP p u).1).1 < u := by
              rcases (part_cases hp.ok hm).1 with e | e
              · rw [e, inP_zero] at hai; cases hai
              · exact e.2
            have hra : R (partP p (atP p u).1).1 := by
              rw [part_a hm] at hai ⊢
              exact (hRk u hru hin).1 hai
            have hLA := ih _ (by omega) ha hra
            have hLB : LayC w0 p g R s nbx kbx fbx lbx nm k (fun x => (s x).isSome = true ∨ (x ≤ (partP p (atP p u).1).2.1 ∧ (partP p (atP p u).1).2.1 < u)) (partP p (atP p u).1).2.1 := by
              by_cases hk6 : (atP p (partP p (atP p u).1).2.1).1.kind = 6
              · have hsk := (der_key hk6).1 hbd
                exact (lay_seen hp hk hR _ _ hsk (Nat.lt_succ_self _)).mono (fun x h => .inl h.1)
              · have hbl : (partP p (atP p u).1).2.1 < u := by
                  rcases (part_cases hp.ok hm).2 with e | ⟨_, e | e⟩
                  · exact absurd e hb
                  · exact e
                  · exact absurd e hk6
                have hrb : R (partP p (atP p u).1).2.1 := by
                  rcases part_b hm hb with e | e
                  · rw [e] at hbi ⊢
                    exact (hRk u hru hin).2 hbi
                  · exact absurd e hk6
                exact (ih _ (by omega) hbd hrb).mono (fun x h => h.imp id (fun h => ⟨h, hbl⟩))
            exact lay_two hp hk hu h0 hl hg hpos hfr hin hsn (Prod.ext rfl (Prod.ext rfl hm)) hLA (fun h => by rcases h with h | h; exact hsu h; omega) (fun x h => h.imp id (fun h => by omega)) hru (.inr (Int.le_refl _)) hb hLB
              (fun h => by rcases h with h | h; exact hsu h; omega) (fun x h => h.imp id (fun h => by omega))
end
theorem run_store_funcK (P : Program) (w : World) (a : Addr) (fn : Fn) (x y : Array Value) (m : Mode) : (store a (.func fn x y) m).run P w = stored P w a (.func fn x y) m := run_store P w a _ m rfl
attribute [local go_sem] run_store_funcK
theorem lay_boxes (w : World) (o0 o1 o2 o3 : Obj) : Below w.heap.size w ((((w.alloc o0).alloc o1).alloc o2).alloc o3) ∧ ((((w.alloc o0).alloc o1).alloc o2).alloc o3).heap[w.heap.size]? = some o0 ∧ ((((w.alloc o0).alloc o1).alloc o2).alloc o3).heap[w.heap.size + 1]? = some o1 ∧
    ((((w.alloc o0).alloc o1).alloc o2).alloc o3).heap[w.heap.size + 1 + 1]? = some o2 ∧ ((((w.alloc o0).alloc o1).alloc o2).alloc o3).heap[w.heap.size + 1 + 1 + 1]? = some o3 := by
  refine ⟨((((Below.refl _ _).alloc (Nat.le_refl _) _).alloc (by simp) _).alloc (by simp; omega) _).alloc (by simp; omega) _, ?_, ?_, ?_, ?_⟩
  all_goals
    simp only [show ∀ (W : World) (o : Obj), (W.alloc o).heap = W.heap.push o from fun _ _ => rfl, Array.getElem?_push, Array.size_push]
    repeat (first | rw [if_pos rfl] | rw [if_neg (by omega)])
    try simp
theorem num_boxes (w : World) (o0 o2 o3 : Obj) : NumM ((((w.alloc o0).alloc (.map #[] 0)).alloc o2).alloc o3) (w.heap.size + 1) [] := by
  have h := NumM.new (w.alloc o0)
  rw [World.size_alloc] at h
  exact (h.below (bA0 _ o2)).below (bA0 _ o3)

section
variable {w : World} {B a b : Nat} {v : Value} {p : Pl} {B2 k : Nat} {gv : Value} {mb : Nat} {g : List Int} {s : Int → Option Way} {R : Int → Prop}
/-- What Proof answers. -/
def ProofPost (p : Pl) (g : List Int) (R : Int → Prop) (s : Int → Option Way) (d : Bool) (t : Int) (w : World) (e : Ending) (w' : World) : Prop :=
  Below w.heap.size w w' ∧ ((d = false ∧ e = .returned (.tuple #[.slice none 0 0, .bool false])) ∨
    (d = true ∧ ∃ lv L, e = .returned (.tuple #[lv, .bool true]) ∧ w'.ownsRow w.heap.size StT 4 lv L.length (sts L) ∧ GoodL p g R L ∧ (∃ hn : L ≠ [], (L.getLast hn).t = t) ∧ ∃ i, LayR p s t [] i L))
set_option maxRecDepth 100000 in
set_option maxHeartbeats 12800000 in
theorem proof_any (hp : IsPool w B a b v p) (hk : IsKnow w B2 k gv mb a p g s) (hR : ∀ x, Reach p g x → R x) (hRk : ∀ u, R u → inP p u = true → (inP p (atP p u).1.a = true → R (atP p u).1.a) ∧ (inP p (atP p u).1.b = true → R (atP p u).1.b)) {t : Int} (ht : i64R t) (hrt : Der p (fun x => (s x).isSome = true) t → R t) :
    Calls Tryd.prog 21 #[.pointer (some ⟨k, 0, none⟩), .int .i64 t] w (ProofPost p g R s (derB p s t) t w) := by
  have b1 := bA0 w (.cells #[.pointer (some ⟨k, 0, none⟩)] PKnowT)
  have h1 : (w.alloc (.cells #[.pointer (some ⟨k, 0, none⟩)] PKnowT)).heap[w.heap.size]? = some (Obj.cells #[.pointer (some ⟨k, 0, none⟩)] PKnowT) := heap_alloc_new _ _
  have x1 := cellB (j := 0) h1 rfl
  have HD := Lib.hid (derives_any (hp.below b1) (hk.below b1) ht)
  have HB1 := Lib.hid b1
  have HX1 := Lib.hid h1
  have HLC := Lib.hid (fun (hd : derB p s t = true) (nbx kbx fbx lbx nm : Nat) => lay_all (nbx := nbx) (kbx := kbx) (fbx := fbx) (lbx := lbx) (nm := nm) hp hk hR hRk _ t (Nat.lt_succ_self _) (derB_iff.1 hd) (hrt (derB_iff.1 hd)))
  have hmm := @run_makeMap Tryd.prog
  have hmf : ∀ (fn : Fn) (first cap : Array Value) (w : World), (Instr.makeFunc fn first cap).run Tryd.prog w = .ok (.func fn first cap) w := fun _ _ _ _ => rfl
  clear hp hk hR hRk ht hrt b1 h1
  generalize derB p s t = d at *
  go_enter Tryd.func21, Tryd.ntmps21
  go_wp2_with fail
  generalize (w.alloc (.cells #[.pointer (some ⟨k, 0, none⟩)] PKnowT)) = W at *
  refine HD.out.mono ?_
  rintro e w2 ⟨rfl, u2⟩
  have HB2 := Lib.hid (bmore HB1.out u2)
  have HX2 := Lib.hid (Hold.below u2 _ _ HX1.out)
  clear u2 x1
  cases d with
  | false =>
    go_wp2_with fail
    go_returns
    exact ⟨HB2.out, .inl ⟨rfl, rfl⟩⟩
  | true =>
    go_upto_region 7 with fail
    obtain ⟨bV, v0, v1, v2, v3⟩ := lay_boxes w2 (.cells #[.slice none 0 0] SlStT) (.map #[] 0) (.cells #[.map (some (w2.heap.size + 1))] NumT) (.cells #[.func (.func 49) #[] #[.pointer (some ⟨w2.heap.size + 1 + 1, 0, none⟩), .pointer (some ⟨w.heap.size, 0, none⟩), .pointer (some ⟨w2.heap.size + 1 + 1 + 1, 0, none⟩), .pointer (some ⟨w2.heap.size, 0, none⟩)]] FnT)
    have hnum := num_boxes w2 (.cells #[.slice none 0 0] SlStT) (.cells #[.map (some (w2.heap.size + 1))] NumT) (.cells #[.func (.func 49) #[] #[.pointer (some ⟨w2.heap.size + 1 + 1, 0, none⟩), .pointer (some ⟨w.heap.size, 0, none⟩), .pointer (some ⟨w2.heap.size + 1 + 1 + 1, 0, none⟩), .pointer (some ⟨w2.heap.size, 0, none⟩)]] FnT)
    have hws := HB2.out.size
    have hlay : IsLay ((((w2.alloc (.cells #[.slice none 0 0] SlStT)).alloc (.map #[] 0)).alloc (.cells #[.map (some (w2.heap.size + 1))] NumT)).alloc (.cells #[.func (.func 49) #[] #[.pointer (some ⟨w2.heap.size + 1 + 1, 0, none⟩), .pointer (some ⟨w.heap.size, 0, none⟩), .pointer (some ⟨w2.heap.size + 1 + 1 + 1, 0, none⟩), .pointer (some ⟨w2.heap.size, 0, none⟩)]] FnT)) w.heap.size (w2.heap.size + 1 + 1) w.heap.size (w2.heap.size + 1 + 1 + 1) w2.heap.size (w2.heap.size + 1) k (.slice none 0 0) [] :=
      ⟨v2, Hold.below bV _ _ HX2.out, v3, v0, World.ownsRow_nil _ _ _ 4, hnum, hws, by omega⟩
    have HLAY := Lib.hid hlay
    have HBV := Lib.hid (bmore HB2.out bV)
    have e3 := cellB (j := 0) v3 rfl
    clear bV v0 v1 v2 v3 hnum hlay
    generalize ((((w2.alloc (.cells #[.slice none 0 0] SlStT)).alloc (.map #[] 0)).alloc (.cells #[.map (some (w2.heap.size + 1))] NumT)).alloc (.cells #[.func (.func 49) #[] #[.pointer (some ⟨w2.heap.size + 1 + 1, 0, none⟩), .pointer (some ⟨w.heap.size, 0, none⟩), .pointer (some ⟨w2.heap.size + 1 + 1 + 1, 0, none⟩), .pointer (some ⟨w2.heap.size, 0, none⟩)]] FnT)) = V at *
    have HC := Lib.hid (HLC.out trivial (w2.heap.size + 1 + 1) w.heap.size (w2.heap.size + 1 + 1 + 1) w2.heap.size (w2.heap.size + 1) V (.slice none 0 0) [] HBV.out HLAY.out (GoodL.nil p g R))
    clear HLC HD
    go_wp2_with fail
    refine HC.out.mono ?_
    rintro e w5 ⟨i, lv, L, rfl, l1, g1, _, ⟨hi, hti⟩, b5, _, _, _, hlast, hlr⟩
    have HLRP : Hid (∃ i, LayR p s t [] i L) := Lib.hid ⟨i, hlr⟩
    clear hlr
    have HL5 := Lib.hid l1
    have HG5 := Lib.hid g1
    have HB5 := Lib.hid b5
    have HLA : Hid (∃ hn : L ≠ [], (L.getLast hn).t = t) := Lib.hid (by
      have hn : L ≠ [] := fun e => by rw [e] at hi; simp at hi
      refine ⟨hn, ?_⟩
      rw [List.getLast_eq_getElem]
      have e9 : L.length - 1 = i := by have := hlast rfl; omega
      simp only [e9]
      exact hti)
    have cl := cellB (j := 0) l1.lb rfl
    clear l1 g1 b5 hi hti hlast HC
    go_wp2_with fail
    go_returns
    exact ⟨HB5.out, .inr ⟨rfl, lv, L, rfl, HL5.out.row, HG5.out, HLA.out, HLRP.out⟩⟩
end
end Go.Proofs.YtjpkeoenajlmeaaDoor
