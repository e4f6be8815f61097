/-
  Ranges over the subterms of a term: what a round keeps; the two kinds of range, the one within the other.
-/
import Derived.Test.YtgaklaajbepfaaaGreatDoorTSubs
import Derived.Test.YtgaklaajbepfaaaGreatDoorTRSub
import Derived.RangeFuncNested
import Derived.RangeFuncBox
namespace Go.Proofs.YtgaklaajbepfaaaGreatDoor
open Go.RowKit Go.Maps
set_option linter.unusedVariables false

theorem walk_cells {o : Obj} (h : o.isWalk = true) : o.isCells = false := by cases o <;> first | rfl | simp [Obj.isWalk] at h
/-- What a round keeps: all that lies below n0, all maps, all nodes. -/
structure KpT (n0 : Nat) (W W' : World) : Prop where
  low : Below n0 W W'
  walks : KeepsWalks W W'
  nodes : Hold NodeT W W'
theorem KpT.refl (n0 : Nat) (W : World) : KpT n0 W W := ⟨Below.refl _ _, KeepsWalks.refl _, Hold.refl _ _⟩
theorem KpT.trans {n0 : Nat} {A B C : World} (h : KpT n0 A B) (k : KpT n0 B C) : KpT n0 A C := ⟨h.low.trans k.low, h.walks.trans k.walks, h.nodes.trans k.nodes⟩
theorem KpT.put {n0 : Nat} {w : World} (hn : n0 ≤ w.heap.size) (W : World) (l : Nat) (o o' : Obj) (hl : w.heap.size ≤ l) (h : W.heap[l]? = some o) (hc : o.isCells = false) (hw : o.isWalk = false) : KpT n0 W (W.putObj l o') :=
  ⟨belowK_b hn W l o o' hl h hc hw, walksK_b (w := w) W l o o' hl h hc hw, fun b cs hb => by
    have hg := grownBy_putObj' W l o'
    rw [hg.block b (Array.getElem?_eq_some_iff.1 hb).1 (fun e => by
      cases e
      rw [hb] at h
      cases h
      simp [Obj.isCells] at hc)]
    exact hb⟩
theorem KpT.of {n0 : Nat} {X Y : World} (h : Below X.heap.size X Y) (hn : n0 ≤ X.heap.size) : KpT n0 X Y :=
  ⟨h.mono hn, ⟨h.size, fun k o hk _ => (h.block k (Array.getElem?_eq_some_iff.1 hk).1).trans hk⟩, Hold.below h⟩
theorem KpT.box {n0 : Nat} {X : World} {ib : Nat} {u : Value} (h : Boxed X ib IntT u) (hn : n0 ≤ ib) (u' : Value) : KpT n0 X (X.setCell ⟨ib, 0, none⟩ u') :=
  ⟨(Below.refl _ _).setCell (p := ⟨ib, 0, none⟩) hn _, ⟨(KeepsOthers.setCell X _ _).size, fun k o hk hw => (KeepsOthers.setCell X _ _).same k o hk (walk_cells hw)⟩, Hold.setCell (T' := IntT) h (by decide)⟩
theorem keeps_of {B : Nat} {X Y : World} (h : Below X.heap.size X Y) : KeepsFrom B X Y := ⟨h.size, fun k o _ hk _ => (h.block k (Array.getElem?_eq_some_iff.1 hk).1).trans hk⟩
theorem IsPool.low {W W' : World} {B a b n0 : Nat} {v : Value} {p : Pl} (h : IsPool W B a b v p) (ha : a < n0) (hb : b < n0) (hv : ∀ g, v.ownBlock = some g → g < n0) (hl : Below n0 W W') : IsPool W' B a b v p := by
  obtain ⟨D, ⟨es, c, hm, r⟩, hd⟩ := h.dict
  refine ⟨by rw [hl.block a ha]; exact h.lay, h.ga, h.gb, ?_, ⟨D, ⟨es, c, by rw [hl.block b hb]; exact hm, r⟩, hd⟩, h.ok, h.nok⟩
  obtain ⟨h1, h2⟩ := h.row
  refine ⟨h1, ?_⟩
  rcases h2 with h2 | ⟨g, cap, cur, rfl, h3, h4, h5⟩
  · exact .inl h2
  · exact .inr ⟨g, cap, cur, rfl, h3, by rw [hl.block g (hv g rfl)]; exact h4, h5⟩

section
variable {F : Fence} {n : Nat} {P : Program} {α : Type} {g : Operand} {ps : Array Tmp} {assign body : Code} {Q : Exit → Act → World → Prop} {a : Act} {w : World}
theorem range_H {n0 : Nat} (hro : F.round = none) (h1 : 1 ≤ n) {gf : Nat} {lb : Array Value} (hg : a.eval g = .func (.func gf) #[] lb) (hFg : F.fn gf) (eg : ∀ args w, (callFunc gf args).run P w = .ok (.enter gf args) w)
    {encs : α → Array Value} {S Sp : List α → Prop} {N : Nat} (hseq : SeqStopsK F (n - 1) P gf lb encs (KpT n0) S Sp N w) (hn0 : n0 ≤ w.heap.size) (hps : ∀ x, (encs x).size = ps.size)
    (I : List α → World → Prop) (Ix : Code → List α → World → Prop) (hI : OwnFrom w.heap.size I) (hIx : ∀ c, OwnFrom w.heap.size (Ix c)) (h0 : I [] w) (a1 : α → Act)
    (hassign : ∀ (l : Nat) (x : α) (W : World) (K : Act → World → Prop), K (a1 x) W → assign.wpIn (F.inRound l) (n - 1 - 1) P (Exit.then K (fun _ _ _ => False)) { tmps := (ps.zip (encs x)).foldl (fun t (p, v) => t.setIfInBounds p v) a.tmps, defers := [] } W)
    (hbody : ∀ (l : Nat) (pre : List α) (x : α) (W : World), w.heap.size ≤ l → (∃ r, W.heap[l]? = some (.loop r)) → I pre W → pre.length < N → body.wpIn (F.inRound l) (n - 1 - 1) P (ownPostG w.heap.size (KpT n0) I Ix (pre ++ [x]) W) (a1 x) W)
    (hdone : ∀ (D : Nat) (xs : List α) (W : World), w.heap.size ≤ D → S xs → I xs W → W.heap[D]? = some (.deferred (some [])) → Q .normal { a with defers := { target := .collected D, args := #[] } :: a.defers } W)
    (hstop : ∀ (D : Nat) (c : Code) (pre : List α) (W : World), w.heap.size ≤ D → Sp pre → Ix c pre W → W.heap[D]? = some (.deferred (some [])) → c.wpIn F n P Q { a with defers := { target := .collected D, args := #[] } :: a.defers } W) :
    (Code.rangeFunc g ps assign body).wpIn F n P Q a w :=
  wpIn_rangeFunc_ownH hro h1 hg hFg eg hseq KpT.trans (KpT.put hn0) (Below.refl _ _) hps I Ix hI hIx h0 (fun x a' _ => a' = a1 x) (fun _ _ _ _ _ _ hs _ _ => hs)
    (fun l pre x W K hi hK => hassign l x W K (hK _ _ (KeepsFrom.refl _ _) (KpT.refl _ _) hi rfl)) (fun l pre x a' W hl hr hi e => by subst e; exact hbody l pre x W hl hr hi) hdone hstop
theorem range_N {n0 : Nat} {l0 : Nat} {r0 : Loop} (hro : F.round = some l0) (hl0 : w.heap[l0]? = some (.loop r0)) (h1 : 1 ≤ n) {gf : Nat} {lb : Array Value} (hg : a.eval g = .func (.func gf) #[] lb) (hFg : F.fn gf) (eg : ∀ args w, (callFunc gf args).run P w = .ok (.enter gf args) w)
    {encs : α → Array Value} {S Sp : List α → Prop} {N : Nat} (hseq : SeqStopsK F (n - 1) P gf lb encs (KpT n0) S Sp N w) (hn0 : n0 ≤ w.heap.size) (hps : ∀ x, (encs x).size = ps.size)
    (I : List α → World → Prop) (Ix : Code → List α → World → Prop) (hI : OwnFrom w.heap.size I) (hIx : ∀ c, OwnFrom w.heap.size (Ix c)) (h0 : I [] w) (a1 : α → Act)
    (hassign : ∀ (l : Nat) (x : α) (W : World) (K : Act → World → Prop), K (a1 x) W → assign.wpIn (F.inRound l) (n - 1 - 1) P (Exit.then K (fun _ _ _ => False)) { tmps := (ps.zip (encs x)).foldl (fun t (p, v) => t.setIfInBounds p v) a.tmps, defers := [] } W)
    (hbody : ∀ (l : Nat) (pre : List α) (x : α) (W : World), w.heap.size ≤ l → I pre W → pre.length < N → body.wpIn (F.inRound l) (n - 1 - 1) P (ownPostG w.heap.size (KpT n0) I Ix (pre ++ [x]) W) (a1 x) W)
    (hdone : ∀ (xs : List α) (W : World), S xs → I xs W → Q .normal a W)
    (hstop : ∀ (c : Code) (pre : List α) (W : World), Sp pre → Ix c pre W → c.wpIn F n P Q a W) :
    (Code.rangeFunc g ps assign body).wpIn F n P Q a w :=
  wpIn_rangeFunc_ownN hro hl0 h1 hg hFg eg hseq KpT.trans (KpT.put hn0) (Below.refl _ _) hps I Ix hI hIx h0 (fun x a' _ => a' = a1 x) (fun _ _ _ _ _ _ hs _ _ => hs)
    (fun l pre x W K hi hK => hassign l x W K (hK _ _ (KeepsFrom.refl _ _) (KpT.refl _ _) hi rfl)) (fun l pre x a' W hl _ hi e => by subst e; exact hbody l pre x W hl hi) hdone hstop
end

theorem box_kept {W W' : World} {B n : Nat} {t : TypeId} {v : Value} {row : Option Nat} (h : Boxed W B t v) (hg : W.grownBy W' row) (hr : ∀ r, row = some r → n ≤ r ∧ ∃ o : Obj, W.heap[r]? = some o ∧ o.isCells = false) : Boxed W' B t v :=
  h.kept hg fun e => by
    obtain ⟨_, o, ho, hc⟩ := hr B e.symm
    rw [show W.heap[B]? = _ from h] at ho
    cases ho
    simp [Obj.isCells] at hc
theorem prefix_snoc {A : List Int} {pre : List Int} {x : Int} (hp : pre <+: A) (h : pre.length < A.length) : pre ++ [x] <+: A ↔ x = A[pre.length] := by
  obtain ⟨r, rfl⟩ := hp
  cases r with
  | nil => simp at h
  | cons y r =>
    constructor
    · rintro ⟨q, hq⟩
      simp at hq
      simp [hq.1]
    · intro e
      simp at e
      exact ⟨r, by simp [e]⟩
/-- What holds between two rounds of the outer range. -/
def Bt (A : List Int) (W6 : World) (ib tb : Nat) (r : Int) (mk : Option Nat) (pre : List Int) (W : World) : Prop :=
  pre <+: A ∧ Boxed W ib IntT (.int .i64 (pre.length : Int)) ∧ Boxed W tb IntT (.int .i64 r) ∧ Below W6.heap.size W6 W ∧ ∀ D, mk = some D → W.heap[D]? = some (.deferred (some []))
theorem bt_own (A : List Int) (W6 : World) (ib tb : Nat) (r : Int) (mk : Option Nat) {n : Nat} (h1 : W6.heap.size ≤ n) (h2 : ∀ D, mk = some D → D < n) : OwnFrom n (Bt A W6 ib tb r mk) := by
  rintro s X Y row ⟨hp, hb1, hb2, hb, hd⟩ hg hr
  refine ⟨hp, box_kept hb1 hg hr, box_kept hb2 hg hr, hb.grown hg hb.size fun q e => Nat.le_trans h1 (hr q e).1, fun D e => ?_⟩
  have h := hd D e
  rw [hg.block D (Array.getElem?_eq_some_iff.1 h).1 (fun e' => by have := (hr D e'.symm).1; have := h2 D e; omega)]
  exact h
/-- How a round of the outer range leaves. -/
def Lv (A : List Int) (W6 : World) (tb : Nat) (r : Int) (br : Prop) (mk : Option Nat) (id : Nat) (c : Code) (pre : List Int) (W : World) : Prop :=
  (c = .ret ∧ ¬ pre <+: A) ∨ (br ∧ c = .exit id ∧ Boxed W tb IntT (.int .i64 r) ∧ Below W6.heap.size W6 W ∧ ∀ D, mk = some D → W.heap[D]? = some (.deferred (some [])))
theorem lv_own (A : List Int) (W6 : World) (tb : Nat) (r : Int) (br : Prop) (mk : Option Nat) (id : Nat) {n : Nat} (h1 : W6.heap.size ≤ n) (h2 : ∀ D, mk = some D → D < n) (c : Code) : OwnFrom n (Lv A W6 tb r br mk id c) := by
  rintro s X Y row (h | ⟨h, hc, hb2, hb, hd⟩) hg hr
  · exact .inl h
  · refine .inr ⟨h, hc, box_kept hb2 hg hr, hb.grown hg hb.size fun q e => Nat.le_trans h1 (hr q e).1, fun D e => ?_⟩
    have h := hd D e
    rw [hg.block D (Array.getElem?_eq_some_iff.1 h).1 (fun e' => by have := (hr D e'.symm).1; have := h2 D e; omega)]
    exact h
/-- What holds between two rounds of the inner range, which began at X: so many have come as its box kb says. -/
def Bi (X : World) (kb : Nat) (pre : List Int) (Y : World) : Prop := Boxed Y kb IntT (.int .i64 (pre.length : Int)) ∧ Below X.heap.size X Y
theorem bi_own (X : World) (kb : Nat) {n : Nat} (h1 : X.heap.size ≤ n) : OwnFrom n (Bi X kb) := by
  rintro s Y Z row ⟨hb, hl⟩ hg hr
  exact ⟨box_kept hb hg hr, hl.grown hg hl.size fun q e => Nat.le_trans h1 (hr q e).1⟩
def Li (X : World) (kb id : Nat) (c : Code) (pre : List Int) (Y : World) : Prop := c = .exit id ∧ Bi X kb pre Y
theorem li_own (X : World) (kb id : Nat) {n : Nat} (h1 : X.heap.size ≤ n) (c : Code) : OwnFrom n (Li X kb id c) :=
  fun s Y Z row h hg hr => ⟨h.1, bi_own X kb h1 s Y Z row h.2 hg hr⟩
theorem bi_step {X Y : World} {pre : List Int} {z : Int} {B n0 : Nat} (h : Bi X X.heap.size pre Y) (hn : n0 ≤ X.heap.size) :
    KeepsFrom B Y (Y.setCell ⟨X.heap.size, 0, none⟩ (.int .i64 ((pre.length : Int) + 1))) ∧ KpT n0 Y (Y.setCell ⟨X.heap.size, 0, none⟩ (.int .i64 ((pre.length : Int) + 1))) ∧ Bi X X.heap.size (pre ++ [z]) (Y.setCell ⟨X.heap.size, 0, none⟩ (.int .i64 ((pre.length : Int) + 1))) := by
  obtain ⟨hb, hl⟩ := h
  refine ⟨(KeepsOthers.setCell _ _ _).from _, KpT.box hb hn _, ?_, hl.setCell (p := ⟨X.heap.size, 0, none⟩) (Nat.le_refl _) _⟩
  have := hb.set (.int .i64 ((pre.length : Int) + 1))
  rw [List.length_append, List.length_singleton, show ((pre.length + 1 : Nat) : Int) = (pre.length : Int) + 1 by omega]
  exact this
theorem boxed_below {X Y : World} {b : Nat} {T : TypeId} {u : Value} (h : Boxed X b T u) (hb : Below X.heap.size X Y) : Boxed Y b T u := (hb.block b h.lt).trans h
theorem tail_facts {A : List Int} {W6 X Y : World} {ib tb B : Nat} {r : Int} {mk : Option Nat} {pre : List Int} {x : Int} (hX : Bt A W6 ib tb r mk pre X) (hY : Below X.heap.size X Y) (hpx : pre ++ [x] <+: A) (hne : tb ≠ ib) (hib : W6.heap.size ≤ ib) :
    KeepsFrom B X (Y.setCell ⟨ib, 0, none⟩ (.int .i64 ((pre.length : Int) + 1))) ∧ KpT W6.heap.size X (Y.setCell ⟨ib, 0, none⟩ (.int .i64 ((pre.length : Int) + 1))) ∧ Bt A W6 ib tb r mk (pre ++ [x]) (Y.setCell ⟨ib, 0, none⟩ (.int .i64 ((pre.length : Int) + 1))) := by
  obtain ⟨_, hi, ht, hb, hm⟩ := hX
  have hi' := boxed_below hi hY
  have ht' := boxed_below ht hY
  have hb' := hb.trans (hY.mono hb.size)
  refine ⟨(keeps_of hY).trans ((KeepsOthers.setCell _ _ _).from _), (KpT.of hY hb.size).trans (KpT.box hi' hib _), hpx, ?_, ht'.other hne _, hb'.setCell (p := ⟨ib, 0, none⟩) hib _, fun D e => ?_⟩
  · have := hi'.set (.int .i64 ((pre.length : Int) + 1))
    rw [List.length_append, List.length_singleton, show ((pre.length + 1 : Nat) : Int) = (pre.length : Int) + 1 by omega]
    exact this
  · have h := hm D e
    have h2 := (hY.block D (Array.getElem?_eq_some_iff.1 h).1).trans h
    rw [Below.heap_setCell _ _ _ _ (fun e' => by
      rw [e'] at h2
      rw [show Y.heap[ib]? = _ from hi'] at h2
      cases h2)]
    exact h2
end Go.Proofs.YtgaklaajbepfaaaGreatDoor
