/-
  The walk of KeepGoes: a range within a range, both left early.
-/
import Derived.Test.YtkobiimkaimbaaaKRanksP
import Derived.Test.YtkobiimkaimbaaaKLive
import Derived.Test.YtkobiimkaimbaaaKBuilt
import Derived.RangeFuncNested
import Derived.LoopN
namespace Go.Proofs.Ytkobiimkaimbaaa
open Go.RowKit Go.Shelf
attribute [local go_sem] Oper.semAt_some
set_option linter.unusedVariables false

theorem run_store_func (P : Program) (w : World) (a : Addr) (fn : Fn) (x y : Array Value) (m : Mode) : (store a (.func fn x y) m).run P w = stored P w a (.func fn x y) m := run_store P w a _ m rfl
attribute [local go_sem] run_store_func
theorem range_H {F : Fence} {n : Nat} {P : Program} {α : Type} {g : Operand} {ps : Array Tmp} {assign body : Code} {Q : Exit → Act → World → Prop} {a : Act} {w : World}
    (hro : F.round = none) (h1 : 1 ≤ n) {gf : Nat} {lb : Array Value} (hg : a.eval g = .func (.func gf) #[] lb) (hFg : F.fn gf) (eg : ∀ args w, (callFunc gf args).run P w = .ok (.enter gf args) w)
    {encs : α → Array Value} {B0 : Nat} {S Sp : List α → Prop} {N : Nat} (hseq : SeqStopsK F (n - 1) P gf lb encs (Below B0) S Sp N w) (hB0 : B0 ≤ w.heap.size) (hps : ∀ x, (encs x).size = ps.size)
    (I : List α → World → Prop) (Ix : Code → List α → World → Prop) (hI : OwnFrom w.heap.size I) (hIx : ∀ c, OwnFrom w.heap.size (Ix c)) (h0 : I [] w) (a1 : α → Act)
    (hassign : ∀ (l : Nat) (x : α) (W : World) (K : Act → World → Prop), K (a1 x) W → assign.wpIn (F.inRound l) (n - 1 - 1) P (Exit.then K (fun _ _ _ => False)) { tmps := (ps.zip (encs x)).foldl (fun t (p, v) => t.setIfInBounds p v) a.tmps, defers := [] } W)
    (hbody : ∀ (l : Nat) (pre : List α) (x : α) (W : World), w.heap.size ≤ l → (∃ r, W.heap[l]? = some (.loop r)) → I pre W → pre.length < N → body.wpIn (F.inRound l) (n - 1 - 1) P (ownPostG w.heap.size (Below B0) I Ix (pre ++ [x]) W) (a1 x) W)
    (hdone : ∀ (D : Nat) (xs : List α) (W : World), w.heap.size ≤ D → S xs → I xs W → W.heap[D]? = some (.deferred (some [])) → Q .normal { a with defers := { target := .collected D, args := #[] } :: a.defers } W)
    (hstop : ∀ (D : Nat) (c : Code) (pre : List α) (W : World), w.heap.size ≤ D → Sp pre → Ix c pre W → W.heap[D]? = some (.deferred (some [])) → c.wpIn F n P Q { a with defers := { target := .collected D, args := #[] } :: a.defers } W) :
    (Code.rangeFunc g ps assign body).wpIn F n P Q a w :=
  wpIn_rangeFunc_ownH hro h1 hg hFg eg hseq belowK_t (belowK_b hB0) (Below.refl _ _) hps I Ix hI hIx h0 (fun x a' _ => a' = a1 x) (fun _ _ _ _ _ _ hs _ _ => hs)
    (fun l pre x W K hi hK => hassign l x W K (hK _ _ (KeepsFrom.refl _ _) (Below.refl _ _) hi rfl)) (fun l pre x a' W hl hr hi e => by subst e; exact hbody l pre x W hl hr hi) hdone hstop
theorem range_N {F : Fence} {n : Nat} {P : Program} {α : Type} {g : Operand} {ps : Array Tmp} {assign body : Code} {Q : Exit → Act → World → Prop} {a : Act} {w : World} {l0 : Nat} {r0 : Loop}
    (hro : F.round = some l0) (hl0 : w.heap[l0]? = some (.loop r0)) (h1 : 1 ≤ n) {gf : Nat} {lb : Array Value} (hg : a.eval g = .func (.func gf) #[] lb) (hFg : F.fn gf) (eg : ∀ args w, (callFunc gf args).run P w = .ok (.enter gf args) w)
    {encs : α → Array Value} {B0 : Nat} {S Sp : List α → Prop} {N : Nat} (hseq : SeqStopsK F (n - 1) P gf lb encs (Below B0) S Sp N w) (hB0 : B0 ≤ w.heap.size) (hps : ∀ x, (encs x).size = ps.size)
    (I : List α → World → Prop) (Ix : Code → List α → World → Prop) (hI : OwnFrom w.heap.size I) (hIx : ∀ c, OwnFrom w.heap.size (Ix c)) (h0 : I [] w) (a1 : α → Act)
    (hassign : ∀ (l : Nat) (x : α) (W : World) (K : Act → World → Prop), K (a1 x) W → assign.wpIn (F.inRound l) (n - 1 - 1) P (Exit.then K (fun _ _ _ => False)) { tmps := (ps.zip (encs x)).foldl (fun t (p, v) => t.setIfInBounds p v) a.tmps, defers := [] } W)
    (hbody : ∀ (l : Nat) (pre : List α) (x : α) (W : World), w.heap.size ≤ l → I pre W → pre.length < N → body.wpIn (F.inRound l) (n - 1 - 1) P (ownPostG w.heap.size (Below B0) I Ix (pre ++ [x]) W) (a1 x) W)
    (hdone : ∀ (xs : List α) (W : World), S xs → I xs W → Q .normal a W)
    (hstop : ∀ (c : Code) (pre : List α) (W : World), Sp pre → Ix c pre W → c.wpIn F n P Q a W) :
    (Code.rangeFunc g ps assign body).wpIn F n P Q a w :=
  wpIn_rangeFunc_ownN hro hl0 h1 hg hFg eg hseq belowK_t (belowK_b hB0) (Below.refl _ _) hps I Ix hI hIx h0 (fun x a' _ => a' = a1 x) (fun _ _ _ _ _ _ hs _ _ => hs)
    (fun l pre x W K hi hK => hassign l x W K (hK _ _ (KeepsFrom.refl _ _) (Below.refl _ _) hi rfl)) (fun l pre x a' W hl _ hi e => by subst e; exact hbody l pre x W hl hi) hdone hstop

theorem box_kept {W W' : World} {B n : Nat} {t : TypeId} {v : Value} {row : Option Nat} (h : Boxed W B t v) (hg : W.grownBy W' row) (hr : ∀ r, row = some r → n ≤ r ∧ ∃ o : Obj, W.heap[r]? = some o ∧ o.isCells = false) : Boxed W' B t v :=
  h.kept hg fun e => by
    obtain ⟨_, o, ho, hc⟩ := hr B e.symm
    rw [show W.heap[B]? = _ from h] at ho
    cases ho
    simp [Obj.isCells] at hc
theorem func_nil (W : World) (fn : Fn) (x y : Array Value) : Sem.run Try.prog (binOp BinOp.eql 45 (.func fn x y) Value.nilFunc) W = .ok (.bool false) W := by kernel_rfl

theorem prefix_snoc {A : List Ent} {pre : List Ent} {x : Ent} (hp : pre <+: A) (h : pre.length < A.length) : pre ++ [x] <+: A ↔ x = A[pre.length] := by
  obtain ⟨r, rfl⟩ := hp
  cases r with
  | nil => simp at h
  | cons y r =>
    constructor
    · rintro ⟨q, hq⟩
      simp at hq
      simp [hq.1]
    · intro e
      simp at e
      exact ⟨r, by simp [e]⟩
/-- What holds between two rounds of a range. -/
def Bt (A : List Ent) (W6 : World) (en er : Nat) (r : Int) (mk : Option Nat) (pre : List Ent) (W : World) : Prop :=
  pre <+: A ∧ Boxed W en 3 (.int .i64 (pre.length : Int)) ∧ Boxed W er 3 (.int .i64 r) ∧ Below W6.heap.size W6 W ∧ ∀ D, mk = some D → W.heap[D]? = some (.deferred (some []))
theorem bt_own (A : List Ent) (W6 : World) (en er : Nat) (r : Int) (mk : Option Nat) {n : Nat} (h1 : W6.heap.size ≤ n) (h2 : ∀ D, mk = some D → D < n) : OwnFrom n (Bt A W6 en er r mk) := by
  rintro s X Y row ⟨hp, hb1, hb2, hb, hd⟩ hg hr
  refine ⟨hp, box_kept hb1 hg hr, box_kept hb2 hg hr, hb.grown hg hb.size fun q e => Nat.le_trans h1 (hr q e).1, fun D e => ?_⟩
  have h := hd D e
  rw [hg.block D (Array.getElem?_eq_some_iff.1 h).1 (fun e' => by have := (hr D e'.symm).1; have := h2 D e; omega)]
  exact h
theorem inn_own {W6 X : World} {er B : Nat} (hX : W6.heap.size ≤ X.heap.size) : OwnFrom X.heap.size (fun (p2 : List Ent) Y => p2 = [] ∧ KeepsFrom B X Y ∧ Boxed Y er 3 (.int .i64 0) ∧ Below W6.heap.size W6 Y) := by
  rintro s Y Z row ⟨hp, hk, hb2, hb⟩ hg hr
  exact ⟨hp, ownFrom_keepsFrom (β := List Ent) (Nat.le_refl _) s Y Z row hk hg hr, box_kept hb2 hg hr, hb.grown hg hb.size fun q e => Nat.le_trans hX (hr q e).1⟩
theorem inx_own {W6 X : World} {er B id : Nat} {A : List Ent} (hX : W6.heap.size ≤ X.heap.size) (c : Code) : OwnFrom X.heap.size (fun (p2 : List Ent) Y => (c = .ret ∧ ¬ p2 <+: A) ∨ (c = .exit id ∧ KeepsFrom B X Y ∧ Boxed Y er 3 (.int .i64 0) ∧ Below W6.heap.size W6 Y)) := by
  rintro s Y Z row (h | ⟨hc, hk, hb2, hb⟩) hg hr
  · exact .inl h
  · exact .inr ⟨hc, ownFrom_keepsFrom (β := List Ent) (Nat.le_refl _) s Y Z row hk hg hr, box_kept hb2 hg hr, hb.grown hg hb.size fun q e => Nat.le_trans hX (hr q e).1⟩
/-- How a round leaves. -/
def Lv (A : List Ent) (W6 : World) (er : Nat) (br : Prop) (mk : Option Nat) (id : Nat) (c : Code) (pre : List Ent) (W : World) : Prop :=
  (c = .ret ∧ ¬ pre <+: A) ∨ (br ∧ c = .exit id ∧ Boxed W er 3 (.int .i64 0) ∧ Below W6.heap.size W6 W ∧ ∀ D, mk = some D → W.heap[D]? = some (.deferred (some [])))
theorem lv_own (A : List Ent) (W6 : World) (er : Nat) (br : Prop) (mk : Option Nat) (id : Nat) {n : Nat} (h1 : W6.heap.size ≤ n) (h2 : ∀ D, mk = some D → D < n) (c : Code) : OwnFrom n (Lv A W6 er br mk id c) := by
  rintro s X Y row (h | ⟨h, hc, hb2, hb, hd⟩) hg hr
  · exact .inl h
  · refine .inr ⟨h, hc, box_kept hb2 hg hr, hb.grown hg hb.size fun q e => Nat.le_trans h1 (hr q e).1, fun D e => ?_⟩
    have h := hd D e
    rw [hg.block D (Array.getElem?_eq_some_iff.1 h).1 (fun e' => by have := (hr D e'.symm).1; have := h2 D e; omega)]
    exact h

theorem goes_facts (l : List Ent) : (treeOf l).toL = lstOf l ∧ Srt (lstOf l) ∧ (treeOf l).size = (lstOf l).length ∧ (lstOf l).length ≤ l.length := by
  have h := treeOf_list l l.length (Nat.le_refl _)
  rw [List.take_length] at h
  exact ⟨h.2.1, by rw [← h.2.1]; exact h.1, by rw [← h.2.1, Tr.size_toL], by rw [← h.2.1, Tr.size_toL]; exact h.2.2⟩

set_option maxRecDepth 20000 in
set_option maxHeartbeats 12800000 in
theorem goes_in {w : World} {v : Value} {l : List Ent} (stop : Int) (h : Row w 2 v l.length (ents l)) :
    CallsIn Fence.wide 3 Try.prog 4 #[v, .int .i64 stop] w fun e w' => e = .returned (.bool true) ∧ Below w.heap.size w w' := by
  have HA := Lib.hid h
  have ML := Lib.hid h.small
  obtain ⟨aa, ca, rfl⟩ := h.shape
  have hwa : ∀ W : World, Below w.heap.size w W → Calls Try.prog 24 #[.slice aa l.length ca] W fun e w' => (e = .returned (.bool true) ∨ (e = .returned (.bool false) ∧ l.length ≤ 80)) ∧ W = w' := by
    intro W hb
    by_cases h : 80 < l.length
    · exact (wide_long (HA.out.below hb) ML.out h).mono fun e w' h => ⟨.inl h.1, h.2⟩
    · exact (wide_any (HA.out.below hb) (by omega)).mono fun e w' h' => ⟨h'.1.imp id (fun q => ⟨q, by omega⟩), h'.2⟩
  have HWA := Lib.hid hwa
  clear hwa ML h
  refine callsIn_of_wp_marks Try.func4 rfl trivial ?_ rfl
  simp only [Try.ntmps4, List.size_toArray, List.length_cons, List.length_nil, Nat.reduceAdd, Nat.reduceSub, Array.replicate_succ, Array.replicate_zero, List.push_toArray, List.append_toArray, List.nil_append, List.cons_append]
  refine wpIn_wide.2 ?_
  go_wp2_with fail
  have b0 : Below w.heap.size w ((w.alloc (.cells #[.int .i64 stop] 3)).alloc (.cells #[.bool false] 4)) := ((Below.refl _ _).alloc (Nat.le_refl _) _).alloc (by simp) _
  have n0 : Boxed ((w.alloc (.cells #[.int .i64 stop] 3)).alloc (.cells #[.bool false] 4)) w.heap.size 3 (.int .i64 stop) := (Boxed.new w _ _).alloc _
  have a0 : Boxed ((w.alloc (.cells #[.int .i64 stop] 3)).alloc (.cells #[.bool false] 4)) (w.heap.size + 1) 4 (.bool false) := by
    have := Boxed.new (w.alloc (.cells #[.int .i64 stop] 3)) 4 (.bool false)
    rwa [World.size_alloc] at this
  have s0 : ((w.alloc (.cells #[.int .i64 stop] 3)).alloc (.cells #[.bool false] 4)).heap.size = w.heap.size + 2 := by simp
  generalize ((w.alloc (.cells #[.int .i64 stop] 3)).alloc (.cells #[.bool false] 4)) = W0 at *
  refine (HWA.out W0 b0).mono ?_
  rintro e w1 ⟨rfl | ⟨rfl, hl⟩, rfl⟩
  · have B0 := Lib.hid b0
    have A0 := Lib.hid a0
    clear b0 n0 a0
    go_wp2_with fail
    refine (live_any _).mono ?_
    rintro e wL ⟨rfl, hbL⟩
    have HAL := Lib.hid (show Boxed wL (w.heap.size + 1) 4 (.bool false) from Hold.below hbL _ _ A0.out)
    have HBL := Lib.hid (B0.out.trans (hbL.mono B0.out.size))
    have xL := HAL.out.cell
    have fL := HAL.out.frozen
    clear hbL
    go_wp2_with fail
    refine ⟨.bool true, ?_, rfl, HBL.out.setCell (p := ⟨w.heap.size + 1, 0, none⟩) (by simp) _⟩
    have hcL := (HAL.out.set (.bool true)).cell
    simp [results, Try.f4, go_sem, hcL]
  clear HWA
  obtain ⟨fa1, fa2, fa3, fa4⟩ := goes_facts l
  have NA : Hid ((lstOf l).length ≤ 80) := Lib.hid (by omega)
  have EA := Lib.hid fa1
  have B0 := Lib.hid b0
  have A0 := Lib.hid a0
  have N0 := Lib.hid n0
  have RA0 := Lib.hid (HA.out.below b0)
  clear fa1 fa2 fa3 fa4 b0 a0 n0 HA
  go_wp2_with fail
  refine (built_any RA0.out (by omega)).mono ?_
  rintro e w2 ⟨q, va, rfl, t2, o2, u2⟩
  obtain ⟨sA, cA, rfl⟩ := (row_of_own o2).shape
  have bM : Below w2.heap.size w2 ((w2.alloc (.cells #[.pointer q] 31)).alloc (.cells #[.slice sA (lstOf l).length cA] 33)) := ((Below.refl _ _).alloc (Nat.le_refl _) _).alloc (by simp) _
  have m0 : Boxed ((w2.alloc (.cells #[.pointer q] 31)).alloc (.cells #[.slice sA (lstOf l).length cA] 33)) w2.heap.size 31 (.pointer q) := (Boxed.new w2 _ _).alloc _
  have l0 : Boxed ((w2.alloc (.cells #[.pointer q] 31)).alloc (.cells #[.slice sA (lstOf l).length cA] 33)) (w2.heap.size + 1) 33 (.slice sA (lstOf l).length cA) := by
    have := Boxed.new (w2.alloc (.cells #[.pointer q] 31)) 33 (.slice sA (lstOf l).length cA)
    rwa [World.size_alloc] at this
  have B2 := Lib.hid ((B0.out.trans (u2.mono B0.out.size)).trans (bM.mono (Nat.le_trans B0.out.size u2.size)))
  have A2 := Lib.hid (show Boxed _ (w.heap.size + 1) 4 (.bool false) from Hold.below bM _ _ (Hold.below u2 _ _ A0.out))
  have N2 := Lib.hid (show Boxed _ w.heap.size 3 (.int .i64 stop) from Hold.below bM _ _ (Hold.below u2 _ _ N0.out))
  have TA2 := Lib.hid (t2.below bM)
  have RA2 := Lib.hid ((row_of_own o2).below bM)
  have L2 := Lib.hid l0
  have c5 := m0.cell
  clear t2 o2 u2 bM m0 l0 B0 A0 N0 RA0
  go_wp2_with fail
  generalize ((w2.alloc (.cells #[.pointer q] 31)).alloc (.cells #[.slice sA (lstOf l).length cA] 33)) = W2 at *
  generalize w2.heap.size = em at *
  refine (mallS q _).mono ?_
  rintro e w3 ⟨rfl, rfl⟩
  have bQ : Below W2.heap.size W2 ((W2.alloc (.cells #[.pointer q] 31)).alloc (.cells #[.func (.func 88) #[] #[.pointer (some ⟨W2.heap.size, 0, none⟩)]] 45)) := ((Below.refl _ _).alloc (Nat.le_refl _) _).alloc (by simp) _
  have hQ1 : Boxed ((W2.alloc (.cells #[.pointer q] 31)).alloc (.cells #[.func (.func 88) #[] #[.pointer (some ⟨W2.heap.size, 0, none⟩)]] 45)) W2.heap.size 31 (.pointer q) := (Boxed.new W2 _ _).alloc _
  have hQ2 : Boxed ((W2.alloc (.cells #[.pointer q] 31)).alloc (.cells #[.func (.func 88) #[] #[.pointer (some ⟨W2.heap.size, 0, none⟩)]] 45)) (W2.heap.size + 1) 45 (.func (.func 88) #[] #[.pointer (some ⟨W2.heap.size, 0, none⟩)]) := by
    have := Boxed.new (W2.alloc (.cells #[.pointer q] 31)) 45 (.func (.func 88) #[] #[.pointer (some ⟨W2.heap.size, 0, none⟩)])
    rwa [World.size_alloc] at this
  have B6 := Lib.hid (B2.out.trans (bQ.mono B2.out.size))
  have A6 := Lib.hid (show Boxed _ (w.heap.size + 1) 4 (.bool false) from Hold.below bQ _ _ A2.out)
  have N6 := Lib.hid (show Boxed _ w.heap.size 3 (.int .i64 stop) from Hold.below bQ _ _ N2.out)
  have L6 := Lib.hid (show Boxed _ (em + 1) 33 (.slice sA (lstOf l).length cA) from Hold.below bQ _ _ L2.out)
  have TA := Lib.hid (TA2.out.below bQ)
  have RA := Lib.hid (RA2.out.below bQ)
  have Q1 := Lib.hid hQ1
  have Q2 := Lib.hid hQ2
  have c7 := hQ2.cell
  clear bQ hQ1 hQ2 B2 A2 N2 L2 TA2 RA2 c5
  have hnf := fun W fn x y => func_nil W fn x y
  go_wp2_with fail
  have S6 : ((W2.alloc (.cells #[.pointer q] 31)).alloc (.cells #[.func (.func 88) #[] #[.pointer (some ⟨W2.heap.size, 0, none⟩)]] 45)).heap.size = W2.heap.size + 1 + 1 := by simp
  generalize ((W2.alloc (.cells #[.pointer q] 31)).alloc (.cells #[.func (.func 88) #[] #[.pointer (some ⟨W2.heap.size, 0, none⟩)]] 45)) = W6 at *
  generalize W2.heap.size = bt at *
  clear hnf
  have r0 : Boxed (W6.alloc (.cells #[.int .i64 0] 3)) (bt + 1 + 1) 3 (.int .i64 0) := by have := Boxed.new W6 3 (.int .i64 0); rwa [S6] at this
  have c7' := bcellAt ((Below.refl _ _).alloc (Nat.le_refl _) (.cells #[.int .i64 0] 3) : Below W6.heap.size W6 _) c7
  have x8 := r0.cell
  refine wp_loop_rounds 3 ?_
  rw [rounds_succ]
  have hv7 : ((W6.alloc (.cells #[.int .i64 0] 3)).alloc (.cells #[.int .i64 0] 3)).cell? ⟨bt + 1, 0, none⟩ = some (.func (.func 88) #[] #[.pointer (some ⟨bt, 0, none⟩)]) := bcellAt (((Below.refl _ _).alloc (Nat.le_refl _) _).alloc (by simp) _ : Below W6.heap.size W6 ((W6.alloc (.cells #[.int .i64 0] 3)).alloc (.cells #[.int .i64 0] 3))) c7
  go_wp2_with fail
  have BN : Hid (Boxed ((W6.alloc (.cells #[.int .i64 0] 3)).alloc (.cells #[.int .i64 0] 3)) (bt + 1 + 1 + 1) 3 (.int .i64 0)) := Lib.hid (by have := Boxed.new (W6.alloc (.cells #[.int .i64 0] 3)) 3 (.int .i64 0); rwa [World.size_alloc, S6] at this)
  have BR : Hid (Boxed ((W6.alloc (.cells #[.int .i64 0] 3)).alloc (.cells #[.int .i64 0] 3)) (bt + 1 + 1) 3 (.int .i64 0)) := Lib.hid (r0.alloc _)
  have HV : Hid (Below W6.heap.size W6 ((W6.alloc (.cells #[.int .i64 0] 3)).alloc (.cells #[.int .i64 0] 3))) := Lib.hid (((Below.refl _ _).alloc (Nat.le_refl _) _).alloc (by simp) _)
  have MK : Hid (∀ D, (none : Option Nat) = some D → D < ((W6.alloc (.cells #[.int .i64 0] 3)).alloc (.cells #[.int .i64 0] 3)).heap.size) := Lib.hid (fun D e => by cases e)
  have MD : Hid (∀ D, (none : Option Nat) = some D → ((W6.alloc (.cells #[.int .i64 0] 3)).alloc (.cells #[.int .i64 0] 3)).heap[D]? = some (.deferred (some []))) := Lib.hid (fun D e => by cases e)
  have hsz : ((W6.alloc (.cells #[.int .i64 0] 3)).alloc (.cells #[.int .i64 0] 3)).heap.size = W6.heap.size + 2 := by simp
  clear r0 c7' x8 hv7
  generalize ((W6.alloc (.cells #[.int .i64 0] 3)).alloc (.cells #[.int .i64 0] 3)) = V1 at *
  have hst := stopsS 2 bt q (treeOf l) W6 V1 HV.out (bcellAt HV.out Q1.out.cell) TA.out
  rw [EA.out] at hst
  have HST := Lib.hid hst
  clear hst
  refine (wpIn_wide (n := 3)).1 ?_
  refine range_H rfl (by decide) (gf := 88) (lb := #[.pointer (some ⟨bt, 0, none⟩)]) rfl trivial (enters_of Try.func88 (by kernel_rfl) rfl)
    HST.out HV.out.size (fun _ => rfl)
    (Bt (lstOf l) W6 (bt + 1 + 1 + 1) (bt + 1 + 1) 0 none) (Lv (lstOf l) W6 (bt + 1 + 1) (True) none 2) (bt_own (lstOf l) W6 (bt + 1 + 1 + 1) (bt + 1 + 1) 0 none HV.out.size MK.out) (lv_own (lstOf l) W6 (bt + 1 + 1) (True) none 2 HV.out.size MK.out) ⟨List.nil_prefix, BN.out, BR.out, HV.out, MD.out⟩ ?a1x ?assignx ?bodyx ?donex ?stopx
  case assignx =>
    intro lb x W' K hK
    gi_wp2
    exact hK
  case bodyx =>
    rintro lb pre ⟨xk, xv⟩ X hlb hrec ⟨hp, hb1, hb2, hb, hd⟩ hlt
    have hA80 : (lstOf l).length ≤ 80 := NA.out
    obtain ⟨aR, cR, hvR, xR⟩ := (RA.out.below hb).at2
    simp only [Value.slice.injEq, true_and] at hvR
    obtain ⟨rfl, rfl⟩ := hvR
    obtain ⟨b1, o1, rfl, q1⟩ := xR (by omega)
    have q2 := ents_at (lstOf l) pre.length hlt
    have d1 := q1 _ _ q2.1
    have d2 := q1 _ _ q2.2
    rw [show o1 + (pre.length * 2 + 1) = o1 + pre.length * 2 + 1 by omega] at d2
    have hps := prefix_snoc (x := (xk, xv)) hp hlt
    have QQ := Lib.hid q1
    clear q1 q2 xR
    generalize hy : (lstOf l)[pre.length] = y at *
    obtain ⟨yk, yv⟩ := y
    simp only at d1 d2
    have HY := Lib.hid hy
    have HPS := Lib.hid hps
    have x6 := bcellAt hb L6.out.cell
    have x3 := bcellAt hb N6.out.cell
    have x4 := bcellAt hb A6.out.cell
    have f4 := bfrozenAt hb A6.out.cell A6.out.frozen
    have x9 := hb1.cell
    have f9 := hb1.frozen
    have x8 := hb2.cell
    have hn0 : (0 : Int) ≤ (pre.length : Int) := by omega
    have hn1 : (pre.length : Int) < ((lstOf l).length : Int) := by omega
    have HB1 := Lib.hid hb1
    have HB2 := Lib.hid hb2
    have HB := Lib.hid hb
    have HD := Lib.hid hd
    have HP := Lib.hid hp
    have HREC := Lib.hid hrec
    clear hy hps hb1 hb2 hb hd hp hrec
    by_cases hk : xk = yk
    · subst hk
      by_cases hv : xv = yv
      · subst hv
        have HPX : Hid (pre ++ [(xk, xv)] <+: lstOf l) := Lib.hid (HPS.out.2 rfl)
        have hk2 : (xk.toList == xk.toList) = true := by simp
        clear HPS
        by_cases hs : stop = (pre.length : Int)
        · have hs2 : ((pre.length : Int) == stop) = true := by simp; exact hs.symm
          clear hs
          have x7 := bcellAt HB.out c7
          obtain ⟨rr, hrr⟩ := HREC.out
          have hst2 := stopsS 0 bt q (treeOf l) W6 X HB.out (bcellAt HB.out Q1.out.cell) TA.out
          rw [EA.out] at hst2
          have HST2 := Lib.hid (hst2.inRound lb)
          have HRR := Lib.hid hrr
          clear hst2 hrr
          gi_wp2
          refine range_N rfl HRR.out (by decide) (gf := 88) (lb := #[.pointer (some ⟨bt, 0, none⟩)]) rfl trivial (enters_of Try.func88 (by kernel_rfl) rfl)
            HST2.out HB.out.size (fun _ => rfl)
            (fun p2 Y => p2 = [] ∧ KeepsFrom V1.heap.size X Y ∧ Boxed Y (bt + 1 + 1) 3 (.int .i64 0) ∧ Below W6.heap.size W6 Y)
            (fun c p2 Y => (c = .ret ∧ ¬ p2 <+: lstOf l) ∨ (c = .exit 4 ∧ KeepsFrom V1.heap.size X Y ∧ Boxed Y (bt + 1 + 1) 3 (.int .i64 0) ∧ Below W6.heap.size W6 Y))
            (inn_own HB.out.size) (inx_own HB.out.size) ⟨rfl, KeepsFrom.refl _ _, HB2.out, HB.out⟩ ?a1n ?assignn ?bodyn ?donen ?stopn
          case assignn =>
            intro lb x W' K hK
            gi_wp2
            exact hK
          case donen =>
            rintro ys Y hS ⟨hys, _⟩
            rw [hys] at hS
            rw [← hS] at hlt
            simp at hlt
          case stopn =>
            rintro c ys Y hS (⟨rfl, hno⟩ | ⟨rfl, hkf, hrY, hbY⟩)
            · exact absurd hS hno
            · have HKF := Lib.hid hkf
              have HRY := Lib.hid hrY
              have HBY := Lib.hid hbY
              clear hkf hrY hbY
              gi_wp2
              exact ⟨(by have h := HKF.out; first | exact h | (rw [hsz] at h; exact h)), .inr ⟨trivial, (by first | rfl | trivial), (by have h := HRY.out; exact h), (by have h := HBY.out; first | exact h | (rw [S6] at h; exact h)), fun D e => (by cases e)⟩⟩
          case bodyn =>
            rintro lb2 p2 ⟨zk, zv⟩ Y hlb2 ⟨rfl, hkf, hrY, hbY⟩ hlt2
            obtain ⟨aR2, cR2, hvR2, xR2⟩ := (RA.out.below hbY).at2
            simp only [Value.slice.injEq, true_and] at hvR2
            obtain ⟨rfl, rfl⟩ := hvR2
            obtain ⟨b2, o2, hbo, q1⟩ := xR2 (by omega)
            simp only [Option.some.injEq, Addr.mk.injEq, and_true] at hbo
            obtain ⟨rfl, rfl⟩ := hbo
            have q2 := ents_at (lstOf l) 0 (by omega)
            have g1 := q1 _ _ q2.1
            have g2 := q1 _ _ q2.2
            simp only [Nat.zero_mul, Nat.zero_add, Nat.add_zero] at g1 g2
            have hps := prefix_snoc (A := lstOf l) (x := (zk, zv)) List.nil_prefix (by simp; omega)
            clear q1 q2 xR2 d1 d2 x3 x4 x6 x8 x9 f4 f9 x7
            have x6 := bcellAt hbY L6.out.cell
            have x4 := bcellAt hbY A6.out.cell
            have f4 := bfrozenAt hbY A6.out.cell A6.out.frozen
            have hl0 : (0 : Int) < ((lstOf l).length : Int) := by omega
            simp only [List.length_nil] at hps
            generalize hy0 : (lstOf l)[0] = y0 at *
            obtain ⟨y0k, y0v⟩ := y0
            simp only at g1 g2
            have HPS0 := Lib.hid hps
            have HKF := Lib.hid hkf
            have HRY := Lib.hid hrY
            have HBY := Lib.hid hbY
            clear hps hy0 hkf hrY hbY
            by_cases hzk : zk = y0k
            · subst hzk
              have hk3 : (zk.toList == zk.toList) = true := by simp
              by_cases hzv : zv = y0v
              · subst hzv
                gi_wp2
                exact ⟨KeepsFrom.refl _ _, .inr ⟨rfl, by have h := HKF.out; first | exact h | (rw [hsz] at h; exact h) | (rw [hsz, S6] at h; exact h), HRY.out, by have h := HBY.out; first | exact h | (rw [S6] at h; exact h)⟩⟩
              · have hv3 : (zv != y0v) = true := by simp; exact hzv
                have hnp : ¬ [] ++ [(zk, zv)] <+: lstOf l := fun h => hzv (congrArg Prod.snd (HPS0.out.1 h))
                have HNP := Lib.hid hnp
                clear hnp hzv
                gi_wp2
                exact ⟨(KeepsOthers.setCell _ _ _).from _, .inl ⟨rfl, HNP.out⟩⟩
            · have hk3 := ne_bytes hzk
              have hnp : ¬ [] ++ [(zk, zv)] <+: lstOf l := fun h => hzk (congrArg Prod.fst (HPS0.out.1 h))
              have HNP := Lib.hid hnp
              clear hnp hzk
              gi_wp2
              exact ⟨(KeepsOthers.setCell _ _ _).from _, .inl ⟨rfl, HNP.out⟩⟩
        · have hs2 : ((pre.length : Int) == stop) = false := by simp; exact fun e => hs e.symm
          clear hs
          gi_wp2
          have e1 : ((pre.length + 1 : Nat) : Int) = (pre.length : Int) + 1 := by omega
          refine ⟨(KeepsOthers.setCell _ _ _).from _, (Below.refl _ _).setCell (p := ⟨bt + 1 + 1 + 1, 0, none⟩) (by rw [S6]; simp) _, HPX.out, ?_, HB2.out.other (by omega) _, HB.out.setCell (p := ⟨bt + 1 + 1 + 1, 0, none⟩) (by rw [S6]; simp) _, fun D e => (by cases e)⟩
          have := HB1.out.set (.int .i64 ((pre.length : Int) + 1))
          rw [List.length_append, List.length_singleton, e1]
          exact this
      · have hv2 : (yv != xv) = true := by simp; exact fun e => hv e.symm
        have hnp : ¬ pre ++ [(xk, xv)] <+: lstOf l := fun h => hv (congrArg Prod.snd (HPS.out.1 h))
        have HNP := Lib.hid hnp
        have hk2 : (xk.toList == xk.toList) = true := by simp
        clear hnp hv
        gi_wp2
        exact ⟨(KeepsOthers.setCell _ _ _).from _, .inl ⟨rfl, HNP.out⟩⟩
    · have hk2 := ne_bytes (fun e => hk e.symm : yk ≠ xk)
      have hnp : ¬ pre ++ [(xk, xv)] <+: lstOf l := fun h => hk (congrArg Prod.fst (HPS.out.1 h))
      have HNP := Lib.hid hnp
      clear hnp hk
      gi_wp2
      exact ⟨(KeepsOthers.setCell _ _ _).from _, .inl ⟨rfl, HNP.out⟩⟩
  case donex =>
    rintro D ys W' hD hS ⟨hp, hb1, hb2, hb, _⟩ hK
    clear hp hb1
    have x7 := bcellAt hb c7
    have x8 := hb2.cell
    have HKD := Lib.hid hK
    have HBW := Lib.hid hb
    have HR0 := Lib.hid hb2
    have hDlo : W6.heap.size ≤ D := Nat.le_trans HV.out.size hD
    clear hK hb hb2 hD hS
    go_wp2_with fail
    have hr1 : Boxed (W'.alloc (.cells #[.int .i64 1] 3)) W'.heap.size 3 (.int .i64 1) := Boxed.new _ _ _
    have hbA : Below W6.heap.size W6 (W'.alloc (.cells #[.int .i64 1] 3)) := HBW.out.alloc HBW.out.size _
    have hDW : D < W'.heap.size := (Array.getElem?_eq_some_iff.1 HKD.out).1
    have hK7 : (W'.alloc (.cells #[.int .i64 1] 3)).heap[D]? = some (.deferred (some [])) := (Below.heap_alloc W' _ D hDW).trans HKD.out
    have hn1 : W6.heap.size ≤ W'.heap.size := HBW.out.size
    clear HKD HBW HR0 x7 x8 BN BR HV MK MD HST
    generalize (W'.alloc (.cells #[.int .i64 1] 3)) = W7 at *
    generalize W'.heap.size = n1 at *
    rw [rounds_succ]
    have x8 := hr1.cell
    have hv7 : (W7.alloc (.cells #[.int .i64 0] 3)).cell? ⟨bt + 1, 0, none⟩ = some (.func (.func 88) #[] #[.pointer (some ⟨bt, 0, none⟩)]) := bcellAt (hbA.alloc hbA.size _) c7
    go_wp2_with fail
    have BN : Hid (Boxed (W7.alloc (.cells #[.int .i64 0] 3)) W7.heap.size 3 (.int .i64 0)) := Lib.hid (Boxed.new _ _ _)
    have BR : Hid (Boxed (W7.alloc (.cells #[.int .i64 0] 3)) n1 3 (.int .i64 1)) := Lib.hid (hr1.alloc _)
    have HV : Hid (Below W6.heap.size W6 (W7.alloc (.cells #[.int .i64 0] 3))) := Lib.hid (hbA.alloc hbA.size _)
    have h12 : n1 < W7.heap.size := hr1.lt
    have hd7 : D < W7.heap.size := (Array.getElem?_eq_some_iff.1 hK7).1
    have MK : Hid (∀ D', some D = some D' → D' < (W7.alloc (.cells #[.int .i64 0] 3)).heap.size) := Lib.hid (fun D' e => by cases e; simp; omega)
    have MD : Hid (∀ D', some D = some D' → (W7.alloc (.cells #[.int .i64 0] 3)).heap[D']? = some (.deferred (some []))) := Lib.hid (fun D' e => by cases e; exact (Below.heap_alloc W7 _ D hd7).trans hK7)
    have hz2 : (W7.alloc (.cells #[.int .i64 0] 3)).heap.size = W7.heap.size + 1 := by simp
    have HN2 : Hid (W6.heap.size ≤ W7.heap.size) := Lib.hid hbA.size
    clear hr1 hbA hK7 x8 hv7 hDW
    generalize (W7.alloc (.cells #[.int .i64 0] 3)) = V2 at *
    generalize W7.heap.size = n2 at *
    have hst := stopsS 2 bt q (treeOf l) W6 V2 HV.out (bcellAt HV.out Q1.out.cell) TA.out
    rw [EA.out] at hst
    have HST := Lib.hid hst
    clear hst
    refine (wpIn_wide (n := 3)).1 ?_
    refine range_H rfl (by decide) (gf := 88) (lb := #[.pointer (some ⟨bt, 0, none⟩)]) rfl trivial (enters_of Try.func88 (by kernel_rfl) rfl)
      HST.out HV.out.size (fun _ => rfl)
      (Bt (lstOf l) W6 n2 n1 1 (some D)) (Lv (lstOf l) W6 n1 (False) (some D) 2) (bt_own (lstOf l) W6 n2 n1 1 (some D) HV.out.size MK.out) (lv_own (lstOf l) W6 n1 (False) (some D) 2 HV.out.size MK.out) ⟨List.nil_prefix, BN.out, BR.out, HV.out, MD.out⟩ ?a1y ?assigny ?bodyy ?doney ?stopy
    case assigny =>
      intro lb x W' K hK
      gi_wp2
      exact hK
    case bodyy =>
      rintro lb pre ⟨xk, xv⟩ X hlb hrec ⟨hp, hb1, hb2, hb, hd⟩ hlt
      have hA80 : (lstOf l).length ≤ 80 := NA.out
      obtain ⟨aR, cR, hvR, xR⟩ := (RA.out.below hb).at2
      simp only [Value.slice.injEq, true_and] at hvR
      obtain ⟨rfl, rfl⟩ := hvR
      obtain ⟨b1, o1, rfl, q1⟩ := xR (by omega)
      have q2 := ents_at (lstOf l) pre.length hlt
      have d1 := q1 _ _ q2.1
      have d2 := q1 _ _ q2.2
      rw [show o1 + (pre.length * 2 + 1) = o1 + pre.length * 2 + 1 by omega] at d2
      have hps := prefix_snoc (x := (xk, xv)) hp hlt
      have QQ := Lib.hid q1
      clear q1 q2 xR
      generalize hy : (lstOf l)[pre.length] = y at *
      obtain ⟨yk, yv⟩ := y
      simp only at d1 d2
      have HY := Lib.hid hy
      have HPS := Lib.hid hps
      have x6 := bcellAt hb L6.out.cell
      have x3 := bcellAt hb N6.out.cell
      have x4 := bcellAt hb A6.out.cell
      have f4 := bfrozenAt hb A6.out.cell A6.out.frozen
      have x9 := hb1.cell
      have f9 := hb1.frozen
      have x8 := hb2.cell
      have hn0 : (0 : Int) ≤ (pre.length : Int) := by omega
      have hn1 : (pre.length : Int) < ((lstOf l).length : Int) := by omega
      have HB1 := Lib.hid hb1
      have HB2 := Lib.hid hb2
      have HB := Lib.hid hb
      have HD := Lib.hid hd
      have HP := Lib.hid hp
      have HREC := Lib.hid hrec
      clear hy hps hb1 hb2 hb hd hp hrec
      by_cases hk : xk = yk
      · subst hk
        by_cases hv : xv = yv
        · subst hv
          have HPX : Hid (pre ++ [(xk, xv)] <+: lstOf l) := Lib.hid (HPS.out.2 rfl)
          have hk2 : (xk.toList == xk.toList) = true := by simp
          clear HPS
          have hmk : ∀ D', some D = some D' → (X.setCell ⟨n2, 0, none⟩ (.int .i64 ((pre.length : Int) + 1))).heap[D']? = some (.deferred (some [])) := fun D' e => (heap_setCell_other X _ _ _ (fun e' => by have h := HD.out D' e; rw [e'] at h; have h2 := HB1.out; unfold Boxed at h2; rw [h2] at h; cases h)).trans (HD.out D' e)
          have HMK := Lib.hid hmk
          clear hmk
          by_cases hs : stop = (pre.length : Int)
          · have hs2 : ((pre.length : Int) == stop) = true := by simp; exact hs.symm
            clear hs
            gi_wp2
            have e1 : ((pre.length + 1 : Nat) : Int) = (pre.length : Int) + 1 := by omega
            refine ⟨(KeepsOthers.setCell _ _ _).from _, (Below.refl _ _).setCell (p := ⟨n2, 0, none⟩) HN2.out _, HPX.out, ?_, HB2.out.other (by omega) _, HB.out.setCell (p := ⟨n2, 0, none⟩) HN2.out _, HMK.out⟩
            have := HB1.out.set (.int .i64 ((pre.length : Int) + 1))
            rw [List.length_append, List.length_singleton, e1]
            exact this
          · have hs2 : ((pre.length : Int) == stop) = false := by simp; exact fun e => hs e.symm
            clear hs
            gi_wp2
            have e1 : ((pre.length + 1 : Nat) : Int) = (pre.length : Int) + 1 := by omega
            refine ⟨(KeepsOthers.setCell _ _ _).from _, (Below.refl _ _).setCell (p := ⟨n2, 0, none⟩) HN2.out _, HPX.out, ?_, HB2.out.other (by omega) _, HB.out.setCell (p := ⟨n2, 0, none⟩) HN2.out _, HMK.out⟩
            have := HB1.out.set (.int .i64 ((pre.length : Int) + 1))
            rw [List.length_append, List.length_singleton, e1]
            exact this
        · have hv2 : (yv != xv) = true := by simp; exact fun e => hv e.symm
          have hnp : ¬ pre ++ [(xk, xv)] <+: lstOf l := fun h => hv (congrArg Prod.snd (HPS.out.1 h))
          have HNP := Lib.hid hnp
          have hk2 : (xk.toList == xk.toList) = true := by simp
          clear hnp hv
          gi_wp2
          exact ⟨(KeepsOthers.setCell _ _ _).from _, .inl ⟨rfl, HNP.out⟩⟩
      · have hk2 := ne_bytes (fun e => hk e.symm : yk ≠ xk)
        have hnp : ¬ pre ++ [(xk, xv)] <+: lstOf l := fun h => hk (congrArg Prod.fst (HPS.out.1 h))
        have HNP := Lib.hid hnp
        clear hnp hk
        gi_wp2
        exact ⟨(KeepsOthers.setCell _ _ _).from _, .inl ⟨rfl, HNP.out⟩⟩
    case doney =>
      rintro D2 ys2 W8 hD2 rfl ⟨hp, hb1, hb2, hb, hmk⟩ hK2
      have x6 := bcellAt hb L6.out.cell
      have x9 := hb1.cell
      have x8 := hb2.cell
      have hK1 := hmk D rfl
      have HB8 := Lib.hid hb
      have H1 := Lib.hid hK1
      have H2 := Lib.hid hK2
      have HDD := Lib.hid hD2
      clear hp hb1 hb2 hb hmk hK1 hK2 BN BR HV MK MD HST
      go_wp2_with fail
      have hr2 : Boxed (W8.alloc (.cells #[.int .i64 2] 3)) W8.heap.size 3 (.int .i64 2) := Boxed.new _ _ _
      have l1 : D < W8.heap.size := (Array.getElem?_eq_some_iff.1 H1.out).1
      have l2 : D2 < W8.heap.size := (Array.getElem?_eq_some_iff.1 H2.out).1
      have H1f := Lib.hid ((Below.heap_alloc W8 (.cells #[.int .i64 2] 3) D l1).trans H1.out)
      have H2f := Lib.hid ((Below.heap_alloc W8 (.cells #[.int .i64 2] 3) D2 l2).trans H2.out)
      have HBf := Lib.hid (HB8.out.alloc HB8.out.size (.cells #[.int .i64 2] 3))
      have x8 := hr2.cell
      clear hr2 x6 x9 H1 H2 HB8 l1 l2
      generalize (W8.alloc (.cells #[.int .i64 2] 3)) = Wf at *
      generalize W8.heap.size = n8 at *
      rw [rounds_succ]
      go_wp2_with fail
      refine (live_any _).mono ?_
      rintro e wL ⟨rfl, hbL⟩
      have HBL := Lib.hid (HBf.out.trans (hbL.mono HBf.out.size))
      have HAL := Lib.hid (show Boxed wL (w.heap.size + 1) 4 (.bool false) from (HBL.out.block _ (Array.getElem?_eq_some_iff.1 A6.out).1).trans A6.out)
      have xL := HAL.out.cell
      have fL := HAL.out.frozen
      have H1L := Lib.hid ((hbL.block D (Array.getElem?_eq_some_iff.1 H1f.out).1).trans H1f.out)
      have H2L := Lib.hid ((hbL.block D2 (Array.getElem?_eq_some_iff.1 H2f.out).1).trans H2f.out)
      clear hbL x8
      go_wp2_with fail
      have hne1 : D ≠ w.heap.size + 1 := fun e => by have h := H1L.out; rw [e, HAL.out] at h; cases h
      have hne2 : D2 ≠ w.heap.size + 1 := fun e => by have h := H2L.out; rw [e, HAL.out] at h; cases h
      have hDD : D ≠ D2 := by have := HDD.out; omega
      have hK2 : (wL.setCell ⟨w.heap.size + 1, 0, none⟩ (.bool true)).heap[D2]? = some (.deferred (some [])) := (Below.heap_setCell _ _ _ _ hne2).trans H2L.out
      have hK1 : (wL.setCell ⟨w.heap.size + 1, 0, none⟩ (.bool true)).heap[D]? = some (.deferred (some [])) := (Below.heap_setCell _ _ _ _ hne1).trans H1L.out
      have hK1' : ((wL.setCell ⟨w.heap.size + 1, 0, none⟩ (.bool true)).putObj D2 (.deferred none)).heap[D]? = some (.deferred (some [])) := ((grownBy_putObj' _ D2 (.deferred none)).block D ((Array.getElem?_eq_some_iff.1 hK1).1) (fun e => hDD (Option.some.inj e))).trans hK1
      refine ⟨by simp, .inl ⟨_, _, rfl, run_takeDeferred hK2, ?_⟩⟩
      refine ⟨by simp, .inl ⟨_, _, rfl, run_takeDeferred hK1', ?_⟩⟩
      have hc := (HAL.out.set (.bool true)).cell
      have hc1 := cell_kept hc (grownBy_putObj' _ D2 (.deferred none)) (fun r e => by cases e; exact ⟨_, hK2, rfl⟩)
      have hc2 := cell_kept hc1 (grownBy_putObj' _ D (.deferred none)) (fun r e => by cases e; exact ⟨_, hK1', rfl⟩)
      refine ⟨.bool true, ?_, rfl, ?_⟩
      · simp [results, Try.f4, go_sem, hc2]
      · have hbB := B6.out.trans (HBL.out.mono B6.out.size)
        have hbS := hbB.setCell (p := ⟨w.heap.size + 1, 0, none⟩) (by simp) (.bool true)
        have hDw : w.heap.size ≤ D := by have := B6.out.size; omega
        have hD2w : w.heap.size ≤ D2 := by have := B6.out.size; have := HDD.out; have := HN2.out; omega
        have hbT := hbS.grown (grownBy_putObj' _ D2 (.deferred none)) hbS.size (fun k e => by cases e; exact hD2w)
        exact hbT.grown (grownBy_putObj' _ D (.deferred none)) hbT.size (fun k e => by cases e; exact hDw)
    case stopy =>
      rintro D2 c ys2 W8 hD2 hS2 (⟨rfl, hno⟩ | ⟨hf, _⟩) hK2
      · exact absurd hS2 hno
      · exact hf.elim
  case stopx =>
    rintro D c ys W' hD hS (⟨rfl, hno⟩ | ⟨_, rfl, hb2, hb, _⟩) hK
    · exact absurd hS hno
    · gi_wp2
      have x7 := bcellAt hb c7
      have x8 := hb2.cell
      have HKD := Lib.hid hK
      have HBW := Lib.hid hb
      have HR0 := Lib.hid hb2
      have hDlo : W6.heap.size ≤ D := Nat.le_trans HV.out.size hD
      clear hK hb hb2 hD hS
      go_wp2_with fail
      have hr1 : Boxed (W'.alloc (.cells #[.int .i64 1] 3)) W'.heap.size 3 (.int .i64 1) := Boxed.new _ _ _
      have hbA : Below W6.heap.size W6 (W'.alloc (.cells #[.int .i64 1] 3)) := HBW.out.alloc HBW.out.size _
      have hDW : D < W'.heap.size := (Array.getElem?_eq_some_iff.1 HKD.out).1
      have hK7 : (W'.alloc (.cells #[.int .i64 1] 3)).heap[D]? = some (.deferred (some [])) := (Below.heap_alloc W' _ D hDW).trans HKD.out
      have hn1 : W6.heap.size ≤ W'.heap.size := HBW.out.size
      clear HKD HBW HR0 x7 x8 BN BR HV MK MD HST
      generalize (W'.alloc (.cells #[.int .i64 1] 3)) = W7 at *
      generalize W'.heap.size = n1 at *
      rw [rounds_succ]
      have x8 := hr1.cell
      have hv7 : (W7.alloc (.cells #[.int .i64 0] 3)).cell? ⟨bt + 1, 0, none⟩ = some (.func (.func 88) #[] #[.pointer (some ⟨bt, 0, none⟩)]) := bcellAt (hbA.alloc hbA.size _) c7
      go_wp2_with fail
      have BN : Hid (Boxed (W7.alloc (.cells #[.int .i64 0] 3)) W7.heap.size 3 (.int .i64 0)) := Lib.hid (Boxed.new _ _ _)
      have BR : Hid (Boxed (W7.alloc (.cells #[.int .i64 0] 3)) n1 3 (.int .i64 1)) := Lib.hid (hr1.alloc _)
      have HV : Hid (Below W6.heap.size W6 (W7.alloc (.cells #[.int .i64 0] 3))) := Lib.hid (hbA.alloc hbA.size _)
      have h12 : n1 < W7.heap.size := hr1.lt
      have hd7 : D < W7.heap.size := (Array.getElem?_eq_some_iff.1 hK7).1
      have MK : Hid (∀ D', some D = some D' → D' < (W7.alloc (.cells #[.int .i64 0] 3)).heap.size) := Lib.hid (fun D' e => by cases e; simp; omega)
      have MD : Hid (∀ D', some D = some D' → (W7.alloc (.cells #[.int .i64 0] 3)).heap[D']? = some (.deferred (some []))) := Lib.hid (fun D' e => by cases e; exact (Below.heap_alloc W7 _ D hd7).trans hK7)
      have hz2 : (W7.alloc (.cells #[.int .i64 0] 3)).heap.size = W7.heap.size + 1 := by simp
      have HN2 : Hid (W6.heap.size ≤ W7.heap.size) := Lib.hid hbA.size
      clear hr1 hbA hK7 x8 hv7 hDW
      generalize (W7.alloc (.cells #[.int .i64 0] 3)) = V2 at *
      generalize W7.heap.size = n2 at *
      have hst := stopsS 2 bt q (treeOf l) W6 V2 HV.out (bcellAt HV.out Q1.out.cell) TA.out
      rw [EA.out] at hst
      have HST := Lib.hid hst
      clear hst
      refine (wpIn_wide (n := 3)).1 ?_
      refine range_H rfl (by decide) (gf := 88) (lb := #[.pointer (some ⟨bt, 0, none⟩)]) rfl trivial (enters_of Try.func88 (by kernel_rfl) rfl)
        HST.out HV.out.size (fun _ => rfl)
        (Bt (lstOf l) W6 n2 n1 1 (some D)) (Lv (lstOf l) W6 n1 (False) (some D) 2) (bt_own (lstOf l) W6 n2 n1 1 (some D) HV.out.size MK.out) (lv_own (lstOf l) W6 n1 (False) (some D) 2 HV.out.size MK.out) ⟨List.nil_prefix, BN.out, BR.out, HV.out, MD.out⟩ ?a1z ?assignz ?bodyz ?donez ?stopz
      case assignz =>
        intro lb x W' K hK
        gi_wp2
        exact hK
      case bodyz =>
        rintro lb pre ⟨xk, xv⟩ X hlb hrec ⟨hp, hb1, hb2, hb, hd⟩ hlt
        have hA80 : (lstOf l).length ≤ 80 := NA.out
        obtain ⟨aR, cR, hvR, xR⟩ := (RA.out.below hb).at2
        simp only [Value.slice.injEq, true_and] at hvR
        obtain ⟨rfl, rfl⟩ := hvR
        obtain ⟨b1, o1, rfl, q1⟩ := xR (by omega)
        have q2 := ents_at (lstOf l) pre.length hlt
        have d1 := q1 _ _ q2.1
        have d2 := q1 _ _ q2.2
        rw [show o1 + (pre.length * 2 + 1) = o1 + pre.length * 2 + 1 by omega] at d2
        have hps := prefix_snoc (x := (xk, xv)) hp hlt
        have QQ := Lib.hid q1
        clear q1 q2 xR
        generalize hy : (lstOf l)[pre.length] = y at *
        obtain ⟨yk, yv⟩ := y
        simp only at d1 d2
        have HY := Lib.hid hy
        have HPS := Lib.hid hps
        have x6 := bcellAt hb L6.out.cell
        have x3 := bcellAt hb N6.out.cell
        have x4 := bcellAt hb A6.out.cell
        have f4 := bfrozenAt hb A6.out.cell A6.out.frozen
        have x9 := hb1.cell
        have f9 := hb1.frozen
        have x8 := hb2.cell
        have hn0 : (0 : Int) ≤ (pre.length : Int) := by omega
        have hn1 : (pre.length : Int) < ((lstOf l).length : Int) := by omega
        have HB1 := Lib.hid hb1
        have HB2 := Lib.hid hb2
        have HB := Lib.hid hb
        have HD := Lib.hid hd
        have HP := Lib.hid hp
        have HREC := Lib.hid hrec
        clear hy hps hb1 hb2 hb hd hp hrec
        by_cases hk : xk = yk
        · subst hk
          by_cases hv : xv = yv
          · subst hv
            have HPX : Hid (pre ++ [(xk, xv)] <+: lstOf l) := Lib.hid (HPS.out.2 rfl)
            have hk2 : (xk.toList == xk.toList) = true := by simp
            clear HPS
            have hmk : ∀ D', some D = some D' → (X.setCell ⟨n2, 0, none⟩ (.int .i64 ((pre.length : Int) + 1))).heap[D']? = some (.deferred (some [])) := fun D' e => (heap_setCell_other X _ _ _ (fun e' => by have h := HD.out D' e; rw [e'] at h; have h2 := HB1.out; unfold Boxed at h2; rw [h2] at h; cases h)).trans (HD.out D' e)
            have HMK := Lib.hid hmk
            clear hmk
            by_cases hs : stop = (pre.length : Int)
            · have hs2 : ((pre.length : Int) == stop) = true := by simp; exact hs.symm
              clear hs
              gi_wp2
              have e1 : ((pre.length + 1 : Nat) : Int) = (pre.length : Int) + 1 := by omega
              refine ⟨(KeepsOthers.setCell _ _ _).from _, (Below.refl _ _).setCell (p := ⟨n2, 0, none⟩) HN2.out _, HPX.out, ?_, HB2.out.other (by omega) _, HB.out.setCell (p := ⟨n2, 0, none⟩) HN2.out _, HMK.out⟩
              have := HB1.out.set (.int .i64 ((pre.length : Int) + 1))
              rw [List.length_append, List.length_singleton, e1]
              exact this
            · have hs2 : ((pre.length : Int) == stop) = false := by simp; exact fun e => hs e.symm
              clear hs
              gi_wp2
              have e1 : ((pre.length + 1 : Nat) : Int) = (pre.length : Int) + 1 := by omega
              refine ⟨(KeepsOthers.setCell _ _ _).from _, (Below.refl _ _).setCell (p := ⟨n2, 0, none⟩) HN2.out _, HPX.out, ?_, HB2.out.other (by omega) _, HB.out.setCell (p := ⟨n2, 0, none⟩) HN2.out _, HMK.out⟩
              have := HB1.out.set (.int .i64 ((pre.length : Int) + 1))
              rw [List.length_append, List.length_singleton, e1]
              exact this
          · have hv2 : (yv != xv) = true := by simp; exact fun e => hv e.symm
            have hnp : ¬ pre ++ [(xk, xv)] <+: lstOf l := fun h => hv (congrArg Prod.snd (HPS.out.1 h))
            have HNP := Lib.hid hnp
            have hk2 : (xk.toList == xk.toList) = true := by simp
            clear hnp hv
            gi_wp2
            exact ⟨(KeepsOthers.setCell _ _ _).from _, .inl ⟨rfl, HNP.out⟩⟩
        · have hk2 := ne_bytes (fun e => hk e.symm : yk ≠ xk)
          have hnp : ¬ pre ++ [(xk, xv)] <+: lstOf l := fun h => hk (congrArg Prod.fst (HPS.out.1 h))
          have HNP := Lib.hid hnp
          clear hnp hk
          gi_wp2
          exact ⟨(KeepsOthers.setCell _ _ _).from _, .inl ⟨rfl, HNP.out⟩⟩
      case donez =>
        rintro D2 ys2 W8 hD2 rfl ⟨hp, hb1, hb2, hb, hmk⟩ hK2
        have x6 := bcellAt hb L6.out.cell
        have x9 := hb1.cell
        have x8 := hb2.cell
        have hK1 := hmk D rfl
        have HB8 := Lib.hid hb
        have H1 := Lib.hid hK1
        have H2 := Lib.hid hK2
        have HDD := Lib.hid hD2
        clear hp hb1 hb2 hb hmk hK1 hK2 BN BR HV MK MD HST
        go_wp2_with fail
        have hr2 : Boxed (W8.alloc (.cells #[.int .i64 2] 3)) W8.heap.size 3 (.int .i64 2) := Boxed.new _ _ _
        have l1 : D < W8.heap.size := (Array.getElem?_eq_some_iff.1 H1.out).1
        have l2 : D2 < W8.heap.size := (Array.getElem?_eq_some_iff.1 H2.out).1
        have H1f := Lib.hid ((Below.heap_alloc W8 (.cells #[.int .i64 2] 3) D l1).trans H1.out)
        have H2f := Lib.hid ((Below.heap_alloc W8 (.cells #[.int .i64 2] 3) D2 l2).trans H2.out)
        have HBf := Lib.hid (HB8.out.alloc HB8.out.size (.cells #[.int .i64 2] 3))
        have x8 := hr2.cell
        clear hr2 x6 x9 H1 H2 HB8 l1 l2
        generalize (W8.alloc (.cells #[.int .i64 2] 3)) = Wf at *
        generalize W8.heap.size = n8 at *
        rw [rounds_succ]
        go_wp2_with fail
        refine (live_any _).mono ?_
        rintro e wL ⟨rfl, hbL⟩
        have HBL := Lib.hid (HBf.out.trans (hbL.mono HBf.out.size))
        have HAL := Lib.hid (show Boxed wL (w.heap.size + 1) 4 (.bool false) from (HBL.out.block _ (Array.getElem?_eq_some_iff.1 A6.out).1).trans A6.out)
        have xL := HAL.out.cell
        have fL := HAL.out.frozen
        have H1L := Lib.hid ((hbL.block D (Array.getElem?_eq_some_iff.1 H1f.out).1).trans H1f.out)
        have H2L := Lib.hid ((hbL.block D2 (Array.getElem?_eq_some_iff.1 H2f.out).1).trans H2f.out)
        clear hbL x8
        go_wp2_with fail
        have hne1 : D ≠ w.heap.size + 1 := fun e => by have h := H1L.out; rw [e, HAL.out] at h; cases h
        have hne2 : D2 ≠ w.heap.size + 1 := fun e => by have h := H2L.out; rw [e, HAL.out] at h; cases h
        have hDD : D ≠ D2 := by have := HDD.out; omega
        have hK2 : (wL.setCell ⟨w.heap.size + 1, 0, none⟩ (.bool true)).heap[D2]? = some (.deferred (some [])) := (Below.heap_setCell _ _ _ _ hne2).trans H2L.out
        have hK1 : (wL.setCell ⟨w.heap.size + 1, 0, none⟩ (.bool true)).heap[D]? = some (.deferred (some [])) := (Below.heap_setCell _ _ _ _ hne1).trans H1L.out
        have hK1' : ((wL.setCell ⟨w.heap.size + 1, 0, none⟩ (.bool true)).putObj D2 (.deferred none)).heap[D]? = some (.deferred (some [])) := ((grownBy_putObj' _ D2 (.deferred none)).block D ((Array.getElem?_eq_some_iff.1 hK1).1) (fun e => hDD (Option.some.inj e))).trans hK1
        refine ⟨by simp, .inl ⟨_, _, rfl, run_takeDeferred hK2, ?_⟩⟩
        refine ⟨by simp, .inl ⟨_, _, rfl, run_takeDeferred hK1', ?_⟩⟩
        have hc := (HAL.out.set (.bool true)).cell
        have hc1 := cell_kept hc (grownBy_putObj' _ D2 (.deferred none)) (fun r e => by cases e; exact ⟨_, hK2, rfl⟩)
        have hc2 := cell_kept hc1 (grownBy_putObj' _ D (.deferred none)) (fun r e => by cases e; exact ⟨_, hK1', rfl⟩)
        refine ⟨.bool true, ?_, rfl, ?_⟩
        · simp [results, Try.f4, go_sem, hc2]
        · have hbB := B6.out.trans (HBL.out.mono B6.out.size)
          have hbS := hbB.setCell (p := ⟨w.heap.size + 1, 0, none⟩) (by simp) (.bool true)
          have hDw : w.heap.size ≤ D := by have := B6.out.size; omega
          have hD2w : w.heap.size ≤ D2 := by have := B6.out.size; have := HDD.out; have := HN2.out; omega
          have hbT := hbS.grown (grownBy_putObj' _ D2 (.deferred none)) hbS.size (fun k e => by cases e; exact hD2w)
          exact hbT.grown (grownBy_putObj' _ D (.deferred none)) hbT.size (fun k e => by cases e; exact hDw)
      case stopz =>
        rintro D2 c ys2 W8 hD2 hS2 (⟨rfl, hno⟩ | ⟨hf, _⟩) hK2
        · exact absurd hS2 hno
        · exact hf.elim
end Go.Proofs.Ytkobiimkaimbaaa
