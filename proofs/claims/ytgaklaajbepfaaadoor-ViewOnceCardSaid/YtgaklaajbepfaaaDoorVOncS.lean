/-
  Plain: looking alike is an equivalence, holds of beginnings, and asks for one view; to the notary it is equality.
  A statement that leaves its order open, whose last operation turns what its reads have read: the operations in an order that is named; F holds up to the operation p.
  Trees in a row of the call's own: what is appended one behind the other.
  make of one, or two, trees.
  Trees in new memory; what a term's tree is.
  Plain: trees whose nodes are turned, one by one.
  The document's own View of a tree.
  The document's own Tree.
  The document's own Same: are two trees the same?
  Plain: what was made of a term by swapping promises looks as the term did.
  Plain: a view's view is the view; terms with one view have trees with one view; a term and its view look alike where no two of its subterms have one view.
  The law's own walk: ViewOnce.
  The statement ViewOnce, as a tied card. No condition.
-/
import Derived.Test.YtgaklaajbepfaaaDoorVAlike
import Derived.Test.YtgaklaajbepfaaaDoorVRelA
import Derived.Test.YtgaklaajbepfaaaDoorTChain
import Derived.Test.YtgaklaajbepfaaaDoorTParts
import Derived.Test.YtgaklaajbepfaaaDoorTApp
import Derived.Test.YtgaklaajbepfaaaDoorTFor
import Derived.Test.YtgaklaajbepfaaaDoorTKit
import Derived.Test.YtgaklaajbepfaaaDoorTGrow
import Derived.Deep.DeepCutAuto
import Derived.Test.YtgaklaajbepfaaaDoorTROf
import Derived.Test.YtgaklaajbepfaaaDoorTRefP
import Derived.Test.YtgaklaajbepfaaaDoorVProm
import Derived.Test.YtgaklaajbepfaaaDoorVLarge
import Derived.Test.YtgaklaajbepfaaaDoorVLiveW
import Derived.Test.YtgaklaajbepfaaaDoorTLaidL
import Derived.Test.YtgaklaajbepfaaaDoorCards
import Derived.Test.YtgaklaajbepfaaaDoorTie
import Derived.JoinedOf
import Derived.ChangeMaps5
import Derived.SevenTiedAt
namespace Go.Proofs.YtgaklaajbepfaaaDoor
open Go.RowKit Go.Maps Go.Shelf
set_option linter.unusedVariables false

/-- Nodes of a pool are each there once. -/
theorem Ok.at_inj {p : Pl} (h : Ok p) : ∀ {x y : Int}, inP p x = true → inP p y = true → (atP p x).1 = (atP p y).1 → x = y := by
  induction h with
  | nil => intro x y hx; simp [inP] at hx; omega
  | @add p n hp he hn hl ih =>
    intro x y hx hy hxy
    have hnew : ∀ t : Int, inP (addP p n) t = true → ¬ inP p t = true → t = (p.length : Int) + 1 := fun t h1 h2 => by
      unfold inP at h1 h2
      unfold addP at h1
      simp at h1 h2
      omega
    have hat : ∀ t : Int, inP (addP p n) t = true → ¬ inP p t = true → (atP (addP p n) t).1 = n := fun t h1 h2 => by
      have := hnew t h1 h2
      unfold atP
      rw [if_pos h1, this, addP]
      simp [List.getD]
    have hold : ∀ t : Int, inP p t = true → (atP (addP p n) t).1 ≠ n := fun t h1 => by
      rw [addP, atP_append h1]
      obtain ⟨i, hi, _, e⟩ := atP_get h1
      rw [e]
      exact numP_zero.1 hn _ (List.getElem_mem hi)
    by_cases h1 : inP p x = true
    · by_cases h2 : inP p y = true
      · rw [addP, atP_append h1, atP_append h2] at hxy
        exact ih h1 h2 hxy
      · rw [hat y hy h2] at hxy; exact absurd hxy (hold x h1)
    · by_cases h2 : inP p y = true
      · rw [hat x hx h1] at hxy; exact absurd hxy.symm (hold y h2)
      · rw [hnew x hx h1, hnew y hy h2]
/-- What an observer sees of a node itself. -/
def seeN (who : Int) (n : Nd) : Nd := kdN (seeK who n) (abN n 0 0)
theorem seeK_of (who k f t u : Int) (s : ByteArray) (a b : Int) : seeK who ⟨k, f, t, u, s, a, b⟩ = if (twoK k && !tellK who f t) = true then 8 else k := by
  unfold seeK veilB tellB likeB tellK twoK
  show (if ((k == 8 || k == 9) && !((k == 8 || k == 9) && (who == f || (who == t || who == 2)))) = true then (8 : Int) else k) = _
  cases (k == 8 || k == 9) <;> cases (who == f || (who == t || who == 2)) <;> rfl
theorem sameB_see {who : Int} {x y : Nd} : sameB who x y = true ↔ seeN who x = seeN who y := by
  obtain ⟨k, f, t, u, s, a, b⟩ := x
  obtain ⟨k2, f2, t2, u2, s2, a2, b2⟩ := y
  unfold seeN kdN abN
  rw [seeK_of, seeK_of]
  unfold sameB sameN
  rw [decide_eq_true_eq]
  simp only [Nd.mk.injEq, and_true]
  constructor
  · rintro ⟨h1, rfl, rfl, rfl, rfl⟩
    refine ⟨?_, rfl, rfl, rfl, rfl⟩
    unfold veilB tellB likeB at h1
    simp only at h1
    unfold twoK tellK
    cases h3 : (who == f || (who == t || who == 2)) <;> cases h4 : (k == 8 || k == 9) <;> cases h5 : (k2 == 8 || k2 == 9) <;> rw [h3, h4, h5] at h1 <;> simp at h1 ⊢ <;> (try (subst h1)) <;> simp_all
  · rintro ⟨h1, rfl, rfl, rfl, rfl⟩
    refine ⟨?_, rfl, rfl, rfl, rfl⟩
    unfold veilB tellB likeB
    simp only
    unfold twoK tellK at h1
    cases h3 : (who == f || (who == t || who == 2)) <;> cases h4 : (k == 8 || k == 9) <;> cases h5 : (k2 == 8 || k2 == 9) <;> rw [h3, h4, h5] at h1 <;> simp at h1 ⊢ <;> (try (subst h1)) <;> simp_all
theorem sameB_refl (who : Int) (x : Nd) : sameB who x x = true := sameB_see.2 rfl
theorem sameB_symm {who : Int} {x y : Nd} (h : sameB who x y = true) : sameB who y x = true := sameB_see.2 (sameB_see.1 h).symm
theorem sameB_trans {who : Int} {x y z : Nd} (h : sameB who x y = true) (k : sameB who y z = true) : sameB who x z = true := sameB_see.2 ((sameB_see.1 h).trans (sameB_see.1 k))
theorem Bij.refl {p : Pl} (hp : Ok p) (who : Int) : Bij p who (fun x y => x = y ∧ (x = 0 ∨ inP p x = true)) := by
  refine ⟨fun a b b' h k => h.1.symm.trans k.1, fun a a' b h k => h.1.trans k.1.symm, ⟨rfl, .inl rfl⟩, ?_⟩
  rintro a b ⟨rfl, h⟩
  rcases h with h | h
  · exact .inl ⟨h, h⟩
  · obtain ⟨ka, kb⟩ := kid_less hp h
    exact .inr ⟨h, h, sameB_refl _ _, ⟨rfl, ka.imp id (·.1)⟩, ⟨rfl, kb.imp id (·.1)⟩⟩
theorem Bij.symm {p : Pl} {who : Int} {R : Int → Int → Prop} (h : Bij p who R) : Bij p who (fun x y => R y x) :=
  ⟨fun a b b' h1 h2 => h.inj _ _ _ h1 h2, fun a a' b h1 h2 => h.fn _ _ _ h1 h2, h.zero, fun a b hab => (h.step b a hab).imp (fun e => ⟨e.2, e.1⟩) fun ⟨h1, h2, h3, h4, h5⟩ => ⟨h2, h1, sameB_symm h3, h4, h5⟩⟩
theorem Bij.trans {p : Pl} {who : Int} {R S : Int → Int → Prop} (h : Bij p who R) (k : Bij p who S) : Bij p who (fun x z => ∃ y, R x y ∧ S y z) := by
  refine ⟨?_, ?_, ⟨0, h.zero, k.zero⟩, ?_⟩
  · rintro a b b' ⟨y, h1, h2⟩ ⟨y', h3, h4⟩
    obtain rfl := h.fn _ _ _ h1 h3
    exact k.fn _ _ _ h2 h4
  · rintro a a' b ⟨y, h1, h2⟩ ⟨y', h3, h4⟩
    obtain rfl := k.inj _ _ _ h2 h4
    exact h.inj _ _ _ h1 h3
  · rintro a c ⟨y, h1, h2⟩
    rcases h.step _ _ h1 with ⟨rfl, rfl⟩ | ⟨a1, a2, a3, a4, a5⟩
    · exact .inl ⟨rfl, (k.fn _ _ _ k.zero h2).symm⟩
    · rcases k.step _ _ h2 with ⟨rfl, _⟩ | ⟨b1, b2, b3, b4, b5⟩
      · rw [inP_zero] at a2; cases a2
      · exact .inr ⟨a1, b2, sameB_trans a3 b3, ⟨_, a4, b4⟩, ⟨_, a5, b5⟩⟩
theorem Bij.more {p : Pl} {who : Int} {R : Int → Int → Prop} (h : Bij p who R) (e : Pl) : Bij (p ++ e) who R :=
  ⟨h.fn, h.inj, h.zero, fun a b hab => (h.step a b hab).imp id fun ⟨h1, h2, h3, h4, h5⟩ => ⟨inP_le h1 (by simp), inP_le h2 (by simp), by rw [atP_append h1, atP_append h2]; exact h3, by rw [atP_append h1, atP_append h2]; exact h4, by rw [atP_append h1, atP_append h2]; exact h5⟩⟩
theorem AlikeP.refl_iff {p : Pl} (hp : Ok p) {who : Int} {l : List Int} : AlikeP p who l l ↔ nameB who = true ∧ ∀ x ∈ l, inP p x = true :=
  ⟨fun h => ⟨h.1, h.2.1⟩, fun h => ⟨h.1, h.2, h.2, rfl, _, Bij.refl hp who, fun i h1 h2 => ⟨rfl, .inr (h.2 _ (List.getElem_mem h1))⟩⟩⟩
theorem AlikeP.symm {p : Pl} {who : Int} {l m : List Int} (h : AlikeP p who l m) : AlikeP p who m l := by
  obtain ⟨h1, h2, h3, h4, R, h5, h6⟩ := h
  exact ⟨h1, h3, h2, h4.symm, _, h5.symm, fun i a b => h6 i b a⟩
theorem AlikeP.comm {p : Pl} {who : Int} {l m : List Int} : AlikeP p who l m ↔ AlikeP p who m l := ⟨AlikeP.symm, AlikeP.symm⟩
theorem AlikeP.trans {p : Pl} {who : Int} {l m n : List Int} (h : AlikeP p who l m) (k : AlikeP p who m n) : AlikeP p who l n := by
  obtain ⟨h1, h2, h3, h4, R, h5, h6⟩ := h
  obtain ⟨k1, k2, k3, k4, S, k5, k6⟩ := k
  exact ⟨h1, h2, k3, h4.trans k4, _, h5.trans k5, fun i a b => ⟨m[i]'(by omega), h6 i a (by omega), k6 i (by omega) b⟩⟩
theorem AlikeP.take {p : Pl} {who : Int} {l m : List Int} (h : AlikeP p who l m) (i : Nat) : AlikeP p who (l.take i) (m.take i) := by
  obtain ⟨h1, h2, h3, h4, R, h5, h6⟩ := h
  refine ⟨h1, fun x hx => h2 x (List.mem_of_mem_take hx), fun x hx => h3 x (List.mem_of_mem_take hx), by simp [h4], R, h5, fun j a b => ?_⟩
  rw [List.getElem_take, List.getElem_take]
  exact h6 j _ _
theorem AlikeP.more {p : Pl} {who : Int} {l m : List Int} (h : AlikeP p who l m) (e : Pl) : AlikeP (p ++ e) who l m := by
  obtain ⟨h1, h2, h3, h4, R, h5, h6⟩ := h
  exact ⟨h1, fun x hx => inP_le (h2 x hx) (by simp), fun x hx => inP_le (h3 x hx) (by simp), h4, R, h5.more e, h6⟩
theorem seeK_two (n : Nd) : seeK 2 n = n.kind := by
  unfold seeK
  rw [if_neg]
  unfold veilB tellB
  cases likeB n <;> simp
/-- The notary tells all. -/
theorem Bij.notary {p : Pl} (hp : Ok p) {R : Int → Int → Prop} (h : Bij p 2 R) : ∀ (k : Nat) (x y : Int), x.toNat < k → R x y → x = y
  | 0, _, _, h, _ => absurd h (Nat.not_lt_zero _)
  | k + 1, x, y, hk, hxy => by
    rcases h.step x y hxy with ⟨rfl, rfl⟩ | ⟨h1, h2, h3, h4, h5⟩
    · rfl
    · obtain ⟨ka, kb⟩ := kid_less hp h1
      have hx1 : 1 ≤ x := by unfold inP at h1; simp at h1; omega
      have ea : (atP p x).1.a = (atP p y).1.a := h.notary hp k _ _ (by rcases ka with e | e <;> omega) h4
      have eb : (atP p x).1.b = (atP p y).1.b := h.notary hp k _ _ (by rcases kb with e | e <;> omega) h5
      have e := sameB_see.1 h3
      refine hp.at_inj h1 h2 ?_
      revert e ea eb
      generalize (atP p x).1 = n
      generalize (atP p y).1 = n2
      obtain ⟨k, f, t, u, s, a, b⟩ := n
      obtain ⟨k2, f2, t2, u2, s2, a2, b2⟩ := n2
      unfold seeN kdN abN
      rw [seeK_two, seeK_two]
      simp only [Nd.mk.injEq]
      rintro rfl rfl ⟨rfl, rfl, rfl, rfl, rfl, _, _⟩
      exact ⟨rfl, rfl, rfl, rfl, rfl, rfl, rfl⟩
theorem AlikeP.notary {p : Pl} (hp : Ok p) {l m : List Int} : AlikeP p 2 l m ↔ (∀ x ∈ l, inP p x = true) ∧ l = m := by
  constructor
  · rintro ⟨h1, h2, h3, h4, R, h5, h6⟩
    exact ⟨h2, List.ext_getElem h4 fun i a b => h5.notary hp _ _ _ (Nat.lt_succ_self _) (h6 i a b)⟩
  · rintro ⟨h1, rfl⟩
    exact (AlikeP.refl_iff hp).2 ⟨by decide, h1⟩
/-- Terms that correspond have one view. -/
theorem Bij.view {q p1 p2 : Pl} {who : Int} {T1 T2 : Int} {m1 m2 : Int → Option Int} (hq : Ok q) {R : Int → Int → Prop} (h : Bij q who R) (h1 : Anew (seeK who) q T1 p1 m1) (h2 : Anew (seeK who) p1 T2 p2 m2) : ∀ (k : Nat) (x y u v : Int), x.toNat < k → R x y → m1 x = some u → m2 y = some v → u = v
  | 0, _, _, _, _, h, _, _, _ => absurd h (Nat.not_lt_zero _)
  | k + 1, x, y, u, v, hk, hxy, hu, hv => by
    rcases h1.at_ _ _ hu with ⟨rfl, rfl⟩ | ⟨a1, a2, a3, ⟨xa, xb, a4, a5, a6⟩, _⟩
    · obtain rfl := h.fn _ _ _ h.zero hxy
      rw [h2.zero] at hv; exact Option.some.inj hv
    · rcases h.step x y hxy with ⟨rfl, _⟩ | ⟨b1, b2, b3, b4, b5⟩
      · rw [inP_zero] at a1; cases a1
      · obtain ⟨e1, rfl⟩ := h1.ext
        obtain ⟨e2, rfl⟩ := h2.ext
        rcases h2.at_ _ _ hv with ⟨rfl, _⟩ | ⟨c1, c2, c3, ⟨ya, yb, c4, c5, c6⟩, _⟩
        · rw [inP_zero] at b2; cases b2
        · rw [atP_append b2] at c4 c5 c6
          obtain ⟨ka, kb⟩ := kid_less hq a1
          have hx1 : 1 ≤ x := by unfold inP at a1; simp at a1; omega
          have ea : xa = ya := h.view hq h1 h2 k _ _ _ _ (by rcases ka with e | e <;> omega) b4 a4 c4
          have eb : xb = yb := h.view hq h1 h2 k _ _ _ _ (by rcases kb with e | e <;> omega) b5 a5 c5
          refine h2.ok.at_inj (inP_le a3 (by simp)) c3 ?_
          rw [atP_append a3, a6, c6, ea, eb]
          have e := sameB_see.1 b3
          revert e
          generalize (atP q x).1 = n
          generalize (atP q y).1 = n2
          unfold seeN kdN abN
          simp only [Nd.mk.injEq]
          rintro ⟨h1, h2, h3, h4, h5, _, _⟩
          have hs : ∀ (n : Nd) (a b : Int), seeK who n = seeK who ⟨n.kind, n.frm, n.to, n.num, n.text, a, b⟩ := fun n a b => by obtain ⟨k, f, t, u, s, a', b'⟩ := n; rw [seeK_of, seeK_of]
          exact ⟨h1, h2, h3, h4, h5, trivial, trivial⟩
end Go.Proofs.YtgaklaajbepfaaaDoor
namespace Go.Proofs.YtgaklaajbepfaaaDoor
open Go.RowKit
set_option linter.unusedVariables false

section
variable {P : Program} {ops : Array Oper} {Q : Exit → Act → World → Prop} {md : Region.Mode} {F : World → Prop} {p : Nat}

def wpAnyG (P : Program) (md : Region.Mode) (ops : Array Oper) (Q : Exit → Act → World → Prop) (F : World → Prop) (p : Nat) : Nat → Array Bool → Act → World → Prop
  | 0, listed, a, w => Region.ready md ops listed = [] ∧ Q .normal a w
  | fuel + 1, listed, a, w =>
    (Region.ready md ops listed = [] → Q .normal a w) ∧
    ∀ i ∈ Region.ready md ops listed, wpOp P ops Q i (fun a' w' => (i ≠ p → F w') ∧ wpAnyG P md ops Q F p fuel (listed.setIfInBounds i true) a' w') a w

theorem wpAny_of_g : ∀ (fuel : Nat) (listed : Array Bool) (a : Act) (w : World), wpAnyG P md ops Q F p fuel listed a w → wpAny P md ops Q fuel listed a w
  | 0, _, _, _, h => h
  | fuel + 1, _, _, _, h => ⟨h.1, fun i hi => wpOp_mono (fun a' w' h' => wpAny_of_g fuel _ a' w' h'.2) (h.2 i hi)⟩

theorem wpAnyG_first {i : Nat} {oi : Oper} {v : Value} (hi : ops[i]? = some oi) (hsel : ∀ (j : Nat) (o : Oper) cs b, ops[j]? = some o → o.op ≠ .select cs b)
    (hQ : ∀ c a w, Q (.panic c) (a.put oi.dst v) w → Q (.panic c) a w) (hip : i ≠ p) (hwait : ∀ op, ops[p]? = some op → ∃ e ∈ op.after, Region.binds md e = true ∧ e.on = i) :
    ∀ (fuel : Nat) (listed : Array Bool) (a : Act) (w : World),
      (∀ j oj, ops[j]? = some oj → j ≠ i → listed.getD j true = false → (∀ e ∈ oj.after, Region.binds md e = true → e.on ≠ i) → oi.apart ops oj = true) →
      i ∈ Region.ready md ops listed → YieldsIf P ops F oi v a → F w →
      wpAnyG P md ops Q F p fuel (listed.setIfInBounds i true) (a.put oi.dst v) w → wpAnyG P md ops Q F p (fuel + 1) listed a w := by
  intro fuel
  induction fuel with
  | zero =>
    intro listed a w _ hr hy hS H
    refine ⟨fun h => (by rw [h] at hr; cases hr), fun j hj => ?_⟩
    by_cases hji : j = i
    · subst hji; exact hy.wpOp hi hS ⟨fun _ => hS, H⟩
    · have := ready_mono hj hji
      rw [H.1] at this
      cases this
  | succ fuel ih =>
    intro listed a w hfree hr hy hS H
    refine ⟨fun h => (by rw [h] at hr; cases hr), fun j hj => ?_⟩
    by_cases hji : j = i
    · subst hji; exact hy.wpOp hi hS ⟨fun _ => hS, H⟩
    · have h1 := H.2 j (ready_mono hj hji)
      obtain ⟨hjun, oj, hoj, hall⟩ := mem_ready.1 hj
      have hnot : ∀ e ∈ oj.after, Region.binds md e = true → e.on ≠ i := fun e he hb heq => by
        have h1 := hall e he hb
        have h0 := (mem_ready.1 hr).1
        rw [heq] at h1
        rcases Nat.lt_or_ge i listed.size with h' | h'
        · simp [h'] at h0 h1; rw [h0] at h1; cases h1
        · simp [Array.getElem?_eq_none h'] at h1
      have hjp : j ≠ p := fun e => by
        subst e
        obtain ⟨e, he, hb, ho⟩ := hwait oj hoj
        exact hnot e he hb ho
      have h2 := wpOp_putIf hoj (hfree j oj hoj hji hjun hnot) (fun cs b => hsel i oi cs b hi) (fun cs b => hsel j oj cs b hoj) hQ hy h1
      have hfree' : ∀ k ok, ops[k]? = some ok → k ≠ i → (listed.setIfInBounds j true).getD k true = false →
          (∀ e ∈ ok.after, Region.binds md e = true → e.on ≠ i) → oi.apart ops ok = true := fun k ok hk hki hun hno => by
        refine hfree k ok hk hki ?_ hno
        by_cases hjk : j = k
        · subst hjk; exact hjun
        · rw [getD_set_ne true hjk] at hun; exact hun
      refine wpOp_mono (fun a' w' h3 => ⟨h3.2.1, ih (listed.setIfInBounds j true) a' w' hfree' (ready_mono hr (Ne.symm hji)) h3.1 (h3.2.1 hjp) ?_⟩) h2
      rw [Array.setIfInBounds_comm _ _ hji]
      exact h3.2.2

/-- 'wpAnyG', the operations that are still to come beside it. -/
def LexG (P : Program) (md : Region.Mode) (ops : Array Oper) (Q : Exit → Act → World → Prop) (F : World → Prop) (p : Nat) (_rest : List Oper) (fuel : Nat) (listed : Array Bool) (a : Act) (w : World) : Prop := wpAnyG P md ops Q F p fuel listed a w

theorem lexg_start (is : List Nat) (p : Nat) {l : List Oper} {id : Nat} {a : Act} {w : World} (hm : P.follows .mixedOrders = true)
    (h : LexG P .any l.toArray (NoPanic Q) F p (inOrder l is) l.length (Array.replicate l.length false) a w.drew) : (Code.region id l.toArray true).wp P Q a w :=
  wp_region_noPanic (wp_region_any hm (wpAny_of_g _ _ _ _ (by simpa [LexG] using h)))
theorem lexg_take {i : Nat} {o : Oper} {rest : List Oper} {fuel : Nat} {listed : Array Bool} {a : Act} {w : World} {v : Value} (hi : ops[i]? = some o) (hip : i ≠ p)
    (hn : Region.noSelect ops = true) (hf : Region.free md ops listed i = true) (hr : (Region.ready md ops listed).contains i = true) (hwt : ((ops[p]?.map fun op => op.after.any fun e => Region.binds md e && e.on == i).getD true) = true)
    (hw : Region.wanted o (yielded ops a.tmps) = true) (hS : F w) (hy : ∀ W, F W → (execOp a.eval o).run P W = .ok (.value v) W)
    (h : LexG P md ops (NoPanic Q) F p rest fuel (listed.setIfInBounds i true) (a.put o.dst v) w) : LexG P md ops (NoPanic Q) F p (o :: rest) (fuel + 1) listed a w :=
  wpAnyG_first hi (Region.noSelect_spec hn) (fun _ _ _ h => h) hip (fun op hop => by
    rw [hop] at hwt
    simp only [Option.map_some, Option.getD_some, Array.any_eq_true'] at hwt
    obtain ⟨e, he, hb⟩ := hwt
    simp only [Bool.and_eq_true, beq_iff_eq] at hb
    exact ⟨e, he, hb.1, hb.2⟩) fuel listed a w (Region.free_spec hi hf) (by simpa using hr) (Or.inl ⟨hw, hy⟩) hS h
theorem lexg_call {i : Nat} {o : Oper} {rest : List Oper} {fuel : Nat} {listed : Array Bool} {a : Act} {w : World} {f : FuncId} {vals : Array Value}
    (hi : ops[i]? = some o) (hr : Region.ready md ops listed = [i]) (hw : Region.wanted o (yielded ops a.tmps) = true)
    (hx : (execOp a.eval o).run P w = .ok (.enter f vals) w) (R : Ending → World → Prop) (hc : Calls P f vals w R)
    (h : ∀ e w', R e w' → ∃ v, e = .returned v ∧ (i ≠ p → F w') ∧ LexG P md ops Q F p rest fuel (listed.setIfInBounds i true) (a.put o.dst v) w') : LexG P md ops Q F p (o :: rest) (fuel + 1) listed a w := by
  refine ⟨fun h0 => (by rw [hr] at h0; cases h0), fun j hj => ?_⟩
  rw [hr, List.mem_singleton] at hj
  subst hj
  unfold wpOp
  simp only [hi, hw, if_true, Oper.wp, hx, Oper.upon]
  refine .inl (hc.mono fun e w' hR => ?_)
  obtain ⟨v, rfl, h1, h2⟩ := h e w' hR
  exact ⟨h1, h2⟩
theorem lexg_do {i : Nat} {o : Oper} {rest : List Oper} {fuel : Nat} {listed : Array Bool} {a : Act} {w : World}
    (hi : ops[i]? = some o) (hr : Region.ready md ops listed = [i]) (hw : Region.wanted o (yielded ops a.tmps) = true)
    (h : ∀ K : Act → World → Prop, (∀ a' w', (i ≠ p → F w') ∧ LexG P md ops Q F p rest fuel (listed.setIfInBounds i true) a' w' → K a' w') → Oper.wp P o a w K Q) : LexG P md ops Q F p (o :: rest) (fuel + 1) listed a w := by
  refine ⟨fun h0 => (by rw [hr] at h0; cases h0), fun j hj => ?_⟩
  rw [hr, List.mem_singleton] at hj
  subst hj
  unfold wpOp
  simp only [hi, hw, if_true]
  exact .inl (h _ fun a' w' h => h)
theorem lexg_done {listed : Array Bool} {a : Act} {w : World} {fuel : Nat} (hr : Region.ready md ops listed = []) (h : Q .normal a w) : LexG P md ops (NoPanic Q) F p [] fuel listed a w := by
  cases fuel with
  | zero => exact ⟨hr, NoPanic.normal h⟩
  | succ n => exact ⟨fun _ => NoPanic.normal h, fun i hi => by rw [hr] at hi; cases hi⟩
end
end Go.Proofs.YtgaklaajbepfaaaDoor
namespace Go.Proofs.YtgaklaajbepfaaaDoor
open Go.RowKit Go.Maps
set_option linter.unusedVariables false

theorem rowTree : (Tryd.prog.info? TrT).map (fun i => (i.zero, i.size, i.bytes)) = some (some (.agg #[.int .i64 0, .int .i64 0, .int .i64 0, .int .u64 0, .string ⟨#[]⟩, .slice none 0 0]), 6, 72) := by kernel_rfl
theorem news6 (w : World) (x0 x1 x2 x3 x4 x5 : Value) (T : TypeId) : ∀ j u, [x0, x1, x2, x3, x4, x5][j]? = some u → (w.alloc (.cells #[x0, x1, x2, x3, x4, x5] T)).cell? ((⟨w.heap.size, 0, none⟩ : Addr).add j) = some u := by
  intro j u hj
  have hadd : (⟨w.heap.size, 0, none⟩ : Addr).add j = ⟨w.heap.size, j, none⟩ := by unfold Addr.add; split <;> simp_all
  rw [hadd, World.cell?, heap_alloc_new w _]
  simpa using hj

def six (n : Nd) (v : Value) : List Value := [.int .i64 n.kind, .int .i64 n.frm, .int .i64 n.to, .int .u64 n.num, .string n.text, v]
/-- These cells are those of these trees. -/
def RowF (w : World) (G : Nat → Prop) : List (Nd × Fo) → List Value → Prop
  | [], xs => xs = []
  | x :: l, xs => ∃ v ys, xs = six x.1 v ++ ys ∧ IsK w G v x.2 ∧ RowF w G l ys
theorem RowF.length {w : World} {G : Nat → Prop} : ∀ {l : List (Nd × Fo)} {xs : List Value}, RowF w G l xs → xs.length = l.length * 6
  | [], _, rfl => rfl
  | x :: l, _, ⟨v, ys, rfl, _, h⟩ => by have := RowF.length h; simp [six, this]; omega
theorem RowF.keep {w w' : World} {G G' : Nat → Prop} (hk : ∀ b, G b → b < w.heap.size → G' b ∧ w'.heap[b]? = w.heap[b]?) : ∀ {l : List (Nd × Fo)} {xs : List Value}, RowF w G l xs → RowF w' G' l xs
  | [], _, h => h
  | x :: l, _, ⟨v, ys, e, h1, h2⟩ => ⟨v, ys, e, h1.keep hk, RowF.keep hk h2⟩
theorem RowF.snoc {w : World} {G : Nat → Prop} {n : Nd} {k : Fo} {v : Value} (hv : IsK w G v k) : ∀ {l : List (Nd × Fo)} {xs : List Value}, RowF w G l xs → RowF w G (l ++ [(n, k)]) (xs ++ six n v)
  | [], _, rfl => ⟨v, [], by simp, hv, rfl⟩
  | x :: l, _, ⟨u, ys, e, h1, h2⟩ => ⟨u, ys ++ six n v, by rw [e, List.append_assoc], h1, RowF.snoc hv h2⟩
theorem RowF.at {w : World} {G : Nat → Prop} {b : Nat} : ∀ {l : List (Nd × Fo)} {xs : List Value} {off : Nat}, RowF w G l xs → (∀ j u, xs[j]? = some u → w.cell? ⟨b, off + j, none⟩ = some u) → AtF w G (foOf l) b off
  | [], _, _, _, _ => trivial
  | x :: l, _, off, ⟨v, ys, rfl, h1, h2⟩, hc => by
    have c0 := hc 0 _ (by simp [six]; rfl)
    have c1 := hc 1 _ (by simp [six]; rfl)
    have c2 := hc 2 _ (by simp [six]; rfl)
    have c3 := hc 3 _ (by simp [six]; rfl)
    have c4 := hc 4 _ (by simp [six]; rfl)
    have c5 := hc 5 _ (by simp [six]; rfl)
    refine AtF.mk c0 c1 c2 c3 c4 c5 h1 (RowF.at h2 fun j u hj => ?_)
    have := hc (6 + j) u (by rw [Nat.add_comm 6 j]; simpa [six] using hj)
    rw [← Nat.add_assoc] at this
    exact this
/-- A list of trees and what follows. -/
def foApp : List (Nd × Fo) → Fo → Fo
  | [], r => r
  | x :: l, r => .cons x.1 x.2 (foApp l r)
theorem foApp_snoc (l : List (Nd × Fo)) (n : Nd) (k r : Fo) : foApp (l ++ [(n, k)]) r = foApp l (.cons n k r) := by
  induction l with
  | nil => rfl
  | cons x l ih => simp [foApp, ih]
theorem foApp_nil (l : List (Nd × Fo)) : foApp l .nil = foOf l := by
  induction l with
  | nil => rfl
  | cons x l ih => simp [foApp, foOf, ih]
/-- A row of the call's own as a slice of trees; it may have one more. -/
theorem isK_row {w : World} {G : Nat → Prop} {base m : Nat} {v : Value} {a : Option Addr} {c : Nat} {l : List (Nd × Fo)} {xs zs : List Value} (ho : w.ownsRow base TrT 6 v m (xs ++ zs)) (hv : v = .slice a m c) (hm : l.length ≤ m) (hr : RowF w G l xs) (hg : ∀ b, v.ownBlock = some b → G b) : IsK w G (.slice a l.length c) (foOf l) := by
  have hrow := row_of_own ho
  obtain ⟨_, hr2⟩ := hrow
  subst hv
  rcases hr2 with ⟨e, h0⟩ | ⟨b, off, cap, e, h3, h4, h5, h6⟩
  · cases e
    obtain rfl : l = [] := List.eq_nil_of_length_eq_zero (by omega)
    exact IsK.nils _ _ _ _ (Nat.zero_le _)
  · cases e
    refine ⟨_, _, by rw [foOf_len], by rw [foOf_len]; omega, h5, fun _ => ?_⟩
    have hb : (Value.slice (some (⟨b, off, none⟩ : Addr)) m c).ownBlock = some b := rfl
    refine ⟨b, off, rfl, hg b hb, RowF.at hr fun j u hj => h6 j u ?_⟩
    rw [List.getElem?_append_left (List.getElem?_eq_some_iff.1 hj).1]
    exact hj
end Go.Proofs.YtgaklaajbepfaaaDoor
namespace Go.Proofs.YtgaklaajbepfaaaDoor
open Go.RowKit
set_option maxRecDepth 100000 in
theorem mk_one (W : World) : (Instr.makeSlice TreesT (.int .i64 1) (.int .i64 1)).run Tryd.prog W = .ok (.slice (some ⟨W.heap.size, 0, none⟩) 1 1) (W.alloc (.cells #[.int .i64 0, .int .i64 0, .int .i64 0, .int .u64 0, .string ⟨#[]⟩, .slice none 0 0] TrT)) := by kernel_rfl
set_option maxRecDepth 100000 in
theorem mk_two (W : World) : (Instr.makeSlice TreesT (.int .i64 2) (.int .i64 2)).run Tryd.prog W = .ok (.slice (some ⟨W.heap.size, 0, none⟩) 2 2) (W.alloc (.cells #[.int .i64 0, .int .i64 0, .int .i64 0, .int .u64 0, .string ⟨#[]⟩, .slice none 0 0, .int .i64 0, .int .i64 0, .int .i64 0, .int .u64 0, .string ⟨#[]⟩, .slice none 0 0] TrT)) := by kernel_rfl
end Go.Proofs.YtgaklaajbepfaaaDoor
namespace Go.Proofs.YtgaklaajbepfaaaDoor
open Go.RowKit Go.Maps
set_option linter.unusedVariables false

/-- Blocks of trees that were made behind w. -/
def NewT (w w' : World) (b : Nat) : Prop := w.heap.size ≤ b ∧ ∃ cs, w'.heap[b]? = some (Obj.cells cs TrT)
/-- Blocks of trees from B on, but one. -/
def ButT (B : Nat) (o : Option Nat) (w : World) (b : Nat) : Prop := B ≤ b ∧ o ≠ some b ∧ ∃ cs, w.heap[b]? = some (Obj.cells cs TrT)
theorem cell_grow' {w w' : World} {b o : Nat} {u : Value} {row : Option Nat} (h : w.cell? ⟨b, o, none⟩ = some u) (hg : w.grownBy w' row) (hn : row ≠ some b) : w'.cell? ⟨b, o, none⟩ = some u := by
  rw [cell_of_heap (hg.block b (World.block_lt_of_cell? w _ h) (fun e => hn e.symm))]; exact h
theorem foApp_size : ∀ (l : List (Nd × Fo)) (r : Fo), r.size ≤ (foApp l r).size
  | [], _ => Nat.le_refl _
  | x :: l, r => by have := foApp_size l r; simp only [foApp, Fo.size]; omega
theorem IsK.newT {w w' : World} {B : Nat} {v : Value} {k : Fo} (h : IsK w' (NewT w w') v k) : IsK w' (Safe w' B) v k := h.keep fun b hb _ => ⟨.inr hb.2, rfl⟩
def bareN (n : Nd) : Nd := ⟨n.kind, n.frm, n.to, n.num, n.text, 0, 0⟩
def GK (kb : Nat) (w : World) (b : Nat) : Prop := kb < b ∧ ∃ cs, w.heap[b]? = some (Obj.cells cs TrT)
def kaOf : Nat → Nd → List Int
  | 0, _ => []
  | 1, n => [n.a]
  | _ + 2, n => [n.a, n.b]
theorem node_kids {p : Pl} (hp : Ok p) {t : Int} (hin : inP p t = true) {K : Nat} (h2 : kidsN (atP p t).1.kind = K) : (atP p t).1 = nodeOf (bareN (atP p t).1) (kaOf K (atP p t).1) := by
  obtain ⟨i, hi, rfl, e⟩ := atP_get hin
  have he := hp.mem _ (List.getElem_mem hi)
  rw [← e] at he
  have hs : shp (atP p ((i : Int) + 1)).1 = 0 := by
    unfold errP at he
    by_cases h : shp (atP p ((i : Int) + 1)).1 ≠ 0
    · rw [if_pos h] at he; exact absurd he h
    · simpa using h
  obtain ⟨ka, kb⟩ := kids_of_plain hs
  have hk2 := kidsN_le (atP p ((i : Int) + 1)).1.kind
  generalize (atP p ((i : Int) + 1)).1 = n at *
  rw [h2] at ka kb hk2
  obtain ⟨kk, ff, tt, uu, ss, xa, xb⟩ := n
  match K, hk2 with
  | 0, _ => simp only [kaOf, nodeOf, bareN, List.getD_nil, Nd.mk.injEq, true_and]; exact ⟨ka rfl, kb (by decide)⟩
  | 1, _ => simp only [kaOf, nodeOf, bareN, List.getD_cons_zero, List.getD_cons_succ, List.getD_nil, Nd.mk.injEq, true_and]; exact kb (by decide)
  | 2, _ => rfl
theorem kids_in {p : Pl} (hp : Ok p) {t : Int} (hin : inP p t = true) : (1 ≤ kidsN (atP p t).1.kind → inP p (atP p t).1.a = true) ∧ (kidsN (atP p t).1.kind = 2 → inP p (atP p t).1.b = true) := by
  obtain ⟨i, hi, rfl, e⟩ := atP_get hin
  have he := hp.mem _ (List.getElem_mem hi)
  rw [← e] at he
  generalize (atP p ((i : Int) + 1)).1 = n at *
  unfold errP at he
  by_cases h : shp n ≠ 0
  · rw [if_pos h] at he; exact absurd he h
  · rw [if_neg h] at he
    by_cases h2 : kidsBad p n = true
    · rw [if_pos h2] at he; cases he
    · have h2' : kidsBad p n = false := by simpa using h2
      unfold kidsBad at h2'
      simp only [Bool.or_eq_false_iff, Bool.and_eq_false_iff, decide_eq_false_iff_not, Bool.not_eq_false', beq_eq_false_iff_ne] at h2'
      exact ⟨fun h => h2'.1.resolve_left (fun g => g h), fun h => h2'.2.resolve_left (fun g => g h)⟩
theorem pool_turn6 {w : World} {B a b : Nat} {vv : Value} {p : Pl} {kb : Nat} {cs : Array Value} {T : TypeId} {o0 o1 o2 o3 o4 o5 : Nat} {u0 u1 u2 u3 u4 u5 : Value} {w6 : World} (h : IsPool w B a b vv p) (hk : w.heap[kb]? = some (Obj.cells cs T)) (h1 : T ≠ PoolT) (h2 : T ≠ MadeT)
    (e : w6 = (((((w.setCell ⟨kb, o0, none⟩ u0).setCell ⟨kb, o1, none⟩ u1).setCell ⟨kb, o2, none⟩ u2).setCell ⟨kb, o3, none⟩ u3).setCell ⟨kb, o4, none⟩ u4).setCell ⟨kb, o5, none⟩ u5) : IsPool w6 B a b vv p := by
  subst e
  have k1 := setCellB (j := o0) (u := u0) hk
  have k2 := setCellB (j := o1) (u := u1) k1
  have k3 := setCellB (j := o2) (u := u2) k2
  have k4 := setCellB (j := o3) (u := u3) k3
  have k5 := setCellB (j := o4) (u := u4) k4
  exact (((((h.turn u0 hk h1 h2).turn u1 k1 h1 h2).turn u2 k2 h1 h2).turn u3 k3 h1 h2).turn u4 k4 h1 h2).turn u5 k5 h1 h2

/-- What Tree answers. -/
def TreePost (w : World) (p : Pl) (t : Int) (e : Ending) (w' : World) : Prop := ∃ n k v, e = .returned (.agg (treeA n v)) ∧ IsK w' (NewT w w') v k ∧ OkF (.cons n k .nil) ∧ Below w.heap.size w w' ∧ (inP p t = true → RepF p [t] (.cons n k .nil)) ∧ (inP p t = false → n = zeroN ∧ k = .nil)
theorem Ok.less {p : Pl} (h : Ok p) : ∀ i (hi : i < p.length), (p[i]).1.a ≤ i ∧ (p[i]).1.b ≤ i := by
  induction h with
  | nil => intro i hi; simp at hi
  | @add p n hp he hn hl ih =>
    intro i hi
    rcases Nat.lt_or_ge i p.length with hlt | hge
    · have e : ((addP p n)[i]).1 = (p[i]).1 := by simp [addP, List.getElem_append_left hlt]
      rw [e]; exact ih i hlt
    · have e : i = p.length := by simp [addP] at hi; omega
      subst e
      have e : ((addP p n)[p.length]).1 = n := by simp [addP]
      rw [e]
      have hk := kid_in he
      have key : ∀ t, (t = 0 ∨ inP p t = true) → t ≤ (p.length : Int) := fun t ht => by
        rcases ht with rfl | ht
        · omega
        · simp only [inP, Bool.and_eq_true, decide_eq_true_eq] at ht; omega
      exact ⟨key _ hk.1, key _ hk.2⟩
theorem Ok.less_at {p : Pl} (h : Ok p) {t : Int} (ht : inP p t = true) : (atP p t).1.a < t ∧ (atP p t).1.b < t := by
  obtain ⟨i, hi, rfl, e⟩ := atP_get ht
  have := h.less i hi
  rw [e]; omega
end Go.Proofs.YtgaklaajbepfaaaDoor
namespace Go.Proofs.YtgaklaajbepfaaaDoor
set_option linter.unusedVariables false

def mapF (g : Nd → Nd) : Fo → Fo
  | .nil => .nil
  | .cons n k r => .cons (g n) (mapF g k) (mapF g r)
theorem mapF_len (g : Nd → Nd) : ∀ f : Fo, (mapF g f).len = f.len
  | .nil => rfl
  | .cons n k r => by simp only [mapF, Fo.len, mapF_len g r]
theorem mapF_size (g : Nd → Nd) : ∀ f : Fo, (mapF g f).size = f.size
  | .nil => rfl
  | .cons n k r => by simp only [mapF, Fo.size, mapF_size g k, mapF_size g r]
end Go.Proofs.YtgaklaajbepfaaaDoor
namespace Go.Proofs.YtgaklaajbepfaaaDoor
open Go.RowKit Go.Maps
set_option linter.unusedVariables false

/-- What View makes of a kind. -/
def seeTK (who k f t : Int) : Int := if (k == 9 && !tellK who f t) = true then 8 else k
def vtT (who : Int) (n : Nd) : Nd := ⟨seeTK who n.kind n.frm n.to, n.frm, n.to, n.num, n.text, n.a, n.b⟩
def vtP (who : Int) (x : Nd × Fo) : Nd × Fo := (vtT who x.1, mapF (vtT who) x.2)
theorem foOf_map_vt (who : Int) : ∀ l : List (Nd × Fo), mapF (vtT who) (foOf l) = foOf (l.map (vtP who))
  | [] => rfl
  | x :: l => by simp only [foOf, mapF, List.map_cons, vtP, foOf_map_vt who l]
def vtPost (w : World) (who : Int) (n : Nd) (k : Fo) (e : Ending) (w' : World) : Prop := ∃ v, e = .returned (.agg (treeA (vtT who n) v)) ∧ IsK w' (NewT w w') v (mapF (vtT who) k) ∧ Below w.heap.size w w'
def vtC (who : Int) (N : Nat) (n : Nd) (k : Fo) : Prop := ∀ (w : World) (v : Value), IsK w (fun b => b < N) v k → N ≤ w.heap.size → k.size ≤ 6000 → Calls Tryd.prog 22 #[.int .i64 who, .agg (treeA n v)] w (vtPost w who n k)
set_option maxRecDepth 100000 in
set_option maxHeartbeats 25600000 in
theorem vt_step {who : Int} {N : Nat} (n : Nd) (k : Fo) (ih : AllF (vtC who N) k) : vtC who N n k := by
  intro w v hk hN hsz
  obtain ⟨i0, hi0, hz0, hz1, hz2⟩ := info_parts rowTree
  obtain ⟨av, cv, rfl, hx⟩ := hk.shape
  have hlk := k.len_le
  obtain ⟨kk, ff, tt, uu, ss, xa, xb⟩ := n
  have b1 := bZ w (.cells #[.int .i64 kk, .int .i64 ff, .int .i64 tt, .int .u64 uu, .string ss, .slice av k.len cv] TrT)
  have b2 := bZ (w.alloc (.cells #[.int .i64 kk, .int .i64 ff, .int .i64 tt, .int .u64 uu, .string ss, .slice av k.len cv] TrT)) (.cells #[.int .i64 0, .int .i64 0, .int .i64 0, .int .u64 0, .string ⟨#[]⟩, .slice none 0 0] TrT)
  have b3 := bZ ((w.alloc (.cells #[.int .i64 kk, .int .i64 ff, .int .i64 tt, .int .u64 uu, .string ss, .slice av k.len cv] TrT)).alloc (.cells #[.int .i64 0, .int .i64 0, .int .i64 0, .int .u64 0, .string ⟨#[]⟩, .slice none 0 0] TrT)) (.cells #[.int .i64 kk, .int .i64 ff, .int .i64 tt, .int .u64 uu, .string ss, .slice none 0 0] TrT)
  have b12 := b1.trans (b2.mono b1.size)
  have b123 := b12.trans (b3.mono b12.size)
  have h1 : (((w.alloc (.cells #[.int .i64 kk, .int .i64 ff, .int .i64 tt, .int .u64 uu, .string ss, .slice av k.len cv] TrT)).alloc (.cells #[.int .i64 0, .int .i64 0, .int .i64 0, .int .u64 0, .string ⟨#[]⟩, .slice none 0 0] TrT)).alloc (.cells #[.int .i64 kk, .int .i64 ff, .int .i64 tt, .int .u64 uu, .string ss, .slice none 0 0] TrT)).heap[w.heap.size]? = some (Obj.cells #[.int .i64 kk, .int .i64 ff, .int .i64 tt, .int .u64 uu, .string ss, .slice av k.len cv] TrT) := Hold.below b3 _ _ (Hold.below b2 _ _ (heap_alloc_new _ _))
  have h2 : (((w.alloc (.cells #[.int .i64 kk, .int .i64 ff, .int .i64 tt, .int .u64 uu, .string ss, .slice av k.len cv] TrT)).alloc (.cells #[.int .i64 0, .int .i64 0, .int .i64 0, .int .u64 0, .string ⟨#[]⟩, .slice none 0 0] TrT)).alloc (.cells #[.int .i64 kk, .int .i64 ff, .int .i64 tt, .int .u64 uu, .string ss, .slice none 0 0] TrT)).heap[w.heap.size + 1]? = some (Obj.cells #[.int .i64 0, .int .i64 0, .int .i64 0, .int .u64 0, .string ⟨#[]⟩, .slice none 0 0] TrT) := by
    have e : w.heap.size + 1 = (w.alloc (.cells #[.int .i64 kk, .int .i64 ff, .int .i64 tt, .int .u64 uu, .string ss, .slice av k.len cv] TrT)).heap.size := by simp
    rw [e]; exact Hold.below b3 _ _ (heap_alloc_new _ _)
  have h3 : (((w.alloc (.cells #[.int .i64 kk, .int .i64 ff, .int .i64 tt, .int .u64 uu, .string ss, .slice av k.len cv] TrT)).alloc (.cells #[.int .i64 0, .int .i64 0, .int .i64 0, .int .u64 0, .string ⟨#[]⟩, .slice none 0 0] TrT)).alloc (.cells #[.int .i64 kk, .int .i64 ff, .int .i64 tt, .int .u64 uu, .string ss, .slice none 0 0] TrT)).heap[w.heap.size + 2]? = some (Obj.cells #[.int .i64 kk, .int .i64 ff, .int .i64 tt, .int .u64 uu, .string ss, .slice none 0 0] TrT) := by
    have e : w.heap.size + 2 = ((w.alloc (.cells #[.int .i64 kk, .int .i64 ff, .int .i64 tt, .int .u64 uu, .string ss, .slice av k.len cv] TrT)).alloc (.cells #[.int .i64 0, .int .i64 0, .int .i64 0, .int .u64 0, .string ⟨#[]⟩, .slice none 0 0] TrT)).heap.size := by simp
    rw [e]; exact heap_alloc_new _ _
  have HX := Lib.hid hx
  have HS : Hid ((((w.alloc (.cells #[.int .i64 kk, .int .i64 ff, .int .i64 tt, .int .u64 uu, .string ss, .slice av k.len cv] TrT)).alloc (.cells #[.int .i64 0, .int .i64 0, .int .i64 0, .int .u64 0, .string ⟨#[]⟩, .slice none 0 0] TrT)).alloc (.cells #[.int .i64 kk, .int .i64 ff, .int .i64 tt, .int .u64 uu, .string ss, .slice none 0 0] TrT)).heap.size = w.heap.size + 3) := Lib.hid (by simp)
  have HI := Lib.hid ih
  have HB1 := Lib.hid h1
  have HB2 := Lib.hid h2
  have HB3 := Lib.hid h3
  have HA := Lib.hid b123
  clear hk hx ih b1 b2 b3 b12 b123 h1 h2 h3
  simp only [treeA] at *
  go_enter Tryd.func22, Tryd.ntmps22
  go_upto_region 3 with fail
  generalize (((w.alloc (.cells #[.int .i64 kk, .int .i64 ff, .int .i64 tt, .int .u64 uu, .string ss, .slice av k.len cv] TrT)).alloc (.cells #[.int .i64 0, .int .i64 0, .int .i64 0, .int .u64 0, .string ⟨#[]⟩, .slice none 0 0] TrT)).alloc (.cells #[.int .i64 kk, .int .i64 ff, .int .i64 tt, .int .u64 uu, .string ss, .slice none 0 0] TrT)) = W at *
  have p0 : W.cell? ⟨w.heap.size + 2, 0, none⟩ = some (.int .i64 kk) := cellB (j := 0) HB3.out rfl
  have p1 : W.cell? ⟨w.heap.size, 1, none⟩ = some (.int .i64 ff) := cellB (j := 1) HB1.out rfl
  have p2 : W.cell? ⟨w.heap.size, 2, none⟩ = some (.int .i64 tt) := cellB (j := 2) HB1.out rfl
  have p3 : W.frozen? ⟨w.heap.size + 2, 0, none⟩ = false := frozenB (j := 0) HB3.out
  go_cut [20] (fun s wx => W = wx ∧ s = .bool (kk == 9 && !tellK who ff tt))
  case first =>
    by_cases h9 : kk = 9
    · have e9 : (kk == (9 : Int)) = true := by rw [h9]; rfl
      have RT := rtellsk_any who ff tt W
      clear h9
      generalize tellK who ff tt = tk9 at *
      go_wp2_with fail
      refine RT.mono ?_
      rintro e V ⟨rfl, rfl⟩
      go_wp2_with fail
      go_meet
      exact ⟨by trivial, by rw [e9]; rfl⟩
    · have e9 : (kk == (9 : Int)) = false := by simpa using h9
      clear h9
      go_wp2_with fail
      go_meet
      exact ⟨by trivial, by rw [e9]; rfl⟩
  case rest =>
  obtain ⟨rfl, rfl⟩ := hcut
  have HZC : Hid (seeTK who kk ff tt = if (kk == 9 && !tellK who ff tt) = true then 8 else kk) := Lib.hid rfl
  generalize (kk == 9 && !tellK who ff tt) = cz at *
  go_upto_if 20 with fail
  go_cut [] (fun wx => wx.heap[w.heap.size]? = some (Obj.cells #[.int .i64 kk, .int .i64 ff, .int .i64 tt, .int .u64 uu, .string ss, .slice av k.len cv] TrT) ∧ wx.heap[w.heap.size + 1]? = some (Obj.cells #[.int .i64 0, .int .i64 0, .int .i64 0, .int .u64 0, .string ⟨#[]⟩, .slice none 0 0] TrT) ∧ wx.heap[w.heap.size + 2]? = some (Obj.cells #[.int .i64 (seeTK who kk ff tt), .int .i64 ff, .int .i64 tt, .int .u64 uu, .string ss, .slice none 0 0] TrT) ∧ Below w.heap.size w wx ∧ wx.heap.size = w.heap.size + 3)
  case first =>
    have HQ : Hid (∀ u : Value, (W.setCell ⟨w.heap.size + 2, 0, none⟩ u).heap[w.heap.size]? = some (Obj.cells #[.int .i64 kk, .int .i64 ff, .int .i64 tt, .int .u64 uu, .string ss, .slice av k.len cv] TrT) ∧ (W.setCell ⟨w.heap.size + 2, 0, none⟩ u).heap[w.heap.size + 1]? = some (Obj.cells #[.int .i64 0, .int .i64 0, .int .i64 0, .int .u64 0, .string ⟨#[]⟩, .slice none 0 0] TrT) ∧ Below w.heap.size w (W.setCell ⟨w.heap.size + 2, 0, none⟩ u) ∧ (W.setCell ⟨w.heap.size + 2, 0, none⟩ u).heap.size = w.heap.size + 3) := Lib.hid fun u => ⟨((grownBy_set W (w.heap.size + 2) 0 u).block w.heap.size (Array.getElem?_eq_some_iff.1 HB1.out).1 (fun e => by have := Option.some.inj e; omega)).trans HB1.out, ((grownBy_set W (w.heap.size + 2) 0 u).block (w.heap.size + 1) (Array.getElem?_eq_some_iff.1 HB2.out).1 (fun e => by have := Option.some.inj e; omega)).trans HB2.out, HA.out.setCell (p := ⟨w.heap.size + 2, 0, none⟩) (by simp) u, by simpa [World.setCell] using HS.out⟩
    cases cz with
    | true =>
      go_wp2_with fail
      go_meet
      exact ⟨(HQ.out _).1, (HQ.out _).2.1, by rw [HZC.out]; exact setCellB (j := 0) HB3.out, (HQ.out _).2.2.1, (HQ.out _).2.2.2⟩
    | false =>
      go_wp2_with fail
      go_meet
      exact ⟨HB1.out, HB2.out, by rw [HZC.out]; exact HB3.out, HA.out, HS.out⟩
  case rest =>
    obtain ⟨hb1', hb2', hb3', hbA, hbS⟩ := hcut
    clear HB1 HB2 HB3 HA HS p0 p1 p2 p3
    have HB1 := Lib.hid hb1'
    have HB2 := Lib.hid hb2'
    have HB3 := Lib.hid hb3'
    have HA := Lib.hid hbA
    have HS := Lib.hid hbS
    clear hb1' hb2' hb3' hbA hbS
    obtain ⟨kz, hkz⟩ : ∃ kz, kz = seeTK who kk ff tt := ⟨_, rfl⟩
    rw [← hkz] at HB3
    have HKZ := Lib.hid hkz
    clear hkz
    go_wp2_with fail
    go_loopw [6] (fun vi wr => ∃ (i : Nat) (r : Fo) (done : List (Nd × Fo)) (ya : Option Addr) (yc : Nat) (xs : List Value), vi = .int .i64 (i : Int) ∧ i + r.len = k.len ∧ done.length = i ∧ k = foApp done r ∧ AllF (vtC who N) r ∧ (0 < r.len → ∃ b o, av = some ⟨b, o, none⟩ ∧ b < N ∧ AtF w (fun b => b < N) r b (o + i * 6)) ∧ wr.heap[w.heap.size]? = some (Obj.cells #[.int .i64 kk, .int .i64 ff, .int .i64 tt, .int .u64 uu, .string ss, .slice av k.len cv] TrT) ∧ wr.heap[w.heap.size + 1]? = some (Obj.cells #[.int .i64 0, .int .i64 0, .int .i64 0, .int .u64 0, .string ⟨#[]⟩, .slice none 0 0] TrT) ∧ wr.heap[w.heap.size + 2]? = some (Obj.cells #[.int .i64 kz, .int .i64 ff, .int .i64 tt, .int .u64 uu, .string ss, .slice ya i yc] TrT) ∧ wr.ownsRow (w.heap.size + 3) TrT 6 (.slice ya i yc) i xs ∧ RowF wr (ButT (w.heap.size + 3) (Value.slice ya i yc).ownBlock wr) (done.map (vtP who)) xs ∧ Below w.heap.size w wr ∧ w.heap.size + 3 ≤ wr.heap.size) (fun v _ => k.len - (intOf v).toNat)
    case atStart => exact ⟨0, k, [], none, 0, [], rfl, by omega, rfl, rfl, HI.out, fun hp => by obtain ⟨b, o, q1, q2, q3⟩ := HX.out hp; exact ⟨b, o, q1, q2, by simpa using q3⟩, HB1.out, HB2.out, HB3.out, World.ownsRow_nil _ _ _ 6, rfl, HA.out, by rw [HS.out]; exact Nat.le_refl _⟩
    case round =>
      obtain ⟨i, r, done, ya, yc, xs, rfl, hi, hdl, hka, hall, hat, hb1, hb2, hb3, hown, hrow, hbr, hsz3⟩ := hrel
      have HBR := Lib.hid hbr
      have HBX := Lib.hid hb1
      have HBY := Lib.hid hb2
      have HBZ := Lib.hid hb3
      have HOWN := Lib.hid hown
      have HROW := Lib.hid hrow
      have HSZ3 := Lib.hid hsz3
      clear hown hrow HX HI
      by_cases hlt : 0 < r.len
      · obtain ⟨n', kd, rr, rfl⟩ := fo_pos hlt
        simp only [Fo.len] at hi
        obtain ⟨b, o, rfl, hbN, hat'⟩ := hat hlt
        obtain ⟨c0, c1, c2, c3, c4, v', c5, hk', hat2⟩ := hat'.cons
        obtain ⟨av2, cv2, rfl, _⟩ := hk'.shape
        have hbw : b < w.heap.size := Nat.lt_of_lt_of_le hbN hN
        have hkr := (hk'.below HBR.out).below (bd wr)
        have hkd : kd.size ≤ 6000 := by
          have h1 := foApp_size done (.cons n' kd rr)
          rw [← hka] at h1
          simp only [Fo.size] at h1
          omega
        have HK := Lib.hid (hall.1 wr.drew (.slice av2 kd.len cv2) hkr (Nat.le_trans hN (HBR.out.size)) hkd)
        have hilt : i < 6000 := by omega
        have HALL := Lib.hid hall.2
        have HAT := Lib.hid hat2
        have HKA := Lib.hid (show k = foApp (done ++ [(n', kd)]) rr by rw [foApp_snoc]; exact hka)
        have e0 := bcellAt HBR.out c0
        have e1 := bcellAt HBR.out c1
        have e2 := bcellAt HBR.out c2
        have e3 := bcellAt HBR.out c3
        have e4 := bcellAt HBR.out c4
        have e5 := bcellAt HBR.out c5
        clear hall hat2 hat hat' hk' hkr hkd hka c0 c1 c2 c3 c4 c5 hbr
        obtain ⟨k2, f2, t2, u2, s2, y2, z2⟩ := n'
        simp only [treeA] at *
        have x5 := cellB (j := 5) hb1 rfl
        have y5 := cellB (j := 5) hb3 rfl
        clear hb1 hb2 hb3
        have hi0' : (0 : Int) ≤ (i : Int) := by omega
        have hi1 : (i : Int) < (k.len : Int) := by omega
        go_wp2_with fail
        have hfk : ∀ V : World, (∀ (b o : Nat) (u : Value), wr.cell? ⟨b, o, none⟩ = some u → b < w.heap.size ∨ b = w.heap.size ∨ b = w.heap.size + 2 → V.cell? ⟨b, o, none⟩ = some u) → V.cell? ⟨w.heap.size + 2, 5, none⟩ = some (.slice ya i yc) ∧ V.cell? ⟨w.heap.size, 5, none⟩ = some (.slice (some ⟨b, o, none⟩) k.len cv) ∧ V.cell? ⟨b, o + i * 6, none⟩ = some (.int .i64 k2) ∧ V.cell? ⟨b, o + i * 6 + 1, none⟩ = some (.int .i64 f2) ∧ V.cell? ⟨b, o + i * 6 + 2, none⟩ = some (.int .i64 t2) ∧ V.cell? ⟨b, o + i * 6 + 3, none⟩ = some (.int .u64 u2) ∧ V.cell? ⟨b, o + i * 6 + 4, none⟩ = some (.string s2) ∧ V.cell? ⟨b, o + i * 6 + 5, none⟩ = some (.slice av2 kd.len cv2) := fun V hV => ⟨hV _ _ _ y5 (by omega), hV _ _ _ x5 (by omega), hV _ _ _ e0 (by omega), hV _ _ _ e1 (by omega), hV _ _ _ e2 (by omega), hV _ _ _ e3 (by omega), hV _ _ _ e4 (by omega), hV _ _ _ e5 (by omega)⟩
        have HFK := Lib.hid hfk
        have hF0 := HFK.out wr.drew (fun b o u h _ => bcellAt (bd wr) h)
        clear hfk e0 e1 e2 e3 e4 e5 x5 y5
        refine lexg_start [0, 1, 2, 3, 4, 5, 6, 7, 8, 9, 10, 11, 12] 12 (F := fun W => W.cell? ⟨w.heap.size + 2, 5, none⟩ = some (.slice ya i yc) ∧ W.cell? ⟨w.heap.size, 5, none⟩ = some (.slice (some ⟨b, o, none⟩) k.len cv) ∧ W.cell? ⟨b, o + i * 6, none⟩ = some (.int .i64 k2) ∧ W.cell? ⟨b, o + i * 6 + 1, none⟩ = some (.int .i64 f2) ∧ W.cell? ⟨b, o + i * 6 + 2, none⟩ = some (.int .i64 t2) ∧ W.cell? ⟨b, o + i * 6 + 3, none⟩ = some (.int .u64 u2) ∧ W.cell? ⟨b, o + i * 6 + 4, none⟩ = some (.string s2) ∧ W.cell? ⟨b, o + i * 6 + 5, none⟩ = some (.slice av2 kd.len cv2)) (by kernel_rfl) ?_
        simp only [inOrder, List.filterMap, List.getElem?_cons_succ, List.getElem?_cons_zero]
        refine lexg_take (i := 0) (v := ?_) rfl (by decide) (by kernel_rfl) (by kernel_rfl) (by kernel_rfl) (by kernel_rfl) (by rfl) hF0 ?_ ?_
        rotate_left
        · ((intro W hW; obtain ⟨k0, k1, k3, k4, k5, k6, k7, k8⟩ := hW; go_simp) <;> with_reducible rfl)
        simp only [Act.put, List.setIfInBounds_toArray, List.set_cons_zero, List.set_cons_succ]
        refine lexg_take (i := 1) (v := ?_) rfl (by decide) (by kernel_rfl) (by kernel_rfl) (by kernel_rfl) (by kernel_rfl) (by rfl) hF0 ?_ ?_
        rotate_left
        · ((intro W hW; obtain ⟨k0, k1, k3, k4, k5, k6, k7, k8⟩ := hW; go_simp) <;> with_reducible rfl)
        simp only [Act.put, List.setIfInBounds_toArray, List.set_cons_zero, List.set_cons_succ]
        refine lexg_take (i := 2) (v := ?_) rfl (by decide) (by kernel_rfl) (by kernel_rfl) (by kernel_rfl) (by kernel_rfl) (by rfl) hF0 ?_ ?_
        rotate_left
        · ((intro W hW; obtain ⟨k0, k1, k3, k4, k5, k6, k7, k8⟩ := hW; go_simp) <;> with_reducible rfl)
        simp only [Act.put, List.setIfInBounds_toArray, List.set_cons_zero, List.set_cons_succ]
        refine lexg_take (i := 3) (v := ?_) rfl (by decide) (by kernel_rfl) (by kernel_rfl) (by kernel_rfl) (by kernel_rfl) (by rfl) hF0 ?_ ?_
        rotate_left
        · ((intro W hW; obtain ⟨k0, k1, k3, k4, k5, k6, k7, k8⟩ := hW; go_simp) <;> with_reducible rfl)
        simp only [Act.put, List.setIfInBounds_toArray, List.set_cons_zero, List.set_cons_succ]
        refine lexg_take (i := 4) (v := ?_) rfl (by decide) (by kernel_rfl) (by kernel_rfl) (by kernel_rfl) (by kernel_rfl) (by rfl) hF0 ?_ ?_
        rotate_left
        · ((intro W hW; obtain ⟨k0, k1, k3, k4, k5, k6, k7, k8⟩ := hW; go_simp) <;> with_reducible rfl)
        simp only [Act.put, List.setIfInBounds_toArray, List.set_cons_zero, List.set_cons_succ]
        refine lexg_take (i := 5) (v := ?_) rfl (by decide) (by kernel_rfl) (by kernel_rfl) (by kernel_rfl) (by kernel_rfl) (by rfl) hF0 ?_ ?_
        rotate_left
        · ((intro W hW; obtain ⟨k0, k1, k3, k4, k5, k6, k7, k8⟩ := hW; go_simp) <;> with_reducible rfl)
        simp only [Act.put, List.setIfInBounds_toArray, List.set_cons_zero, List.set_cons_succ]
        refine lexg_take (i := 6) (v := ?_) rfl (by decide) (by kernel_rfl) (by kernel_rfl) (by kernel_rfl) (by kernel_rfl) (by rfl) hF0 ?_ ?_
        rotate_left
        · ((intro W hW; obtain ⟨k0, k1, k3, k4, k5, k6, k7, k8⟩ := hW; go_simp) <;> with_reducible rfl)
        simp only [Act.put, List.setIfInBounds_toArray, List.set_cons_zero, List.set_cons_succ]
        refine lexg_take (i := 7) (v := ?_) rfl (by decide) (by kernel_rfl) (by kernel_rfl) (by kernel_rfl) (by kernel_rfl) (by rfl) hF0 ?_ ?_
        rotate_left
        · ((intro W hW; obtain ⟨k0, k1, k3, k4, k5, k6, k7, k8⟩ := hW; go_simp) <;> with_reducible rfl)
        simp only [Act.put, List.setIfInBounds_toArray, List.set_cons_zero, List.set_cons_succ]
        refine lexg_call (i := 8) rfl (by kernel_rfl) (by rfl) ?_ _ HK.out ?_
        · go_simp
        rintro e w1 ⟨v1, rfl, hv1, u1⟩
        obtain ⟨va, vc, hva, _⟩ := hv1.shape
        rw [mapF_len] at hva
        subst hva
        have bA := bmore (bd wr) u1
        refine ⟨_, rfl, fun _ => HFK.out w1 (fun b o u h _ => bcellAt bA h), ?_⟩
        simp only [treeA, vtT, Act.put, List.setIfInBounds_toArray, List.set_cons_zero, List.set_cons_succ]
        have hszA := bA.size
        refine lexg_do (i := 9) rfl (by kernel_rfl) (by rfl) (fun K hK => ?_)
        go_simp
        have bC := bZ w1 (.cells #[.int .i64 (seeTK who k2 f2 t2), .int .i64 f2, .int .i64 t2, .int .u64 u2, .string s2, .slice va kd.len vc] 52)
        have bAC := bmore bA bC
        have hownC := own_hold HOWN.out (Hold.below bAC)
        have HBAC := Lib.hid bAC
        have HV1 := Lib.hid hv1
        have HBC := Lib.hid bC
        have HBA := Lib.hid bA
        refine hK _ _ ⟨fun _ => HFK.out _ (fun b o u h _ => bcellAt bAC h), ?_⟩
        clear hK K
        refine lexg_do (i := 10) rfl (by kernel_rfl) (by rfl) (fun K hK => ?_)
        refine wp_append_at _ _ _ 22 rfl (w.heap.size + 3) TrT i0 (.agg #[.int .i64 0, .int .i64 0, .int .i64 0, .int .u64 0, .string ⟨#[]⟩, .slice none 0 0]) 6 72 Tryd.underlying22 hi0 hz0 hz1 hz2 rfl (by decide) (.slice ya i yc) i xs rfl hownC ⟨w1.heap.size, 0, none⟩ 1 1 [.int .i64 (seeTK who k2 f2 t2), .int .i64 f2, .int .i64 t2, .int .u64 u2, .string s2, .slice va kd.len vc] rfl (by decide) rfl (news6 w1 _ _ _ _ _ _ _) (by simp [Value.oneCell']) (by unfold maxLen; omega) (by omega) (by have := HSZ3.out; have := bC.size; omega) ?_
        intro v3 w3 hown3 hg3 hp3
        obtain ⟨za, zc, rfl⟩ := (row_of_own hown3).shape
        have hyo : ∀ g, (Value.slice ya i yc).ownBlock = some g → w.heap.size + 3 ≤ g ∧ g < wr.heap.size := fun g e => by
          obtain ⟨hB, cur, hc⟩ := own_type HOWN.out e
          exact ⟨hB, (Array.getElem?_eq_some_iff.1 hc).1⟩
        have hkb : ∀ (b : Nat) (u : Obj), wr.heap[b]? = some u → (Value.slice ya i yc).ownBlock ≠ some b → w3.heap[b]? = some u := fun b u h hn => by
          have hl := (Array.getElem?_eq_some_iff.1 h).1
          rw [hg3.block b (Nat.lt_of_lt_of_le hl HBAC.out.size) (fun e => hn e.symm), HBAC.out.block b hl]; exact h
        have hkb1 : ∀ (b : Nat) (u : Obj), w1.heap[b]? = some u → wr.heap.size ≤ b → w3.heap[b]? = some u := fun b u h hn => by
          have hl := (Array.getElem?_eq_some_iff.1 h).1
          rw [hg3.block b (Nat.lt_of_lt_of_le hl HBC.out.size) (fun e => by have := (hyo b e.symm).2; omega), HBC.out.block b hl]; exact h
        have hz3 := hkb _ _ HBZ.out (fun e => by have := (hyo _ e).1; omega)
        have hF3 := HFK.out w3 (fun b o u h hb => by
          have hl := World.block_lt_of_cell? wr _ h
          rw [cell_of_heap (show w3.heap[b]? = wr.heap[b]? from by
            rw [hg3.block b (Nat.lt_of_lt_of_le hl HBAC.out.size) (fun e => by have := (hyo _ e.symm).1; omega), HBAC.out.block b hl])]
          exact h)
        have HKB := Lib.hid hkb
        have HKB1 := Lib.hid hkb1
        have HYO := Lib.hid hyo
        have HG3 := Lib.hid hg3
        have HP3 := Lib.hid hp3
        have HOWN3 := Lib.hid hown3
        have HZ3 := Lib.hid hz3
        clear hkb hkb1 hyo hg3 hp3 hown3 hownC bA bC bAC hv1 u1
        refine hK _ _ ⟨fun _ => hF3, ?_⟩
        clear hK K
        try simp only [Act.put, List.setIfInBounds_toArray, List.set_cons_zero, List.set_cons_succ]
        refine lexg_take (i := 11) (v := ?_) rfl (by decide) (by kernel_rfl) (by kernel_rfl) (by kernel_rfl) (by kernel_rfl) (by rfl) hF3 ?_ ?_
        rotate_left
        · ((intro W hW; obtain ⟨k0, k1, k3, k4, k5, k6, k7, k8⟩ := hW; go_simp) <;> with_reducible rfl)
        simp only [Act.put, List.setIfInBounds_toArray, List.set_cons_zero, List.set_cons_succ]
        have x5 := cellB (j := 5) hz3 rfl
        have f5 := frozenB (j := 5) hz3
        refine lexg_do (i := 12) rfl (by kernel_rfl) (by rfl) (fun K hK => ?_)
        go_simp
        have hz4 := setCellB (j := 5) (u := .slice za (i + 1) zc) hz3
        have HZ4 := Lib.hid hz4
        have HGS := Lib.hid (grownBy_set w3 (w.heap.size + 2) 5 (.slice za (i + 1) zc))
        refine hK _ _ ⟨fun h => absurd rfl h, ?_⟩
        clear hK K x5 f5 hF3 hF0 hz3 hz4
        refine lexg_done (by kernel_rfl) ?_
        generalize (w3.setCell ⟨w.heap.size + 2, 5, none⟩ (.slice za (i + 1) zc)) = w4 at *
        go_wp2_with fail
        have hyo3 : ∀ g, (Value.slice za (i + 1) zc).ownBlock = some g → w.heap.size + 3 ≤ g := fun g e => (own_type HOWN3.out e).1
        have h34 : ∀ (b : Nat) (u : Obj), w3.heap[b]? = some u → b ≠ w.heap.size + 2 → w4.heap[b]? = some u := fun b u h hn => by
          rw [HGS.out.block b (Array.getElem?_eq_some_iff.1 h).1 (fun e => hn (by cases e; rfl))]; exact h
        have hb4 : Below w.heap.size w w4 := ((HBR.out.trans (HBAC.out.mono (by omega))).grown HG3.out (by have := HBAC.out.size; omega) (fun g e => by have := (HYO.out g e).1; omega)).grown HGS.out (by have := HG3.out.size; have := HBAC.out.size; omega) (fun g e => by cases e; omega)
        have hsz4 : w.heap.size + 3 ≤ w4.heap.size := by have := HG3.out.size; have := HBAC.out.size; have := HGS.out.size; have := HSZ3.out; omega
        have hrow4 : RowF w4 (ButT (w.heap.size + 3) (Value.slice za (i + 1) zc).ownBlock w4) (done.map (vtP who)) xs := HROW.out.keep (fun bb hg hl => by
          obtain ⟨q1, q2, cs, q3⟩ := hg
          have q4 := h34 _ _ (HKB.out _ _ q3 q2) (by omega)
          refine ⟨⟨q1, fun e => ?_, cs, q4⟩, by rw [q4, q3]⟩
          rcases HP3.out with h | h
          · exact q2 (h.symm.trans e)
          · rw [h] at e; cases e; have := HBAC.out.size; omega)
        have hkid4 : IsK w4 (ButT (w.heap.size + 3) (Value.slice za (i + 1) zc).ownBlock w4) (.slice va kd.len vc) (mapF (vtT who) kd) := HV1.out.keep (fun bb hg hl => by
          obtain ⟨q1, cs, q3⟩ := hg
          have q1' : wr.heap.size ≤ bb := q1
          have q4 := h34 _ _ (HKB1.out _ _ q3 q1') (by have := HSZ3.out; omega)
          refine ⟨⟨by have := HSZ3.out; omega, fun e => ?_, cs, q4⟩, by rw [q4, q3]⟩
          rcases HP3.out with h | h
          · have := (HYO.out bb (h.symm.trans e)).2; omega
          · rw [h] at e; cases e; have := HBC.out.size; omega)
        have hwa : w.heap.size < w3.heap.size ∧ w.heap.size + 1 < w3.heap.size := by have := HG3.out.size; have := HBAC.out.size; have := HSZ3.out; omega
        go_roundw
        case rel => exact ⟨i + 1, rr, done ++ [(⟨k2, f2, t2, u2, s2, y2, z2⟩, kd)], za, zc, _, by go_num, by omega, by simp [hdl], HKA.out, HALL.out, fun _ => ⟨b, o, rfl, hbN, by rw [show o + (i + 1) * 6 = o + i * 6 + 6 by omega]; exact HAT.out⟩, h34 _ _ (HKB.out _ _ HBX.out (fun e => by have := (HYO.out _ e).1; omega)) (by omega), h34 _ _ (HKB.out _ _ HBY.out (fun e => by have := (HYO.out _ e).1; omega)) (by omega), HZ4.out, own_kept HOWN3.out HGS.out (fun r e e' => by cases e; have := hyo3 _ e'; omega), by rw [List.map_append]; exact RowF.snoc (n := vtT who ⟨k2, f2, t2, u2, s2, y2, z2⟩) hkid4 hrow4, hb4, hsz4⟩
        case measure => simp [intOf]; omega
      · obtain rfl := fo_nil (show r.len = 0 by omega)
        simp only [Fo.len, Nat.add_zero] at hi
        rw [foApp_nil] at hka
        have hdk : done.length = k.len := by omega
        have HKA := Lib.hid hka
        have HDK := Lib.hid hdk
        subst hi
        clear hka hall hat hlt hdl hdk
        have x5 := cellB (j := 5) hb1 rfl
        have r0 := cellB (j := 0) hb2 rfl
        have q0 := frozenB (j := 0) hb2
        have r1 := cellB (j := 1) hb2 rfl
        have q1 := frozenB (j := 1) hb2
        have r2 := cellB (j := 2) hb2 rfl
        have q2 := frozenB (j := 2) hb2
        have r3 := cellB (j := 3) hb2 rfl
        have q3 := frozenB (j := 3) hb2
        have r4 := cellB (j := 4) hb2 rfl
        have q4 := frozenB (j := 4) hb2
        have r5 := cellB (j := 5) hb2 rfl
        have q5 := frozenB (j := 5) hb2
        have y0 := cellB (j := 0) hb3 rfl
        have y1 := cellB (j := 1) hb3 rfl
        have y2 := cellB (j := 2) hb3 rfl
        have y3 := cellB (j := 3) hb3 rfl
        have y4 := cellB (j := 4) hb3 rfl
        have y5 := cellB (j := 5) hb3 rfl
        have hb6 : Below w.heap.size w ((((((wr.setCell ⟨w.heap.size + 1, 0, none⟩ (.int .i64 kz)).setCell ⟨w.heap.size + 1, 1, none⟩ (.int .i64 ff)).setCell ⟨w.heap.size + 1, 2, none⟩ (.int .i64 tt)).setCell ⟨w.heap.size + 1, 3, none⟩ (.int .u64 uu)).setCell ⟨w.heap.size + 1, 4, none⟩ (.string ss)).setCell ⟨w.heap.size + 1, 5, none⟩ (.slice ya k.len yc)) := ((((((hbr.setCell (p := ⟨w.heap.size + 1, 0, none⟩) (Nat.le_succ _) _).setCell (p := ⟨w.heap.size + 1, 1, none⟩) (Nat.le_succ _) _).setCell (p := ⟨w.heap.size + 1, 2, none⟩) (Nat.le_succ _) _).setCell (p := ⟨w.heap.size + 1, 3, none⟩) (Nat.le_succ _) _).setCell (p := ⟨w.heap.size + 1, 4, none⟩) (Nat.le_succ _) _).setCell (p := ⟨w.heap.size + 1, 5, none⟩) (Nat.le_succ _) _)
        have h6 : ((((((wr.setCell ⟨w.heap.size + 1, 0, none⟩ (.int .i64 kz)).setCell ⟨w.heap.size + 1, 1, none⟩ (.int .i64 ff)).setCell ⟨w.heap.size + 1, 2, none⟩ (.int .i64 tt)).setCell ⟨w.heap.size + 1, 3, none⟩ (.int .u64 uu)).setCell ⟨w.heap.size + 1, 4, none⟩ (.string ss)).setCell ⟨w.heap.size + 1, 5, none⟩ (.slice ya k.len yc)).heap[w.heap.size + 1]? = some (Obj.cells #[.int .i64 kz, .int .i64 ff, .int .i64 tt, .int .u64 uu, .string ss, .slice ya k.len yc] TrT) := (setCellB (j := 5) (u := .slice ya k.len yc) (setCellB (j := 4) (u := .string ss) (setCellB (j := 3) (u := .int .u64 uu) (setCellB (j := 2) (u := .int .i64 tt) (setCellB (j := 1) (u := .int .i64 ff) (setCellB (j := 0) (u := .int .i64 kz) hb2))))))
        have hg36 : wr.grownBy ((((((wr.setCell ⟨w.heap.size + 1, 0, none⟩ (.int .i64 kz)).setCell ⟨w.heap.size + 1, 1, none⟩ (.int .i64 ff)).setCell ⟨w.heap.size + 1, 2, none⟩ (.int .i64 tt)).setCell ⟨w.heap.size + 1, 3, none⟩ (.int .u64 uu)).setCell ⟨w.heap.size + 1, 4, none⟩ (.string ss)).setCell ⟨w.heap.size + 1, 5, none⟩ (.slice ya k.len yc)) (some (w.heap.size + 1)) := ((((((grownBy_set _ _ _ _).trans (grownBy_set _ _ _ _)).trans (grownBy_set _ _ _ _)).trans (grownBy_set _ _ _ _)).trans (grownBy_set _ _ _ _)).trans (grownBy_set _ _ _ _))
        have HB6 := Lib.hid hb6
        have H6 := Lib.hid h6
        have HG6 := Lib.hid hg36
        clear hb1 hb2 hb3 hbr hb6 h6 hg36
        have hk0 : (0 : Int) ≤ (k.len : Int) := by omega
        have hk1 : (k.len : Int) < 6001 := by omega
        go_wp2_with fail
        clear x5 r0 r1 r2 r3 r4 r5 q0 q1 q2 q3 q4 q5 y0 y1 y2 y3 y4 y5
        generalize ((((((wr.setCell ⟨w.heap.size + 1, 0, none⟩ (.int .i64 kz)).setCell ⟨w.heap.size + 1, 1, none⟩ (.int .i64 ff)).setCell ⟨w.heap.size + 1, 2, none⟩ (.int .i64 tt)).setCell ⟨w.heap.size + 1, 3, none⟩ (.int .u64 uu)).setCell ⟨w.heap.size + 1, 4, none⟩ (.string ss)).setCell ⟨w.heap.size + 1, 5, none⟩ (.slice ya k.len yc)) = W6 at *
        have h6 := H6.out
        have d0 := cellB (j := 0) h6 rfl
        have d1 := cellB (j := 1) h6 rfl
        have d2 := cellB (j := 2) h6 rfl
        have d3 := cellB (j := 3) h6 rfl
        have d4 := cellB (j := 4) h6 rfl
        have d5 := cellB (j := 5) h6 rfl
        have hrow : RowF W6 (NewT w W6) (done.map (vtP who)) xs := HROW.out.keep (fun bb hg hl => by
          obtain ⟨p1, p2, cs, p3⟩ := hg
          have p4 : W6.heap[bb]? = some (Obj.cells cs TrT) := by
            rw [HG6.out.block bb (Array.getElem?_eq_some_iff.1 p3).1 (fun e => by cases e; omega)]; exact p3
          exact ⟨⟨by omega, cs, p4⟩, by rw [p4, p3]⟩)
        have hown6 : W6.ownsRow (w.heap.size + 3) TrT 6 (.slice ya k.len yc) k.len (xs ++ []) := by
          rw [List.append_nil]
          exact own_kept HOWN.out HG6.out (fun r e e' => by cases e; have := (own_type HOWN.out e').1; omega)
        refine bodyPost_ret (v := .agg #[.int .i64 kz, .int .i64 ff, .int .i64 tt, .int .u64 uu, .string ss, .slice ya k.len yc]) (by simp [results, Tryd.results22, go_sem, d0, d1, d2, d3, d4, d5]) rfl ⟨_, (by rw [HKZ.out]; rfl), ?_, HB6.out⟩
        have hfin := isK_row (G := NewT w W6) hown6 rfl (show (done.map (vtP who)).length ≤ k.len by rw [List.length_map, HDK.out]; exact Nat.le_refl _) hrow (fun b e => by
          obtain ⟨p1, cs, p2⟩ := own_type hown6 e
          exact ⟨by omega, cs, p2⟩)
        rw [List.length_map, HDK.out, show foOf (done.map (vtP who)) = mapF (vtT who) k by rw [HKA.out]; exact (foOf_map_vt who done).symm] at hfin
        exact hfin
theorem vt_all {who : Int} {N : Nat} (n : Nd) (k : Fo) : vtC who N n k := tree_all vt_step n k
theorem vt_any (who : Int) (n : Nd) (k : Fo) {w : World} {v : Value} {G : Nat → Prop} (hk : IsK w G v k) (hs : k.size ≤ 6000) : Calls Tryd.prog 22 #[.int .i64 who, .agg (treeA n v)] w (vtPost w who n k) :=
  vt_all n k w v (hk.keep fun b _ hl => ⟨hl, rfl⟩) (Nat.le_refl _) hs
end Go.Proofs.YtgaklaajbepfaaaDoor
namespace Go.Proofs.YtgaklaajbepfaaaDoor
open Go.RowKit Go.Maps
set_option linter.unusedVariables false

theorem hold_row {w w' : World} {base n size : Nat} {e T : TypeId} {v : Value} {xs : List Value} (ho : w.ownsRow base e size v n xs) (hg : w.grownBy w' v.ownBlock) (hT : T ≠ e) : Hold T w w' := fun b cs hb => by
  rw [hg.block b (Array.getElem?_eq_some_iff.1 hb).1 (fun e' => by
    obtain ⟨_, cur, hc⟩ := own_type ho e'.symm
    rw [hb] at hc
    simp only [Option.some.injEq, Obj.cells.injEq] at hc
    exact hT hc.2.1)]
  exact hb
section
variable {B a : Nat} {vl vs vd : Value} {p : Pl}
def RTreeC (B a : Nat) (vl vs vd : Value) (p : Pl) (t : Int) : Prop := ∀ w : World, IsRef w B a vl vs vd p → Calls Tryd.prog 23 #[.pointer (some ⟨a, 0, none⟩), .int .i64 t] w (TreePost w p t)
set_option maxRecDepth 100000 in
set_option maxHeartbeats 25600000 in
theorem rtree_zero {t : Int} (hin : inP p t = true) (h2 : kidsN (atP p t).1.kind = 0)  : RTreeC B a vl vs vd p t := by
  intro w hp
  obtain ⟨i0, hi0, hz0, hz1, hz2⟩ := info_parts rowTree
  have bA := bZ w (.cells #[.int .i64 0, .int .i64 0, .int .i64 0, .int .u64 0, .string ⟨#[]⟩, .slice none 0 0] TrT)
  have hb : (w.alloc (.cells #[.int .i64 0, .int .i64 0, .int .i64 0, .int .u64 0, .string ⟨#[]⟩, .slice none 0 0] TrT)).heap[w.heap.size]? = some (Obj.cells #[.int .i64 0, .int .i64 0, .int .i64 0, .int .u64 0, .string ⟨#[]⟩, .slice none 0 0] TrT) := heap_alloc_new _ _
  have HNO := Lib.hid (rnode (hp.below bA) t)
  have HIN := Lib.hid hin
  have HM := Lib.hid (atP_nok hp.nok t)
  have HP := Lib.hid (hp.below bA)
  have HB := Lib.hid hb
  have HA := Lib.hid bA
  have HREP : Hid (∀ f : Fo, RepF p [] f → RepF p [t] (.cons (bareN (atP p t).1) f .nil)) := Lib.hid (fun f h => ⟨hin, ⟨_, h, by rw [show (bareN (atP p t).1).kind = (atP p t).1.kind from rfl, h2]; rfl, node_kids hp.ok hin h2⟩, trivial⟩)
  rw [hin] at HNO
  clear hp hin  bA hb
  generalize (atP p t).1 = m at *
  have KI := Lib.hid (show ∀ W : World, Calls Tryd.prog 47 #[.int .i64 m.kind] W (fun e w' => e = .returned (.int .i64 0) ∧ W = w') from fun W => by
    have := rkids m.kind W
    rwa [h2] at this)
  have HOKB : Hid (∀ f : Fo, OkF f → OkF (.cons (bareN m) f .nil)) := Lib.hid (fun f h => ⟨⟨HM.out.kind, HM.out.frm, HM.out.to, HM.out.num, HM.out.text, by unfold i64R; simp [bareN], by unfold i64R; simp [bareN]⟩, rfl, rfl, h, trivial⟩)
  obtain ⟨kk, ff, tt, uu, ss, xa, xb⟩ := m
  simp only [nodeA, bareN] at *
  go_enter Tryd.func23, Tryd.ntmps23
  go_wp2_with fail
  generalize (w.alloc (.cells #[.int .i64 0, .int .i64 0, .int .i64 0, .int .u64 0, .string ⟨#[]⟩, .slice none 0 0] TrT)) = W at *
  refine HNO.out.mono ?_
  rintro e w1 ⟨rfl, u1⟩
  have b1 := bZ w1 (.cells #[.int .i64 kk, .int .i64 ff, .int .i64 tt, .int .u64 uu, .string ss, .int .i64 xa, .int .i64 xb] NodeT)
  have h1 : (w1.alloc (.cells #[.int .i64 kk, .int .i64 ff, .int .i64 tt, .int .u64 uu, .string ss, .int .i64 xa, .int .i64 xb] NodeT)).heap[w1.heap.size]? = some (Obj.cells #[.int .i64 kk, .int .i64 ff, .int .i64 tt, .int .u64 uu, .string ss, .int .i64 xa, .int .i64 xb] NodeT) := heap_alloc_new _ _
  have b2 := bZ (w1.alloc (.cells #[.int .i64 kk, .int .i64 ff, .int .i64 tt, .int .u64 uu, .string ss, .int .i64 xa, .int .i64 xb] NodeT)) (.cells #[.int .i64 kk, .int .i64 ff, .int .i64 tt, .int .u64 uu, .string ss, .slice none 0 0] TrT)
  have b12 := b1.trans (b2.mono b1.size)
  have h2' := Hold.below b2 _ _ h1
  have h3 : ((w1.alloc (.cells #[.int .i64 kk, .int .i64 ff, .int .i64 tt, .int .u64 uu, .string ss, .int .i64 xa, .int .i64 xb] NodeT)).alloc (.cells #[.int .i64 kk, .int .i64 ff, .int .i64 tt, .int .u64 uu, .string ss, .slice none 0 0] TrT)).heap[w1.heap.size + 1]? = some (Obj.cells #[.int .i64 kk, .int .i64 ff, .int .i64 tt, .int .u64 uu, .string ss, .slice none 0 0] TrT) := by
    have e : w1.heap.size + 1 = (w1.alloc (.cells #[.int .i64 kk, .int .i64 ff, .int .i64 tt, .int .u64 uu, .string ss, .int .i64 xa, .int .i64 xb] NodeT)).heap.size := by simp
    rw [e]; exact heap_alloc_new _ _
  have HBR0 := Lib.hid (bmore HA.out (bmore u1 b12))
  have HP0 := Lib.hid (HP.out.below (bmore u1 b12))
  have HN0 := Lib.hid h2'
  have HX0 := Lib.hid h3
  have HR0 := Lib.hid (Hold.below (bmore u1 b12) _ _ HB.out)
  have HNB : Hid (w.heap.size < w1.heap.size) := Lib.hid (Array.getElem?_eq_some_iff.1 (Hold.below u1 _ _ HB.out)).1
  have HSZ0 : Hid (w1.heap.size + 2 ≤ ((w1.alloc (.cells #[.int .i64 kk, .int .i64 ff, .int .i64 tt, .int .u64 uu, .string ss, .int .i64 xa, .int .i64 xb] NodeT)).alloc (.cells #[.int .i64 kk, .int .i64 ff, .int .i64 tt, .int .u64 uu, .string ss, .slice none 0 0] TrT)).heap.size) := Lib.hid (by simp)
  have HOWN0 := Lib.hid (World.ownsRow_nil ((w1.alloc (.cells #[.int .i64 kk, .int .i64 ff, .int .i64 tt, .int .u64 uu, .string ss, .int .i64 xa, .int .i64 xb] NodeT)).alloc (.cells #[.int .i64 kk, .int .i64 ff, .int .i64 tt, .int .u64 uu, .string ss, .slice none 0 0] TrT)) (w1.heap.size + 2) TrT 6)
  have HROW0 : Hid (RowF ((w1.alloc (.cells #[.int .i64 kk, .int .i64 ff, .int .i64 tt, .int .u64 uu, .string ss, .int .i64 xa, .int .i64 xb] NodeT)).alloc (.cells #[.int .i64 kk, .int .i64 ff, .int .i64 tt, .int .u64 uu, .string ss, .slice none 0 0] TrT)) (ButT (w1.heap.size + 2) (Value.slice none 0 0).ownBlock ((w1.alloc (.cells #[.int .i64 kk, .int .i64 ff, .int .i64 tt, .int .u64 uu, .string ss, .int .i64 xa, .int .i64 xb] NodeT)).alloc (.cells #[.int .i64 kk, .int .i64 ff, .int .i64 tt, .int .u64 uu, .string ss, .slice none 0 0] TrT))) [] []) := Lib.hid rfl
  have c0 := cellB (j := 0) h2' rfl
  have c1 := cellB (j := 1) h2' rfl
  have c2 := cellB (j := 2) h2' rfl
  have c3 := cellB (j := 3) h2' rfl
  have c4 := cellB (j := 4) h2' rfl
  have c5 := cellB (j := 5) h2' rfl
  have c6 := cellB (j := 6) h2' rfl
  clear u1 b1 h1 b2 b12 h2' h3
  go_wp2_with fail
  generalize ((w1.alloc (.cells #[.int .i64 kk, .int .i64 ff, .int .i64 tt, .int .u64 uu, .string ss, .int .i64 xa, .int .i64 xb] NodeT)).alloc (.cells #[.int .i64 kk, .int .i64 ff, .int .i64 tt, .int .u64 uu, .string ss, .slice none 0 0] TrT)) = wr0 at *
  generalize w1.heap.size = nb at *
  clear HA HB HP HNO
  refine (KI.out _).mono ?_
  rintro e w2 ⟨rfl, rfl⟩
  go_wp2_with fail
  refine (KI.out _).mono ?_
  rintro e w2 ⟨rfl, rfl⟩
  clear c0 c1 c2 c3 c4 c5 c6
  have hb := HR0.out
  have hx := HX0.out
  have r0 := cellB (j := 0) hb rfl
  have s0 := frozenB (j := 0) hb
  have r1 := cellB (j := 1) hb rfl
  have s1 := frozenB (j := 1) hb
  have r2 := cellB (j := 2) hb rfl
  have s2 := frozenB (j := 2) hb
  have r3 := cellB (j := 3) hb rfl
  have s3 := frozenB (j := 3) hb
  have r4 := cellB (j := 4) hb rfl
  have s4 := frozenB (j := 4) hb
  have r5 := cellB (j := 5) hb rfl
  have s5 := frozenB (j := 5) hb
  have z0 := cellB (j := 0) hx rfl
  have z1 := cellB (j := 1) hx rfl
  have z2 := cellB (j := 2) hx rfl
  have z3 := cellB (j := 3) hx rfl
  have z4 := cellB (j := 4) hx rfl
  have z5 := cellB (j := 5) hx rfl
  have h6 : ((((((wr0.setCell ⟨w.heap.size, 0, none⟩ (.int .i64 kk)).setCell ⟨w.heap.size, 1, none⟩ (.int .i64 ff)).setCell ⟨w.heap.size, 2, none⟩ (.int .i64 tt)).setCell ⟨w.heap.size, 3, none⟩ (.int .u64 uu)).setCell ⟨w.heap.size, 4, none⟩ (.string ss)).setCell ⟨w.heap.size, 5, none⟩ (.slice none 0 0)).heap[w.heap.size]? = some (Obj.cells #[.int .i64 kk, .int .i64 ff, .int .i64 tt, .int .u64 uu, .string ss, .slice none 0 0] TrT) := (setCellB (j := 5) (u := .slice none 0 0) (setCellB (j := 4) (u := .string ss) (setCellB (j := 3) (u := .int .u64 uu) (setCellB (j := 2) (u := .int .i64 tt) (setCellB (j := 1) (u := .int .i64 ff) (setCellB (j := 0) (u := .int .i64 kk) hb))))))
  have hg6 : wr0.grownBy ((((((wr0.setCell ⟨w.heap.size, 0, none⟩ (.int .i64 kk)).setCell ⟨w.heap.size, 1, none⟩ (.int .i64 ff)).setCell ⟨w.heap.size, 2, none⟩ (.int .i64 tt)).setCell ⟨w.heap.size, 3, none⟩ (.int .u64 uu)).setCell ⟨w.heap.size, 4, none⟩ (.string ss)).setCell ⟨w.heap.size, 5, none⟩ (.slice none 0 0)) (some w.heap.size) := ((((((grownBy_set _ _ _ _).trans (grownBy_set _ _ _ _)).trans (grownBy_set _ _ _ _)).trans (grownBy_set _ _ _ _)).trans (grownBy_set _ _ _ _)).trans (grownBy_set _ _ _ _))
  have HG6 := Lib.hid hg6
  have H6 := Lib.hid h6
  clear hb hx h6 hg6
  go_wp2_with fail
  have h6 := H6.out
  generalize ((((((wr0.setCell ⟨w.heap.size, 0, none⟩ (.int .i64 kk)).setCell ⟨w.heap.size, 1, none⟩ (.int .i64 ff)).setCell ⟨w.heap.size, 2, none⟩ (.int .i64 tt)).setCell ⟨w.heap.size, 3, none⟩ (.int .u64 uu)).setCell ⟨w.heap.size, 4, none⟩ (.string ss)).setCell ⟨w.heap.size, 5, none⟩ (.slice none 0 0)) = w6 at *
  clear r0 r1 r2 r3 r4 r5 s0 s1 s2 s3 s4 s5 z0 z1 z2 z3 z4 z5
  have d0 := cellB (j := 0) h6 rfl
  have d1 := cellB (j := 1) h6 rfl
  have d2 := cellB (j := 2) h6 rfl
  have d3 := cellB (j := 3) h6 rfl
  have d4 := cellB (j := 4) h6 rfl
  have d5 := cellB (j := 5) h6 rfl
  refine bodyPost_ret (v := .agg #[.int .i64 kk, .int .i64 ff, .int .i64 tt, .int .u64 uu, .string ss, .slice none 0 0]) (by simp [results, Tryd.results23, go_sem, d0, d1, d2, d3, d4, d5]) rfl ?_
  have hnb := HNB.out
  have hb6 : Below w.heap.size w w6 := HBR0.out.grown HG6.out HBR0.out.size (fun g e => by cases e; omega)
  have hown6 := own_kept HOWN0.out HG6.out (fun r e e' => by cases e; have := (own_type HOWN0.out e').1; omega)
  have hrow6 : RowF w6 (NewT w w6) [] [] := HROW0.out.keep (fun bb hg hl => by
    obtain ⟨p1, p2, cs, p3⟩ := hg
    have p4 : w6.heap[bb]? = some (Obj.cells cs TrT) := by rw [HG6.out.block bb (Array.getElem?_eq_some_iff.1 p3).1 (fun e => by cases e; omega)]; exact p3
    exact ⟨⟨by omega, cs, p4⟩, by rw [p4, p3]⟩)
  have hfin := isK_row (G := NewT w w6) (zs := []) (by rw [List.append_nil]; exact hown6) rfl (Nat.le_refl _) hrow6 (fun b e => by
    obtain ⟨p1, cs, p2⟩ := own_type hown6 e
    exact ⟨by omega, cs, p2⟩)
  refine ⟨⟨kk, ff, tt, uu, ss, 0, 0⟩, .nil, _, rfl, hfin, HOKB.out _ ?_, hb6, fun _ => HREP.out _ ?_, fun h => by rw [HIN.out] at h; cases h⟩
  · exact trivial
  · exact trivial
set_option maxRecDepth 100000 in
set_option maxHeartbeats 25600000 in
theorem rtree_one {t : Int} (hin : inP p t = true) (h2 : kidsN (atP p t).1.kind = 1) (ih0 : RTreeC B a vl vs vd p (atP p t).1.a) (hin0 : inP p (atP p t).1.a = true) : RTreeC B a vl vs vd p t := by
  intro w hp
  obtain ⟨i0, hi0, hz0, hz1, hz2⟩ := info_parts rowTree
  have bA := bZ w (.cells #[.int .i64 0, .int .i64 0, .int .i64 0, .int .u64 0, .string ⟨#[]⟩, .slice none 0 0] TrT)
  have hb : (w.alloc (.cells #[.int .i64 0, .int .i64 0, .int .i64 0, .int .u64 0, .string ⟨#[]⟩, .slice none 0 0] TrT)).heap[w.heap.size]? = some (Obj.cells #[.int .i64 0, .int .i64 0, .int .i64 0, .int .u64 0, .string ⟨#[]⟩, .slice none 0 0] TrT) := heap_alloc_new _ _
  have HNO := Lib.hid (rnode (hp.below bA) t)
  have HIN := Lib.hid hin
  have HI0 := Lib.hid ih0
  have HIN0 := Lib.hid hin0
  have HM := Lib.hid (atP_nok hp.nok t)
  have HP := Lib.hid (hp.below bA)
  have HB := Lib.hid hb
  have HA := Lib.hid bA
  have HREP : Hid (∀ f : Fo, RepF p [(atP p t).1.a] f → RepF p [t] (.cons (bareN (atP p t).1) f .nil)) := Lib.hid (fun f h => ⟨hin, ⟨_, h, by rw [show (bareN (atP p t).1).kind = (atP p t).1.kind from rfl, h2]; rfl, node_kids hp.ok hin h2⟩, trivial⟩)
  rw [hin] at HNO
  clear hp hin ih0 hin0 bA hb
  generalize (atP p t).1 = m at *
  have KI := Lib.hid (show ∀ W : World, Calls Tryd.prog 47 #[.int .i64 m.kind] W (fun e w' => e = .returned (.int .i64 1) ∧ W = w') from fun W => by
    have := rkids m.kind W
    rwa [h2] at this)
  have HOKB : Hid (∀ f : Fo, OkF f → OkF (.cons (bareN m) f .nil)) := Lib.hid (fun f h => ⟨⟨HM.out.kind, HM.out.frm, HM.out.to, HM.out.num, HM.out.text, by unfold i64R; simp [bareN], by unfold i64R; simp [bareN]⟩, rfl, rfl, h, trivial⟩)
  obtain ⟨kk, ff, tt, uu, ss, xa, xb⟩ := m
  simp only [nodeA, bareN] at *
  go_enter Tryd.func23, Tryd.ntmps23
  go_wp2_with fail
  generalize (w.alloc (.cells #[.int .i64 0, .int .i64 0, .int .i64 0, .int .u64 0, .string ⟨#[]⟩, .slice none 0 0] TrT)) = W at *
  refine HNO.out.mono ?_
  rintro e w1 ⟨rfl, u1⟩
  have b1 := bZ w1 (.cells #[.int .i64 kk, .int .i64 ff, .int .i64 tt, .int .u64 uu, .string ss, .int .i64 xa, .int .i64 xb] NodeT)
  have h1 : (w1.alloc (.cells #[.int .i64 kk, .int .i64 ff, .int .i64 tt, .int .u64 uu, .string ss, .int .i64 xa, .int .i64 xb] NodeT)).heap[w1.heap.size]? = some (Obj.cells #[.int .i64 kk, .int .i64 ff, .int .i64 tt, .int .u64 uu, .string ss, .int .i64 xa, .int .i64 xb] NodeT) := heap_alloc_new _ _
  have b2 := bZ (w1.alloc (.cells #[.int .i64 kk, .int .i64 ff, .int .i64 tt, .int .u64 uu, .string ss, .int .i64 xa, .int .i64 xb] NodeT)) (.cells #[.int .i64 kk, .int .i64 ff, .int .i64 tt, .int .u64 uu, .string ss, .slice none 0 0] TrT)
  have b12 := b1.trans (b2.mono b1.size)
  have h2' := Hold.below b2 _ _ h1
  have h3 : ((w1.alloc (.cells #[.int .i64 kk, .int .i64 ff, .int .i64 tt, .int .u64 uu, .string ss, .int .i64 xa, .int .i64 xb] NodeT)).alloc (.cells #[.int .i64 kk, .int .i64 ff, .int .i64 tt, .int .u64 uu, .string ss, .slice none 0 0] TrT)).heap[w1.heap.size + 1]? = some (Obj.cells #[.int .i64 kk, .int .i64 ff, .int .i64 tt, .int .u64 uu, .string ss, .slice none 0 0] TrT) := by
    have e : w1.heap.size + 1 = (w1.alloc (.cells #[.int .i64 kk, .int .i64 ff, .int .i64 tt, .int .u64 uu, .string ss, .int .i64 xa, .int .i64 xb] NodeT)).heap.size := by simp
    rw [e]; exact heap_alloc_new _ _
  have HBR0 := Lib.hid (bmore HA.out (bmore u1 b12))
  have HP0 := Lib.hid (HP.out.below (bmore u1 b12))
  have HN0 := Lib.hid h2'
  have HX0 := Lib.hid h3
  have HR0 := Lib.hid (Hold.below (bmore u1 b12) _ _ HB.out)
  have HNB : Hid (w.heap.size < w1.heap.size) := Lib.hid (Array.getElem?_eq_some_iff.1 (Hold.below u1 _ _ HB.out)).1
  have HSZ0 : Hid (w1.heap.size + 2 ≤ ((w1.alloc (.cells #[.int .i64 kk, .int .i64 ff, .int .i64 tt, .int .u64 uu, .string ss, .int .i64 xa, .int .i64 xb] NodeT)).alloc (.cells #[.int .i64 kk, .int .i64 ff, .int .i64 tt, .int .u64 uu, .string ss, .slice none 0 0] TrT)).heap.size) := Lib.hid (by simp)
  have HOWN0 := Lib.hid (World.ownsRow_nil ((w1.alloc (.cells #[.int .i64 kk, .int .i64 ff, .int .i64 tt, .int .u64 uu, .string ss, .int .i64 xa, .int .i64 xb] NodeT)).alloc (.cells #[.int .i64 kk, .int .i64 ff, .int .i64 tt, .int .u64 uu, .string ss, .slice none 0 0] TrT)) (w1.heap.size + 2) TrT 6)
  have HROW0 : Hid (RowF ((w1.alloc (.cells #[.int .i64 kk, .int .i64 ff, .int .i64 tt, .int .u64 uu, .string ss, .int .i64 xa, .int .i64 xb] NodeT)).alloc (.cells #[.int .i64 kk, .int .i64 ff, .int .i64 tt, .int .u64 uu, .string ss, .slice none 0 0] TrT)) (ButT (w1.heap.size + 2) (Value.slice none 0 0).ownBlock ((w1.alloc (.cells #[.int .i64 kk, .int .i64 ff, .int .i64 tt, .int .u64 uu, .string ss, .int .i64 xa, .int .i64 xb] NodeT)).alloc (.cells #[.int .i64 kk, .int .i64 ff, .int .i64 tt, .int .u64 uu, .string ss, .slice none 0 0] TrT))) [] []) := Lib.hid rfl
  have c0 := cellB (j := 0) h2' rfl
  have c1 := cellB (j := 1) h2' rfl
  have c2 := cellB (j := 2) h2' rfl
  have c3 := cellB (j := 3) h2' rfl
  have c4 := cellB (j := 4) h2' rfl
  have c5 := cellB (j := 5) h2' rfl
  have c6 := cellB (j := 6) h2' rfl
  clear u1 b1 h1 b2 b12 h2' h3
  go_wp2_with fail
  generalize ((w1.alloc (.cells #[.int .i64 kk, .int .i64 ff, .int .i64 tt, .int .u64 uu, .string ss, .int .i64 xa, .int .i64 xb] NodeT)).alloc (.cells #[.int .i64 kk, .int .i64 ff, .int .i64 tt, .int .u64 uu, .string ss, .slice none 0 0] TrT)) = wr0 at *
  generalize w1.heap.size = nb at *
  clear HA HB HP HNO
  refine (KI.out _).mono ?_
  rintro e w2 ⟨rfl, rfl⟩
  clear c0 c1 c2 c3 c4 c5 c6
  go_wp2_with fail
  have x5 := cellB (j := 5) HX0.out rfl
  have a5 := cellB (j := 5) HN0.out rfl
  have HKID := Lib.hid (HI0.out wr0.drew (HP0.out.below (bd _)))
  have hF0 : wr0.drew.cell? ⟨nb + 1, 5, none⟩ = some (.slice none 0 0) ∧ wr0.drew.cell? ⟨nb, 5, none⟩ = some (.int .i64 xa) := ⟨bcellAt (bd _) x5, bcellAt (bd _) a5⟩
  refine lexg_start [0, 1, 2, 3, 4, 5, 6, 7, 8, 9] 9 (F := fun W => W.cell? ⟨nb + 1, 5, none⟩ = some (.slice none 0 0) ∧ W.cell? ⟨nb, 5, none⟩ = some (.int .i64 xa)) (by kernel_rfl) ?_
  simp only [inOrder, List.filterMap, List.getElem?_cons_succ, List.getElem?_cons_zero]
  refine lexg_take (i := 0) (v := ?_) rfl (by decide) (by kernel_rfl) (by kernel_rfl) (by kernel_rfl) (by kernel_rfl) (by rfl) hF0 ?_ ?_
  rotate_left
  · ((intro W hW; obtain ⟨q0, q1⟩ := hW; go_simp) <;> with_reducible rfl)
  simp only [Act.put, List.setIfInBounds_toArray, List.set_cons_zero, List.set_cons_succ]
  refine lexg_take (i := 1) (v := ?_) rfl (by decide) (by kernel_rfl) (by kernel_rfl) (by kernel_rfl) (by kernel_rfl) (by rfl) hF0 ?_ ?_
  rotate_left
  · ((intro W hW; obtain ⟨q0, q1⟩ := hW; go_simp) <;> with_reducible rfl)
  simp only [Act.put, List.setIfInBounds_toArray, List.set_cons_zero, List.set_cons_succ]
  refine lexg_take (i := 2) (v := ?_) rfl (by decide) (by kernel_rfl) (by kernel_rfl) (by kernel_rfl) (by kernel_rfl) (by rfl) hF0 ?_ ?_
  rotate_left
  · ((intro W hW; obtain ⟨q0, q1⟩ := hW; go_simp) <;> with_reducible rfl)
  simp only [Act.put, List.setIfInBounds_toArray, List.set_cons_zero, List.set_cons_succ]
  refine lexg_take (i := 3) (v := ?_) rfl (by decide) (by kernel_rfl) (by kernel_rfl) (by kernel_rfl) (by kernel_rfl) (by rfl) hF0 ?_ ?_
  rotate_left
  · ((intro W hW; obtain ⟨q0, q1⟩ := hW; go_simp) <;> with_reducible rfl)
  simp only [Act.put, List.setIfInBounds_toArray, List.set_cons_zero, List.set_cons_succ]
  refine lexg_take (i := 4) (v := ?_) rfl (by decide) (by kernel_rfl) (by kernel_rfl) (by kernel_rfl) (by kernel_rfl) (by rfl) hF0 ?_ ?_
  rotate_left
  · ((intro W hW; obtain ⟨q0, q1⟩ := hW; go_simp) <;> with_reducible rfl)
  simp only [Act.put, List.setIfInBounds_toArray, List.set_cons_zero, List.set_cons_succ]
  refine lexg_call (i := 5) rfl (by kernel_rfl) (by rfl) ?_ _ HKID.out ?_
  · go_simp
  rintro e w3 ⟨n0, k0, v0, rfl, hk0, ho0, u3, hr0, _⟩
  obtain ⟨va0, vc0, rfl, _⟩ := hk0.shape
  have bA := bmore (bd wr0) u3
  refine ⟨_, rfl, fun _ => ⟨bcellAt bA x5, bcellAt bA a5⟩, ?_⟩
  simp only [treeA, Act.put, List.setIfInBounds_toArray, List.set_cons_zero, List.set_cons_succ]
  refine lexg_do (i := 6) rfl (by kernel_rfl) (by rfl) (fun K hK => ?_)
  go_simp
  have bC := bZ w3 (.cells #[.int .i64 (n0).kind, .int .i64 (n0).frm, .int .i64 (n0).to, .int .u64 (n0).num, .string (n0).text, .slice va0 (k0).len vc0] 52)
  have bAC := bmore bA bC
  have hownC := own_hold HOWN0.out (Hold.below bAC)
  have HBAC := Lib.hid bAC
  have HBC := Lib.hid bC
  refine hK _ _ ⟨fun _ => ⟨bcellAt bAC x5, bcellAt bAC a5⟩, ?_⟩
  clear hK K
  refine lexg_do (i := 7) rfl (by kernel_rfl) (by rfl) (fun K hK => ?_)
  refine wp_append_at _ _ _ 22 rfl (nb + 2) TrT i0 (.agg #[.int .i64 0, .int .i64 0, .int .i64 0, .int .u64 0, .string ⟨#[]⟩, .slice none 0 0]) 6 72 Tryd.underlying22 hi0 hz0 hz1 hz2 rfl (by decide) (.slice none 0 0) 0 [] rfl hownC ⟨w3.heap.size, 0, none⟩ 1 1 [.int .i64 (n0).kind, .int .i64 (n0).frm, .int .i64 (n0).to, .int .u64 (n0).num, .string (n0).text, .slice va0 (k0).len vc0] rfl (by decide) rfl (news6 w3 _ _ _ _ _ _ _) (by simp [Value.oneCell']) (by unfold maxLen; omega) (by omega) (by have := HSZ0.out; have := bAC.size; omega) ?_
  intro v5 w5 hown5 hg5 hp5
  obtain ⟨za1, zc1, rfl⟩ := (row_of_own hown5).shape
  have hyo : ∀ g, (Value.slice none 0 0).ownBlock = some g → nb + 2 ≤ g ∧ g < wr0.heap.size := fun g e => by
    obtain ⟨hB, cur, hc⟩ := own_type HOWN0.out e
    exact ⟨hB, (Array.getElem?_eq_some_iff.1 hc).1⟩
  have hkb : ∀ (b : Nat) (u : Obj), wr0.heap[b]? = some u → (Value.slice none 0 0).ownBlock ≠ some b → w5.heap[b]? = some u := fun b u h hn => by
    have hl := (Array.getElem?_eq_some_iff.1 h).1
    rw [hg5.block b (Nat.lt_of_lt_of_le hl HBAC.out.size) (fun e => hn e.symm), HBAC.out.block b hl]; exact h
  have hkb1 : ∀ (b : Nat) (u : Obj), w3.heap[b]? = some u → wr0.heap.size ≤ b → w5.heap[b]? = some u := fun b u h hn => by
    have hl := (Array.getElem?_eq_some_iff.1 h).1
    rw [hg5.block b (Nat.lt_of_lt_of_le hl HBC.out.size) (fun e => by have := (hyo b e.symm).2; omega), HBC.out.block b hl]; exact h
  have hx5 := hkb _ _ HX0.out (fun e => by have := (hyo _ e).1; omega)
  have hn5 := hkb _ _ HN0.out (fun e => by have := (hyo _ e).1; omega)
  have hres5 := hkb _ _ HR0.out (fun e => by have := (hyo _ e).1; have := HNB.out; omega)
  have hF5 : w5.cell? ⟨nb + 1, 5, none⟩ = some (.slice none 0 0) ∧ w5.cell? ⟨nb, 5, none⟩ = some (.int .i64 xa) := ⟨cellB hx5 rfl, cellB hn5 rfl⟩
  have hhold : ∀ T : TypeId, T ≠ TrT → Hold T wr0 w5 := fun T hT => (Hold.below HBAC.out).trans (hold_row (own_hold HOWN0.out (Hold.below HBAC.out)) hg5 hT)
  have HP5 := Lib.hid (HP0.out.hold (hhold _ (by decide)) (hhold _ (by decide)) (hhold _ (by decide)))
  have HKB := Lib.hid hkb
  have HKB1 := Lib.hid hkb1
  have HYO := Lib.hid hyo
  have HG5 := Lib.hid hg5
  have HPW := Lib.hid hp5
  have HOWN5 := Lib.hid hown5
  clear hkb hkb1 hyo hg5 hp5 hown5 hownC bA bC bAC u3 hhold
  refine hK _ _ ⟨fun _ => hF5, ?_⟩
  clear hK K
  try simp only [Act.put, List.setIfInBounds_toArray, List.set_cons_zero, List.set_cons_succ]
  refine lexg_take (i := 8) (v := ?_) rfl (by decide) (by kernel_rfl) (by kernel_rfl) (by kernel_rfl) (by kernel_rfl) (by rfl) hF5 ?_ ?_
  rotate_left
  · ((intro W hW; obtain ⟨q0, q1⟩ := hW; go_simp) <;> with_reducible rfl)
  simp only [Act.put, List.setIfInBounds_toArray, List.set_cons_zero, List.set_cons_succ]
  have x5' := cellB (j := 5) hx5 rfl
  have f5 := frozenB (j := 5) hx5
  refine lexg_do (i := 9) rfl (by kernel_rfl) (by rfl) (fun K hK => ?_)
  go_simp
  have hx6 := setCellB (j := 5) (u := .slice za1 1 zc1) hx5
  have HX1 := Lib.hid hx6
  have HGS := Lib.hid (grownBy_set w5 (nb + 1) 5 (.slice za1 1 zc1))
  have HP1 := Lib.hid (HP5.out.hold (Hold.setCell (o := 5) (v := .slice za1 1 zc1) hx5 (by decide)) (Hold.setCell (o := 5) (v := .slice za1 1 zc1) hx5 (by decide)) (Hold.setCell (o := 5) (v := .slice za1 1 zc1) hx5 (by decide)))
  have HN5 := Lib.hid hn5
  have HR5 := Lib.hid hres5
  refine hK _ _ ⟨fun h => absurd rfl h, ?_⟩
  clear hK K x5' f5 hF5 hF0 hx5 hx6 hn5 hres5 x5 a5
  refine lexg_done (by kernel_rfl) ?_
  generalize (w5.setCell ⟨nb + 1, 5, none⟩ (.slice za1 1 zc1)) = wr1 at *
  have hyo3 : ∀ g, (Value.slice za1 1 zc1).ownBlock = some g → nb + 2 ≤ g := fun g e => (own_type HOWN5.out e).1
  have h34 : ∀ (b : Nat) (u : Obj), w5.heap[b]? = some u → b ≠ nb + 1 → wr1.heap[b]? = some u := fun b u h hn => by
    rw [HGS.out.block b (Array.getElem?_eq_some_iff.1 h).1 (fun e => hn (by cases e; rfl))]; exact h
  have HN1 := Lib.hid (h34 _ _ HN5.out (by omega))
  have HR1 := Lib.hid (h34 _ _ HR5.out (by have := HNB.out; omega))
  have HBR1 : Hid (Below w.heap.size w wr1) := Lib.hid (((HBR0.out.trans (HBAC.out.mono HBR0.out.size)).grown HG5.out (by have := HBAC.out.size; have := HBR0.out.size; omega) (fun g e => by have := (HYO.out g e).1; have := HNB.out; omega)).grown HGS.out (by have := HG5.out.size; have := HBAC.out.size; have := HBR0.out.size; omega) (fun g e => by cases e; have := HNB.out; omega))
  have HSZ1 : Hid (nb + 2 ≤ wr1.heap.size) := Lib.hid (by have := HG5.out.size; have := HBAC.out.size; have := HGS.out.size; have := HSZ0.out; omega)
  have HOWN1 := Lib.hid (own_kept HOWN5.out HGS.out (fun r e e' => by cases e; have := hyo3 _ e'; omega))
  have hrow4 : RowF wr1 (ButT (nb + 2) (Value.slice za1 1 zc1).ownBlock wr1) [] [] := HROW0.out.keep (fun bb hg hl => by
    obtain ⟨q1, q2, cs, q3⟩ := hg
    have q4 := h34 _ _ (HKB.out _ _ q3 q2) (by omega)
    refine ⟨⟨q1, fun e => ?_, cs, q4⟩, by rw [q4, q3]⟩
    rcases HPW.out with h | h
    · exact q2 (h.symm.trans e)
    · rw [h] at e; cases e; have := HBAC.out.size; omega)
  have hkid4 : IsK wr1 (ButT (nb + 2) (Value.slice za1 1 zc1).ownBlock wr1) (.slice va0 (k0).len vc0) k0 := hk0.keep (fun bb hg hl => by
    obtain ⟨q1, cs, q3⟩ := hg
    have q1' : wr0.heap.size ≤ bb := q1
    have q4 := h34 _ _ (HKB1.out _ _ q3 q1') (by have := HSZ0.out; omega)
    refine ⟨⟨by have := HSZ0.out; omega, fun e => ?_, cs, q4⟩, by rw [q4, q3]⟩
    rcases HPW.out with h | h
    · have := (HYO.out bb (h.symm.trans e)).2; omega
    · rw [h] at e; cases e; have := HBC.out.size; omega)
  have HROW1 := Lib.hid (RowF.snoc (n := n0) hkid4 hrow4)
  have HO0 := Lib.hid ho0
  have HRP0 := Lib.hid (hr0 HIN0.out)
  clear hyo3 h34 hrow4 hkid4 hk0 ho0 hr0 HKB HKB1 HYO HG5 HPW HOWN5 HGS HBAC HBC HKID HP5 HN5 HR5 HX0 HN0 HR0 HBR0 HSZ0 HOWN0 HROW0 HP0
  have hn := HN1.out
  have c0 := cellB (j := 0) hn rfl
  have c1 := cellB (j := 1) hn rfl
  have c2 := cellB (j := 2) hn rfl
  have c3 := cellB (j := 3) hn rfl
  have c4 := cellB (j := 4) hn rfl
  have c5 := cellB (j := 5) hn rfl
  have c6 := cellB (j := 6) hn rfl
  clear hn
  go_wp2_with fail
  refine (KI.out _).mono ?_
  rintro e w2 ⟨rfl, rfl⟩
  clear c0 c1 c2 c3 c4 c5 c6
  have hb := HR1.out
  have hx := HX1.out
  have r0 := cellB (j := 0) hb rfl
  have s0 := frozenB (j := 0) hb
  have r1 := cellB (j := 1) hb rfl
  have s1 := frozenB (j := 1) hb
  have r2 := cellB (j := 2) hb rfl
  have s2 := frozenB (j := 2) hb
  have r3 := cellB (j := 3) hb rfl
  have s3 := frozenB (j := 3) hb
  have r4 := cellB (j := 4) hb rfl
  have s4 := frozenB (j := 4) hb
  have r5 := cellB (j := 5) hb rfl
  have s5 := frozenB (j := 5) hb
  have z0 := cellB (j := 0) hx rfl
  have z1 := cellB (j := 1) hx rfl
  have z2 := cellB (j := 2) hx rfl
  have z3 := cellB (j := 3) hx rfl
  have z4 := cellB (j := 4) hx rfl
  have z5 := cellB (j := 5) hx rfl
  have h6 : ((((((wr1.setCell ⟨w.heap.size, 0, none⟩ (.int .i64 kk)).setCell ⟨w.heap.size, 1, none⟩ (.int .i64 ff)).setCell ⟨w.heap.size, 2, none⟩ (.int .i64 tt)).setCell ⟨w.heap.size, 3, none⟩ (.int .u64 uu)).setCell ⟨w.heap.size, 4, none⟩ (.string ss)).setCell ⟨w.heap.size, 5, none⟩ (.slice za1 1 zc1)).heap[w.heap.size]? = some (Obj.cells #[.int .i64 kk, .int .i64 ff, .int .i64 tt, .int .u64 uu, .string ss, .slice za1 1 zc1] TrT) := (setCellB (j := 5) (u := .slice za1 1 zc1) (setCellB (j := 4) (u := .string ss) (setCellB (j := 3) (u := .int .u64 uu) (setCellB (j := 2) (u := .int .i64 tt) (setCellB (j := 1) (u := .int .i64 ff) (setCellB (j := 0) (u := .int .i64 kk) hb))))))
  have hg6 : wr1.grownBy ((((((wr1.setCell ⟨w.heap.size, 0, none⟩ (.int .i64 kk)).setCell ⟨w.heap.size, 1, none⟩ (.int .i64 ff)).setCell ⟨w.heap.size, 2, none⟩ (.int .i64 tt)).setCell ⟨w.heap.size, 3, none⟩ (.int .u64 uu)).setCell ⟨w.heap.size, 4, none⟩ (.string ss)).setCell ⟨w.heap.size, 5, none⟩ (.slice za1 1 zc1)) (some w.heap.size) := ((((((grownBy_set _ _ _ _).trans (grownBy_set _ _ _ _)).trans (grownBy_set _ _ _ _)).trans (grownBy_set _ _ _ _)).trans (grownBy_set _ _ _ _)).trans (grownBy_set _ _ _ _))
  have HG6 := Lib.hid hg6
  have H6 := Lib.hid h6
  clear hb hx h6 hg6
  go_wp2_with fail
  have h6 := H6.out
  generalize ((((((wr1.setCell ⟨w.heap.size, 0, none⟩ (.int .i64 kk)).setCell ⟨w.heap.size, 1, none⟩ (.int .i64 ff)).setCell ⟨w.heap.size, 2, none⟩ (.int .i64 tt)).setCell ⟨w.heap.size, 3, none⟩ (.int .u64 uu)).setCell ⟨w.heap.size, 4, none⟩ (.string ss)).setCell ⟨w.heap.size, 5, none⟩ (.slice za1 1 zc1)) = w6 at *
  clear r0 r1 r2 r3 r4 r5 s0 s1 s2 s3 s4 s5 z0 z1 z2 z3 z4 z5
  have d0 := cellB (j := 0) h6 rfl
  have d1 := cellB (j := 1) h6 rfl
  have d2 := cellB (j := 2) h6 rfl
  have d3 := cellB (j := 3) h6 rfl
  have d4 := cellB (j := 4) h6 rfl
  have d5 := cellB (j := 5) h6 rfl
  refine bodyPost_ret (v := .agg #[.int .i64 kk, .int .i64 ff, .int .i64 tt, .int .u64 uu, .string ss, .slice za1 1 zc1]) (by simp [results, Tryd.results23, go_sem, d0, d1, d2, d3, d4, d5]) rfl ?_
  have hnb := HNB.out
  have hb6 : Below w.heap.size w w6 := HBR1.out.grown HG6.out HBR1.out.size (fun g e => by cases e; omega)
  have hown6 := own_kept HOWN1.out HG6.out (fun r e e' => by cases e; have := (own_type HOWN1.out e').1; omega)
  have hrow6 : RowF w6 (NewT w w6) [(n0, k0)] ([] ++ [.int .i64 (n0).kind, .int .i64 (n0).frm, .int .i64 (n0).to, .int .u64 (n0).num, .string (n0).text, .slice va0 (k0).len vc0]) := HROW1.out.keep (fun bb hg hl => by
    obtain ⟨p1, p2, cs, p3⟩ := hg
    have p4 : w6.heap[bb]? = some (Obj.cells cs TrT) := by rw [HG6.out.block bb (Array.getElem?_eq_some_iff.1 p3).1 (fun e => by cases e; omega)]; exact p3
    exact ⟨⟨by omega, cs, p4⟩, by rw [p4, p3]⟩)
  have hfin := isK_row (G := NewT w w6) (zs := []) (by rw [List.append_nil]; exact hown6) rfl (Nat.le_refl _) hrow6 (fun b e => by
    obtain ⟨p1, cs, p2⟩ := own_type hown6 e
    exact ⟨by omega, cs, p2⟩)
  refine ⟨⟨kk, ff, tt, uu, ss, 0, 0⟩, (.cons n0 k0 .nil), _, rfl, hfin, HOKB.out _ ?_, hb6, fun _ => HREP.out _ ?_, fun h => by rw [HIN.out] at h; cases h⟩
  · exact ⟨HO0.out.1, HO0.out.2.1, HO0.out.2.2.1, HO0.out.2.2.2.1, trivial⟩
  · exact ⟨HRP0.out.1, HRP0.out.2.1, trivial⟩
set_option maxRecDepth 100000 in
set_option maxHeartbeats 25600000 in
theorem rtree_two {t : Int} (hin : inP p t = true) (h2 : kidsN (atP p t).1.kind = 2) (ih0 : RTreeC B a vl vs vd p (atP p t).1.a) (hin0 : inP p (atP p t).1.a = true) (ih1 : RTreeC B a vl vs vd p (atP p t).1.b) (hin1 : inP p (atP p t).1.b = true) : RTreeC B a vl vs vd p t := by
  intro w hp
  obtain ⟨i0, hi0, hz0, hz1, hz2⟩ := info_parts rowTree
  have bA := bZ w (.cells #[.int .i64 0, .int .i64 0, .int .i64 0, .int .u64 0, .string ⟨#[]⟩, .slice none 0 0] TrT)
  have hb : (w.alloc (.cells #[.int .i64 0, .int .i64 0, .int .i64 0, .int .u64 0, .string ⟨#[]⟩, .slice none 0 0] TrT)).heap[w.heap.size]? = some (Obj.cells #[.int .i64 0, .int .i64 0, .int .i64 0, .int .u64 0, .string ⟨#[]⟩, .slice none 0 0] TrT) := heap_alloc_new _ _
  have HNO := Lib.hid (rnode (hp.below bA) t)
  have HIN := Lib.hid hin
  have HI0 := Lib.hid ih0
  have HIN0 := Lib.hid hin0
  have HI1 := Lib.hid ih1
  have HIN1 := Lib.hid hin1
  have HM := Lib.hid (atP_nok hp.nok t)
  have HP := Lib.hid (hp.below bA)
  have HB := Lib.hid hb
  have HA := Lib.hid bA
  have HREP : Hid (∀ f : Fo, RepF p [(atP p t).1.a, (atP p t).1.b] f → RepF p [t] (.cons (bareN (atP p t).1) f .nil)) := Lib.hid (fun f h => ⟨hin, ⟨_, h, by rw [show (bareN (atP p t).1).kind = (atP p t).1.kind from rfl, h2]; rfl, node_kids hp.ok hin h2⟩, trivial⟩)
  rw [hin] at HNO
  clear hp hin ih0 hin0 ih1 hin1 bA hb
  generalize (atP p t).1 = m at *
  have KI := Lib.hid (show ∀ W : World, Calls Tryd.prog 47 #[.int .i64 m.kind] W (fun e w' => e = .returned (.int .i64 2) ∧ W = w') from fun W => by
    have := rkids m.kind W
    rwa [h2] at this)
  have HOKB : Hid (∀ f : Fo, OkF f → OkF (.cons (bareN m) f .nil)) := Lib.hid (fun f h => ⟨⟨HM.out.kind, HM.out.frm, HM.out.to, HM.out.num, HM.out.text, by unfold i64R; simp [bareN], by unfold i64R; simp [bareN]⟩, rfl, rfl, h, trivial⟩)
  obtain ⟨kk, ff, tt, uu, ss, xa, xb⟩ := m
  simp only [nodeA, bareN] at *
  go_enter Tryd.func23, Tryd.ntmps23
  go_wp2_with fail
  generalize (w.alloc (.cells #[.int .i64 0, .int .i64 0, .int .i64 0, .int .u64 0, .string ⟨#[]⟩, .slice none 0 0] TrT)) = W at *
  refine HNO.out.mono ?_
  rintro e w1 ⟨rfl, u1⟩
  have b1 := bZ w1 (.cells #[.int .i64 kk, .int .i64 ff, .int .i64 tt, .int .u64 uu, .string ss, .int .i64 xa, .int .i64 xb] NodeT)
  have h1 : (w1.alloc (.cells #[.int .i64 kk, .int .i64 ff, .int .i64 tt, .int .u64 uu, .string ss, .int .i64 xa, .int .i64 xb] NodeT)).heap[w1.heap.size]? = some (Obj.cells #[.int .i64 kk, .int .i64 ff, .int .i64 tt, .int .u64 uu, .string ss, .int .i64 xa, .int .i64 xb] NodeT) := heap_alloc_new _ _
  have b2 := bZ (w1.alloc (.cells #[.int .i64 kk, .int .i64 ff, .int .i64 tt, .int .u64 uu, .string ss, .int .i64 xa, .int .i64 xb] NodeT)) (.cells #[.int .i64 kk, .int .i64 ff, .int .i64 tt, .int .u64 uu, .string ss, .slice none 0 0] TrT)
  have b12 := b1.trans (b2.mono b1.size)
  have h2' := Hold.below b2 _ _ h1
  have h3 : ((w1.alloc (.cells #[.int .i64 kk, .int .i64 ff, .int .i64 tt, .int .u64 uu, .string ss, .int .i64 xa, .int .i64 xb] NodeT)).alloc (.cells #[.int .i64 kk, .int .i64 ff, .int .i64 tt, .int .u64 uu, .string ss, .slice none 0 0] TrT)).heap[w1.heap.size + 1]? = some (Obj.cells #[.int .i64 kk, .int .i64 ff, .int .i64 tt, .int .u64 uu, .string ss, .slice none 0 0] TrT) := by
    have e : w1.heap.size + 1 = (w1.alloc (.cells #[.int .i64 kk, .int .i64 ff, .int .i64 tt, .int .u64 uu, .string ss, .int .i64 xa, .int .i64 xb] NodeT)).heap.size := by simp
    rw [e]; exact heap_alloc_new _ _
  have HBR0 := Lib.hid (bmore HA.out (bmore u1 b12))
  have HP0 := Lib.hid (HP.out.below (bmore u1 b12))
  have HN0 := Lib.hid h2'
  have HX0 := Lib.hid h3
  have HR0 := Lib.hid (Hold.below (bmore u1 b12) _ _ HB.out)
  have HNB : Hid (w.heap.size < w1.heap.size) := Lib.hid (Array.getElem?_eq_some_iff.1 (Hold.below u1 _ _ HB.out)).1
  have HSZ0 : Hid (w1.heap.size + 2 ≤ ((w1.alloc (.cells #[.int .i64 kk, .int .i64 ff, .int .i64 tt, .int .u64 uu, .string ss, .int .i64 xa, .int .i64 xb] NodeT)).alloc (.cells #[.int .i64 kk, .int .i64 ff, .int .i64 tt, .int .u64 uu, .string ss, .slice none 0 0] TrT)).heap.size) := Lib.hid (by simp)
  have HOWN0 := Lib.hid (World.ownsRow_nil ((w1.alloc (.cells #[.int .i64 kk, .int .i64 ff, .int .i64 tt, .int .u64 uu, .string ss, .int .i64 xa, .int .i64 xb] NodeT)).alloc (.cells #[.int .i64 kk, .int .i64 ff, .int .i64 tt, .int .u64 uu, .string ss, .slice none 0 0] TrT)) (w1.heap.size + 2) TrT 6)
  have HROW0 : Hid (RowF ((w1.alloc (.cells #[.int .i64 kk, .int .i64 ff, .int .i64 tt, .int .u64 uu, .string ss, .int .i64 xa, .int .i64 xb] NodeT)).alloc (.cells #[.int .i64 kk, .int .i64 ff, .int .i64 tt, .int .u64 uu, .string ss, .slice none 0 0] TrT)) (ButT (w1.heap.size + 2) (Value.slice none 0 0).ownBlock ((w1.alloc (.cells #[.int .i64 kk, .int .i64 ff, .int .i64 tt, .int .u64 uu, .string ss, .int .i64 xa, .int .i64 xb] NodeT)).alloc (.cells #[.int .i64 kk, .int .i64 ff, .int .i64 tt, .int .u64 uu, .string ss, .slice none 0 0] TrT))) [] []) := Lib.hid rfl
  have c0 := cellB (j := 0) h2' rfl
  have c1 := cellB (j := 1) h2' rfl
  have c2 := cellB (j := 2) h2' rfl
  have c3 := cellB (j := 3) h2' rfl
  have c4 := cellB (j := 4) h2' rfl
  have c5 := cellB (j := 5) h2' rfl
  have c6 := cellB (j := 6) h2' rfl
  clear u1 b1 h1 b2 b12 h2' h3
  go_wp2_with fail
  generalize ((w1.alloc (.cells #[.int .i64 kk, .int .i64 ff, .int .i64 tt, .int .u64 uu, .string ss, .int .i64 xa, .int .i64 xb] NodeT)).alloc (.cells #[.int .i64 kk, .int .i64 ff, .int .i64 tt, .int .u64 uu, .string ss, .slice none 0 0] TrT)) = wr0 at *
  generalize w1.heap.size = nb at *
  clear HA HB HP HNO
  refine (KI.out _).mono ?_
  rintro e w2 ⟨rfl, rfl⟩
  clear c0 c1 c2 c3 c4 c5 c6
  go_wp2_with fail
  have x5 := cellB (j := 5) HX0.out rfl
  have a5 := cellB (j := 5) HN0.out rfl
  have HKID := Lib.hid (HI0.out wr0.drew (HP0.out.below (bd _)))
  have hF0 : wr0.drew.cell? ⟨nb + 1, 5, none⟩ = some (.slice none 0 0) ∧ wr0.drew.cell? ⟨nb, 5, none⟩ = some (.int .i64 xa) := ⟨bcellAt (bd _) x5, bcellAt (bd _) a5⟩
  refine lexg_start [0, 1, 2, 3, 4, 5, 6, 7, 8, 9] 9 (F := fun W => W.cell? ⟨nb + 1, 5, none⟩ = some (.slice none 0 0) ∧ W.cell? ⟨nb, 5, none⟩ = some (.int .i64 xa)) (by kernel_rfl) ?_
  simp only [inOrder, List.filterMap, List.getElem?_cons_succ, List.getElem?_cons_zero]
  refine lexg_take (i := 0) (v := ?_) rfl (by decide) (by kernel_rfl) (by kernel_rfl) (by kernel_rfl) (by kernel_rfl) (by rfl) hF0 ?_ ?_
  rotate_left
  · ((intro W hW; obtain ⟨q0, q1⟩ := hW; go_simp) <;> with_reducible rfl)
  simp only [Act.put, List.setIfInBounds_toArray, List.set_cons_zero, List.set_cons_succ]
  refine lexg_take (i := 1) (v := ?_) rfl (by decide) (by kernel_rfl) (by kernel_rfl) (by kernel_rfl) (by kernel_rfl) (by rfl) hF0 ?_ ?_
  rotate_left
  · ((intro W hW; obtain ⟨q0, q1⟩ := hW; go_simp) <;> with_reducible rfl)
  simp only [Act.put, List.setIfInBounds_toArray, List.set_cons_zero, List.set_cons_succ]
  refine lexg_take (i := 2) (v := ?_) rfl (by decide) (by kernel_rfl) (by kernel_rfl) (by kernel_rfl) (by kernel_rfl) (by rfl) hF0 ?_ ?_
  rotate_left
  · ((intro W hW; obtain ⟨q0, q1⟩ := hW; go_simp) <;> with_reducible rfl)
  simp only [Act.put, List.setIfInBounds_toArray, List.set_cons_zero, List.set_cons_succ]
  refine lexg_take (i := 3) (v := ?_) rfl (by decide) (by kernel_rfl) (by kernel_rfl) (by kernel_rfl) (by kernel_rfl) (by rfl) hF0 ?_ ?_
  rotate_left
  · ((intro W hW; obtain ⟨q0, q1⟩ := hW; go_simp) <;> with_reducible rfl)
  simp only [Act.put, List.setIfInBounds_toArray, List.set_cons_zero, List.set_cons_succ]
  refine lexg_take (i := 4) (v := ?_) rfl (by decide) (by kernel_rfl) (by kernel_rfl) (by kernel_rfl) (by kernel_rfl) (by rfl) hF0 ?_ ?_
  rotate_left
  · ((intro W hW; obtain ⟨q0, q1⟩ := hW; go_simp) <;> with_reducible rfl)
  simp only [Act.put, List.setIfInBounds_toArray, List.set_cons_zero, List.set_cons_succ]
  refine lexg_call (i := 5) rfl (by kernel_rfl) (by rfl) ?_ _ HKID.out ?_
  · go_simp
  rintro e w3 ⟨n0, k0, v0, rfl, hk0, ho0, u3, hr0, _⟩
  obtain ⟨va0, vc0, rfl, _⟩ := hk0.shape
  have bA := bmore (bd wr0) u3
  refine ⟨_, rfl, fun _ => ⟨bcellAt bA x5, bcellAt bA a5⟩, ?_⟩
  simp only [treeA, Act.put, List.setIfInBounds_toArray, List.set_cons_zero, List.set_cons_succ]
  refine lexg_do (i := 6) rfl (by kernel_rfl) (by rfl) (fun K hK => ?_)
  go_simp
  have bC := bZ w3 (.cells #[.int .i64 (n0).kind, .int .i64 (n0).frm, .int .i64 (n0).to, .int .u64 (n0).num, .string (n0).text, .slice va0 (k0).len vc0] 52)
  have bAC := bmore bA bC
  have hownC := own_hold HOWN0.out (Hold.below bAC)
  have HBAC := Lib.hid bAC
  have HBC := Lib.hid bC
  refine hK _ _ ⟨fun _ => ⟨bcellAt bAC x5, bcellAt bAC a5⟩, ?_⟩
  clear hK K
  refine lexg_do (i := 7) rfl (by kernel_rfl) (by rfl) (fun K hK => ?_)
  refine wp_append_at _ _ _ 22 rfl (nb + 2) TrT i0 (.agg #[.int .i64 0, .int .i64 0, .int .i64 0, .int .u64 0, .string ⟨#[]⟩, .slice none 0 0]) 6 72 Tryd.underlying22 hi0 hz0 hz1 hz2 rfl (by decide) (.slice none 0 0) 0 [] rfl hownC ⟨w3.heap.size, 0, none⟩ 1 1 [.int .i64 (n0).kind, .int .i64 (n0).frm, .int .i64 (n0).to, .int .u64 (n0).num, .string (n0).text, .slice va0 (k0).len vc0] rfl (by decide) rfl (news6 w3 _ _ _ _ _ _ _) (by simp [Value.oneCell']) (by unfold maxLen; omega) (by omega) (by have := HSZ0.out; have := bAC.size; omega) ?_
  intro v5 w5 hown5 hg5 hp5
  obtain ⟨za1, zc1, rfl⟩ := (row_of_own hown5).shape
  have hyo : ∀ g, (Value.slice none 0 0).ownBlock = some g → nb + 2 ≤ g ∧ g < wr0.heap.size := fun g e => by
    obtain ⟨hB, cur, hc⟩ := own_type HOWN0.out e
    exact ⟨hB, (Array.getElem?_eq_some_iff.1 hc).1⟩
  have hkb : ∀ (b : Nat) (u : Obj), wr0.heap[b]? = some u → (Value.slice none 0 0).ownBlock ≠ some b → w5.heap[b]? = some u := fun b u h hn => by
    have hl := (Array.getElem?_eq_some_iff.1 h).1
    rw [hg5.block b (Nat.lt_of_lt_of_le hl HBAC.out.size) (fun e => hn e.symm), HBAC.out.block b hl]; exact h
  have hkb1 : ∀ (b : Nat) (u : Obj), w3.heap[b]? = some u → wr0.heap.size ≤ b → w5.heap[b]? = some u := fun b u h hn => by
    have hl := (Array.getElem?_eq_some_iff.1 h).1
    rw [hg5.block b (Nat.lt_of_lt_of_le hl HBC.out.size) (fun e => by have := (hyo b e.symm).2; omega), HBC.out.block b hl]; exact h
  have hx5 := hkb _ _ HX0.out (fun e => by have := (hyo _ e).1; omega)
  have hn5 := hkb _ _ HN0.out (fun e => by have := (hyo _ e).1; omega)
  have hres5 := hkb _ _ HR0.out (fun e => by have := (hyo _ e).1; have := HNB.out; omega)
  have hF5 : w5.cell? ⟨nb + 1, 5, none⟩ = some (.slice none 0 0) ∧ w5.cell? ⟨nb, 5, none⟩ = some (.int .i64 xa) := ⟨cellB hx5 rfl, cellB hn5 rfl⟩
  have hhold : ∀ T : TypeId, T ≠ TrT → Hold T wr0 w5 := fun T hT => (Hold.below HBAC.out).trans (hold_row (own_hold HOWN0.out (Hold.below HBAC.out)) hg5 hT)
  have HP5 := Lib.hid (HP0.out.hold (hhold _ (by decide)) (hhold _ (by decide)) (hhold _ (by decide)))
  have HKB := Lib.hid hkb
  have HKB1 := Lib.hid hkb1
  have HYO := Lib.hid hyo
  have HG5 := Lib.hid hg5
  have HPW := Lib.hid hp5
  have HOWN5 := Lib.hid hown5
  clear hkb hkb1 hyo hg5 hp5 hown5 hownC bA bC bAC u3 hhold
  refine hK _ _ ⟨fun _ => hF5, ?_⟩
  clear hK K
  try simp only [Act.put, List.setIfInBounds_toArray, List.set_cons_zero, List.set_cons_succ]
  refine lexg_take (i := 8) (v := ?_) rfl (by decide) (by kernel_rfl) (by kernel_rfl) (by kernel_rfl) (by kernel_rfl) (by rfl) hF5 ?_ ?_
  rotate_left
  · ((intro W hW; obtain ⟨q0, q1⟩ := hW; go_simp) <;> with_reducible rfl)
  simp only [Act.put, List.setIfInBounds_toArray, List.set_cons_zero, List.set_cons_succ]
  have x5' := cellB (j := 5) hx5 rfl
  have f5 := frozenB (j := 5) hx5
  refine lexg_do (i := 9) rfl (by kernel_rfl) (by rfl) (fun K hK => ?_)
  go_simp
  have hx6 := setCellB (j := 5) (u := .slice za1 1 zc1) hx5
  have HX1 := Lib.hid hx6
  have HGS := Lib.hid (grownBy_set w5 (nb + 1) 5 (.slice za1 1 zc1))
  have HP1 := Lib.hid (HP5.out.hold (Hold.setCell (o := 5) (v := .slice za1 1 zc1) hx5 (by decide)) (Hold.setCell (o := 5) (v := .slice za1 1 zc1) hx5 (by decide)) (Hold.setCell (o := 5) (v := .slice za1 1 zc1) hx5 (by decide)))
  have HN5 := Lib.hid hn5
  have HR5 := Lib.hid hres5
  refine hK _ _ ⟨fun h => absurd rfl h, ?_⟩
  clear hK K x5' f5 hF5 hF0 hx5 hx6 hn5 hres5 x5 a5
  refine lexg_done (by kernel_rfl) ?_
  generalize (w5.setCell ⟨nb + 1, 5, none⟩ (.slice za1 1 zc1)) = wr1 at *
  have hyo3 : ∀ g, (Value.slice za1 1 zc1).ownBlock = some g → nb + 2 ≤ g := fun g e => (own_type HOWN5.out e).1
  have h34 : ∀ (b : Nat) (u : Obj), w5.heap[b]? = some u → b ≠ nb + 1 → wr1.heap[b]? = some u := fun b u h hn => by
    rw [HGS.out.block b (Array.getElem?_eq_some_iff.1 h).1 (fun e => hn (by cases e; rfl))]; exact h
  have HN1 := Lib.hid (h34 _ _ HN5.out (by omega))
  have HR1 := Lib.hid (h34 _ _ HR5.out (by have := HNB.out; omega))
  have HBR1 : Hid (Below w.heap.size w wr1) := Lib.hid (((HBR0.out.trans (HBAC.out.mono HBR0.out.size)).grown HG5.out (by have := HBAC.out.size; have := HBR0.out.size; omega) (fun g e => by have := (HYO.out g e).1; have := HNB.out; omega)).grown HGS.out (by have := HG5.out.size; have := HBAC.out.size; have := HBR0.out.size; omega) (fun g e => by cases e; have := HNB.out; omega))
  have HSZ1 : Hid (nb + 2 ≤ wr1.heap.size) := Lib.hid (by have := HG5.out.size; have := HBAC.out.size; have := HGS.out.size; have := HSZ0.out; omega)
  have HOWN1 := Lib.hid (own_kept HOWN5.out HGS.out (fun r e e' => by cases e; have := hyo3 _ e'; omega))
  have hrow4 : RowF wr1 (ButT (nb + 2) (Value.slice za1 1 zc1).ownBlock wr1) [] [] := HROW0.out.keep (fun bb hg hl => by
    obtain ⟨q1, q2, cs, q3⟩ := hg
    have q4 := h34 _ _ (HKB.out _ _ q3 q2) (by omega)
    refine ⟨⟨q1, fun e => ?_, cs, q4⟩, by rw [q4, q3]⟩
    rcases HPW.out with h | h
    · exact q2 (h.symm.trans e)
    · rw [h] at e; cases e; have := HBAC.out.size; omega)
  have hkid4 : IsK wr1 (ButT (nb + 2) (Value.slice za1 1 zc1).ownBlock wr1) (.slice va0 (k0).len vc0) k0 := hk0.keep (fun bb hg hl => by
    obtain ⟨q1, cs, q3⟩ := hg
    have q1' : wr0.heap.size ≤ bb := q1
    have q4 := h34 _ _ (HKB1.out _ _ q3 q1') (by have := HSZ0.out; omega)
    refine ⟨⟨by have := HSZ0.out; omega, fun e => ?_, cs, q4⟩, by rw [q4, q3]⟩
    rcases HPW.out with h | h
    · have := (HYO.out bb (h.symm.trans e)).2; omega
    · rw [h] at e; cases e; have := HBC.out.size; omega)
  have HROW1 := Lib.hid (RowF.snoc (n := n0) hkid4 hrow4)
  have HO0 := Lib.hid ho0
  have HRP0 := Lib.hid (hr0 HIN0.out)
  clear hyo3 h34 hrow4 hkid4 hk0 ho0 hr0 HKB HKB1 HYO HG5 HPW HOWN5 HGS HBAC HBC HKID HP5 HN5 HR5 HX0 HN0 HR0 HBR0 HSZ0 HOWN0 HROW0 HP0
  have hn := HN1.out
  have c0 := cellB (j := 0) hn rfl
  have c1 := cellB (j := 1) hn rfl
  have c2 := cellB (j := 2) hn rfl
  have c3 := cellB (j := 3) hn rfl
  have c4 := cellB (j := 4) hn rfl
  have c5 := cellB (j := 5) hn rfl
  have c6 := cellB (j := 6) hn rfl
  clear hn
  go_wp2_with fail
  refine (KI.out _).mono ?_
  rintro e w2 ⟨rfl, rfl⟩
  clear c0 c1 c2 c3 c4 c5 c6
  go_wp2_with fail
  have x5 := cellB (j := 5) HX1.out rfl
  have a5 := cellB (j := 6) HN1.out rfl
  have HKID := Lib.hid (HI1.out wr1.drew (HP1.out.below (bd _)))
  have hF0 : wr1.drew.cell? ⟨nb + 1, 5, none⟩ = some (.slice za1 1 zc1) ∧ wr1.drew.cell? ⟨nb, 6, none⟩ = some (.int .i64 xb) := ⟨bcellAt (bd _) x5, bcellAt (bd _) a5⟩
  refine lexg_start [0, 1, 2, 3, 4, 5, 6, 7, 8, 9] 9 (F := fun W => W.cell? ⟨nb + 1, 5, none⟩ = some (.slice za1 1 zc1) ∧ W.cell? ⟨nb, 6, none⟩ = some (.int .i64 xb)) (by kernel_rfl) ?_
  simp only [inOrder, List.filterMap, List.getElem?_cons_succ, List.getElem?_cons_zero]
  refine lexg_take (i := 0) (v := ?_) rfl (by decide) (by kernel_rfl) (by kernel_rfl) (by kernel_rfl) (by kernel_rfl) (by rfl) hF0 ?_ ?_
  rotate_left
  · ((intro W hW; obtain ⟨q0, q1⟩ := hW; go_simp) <;> with_reducible rfl)
  simp only [Act.put, List.setIfInBounds_toArray, List.set_cons_zero, List.set_cons_succ]
  refine lexg_take (i := 1) (v := ?_) rfl (by decide) (by kernel_rfl) (by kernel_rfl) (by kernel_rfl) (by kernel_rfl) (by rfl) hF0 ?_ ?_
  rotate_left
  · ((intro W hW; obtain ⟨q0, q1⟩ := hW; go_simp) <;> with_reducible rfl)
  simp only [Act.put, List.setIfInBounds_toArray, List.set_cons_zero, List.set_cons_succ]
  refine lexg_take (i := 2) (v := ?_) rfl (by decide) (by kernel_rfl) (by kernel_rfl) (by kernel_rfl) (by kernel_rfl) (by rfl) hF0 ?_ ?_
  rotate_left
  · ((intro W hW; obtain ⟨q0, q1⟩ := hW; go_simp) <;> with_reducible rfl)
  simp only [Act.put, List.setIfInBounds_toArray, List.set_cons_zero, List.set_cons_succ]
  refine lexg_take (i := 3) (v := ?_) rfl (by decide) (by kernel_rfl) (by kernel_rfl) (by kernel_rfl) (by kernel_rfl) (by rfl) hF0 ?_ ?_
  rotate_left
  · ((intro W hW; obtain ⟨q0, q1⟩ := hW; go_simp) <;> with_reducible rfl)
  simp only [Act.put, List.setIfInBounds_toArray, List.set_cons_zero, List.set_cons_succ]
  refine lexg_take (i := 4) (v := ?_) rfl (by decide) (by kernel_rfl) (by kernel_rfl) (by kernel_rfl) (by kernel_rfl) (by rfl) hF0 ?_ ?_
  rotate_left
  · ((intro W hW; obtain ⟨q0, q1⟩ := hW; go_simp) <;> with_reducible rfl)
  simp only [Act.put, List.setIfInBounds_toArray, List.set_cons_zero, List.set_cons_succ]
  refine lexg_call (i := 5) rfl (by kernel_rfl) (by rfl) ?_ _ HKID.out ?_
  · go_simp
  rintro e w3 ⟨n1, k1, v1, rfl, hk1, ho1, u3, hr1, _⟩
  obtain ⟨va1, vc1, rfl, _⟩ := hk1.shape
  have bA := bmore (bd wr1) u3
  refine ⟨_, rfl, fun _ => ⟨bcellAt bA x5, bcellAt bA a5⟩, ?_⟩
  simp only [treeA, Act.put, List.setIfInBounds_toArray, List.set_cons_zero, List.set_cons_succ]
  refine lexg_do (i := 6) rfl (by kernel_rfl) (by rfl) (fun K hK => ?_)
  go_simp
  have bC := bZ w3 (.cells #[.int .i64 (n1).kind, .int .i64 (n1).frm, .int .i64 (n1).to, .int .u64 (n1).num, .string (n1).text, .slice va1 (k1).len vc1] 52)
  have bAC := bmore bA bC
  have hownC := own_hold HOWN1.out (Hold.below bAC)
  have HBAC := Lib.hid bAC
  have HBC := Lib.hid bC
  refine hK _ _ ⟨fun _ => ⟨bcellAt bAC x5, bcellAt bAC a5⟩, ?_⟩
  clear hK K
  refine lexg_do (i := 7) rfl (by kernel_rfl) (by rfl) (fun K hK => ?_)
  refine wp_append_at _ _ _ 22 rfl (nb + 2) TrT i0 (.agg #[.int .i64 0, .int .i64 0, .int .i64 0, .int .u64 0, .string ⟨#[]⟩, .slice none 0 0]) 6 72 Tryd.underlying22 hi0 hz0 hz1 hz2 rfl (by decide) (.slice za1 1 zc1) 1 ([] ++ [.int .i64 (n0).kind, .int .i64 (n0).frm, .int .i64 (n0).to, .int .u64 (n0).num, .string (n0).text, .slice va0 (k0).len vc0]) rfl hownC ⟨w3.heap.size, 0, none⟩ 1 1 [.int .i64 (n1).kind, .int .i64 (n1).frm, .int .i64 (n1).to, .int .u64 (n1).num, .string (n1).text, .slice va1 (k1).len vc1] rfl (by decide) rfl (news6 w3 _ _ _ _ _ _ _) (by simp [Value.oneCell']) (by unfold maxLen; omega) (by omega) (by have := HSZ1.out; have := bAC.size; omega) ?_
  intro v5 w5 hown5 hg5 hp5
  obtain ⟨za2, zc2, rfl⟩ := (row_of_own hown5).shape
  have hyo : ∀ g, (Value.slice za1 1 zc1).ownBlock = some g → nb + 2 ≤ g ∧ g < wr1.heap.size := fun g e => by
    obtain ⟨hB, cur, hc⟩ := own_type HOWN1.out e
    exact ⟨hB, (Array.getElem?_eq_some_iff.1 hc).1⟩
  have hkb : ∀ (b : Nat) (u : Obj), wr1.heap[b]? = some u → (Value.slice za1 1 zc1).ownBlock ≠ some b → w5.heap[b]? = some u := fun b u h hn => by
    have hl := (Array.getElem?_eq_some_iff.1 h).1
    rw [hg5.block b (Nat.lt_of_lt_of_le hl HBAC.out.size) (fun e => hn e.symm), HBAC.out.block b hl]; exact h
  have hkb1 : ∀ (b : Nat) (u : Obj), w3.heap[b]? = some u → wr1.heap.size ≤ b → w5.heap[b]? = some u := fun b u h hn => by
    have hl := (Array.getElem?_eq_some_iff.1 h).1
    rw [hg5.block b (Nat.lt_of_lt_of_le hl HBC.out.size) (fun e => by have := (hyo b e.symm).2; omega), HBC.out.block b hl]; exact h
  have hx5 := hkb _ _ HX1.out (fun e => by have := (hyo _ e).1; omega)
  have hn5 := hkb _ _ HN1.out (fun e => by have := (hyo _ e).1; omega)
  have hres5 := hkb _ _ HR1.out (fun e => by have := (hyo _ e).1; have := HNB.out; omega)
  have hF5 : w5.cell? ⟨nb + 1, 5, none⟩ = some (.slice za1 1 zc1) ∧ w5.cell? ⟨nb, 6, none⟩ = some (.int .i64 xb) := ⟨cellB hx5 rfl, cellB hn5 rfl⟩
  have hhold : ∀ T : TypeId, T ≠ TrT → Hold T wr1 w5 := fun T hT => (Hold.below HBAC.out).trans (hold_row (own_hold HOWN1.out (Hold.below HBAC.out)) hg5 hT)
  have HP5 := Lib.hid (HP1.out.hold (hhold _ (by decide)) (hhold _ (by decide)) (hhold _ (by decide)))
  have HKB := Lib.hid hkb
  have HKB1 := Lib.hid hkb1
  have HYO := Lib.hid hyo
  have HG5 := Lib.hid hg5
  have HPW := Lib.hid hp5
  have HOWN5 := Lib.hid hown5
  clear hkb hkb1 hyo hg5 hp5 hown5 hownC bA bC bAC u3 hhold
  refine hK _ _ ⟨fun _ => hF5, ?_⟩
  clear hK K
  try simp only [Act.put, List.setIfInBounds_toArray, List.set_cons_zero, List.set_cons_succ]
  refine lexg_take (i := 8) (v := ?_) rfl (by decide) (by kernel_rfl) (by kernel_rfl) (by kernel_rfl) (by kernel_rfl) (by rfl) hF5 ?_ ?_
  rotate_left
  · ((intro W hW; obtain ⟨q0, q1⟩ := hW; go_simp) <;> with_reducible rfl)
  simp only [Act.put, List.setIfInBounds_toArray, List.set_cons_zero, List.set_cons_succ]
  have x5' := cellB (j := 5) hx5 rfl
  have f5 := frozenB (j := 5) hx5
  refine lexg_do (i := 9) rfl (by kernel_rfl) (by rfl) (fun K hK => ?_)
  go_simp
  have hx6 := setCellB (j := 5) (u := .slice za2 2 zc2) hx5
  have HX2 := Lib.hid hx6
  have HGS := Lib.hid (grownBy_set w5 (nb + 1) 5 (.slice za2 2 zc2))
  have HP2 := Lib.hid (HP5.out.hold (Hold.setCell (o := 5) (v := .slice za2 2 zc2) hx5 (by decide)) (Hold.setCell (o := 5) (v := .slice za2 2 zc2) hx5 (by decide)) (Hold.setCell (o := 5) (v := .slice za2 2 zc2) hx5 (by decide)))
  have HN5 := Lib.hid hn5
  have HR5 := Lib.hid hres5
  refine hK _ _ ⟨fun h => absurd rfl h, ?_⟩
  clear hK K x5' f5 hF5 hF0 hx5 hx6 hn5 hres5 x5 a5
  refine lexg_done (by kernel_rfl) ?_
  generalize (w5.setCell ⟨nb + 1, 5, none⟩ (.slice za2 2 zc2)) = wr2 at *
  have hyo3 : ∀ g, (Value.slice za2 2 zc2).ownBlock = some g → nb + 2 ≤ g := fun g e => (own_type HOWN5.out e).1
  have h34 : ∀ (b : Nat) (u : Obj), w5.heap[b]? = some u → b ≠ nb + 1 → wr2.heap[b]? = some u := fun b u h hn => by
    rw [HGS.out.block b (Array.getElem?_eq_some_iff.1 h).1 (fun e => hn (by cases e; rfl))]; exact h
  have HN2 := Lib.hid (h34 _ _ HN5.out (by omega))
  have HR2 := Lib.hid (h34 _ _ HR5.out (by have := HNB.out; omega))
  have HBR2 : Hid (Below w.heap.size w wr2) := Lib.hid (((HBR1.out.trans (HBAC.out.mono HBR1.out.size)).grown HG5.out (by have := HBAC.out.size; have := HBR1.out.size; omega) (fun g e => by have := (HYO.out g e).1; have := HNB.out; omega)).grown HGS.out (by have := HG5.out.size; have := HBAC.out.size; have := HBR1.out.size; omega) (fun g e => by cases e; have := HNB.out; omega))
  have HSZ2 : Hid (nb + 2 ≤ wr2.heap.size) := Lib.hid (by have := HG5.out.size; have := HBAC.out.size; have := HGS.out.size; have := HSZ1.out; omega)
  have HOWN2 := Lib.hid (own_kept HOWN5.out HGS.out (fun r e e' => by cases e; have := hyo3 _ e'; omega))
  have hrow4 : RowF wr2 (ButT (nb + 2) (Value.slice za2 2 zc2).ownBlock wr2) [(n0, k0)] ([] ++ [.int .i64 (n0).kind, .int .i64 (n0).frm, .int .i64 (n0).to, .int .u64 (n0).num, .string (n0).text, .slice va0 (k0).len vc0]) := HROW1.out.keep (fun bb hg hl => by
    obtain ⟨q1, q2, cs, q3⟩ := hg
    have q4 := h34 _ _ (HKB.out _ _ q3 q2) (by omega)
    refine ⟨⟨q1, fun e => ?_, cs, q4⟩, by rw [q4, q3]⟩
    rcases HPW.out with h | h
    · exact q2 (h.symm.trans e)
    · rw [h] at e; cases e; have := HBAC.out.size; omega)
  have hkid4 : IsK wr2 (ButT (nb + 2) (Value.slice za2 2 zc2).ownBlock wr2) (.slice va1 (k1).len vc1) k1 := hk1.keep (fun bb hg hl => by
    obtain ⟨q1, cs, q3⟩ := hg
    have q1' : wr1.heap.size ≤ bb := q1
    have q4 := h34 _ _ (HKB1.out _ _ q3 q1') (by have := HSZ1.out; omega)
    refine ⟨⟨by have := HSZ1.out; omega, fun e => ?_, cs, q4⟩, by rw [q4, q3]⟩
    rcases HPW.out with h | h
    · have := (HYO.out bb (h.symm.trans e)).2; omega
    · rw [h] at e; cases e; have := HBC.out.size; omega)
  have HROW2 := Lib.hid (RowF.snoc (n := n1) hkid4 hrow4)
  have HO1 := Lib.hid ho1
  have HRP1 := Lib.hid (hr1 HIN1.out)
  clear hyo3 h34 hrow4 hkid4 hk1 ho1 hr1 HKB HKB1 HYO HG5 HPW HOWN5 HGS HBAC HBC HKID HP5 HN5 HR5 HX1 HN1 HR1 HBR1 HSZ1 HOWN1 HROW1 HP1
  have hb := HR2.out
  have hx := HX2.out
  have r0 := cellB (j := 0) hb rfl
  have s0 := frozenB (j := 0) hb
  have r1 := cellB (j := 1) hb rfl
  have s1 := frozenB (j := 1) hb
  have r2 := cellB (j := 2) hb rfl
  have s2 := frozenB (j := 2) hb
  have r3 := cellB (j := 3) hb rfl
  have s3 := frozenB (j := 3) hb
  have r4 := cellB (j := 4) hb rfl
  have s4 := frozenB (j := 4) hb
  have r5 := cellB (j := 5) hb rfl
  have s5 := frozenB (j := 5) hb
  have z0 := cellB (j := 0) hx rfl
  have z1 := cellB (j := 1) hx rfl
  have z2 := cellB (j := 2) hx rfl
  have z3 := cellB (j := 3) hx rfl
  have z4 := cellB (j := 4) hx rfl
  have z5 := cellB (j := 5) hx rfl
  have h6 : ((((((wr2.setCell ⟨w.heap.size, 0, none⟩ (.int .i64 kk)).setCell ⟨w.heap.size, 1, none⟩ (.int .i64 ff)).setCell ⟨w.heap.size, 2, none⟩ (.int .i64 tt)).setCell ⟨w.heap.size, 3, none⟩ (.int .u64 uu)).setCell ⟨w.heap.size, 4, none⟩ (.string ss)).setCell ⟨w.heap.size, 5, none⟩ (.slice za2 2 zc2)).heap[w.heap.size]? = some (Obj.cells #[.int .i64 kk, .int .i64 ff, .int .i64 tt, .int .u64 uu, .string ss, .slice za2 2 zc2] TrT) := (setCellB (j := 5) (u := .slice za2 2 zc2) (setCellB (j := 4) (u := .string ss) (setCellB (j := 3) (u := .int .u64 uu) (setCellB (j := 2) (u := .int .i64 tt) (setCellB (j := 1) (u := .int .i64 ff) (setCellB (j := 0) (u := .int .i64 kk) hb))))))
  have hg6 : wr2.grownBy ((((((wr2.setCell ⟨w.heap.size, 0, none⟩ (.int .i64 kk)).setCell ⟨w.heap.size, 1, none⟩ (.int .i64 ff)).setCell ⟨w.heap.size, 2, none⟩ (.int .i64 tt)).setCell ⟨w.heap.size, 3, none⟩ (.int .u64 uu)).setCell ⟨w.heap.size, 4, none⟩ (.string ss)).setCell ⟨w.heap.size, 5, none⟩ (.slice za2 2 zc2)) (some w.heap.size) := ((((((grownBy_set _ _ _ _).trans (grownBy_set _ _ _ _)).trans (grownBy_set _ _ _ _)).trans (grownBy_set _ _ _ _)).trans (grownBy_set _ _ _ _)).trans (grownBy_set _ _ _ _))
  have HG6 := Lib.hid hg6
  have H6 := Lib.hid h6
  clear hb hx h6 hg6
  go_wp2_with fail
  have h6 := H6.out
  generalize ((((((wr2.setCell ⟨w.heap.size, 0, none⟩ (.int .i64 kk)).setCell ⟨w.heap.size, 1, none⟩ (.int .i64 ff)).setCell ⟨w.heap.size, 2, none⟩ (.int .i64 tt)).setCell ⟨w.heap.size, 3, none⟩ (.int .u64 uu)).setCell ⟨w.heap.size, 4, none⟩ (.string ss)).setCell ⟨w.heap.size, 5, none⟩ (.slice za2 2 zc2)) = w6 at *
  clear r0 r1 r2 r3 r4 r5 s0 s1 s2 s3 s4 s5 z0 z1 z2 z3 z4 z5
  have d0 := cellB (j := 0) h6 rfl
  have d1 := cellB (j := 1) h6 rfl
  have d2 := cellB (j := 2) h6 rfl
  have d3 := cellB (j := 3) h6 rfl
  have d4 := cellB (j := 4) h6 rfl
  have d5 := cellB (j := 5) h6 rfl
  refine bodyPost_ret (v := .agg #[.int .i64 kk, .int .i64 ff, .int .i64 tt, .int .u64 uu, .string ss, .slice za2 2 zc2]) (by simp [results, Tryd.results23, go_sem, d0, d1, d2, d3, d4, d5]) rfl ?_
  have hnb := HNB.out
  have hb6 : Below w.heap.size w w6 := HBR2.out.grown HG6.out HBR2.out.size (fun g e => by cases e; omega)
  have hown6 := own_kept HOWN2.out HG6.out (fun r e e' => by cases e; have := (own_type HOWN2.out e').1; omega)
  have hrow6 : RowF w6 (NewT w w6) [(n0, k0), (n1, k1)] (([] ++ [.int .i64 (n0).kind, .int .i64 (n0).frm, .int .i64 (n0).to, .int .u64 (n0).num, .string (n0).text, .slice va0 (k0).len vc0]) ++ [.int .i64 (n1).kind, .int .i64 (n1).frm, .int .i64 (n1).to, .int .u64 (n1).num, .string (n1).text, .slice va1 (k1).len vc1]) := HROW2.out.keep (fun bb hg hl => by
    obtain ⟨p1, p2, cs, p3⟩ := hg
    have p4 : w6.heap[bb]? = some (Obj.cells cs TrT) := by rw [HG6.out.block bb (Array.getElem?_eq_some_iff.1 p3).1 (fun e => by cases e; omega)]; exact p3
    exact ⟨⟨by omega, cs, p4⟩, by rw [p4, p3]⟩)
  have hfin := isK_row (G := NewT w w6) (zs := []) (by rw [List.append_nil]; exact hown6) rfl (Nat.le_refl _) hrow6 (fun b e => by
    obtain ⟨p1, cs, p2⟩ := own_type hown6 e
    exact ⟨by omega, cs, p2⟩)
  refine ⟨⟨kk, ff, tt, uu, ss, 0, 0⟩, (.cons n0 k0 (.cons n1 k1 .nil)), _, rfl, hfin, HOKB.out _ ?_, hb6, fun _ => HREP.out _ ?_, fun h => by rw [HIN.out] at h; cases h⟩
  · exact ⟨HO0.out.1, HO0.out.2.1, HO0.out.2.2.1, HO0.out.2.2.2.1, ⟨HO1.out.1, HO1.out.2.1, HO1.out.2.2.1, HO1.out.2.2.2.1, trivial⟩⟩
  · exact ⟨HRP0.out.1, HRP0.out.2.1, ⟨HRP1.out.1, HRP1.out.2.1, trivial⟩⟩

set_option maxRecDepth 100000 in
set_option maxHeartbeats 6400000 in
theorem rtree_out {t : Int} (hin : inP p t = false) : RTreeC B a vl vs vd p t := by
  intro w hp
  have bA := bZ w (.cells #[.int .i64 0, .int .i64 0, .int .i64 0, .int .u64 0, .string ⟨#[]⟩, .slice none 0 0] TrT)
  have hb : (w.alloc (.cells #[.int .i64 0, .int .i64 0, .int .i64 0, .int .u64 0, .string ⟨#[]⟩, .slice none 0 0] TrT)).heap[w.heap.size]? = some (Obj.cells #[.int .i64 0, .int .i64 0, .int .i64 0, .int .u64 0, .string ⟨#[]⟩, .slice none 0 0] TrT) := heap_alloc_new _ _
  have HNO := Lib.hid (rnode (hp.below bA) t)
  have HB := Lib.hid hb
  have HA := Lib.hid bA
  have HIN := Lib.hid hin
  rw [hin] at HNO
  clear hp bA hb hin
  generalize (atP p t).1 = m at *
  obtain ⟨kk, ff, tt, uu, ss, xa, xb⟩ := m
  simp only [nodeA] at *
  go_enter Tryd.func23, Tryd.ntmps23
  go_wp2_with fail
  generalize (w.alloc (.cells #[.int .i64 0, .int .i64 0, .int .i64 0, .int .u64 0, .string ⟨#[]⟩, .slice none 0 0] TrT)) = W at *
  refine HNO.out.mono ?_
  rintro e w1 ⟨rfl, u1⟩
  have b1 := bZ w1 (.cells #[.int .i64 kk, .int .i64 ff, .int .i64 tt, .int .u64 uu, .string ss, .int .i64 xa, .int .i64 xb] NodeT)
  have hb := Hold.below (bmore u1 b1) _ _ HB.out
  have HA1 := Lib.hid (bmore HA.out (bmore u1 b1))
  have r0 := cellB (j := 0) hb rfl
  have s0 := frozenB (j := 0) hb
  have r1 := cellB (j := 1) hb rfl
  have s1 := frozenB (j := 1) hb
  have r2 := cellB (j := 2) hb rfl
  have s2 := frozenB (j := 2) hb
  have r3 := cellB (j := 3) hb rfl
  have s3 := frozenB (j := 3) hb
  have r4 := cellB (j := 4) hb rfl
  have s4 := frozenB (j := 4) hb
  have r5 := cellB (j := 5) hb rfl
  have s5 := frozenB (j := 5) hb
  have h6 : (((((((w1.alloc (.cells #[.int .i64 kk, .int .i64 ff, .int .i64 tt, .int .u64 uu, .string ss, .int .i64 xa, .int .i64 xb] NodeT)).setCell ⟨w.heap.size, 0, none⟩ (.int .i64 0)).setCell ⟨w.heap.size, 1, none⟩ (.int .i64 0)).setCell ⟨w.heap.size, 2, none⟩ (.int .i64 0)).setCell ⟨w.heap.size, 3, none⟩ (.int .u64 0)).setCell ⟨w.heap.size, 4, none⟩ (.string ⟨#[]⟩)).setCell ⟨w.heap.size, 5, none⟩ (.slice none 0 0)).heap[w.heap.size]? = some (Obj.cells #[.int .i64 0, .int .i64 0, .int .i64 0, .int .u64 0, .string ⟨#[]⟩, .slice none 0 0] TrT) := (setCellB (j := 5) (u := .slice none 0 0) (setCellB (j := 4) (u := .string ⟨#[]⟩) (setCellB (j := 3) (u := .int .u64 0) (setCellB (j := 2) (u := .int .i64 0) (setCellB (j := 1) (u := .int .i64 0) (setCellB (j := 0) (u := .int .i64 0) hb))))))
  have hb6 : Below w.heap.size w (((((((w1.alloc (.cells #[.int .i64 kk, .int .i64 ff, .int .i64 tt, .int .u64 uu, .string ss, .int .i64 xa, .int .i64 xb] NodeT)).setCell ⟨w.heap.size, 0, none⟩ (.int .i64 0)).setCell ⟨w.heap.size, 1, none⟩ (.int .i64 0)).setCell ⟨w.heap.size, 2, none⟩ (.int .i64 0)).setCell ⟨w.heap.size, 3, none⟩ (.int .u64 0)).setCell ⟨w.heap.size, 4, none⟩ (.string ⟨#[]⟩)).setCell ⟨w.heap.size, 5, none⟩ (.slice none 0 0)) := ((((((HA1.out.setCell (p := ⟨w.heap.size, 0, none⟩) (Nat.le_refl _) _).setCell (p := ⟨w.heap.size, 1, none⟩) (Nat.le_refl _) _).setCell (p := ⟨w.heap.size, 2, none⟩) (Nat.le_refl _) _).setCell (p := ⟨w.heap.size, 3, none⟩) (Nat.le_refl _) _).setCell (p := ⟨w.heap.size, 4, none⟩) (Nat.le_refl _) _).setCell (p := ⟨w.heap.size, 5, none⟩) (Nat.le_refl _) _)
  have HB6 := Lib.hid hb6
  have H6 := Lib.hid h6
  clear u1 b1 hb hb6 h6
  go_wp2_with fail
  have h6 := H6.out
  generalize (((((((w1.alloc (.cells #[.int .i64 kk, .int .i64 ff, .int .i64 tt, .int .u64 uu, .string ss, .int .i64 xa, .int .i64 xb] NodeT)).setCell ⟨w.heap.size, 0, none⟩ (.int .i64 0)).setCell ⟨w.heap.size, 1, none⟩ (.int .i64 0)).setCell ⟨w.heap.size, 2, none⟩ (.int .i64 0)).setCell ⟨w.heap.size, 3, none⟩ (.int .u64 0)).setCell ⟨w.heap.size, 4, none⟩ (.string ⟨#[]⟩)).setCell ⟨w.heap.size, 5, none⟩ (.slice none 0 0)) = w6 at *
  clear r0 r1 r2 r3 r4 r5 s0 s1 s2 s3 s4 s5
  have d0 := cellB (j := 0) h6 rfl
  have d1 := cellB (j := 1) h6 rfl
  have d2 := cellB (j := 2) h6 rfl
  have d3 := cellB (j := 3) h6 rfl
  have d4 := cellB (j := 4) h6 rfl
  have d5 := cellB (j := 5) h6 rfl
  refine bodyPost_ret (v := .agg #[.int .i64 0, .int .i64 0, .int .i64 0, .int .u64 0, .string ⟨#[]⟩, .slice none 0 0]) (by simp [results, Tryd.results23, go_sem, d0, d1, d2, d3, d4, d5]) rfl ?_
  have z : i64R 0 := i64R_lit (by omega)
  exact ⟨zeroN, .nil, _, rfl, IsK.nils _ _ _ _ (by decide), ⟨nok_zero, rfl, rfl, trivial, trivial⟩, HB6.out, (fun h => absurd h (by rw [HIN.out]; decide)), fun _ => ⟨rfl, rfl⟩⟩
theorem rtree_any (hok : Ok p) : ∀ (n : Nat) (t : Int), t.toNat ≤ n → RTreeC B a vl vs vd p t := by
  intro n
  induction n with
  | zero =>
    intro t ht
    have hin : inP p t = false := by
      cases h : inP p t with
      | false => rfl
      | true => simp only [inP, Bool.and_eq_true, decide_eq_true_eq] at h; omega
    exact rtree_out hin
  | succ n ih =>
    intro t ht
    cases hin : inP p t with
    | false => exact rtree_out hin
    | true =>
      have hless := hok.less_at hin
      have hki := kids_in hok hin
      have hpos : 1 ≤ t := by simp only [inP, Bool.and_eq_true, decide_eq_true_eq] at hin; exact hin.1
      rcases kids_cases (atP p t).1.kind with h | h | h
      · exact rtree_zero hin h
      · exact rtree_one hin h (ih _ (by omega)) (hki.1 (by omega))
      · exact rtree_two hin h (ih _ (by omega)) (hki.1 (by omega)) (ih _ (by omega)) (hki.2 h)
theorem rtree {w : World} (hp : IsRef w B a vl vs vd p) (t : Int) : Calls Tryd.prog 23 #[.pointer (some ⟨a, 0, none⟩), .int .i64 t] w (TreePost w p t) := rtree_any hp.ok t.toNat t (Nat.le_refl _) w hp
end
end Go.Proofs.YtgaklaajbepfaaaDoor
namespace Go.Proofs.YtgaklaajbepfaaaDoor
open Go.RowKit Go.Maps
set_option linter.unusedVariables false

theorem nd_ext {x y : Nd} (hx : x.a = 0 ∧ x.b = 0) (hy : y.a = 0 ∧ y.b = 0) : x = y ↔ x.kind = y.kind ∧ x.frm = y.frm ∧ x.to = y.to ∧ x.num = y.num ∧ x.text = y.text :=
  ⟨fun e => by subst e; exact ⟨rfl, rfl, rfl, rfl, rfl⟩, fun ⟨h1, h2, h3, h4, h5⟩ => Nd.eq_of h1 h2 h3 h4 h5 (hx.1.trans hy.1.symm) (hx.2.trans hy.2.symm)⟩
theorem bne_of {x y : Int} : (x != y) = !decide (x = y) := by by_cases h : x = y <;> simp [h]
theorem sne_of {x y : ByteArray} : (x.toList == y.toList) = decide (x = y) := by
  by_cases h : x = y
  · subst h; simp
  · rw [decide_eq_false h]; exact ne_bytes h

section
variable {G G' : Nat → Prop}
def SameC (G G' : Nat → Prop) (n : Nd) (k : Fo) : Prop := ∀ (n2 : Nd) (k2 : Fo) (w : World) (v v2 : Value), IsK w G v k → IsK w G' v2 k2 → n.a = 0 ∧ n.b = 0 → n2.a = 0 ∧ n2.b = 0 → Bare k → Bare k2 →
  Calls Tryd.prog 21 #[.agg (treeA n v), .agg (treeA n2 v2)] w fun e w' => e = .returned (.bool (decide (n = n2 ∧ k = k2))) ∧ Below w.heap.size w w'
set_option maxRecDepth 100000 in
set_option maxHeartbeats 12800000 in
theorem same_step (n : Nd) (k : Fo) (ih : AllF (SameC G G') k) : SameC G G' n k := by
  intro n2 k2 w v v2 hk hk2 ha ha2 hbk hbk2
  have b1 : Below w.heap.size w (w.alloc (.cells (treeA n v) TrT)) := bZ _ _
  have h1 : (w.alloc (.cells (treeA n v) TrT)).heap[w.heap.size]? = some (Obj.cells (treeA n v) TrT) := heap_alloc_new _ _
  have b2 : Below (w.alloc (.cells (treeA n v) TrT)).heap.size (w.alloc (.cells (treeA n v) TrT)) ((w.alloc (.cells (treeA n v) TrT)).alloc (.cells (treeA n2 v2) TrT)) := bZ _ _
  have h3 : ((w.alloc (.cells (treeA n v) TrT)).alloc (.cells (treeA n2 v2) TrT)).heap[w.heap.size + 1]? = some (Obj.cells (treeA n2 v2) TrT) := by
    have e : w.heap.size + 1 = (w.alloc (.cells (treeA n v) TrT)).heap.size := by simp
    rw [e]; exact heap_alloc_new _ _
  have b12 := b1.trans (b2.mono b1.size)
  have h2 := Hold.below b2 _ _ h1
  obtain ⟨av, cv, rfl, hx⟩ := (hk.below b12).shape
  obtain ⟨bv, dv, rfl, hx2⟩ := (hk2.below b12).shape
  have hlen := hk.small
  have hlen2 := hk2.small
  unfold maxLen at hlen hlen2
  have HX := Lib.hid hx
  have HX2 := Lib.hid hx2
  have HI := Lib.hid ih
  have HB := Lib.hid h2
  have HB2 := Lib.hid h3
  have HA := Lib.hid b12
  have HK := Lib.hid hbk
  have HK2 := Lib.hid hbk2
  obtain ⟨c1, hc1⟩ : ∃ c, decide (n.kind = n2.kind) = c := ⟨_, rfl⟩
  obtain ⟨c2, hc2⟩ : ∃ c, decide (n.frm = n2.frm) = c := ⟨_, rfl⟩
  obtain ⟨c3, hc3⟩ : ∃ c, decide (n.to = n2.to) = c := ⟨_, rfl⟩
  obtain ⟨c4, hc4⟩ : ∃ c, decide (n.num = n2.num) = c := ⟨_, rfl⟩
  obtain ⟨c5, hc5⟩ : ∃ c, decide (n.text = n2.text) = c := ⟨_, rfl⟩
  obtain ⟨c6, hc6⟩ : ∃ c, decide ((k.len : Int) = (k2.len : Int)) = c := ⟨_, rfl⟩
  have HR : Hid (decide (n = n2 ∧ k = k2) = (c1 && c2 && c3 && c4 && c5 && c6 && decide (k = k2))) := Lib.hid (by
    subst hc1 hc2 hc3 hc4 hc5 hc6
    rw [Bool.eq_iff_iff]
    simp only [decide_eq_true_eq, Bool.and_eq_true]
    rw [nd_ext ha ha2]
    constructor
    · rintro ⟨⟨f1, f2, f3, f4, f5⟩, f6⟩; exact ⟨⟨⟨⟨⟨⟨f1, f2⟩, f3⟩, f4⟩, f5⟩, by rw [f6]⟩, f6⟩
    · rintro ⟨⟨⟨⟨⟨⟨h1, h2⟩, h3⟩, h4⟩, h5⟩, h6⟩, h7⟩; exact ⟨⟨h1, h2, h3, h4, h5⟩, h7⟩)
  generalize decide (n = n2 ∧ k = k2) = rr at *
  have g1 : (n.kind != n2.kind) = !c1 := by rw [bne_of, hc1]
  have g2 : (n.frm != n2.frm) = !c2 := by rw [bne_of, hc2]
  have g3 : (n.to != n2.to) = !c3 := by rw [bne_of, hc3]
  have g4 : (n.num != n2.num) = !c4 := by rw [bne_of, hc4]
  have g5 : (n.text.toList == n2.text.toList) = c5 := by rw [sne_of, hc5]
  have g6 : ((k.len : Int) != (k2.len : Int)) = !c6 := by rw [bne_of, hc6]
  have HC6 := Lib.hid hc6
  clear hk hk2 hx hx2 ih b1 b2 b12 h1 ha ha2 hbk hbk2 hc1 hc2 hc3 hc4 hc5 hc6
  obtain ⟨kk, ff, tt, uu, ss, xa, xb⟩ := n
  obtain ⟨kk', ff', tt', uu', ss', xa', xb'⟩ := n2
  simp only [treeA] at *
  have y0 := cellB (j := 0) h2 rfl
  have y1 := cellB (j := 1) h2 rfl
  have y2 := cellB (j := 2) h2 rfl
  have y3 := cellB (j := 3) h2 rfl
  have y4 := cellB (j := 4) h2 rfl
  have y5 := cellB (j := 5) h2 rfl
  have z0 := cellB (j := 0) h3 rfl
  have z1 := cellB (j := 1) h3 rfl
  have z2 := cellB (j := 2) h3 rfl
  have z3 := cellB (j := 3) h3 rfl
  have z4 := cellB (j := 4) h3 rfl
  have z5 := cellB (j := 5) h3 rfl
  clear h2 h3
  cases c1 with
  | false =>
    have HR1 : Hid (rr = false) := Lib.hid (by rw [HR.out]; simp)
    go_enter Tryd.func21, Tryd.ntmps21
    go_wp2_with fail
    go_returns
    exact ⟨by rw [HR1.out]; rfl, HA.out⟩
  | true =>
    cases c2 with
    | false =>
      have HR1 : Hid (rr = false) := Lib.hid (by rw [HR.out]; simp)
      go_enter Tryd.func21, Tryd.ntmps21
      go_wp2_with fail
      go_returns
      exact ⟨by rw [HR1.out]; rfl, HA.out⟩
    | true =>
      cases c3 with
      | false =>
        have HR1 : Hid (rr = false) := Lib.hid (by rw [HR.out]; simp)
        go_enter Tryd.func21, Tryd.ntmps21
        go_wp2_with fail
        go_returns
        exact ⟨by rw [HR1.out]; rfl, HA.out⟩
      | true =>
        cases c4 with
        | false =>
          have HR1 : Hid (rr = false) := Lib.hid (by rw [HR.out]; simp)
          go_enter Tryd.func21, Tryd.ntmps21
          go_wp2_with fail
          go_returns
          exact ⟨by rw [HR1.out]; rfl, HA.out⟩
        | true =>
          cases c5 with
          | false =>
            have HR1 : Hid (rr = false) := Lib.hid (by rw [HR.out]; simp)
            go_enter Tryd.func21, Tryd.ntmps21
            go_wp2_with fail
            go_returns
            exact ⟨by rw [HR1.out]; rfl, HA.out⟩
          | true =>
            cases c6 with
            | false =>
              have HR1 : Hid (rr = false) := Lib.hid (by rw [HR.out]; simp)
              go_enter Tryd.func21, Tryd.ntmps21
              go_wp2_with fail
              go_returns
              exact ⟨by rw [HR1.out]; rfl, HA.out⟩
            | true =>
              have HLEN : Hid (k.len = k2.len) := Lib.hid (by have := of_decide_eq_true HC6.out; omega)
              have HR1 : Hid (rr = decide (k = k2)) := Lib.hid (by rw [HR.out]; simp)
              clear HR HC6
              go_enter Tryd.func21, Tryd.ntmps21
              go_wp2_with fail
              generalize ((w.alloc (.cells #[.int .i64 kk, .int .i64 ff, .int .i64 tt, .int .u64 uu, .string ss, .slice av k.len cv] TrT)).alloc (.cells #[.int .i64 kk', .int .i64 ff', .int .i64 tt', .int .u64 uu', .string ss', .slice bv k2.len dv] TrT)) = W at *
              go_loopw [5] (fun vi wr => ∃ (i : Nat) (r r2 : Fo), vi = .int .i64 (i : Int) ∧ i + r.len = k.len ∧ r.len = r2.len ∧ (k = k2 ↔ r = r2) ∧ AllF (SameC G G') r ∧ Bare r ∧ Bare r2 ∧ (0 < r.len → ∃ b o, av = some ⟨b, o, none⟩ ∧ AtF W G r b (o + i * 6)) ∧ (0 < r.len → ∃ b o, bv = some ⟨b, o, none⟩ ∧ AtF W G' r2 b (o + i * 6)) ∧ Below W.heap.size W wr) (fun v _ => k.len - (intOf v).toNat)
              case atStart => exact ⟨0, k, k2, rfl, by omega, HLEN.out, Iff.rfl, HI.out, HK.out, HK2.out, fun hp => by obtain ⟨b, o, q1, _, q3⟩ := HX.out hp; exact ⟨b, o, q1, by simpa using q3⟩, fun hp => by obtain ⟨b, o, q1, _, q3⟩ := HX2.out (by rw [← HLEN.out]; exact hp); exact ⟨b, o, q1, by simpa using q3⟩, Below.refl _ _⟩
              case round =>
                obtain ⟨i, r, r2, rfl, hi, hrl, hiff, hall, hbr1, hbr2, hat, hat2, hbr⟩ := hrel
                have z5' := cellB (j := 5) (Hold.below hbr _ _ HB.out) rfl
                have z5'' := cellB (j := 5) (Hold.below hbr _ _ HB2.out) rfl
                have HBR := Lib.hid hbr
                clear hbr y0 y1 y2 y3 y4 y5 z0 z1 z2 z3 z4 z5
                by_cases hlt : 0 < r.len
                · obtain ⟨n', k', q, rfl⟩ := fo_pos hlt
                  obtain ⟨n2', k2', q', rfl⟩ := fo_pos (show 0 < r2.len by omega)
                  simp only [Fo.len] at hi hrl
                  obtain ⟨b, o, rfl, hat'⟩ := hat hlt
                  obtain ⟨b2, o2, rfl, hat2'⟩ := hat2 hlt
                  obtain ⟨c0, c1, c2, c3, c4, v', c5, hk', hatr⟩ := hat'.cons
                  obtain ⟨e0, e1, e2, e3, e4, v2', e5, hk2', hatr2⟩ := hat2'.cons
                  obtain ⟨av', cv', rfl, _⟩ := hk'.shape
                  obtain ⟨bv', dv', rfl, _⟩ := hk2'.shape
                  obtain ⟨ba, bb, bk, bq⟩ := hbr1
                  obtain ⟨ba', bb', bk', bq'⟩ := hbr2
                  have hkr := hk'.below HBR.out
                  have hkr2 := hk2'.below HBR.out
                  have HS := Lib.hid (fun (V : World) (hV : Below wr.heap.size wr V) => hall.1 n2' k2' V (.slice av' k'.len cv') (.slice bv' k2'.len dv') (hkr.below hV) (hkr2.below hV) ⟨ba, bb⟩ ⟨ba', bb'⟩ bk bk')
                  have HD1 : Hid (decide (n' = n2' ∧ k' = k2') = true → (k = k2 ↔ q = q')) := Lib.hid (fun h => by
                    have h' := of_decide_eq_true h
                    rw [hiff, h'.1, h'.2]
                    simp)
                  have HD2 : Hid (decide (n' = n2' ∧ k' = k2') = false → ¬ k = k2) := Lib.hid (fun h => by
                    have h' := of_decide_eq_false h
                    rw [hiff]
                    intro e
                    simp only [Fo.cons.injEq] at e
                    exact h' ⟨e.1, e.2.1⟩)
                  have HALL := Lib.hid hall.2
                  have HAT := Lib.hid hatr
                  have HAT2 := Lib.hid hatr2
                  have HBQ := Lib.hid bq
                  have HBQ2 := Lib.hid bq'
                  generalize decide (n' = n2' ∧ k' = k2') = dd at *
                  obtain ⟨p0, p1, p2, p3, p4, p5, p6⟩ := n'
                  obtain ⟨q0, q1, q2, q3, q4, q5, q6⟩ := n2'
                  simp only [treeA] at *
                  have hkeep : ∀ V : World, Below wr.heap.size wr V → V.cell? ⟨w.heap.size, 5, none⟩ = some (.slice (some ⟨b, o, none⟩) k.len cv) ∧ V.cell? ⟨w.heap.size + 1, 5, none⟩ = some (.slice (some ⟨b2, o2, none⟩) k2.len dv) ∧ V.cell? ⟨b, o + i * 6, none⟩ = some (.int .i64 p0) ∧ V.cell? ⟨b, o + i * 6 + 1, none⟩ = some (.int .i64 p1) ∧ V.cell? ⟨b, o + i * 6 + 2, none⟩ = some (.int .i64 p2) ∧ V.cell? ⟨b, o + i * 6 + 3, none⟩ = some (.int .u64 p3) ∧ V.cell? ⟨b, o + i * 6 + 4, none⟩ = some (.string p4) ∧ V.cell? ⟨b, o + i * 6 + 5, none⟩ = some (.slice av' k'.len cv') ∧ V.cell? ⟨b2, o2 + i * 6, none⟩ = some (.int .i64 q0) ∧ V.cell? ⟨b2, o2 + i * 6 + 1, none⟩ = some (.int .i64 q1) ∧ V.cell? ⟨b2, o2 + i * 6 + 2, none⟩ = some (.int .i64 q2) ∧ V.cell? ⟨b2, o2 + i * 6 + 3, none⟩ = some (.int .u64 q3) ∧ V.cell? ⟨b2, o2 + i * 6 + 4, none⟩ = some (.string q4) ∧ V.cell? ⟨b2, o2 + i * 6 + 5, none⟩ = some (.slice bv' k2'.len dv') ∧ Below wr.heap.size wr V := fun V hV => ⟨bcellAt hV z5', bcellAt hV z5'', bcellAt hV (bcellAt HBR.out c0), bcellAt hV (bcellAt HBR.out c1), bcellAt hV (bcellAt HBR.out c2), bcellAt hV (bcellAt HBR.out c3), bcellAt hV (bcellAt HBR.out c4), bcellAt hV (bcellAt HBR.out c5), bcellAt hV (bcellAt HBR.out e0), bcellAt hV (bcellAt HBR.out e1), bcellAt hV (bcellAt HBR.out e2), bcellAt hV (bcellAt HBR.out e3), bcellAt hV (bcellAt HBR.out e4), bcellAt hV (bcellAt HBR.out e5), hV⟩
                  have HKP := Lib.hid hkeep
                  clear hkeep hiff hall hat hat2 hat' hat2' hk' hk2' hatr hatr2 hkr hkr2 c0 c1 c2 c3 c4 c5 e0 e1 e2 e3 e4 e5 HX HX2 HI ba bb bk bq ba' bb' bk' bq'
                  have hi0 : (0 : Int) ≤ (i : Int) := by omega
                  have hi1 : (i : Int) < (k.len : Int) := by omega
                  have hi2 : (i : Int) < (k2.len : Int) := by have := HLEN.out; omega
                  go_wp2_with fail
                  go_region_held3 (fun w' => w'.cell? ⟨w.heap.size, 5, none⟩ = some (.slice (some ⟨b, o, none⟩) k.len cv) ∧ w'.cell? ⟨w.heap.size + 1, 5, none⟩ = some (.slice (some ⟨b2, o2, none⟩) k2.len dv) ∧ w'.cell? ⟨b, o + i * 6, none⟩ = some (.int .i64 p0) ∧ w'.cell? ⟨b, o + i * 6 + 1, none⟩ = some (.int .i64 p1) ∧ w'.cell? ⟨b, o + i * 6 + 2, none⟩ = some (.int .i64 p2) ∧ w'.cell? ⟨b, o + i * 6 + 3, none⟩ = some (.int .u64 p3) ∧ w'.cell? ⟨b, o + i * 6 + 4, none⟩ = some (.string p4) ∧ w'.cell? ⟨b, o + i * 6 + 5, none⟩ = some (.slice av' k'.len cv') ∧ w'.cell? ⟨b2, o2 + i * 6, none⟩ = some (.int .i64 q0) ∧ w'.cell? ⟨b2, o2 + i * 6 + 1, none⟩ = some (.int .i64 q1) ∧ w'.cell? ⟨b2, o2 + i * 6 + 2, none⟩ = some (.int .i64 q2) ∧ w'.cell? ⟨b2, o2 + i * 6 + 3, none⟩ = some (.int .u64 q3) ∧ w'.cell? ⟨b2, o2 + i * 6 + 4, none⟩ = some (.string q4) ∧ w'.cell? ⟨b2, o2 + i * 6 + 5, none⟩ = some (.slice bv' k2'.len dv') ∧ Below wr.heap.size wr w') ((refine HKP.out _ ?_; first | exact bdd _ _ | exact bd _ | exact bmore (by first | assumption | exact bdn _ _ | exact bd _ | exact Below.refl _ _) u1))
                    (((with_reducible refine (HS.out _ (by first | assumption | exact bdn _ _ | exact bd _ | exact Below.refl _ _)).mono ?_); rintro e w1 ⟨rfl, u1⟩))
                  have hx1 := bmore (bd wr) u1
                  have HB1 := Lib.hid (bmore HBR.out hx1)
                  clear hx1 u1 z5' z5''
                  cases dd with
                  | true =>
                    have HD := Lib.hid (HD1.out rfl)
                    clear HD1 HD2
                    go_wp2_with fail
                    go_roundw
                    case rel => exact ⟨i + 1, q, q', by go_num, by omega, by omega, HD.out, HALL.out, HBQ.out, HBQ2.out, fun _ => ⟨b, o, rfl, by rw [show o + (i + 1) * 6 = o + i * 6 + 6 by omega]; exact HAT.out⟩, fun _ => ⟨b2, o2, rfl, by rw [show o2 + (i + 1) * 6 = o2 + i * 6 + 6 by omega]; exact HAT2.out⟩, HB1.out⟩
                    case measure => simp [intOf]; omega
                  | false =>
                    have HD := Lib.hid (HD2.out rfl)
                    clear HD1 HD2
                    go_wp2_with fail
                    go_returns
                    exact ⟨by rw [HR1.out, decide_eq_false HD.out]; rfl, bmore HA.out HB1.out⟩
                · obtain rfl := fo_nil (show r.len = 0 by omega)
                  obtain rfl := fo_nil (show r2.len = 0 by simp only [Fo.len] at hrl; omega)
                  simp only [Fo.len, Nat.add_zero] at hi
                  subst hi
                  have HD := Lib.hid (hiff.2 rfl)
                  clear hiff hall hat hat2 HI HX HX2 hlt
                  go_wp2_with fail
                  go_returns
                  exact ⟨by rw [HR1.out, decide_eq_true HD.out]; rfl, bmore HA.out HBR.out⟩
theorem same_any (n : Nd) (k : Fo) : SameC G G' n k := tree_all same_step n k
end
end Go.Proofs.YtgaklaajbepfaaaDoor
namespace Go.Proofs.YtgaklaajbepfaaaDoor
open Go.RowKit Go.Maps Go.Shelf
set_option linter.unusedVariables false

theorem over_closed {p : Pl} {S : Int → Prop} (hS : ∀ x, S x → inP p x = true → S (atP p x).1.a ∧ S (atP p x).1.b) : ∀ (f : Nat) (t : Int) (acc : List Int), S t → ∀ x ∈ over p f t acc, x ∈ acc ∨ (S x ∧ inP p x = true)
  | 0, _, _, _, _, h => .inl h
  | f + 1, t, acc, ht, x, h => by
    by_cases hc : inP p t = true ∧ t ∉ acc
    · rw [over_in p f hc.1 hc.2] at h
      obtain ⟨ka, kb⟩ := hS t ht hc.1
      rcases List.mem_append.1 h with h | h
      · rcases over_closed hS f _ _ kb x h with h | h
        · exact over_closed hS f _ _ ka x h
        · exact .inr h
      · obtain rfl : x = t := by simpa using h
        exact .inr ⟨ht, hc.1⟩
    · rw [over_out p _ hc] at h; exact .inl h
theorem subs_closed {p : Pl} {S : Int → Prop} (hS : ∀ x, S x → inP p x = true → S (atP p x).1.a ∧ S (atP p x).1.b) {t : Int} (ht : S t) : ∀ x ∈ subs p t, S x ∧ inP p x = true := fun x hx => by
  rcases over_closed hS _ _ _ ht x hx with h | h
  · cases h
  · exact h
theorem subs_kids {q : Pl} (hq : Ok q) {t x : Int} (h : x ∈ subs q t) : ((atP q x).1.a = 0 ∨ (atP q x).1.a ∈ subs q t) ∧ ((atP q x).1.b = 0 ∨ (atP q x).1.b ∈ subs q t) := by
  obtain ⟨pre, suf, e⟩ := List.append_of_mem h
  obtain ⟨_, h1, h2⟩ := subs_cl hq t pre x suf e
  rw [e]
  exact ⟨h1.imp id fun h => List.mem_append_left _ h, h2.imp id fun h => List.mem_append_left _ h⟩
theorem Anew.out {kf : Nd → Int} {q : Pl} {T : Int} {p : Pl} {m : Int → Option Int} (h : Anew kf q T p m) {x : Int} (hx : m x = some 0) : x = 0 := by
  rcases h.at_ x 0 hx with ⟨h, _⟩ | ⟨_, _, h, _⟩
  · exact h
  · rw [inP_zero] at h; cases h
/-- What is made anew, where no two become one and nothing of it can be told, corresponds to what it was made of. -/
theorem anew_bij {kf : Nd → Int} {q : Pl} {T : Int} {p : Pl} {m : Int → Option Int} {who : Int} (hq : Ok q) (hA : Anew kf q T p m) (t : Int) (hinj : ∀ x y u, x ∈ subs q t → y ∈ subs q t → m x = some u → m y = some u → x = y) (hsame : ∀ x ∈ subs q t, ∀ a b, sameB who (atP q x).1 (kdN (kf (atP q x).1) (abN (atP q x).1 a b)) = true) : Bij p who (fun x y => m x = some y ∧ (x = 0 ∨ x ∈ subs q t)) := by
  refine ⟨fun a b b' h h' => Option.some.inj (h.1.symm.trans h'.1), ?_, ⟨hA.zero, .inl rfl⟩, ?_⟩
  · rintro a a' b ⟨h1, h2⟩ ⟨k1, k2⟩
    rcases h2 with rfl | h2
    · rw [hA.zero] at h1
      rw [← Option.some.inj h1] at k1
      exact (hA.out k1).symm
    · rcases k2 with rfl | k2
      · rw [hA.zero] at k1
        rw [← Option.some.inj k1] at h1
        exact hA.out h1
      · exact hinj _ _ _ h2 k2 h1 k1
  · rintro a b ⟨h1, h2⟩
    rcases hA.at_ a b h1 with h | ⟨g1, g2, g3, ⟨x, y, g4, g5, g6⟩, _⟩
    · exact .inl h
    · have ha : a ∈ subs q t := by
        rcases h2 with rfl | h2
        · rw [inP_zero] at g1; cases g1
        · exact h2
      obtain ⟨e, he⟩ := hA.ext
      obtain ⟨ka, kb⟩ := subs_kids hq ha
      have hat : atP p a = atP q a := by rw [he]; exact atP_append g1
      refine .inr ⟨by rw [he]; exact inP_le g1 (by simp), g3, ?_, ?_, ?_⟩
      · rw [hat, g6]; exact hsame a ha x y
      · rw [hat, g6]; exact ⟨g4, ka⟩
      · rw [hat, g6]; exact ⟨g5, kb⟩
theorem anew_alike {kf : Nd → Int} {q : Pl} {T : Int} {p : Pl} {m : Int → Option Int} {who : Int} (hq : Ok q) (hA : Anew kf q T p m) {t s : Int} (hin : inP q t = true) (hm : m t = some s) (hn : nameB who = true) (hinj : ∀ x y u, x ∈ subs q t → y ∈ subs q t → m x = some u → m y = some u → x = y) (hsame : ∀ x ∈ subs q t, ∀ a b, sameB who (atP q x).1 (kdN (kf (atP q x).1) (abN (atP q x).1 a b)) = true) : AlikeP p who [t] [s] := by
  obtain ⟨e, he⟩ := hA.ext
  refine ⟨hn, fun x hx => ?_, fun x hx => ?_, rfl, _, anew_bij hq hA t hinj hsame, fun i h1 h2 => ?_⟩
  · obtain rfl : x = t := by simpa using hx
    rw [he]; exact inP_le hin (by simp)
  · obtain rfl : x = s := by simpa using hx
    rcases hA.at_ _ _ hm with ⟨rfl, _⟩ | ⟨_, _, h, _⟩
    · rw [inP_zero] at hin; cases hin
    · exact h
  · simp only [List.length_cons, List.length_nil] at h1
    obtain rfl : i = 0 := by omega
    exact ⟨hm, .inr (subs_has hin)⟩
theorem makeK_prom {at' : Int} {n : Nd} {a b : Int} : promB (kdN (makeK at' n) (abN n a b)) at' = false := by
  obtain ⟨k, f, t, u, s, x, y⟩ := n
  unfold makeK promB kdN abN
  simp only
  cases h : (k == 8 && t == at')
  · rw [if_neg (by simp)]; exact h
  · rw [if_pos rfl]; rfl
/-- No promise to him is left in what was made. -/
theorem swap_none {q p : Pl} {at' T : Int} {m : Int → Option Int} (hA : Anew (makeK at') q T p m) {t s : Int} (hm : m t = some s) : promL p at' (subs p s) = [] := by
  unfold promL
  rw [List.filter_eq_nil_iff]
  have hc := subs_closed (p := p) (S := fun x => ∃ k, m k = some x) (fun x ⟨k, hk⟩ hx => by
    rcases hA.at_ k x hk with ⟨_, rfl⟩ | ⟨_, _, _, ⟨y, z, g4, g5, g6⟩, _⟩
    · rw [inP_zero] at hx; cases hx
    · rw [g6]; exact ⟨⟨_, g4⟩, ⟨_, g5⟩⟩) (t := s) ⟨t, hm⟩
  intro x hx
  obtain ⟨⟨k, hk⟩, hin⟩ := hc x hx
  rcases hA.at_ k x hk with ⟨_, rfl⟩ | ⟨_, _, _, ⟨y, z, g4, g5, g6⟩, _⟩
  · rw [inP_zero] at hin; cases hin
  · rw [g6, makeK_prom]; decide
/-- What the statement asks of each subterm. -/
def FreeOk (at' who : Int) (n : Nd) : Prop := ¬ (n.to = at' ∧ (n.kind = 9 ∨ (n.kind = 8 ∧ n.frm = who)))
theorem makeK_inj {at' who : Int} {n n' : Nd} {a b : Int} (h : FreeOk at' who n) (h' : FreeOk at' who n') (e : kdN (makeK at' n) (abN n a b) = kdN (makeK at' n') (abN n' a b)) : n.kind = n'.kind ∧ n.frm = n'.frm ∧ n.to = n'.to ∧ n.num = n'.num ∧ n.text = n'.text := by
  obtain ⟨k, f, t, u, s, x, y⟩ := n
  obtain ⟨k2, f2, t2, u2, s2, x2, y2⟩ := n'
  unfold kdN abN at e
  simp only [Nd.mk.injEq] at e
  obtain ⟨e1, rfl, rfl, rfl, rfl, _, _⟩ := e
  refine ⟨?_, rfl, rfl, rfl, rfl⟩
  unfold makeK promB at e1
  unfold FreeOk at h h'
  simp only [Bool.and_eq_true, beq_iff_eq] at e1 h h' ⊢
  by_cases c1 : k = 8 ∧ t = at'
  · rw [if_pos c1] at e1
    by_cases c2 : k2 = 8 ∧ t = at'
    · omega
    · rw [if_neg c2] at e1
      exact absurd ⟨c1.2, .inl e1.symm⟩ h'
  · rw [if_neg c1] at e1
    by_cases c2 : k2 = 8 ∧ t = at'
    · rw [if_pos c2] at e1
      exact absurd ⟨c2.2, .inl e1⟩ h
    · rw [if_neg c2] at e1; exact e1
theorem makeK_same {at' who : Int} {n : Nd} (h : FreeOk at' who n) (h1 : who ≠ at') (h2 : who ≠ 2) (a b : Int) : sameB who n (kdN (makeK at' n) (abN n a b)) = true := by
  rw [sameB_see]
  obtain ⟨k, f, t, u, s, x, y⟩ := n
  unfold FreeOk at h
  simp only at h
  unfold seeN
  have e : kdN (makeK at' ⟨k, f, t, u, s, x, y⟩) (abN ⟨k, f, t, u, s, x, y⟩ a b) = ⟨makeK at' ⟨k, f, t, u, s, x, y⟩, f, t, u, s, a, b⟩ := rfl
  rw [e]
  unfold kdN abN
  simp only [Nd.mk.injEq, and_true]
  rw [seeK_of, seeK_of]
  unfold makeK promB
  simp only
  by_cases c : (k == 8 && t == at') = true
  · rw [if_pos c]
    simp only [Bool.and_eq_true, beq_iff_eq] at c
    obtain ⟨rfl, rfl⟩ := c
    have hf : who ≠ f := fun e => h ⟨rfl, .inr ⟨rfl, e.symm⟩⟩
    have ht : tellK who f t = false := by
      unfold tellK
      rw [ebF hf, ebF h1, ebF h2]; rfl
    rw [ht]; rfl
  · rw [if_neg c]
theorem swap_alike {q p : Pl} {at' T who : Int} {m : Int → Option Int} (hq : Ok q) (hA : Anew (makeK at') q T p m) {t s : Int} (hin : inP q t = true) (hm : m t = some s) (hn : nameB who = true) (h1 : who ≠ at') (h2 : who ≠ 2) (hf : ∀ x ∈ subs q t, FreeOk at' who (atP q x).1) : AlikeP p who [t] [s] := by
  have hinj : ∀ (k : Nat) (x y u : Int), x.toNat < k → x ∈ subs q t → y ∈ subs q t → m x = some u → m y = some u → x = y := by
    intro k
    induction k with
    | zero => intro x y u h; exact absurd h (Nat.not_lt_zero _)
    | succ k ih =>
      intro x y u hk hx hy hxu hyu
      have hxi := subs_in hq hx
      have hyi := subs_in hq hy
      rcases hA.at_ _ _ hxu with ⟨rfl, _⟩ | ⟨_, _, _, ⟨xa, xb, a4, a5, a6⟩, _⟩
      · rw [inP_zero] at hxi; cases hxi
      rcases hA.at_ _ _ hyu with ⟨rfl, _⟩ | ⟨_, _, _, ⟨ya, yb, b4, b5, b6⟩, _⟩
      · rw [inP_zero] at hyi; cases hyi
      have e := a6.symm.trans b6
      have e2 : xa = ya ∧ xb = yb := by
        unfold kdN abN at e
        simp only [Nd.mk.injEq] at e
        exact ⟨e.2.2.2.2.2.1, e.2.2.2.2.2.2⟩
      obtain ⟨rfl, rfl⟩ := e2
      have hx1 : 1 ≤ x := by unfold inP at hxi; simp at hxi; omega
      obtain ⟨la, lb⟩ := kid_less hq hxi
      obtain ⟨sa, sb⟩ := subs_kids hq hx
      obtain ⟨ta, tb⟩ := subs_kids hq hy
      have kid : ∀ a b v : Int, (a = 0 ∨ (inP q a = true ∧ a < x)) → (a = 0 ∨ a ∈ subs q t) → (b = 0 ∨ b ∈ subs q t) → m a = some v → m b = some v → a = b := fun a b v l1 l2 l3 l4 l5 => by
        rcases l2 with rfl | l2
        · rw [hA.zero] at l4
          rw [← Option.some.inj l4] at l5
          exact (hA.out l5).symm
        · rcases l3 with rfl | l3
          · rw [hA.zero] at l5
            rw [← Option.some.inj l5] at l4
            exact hA.out l4
          · refine ih a b v ?_ l2 l3 l4 l5
            rcases l1 with rfl | l1
            · omega
            · have := subs_in hq l2
              unfold inP at this
              simp at this
              omega
      have ea := kid _ _ _ la sa ta a4 b4
      have eb := kid _ _ _ lb sb tb a5 b5
      obtain ⟨c1, c2, c3, c4, c5⟩ := makeK_inj (hf x hx) (hf y hy) e
      refine hq.at_inj hxi hyi ?_
      revert c1 c2 c3 c4 c5 ea eb
      generalize (atP q x).1 = n
      generalize (atP q y).1 = n2
      obtain ⟨k, f, t, u, s, a, b⟩ := n
      obtain ⟨k2, f2, t2, u2, s2, a2, b2⟩ := n2
      simp only [Nd.mk.injEq]
      rintro rfl rfl rfl rfl rfl rfl rfl
      exact ⟨rfl, rfl, rfl, rfl, rfl, rfl, rfl⟩
  exact anew_alike hq hA hin hm hn (fun x y u => hinj _ x y u (Nat.lt_succ_self _)) (fun x hx a b => makeK_same (hf x hx) h1 h2 a b)
end Go.Proofs.YtgaklaajbepfaaaDoor
namespace Go.Proofs.YtgaklaajbepfaaaDoor
open Go.RowKit Go.Maps Go.Shelf
set_option linter.unusedVariables false

theorem seeK_idem (who : Int) (n : Nd) (a b : Int) : seeK who (kdN (seeK who n) (abN n a b)) = seeK who n := by
  obtain ⟨k, f, t, u, s, x, y⟩ := n
  have e : kdN (seeK who ⟨k, f, t, u, s, x, y⟩) (abN ⟨k, f, t, u, s, x, y⟩ a b) = ⟨seeK who ⟨k, f, t, u, s, x, y⟩, f, t, u, s, a, b⟩ := rfl
  rw [e, seeK_of, seeK_of]
  by_cases c : (twoK k && !tellK who f t) = true
  · rw [if_pos c]
    have c2 : (twoK 8 && !tellK who f t) = true := by
      simp only [Bool.and_eq_true] at c ⊢; exact ⟨rfl, c.2⟩
    rw [if_pos c2]
  · rw [if_neg c, if_neg c]
theorem see_same (who : Int) (n : Nd) (a b : Int) : sameB who n (kdN (seeK who n) (abN n a b)) = true := by
  rw [sameB_see]
  unfold seeN
  rw [seeK_idem]
  obtain ⟨k, f, t, u, s, x, y⟩ := n
  rfl
/-- A view's view is the view. -/
theorem view_again {q p1 p2 : Pl} {who : Int} {T1 T2 : Int} {m1 m2 : Int → Option Int} (h1 : Anew (seeK who) q T1 p1 m1) (h2 : Anew (seeK who) p1 T2 p2 m2) : ∀ (n : Nat) (k x y : Int), x.toNat < n → m1 k = some x → m2 x = some y → y = x
  | 0, _, _, _, h, _, _ => absurd h (Nat.not_lt_zero _)
  | n + 1, k, x, y, hn, hk, hx => by
    rcases h2.at_ _ _ hx with ⟨rfl, rfl⟩ | ⟨a1, a2, a3, ⟨xa, xb, a4, a5, a6⟩, _⟩
    · rfl
    · rcases h1.at_ _ _ hk with ⟨_, rfl⟩ | ⟨b1, b2, b3, ⟨ka, kb, b4, b5, b6⟩, _⟩
      · rw [inP_zero] at a1; cases a1
      · have hx1 : 1 ≤ x := by unfold inP at a1; simp at a1; omega
        obtain ⟨la, lb⟩ := kid_less h1.ok a1
        have ea : (atP p1 x).1.a = ka := by rw [b6]; rfl
        have eb : (atP p1 x).1.b = kb := by rw [b6]; rfl
        rw [ea] at la a4
        rw [eb] at lb a5
        have fa : xa = ka := view_again h1 h2 n _ _ _ (by rcases la with e | e <;> omega) b4 a4
        have fb : xb = kb := view_again h1 h2 n _ _ _ (by rcases lb with e | e <;> omega) b5 a5
        obtain ⟨e2, he2⟩ := h2.ext
        refine h2.ok.at_inj a3 (by rw [he2]; exact inP_le a1 (by simp)) ?_
        rw [a6, show atP p2 x = atP p1 x by rw [he2]; exact atP_append a1, fa, fb, b6, seeK_idem]
        rfl
theorem seeTK_eq (who : Int) (n : Nd) : seeK who n = seeTK who n.kind n.frm n.to := by
  obtain ⟨k, f, t, u, s, x, y⟩ := n
  rw [seeK_of]
  unfold seeTK twoK
  simp only
  cases tellK who f t
  · by_cases h8 : k = 8
    · subst h8; rfl
    · by_cases h9 : k = 9
      · subst h9; rfl
      · rw [ebF h8, ebF h9]; rfl
  · simp
theorem kids_see (who k f t : Int) : kidsN (seeTK who k f t) = kidsN k := by
  unfold seeTK
  by_cases h : (k == 9 && !tellK who f t) = true
  · rw [if_pos h]
    simp only [Bool.and_eq_true, beq_iff_eq] at h
    rw [h.1]; decide
  · rw [if_neg h]
theorem rep_map {q p : Pl} {who T : Int} {m : Int → Option Int} (hA : Anew (seeK who) q T p m) : ∀ (f : Fo) (ts us : List Int), RepF q ts f → ts.map m = us.map some → RepF p us (mapF (vtT who) f)
  | .nil, [], us, _, hm => by
    have : us = [] := by
      cases us with
      | nil => rfl
      | cons a l => simp at hm
    subst this
    exact trivial
  | .nil, _ :: _, _, h, _ => h.elim
  | .cons n k r, [], _, h, _ => h.elim
  | .cons n k r, t :: ts, us, h, hm => by
    obtain ⟨h1, ⟨ka, h2, h3, h4⟩, h5⟩ := h
    cases us with
    | nil => simp at hm
    | cons u us =>
      simp only [List.map_cons, List.cons.injEq] at hm
      obtain ⟨hm1, hm2⟩ := hm
      refine ⟨?_, ?_, rep_map hA r ts us h5 hm2⟩
      · rcases hA.at_ _ _ hm1 with ⟨rfl, _⟩ | ⟨_, _, g, _⟩
        · rw [inP_zero] at h1; cases h1
        · exact g
      · rcases hA.at_ _ _ hm1 with ⟨rfl, _⟩ | ⟨_, _, _, ⟨x, y, g4, g5, g6⟩, _⟩
        · rw [inP_zero] at h1; cases h1
        have hk2 := kidsN_le n.kind
        have hkind : ∀ ka', (ka'.getD 0 0 = x ∧ ka'.getD 1 0 = y) → (atP p u).1 = nodeOf (vtT who n) ka' := fun ka' e => by
          rw [g6, seeTK_eq, h4]
          unfold nodeOf vtT kdN abN
          simp only [e.1, e.2]
        rw [h4] at g4 g5
        simp only [nodeOf] at g4 g5
        match ka, h3 with
        | [], h3 =>
          simp only [List.getD_nil] at g4 g5
          rw [hA.zero] at g4 g5
          refine ⟨[], rep_map hA k [] [] h2 rfl, by rw [show (vtT who n).kind = seeTK who n.kind n.frm n.to from rfl, kids_see]; exact h3, hkind _ ⟨?_, ?_⟩⟩
          · simpa using Option.some.inj g4
          · simpa using Option.some.inj g5
        | [a], h3 =>
          simp only [List.getD_cons_zero, List.getD_cons_succ, List.getD_nil] at g4 g5
          rw [hA.zero] at g5
          refine ⟨[x], rep_map hA k [a] [x] h2 (by simp [g4]), by rw [show (vtT who n).kind = seeTK who n.kind n.frm n.to from rfl, kids_see]; exact h3, hkind _ ⟨by simp, ?_⟩⟩
          simpa using Option.some.inj g5
        | [a, b], h3 =>
          simp only [List.getD_cons_zero, List.getD_cons_succ] at g4 g5
          exact ⟨[x, y], rep_map hA k [a, b] [x, y] h2 (by simp [g4, g5]), by rw [show (vtT who n).kind = seeTK who n.kind n.frm n.to from rfl, kids_see]; exact h3, hkind _ ⟨by simp, by simp⟩⟩
        | _ :: _ :: _ :: _, h3 => simp only [List.length_cons] at h3; omega
theorem mapF_bare (who : Int) : ∀ {f : Fo}, Bare f → Bare (mapF (vtT who) f)
  | .nil, _ => trivial
  | .cons n k r, h => ⟨h.1, h.2.1, mapF_bare who h.2.2.1, mapF_bare who h.2.2.2⟩
/-- Terms with one view have trees with one view. -/
theorem view_trees {q p : Pl} {who T : Int} {m : Int → Option Int} (hA : Anew (seeK who) q T p m) {x y u : Int} {n1 n2 : Nd} {k1 k2 : Fo} (h1 : RepF q [x] (.cons n1 k1 .nil)) (h2 : RepF q [y] (.cons n2 k2 .nil)) (b1 : Bare (.cons n1 k1 .nil)) (b2 : Bare (.cons n2 k2 .nil)) (hx : m x = some u) (hy : m y = some u) : vtT who n1 = vtT who n2 ∧ mapF (vtT who) k1 = mapF (vtT who) k2 := by
  have e := RepF.tree (rep_map hA _ _ [u] h1 (by simp [hx])) (rep_map hA _ _ [u] h2 (by simp [hy])) (mapF_bare who b1) (mapF_bare who b2)
  simp only [mapF, Fo.cons.injEq, and_true] at e
  exact e
theorem view_alike {q p : Pl} {who T : Int} {m : Int → Option Int} (hq : Ok q) (hA : Anew (seeK who) q T p m) {t v : Int} (hin : inP q t = true) (hm : m t = some v) (hn : nameB who = true) (hd : ∀ a b (ha : a < (subs q t).length) (hb : b < (subs q t).length), b < a → ∀ u, m (subs q t)[a] = some u → m (subs q t)[b] ≠ some u) : AlikeP p who [t] [v] := by
  refine anew_alike hq hA hin hm hn (fun x y u hx hy hxu hyu => ?_) (fun x _ a b => see_same who _ a b)
  obtain ⟨i, hi, rfl⟩ := List.getElem_of_mem hx
  obtain ⟨j, hj, rfl⟩ := List.getElem_of_mem hy
  rcases Nat.lt_trichotomy i j with h | h | h
  · exact absurd hxu (hd j i hj hi h u hyu)
  · subst h; rfl
  · exact absurd hyu (hd i j hi hj h u hxu)
end Go.Proofs.YtgaklaajbepfaaaDoor
namespace Go.Proofs.YtgaklaajbepfaaaDoor
open Go.RowKit Go.Maps Go.Shelf
set_option linter.unusedVariables false

theorem IsRef.rego {w w' : World} {B0 B b mb a : Nat} {vl vs vd : Value} {p : Pl} (h : IsRef w B0 a vl vs vd p) (g : ReG w B b mb w') : IsRef w' B0 a vl vs vd p :=
  ⟨g.hold _ (by decide) (by decide) _ _ h.lay, h.ga, own_hold h.rl (g.hold _ (by decide) (by decide)), own_hold h.rs (g.hold _ (by decide) (by decide)), own_hold h.rd (g.hold _ (by decide) (by decide)), h.ap, h.ok, h.nok⟩
set_option maxRecDepth 100000 in
set_option maxHeartbeats 51200000 in
theorem once_walkV {w : World} (hl : Laid w) {fo : Fo} {t who : Int} {u0 : Value} (hk : IsK w (fun b => b < w.heap.size) u0 fo) (hok : OkF fo) : Calls Tryd.prog 5 #[u0, .int .i64 t, .int .i64 who] w fun e w' => e = .returned (.bool true) ∧ Below w.heap.size w w' := by
  obtain ⟨a0, k0, rfl, _⟩ := hk.shape
  have WD := Lib.hid (wide_any hk)
  have HLD := Lib.hid hl
  have HKK := Lib.hid hk
  have HOK := Lib.hid hok
  clear hk hl hok
  have NU := Lib.hid (fun (n : Int) (W : World) => num_any n W)
  go_enter Tryd.func5, Tryd.ntmps5
  go_wp2_with fail
  refine WD.out.mono ?_
  rintro e w3 ⟨⟨q, rfl, hq⟩, u3⟩
  have HU3 := Lib.hid u3
  clear u3 WD
  cases q with
  | true =>
    clear hq
    have LV := Lib.hid (live_any (HLD.out.below HU3.out))
    go_wp2_with fail
    refine LV.out.mono ?_
    rintro e wl ⟨rfl, ul⟩
    have HUL := Lib.hid (bmore HU3.out ul)
    clear ul LV
    go_wp2_with fail
    go_returns
    exact ⟨rfl, HUL.out⟩
  | false =>
    have HQ := Lib.hid (hq rfl)
    clear hq
    have hk1 := HKK.out.below HU3.out
    have hk2 := hk1.of (w' := w) (G' := fun b => b < w3.heap.size) (fun b hb _ => Nat.lt_of_lt_of_le hb HU3.out.size)
    have PO := Lib.hid (pools_any (HLD.out.below HU3.out) hk2 HOK.out (by have := HQ.out.2; omega) (by have := HQ.out.1; omega))
    clear hk1 hk2
    go_wp2_with fail
    refine PO.out.mono ?_
    rintro e w4 ⟨pa, b, ra, vv, rl, rs, rd, p, rfl, hp, hr, u4, hlen⟩
    have HP := Lib.hid hp
    have HR := Lib.hid hr
    have HU4 := Lib.hid (bmore HU3.out u4)
    have HBB : Hid (w.heap.size ≤ w3.heap.size) := Lib.hid HU3.out.size
    have HPL : Hid (p.length ≤ 400) := Lib.hid (by have := HQ.out.2; omega)
    clear hp hr u4 hlen HU3 PO HKK HOK HQ
    generalize w3.heap.size = B2 at *
    by_cases hz : rfsP p who [t] = 0
    case neg =>
      have SB := Lib.hid (view_bad HP.out who t hz)
      have hne : (rfsP p who [t] != 0) = true := by rw [bne, ebF hz]; rfl
      generalize rfsP p who [t] = e0 at *
      clear hz
      go_wp2_with fail
      refine SB.out.mono ?_
      rintro e w5 ⟨rfl, u5⟩
      have HU5 := Lib.hid (bmore HU4.out u5)
      clear u5 SB
      have LV := Lib.hid (live_any (HLD.out.below HU5.out))
      go_wp2_with ((with_reducible refine (NU.out _ _).mono ?_); rintro e wn ⟨rfl, rfl⟩)
      refine LV.out.mono ?_
      rintro e wl ⟨rfl, ul⟩
      have HUL := Lib.hid (bmore HU5.out ul)
      clear ul LV
      go_wp2_with fail
      go_returns
      exact ⟨rfl, HUL.out⟩
    have HNB := Lib.hid (rfs_zero.1 hz).1
    have HIN : Hid (inP p t = true) := Lib.hid ((rfs_zero.1 hz).2 t (by simp))
    clear hz
    have HTL : Hid (1 ≤ t ∧ t ≤ 400) := Lib.hid (by have h := HIN.out; have := HPL.out; unfold inP at h; simp at h; omega)
    have SW := Lib.hid (view_any (w0 := w) HLD.out HBB.out HU4.out HP.out who HNB.out HIN.out (by have := HTL.out; have := HPL.out; omega))
    go_wp2_with fail
    refine SW.out.mono ?_
    rintro e w5 ⟨s, v5, p5, m5, rfl, hp5, ha5, hm5, g5⟩
    have HP5 := Lib.hid hp5
    have HA5 := Lib.hid ha5
    have HM5 := Lib.hid hm5
    have HR5 := Lib.hid (HR.out.rego g5)
    have HU5 := Lib.hid (HU4.out.trans (g5.below.mono HBB.out))
    have HSI : Hid (inP p5 s = true) := Lib.hid (by
      rcases ha5.at_ _ _ hm5 with ⟨h, _⟩ | ⟨_, _, h, _⟩
      · have := HTL.out; omega
      · exact h)
    have HSL : Hid (p5.length ≤ 800 ∧ 1 ≤ s ∧ s ≤ 800) := Lib.hid (by
      have h1 := ha5.len
      have h2 := HSI.out
      have := HPL.out
      have := HTL.out
      unfold inP at h2
      simp at h2
      omega)
    clear hp5 ha5 hm5 g5 SW HP HR HU4
    have SW2 := Lib.hid (view_any (w0 := w) HLD.out HBB.out HU5.out HP5.out who HNB.out HSI.out (by have := HSL.out; omega))
    go_wp2_with ((with_reducible refine (NU.out _ _).mono ?_); rintro e wn ⟨rfl, rfl⟩)
    refine SW2.out.mono ?_
    rintro e w6 ⟨s2, v6, p6, m6, rfl, hp6, ha6, hm6, g6⟩
    obtain rfl : s2 = s := view_again HA5.out ha6 _ _ _ _ (Nat.lt_succ_self _) HM5.out hm6
    have HP6 := Lib.hid hp6
    have HR6 := Lib.hid (HR5.out.rego g6)
    have HU6 := Lib.hid (HU5.out.trans (g6.below.mono HBB.out))
    have HE6 := Lib.hid ha6.ext
    have hss : (s2 != s2) = false := by simp
    clear hp6 ha6 hm6 g6 SW2 HP5 HR5 HU5
    have RS := Lib.hid (rsubs HR6.out t)
    go_wp2_with ((with_reducible refine (NU.out _ _).mono ?_); rintro e wn ⟨rfl, rfl⟩)
    refine RS.out.mono ?_
    rintro e w7 ⟨sv, rfl, hrow, u7⟩
    obtain ⟨sa, sc, rfl⟩ := (row_of_own hrow).shape
    have HP7 := Lib.hid (HP6.out.below u7)
    have HR7 := Lib.hid (HR6.out.below u7)
    have HS7 := Lib.hid (row_of_own hrow)
    have HU7 := Lib.hid (bmore HU6.out u7)
    have HLN : Hid ((subs p t).length ≤ 400) := Lib.hid (Nat.le_trans (subs_len HR6.out.ok t) HPL.out)
    clear hrow u7 RS HP6 HR6 HU6 hss
    have HSN : Hid (∀ x ∈ subs p t, inP p x = true) := Lib.hid fun x hx => subs_in HR7.out.ok hx
    have HAL : Hid ((∀ a b (ha : a < (subs p t).length) (hb : b < (subs p t).length), b < a → ∀ u, m5 (subs p t)[a] = some u → m5 (subs p t)[b] ≠ some u) → AlikeP p6 who [t] [s2]) := Lib.hid fun h => by
      obtain ⟨e6, he6⟩ := HE6.out
      rw [he6]
      exact (view_alike HR7.out.ok HA5.out HIN.out HM5.out HNB.out h).more e6
    clear HM5 HIN HNB HE6 HSI HSL
    generalize subs p t = L at *
    obtain ⟨wo, hwo⟩ : ∃ wo, wo = w7 := ⟨_, rfl⟩
    go_wp2_with fail
    go_loopw [15] (fun v15 wr => ∃ i : Nat, v15 = .int .i64 (i : Int) ∧ i ≤ L.length ∧ (∀ a b (ha : a < L.length) (hb : b < L.length), b < a → a < i → ∀ u, m5 L[a] = some u → m5 L[b] ≠ some u) ∧ IsPool wr B2 pa b v6 p6 ∧ IsRef wr B2 ra rl rs rd p ∧ Row wr 1 (.slice sa L.length sc) L.length (ints L) ∧ Below w.heap.size w wr) (fun v _ => L.length - (intOf v).toNat)
    case atStart => exact ⟨0, rfl, Nat.zero_le _, fun a b _ _ _ h => absurd h (Nat.not_lt_zero _), HP7.out, HR7.out, HS7.out, HU7.out⟩
    case round =>
      clear HP7 HR7 HS7 HU7
      obtain ⟨i, rfl, hi, hfr, hpw, hrw, hsw, huw⟩ := hrel
      have HFR := Lib.hid hfr
      have HPW := Lib.hid hpw
      have HRW := Lib.hid hrw
      have HSW := Lib.hid hsw
      have HUW := Lib.hid huw
      have hl4 : L.length ≤ 400 := HLN.out
      clear hfr hpw hrw hsw huw
      by_cases hlt : i < L.length
      · obtain ⟨wn, rfl⟩ : ∃ wn, wn = wr := ⟨_, rfl⟩
        go_wp2_with fail
        go_loopw [16] (fun v16 wr => ∃ j : Nat, v16 = .int .i64 (j : Int) ∧ j ≤ i ∧ (∀ b (hb : b < L.length), b < j → ∀ u, m5 L[i] = some u → m5 L[b] ≠ some u) ∧ IsPool wr B2 pa b v6 p6 ∧ IsRef wr B2 ra rl rs rd p ∧ Row wr 1 (.slice sa L.length sc) L.length (ints L) ∧ Below w.heap.size w wr) (fun v _ => i - (intOf v).toNat)
        case atStart => exact ⟨0, rfl, Nat.zero_le _, fun b _ h => absurd h (Nat.not_lt_zero _), HPW.out, HRW.out, HSW.out, HUW.out⟩
        case round =>
          clear HPW HRW HSW HUW
          obtain ⟨j, rfl, hj, hjr, hpw, hrw, hsw, huw⟩ := hrel
          have HJR := Lib.hid hjr
          have HPW := Lib.hid hpw
          have HRW := Lib.hid hrw
          have HSW := Lib.hid hsw
          have HUW := Lib.hid huw
          clear hjr hpw hrw hsw huw
          by_cases hjl : j < i
          · have hjl2 : j < L.length := by omega
            obtain ⟨sa', sc', es, hsx⟩ := HSW.out.at
            obtain ⟨rfl, rfl⟩ : sa = sa' ∧ sc = sc' := by
              simp only [Value.slice.injEq, true_and] at es; exact ⟨es.1, es.2⟩
            obtain ⟨lb, lo, rfl, ql⟩ := hsx (by omega)
            have cl := ql i _ (ints_at L i hlt)
            have cm := ql j _ (ints_at L j hjl2)
            have hi0 : (0 : Int) ≤ (i : Int) := by omega
            have hi1 : (i : Int) < (L.length : Int) := by omega
            have hj0 : (0 : Int) ≤ (j : Int) := by omega
            have hj1 : (j : Int) < (L.length : Int) := by omega
            have HXI : Hid (inP p L[i] = true) := Lib.hid (HSN.out _ (List.getElem_mem hlt))
            have HYI : Hid (inP p L[j] = true) := Lib.hid (HSN.out _ (List.getElem_mem hjl2))
            have HNX : Hid ((∀ u, m5 L[i] = some u → m5 L[j] ≠ some u) → ∀ b (hb : b < L.length), b < j + 1 → ∀ u, m5 L[i] = some u → m5 L[b] ≠ some u) := Lib.hid fun e b hb hbj => by
              rcases Nat.lt_or_ge b j with h | h
              · exact HJR.out b hb h
              · obtain rfl : b = j := by omega
                exact e
            generalize L[i] = x at *
            generalize L[j] = y at *
            have QL := Lib.hid cl
            have QM := Lib.hid cm
            have HKP : Hid (∀ V : World, Below wr.heap.size wr V → V.cell? ⟨lb, lo + i, none⟩ = some (.int .i64 x) ∧ V.cell? ⟨lb, lo + j, none⟩ = some (.int .i64 y)) := Lib.hid fun V h => ⟨bcellAt h QL.out, bcellAt h QM.out⟩
            clear ql hsx es cl cm
            have TR1 := Lib.hid (rtree (HRW.out.below (bd wr)) x)
            go_upto_region 19 with fail
            refine lex_start [0, 1, 2, 3, 4, 5, 8, 9, 10, 11, 12, 13, 6, 7, 14, 15, 16] (S := (fun V : World => V.cell? ⟨lb, lo + i, none⟩ = some (.int .i64 x) ∧ V.cell? ⟨lb, lo + j, none⟩ = some (.int .i64 y))) (by kernel_rfl) (HKP.out _ (bd wr)) (fun hS => ?_)
            clear hS
            simp only [inOrder, List.filterMap, List.getElem?_cons_succ, List.getElem?_cons_zero]
            refine lex_take (i := 0) (v := ?_) rfl (by kernel_rfl) (by kernel_rfl) (by kernel_rfl) (by rfl) (HKP.out _ (bd wr)) ?_ ?_
            rotate_left
            · ((intro W hW; obtain ⟨k0, k1⟩ := hW; go_simp) <;> with_reducible rfl)
            simp only [Act.put, List.setIfInBounds_toArray, List.set_cons_zero, List.set_cons_succ]
            refine lex_take (i := 1) (v := ?_) rfl (by kernel_rfl) (by kernel_rfl) (by kernel_rfl) (by rfl) (HKP.out _ (bd wr)) ?_ ?_
            rotate_left
            · ((intro W hW; obtain ⟨k0, k1⟩ := hW; go_simp) <;> with_reducible rfl)
            simp only [Act.put, List.setIfInBounds_toArray, List.set_cons_zero, List.set_cons_succ]
            refine lex_take (i := 2) (v := ?_) rfl (by kernel_rfl) (by kernel_rfl) (by kernel_rfl) (by rfl) (HKP.out _ (bd wr)) ?_ ?_
            rotate_left
            · ((intro W hW; obtain ⟨k0, k1⟩ := hW; go_simp) <;> with_reducible rfl)
            simp only [Act.put, List.setIfInBounds_toArray, List.set_cons_zero, List.set_cons_succ]
            refine lex_take (i := 3) (v := ?_) rfl (by kernel_rfl) (by kernel_rfl) (by kernel_rfl) (by rfl) (HKP.out _ (bd wr)) ?_ ?_
            rotate_left
            · ((intro W hW; obtain ⟨k0, k1⟩ := hW; go_simp) <;> with_reducible rfl)
            simp only [Act.put, List.setIfInBounds_toArray, List.set_cons_zero, List.set_cons_succ]
            refine lex_take (i := 4) (v := ?_) rfl (by kernel_rfl) (by kernel_rfl) (by kernel_rfl) (by rfl) (HKP.out _ (bd wr)) ?_ ?_
            rotate_left
            · ((intro W hW; obtain ⟨k0, k1⟩ := hW; go_simp) <;> with_reducible rfl)
            simp only [Act.put, List.setIfInBounds_toArray, List.set_cons_zero, List.set_cons_succ]
            refine lex_take (i := 5) (v := ?_) rfl (by kernel_rfl) (by kernel_rfl) (by kernel_rfl) (by rfl) (HKP.out _ (bd wr)) ?_ ?_
            rotate_left
            · ((intro W hW; obtain ⟨k0, k1⟩ := hW; go_simp) <;> with_reducible rfl)
            simp only [Act.put, List.setIfInBounds_toArray, List.set_cons_zero, List.set_cons_succ]
            refine lex_take (i := 8) (v := ?_) rfl (by kernel_rfl) (by kernel_rfl) (by kernel_rfl) (by rfl) (HKP.out _ (bd wr)) ?_ ?_
            rotate_left
            · ((intro W hW; obtain ⟨k0, k1⟩ := hW; go_simp) <;> with_reducible rfl)
            simp only [Act.put, List.setIfInBounds_toArray, List.set_cons_zero, List.set_cons_succ]
            refine lex_take (i := 9) (v := ?_) rfl (by kernel_rfl) (by kernel_rfl) (by kernel_rfl) (by rfl) (HKP.out _ (bd wr)) ?_ ?_
            rotate_left
            · ((intro W hW; obtain ⟨k0, k1⟩ := hW; go_simp) <;> with_reducible rfl)
            simp only [Act.put, List.setIfInBounds_toArray, List.set_cons_zero, List.set_cons_succ]
            refine lex_take (i := 10) (v := ?_) rfl (by kernel_rfl) (by kernel_rfl) (by kernel_rfl) (by rfl) (HKP.out _ (bd wr)) ?_ ?_
            rotate_left
            · ((intro W hW; obtain ⟨k0, k1⟩ := hW; go_simp) <;> with_reducible rfl)
            simp only [Act.put, List.setIfInBounds_toArray, List.set_cons_zero, List.set_cons_succ]
            refine lex_take (i := 11) (v := ?_) rfl (by kernel_rfl) (by kernel_rfl) (by kernel_rfl) (by rfl) (HKP.out _ (bd wr)) ?_ ?_
            rotate_left
            · ((intro W hW; obtain ⟨k0, k1⟩ := hW; go_simp) <;> with_reducible rfl)
            simp only [Act.put, List.setIfInBounds_toArray, List.set_cons_zero, List.set_cons_succ]
            refine lex_take (i := 12) (v := ?_) rfl (by kernel_rfl) (by kernel_rfl) (by kernel_rfl) (by rfl) (HKP.out _ (bd wr)) ?_ ?_
            rotate_left
            · ((intro W hW; obtain ⟨k0, k1⟩ := hW; go_simp) <;> with_reducible rfl)
            simp only [Act.put, List.setIfInBounds_toArray, List.set_cons_zero, List.set_cons_succ]
            refine lex_take (i := 13) (v := ?_) rfl (by kernel_rfl) (by kernel_rfl) (by kernel_rfl) (by rfl) (HKP.out _ (bd wr)) ?_ ?_
            rotate_left
            · ((intro W hW; obtain ⟨k0, k1⟩ := hW; go_simp) <;> with_reducible rfl)
            simp only [Act.put, List.setIfInBounds_toArray, List.set_cons_zero, List.set_cons_succ]
            refine lex_call (i := 6) rfl (by kernel_rfl) (by rfl) ?_ _ TR1.out ?_
            · go_simp
            rintro e w1 ⟨n1, k1, v1, rfl, hk1, ok1, b1, hp1, _⟩
            have V1 := Lib.hid (bmore (bd wr) b1)
            have RP1 := Lib.hid (hp1 HXI.out)
            have OK1 := Lib.hid ok1
            have SZ1 : Hid (k1.size ≤ 6000) := Lib.hid (by have := (RP1.out.sizes HRW.out.ok).1; have h9 := HRW.out.ok.at_bounds x; simp only [sumSz, Fo.size] at this; omega)
            have VT1 := Lib.hid (vt_any who n1 k1 hk1 SZ1.out)
            clear b1 hp1 ok1 hk1 TR1
            refine ⟨_, rfl, (fun V : World => V.cell? ⟨lb, lo + i, none⟩ = some (.int .i64 x) ∧ V.cell? ⟨lb, lo + j, none⟩ = some (.int .i64 y)), fun W h => h, (HKP.out _ V1.out), ?_⟩
            simp only [Act.put, List.setIfInBounds_toArray, List.set_cons_zero, List.set_cons_succ]
            refine lex_call (i := 7) rfl (by kernel_rfl) (by rfl) ?_ _ VT1.out ?_
            · go_simp
            rintro e w2' ⟨q1, rfl, hq1, b2⟩
            have V2 := Lib.hid (bmore V1.out b2)
            have HQ1 := Lib.hid hq1
            have TR2 := Lib.hid (rtree (HRW.out.below V2.out) y)
            clear b2 hq1 VT1 V1
            refine ⟨_, rfl, (fun V : World => V.cell? ⟨lb, lo + i, none⟩ = some (.int .i64 x) ∧ V.cell? ⟨lb, lo + j, none⟩ = some (.int .i64 y)), fun W h => h, (HKP.out _ V2.out), ?_⟩
            simp only [Act.put, List.setIfInBounds_toArray, List.set_cons_zero, List.set_cons_succ]
            refine lex_call (i := 14) rfl (by kernel_rfl) (by rfl) ?_ _ TR2.out ?_
            · go_simp
            rintro e w3' ⟨n2, k2, v2, rfl, hk2, ok2, b3, hp2, _⟩
            have V3 := Lib.hid (bmore V2.out b3)
            have HQ1b := Lib.hid (HQ1.out.below b3)
            have RP2 := Lib.hid (hp2 HYI.out)
            have OK2 := Lib.hid ok2
            have SZ2 : Hid (k2.size ≤ 6000) := Lib.hid (by have := (RP2.out.sizes HRW.out.ok).1; have h9 := HRW.out.ok.at_bounds y; simp only [sumSz, Fo.size] at this; omega)
            have VT2 := Lib.hid (vt_any who n2 k2 hk2 SZ2.out)
            clear b3 hp2 ok2 hk2 TR2 HQ1 V2
            refine ⟨_, rfl, (fun V : World => V.cell? ⟨lb, lo + i, none⟩ = some (.int .i64 x) ∧ V.cell? ⟨lb, lo + j, none⟩ = some (.int .i64 y)), fun W h => h, (HKP.out _ V3.out), ?_⟩
            simp only [Act.put, List.setIfInBounds_toArray, List.set_cons_zero, List.set_cons_succ]
            refine lex_call (i := 15) rfl (by kernel_rfl) (by rfl) ?_ _ VT2.out ?_
            · go_simp
            rintro e w4' ⟨q2, rfl, hq2, b4⟩
            have V4 := Lib.hid (bmore V3.out b4)
            have SA := Lib.hid (same_any (G := NewT w1 w2') (G' := NewT w3' w4') (vtT who n1) (mapF (vtT who) k1) (vtT who n2) (mapF (vtT who) k2) w4' q1 q2 (HQ1b.out.below b4) hq2 ⟨OK1.out.2.1, OK1.out.2.2.1⟩ ⟨OK2.out.2.1, OK2.out.2.2.1⟩ (mapF_bare who (OkF.bare OK1.out.2.2.2.1)) (mapF_bare who (OkF.bare OK2.out.2.2.2.1)))
            have HDF : Hid (∀ u, m5 x = some u → m5 y = some u → (vtT who n1 = vtT who n2 ∧ mapF (vtT who) k1 = mapF (vtT who) k2)) := Lib.hid fun u g1 g2 => view_trees HA5.out RP1.out RP2.out (OkF.bare OK1.out) (OkF.bare OK2.out) g1 g2
            generalize hdd : decide (vtT who n1 = vtT who n2 ∧ mapF (vtT who) k1 = mapF (vtT who) k2) = dd at *
            have HDD : Hid (dd = false → ∀ u, m5 x = some u → m5 y ≠ some u) := Lib.hid fun e u g1 g2 => by
              have h := HDF.out u g1 g2
              rw [e] at hdd
              exact absurd h (of_decide_eq_false hdd)
            clear hdd HDF b4 hq2 VT2 HQ1b V3 OK1 OK2 RP1 RP2 SZ1 SZ2
            refine ⟨_, rfl, (fun V : World => V.cell? ⟨lb, lo + i, none⟩ = some (.int .i64 x) ∧ V.cell? ⟨lb, lo + j, none⟩ = some (.int .i64 y)), fun W h => h, (HKP.out _ V4.out), ?_⟩
            simp only [Act.put, List.setIfInBounds_toArray, List.set_cons_zero, List.set_cons_succ]
            refine lex_call (i := 16) rfl (by kernel_rfl) (by rfl) ?_ _ SA.out ?_
            · go_simp
            rintro e w5' ⟨rfl, b5⟩
            have V5 := Lib.hid (bmore V4.out b5)
            clear b5 SA V4
            refine ⟨_, rfl, (fun V : World => V.cell? ⟨lb, lo + i, none⟩ = some (.int .i64 x) ∧ V.cell? ⟨lb, lo + j, none⟩ = some (.int .i64 y)), fun W h => h, (HKP.out _ V5.out), ?_⟩
            simp only [Act.put, List.setIfInBounds_toArray, List.set_cons_zero, List.set_cons_succ]
            refine lex_done (by kernel_rfl) ?_
            have HU5' := Lib.hid (bmore HUW.out V5.out)
            have HP5' := Lib.hid (HPW.out.below V5.out)
            have HR5' := Lib.hid (HRW.out.below V5.out)
            have HS5' := Lib.hid (HSW.out.below V5.out)
            clear HKP V5
            cases dd with
            | true =>
              have LV := Lib.hid (live_any (HLD.out.below HU5'.out))
              go_wp2_with fail
              refine LV.out.mono ?_
              rintro e wl ⟨rfl, ul⟩
              have HUL := Lib.hid (bmore HU5'.out ul)
              clear ul LV
              go_wp2_with fail
              go_returns
              exact ⟨rfl, HUL.out⟩
            | false =>
              go_wp2_with fail
              go_roundw
              case rel => exact ⟨j + 1, by go_num, by omega, HNX.out (HDD.out (by trivial)), HP5'.out, HR5'.out, HS5'.out, HU5'.out⟩
              case measure => simp [intOf] <;> omega
          · obtain rfl : i = j := by omega
            have HFN : Hid (∀ a b (ha : a < L.length) (hb : b < L.length), b < a → a < i + 1 → ∀ u, m5 L[a] = some u → m5 L[b] ≠ some u) := Lib.hid fun a b ha hb hba hai => by
              rcases Nat.lt_or_ge a i with h | h
              · exact HFR.out a b ha hb hba h
              · obtain rfl : a = i := by omega
                exact HJR.out b hb hba
            clear hjl HFR HJR
            go_wp2_with fail
            go_roundw
            case rel => exact ⟨i + 1, by go_num, by omega, HFN.out, HPW.out, HRW.out, HSW.out, HUW.out⟩
            case measure => simp [intOf] <;> omega
      · obtain rfl : i = L.length := by omega
        have HLK := Lib.hid (HAL.out fun a b ha hb hba => HFR.out a b ha hb hba ha)
        clear hlt HFR HAL
        obtain ⟨r1, r2, b1⟩ := rows2 wr t s2
        have AL := Lib.hid (Alike_any (HPW.out.below b1) who r1 r2 (by simp) (by simp))
        have HU8 := Lib.hid (bmore HUW.out b1)
        clear r1 r2 b1
        go_wp2_with fail
        refine AL.out.mono ?_
        rintro e w9 ⟨r, rfl, hr, u9⟩
        obtain rfl : r = true := hr.2 HLK.out
        have HU9 := Lib.hid (bmore HU8.out u9)
        clear u9 AL hr HU8
        have LV := Lib.hid (live_any (HLD.out.below HU9.out))
        go_wp2_with fail
        refine LV.out.mono ?_
        rintro e wl ⟨rfl, ul⟩
        have HUL := Lib.hid (bmore HU9.out ul)
        clear ul LV
        go_wp2_with fail
        go_returns
        exact ⟨rfl, HUL.out⟩
end Go.Proofs.YtgaklaajbepfaaaDoor
namespace Go.Proofs.YtgaklaajbepfaaaDoor
open Go Go.ChangeShapes Go.WideShapes Go.ChangeAt Go.RowKit
set_option linter.unusedVariables false

set_option maxRecDepth 100000 in
/-- What the walk gives, for every argument. -/
theorem vonce_contract (H : Type) (enc : TypeId × Value → H) (W : World) (base : Nat) (args : Array Value) (ds gs : List (DataW H)) (before : List MemPlace)
    (hval0 : ∀ (j : Nat) t v, Tryd.f5.params[j]? = some t → args[j]? = some v → Value.okWide Tryd.prog W .any base t v)
    (hW : DataW.Whole enc Tryd.prog Tryd.f5.params.toList Rows.viewOnceSpec.vars false W args.toList ds gs before) (hL : laidMetH Tryd.prog laidL W) :
    Calls Tryd.prog 5 args W fun e W' => ∃ v, e = .returned v ∧ Rows.viewOnceSpec.post enc Tryd.prog Tryd.f5 false true false false W args v W' := by
  have hval : ∀ (j : Nat) t v, Tryd.f5.params[j]? = some t → args[j]? = some v → Value.okWide Tryd.prog W .any base t v := hval0
  have hW' := hW
  obtain ⟨p, q, hA0, hV, rfl, hfz, hnd⟩ := hW
  have hA : DataW.TrodAll enc Tryd.prog W 0 (fun _ => true) true Tryd.f5.params.toList args.toList ds p := hA0
  rw [Tryd.params5] at hA hval
  obtain ⟨v0, vs0, d0, ds0, p0, q0, hargs0, rfl, rfl, h0, r0⟩ := trodAll_cons hA
  obtain ⟨v1, vs1, d1, ds1, p1, q1, hargs1, rfl, rfl, h1, r1⟩ := trodAll_cons r0
  obtain ⟨v2, vs2, d2, ds2, p2, q2, hargs2, rfl, rfl, h2, r2⟩ := trodAll_cons r1
  obtain ⟨rfl, rfl, rfl⟩ := trodAll_nil r2
  subst hargs1
  subst hargs2
  obtain rfl : args = #[v0, v1, v2] := by cases args; simp_all
  obtain ⟨rfl, rfl⟩ := trodVars_none hV
  have hv0 := hval 0 22 v0 rfl rfl
  have hc0 : Cell.okWide Tryd.prog W .any base 22 v0 := by simpa only [Value.okWide, Tryd.underlying22] using hv0
  obtain ⟨a0, c0, n0, e0⟩ := okWide_slice Tryd.underlying22 hv0
  obtain ⟨fuel0, hf0⟩ := id h0
  rw [show v0.cells.toList = [v0] by rw [e0]; rfl] at hf0
  obtain ⟨l0, rl0, hs0⟩ := open_trees hc0 hf0
  obtain ⟨a1, rfl, rfl, rfl, w1⟩ := open_int Tryd.underlying42 (hval 1 42 v1 rfl rfl) h1
  obtain ⟨a2, rfl, rfl, rfl, w2⟩ := open_int Tryd.underlying3 (hval 2 3 v2 rfl rfl) h2
  have HL := of_laid hL
  clear hA0 hval0 hL
  simp only [List.append_nil] at hW'
  refine (once_walkV HL rl0 hs0).mono fun e W' ⟨he, bel⟩ => ?_
  subst he
  exact ⟨_, rfl, _, _, _, [], _, [], hW', trodAll_mk1 (shut_bool Tryd.underlying4 _), (trodAll_cons_mk (Below.trod laidOut (by kernel_rfl) (of_decide_eq_true (by kernel_rfl)) h0 bel (places_lt h0)) (trodAll_cons_mk (shut_int Tryd.underlying42 w1) (trodAll_cons_mk (shut_int Tryd.underlying3 w2) trodAll_mk0))), rfl, bel.frame _, fun h => by cases h⟩

set_option maxRecDepth 100000 in
theorem vonce_lifted (os : Os) (started : os.Started) (H : Type) (enc : TypeId × Value → H) :
    ReturnsInHanded {} Tryd.checked os 5 .any (fun w args => (Rows.viewOnceSpec.pre enc Tryd.prog Tryd.f5 [] false w args ∧ laidMetH Tryd.prog laidL w) ∧ sizedMet enc Tryd.prog Tryd.f5 (OpenSpec.ofChange Rows.viewOnceSpec) false w args)
      (Rows.viewOnceSpec.post enc Tryd.prog Tryd.f5 false true false false) := by
  refine returnsInHanded_of_change_and (C := Tryd.checked) (X := fun w _ => laidMetH Tryd.prog laidL w) (fun _ _ _ hh h => h.of_heap hh) own started (by kernel_rfl) Tryd.func5
    (ChangeSpec.witness_shaped (enc := enc) (C := Tryd.checked) (os := os) (X := fun w _ => laidMetH Tryd.prog laidL w) false (World.doorLaid Tryd.prog 400 os) #[.slice none 0 0, .int .i64 0, .int .i64 0] 8 rfl (World.shaped_of_RefB (by kernel_rfl) (by kernel_rfl)) (by kernel_rfl) (by kernel_rfl) (by kernel_rfl) (door_met os _)) ?_
  intro W base args ds gs before hval hW _ _ hL _
  exact vonce_contract H enc W base args ds gs before hval hW hL

/-- The row's statement. -/
theorem vonce_holds : Rows.ViewOnceSaid :=
  OpenClaim.holds_of_wide 5 Tryd.f5 rfl rfl rfl rfl rfl rfl rfl ⟨rfl, rfl, rfl, rfl, rfl⟩ rfl rfl rfl rfl rfl (by kernel_rfl) Tryd.func5 (by kernel_rfl)
    (of_decide_eq_true (by kernel_rfl)) (by unfold Func.isWrapper; first | (rw [if_pos (by decide +kernel)]; kernel_rfl) | (rw [if_neg (by decide +kernel)]; exact ⟨rfl, rfl⟩))
    (fun os started H enc _ => vonce_lifted os started H enc)

/-- The card. -/
theorem vonce_card : Rows.ViewOnceCardSaid :=
  Claim7.holds_tied_plain_at .later [] [.data] true _ false
    vonce_holds (fun _ h => by cases h) (by kernel_rfl) (fun _ h => by cases h) viewOnce_row_tie rfl ⟨rfl, rfl⟩ (by kernel_rfl) rfl
    (fun f fn hf hfn => by
      obtain rfl : f = 5 := Option.some.inj ((show Tryd.prog.funcNamed "escrow/escrowlaw10.ViewOnce" = some 5 by kernel_rfl).symm.trans hf) |>.symm
      obtain rfl : fn = Tryd.f5 := (Option.some.inj (Tryd.func5.symm.trans hfn)).symm
      exact ⟨by kernel_rfl, fun j t ht => by
        rw [Tryd.params5] at ht
        have hm : t ∈ [22, 42, 3] := by simpa using Array.mem_of_getElem? ht
        have hall : ([22, 42, 3].all fun u => !Tryd.prog.wantsStandIn u) = true := by kernel_rfl
        exact (show Tryd.prog.wantsStandIn t = false by simpa using List.all_eq_true.1 hall t hm)⟩)
    (by kernel_rfl)
#print axioms vonce_card
end Go.Proofs.YtgaklaajbepfaaaDoor
