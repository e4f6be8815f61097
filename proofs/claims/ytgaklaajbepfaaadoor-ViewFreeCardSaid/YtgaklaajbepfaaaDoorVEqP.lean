/-
  Plain: looking alike is an equivalence, holds of beginnings, and asks for one view; to the notary it is equality.
-/
import Derived.Test.YtgaklaajbepfaaaDoorVAlike
import Derived.Test.YtgaklaajbepfaaaDoorVRelA
namespace Go.Proofs.YtgaklaajbepfaaaDoor
open Go.RowKit Go.Maps Go.Shelf
set_option linter.unusedVariables false

/-- Nodes of a pool are each there once. -/
theorem Ok.at_inj {p : Pl} (h : Ok p) : ∀ {x y : Int}, inP p x = true → inP p y = true → (atP p x).1 = (atP p y).1 → x = y := by
  induction h with
  | nil => intro x y hx; simp [inP] at hx; omega
  | @add p n hp he hn hl ih =>
    intro x y hx hy hxy
    have hnew : ∀ t : Int, inP (addP p n) t = true → ¬ inP p t = true → t = (p.length : Int) + 1 := fun t h1 h2 => by
      unfold inP at h1 h2
      unfold addP at h1
      simp at h1 h2
      omega
    have hat : ∀ t : Int, inP (addP p n) t = true → ¬ inP p t = true → (atP (addP p n) t).1 = n := fun t h1 h2 => by
      have := hnew t h1 h2
      unfold atP
      rw [if_pos h1, this, addP]
      simp [List.getD]
    have hold : ∀ t : Int, inP p t = true → (atP (addP p n) t).1 ≠ n := fun t h1 => by
      rw [addP, atP_append h1]
      obtain ⟨i, hi, _, e⟩ := atP_get h1
      rw [e]
      exact numP_zero.1 hn _ (List.getElem_mem hi)
    by_cases h1 : inP p x = true
    · by_cases h2 : inP p y = true
      · rw [addP, atP_append h1, atP_append h2] at hxy
        exact ih h1 h2 hxy
      · rw [hat y hy h2] at hxy; exact absurd hxy (hold x h1)
    · by_cases h2 : inP p y = true
      · rw [hat x hx h1] at hxy; exact absurd hxy.symm (hold y h2)
      · rw [hnew x hx h1, hnew y hy h2]
/-- What an observer sees of a node itself. -/
def seeN (who : Int) (n : Nd) : Nd := kdN (seeK who n) (abN n 0 0)
theorem seeK_of (who k f t u : Int) (s : ByteArray) (a b : Int) : seeK who ⟨k, f, t, u, s, a, b⟩ = if (twoK k && !tellK who f t) = true then 8 else k := by
  unfold seeK veilB tellB likeB tellK twoK
  show (if ((k == 8 || k == 9) && !((k == 8 || k == 9) && (who == f || (who == t || who == 2)))) = true then (8 : Int) else k) = _
  cases (k == 8 || k == 9) <;> cases (who == f || (who == t || who == 2)) <;> rfl
theorem sameB_see {who : Int} {x y : Nd} : sameB who x y = true ↔ seeN who x = seeN who y := by
  obtain ⟨k, f, t, u, s, a, b⟩ := x
  obtain ⟨k2, f2, t2, u2, s2, a2, b2⟩ := y
  unfold seeN kdN abN
  rw [seeK_of, seeK_of]
  unfold sameB sameN
  rw [decide_eq_true_eq]
  simp only [Nd.mk.injEq, and_true]
  constructor
  · rintro ⟨h1, rfl, rfl, rfl, rfl⟩
    refine ⟨?_, rfl, rfl, rfl, rfl⟩
    unfold veilB tellB likeB at h1
    simp only at h1
    unfold twoK tellK
    cases h3 : (who == f || (who == t || who == 2)) <;> cases h4 : (k == 8 || k == 9) <;> cases h5 : (k2 == 8 || k2 == 9) <;> rw [h3, h4, h5] at h1 <;> simp at h1 ⊢ <;> (try (subst h1)) <;> simp_all
  · rintro ⟨h1, rfl, rfl, rfl, rfl⟩
    refine ⟨?_, rfl, rfl, rfl, rfl⟩
    unfold veilB tellB likeB
    simp only
    unfold twoK tellK at h1
    cases h3 : (who == f || (who == t || who == 2)) <;> cases h4 : (k == 8 || k == 9) <;> cases h5 : (k2 == 8 || k2 == 9) <;> rw [h3, h4, h5] at h1 <;> simp at h1 ⊢ <;> (try (subst h1)) <;> simp_all
theorem sameB_refl (who : Int) (x : Nd) : sameB who x x = true := sameB_see.2 rfl
theorem sameB_symm {who : Int} {x y : Nd} (h : sameB who x y = true) : sameB who y x = true := sameB_see.2 (sameB_see.1 h).symm
theorem sameB_trans {who : Int} {x y z : Nd} (h : sameB who x y = true) (k : sameB who y z = true) : sameB who x z = true := sameB_see.2 ((sameB_see.1 h).trans (sameB_see.1 k))
theorem Bij.refl {p : Pl} (hp : Ok p) (who : Int) : Bij p who (fun x y => x = y ∧ (x = 0 ∨ inP p x = true)) := by
  refine ⟨fun a b b' h k => h.1.symm.trans k.1, fun a a' b h k => h.1.trans k.1.symm, ⟨rfl, .inl rfl⟩, ?_⟩
  rintro a b ⟨rfl, h⟩
  rcases h with h | h
  · exact .inl ⟨h, h⟩
  · obtain ⟨ka, kb⟩ := kid_less hp h
    exact .inr ⟨h, h, sameB_refl _ _, ⟨rfl, ka.imp id (·.1)⟩, ⟨rfl, kb.imp id (·.1)⟩⟩
theorem Bij.symm {p : Pl} {who : Int} {R : Int → Int → Prop} (h : Bij p who R) : Bij p who (fun x y => R y x) :=
  ⟨fun a b b' h1 h2 => h.inj _ _ _ h1 h2, fun a a' b h1 h2 => h.fn _ _ _ h1 h2, h.zero, fun a b hab => (h.step b a hab).imp (fun e => ⟨e.2, e.1⟩) fun ⟨h1, h2, h3, h4, h5⟩ => ⟨h2, h1, sameB_symm h3, h4, h5⟩⟩
theorem Bij.trans {p : Pl} {who : Int} {R S : Int → Int → Prop} (h : Bij p who R) (k : Bij p who S) : Bij p who (fun x z => ∃ y, R x y ∧ S y z) := by
  refine ⟨?_, ?_, ⟨0, h.zero, k.zero⟩, ?_⟩
  · rintro a b b' ⟨y, h1, h2⟩ ⟨y', h3, h4⟩
    obtain rfl := h.fn _ _ _ h1 h3
    exact k.fn _ _ _ h2 h4
  · rintro a a' b ⟨y, h1, h2⟩ ⟨y', h3, h4⟩
    obtain rfl := k.inj _ _ _ h2 h4
    exact h.inj _ _ _ h1 h3
  · rintro a c ⟨y, h1, h2⟩
    rcases h.step _ _ h1 with ⟨rfl, rfl⟩ | ⟨a1, a2, a3, a4, a5⟩
    · exact .inl ⟨rfl, (k.fn _ _ _ k.zero h2).symm⟩
    · rcases k.step _ _ h2 with ⟨rfl, _⟩ | ⟨b1, b2, b3, b4, b5⟩
      · rw [inP_zero] at a2; cases a2
      · exact .inr ⟨a1, b2, sameB_trans a3 b3, ⟨_, a4, b4⟩, ⟨_, a5, b5⟩⟩
theorem Bij.more {p : Pl} {who : Int} {R : Int → Int → Prop} (h : Bij p who R) (e : Pl) : Bij (p ++ e) who R :=
  ⟨h.fn, h.inj, h.zero, fun a b hab => (h.step a b hab).imp id fun ⟨h1, h2, h3, h4, h5⟩ => ⟨inP_le h1 (by simp), inP_le h2 (by simp), by rw [atP_append h1, atP_append h2]; exact h3, by rw [atP_append h1, atP_append h2]; exact h4, by rw [atP_append h1, atP_append h2]; exact h5⟩⟩
theorem AlikeP.refl_iff {p : Pl} (hp : Ok p) {who : Int} {l : List Int} : AlikeP p who l l ↔ nameB who = true ∧ ∀ x ∈ l, inP p x = true :=
  ⟨fun h => ⟨h.1, h.2.1⟩, fun h => ⟨h.1, h.2, h.2, rfl, _, Bij.refl hp who, fun i h1 h2 => ⟨rfl, .inr (h.2 _ (List.getElem_mem h1))⟩⟩⟩
theorem AlikeP.symm {p : Pl} {who : Int} {l m : List Int} (h : AlikeP p who l m) : AlikeP p who m l := by
  obtain ⟨h1, h2, h3, h4, R, h5, h6⟩ := h
  exact ⟨h1, h3, h2, h4.symm, _, h5.symm, fun i a b => h6 i b a⟩
theorem AlikeP.comm {p : Pl} {who : Int} {l m : List Int} : AlikeP p who l m ↔ AlikeP p who m l := ⟨AlikeP.symm, AlikeP.symm⟩
theorem AlikeP.trans {p : Pl} {who : Int} {l m n : List Int} (h : AlikeP p who l m) (k : AlikeP p who m n) : AlikeP p who l n := by
  obtain ⟨h1, h2, h3, h4, R, h5, h6⟩ := h
  obtain ⟨k1, k2, k3, k4, S, k5, k6⟩ := k
  exact ⟨h1, h2, k3, h4.trans k4, _, h5.trans k5, fun i a b => ⟨m[i]'(by omega), h6 i a (by omega), k6 i (by omega) b⟩⟩
theorem AlikeP.take {p : Pl} {who : Int} {l m : List Int} (h : AlikeP p who l m) (i : Nat) : AlikeP p who (l.take i) (m.take i) := by
  obtain ⟨h1, h2, h3, h4, R, h5, h6⟩ := h
  refine ⟨h1, fun x hx => h2 x (List.mem_of_mem_take hx), fun x hx => h3 x (List.mem_of_mem_take hx), by simp [h4], R, h5, fun j a b => ?_⟩
  rw [List.getElem_take, List.getElem_take]
  exact h6 j _ _
theorem AlikeP.more {p : Pl} {who : Int} {l m : List Int} (h : AlikeP p who l m) (e : Pl) : AlikeP (p ++ e) who l m := by
  obtain ⟨h1, h2, h3, h4, R, h5, h6⟩ := h
  exact ⟨h1, fun x hx => inP_le (h2 x hx) (by simp), fun x hx => inP_le (h3 x hx) (by simp), h4, R, h5.more e, h6⟩
theorem seeK_two (n : Nd) : seeK 2 n = n.kind := by
  unfold seeK
  rw [if_neg]
  unfold veilB tellB
  cases likeB n <;> simp
/-- The notary tells all. -/
theorem Bij.notary {p : Pl} (hp : Ok p) {R : Int → Int → Prop} (h : Bij p 2 R) : ∀ (k : Nat) (x y : Int), x.toNat < k → R x y → x = y
  | 0, _, _, h, _ => absurd h (Nat.not_lt_zero _)
  | k + 1, x, y, hk, hxy => by
    rcases h.step x y hxy with ⟨rfl, rfl⟩ | ⟨h1, h2, h3, h4, h5⟩
    · rfl
    · obtain ⟨ka, kb⟩ := kid_less hp h1
      have hx1 : 1 ≤ x := by unfold inP at h1; simp at h1; omega
      have ea : (atP p x).1.a = (atP p y).1.a := h.notary hp k _ _ (by rcases ka with e | e <;> omega) h4
      have eb : (atP p x).1.b = (atP p y).1.b := h.notary hp k _ _ (by rcases kb with e | e <;> omega) h5
      have e := sameB_see.1 h3
      refine hp.at_inj h1 h2 ?_
      revert e ea eb
      generalize (atP p x).1 = n
      generalize (atP p y).1 = n2
      obtain ⟨k, f, t, u, s, a, b⟩ := n
      obtain ⟨k2, f2, t2, u2, s2, a2, b2⟩ := n2
      unfold seeN kdN abN
      rw [seeK_two, seeK_two]
      simp only [Nd.mk.injEq]
      rintro rfl rfl ⟨rfl, rfl, rfl, rfl, rfl, _, _⟩
      exact ⟨rfl, rfl, rfl, rfl, rfl, rfl, rfl⟩
theorem AlikeP.notary {p : Pl} (hp : Ok p) {l m : List Int} : AlikeP p 2 l m ↔ (∀ x ∈ l, inP p x = true) ∧ l = m := by
  constructor
  · rintro ⟨h1, h2, h3, h4, R, h5, h6⟩
    exact ⟨h2, List.ext_getElem h4 fun i a b => h5.notary hp _ _ _ (Nat.lt_succ_self _) (h6 i a b)⟩
  · rintro ⟨h1, rfl⟩
    exact (AlikeP.refl_iff hp).2 ⟨by decide, h1⟩
/-- Terms that correspond have one view. -/
theorem Bij.view {q p1 p2 : Pl} {who : Int} {T1 T2 : Int} {m1 m2 : Int → Option Int} (hq : Ok q) {R : Int → Int → Prop} (h : Bij q who R) (h1 : Anew (seeK who) q T1 p1 m1) (h2 : Anew (seeK who) p1 T2 p2 m2) : ∀ (k : Nat) (x y u v : Int), x.toNat < k → R x y → m1 x = some u → m2 y = some v → u = v
  | 0, _, _, _, _, h, _, _, _ => absurd h (Nat.not_lt_zero _)
  | k + 1, x, y, u, v, hk, hxy, hu, hv => by
    rcases h1.at_ _ _ hu with ⟨rfl, rfl⟩ | ⟨a1, a2, a3, ⟨xa, xb, a4, a5, a6⟩, _⟩
    · obtain rfl := h.fn _ _ _ h.zero hxy
      rw [h2.zero] at hv; exact Option.some.inj hv
    · rcases h.step x y hxy with ⟨rfl, _⟩ | ⟨b1, b2, b3, b4, b5⟩
      · rw [inP_zero] at a1; cases a1
      · obtain ⟨e1, rfl⟩ := h1.ext
        obtain ⟨e2, rfl⟩ := h2.ext
        rcases h2.at_ _ _ hv with ⟨rfl, _⟩ | ⟨c1, c2, c3, ⟨ya, yb, c4, c5, c6⟩, _⟩
        · rw [inP_zero] at b2; cases b2
        · rw [atP_append b2] at c4 c5 c6
          obtain ⟨ka, kb⟩ := kid_less hq a1
          have hx1 : 1 ≤ x := by unfold inP at a1; simp at a1; omega
          have ea : xa = ya := h.view hq h1 h2 k _ _ _ _ (by rcases ka with e | e <;> omega) b4 a4 c4
          have eb : xb = yb := h.view hq h1 h2 k _ _ _ _ (by rcases kb with e | e <;> omega) b5 a5 c5
          refine h2.ok.at_inj (inP_le a3 (by simp)) c3 ?_
          rw [atP_append a3, a6, c6, ea, eb]
          have e := sameB_see.1 b3
          revert e
          generalize (atP q x).1 = n
          generalize (atP q y).1 = n2
          unfold seeN kdN abN
          simp only [Nd.mk.injEq]
          rintro ⟨h1, h2, h3, h4, h5, _, _⟩
          have hs : ∀ (n : Nd) (a b : Int), seeK who n = seeK who ⟨n.kind, n.frm, n.to, n.num, n.text, a, b⟩ := fun n a b => by obtain ⟨k, f, t, u, s, a', b'⟩ := n; rw [seeK_of, seeK_of]
          exact ⟨h1, h2, h3, h4, h5, trivial, trivial⟩
end Go.Proofs.YtgaklaajbepfaaaDoor
