/-
  Plain: looking alike is an equivalence, holds of beginnings, and asks for one view; to the notary it is equality.
  Toward ViewEquals: whether two lists are the same, in general; the beginning of a list as a slice; what stays true as the loops go.
  The law's own walk: ViewEquals.
  The statement ViewEquals, as a tied card. No condition.
-/
import Derived.Test.YtgaklaajbepfaaaDoorVAlike
import Derived.Test.YtgaklaajbepfaaaDoorVRelA
import Derived.Test.YtgaklaajbepfaaaDoorVLarge
import Derived.Test.YtgaklaajbepfaaaDoorVLiveW
import Derived.Test.YtgaklaajbepfaaaDoorTChain
import Derived.Deep.DeepCutAuto
import Derived.Test.YtgaklaajbepfaaaDoorTLaidL
import Derived.Test.YtgaklaajbepfaaaDoorCards
import Derived.Test.YtgaklaajbepfaaaDoorTie
import Derived.JoinedOf
import Derived.ChangeMaps5
import Derived.SevenTiedAt
namespace Go.Proofs.YtgaklaajbepfaaaDoor
open Go.RowKit Go.Maps Go.Shelf
set_option linter.unusedVariables false

/-- Nodes of a pool are each there once. -/
theorem Ok.at_inj {p : Pl} (h : Ok p) : ∀ {x y : Int}, inP p x = true → inP p y = true → (atP p x).1 = (atP p y).1 → x = y := by
  induction h with
  | nil => intro x y hx; simp [inP] at hx; omega
  | @add p n hp he hn hl ih =>
    intro x y hx hy hxy
    have hnew : ∀ t : Int, inP (addP p n) t = true → ¬ inP p t = true → t = (p.length : Int) + 1 := fun t h1 h2 => by
      unfold inP at h1 h2
      unfold addP at h1
      simp at h1 h2
      omega
    have hat : ∀ t : Int, inP (addP p n) t = true → ¬ inP p t = true → (atP (addP p n) t).1 = n := fun t h1 h2 => by
      have := hnew t h1 h2
      unfold atP
      rw [if_pos h1, this, addP]
      simp [List.getD]
    have hold : ∀ t : Int, inP p t = true → (atP (addP p n) t).1 ≠ n := fun t h1 => by
      rw [addP, atP_append h1]
      obtain ⟨i, hi, _, e⟩ := atP_get h1
      rw [e]
      exact numP_zero.1 hn _ (List.getElem_mem hi)
    by_cases h1 : inP p x = true
    · by_cases h2 : inP p y = true
      · rw [addP, atP_append h1, atP_append h2] at hxy
        exact ih h1 h2 hxy
      · rw [hat y hy h2] at hxy; exact absurd hxy (hold x h1)
    · by_cases h2 : inP p y = true
      · rw [hat x hx h1] at hxy; exact absurd hxy.symm (hold y h2)
      · rw [hnew x hx h1, hnew y hy h2]
/-- What an observer sees of a node itself. -/
def seeN (who : Int) (n : Nd) : Nd := kdN (seeK who n) (abN n 0 0)
theorem seeK_of (who k f t u : Int) (s : ByteArray) (a b : Int) : seeK who ⟨k, f, t, u, s, a, b⟩ = if (twoK k && !tellK who f t) = true then 8 else k := by
  unfold seeK veilB tellB likeB tellK twoK
  show (if ((k == 8 || k == 9) && !((k == 8 || k == 9) && (who == f || (who == t || who == 2)))) = true then (8 : Int) else k) = _
  cases (k == 8 || k == 9) <;> cases (who == f || (who == t || who == 2)) <;> rfl
theorem sameB_see {who : Int} {x y : Nd} : sameB who x y = true ↔ seeN who x = seeN who y := by
  obtain ⟨k, f, t, u, s, a, b⟩ := x
  obtain ⟨k2, f2, t2, u2, s2, a2, b2⟩ := y
  unfold seeN kdN abN
  rw [seeK_of, seeK_of]
  unfold sameB sameN
  rw [decide_eq_true_eq]
  simp only [Nd.mk.injEq, and_true]
  constructor
  · rintro ⟨h1, rfl, rfl, rfl, rfl⟩
    refine ⟨?_, rfl, rfl, rfl, rfl⟩
    unfold veilB tellB likeB at h1
    simp only at h1
    unfold twoK tellK
    cases h3 : (who == f || (who == t || who == 2)) <;> cases h4 : (k == 8 || k == 9) <;> cases h5 : (k2 == 8 || k2 == 9) <;> rw [h3, h4, h5] at h1 <;> simp at h1 ⊢ <;> (try (subst h1)) <;> simp_all
  · rintro ⟨h1, rfl, rfl, rfl, rfl⟩
    refine ⟨?_, rfl, rfl, rfl, rfl⟩
    unfold veilB tellB likeB
    simp only
    unfold twoK tellK at h1
    cases h3 : (who == f || (who == t || who == 2)) <;> cases h4 : (k == 8 || k == 9) <;> cases h5 : (k2 == 8 || k2 == 9) <;> rw [h3, h4, h5] at h1 <;> simp at h1 ⊢ <;> (try (subst h1)) <;> simp_all
theorem sameB_refl (who : Int) (x : Nd) : sameB who x x = true := sameB_see.2 rfl
theorem sameB_symm {who : Int} {x y : Nd} (h : sameB who x y = true) : sameB who y x = true := sameB_see.2 (sameB_see.1 h).symm
theorem sameB_trans {who : Int} {x y z : Nd} (h : sameB who x y = true) (k : sameB who y z = true) : sameB who x z = true := sameB_see.2 ((sameB_see.1 h).trans (sameB_see.1 k))
theorem Bij.refl {p : Pl} (hp : Ok p) (who : Int) : Bij p who (fun x y => x = y ∧ (x = 0 ∨ inP p x = true)) := by
  refine ⟨fun a b b' h k => h.1.symm.trans k.1, fun a a' b h k => h.1.trans k.1.symm, ⟨rfl, .inl rfl⟩, ?_⟩
  rintro a b ⟨rfl, h⟩
  rcases h with h | h
  · exact .inl ⟨h, h⟩
  · obtain ⟨ka, kb⟩ := kid_less hp h
    exact .inr ⟨h, h, sameB_refl _ _, ⟨rfl, ka.imp id (·.1)⟩, ⟨rfl, kb.imp id (·.1)⟩⟩
theorem Bij.symm {p : Pl} {who : Int} {R : Int → Int → Prop} (h : Bij p who R) : Bij p who (fun x y => R y x) :=
  ⟨fun a b b' h1 h2 => h.inj _ _ _ h1 h2, fun a a' b h1 h2 => h.fn _ _ _ h1 h2, h.zero, fun a b hab => (h.step b a hab).imp (fun e => ⟨e.2, e.1⟩) fun ⟨h1, h2, h3, h4, h5⟩ => ⟨h2, h1, sameB_symm h3, h4, h5⟩⟩
theorem Bij.trans {p : Pl} {who : Int} {R S : Int → Int → Prop} (h : Bij p who R) (k : Bij p who S) : Bij p who (fun x z => ∃ y, R x y ∧ S y z) := by
  refine ⟨?_, ?_, ⟨0, h.zero, k.zero⟩, ?_⟩
  · rintro a b b' ⟨y, h1, h2⟩ ⟨y', h3, h4⟩
    obtain rfl := h.fn _ _ _ h1 h3
    exact k.fn _ _ _ h2 h4
  · rintro a a' b ⟨y, h1, h2⟩ ⟨y', h3, h4⟩
    obtain rfl := k.inj _ _ _ h2 h4
    exact h.inj _ _ _ h1 h3
  · rintro a c ⟨y, h1, h2⟩
    rcases h.step _ _ h1 with ⟨rfl, rfl⟩ | ⟨a1, a2, a3, a4, a5⟩
    · exact .inl ⟨rfl, (k.fn _ _ _ k.zero h2).symm⟩
    · rcases k.step _ _ h2 with ⟨rfl, _⟩ | ⟨b1, b2, b3, b4, b5⟩
      · rw [inP_zero] at a2; cases a2
      · exact .inr ⟨a1, b2, sameB_trans a3 b3, ⟨_, a4, b4⟩, ⟨_, a5, b5⟩⟩
theorem Bij.more {p : Pl} {who : Int} {R : Int → Int → Prop} (h : Bij p who R) (e : Pl) : Bij (p ++ e) who R :=
  ⟨h.fn, h.inj, h.zero, fun a b hab => (h.step a b hab).imp id fun ⟨h1, h2, h3, h4, h5⟩ => ⟨inP_le h1 (by simp), inP_le h2 (by simp), by rw [atP_append h1, atP_append h2]; exact h3, by rw [atP_append h1, atP_append h2]; exact h4, by rw [atP_append h1, atP_append h2]; exact h5⟩⟩
theorem AlikeP.refl_iff {p : Pl} (hp : Ok p) {who : Int} {l : List Int} : AlikeP p who l l ↔ nameB who = true ∧ ∀ x ∈ l, inP p x = true :=
  ⟨fun h => ⟨h.1, h.2.1⟩, fun h => ⟨h.1, h.2, h.2, rfl, _, Bij.refl hp who, fun i h1 h2 => ⟨rfl, .inr (h.2 _ (List.getElem_mem h1))⟩⟩⟩
theorem AlikeP.symm {p : Pl} {who : Int} {l m : List Int} (h : AlikeP p who l m) : AlikeP p who m l := by
  obtain ⟨h1, h2, h3, h4, R, h5, h6⟩ := h
  exact ⟨h1, h3, h2, h4.symm, _, h5.symm, fun i a b => h6 i b a⟩
theorem AlikeP.comm {p : Pl} {who : Int} {l m : List Int} : AlikeP p who l m ↔ AlikeP p who m l := ⟨AlikeP.symm, AlikeP.symm⟩
theorem AlikeP.trans {p : Pl} {who : Int} {l m n : List Int} (h : AlikeP p who l m) (k : AlikeP p who m n) : AlikeP p who l n := by
  obtain ⟨h1, h2, h3, h4, R, h5, h6⟩ := h
  obtain ⟨k1, k2, k3, k4, S, k5, k6⟩ := k
  exact ⟨h1, h2, k3, h4.trans k4, _, h5.trans k5, fun i a b => ⟨m[i]'(by omega), h6 i a (by omega), k6 i (by omega) b⟩⟩
theorem AlikeP.take {p : Pl} {who : Int} {l m : List Int} (h : AlikeP p who l m) (i : Nat) : AlikeP p who (l.take i) (m.take i) := by
  obtain ⟨h1, h2, h3, h4, R, h5, h6⟩ := h
  refine ⟨h1, fun x hx => h2 x (List.mem_of_mem_take hx), fun x hx => h3 x (List.mem_of_mem_take hx), by simp [h4], R, h5, fun j a b => ?_⟩
  rw [List.getElem_take, List.getElem_take]
  exact h6 j _ _
theorem AlikeP.more {p : Pl} {who : Int} {l m : List Int} (h : AlikeP p who l m) (e : Pl) : AlikeP (p ++ e) who l m := by
  obtain ⟨h1, h2, h3, h4, R, h5, h6⟩ := h
  exact ⟨h1, fun x hx => inP_le (h2 x hx) (by simp), fun x hx => inP_le (h3 x hx) (by simp), h4, R, h5.more e, h6⟩
theorem seeK_two (n : Nd) : seeK 2 n = n.kind := by
  unfold seeK
  rw [if_neg]
  unfold veilB tellB
  cases likeB n <;> simp
/-- The notary tells all. -/
theorem Bij.notary {p : Pl} (hp : Ok p) {R : Int → Int → Prop} (h : Bij p 2 R) : ∀ (k : Nat) (x y : Int), x.toNat < k → R x y → x = y
  | 0, _, _, h, _ => absurd h (Nat.not_lt_zero _)
  | k + 1, x, y, hk, hxy => by
    rcases h.step x y hxy with ⟨rfl, rfl⟩ | ⟨h1, h2, h3, h4, h5⟩
    · rfl
    · obtain ⟨ka, kb⟩ := kid_less hp h1
      have hx1 : 1 ≤ x := by unfold inP at h1; simp at h1; omega
      have ea : (atP p x).1.a = (atP p y).1.a := h.notary hp k _ _ (by rcases ka with e | e <;> omega) h4
      have eb : (atP p x).1.b = (atP p y).1.b := h.notary hp k _ _ (by rcases kb with e | e <;> omega) h5
      have e := sameB_see.1 h3
      refine hp.at_inj h1 h2 ?_
      revert e ea eb
      generalize (atP p x).1 = n
      generalize (atP p y).1 = n2
      obtain ⟨k, f, t, u, s, a, b⟩ := n
      obtain ⟨k2, f2, t2, u2, s2, a2, b2⟩ := n2
      unfold seeN kdN abN
      rw [seeK_two, seeK_two]
      simp only [Nd.mk.injEq]
      rintro rfl rfl ⟨rfl, rfl, rfl, rfl, rfl, _, _⟩
      exact ⟨rfl, rfl, rfl, rfl, rfl, rfl, rfl⟩
theorem AlikeP.notary {p : Pl} (hp : Ok p) {l m : List Int} : AlikeP p 2 l m ↔ (∀ x ∈ l, inP p x = true) ∧ l = m := by
  constructor
  · rintro ⟨h1, h2, h3, h4, R, h5, h6⟩
    exact ⟨h2, List.ext_getElem h4 fun i a b => h5.notary hp _ _ _ (Nat.lt_succ_self _) (h6 i a b)⟩
  · rintro ⟨h1, rfl⟩
    exact (AlikeP.refl_iff hp).2 ⟨by decide, h1⟩
/-- Terms that correspond have one view. -/
theorem Bij.view {q p1 p2 : Pl} {who : Int} {T1 T2 : Int} {m1 m2 : Int → Option Int} (hq : Ok q) {R : Int → Int → Prop} (h : Bij q who R) (h1 : Anew (seeK who) q T1 p1 m1) (h2 : Anew (seeK who) p1 T2 p2 m2) : ∀ (k : Nat) (x y u v : Int), x.toNat < k → R x y → m1 x = some u → m2 y = some v → u = v
  | 0, _, _, _, _, h, _, _, _ => absurd h (Nat.not_lt_zero _)
  | k + 1, x, y, u, v, hk, hxy, hu, hv => by
    rcases h1.at_ _ _ hu with ⟨rfl, rfl⟩ | ⟨a1, a2, a3, ⟨xa, xb, a4, a5, a6⟩, _⟩
    · obtain rfl := h.fn _ _ _ h.zero hxy
      rw [h2.zero] at hv; exact Option.some.inj hv
    · rcases h.step x y hxy with ⟨rfl, _⟩ | ⟨b1, b2, b3, b4, b5⟩
      · rw [inP_zero] at a1; cases a1
      · obtain ⟨e1, rfl⟩ := h1.ext
        obtain ⟨e2, rfl⟩ := h2.ext
        rcases h2.at_ _ _ hv with ⟨rfl, _⟩ | ⟨c1, c2, c3, ⟨ya, yb, c4, c5, c6⟩, _⟩
        · rw [inP_zero] at b2; cases b2
        · rw [atP_append b2] at c4 c5 c6
          obtain ⟨ka, kb⟩ := kid_less hq a1
          have hx1 : 1 ≤ x := by unfold inP at a1; simp at a1; omega
          have ea : xa = ya := h.view hq h1 h2 k _ _ _ _ (by rcases ka with e | e <;> omega) b4 a4 c4
          have eb : xb = yb := h.view hq h1 h2 k _ _ _ _ (by rcases kb with e | e <;> omega) b5 a5 c5
          refine h2.ok.at_inj (inP_le a3 (by simp)) c3 ?_
          rw [atP_append a3, a6, c6, ea, eb]
          have e := sameB_see.1 b3
          revert e
          generalize (atP q x).1 = n
          generalize (atP q y).1 = n2
          unfold seeN kdN abN
          simp only [Nd.mk.injEq]
          rintro ⟨h1, h2, h3, h4, h5, _, _⟩
          have hs : ∀ (n : Nd) (a b : Int), seeK who n = seeK who ⟨n.kind, n.frm, n.to, n.num, n.text, a, b⟩ := fun n a b => by obtain ⟨k, f, t, u, s, a', b'⟩ := n; rw [seeK_of, seeK_of]
          exact ⟨h1, h2, h3, h4, h5, trivial, trivial⟩
end Go.Proofs.YtgaklaajbepfaaaDoor
namespace Go.Proofs.YtgaklaajbepfaaaDoor
open Go.RowKit Go.Maps
set_option linter.unusedVariables false

theorem sizeTmS (w : World) : (Go.sizeOf TermT).run Tryd.prog w = .ok 1 w := by kernel_rfl
theorem elemTmS : Tryd.prog.elem SlTT = TermT := by simp [Program.elem, Tryd.underlying23]
theorem undTmS : Tryd.prog.underlying SlTT = some (.slice (Tryd.prog.elem SlTT)) := by rw [elemTmS]; exact Tryd.underlying23
theorem row_takeT {w : World} {b off cap : Nat} {l : List Int} (h : Row w 1 (.slice (some ⟨b, off, none⟩) l.length cap) l.length (ints l)) {k : Nat} (hk : k ≤ l.length) :
    Row w 1 (.slice (some ⟨b, off, none⟩) (l.take k).length cap) (l.take k).length (ints (l.take k)) ∧ ∀ W : World, (Instr.slice SlTT (.slice (some ⟨b, off, none⟩) l.length cap) none (some (.int .i64 (k : Int))) none).run Tryd.prog W = .ok (.slice (some ⟨b, off, none⟩) (l.take k).length cap) W := by
  have hkl : (l.take k).length = k := by simp; omega
  obtain ⟨h1, h2⟩ := h
  rcases h2 with ⟨e, _⟩ | ⟨b', off', cap', e, h3, h4, h5, h6⟩
  · simp at e
  · simp only [Value.slice.injEq, Option.some.injEq, Addr.mk.injEq] at e
    obtain ⟨⟨rfl, rfl, _⟩, _, rfl⟩ := e
    refine ⟨⟨by simp [ints], .inr ⟨b, off, cap, rfl, h3, by omega, h5, fun j u hj => h6 j u ?_⟩⟩, fun W => ?_⟩
    · have : ints l = ints (l.take k) ++ ints (l.drop k) := by rw [show ints (l.take k) ++ ints (l.drop k) = ints (l.take k ++ l.drop k) from by simp [ints], List.take_append_drop]
      rw [this, List.getElem?_append_left (List.getElem?_eq_some_iff.1 hj).1]; exact hj
    · rw [run_slice_h W _ _ _ _ undTmS _ _ (by omega) (by omega), elemTmS, sizeTmS, hkl]
      simp only [Result.andThen_ok, sliced]
      by_cases hc : cap = 0
      · simp [hc]
      · simp [hc, Addr.add]
set_option maxRecDepth 100000 in
set_option maxHeartbeats 6400000 in
theorem termsG_any {w : World} {va vb : Value} {l m : List Int} (ha : Row w 1 va l.length (ints l)) (hb : Row w 1 vb m.length (ints m)) (hl : l.length ≤ 1000000) (hm : m.length ≤ 1000000) : Calls Tryd.prog 13 #[va, vb] w fun e w' => (∃ r, e = .returned (.bool r) ∧ (r = true ↔ l = m)) ∧ Below w.heap.size w w' := by
  obtain ⟨aa, ac, rfl, hax⟩ := ha.at
  obtain ⟨ba, bc, rfl, hbx⟩ := hb.at
  have HAX := Lib.hid hax
  have HBX := Lib.hid hbx
  clear ha hb hax hbx
  by_cases hlm : l.length = m.length
  case neg =>
    have e1 : ((l.length : Int) != (m.length : Int)) = true := by rw [bne, ebF (by omega)]; rfl
    go_enter Tryd.func13, Tryd.ntmps13
    go_wp2_with fail
    go_returns
    exact ⟨⟨false, rfl, fun e => (by cases e), fun e => absurd (by rw [e]) hlm⟩, Below.refl _ _⟩
  have e1 : ((l.length : Int) != (m.length : Int)) = false := by rw [hlm]; simp
  go_enter Tryd.func13, Tryd.ntmps13
  go_wp2_with fail
  skip
  go_loopw [5] (fun v5 wr => ∃ i : Nat, v5 = .int .i64 (i : Int) ∧ i ≤ l.length ∧ (∀ j (h : j < l.length) (h' : j < m.length), j < i → l[j] = m[j]) ∧ Below w.heap.size w wr) (fun v _ => l.length - (intOf v).toNat)
  case atStart => exact ⟨0, rfl, Nat.zero_le _, fun j _ _ h => absurd h (Nat.not_lt_zero _), Below.refl _ _⟩
  case round =>
    obtain ⟨i, rfl, hi, hin, hbl⟩ := hrel
    have HB := Lib.hid hbl
    have HIN := Lib.hid hin
    clear hin
    by_cases hlt : i < l.length
    · have hlt2 : i < m.length := by omega
      obtain ⟨ab, ao, rfl, qa⟩ := HAX.out (by omega)
      obtain ⟨bb, bo, rfl, qb⟩ := HBX.out (by omega)
      have c0 := bcellAt hbl (qa i _ (ints_at l i hlt))
      have c1 := bcellAt hbl (qb i _ (ints_at m i hlt2))
      have hi0 : (0 : Int) ≤ (i : Int) := by omega
      have hi1 : (i : Int) < (l.length : Int) := by omega
      have hi2 : (i : Int) < (m.length : Int) := by omega
      have HNX : Hid (l[i] = m[i] → ∀ j (h : j < l.length) (h' : j < m.length), j < i + 1 → l[j] = m[j]) := Lib.hid fun e j h h' hj => by
        rcases Nat.lt_or_ge j i with hj' | hj'
        · exact HIN.out j h h' hj'
        · obtain rfl : j = i := by omega
          exact e
      have HNE : Hid (l[i] ≠ m[i] → l ≠ m) := Lib.hid fun e h => e (by subst h; rfl)
      generalize l[i] = y at *
      generalize m[i] = z at *
      clear qa qb hbl
      by_cases hyz : y = z
      · have HY := Lib.hid hyz
        have e2 : (y != z) = false := by rw [hyz]; simp
        clear hyz
        go_wp2_with fail
        go_quiet (fail)
        have HBQ := Lib.hid (bmore HB.out (bdn wr nq))
        clear c0 c1
        go_wp2_with fail
        go_roundw
        case rel => exact ⟨i + 1, by go_num, by omega, HNX.out HY.out, HBQ.out⟩
        case measure => simp [intOf] <;> omega
      · have HY := Lib.hid (HNE.out hyz)
        have e2 : (y != z) = true := by rw [bne, ebF hyz]; rfl
        clear hyz
        go_wp2_with fail
        go_quiet (fail)
        have HBQ := Lib.hid (bmore HB.out (bdn wr nq))
        clear c0 c1
        go_wp2_with fail
        go_returns
        exact ⟨⟨false, rfl, fun e => (by cases e), fun e => absurd e HY.out⟩, HBQ.out⟩
    · obtain rfl : i = l.length := by omega
      have HEQ : Hid (l = m) := Lib.hid (List.ext_getElem hlm fun j h1 h2 => HIN.out j h1 h2 h1)
      clear hbl hlt
      go_wp2_with fail
      go_returns
      exact ⟨⟨true, rfl, fun _ => HEQ.out, fun _ => rfl⟩, HB.out⟩
/-- Whether all so far are there. -/
def inUp (p : Pl) (k : Bool) (l : List Int) (i : Nat) : Bool := k && (l.take i).all (inP p)
theorem inUp_zero (p : Pl) (k : Bool) (l : List Int) : inUp p k l 0 = k := by unfold inUp; simp
theorem inUp_succ (p : Pl) (k : Bool) (l : List Int) {i : Nat} (h : i < l.length) : inUp p k l (i + 1) = (inUp p k l i && inP p l[i]) := by
  unfold inUp
  rw [List.take_add_one, List.getElem?_eq_getElem h, Option.toList_some, List.all_append]
  simp [Bool.and_assoc]
theorem inUp_all {p : Pl} {k : Bool} {l : List Int} : inUp p k l l.length = true ↔ k = true ∧ ∀ x ∈ l, inP p x = true := by
  unfold inUp
  rw [List.take_length, Bool.and_eq_true, List.all_eq_true]
theorem notary_more {p e : Pl} (hp : Ok (p ++ e)) {l m : List Int} (h : (∀ x ∈ l, inP p x = true) ∨ e = []) : AlikeP (p ++ e) 2 l m ↔ (∀ x ∈ l, inP p x = true) ∧ l = m := by
  rw [AlikeP.notary hp]
  rcases h with h | rfl
  · exact ⟨fun g => ⟨h, g.2⟩, fun g => ⟨fun x hx => inP_le (h x hx) (by simp), g.2⟩⟩
  · rw [List.append_nil]
end Go.Proofs.YtgaklaajbepfaaaDoor
namespace Go.Proofs.YtgaklaajbepfaaaDoor
open Go.RowKit Go.Maps Go.Shelf
set_option linter.unusedVariables false

set_option maxRecDepth 100000 in
set_option maxHeartbeats 51200000 in
theorem equals_walk {w : World} (hl : Laid w) {fo : Fo} {l m n : List Int} {who : Int} {u0 u1 u2 u3 : Value} (hk : IsK w (fun b => b < w.heap.size) u0 fo) (hok : OkF fo) (h1 : Row w 1 u1 l.length (ints l)) (h2 : Row w 1 u2 m.length (ints m)) (h3 : Row w 1 u3 n.length (ints n)) : Calls Tryd.prog 4 #[.agg #[u0, u1, u2, u3, .int .i64 who]] w fun e w' => e = .returned (.bool true) ∧ Below w.heap.size w w' := by
  obtain ⟨a0, k0, rfl, _⟩ := hk.shape
  obtain ⟨a1, k1, rfl, hlx⟩ := h1.at
  obtain ⟨a2, k2, rfl, hmx⟩ := h2.at
  obtain ⟨a3, k3, rfl, _⟩ := h3.at
  have bx := bA0 w (.cells #[.slice a0 fo.len k0, .slice a1 l.length k1, .slice a2 m.length k2, .slice a3 n.length k3, .int .i64 who] LisT)
  have hx := heap_alloc_new w (.cells #[.slice a0 fo.len k0, .slice a1 l.length k1, .slice a2 m.length k2, .slice a3 n.length k3, .int .i64 who] LisT)
  have hk1 := hk.below bx
  have hk2 := hk1.of (w' := w) (G' := fun b => b < (w.alloc (.cells #[.slice a0 fo.len k0, .slice a1 l.length k1, .slice a2 m.length k2, .slice a3 n.length k3, .int .i64 who] LisT)).heap.size) (fun b hb _ => Nat.lt_of_lt_of_le hb bx.size)
  have LG := Lib.hid (vlarge_any (who := who) hk2 (h1.below bx) (h2.below bx) (h3.below bx))
  have HLD := Lib.hid hl
  have HKK := Lib.hid hk
  have HLX := Lib.hid hlx
  have HMX := Lib.hid hmx
  have R1 := Lib.hid h1
  have R2 := Lib.hid h2
  have R3 := Lib.hid h3
  have HOK := Lib.hid hok
  have HBX := Lib.hid bx
  have HX := Lib.hid hx
  clear hk hk1 hk2 h1 h2 h3 bx hx hl hok hlx hmx
  go_enter Tryd.func4, Tryd.ntmps4
  go_upto_region 1 with fail
  generalize (w.alloc (.cells #[.slice a0 fo.len k0, .slice a1 l.length k1, .slice a2 m.length k2, .slice a3 n.length k3, .int .i64 who] LisT)) = w1 at *
  have z0 : w1.cell? ⟨w.heap.size, 0, none⟩ = some (.slice a0 fo.len k0) := cellB (j := 0) HX.out rfl
  have z1 : w1.cell? ⟨w.heap.size, 1, none⟩ = some (.slice a1 l.length k1) := cellB (j := 1) HX.out rfl
  have z2 : w1.cell? ⟨w.heap.size, 2, none⟩ = some (.slice a2 m.length k2) := cellB (j := 2) HX.out rfl
  have z3 : w1.cell? ⟨w.heap.size, 3, none⟩ = some (.slice a3 n.length k3) := cellB (j := 3) HX.out rfl
  have z4 : w1.cell? ⟨w.heap.size, 4, none⟩ = some (.int .i64 who) := cellB (j := 4) HX.out rfl
  go_wp2_with fail
  refine LG.out.mono ?_
  rintro e w2 ⟨⟨q, rfl, hq⟩, u2⟩
  clear z0 z1 z2 z3 z4 LG
  have HU2 := Lib.hid (bmore HBX.out u2)
  replace HX := Lib.hid (Hold.below u2 _ _ HX.out)
  have HWB2 : Hid (w.heap.size < w2.heap.size) := Lib.hid (Array.getElem?_eq_some_iff.1 HX.out).1
  clear u2 HBX
  cases q with
  | true =>
    clear hq
    have LV := Lib.hid (live_any (HLD.out.below HU2.out))
    go_wp2_with fail
    refine LV.out.mono ?_
    rintro e w3 ⟨rfl, u3⟩
    have HU3 := Lib.hid (bmore HU2.out u3)
    clear u3 LV
    go_wp2_with fail
    go_returns
    exact ⟨rfl, HU3.out⟩
  | false =>
    have HQ := Lib.hid (hq rfl)
    clear hq
    have z0 : w2.cell? ⟨w.heap.size, 0, none⟩ = some (.slice a0 fo.len k0) := cellB (j := 0) HX.out rfl
    have hk1 := HKK.out.below HU2.out
    have hk2 := hk1.of (w' := w) (G' := fun b => b < w2.heap.size) (fun b hb _ => Nat.lt_of_lt_of_le hb HU2.out.size)
    have PO := Lib.hid (pools_any (HLD.out.below HU2.out) hk2 HOK.out (by have := HQ.out.2.1; omega) (by have := HQ.out.1; omega))
    clear hk1 hk2
    go_wp2_with fail
    refine PO.out.mono ?_
    rintro e w3 ⟨pa, b, ra, vv, rl, rs, rd, p, rfl, hp, hr, u3, hlen⟩
    clear z0 PO
    have HP := Lib.hid hp
    have HR := Lib.hid hr
    have HU3 := Lib.hid (bmore HU2.out u3)
    have HB23 := Lib.hid u3
    replace HX := Lib.hid (Hold.below u3 _ _ HX.out)
    have HLL : Hid (l.length ≤ 12 ∧ m.length ≤ 12 ∧ n.length ≤ 12 ∧ p.length ≤ 400) := Lib.hid ⟨HQ.out.2.2.1, HQ.out.2.2.2.1, HQ.out.2.2.2.2, by have := HQ.out.2.1; omega⟩
    have HXC : Hid (w.heap.size < w3.heap.size) := Lib.hid (Array.getElem?_eq_some_iff.1 HX.out).1
    clear hp hr u3 hlen HU2 HKK HOK HQ
    generalize w2.heap.size = B2 at *
    have Q1 := Lib.hid (R1.out.below HU3.out)
    have Q2 := Lib.hid (R2.out.below HU3.out)
    have Q3 := Lib.hid (R3.out.below HU3.out)
    have HK : Hid (∀ V : World, Below w3.heap.size w3 V → V.cell? ⟨w.heap.size, 1, none⟩ = some (.slice a1 l.length k1) ∧ V.cell? ⟨w.heap.size, 2, none⟩ = some (.slice a2 m.length k2) ∧ V.cell? ⟨w.heap.size, 3, none⟩ = some (.slice a3 n.length k3) ∧ V.cell? ⟨w.heap.size, 4, none⟩ = some (.int .i64 who)) := Lib.hid fun V h => ⟨bcellAt h (cellB (j := 1) HX.out rfl), bcellAt h (cellB (j := 2) HX.out rfl), bcellAt h (cellB (j := 3) HX.out rfl), bcellAt h (cellB (j := 4) HX.out rfl)⟩
    have z4 : w3.cell? ⟨w.heap.size, 4, none⟩ = some (.int .i64 who) := cellB (j := 4) HX.out rfl
    have z1 : w3.cell? ⟨w.heap.size, 1, none⟩ = some (.slice a1 l.length k1) := cellB (j := 1) HX.out rfl
    go_wp2_with fail
    refine (rname_any who _).mono ?_
    rintro e V ⟨rfl, rfl⟩
    obtain ⟨wo, hwo⟩ : ∃ wo, wo = w3 := ⟨_, rfl⟩
    go_wp2_with fail
    go_loopw [6, 7] (fun v6 v7 wr => ∃ i : Nat, v7 = .int .i64 (i : Int) ∧ v6 = .bool (inUp p (nameK who) l i) ∧ i ≤ l.length ∧ w3 = wr) (fun _ v _ => l.length - (intOf v).toNat)
    case atStart => exact ⟨0, rfl, by rw [inUp_zero], Nat.zero_le _, rfl⟩
    case round =>
      obtain ⟨i, rfl, rfl, hi, rfl⟩ := hrel
      by_cases hlt : i < l.length
      · obtain ⟨lb, lo, rfl, ql⟩ := HLX.out (by omega)
        have cl := bcellAt HU3.out (ql i _ (ints_at l i hlt))
        have hl12 : l.length ≤ 12 := HLL.out.1
        have hi0 : (0 : Int) ≤ (i : Int) := by omega
        have hi1 : (i : Int) < (l.length : Int) := by omega
        have HSU := Lib.hid (inUp_succ p (nameK who) l hlt)
        have HRN := rin HR.out l[i]
        generalize l[i] = x at *
        generalize inUp p (nameK who) l i = bu at *
        clear ql
        cases bu with
        | true =>
          go_wp2_with fail
          refine HRN.mono ?_
          rintro e V ⟨rfl, rfl⟩
          clear cl
          go_wp2_with fail
          go_roundw
          case rel => exact ⟨i + 1, by go_num, by rw [HSU.out]; rfl, by omega, by trivial⟩
          case measure => simp [intOf] <;> omega
        | false =>
          clear HRN cl
          go_wp2_with fail
          go_roundw
          case rel => exact ⟨i + 1, by go_num, by rw [HSU.out]; rfl, by omega, by trivial⟩
          case measure => simp [intOf] <;> omega
      · obtain rfl : i = l.length := by omega
        clear hlt
        have HIA := Lib.hid (inUp_all (p := p) (k := nameK who) (l := l))
        generalize inUp p (nameK who) l l.length = bi at *
        have U0 := Lib.hid (Below.refl w3.heap.size w3)
        go_upto_region 11 with fail
        clear z4 z1
        have AL1 := Lib.hid (Alike_any (HP.out.below (bmore U0.out (bd w3))) who (Q1.out.below (bmore U0.out (bd w3))) (Q2.out.below (bmore U0.out (bd w3))) (by have := HLL.out; omega) (by have := HLL.out; omega))
        refine lex_start [0, 1, 2, 3, 4, 5, 6, 8, 9, 10, 11, 12, 13, 14, 7, 15, 16, 17] (S := (fun V : World => V.cell? ⟨w.heap.size, 1, none⟩ = some (.slice a1 l.length k1) ∧ V.cell? ⟨w.heap.size, 2, none⟩ = some (.slice a2 m.length k2) ∧ V.cell? ⟨w.heap.size, 3, none⟩ = some (.slice a3 n.length k3) ∧ V.cell? ⟨w.heap.size, 4, none⟩ = some (.int .i64 who))) (by kernel_rfl) (HK.out _ (bmore U0.out (bd w3))) (fun hS => ?_)
        clear hS
        simp only [inOrder, List.filterMap, List.getElem?_cons_succ, List.getElem?_cons_zero]
        refine lex_take (i := 0) (v := ?_) rfl (by kernel_rfl) (by kernel_rfl) (by kernel_rfl) (by rfl) (HK.out _ (bmore U0.out (bd w3))) ?_ ?_
        rotate_left
        · ((intro W hW; obtain ⟨k0, k1, k2, k3⟩ := hW; go_simp) <;> with_reducible rfl)
        simp only [Act.put, List.setIfInBounds_toArray, List.set_cons_zero, List.set_cons_succ]
        refine lex_take (i := 1) (v := ?_) rfl (by kernel_rfl) (by kernel_rfl) (by kernel_rfl) (by rfl) (HK.out _ (bmore U0.out (bd w3))) ?_ ?_
        rotate_left
        · ((intro W hW; obtain ⟨k0, k1, k2, k3⟩ := hW; go_simp) <;> with_reducible rfl)
        simp only [Act.put, List.setIfInBounds_toArray, List.set_cons_zero, List.set_cons_succ]
        refine lex_take (i := 2) (v := ?_) rfl (by kernel_rfl) (by kernel_rfl) (by kernel_rfl) (by rfl) (HK.out _ (bmore U0.out (bd w3))) ?_ ?_
        rotate_left
        · ((intro W hW; obtain ⟨k0, k1, k2, k3⟩ := hW; go_simp) <;> with_reducible rfl)
        simp only [Act.put, List.setIfInBounds_toArray, List.set_cons_zero, List.set_cons_succ]
        refine lex_take (i := 3) (v := ?_) rfl (by kernel_rfl) (by kernel_rfl) (by kernel_rfl) (by rfl) (HK.out _ (bmore U0.out (bd w3))) ?_ ?_
        rotate_left
        · ((intro W hW; obtain ⟨k0, k1, k2, k3⟩ := hW; go_simp) <;> with_reducible rfl)
        simp only [Act.put, List.setIfInBounds_toArray, List.set_cons_zero, List.set_cons_succ]
        refine lex_take (i := 4) (v := ?_) rfl (by kernel_rfl) (by kernel_rfl) (by kernel_rfl) (by rfl) (HK.out _ (bmore U0.out (bd w3))) ?_ ?_
        rotate_left
        · ((intro W hW; obtain ⟨k0, k1, k2, k3⟩ := hW; go_simp) <;> with_reducible rfl)
        simp only [Act.put, List.setIfInBounds_toArray, List.set_cons_zero, List.set_cons_succ]
        refine lex_take (i := 5) (v := ?_) rfl (by kernel_rfl) (by kernel_rfl) (by kernel_rfl) (by rfl) (HK.out _ (bmore U0.out (bd w3))) ?_ ?_
        rotate_left
        · ((intro W hW; obtain ⟨k0, k1, k2, k3⟩ := hW; go_simp) <;> with_reducible rfl)
        simp only [Act.put, List.setIfInBounds_toArray, List.set_cons_zero, List.set_cons_succ]
        refine lex_take (i := 6) (v := ?_) rfl (by kernel_rfl) (by kernel_rfl) (by kernel_rfl) (by rfl) (HK.out _ (bmore U0.out (bd w3))) ?_ ?_
        rotate_left
        · ((intro W hW; obtain ⟨k0, k1, k2, k3⟩ := hW; go_simp) <;> with_reducible rfl)
        simp only [Act.put, List.setIfInBounds_toArray, List.set_cons_zero, List.set_cons_succ]
        refine lex_take (i := 8) (v := ?_) rfl (by kernel_rfl) (by kernel_rfl) (by kernel_rfl) (by rfl) (HK.out _ (bmore U0.out (bd w3))) ?_ ?_
        rotate_left
        · ((intro W hW; obtain ⟨k0, k1, k2, k3⟩ := hW; go_simp) <;> with_reducible rfl)
        simp only [Act.put, List.setIfInBounds_toArray, List.set_cons_zero, List.set_cons_succ]
        refine lex_take (i := 9) (v := ?_) rfl (by kernel_rfl) (by kernel_rfl) (by kernel_rfl) (by rfl) (HK.out _ (bmore U0.out (bd w3))) ?_ ?_
        rotate_left
        · ((intro W hW; obtain ⟨k0, k1, k2, k3⟩ := hW; go_simp) <;> with_reducible rfl)
        simp only [Act.put, List.setIfInBounds_toArray, List.set_cons_zero, List.set_cons_succ]
        refine lex_take (i := 10) (v := ?_) rfl (by kernel_rfl) (by kernel_rfl) (by kernel_rfl) (by rfl) (HK.out _ (bmore U0.out (bd w3))) ?_ ?_
        rotate_left
        · ((intro W hW; obtain ⟨k0, k1, k2, k3⟩ := hW; go_simp) <;> with_reducible rfl)
        simp only [Act.put, List.setIfInBounds_toArray, List.set_cons_zero, List.set_cons_succ]
        refine lex_take (i := 11) (v := ?_) rfl (by kernel_rfl) (by kernel_rfl) (by kernel_rfl) (by rfl) (HK.out _ (bmore U0.out (bd w3))) ?_ ?_
        rotate_left
        · ((intro W hW; obtain ⟨k0, k1, k2, k3⟩ := hW; go_simp) <;> with_reducible rfl)
        simp only [Act.put, List.setIfInBounds_toArray, List.set_cons_zero, List.set_cons_succ]
        refine lex_take (i := 12) (v := ?_) rfl (by kernel_rfl) (by kernel_rfl) (by kernel_rfl) (by rfl) (HK.out _ (bmore U0.out (bd w3))) ?_ ?_
        rotate_left
        · ((intro W hW; obtain ⟨k0, k1, k2, k3⟩ := hW; go_simp) <;> with_reducible rfl)
        simp only [Act.put, List.setIfInBounds_toArray, List.set_cons_zero, List.set_cons_succ]
        refine lex_take (i := 13) (v := ?_) rfl (by kernel_rfl) (by kernel_rfl) (by kernel_rfl) (by rfl) (HK.out _ (bmore U0.out (bd w3))) ?_ ?_
        rotate_left
        · ((intro W hW; obtain ⟨k0, k1, k2, k3⟩ := hW; go_simp) <;> with_reducible rfl)
        simp only [Act.put, List.setIfInBounds_toArray, List.set_cons_zero, List.set_cons_succ]
        refine lex_take (i := 14) (v := ?_) rfl (by kernel_rfl) (by kernel_rfl) (by kernel_rfl) (by rfl) (HK.out _ (bmore U0.out (bd w3))) ?_ ?_
        rotate_left
        · ((intro W hW; obtain ⟨k0, k1, k2, k3⟩ := hW; go_simp) <;> with_reducible rfl)
        simp only [Act.put, List.setIfInBounds_toArray, List.set_cons_zero, List.set_cons_succ]
        refine lex_call (i := 7) rfl (by kernel_rfl) (by rfl) ?_ _ AL1.out ?_
        · go_simp
        rintro e W1 ⟨lm, rfl, hlm, v⟩
        have U1 := Lib.hid (bmore (bmore U0.out (bd w3)) v)
        have Hlm := Lib.hid hlm
        clear v AL1 hlm
        have AL2 := Lib.hid (Alike_any (HP.out.below U1.out) who (Q2.out.below U1.out) (Q1.out.below U1.out) (by have := HLL.out; omega) (by have := HLL.out; omega))
        refine ⟨_, rfl, (fun V : World => V.cell? ⟨w.heap.size, 1, none⟩ = some (.slice a1 l.length k1) ∧ V.cell? ⟨w.heap.size, 2, none⟩ = some (.slice a2 m.length k2) ∧ V.cell? ⟨w.heap.size, 3, none⟩ = some (.slice a3 n.length k3) ∧ V.cell? ⟨w.heap.size, 4, none⟩ = some (.int .i64 who)), fun W h => h, (HK.out _ U1.out), ?_⟩
        simp only [Act.put, List.setIfInBounds_toArray, List.set_cons_zero, List.set_cons_succ]
        refine lex_call (i := 15) rfl (by kernel_rfl) (by rfl) ?_ _ AL2.out ?_
        · go_simp
        rintro e W2 ⟨ml, rfl, hml, v⟩
        have U2 := Lib.hid (bmore U1.out v)
        have Hml := Lib.hid hml
        clear v AL2 hml U1
        refine ⟨_, rfl, (fun V : World => V.cell? ⟨w.heap.size, 1, none⟩ = some (.slice a1 l.length k1) ∧ V.cell? ⟨w.heap.size, 2, none⟩ = some (.slice a2 m.length k2) ∧ V.cell? ⟨w.heap.size, 3, none⟩ = some (.slice a3 n.length k3) ∧ V.cell? ⟨w.heap.size, 4, none⟩ = some (.int .i64 who)), fun W h => h, (HK.out _ U2.out), ?_⟩
        simp only [Act.put, List.setIfInBounds_toArray, List.set_cons_zero, List.set_cons_succ]
        refine lex_take (i := 16) (v := ?_) rfl (by kernel_rfl) (by kernel_rfl) (by kernel_rfl) (by rfl) (HK.out _ U2.out) ?_ ?_
        rotate_left
        · ((intro W hW; obtain ⟨k0, k1, k2, k3⟩ := hW; go_simp) <;> with_reducible rfl)
        simp only [Act.put, List.setIfInBounds_toArray, List.set_cons_zero, List.set_cons_succ]
        refine lex_take (i := 17) (v := ?_) rfl (by kernel_rfl) (by kernel_rfl) (by kernel_rfl) (by rfl) (HK.out _ U2.out) ?_ ?_
        rotate_left
        · ((intro W hW; obtain ⟨k0, k1, k2, k3⟩ := hW; go_simp) <;> with_reducible rfl)
        simp only [Act.put, List.setIfInBounds_toArray, List.set_cons_zero, List.set_cons_succ]
        refine lex_done (by kernel_rfl) ?_
        clear U0
        go_upto_region 12 with fail
        have AL1 := Lib.hid (Alike_any (HP.out.below (bmore U2.out (bd W2))) who (Q2.out.below (bmore U2.out (bd W2))) (Q3.out.below (bmore U2.out (bd W2))) (by have := HLL.out; omega) (by have := HLL.out; omega))
        refine lex_start [0, 1, 2, 3, 4, 5, 6, 8, 9, 10, 11, 12, 13, 14, 7, 15, 16, 17] (S := (fun V : World => V.cell? ⟨w.heap.size, 1, none⟩ = some (.slice a1 l.length k1) ∧ V.cell? ⟨w.heap.size, 2, none⟩ = some (.slice a2 m.length k2) ∧ V.cell? ⟨w.heap.size, 3, none⟩ = some (.slice a3 n.length k3) ∧ V.cell? ⟨w.heap.size, 4, none⟩ = some (.int .i64 who))) (by kernel_rfl) (HK.out _ (bmore U2.out (bd W2))) (fun hS => ?_)
        clear hS
        simp only [inOrder, List.filterMap, List.getElem?_cons_succ, List.getElem?_cons_zero]
        refine lex_take (i := 0) (v := ?_) rfl (by kernel_rfl) (by kernel_rfl) (by kernel_rfl) (by rfl) (HK.out _ (bmore U2.out (bd W2))) ?_ ?_
        rotate_left
        · ((intro W hW; obtain ⟨k0, k1, k2, k3⟩ := hW; go_simp) <;> with_reducible rfl)
        simp only [Act.put, List.setIfInBounds_toArray, List.set_cons_zero, List.set_cons_succ]
        refine lex_take (i := 1) (v := ?_) rfl (by kernel_rfl) (by kernel_rfl) (by kernel_rfl) (by rfl) (HK.out _ (bmore U2.out (bd W2))) ?_ ?_
        rotate_left
        · ((intro W hW; obtain ⟨k0, k1, k2, k3⟩ := hW; go_simp) <;> with_reducible rfl)
        simp only [Act.put, List.setIfInBounds_toArray, List.set_cons_zero, List.set_cons_succ]
        refine lex_take (i := 2) (v := ?_) rfl (by kernel_rfl) (by kernel_rfl) (by kernel_rfl) (by rfl) (HK.out _ (bmore U2.out (bd W2))) ?_ ?_
        rotate_left
        · ((intro W hW; obtain ⟨k0, k1, k2, k3⟩ := hW; go_simp) <;> with_reducible rfl)
        simp only [Act.put, List.setIfInBounds_toArray, List.set_cons_zero, List.set_cons_succ]
        refine lex_take (i := 3) (v := ?_) rfl (by kernel_rfl) (by kernel_rfl) (by kernel_rfl) (by rfl) (HK.out _ (bmore U2.out (bd W2))) ?_ ?_
        rotate_left
        · ((intro W hW; obtain ⟨k0, k1, k2, k3⟩ := hW; go_simp) <;> with_reducible rfl)
        simp only [Act.put, List.setIfInBounds_toArray, List.set_cons_zero, List.set_cons_succ]
        refine lex_take (i := 4) (v := ?_) rfl (by kernel_rfl) (by kernel_rfl) (by kernel_rfl) (by rfl) (HK.out _ (bmore U2.out (bd W2))) ?_ ?_
        rotate_left
        · ((intro W hW; obtain ⟨k0, k1, k2, k3⟩ := hW; go_simp) <;> with_reducible rfl)
        simp only [Act.put, List.setIfInBounds_toArray, List.set_cons_zero, List.set_cons_succ]
        refine lex_take (i := 5) (v := ?_) rfl (by kernel_rfl) (by kernel_rfl) (by kernel_rfl) (by rfl) (HK.out _ (bmore U2.out (bd W2))) ?_ ?_
        rotate_left
        · ((intro W hW; obtain ⟨k0, k1, k2, k3⟩ := hW; go_simp) <;> with_reducible rfl)
        simp only [Act.put, List.setIfInBounds_toArray, List.set_cons_zero, List.set_cons_succ]
        refine lex_take (i := 6) (v := ?_) rfl (by kernel_rfl) (by kernel_rfl) (by kernel_rfl) (by rfl) (HK.out _ (bmore U2.out (bd W2))) ?_ ?_
        rotate_left
        · ((intro W hW; obtain ⟨k0, k1, k2, k3⟩ := hW; go_simp) <;> with_reducible rfl)
        simp only [Act.put, List.setIfInBounds_toArray, List.set_cons_zero, List.set_cons_succ]
        refine lex_take (i := 8) (v := ?_) rfl (by kernel_rfl) (by kernel_rfl) (by kernel_rfl) (by rfl) (HK.out _ (bmore U2.out (bd W2))) ?_ ?_
        rotate_left
        · ((intro W hW; obtain ⟨k0, k1, k2, k3⟩ := hW; go_simp) <;> with_reducible rfl)
        simp only [Act.put, List.setIfInBounds_toArray, List.set_cons_zero, List.set_cons_succ]
        refine lex_take (i := 9) (v := ?_) rfl (by kernel_rfl) (by kernel_rfl) (by kernel_rfl) (by rfl) (HK.out _ (bmore U2.out (bd W2))) ?_ ?_
        rotate_left
        · ((intro W hW; obtain ⟨k0, k1, k2, k3⟩ := hW; go_simp) <;> with_reducible rfl)
        simp only [Act.put, List.setIfInBounds_toArray, List.set_cons_zero, List.set_cons_succ]
        refine lex_take (i := 10) (v := ?_) rfl (by kernel_rfl) (by kernel_rfl) (by kernel_rfl) (by rfl) (HK.out _ (bmore U2.out (bd W2))) ?_ ?_
        rotate_left
        · ((intro W hW; obtain ⟨k0, k1, k2, k3⟩ := hW; go_simp) <;> with_reducible rfl)
        simp only [Act.put, List.setIfInBounds_toArray, List.set_cons_zero, List.set_cons_succ]
        refine lex_take (i := 11) (v := ?_) rfl (by kernel_rfl) (by kernel_rfl) (by kernel_rfl) (by rfl) (HK.out _ (bmore U2.out (bd W2))) ?_ ?_
        rotate_left
        · ((intro W hW; obtain ⟨k0, k1, k2, k3⟩ := hW; go_simp) <;> with_reducible rfl)
        simp only [Act.put, List.setIfInBounds_toArray, List.set_cons_zero, List.set_cons_succ]
        refine lex_take (i := 12) (v := ?_) rfl (by kernel_rfl) (by kernel_rfl) (by kernel_rfl) (by rfl) (HK.out _ (bmore U2.out (bd W2))) ?_ ?_
        rotate_left
        · ((intro W hW; obtain ⟨k0, k1, k2, k3⟩ := hW; go_simp) <;> with_reducible rfl)
        simp only [Act.put, List.setIfInBounds_toArray, List.set_cons_zero, List.set_cons_succ]
        refine lex_take (i := 13) (v := ?_) rfl (by kernel_rfl) (by kernel_rfl) (by kernel_rfl) (by rfl) (HK.out _ (bmore U2.out (bd W2))) ?_ ?_
        rotate_left
        · ((intro W hW; obtain ⟨k0, k1, k2, k3⟩ := hW; go_simp) <;> with_reducible rfl)
        simp only [Act.put, List.setIfInBounds_toArray, List.set_cons_zero, List.set_cons_succ]
        refine lex_take (i := 14) (v := ?_) rfl (by kernel_rfl) (by kernel_rfl) (by kernel_rfl) (by rfl) (HK.out _ (bmore U2.out (bd W2))) ?_ ?_
        rotate_left
        · ((intro W hW; obtain ⟨k0, k1, k2, k3⟩ := hW; go_simp) <;> with_reducible rfl)
        simp only [Act.put, List.setIfInBounds_toArray, List.set_cons_zero, List.set_cons_succ]
        refine lex_call (i := 7) rfl (by kernel_rfl) (by rfl) ?_ _ AL1.out ?_
        · go_simp
        rintro e W3 ⟨mn, rfl, hmn, v⟩
        have U3 := Lib.hid (bmore (bmore U2.out (bd W2)) v)
        have Hmn := Lib.hid hmn
        clear v AL1 hmn
        have AL2 := Lib.hid (Alike_any (HP.out.below U3.out) who (Q1.out.below U3.out) (Q3.out.below U3.out) (by have := HLL.out; omega) (by have := HLL.out; omega))
        refine ⟨_, rfl, (fun V : World => V.cell? ⟨w.heap.size, 1, none⟩ = some (.slice a1 l.length k1) ∧ V.cell? ⟨w.heap.size, 2, none⟩ = some (.slice a2 m.length k2) ∧ V.cell? ⟨w.heap.size, 3, none⟩ = some (.slice a3 n.length k3) ∧ V.cell? ⟨w.heap.size, 4, none⟩ = some (.int .i64 who)), fun W h => h, (HK.out _ U3.out), ?_⟩
        simp only [Act.put, List.setIfInBounds_toArray, List.set_cons_zero, List.set_cons_succ]
        refine lex_call (i := 15) rfl (by kernel_rfl) (by rfl) ?_ _ AL2.out ?_
        · go_simp
        rintro e W4 ⟨ln, rfl, hln, v⟩
        have U4 := Lib.hid (bmore U3.out v)
        have Hln := Lib.hid hln
        clear v AL2 hln U3
        refine ⟨_, rfl, (fun V : World => V.cell? ⟨w.heap.size, 1, none⟩ = some (.slice a1 l.length k1) ∧ V.cell? ⟨w.heap.size, 2, none⟩ = some (.slice a2 m.length k2) ∧ V.cell? ⟨w.heap.size, 3, none⟩ = some (.slice a3 n.length k3) ∧ V.cell? ⟨w.heap.size, 4, none⟩ = some (.int .i64 who)), fun W h => h, (HK.out _ U4.out), ?_⟩
        simp only [Act.put, List.setIfInBounds_toArray, List.set_cons_zero, List.set_cons_succ]
        refine lex_take (i := 16) (v := ?_) rfl (by kernel_rfl) (by kernel_rfl) (by kernel_rfl) (by rfl) (HK.out _ U4.out) ?_ ?_
        rotate_left
        · ((intro W hW; obtain ⟨k0, k1, k2, k3⟩ := hW; go_simp) <;> with_reducible rfl)
        simp only [Act.put, List.setIfInBounds_toArray, List.set_cons_zero, List.set_cons_succ]
        refine lex_take (i := 17) (v := ?_) rfl (by kernel_rfl) (by kernel_rfl) (by kernel_rfl) (by rfl) (HK.out _ U4.out) ?_ ?_
        rotate_left
        · ((intro W hW; obtain ⟨k0, k1, k2, k3⟩ := hW; go_simp) <;> with_reducible rfl)
        simp only [Act.put, List.setIfInBounds_toArray, List.set_cons_zero, List.set_cons_succ]
        refine lex_done (by kernel_rfl) ?_
        clear U2
        obtain rfl : ml = lm := by
          cases ml <;> cases lm <;> first | rfl | exact absurd (Hlm.out.2 (Hml.out.1 rfl).symm) (by decide) | exact absurd (Hml.out.2 (Hlm.out.1 rfl).symm) (by decide)
        have HLN : Hid (ml = true → mn = true → ln = true) := Lib.hid fun h1 h2 => Hln.out.2 ((Hlm.out.1 h1).trans (Hmn.out.1 h2))
        have AL := Lib.hid (Alike_any (HP.out.below U4.out) who (Q1.out.below U4.out) (Q1.out.below U4.out) (by have := HLL.out; omega) (by have := HLL.out; omega))
        have HBI : Hid (∀ r : Bool, (r = true ↔ AlikeP p who l l) → r = bi) := Lib.hid fun r hr => by
          have h1 := hr.trans (AlikeP.refl_iff HP.out.ok)
          have h2 := HIA.out
          rw [show nameK who = nameB who from rfl] at h2
          cases r <;> cases bi <;> first | rfl | exact absurd (h1.2 (h2.1 rfl)) (by decide) | exact absurd (h2.2 (h1.1 rfl)) (by decide)
        clear Hml Hmn Hln HIA
        obtain ⟨z1, _, _, z4⟩ := HK.out _ U4.out
        have hbb : (bi != bi) = false := by simp
        have hmm : (ml != ml) = false := by simp
        go_upto_region 13 with fail
        go_cut [107] (fun s wx => s = .bool false ∧ Below w3.heap.size w3 wx)
        case first =>
          go_wp2_with fail
          refine AL.out.mono ?_
          rintro e wa ⟨r, rfl, hr, va⟩
          obtain rfl := HBI.out r hr
          have UA := Lib.hid (bmore U4.out va)
          clear hr va AL z1 z4 U4
          cases ml with
          | false =>
            go_wp2_with fail
            go_meet
            exact ⟨rfl, UA.out⟩
          | true =>
            cases mn with
            | false =>
              go_wp2_with fail
              go_meet
              exact ⟨rfl, UA.out⟩
            | true =>
              obtain rfl := HLN.out rfl rfl
              go_wp2_with fail
              go_meet
              exact ⟨rfl, UA.out⟩
        case rest =>
          obtain ⟨rfl, u5⟩ := hcut
          have HU5 := Lib.hid (bmore HU3.out u5)
          have HP5 := Lib.hid (HP.out.below u5)
          have HH5 : Hid (∀ T, T ≠ PoolT → T ≠ MadeT → Hold T w3 wc) := Lib.hid fun T _ _ => Hold.below u5
          clear u5 z1 z4 U4 AL HBI HLN hbb hmm
          have HAM : Hid (ml = true → AlikeP p who l m) := Lib.hid Hlm.out.1
          clear Hlm
          obtain ⟨wo5, hwo5⟩ : ∃ wo5, wo5 = wc := ⟨_, rfl⟩
          go_wp2_with fail
          go_loopw [12] (fun v12 wr => ∃ (i : Nat) (v' : Value) (ex : Pl), v12 = .int .i64 (i : Int) ∧ i ≤ l.length ∧ IsPool wr B2 pa b v' (p ++ ex) ∧ ex.length ≤ i * 800 ∧ (ml = true ∨ ex = []) ∧ Below w.heap.size w wr ∧ (∀ T, T ≠ PoolT → T ≠ MadeT → Hold T w3 wr)) (fun v _ => l.length - (intOf v).toNat)
          case atStart => exact ⟨0, vv, [], rfl, Nat.zero_le _, by rw [List.append_nil]; exact HP5.out, Nat.zero_le _, .inr rfl, HU5.out, HH5.out⟩
          case round =>
            clear HP5 HU5 HH5
            obtain ⟨i, v', ex, rfl, hi, hpw, hex, hal, huw, hhw⟩ := hrel
            have HPW := Lib.hid hpw
            have HEX := Lib.hid hex
            have HUW := Lib.hid huw
            have HHW := Lib.hid hhw
            have HEN := Lib.hid hal
            clear hpw hex hal huw hhw
            have z1 : wr.cell? ⟨w.heap.size, 1, none⟩ = some (.slice a1 l.length k1) := cellB (j := 1) (HHW.out _ (by decide) (by decide) _ _ HX.out) rfl
            cases ml with
            | false =>
              have HAL : Hid ((∀ x ∈ l, inP p x = true) ∨ ex = []) := Lib.hid (.inr (HEN.out.resolve_left (by decide)))
              clear HAM HEN hi
              go_wp2_with fail
              clear z1
              obtain ⟨wn, rfl⟩ : ∃ wn, wn = wr := ⟨_, rfl⟩
              have z1 : wn.cell? ⟨w.heap.size, 1, none⟩ = some (.slice a1 l.length k1) := cellB (j := 1) (HHW.out _ (by decide) (by decide) _ _ HX.out) rfl
              have z2 : wn.cell? ⟨w.heap.size, 2, none⟩ = some (.slice a2 m.length k2) := cellB (j := 2) (HHW.out _ (by decide) (by decide) _ _ HX.out) rfl
              have HRW : Hid (IsRef wn B2 ra rl rs rd p) := Lib.hid ⟨HHW.out _ (by decide) (by decide) _ _ HR.out.lay, HR.out.ga, own_hold HR.out.rl (HHW.out _ (by decide) (by decide)), own_hold HR.out.rs (HHW.out _ (by decide) (by decide)), own_hold HR.out.rd (HHW.out _ (by decide) (by decide)), HR.out.ap, HR.out.ok, HR.out.nok⟩
              go_wp2_with fail
              go_loopw [17, 18] (fun v17 v18 wr => ∃ i : Nat, v18 = .int .i64 (i : Int) ∧ v17 = .bool (inUp p true l i) ∧ i ≤ l.length ∧ wn = wr) (fun _ v _ => l.length - (intOf v).toNat)
              case atStart => exact ⟨0, rfl, by rw [inUp_zero], Nat.zero_le _, rfl⟩
              case round =>
                obtain ⟨i, rfl, rfl, hi, rfl⟩ := hrel
                by_cases hlt : i < l.length
                · obtain ⟨lb, lo, rfl, ql⟩ := HLX.out (by omega)
                  have cl := bcellAt HUW.out (ql i _ (ints_at l i hlt))
                  have hl12 : l.length ≤ 12 := HLL.out.1
                  have hi0 : (0 : Int) ≤ (i : Int) := by omega
                  have hi1 : (i : Int) < (l.length : Int) := by omega
                  have HSU := Lib.hid (inUp_succ p true l hlt)
                  have HRN := rin HRW.out l[i]
                  generalize l[i] = x at *
                  generalize inUp p true l i = bu at *
                  clear ql
                  cases bu with
                  | true =>
                    go_wp2_with fail
                    refine HRN.mono ?_
                    rintro e V ⟨rfl, rfl⟩
                    clear cl
                    go_wp2_with fail
                    go_roundw
                    case rel => exact ⟨i + 1, by go_num, by rw [HSU.out]; rfl, by omega, by trivial⟩
                    case measure => simp [intOf] <;> omega
                  | false =>
                    clear HRN cl
                    go_wp2_with fail
                    go_roundw
                    case rel => exact ⟨i + 1, by go_num, by rw [HSU.out]; rfl, by omega, by trivial⟩
                    case measure => simp [intOf] <;> omega
                · obtain rfl : i = l.length := by omega
                  clear hlt
                  have HIA := Lib.hid (inUp_all (p := p) (k := true) (l := l))
                  have HNM := Lib.hid (notary_more (p := p) (e := ex) HPW.out.ok (l := l) (m := m) HAL.out)
                  have AL := Lib.hid (Alike_any HPW.out 2 (R1.out.below HUW.out) (R2.out.below HUW.out) (by have := HLL.out; omega) (by have := HLL.out; omega))
                  generalize inUp p true l l.length = ba at *
                  go_wp2_with fail
                  refine AL.out.mono ?_
                  rintro e wa ⟨rA, rfl, hrA, va⟩
                  have HRA := Lib.hid (hrA.trans HNM.out)
                  have HUA := Lib.hid (bmore HUW.out va)
                  have HVA := Lib.hid va
                  have z1W := Lib.hid z1
                  have z2W := Lib.hid z2
                  clear hrA va AL HNM z1 z2
                  have z1 : wa.cell? ⟨w.heap.size, 1, none⟩ = some (.slice a1 l.length k1) := bcellAt HVA.out z1W.out
                  have z2 : wa.cell? ⟨w.heap.size, 2, none⟩ = some (.slice a2 m.length k2) := bcellAt HVA.out z2W.out
                  cases ba with
                  | true =>
                    have TG := Lib.hid (termsG_any (R1.out.below HUA.out) (R2.out.below HUA.out) (by have := HLL.out; omega) (by have := HLL.out; omega))
                    go_wp2_with fail
                    refine TG.out.mono ?_
                    rintro e wb ⟨⟨rT, rfl, hrT⟩, vb⟩
                    obtain rfl : rA = rT := by
                      have h1 := (HIA.out.1 (by trivial)).2
                      have h2 := HRA.out
                      cases rA <;> cases rT <;> first | rfl | exact absurd (h2.2 ⟨h1, hrT.1 rfl⟩) (by decide) | exact absurd (hrT.2 (h2.1 rfl).2) (by decide)
                    have hrr : (rA == rA) = true := by simp
                    have HUB := Lib.hid (bmore HUA.out vb)
                    have LV := Lib.hid (live_any (HLD.out.below HUB.out))
                    clear hrT vb TG z1 z2 HRA
                    go_wp2_with fail
                    refine LV.out.mono ?_
                    rintro e wl ⟨rfl, vl'⟩
                    have HUL := Lib.hid (bmore HUB.out vl')
                    clear vl' LV
                    go_wp2_with fail
                    go_returns
                    exact ⟨rfl, HUL.out⟩
                  | false =>
                    obtain rfl : rA = false := by
                      cases rA with
                      | false => rfl
                      | true => exact absurd (HIA.out.2 ⟨by trivial, (HRA.out.1 rfl).1⟩) (by decide)
                    have LV := Lib.hid (live_any (HLD.out.below HUA.out))
                    clear z1 z2 HRA
                    go_wp2_with fail
                    refine LV.out.mono ?_
                    rintro e wl ⟨rfl, vl'⟩
                    have HUL := Lib.hid (bmore HUA.out vl')
                    clear vl' LV
                    go_wp2_with fail
                    go_returns
                    exact ⟨rfl, HUL.out⟩
            | true =>
              have HAK := Lib.hid (HAM.out rfl)
              clear HAM HEN
              by_cases hlt : i < l.length
              · have hlt2 : i < m.length := by have := HAK.out.2.2.2.1; omega
                obtain ⟨lb, lo, rfl, ql⟩ := HLX.out (by omega)
                obtain ⟨mb, mo, rfl, qm⟩ := HMX.out (by omega)
                have QL := Lib.hid (ql i _ (ints_at l i hlt))
                have QM := Lib.hid (qm i _ (ints_at m i hlt2))
                clear ql qm
                have hd : decide ((i : Int) < (l.length : Int)) = true := decide_eq_true (by omega)
                have hl12 : l.length ≤ 12 := HLL.out.1
                have hi0 : (0 : Int) ≤ (i : Int) := by omega
                have hi1 : (i : Int) < (l.length : Int) := by omega
                have hi2 : (i : Int) < (m.length : Int) := by omega
                obtain ⟨RT1, hs1⟩ := row_takeT (R1.out.below HUW.out) (Nat.le_of_lt hlt)
                obtain ⟨RT2, hs2⟩ := row_takeT (R2.out.below HUW.out) (Nat.le_of_lt hlt2)
                have HT1 := Lib.hid RT1
                have HT2 := Lib.hid RT2
                have HS1 := Lib.hid hs1
                have HS2 := Lib.hid hs2
                clear RT1 RT2 hs1 hs2
                have HAT := Lib.hid ((HAK.out.take i).more ex)
                have HXW := Lib.hid (HHW.out LisT (by decide) (by decide) _ _ HX.out)
                have HKW : Hid (∀ V : World, Below w.heap.size w V → Hold LisT wr V → V.cell? ⟨w.heap.size, 1, none⟩ = some (.slice (some ⟨lb, lo, none⟩) l.length k1) ∧ V.cell? ⟨w.heap.size, 2, none⟩ = some (.slice (some ⟨mb, mo, none⟩) m.length k2) ∧ V.cell? ⟨w.heap.size, 4, none⟩ = some (.int .i64 who) ∧ V.cell? ⟨lb, lo + i, none⟩ = some (.int .i64 l[i]) ∧ V.cell? ⟨mb, mo + i, none⟩ = some (.int .i64 m[i])) := Lib.hid fun V h1 h2 => ⟨cellB (j := 1) (h2 _ _ HXW.out) rfl, cellB (j := 2) (h2 _ _ HXW.out) rfl, cellB (j := 4) (h2 _ _ HXW.out) rfl, bcellAt h1 QL.out, bcellAt h1 QM.out⟩
                have AL := Lib.hid (Alike_any (HPW.out.below (bd wr)) who (HT1.out.below (bd wr)) (HT2.out.below (bd wr)) (by have := HLL.out; simp; omega) (by have := HLL.out; simp; omega))
                go_upto_region 18 with fail
                clear z1 hd
                refine lex_start [0, 1, 2, 3, 4, 5, 6, 7, 8, 9, 10, 11, 12] (S := (fun V : World => V.cell? ⟨w.heap.size, 1, none⟩ = some (.slice (some ⟨lb, lo, none⟩) l.length k1) ∧ V.cell? ⟨w.heap.size, 2, none⟩ = some (.slice (some ⟨mb, mo, none⟩) m.length k2) ∧ V.cell? ⟨w.heap.size, 4, none⟩ = some (.int .i64 who) ∧ V.cell? ⟨lb, lo + i, none⟩ = some (.int .i64 l[i]) ∧ V.cell? ⟨mb, mo + i, none⟩ = some (.int .i64 m[i]))) (by kernel_rfl) (HKW.out _ (HUW.out.trans ((bd wr).mono HUW.out.size)) (Hold.below (bd wr))) (fun hS => ?_)
                clear hS
                simp only [inOrder, List.filterMap, List.getElem?_cons_succ, List.getElem?_cons_zero]
                refine lex_take (i := 0) (v := ?_) rfl (by kernel_rfl) (by kernel_rfl) (by kernel_rfl) (by rfl) (HKW.out _ (HUW.out.trans ((bd wr).mono HUW.out.size)) (Hold.below (bd wr))) ?_ ?_
                rotate_left
                · ((intro W hW; obtain ⟨k0, k1, k2, k3, k4⟩ := hW; go_simp) <;> with_reducible rfl)
                simp only [Act.put, List.setIfInBounds_toArray, List.set_cons_zero, List.set_cons_succ]
                refine lex_take (i := 1) (v := ?_) rfl (by kernel_rfl) (by kernel_rfl) (by kernel_rfl) (by rfl) (HKW.out _ (HUW.out.trans ((bd wr).mono HUW.out.size)) (Hold.below (bd wr))) ?_ ?_
                rotate_left
                · ((intro W hW; obtain ⟨k0, k1, k2, k3, k4⟩ := hW; go_simp) <;> with_reducible rfl)
                simp only [Act.put, List.setIfInBounds_toArray, List.set_cons_zero, List.set_cons_succ]
                refine lex_take (i := 2) (v := ?_) rfl (by kernel_rfl) (by kernel_rfl) (by kernel_rfl) (by rfl) (HKW.out _ (HUW.out.trans ((bd wr).mono HUW.out.size)) (Hold.below (bd wr))) ?_ ?_
                rotate_left
                · ((intro W hW; obtain ⟨k0, k1, k2, k3, k4⟩ := hW; go_simp) <;> with_reducible rfl)
                simp only [Act.put, List.setIfInBounds_toArray, List.set_cons_zero, List.set_cons_succ]
                refine lex_take (i := 3) (v := ?_) rfl (by kernel_rfl) (by kernel_rfl) (by kernel_rfl) (by rfl) (HKW.out _ (HUW.out.trans ((bd wr).mono HUW.out.size)) (Hold.below (bd wr))) ?_ ?_
                rotate_left
                · ((intro W hW; obtain ⟨k0, k1, k2, k3, k4⟩ := hW; go_simp) <;> with_reducible rfl)
                simp only [Act.put, List.setIfInBounds_toArray, List.set_cons_zero, List.set_cons_succ]
                refine lex_take (i := 4) (v := ?_) rfl (by kernel_rfl) (by kernel_rfl) (by kernel_rfl) (by rfl) (HKW.out _ (HUW.out.trans ((bd wr).mono HUW.out.size)) (Hold.below (bd wr))) ?_ ?_
                rotate_left
                · ((intro W hW; obtain ⟨k0, k1, k2, k3, k4⟩ := hW; go_simp) <;> with_reducible rfl)
                simp only [Act.put, List.setIfInBounds_toArray, List.set_cons_zero, List.set_cons_succ]
                refine lex_take (i := 5) (v := ?_) rfl (by kernel_rfl) (by kernel_rfl) (by kernel_rfl) (by rfl) (HKW.out _ (HUW.out.trans ((bd wr).mono HUW.out.size)) (Hold.below (bd wr))) ?_ ?_
                rotate_left
                · ((intro W hW; obtain ⟨k0, k1, k2, k3, k4⟩ := hW; go_simp) <;> with_reducible rfl)
                simp only [Act.put, List.setIfInBounds_toArray, List.set_cons_zero, List.set_cons_succ]
                refine lex_take (i := 6) (v := ?_) rfl (by kernel_rfl) (by kernel_rfl) (by kernel_rfl) (by rfl) (HKW.out _ (HUW.out.trans ((bd wr).mono HUW.out.size)) (Hold.below (bd wr))) ?_ ?_
                rotate_left
                · ((intro W hW; obtain ⟨k0, k1, k2, k3, k4⟩ := hW; have hs1 := HS1.out; go_simp) <;> with_reducible rfl)
                simp only [Act.put, List.setIfInBounds_toArray, List.set_cons_zero, List.set_cons_succ]
                refine lex_take (i := 7) (v := ?_) rfl (by kernel_rfl) (by kernel_rfl) (by kernel_rfl) (by rfl) (HKW.out _ (HUW.out.trans ((bd wr).mono HUW.out.size)) (Hold.below (bd wr))) ?_ ?_
                rotate_left
                · ((intro W hW; obtain ⟨k0, k1, k2, k3, k4⟩ := hW; go_simp) <;> with_reducible rfl)
                simp only [Act.put, List.setIfInBounds_toArray, List.set_cons_zero, List.set_cons_succ]
                refine lex_take (i := 8) (v := ?_) rfl (by kernel_rfl) (by kernel_rfl) (by kernel_rfl) (by rfl) (HKW.out _ (HUW.out.trans ((bd wr).mono HUW.out.size)) (Hold.below (bd wr))) ?_ ?_
                rotate_left
                · ((intro W hW; obtain ⟨k0, k1, k2, k3, k4⟩ := hW; go_simp) <;> with_reducible rfl)
                simp only [Act.put, List.setIfInBounds_toArray, List.set_cons_zero, List.set_cons_succ]
                refine lex_take (i := 9) (v := ?_) rfl (by kernel_rfl) (by kernel_rfl) (by kernel_rfl) (by rfl) (HKW.out _ (HUW.out.trans ((bd wr).mono HUW.out.size)) (Hold.below (bd wr))) ?_ ?_
                rotate_left
                · ((intro W hW; obtain ⟨k0, k1, k2, k3, k4⟩ := hW; go_simp) <;> with_reducible rfl)
                simp only [Act.put, List.setIfInBounds_toArray, List.set_cons_zero, List.set_cons_succ]
                refine lex_take (i := 10) (v := ?_) rfl (by kernel_rfl) (by kernel_rfl) (by kernel_rfl) (by rfl) (HKW.out _ (HUW.out.trans ((bd wr).mono HUW.out.size)) (Hold.below (bd wr))) ?_ ?_
                rotate_left
                · ((intro W hW; obtain ⟨k0, k1, k2, k3, k4⟩ := hW; have hs2 := HS2.out; go_simp) <;> with_reducible rfl)
                simp only [Act.put, List.setIfInBounds_toArray, List.set_cons_zero, List.set_cons_succ]
                refine lex_call (i := 11) rfl (by kernel_rfl) (by rfl) ?_ _ AL.out ?_
                · go_simp
                rintro e wa ⟨r, rfl, hr, va⟩
                obtain rfl : r = true := hr.2 HAT.out
                have UA := Lib.hid (bmore HUW.out (bmore (bd wr) va))
                have GA : Hid (Hold LisT wr wa) := Lib.hid (Hold.below (bmore (bd wr) va))
                have HPA := Lib.hid (HPW.out.below (bmore (bd wr) va))
                have HHA : Hid (∀ T, T ≠ PoolT → T ≠ MadeT → Hold T w3 wa) := Lib.hid fun T h1 h2 => (HHW.out T h1 h2).trans (Hold.below (bmore (bd wr) va))
                clear hr va AL
                refine ⟨_, rfl, (fun V : World => V.cell? ⟨w.heap.size, 1, none⟩ = some (.slice (some ⟨lb, lo, none⟩) l.length k1) ∧ V.cell? ⟨w.heap.size, 2, none⟩ = some (.slice (some ⟨mb, mo, none⟩) m.length k2) ∧ V.cell? ⟨w.heap.size, 4, none⟩ = some (.int .i64 who) ∧ V.cell? ⟨lb, lo + i, none⟩ = some (.int .i64 l[i]) ∧ V.cell? ⟨mb, mo + i, none⟩ = some (.int .i64 m[i])), fun W h => h, (HKW.out _ UA.out GA.out), ?_⟩
                simp only [Act.put, List.setIfInBounds_toArray, List.set_cons_zero, List.set_cons_succ]
                refine lex_take (i := 12) (v := ?_) rfl (by kernel_rfl) (by kernel_rfl) (by kernel_rfl) (by rfl) (HKW.out _ UA.out GA.out) ?_ ?_
                rotate_left
                · ((intro W hW; obtain ⟨k0, k1, k2, k3, k4⟩ := hW; go_simp) <;> with_reducible rfl)
                simp only [Act.put, List.setIfInBounds_toArray, List.set_cons_zero, List.set_cons_succ]
                refine lex_done (by kernel_rfl) ?_
                clear HPW HT1 HT2 HS1 HS2 HAT HHW
                have HXI : Hid (inP p l[i] = true) := Lib.hid (HAK.out.2.1 _ (List.getElem_mem hlt))
                have HYI : Hid (inP p m[i] = true) := Lib.hid (HAK.out.2.2.1 _ (List.getElem_mem hlt2))
                have HVW : Hid (∀ (p1 p2 : Pl) (T1 T2 : Int) (m1 m2 : Int → Option Int) (u v : Int), Anew (seeK who) (p ++ ex) T1 p1 m1 → Anew (seeK who) p1 T2 p2 m2 → m1 l[i] = some u → m2 m[i] = some v → u = v) := Lib.hid fun p1 p2 T1 T2 m1 m2 u v g1 g2 g3 g4 => by
                  obtain ⟨_, _, _, _, R, h5, h6⟩ := HAK.out.more ex
                  exact h5.view HPA.out.ok g1 g2 _ _ _ _ _ (Nat.lt_succ_self _) (h6 i hlt hlt2) g3 g4
                have HNB : Hid (nameB who = true) := Lib.hid HAK.out.1
                generalize l[i] = x at *
                generalize m[i] = y at *
                have HXL : Hid (1 ≤ x ∧ x ≤ 400) := Lib.hid (by have h := HXI.out; have := HLL.out; unfold inP at h; simp at h; omega)
                have HYL : Hid (1 ≤ y ∧ y ≤ 400) := Lib.hid (by have h := HYI.out; have := HLL.out; unfold inP at h; simp at h; omega)
                have HPL : Hid ((p ++ ex).length ≤ 10000) := Lib.hid (by have := HEX.out; have := HLL.out; rw [List.length_append]; omega)
                go_upto_region 20 with fail
                have VW := Lib.hid (view_any (w0 := w) HLD.out (Nat.le_of_lt HWB2.out) (bmore UA.out (bd wa)) (HPA.out.below (bd wa)) who (t := x) HNB.out (inP_le HXI.out (by simp)) (by have := HPL.out; have := HXL.out; omega))
                refine lex_start [0, 1, 2, 3, 4, 5, 6, 7, 8, 9, 10, 11, 12, 13] (S := (fun V : World => V.cell? ⟨w.heap.size, 1, none⟩ = some (.slice (some ⟨lb, lo, none⟩) l.length k1) ∧ V.cell? ⟨w.heap.size, 2, none⟩ = some (.slice (some ⟨mb, mo, none⟩) m.length k2) ∧ V.cell? ⟨w.heap.size, 4, none⟩ = some (.int .i64 who) ∧ V.cell? ⟨lb, lo + i, none⟩ = some (.int .i64 x) ∧ V.cell? ⟨mb, mo + i, none⟩ = some (.int .i64 y))) (by kernel_rfl) (HKW.out _ (bmore UA.out (bd wa)) (GA.out.trans (Hold.below (bd wa)))) (fun hS => ?_)
                clear hS
                simp only [inOrder, List.filterMap, List.getElem?_cons_succ, List.getElem?_cons_zero]
                refine lex_take (i := 0) (v := ?_) rfl (by kernel_rfl) (by kernel_rfl) (by kernel_rfl) (by rfl) (HKW.out _ (bmore UA.out (bd wa)) (GA.out.trans (Hold.below (bd wa)))) ?_ ?_
                rotate_left
                · ((intro W hW; obtain ⟨k0, k1, k2, k3, k4⟩ := hW; go_simp) <;> with_reducible rfl)
                simp only [Act.put, List.setIfInBounds_toArray, List.set_cons_zero, List.set_cons_succ]
                refine lex_take (i := 1) (v := ?_) rfl (by kernel_rfl) (by kernel_rfl) (by kernel_rfl) (by rfl) (HKW.out _ (bmore UA.out (bd wa)) (GA.out.trans (Hold.below (bd wa)))) ?_ ?_
                rotate_left
                · ((intro W hW; obtain ⟨k0, k1, k2, k3, k4⟩ := hW; go_simp) <;> with_reducible rfl)
                simp only [Act.put, List.setIfInBounds_toArray, List.set_cons_zero, List.set_cons_succ]
                refine lex_take (i := 2) (v := ?_) rfl (by kernel_rfl) (by kernel_rfl) (by kernel_rfl) (by rfl) (HKW.out _ (bmore UA.out (bd wa)) (GA.out.trans (Hold.below (bd wa)))) ?_ ?_
                rotate_left
                · ((intro W hW; obtain ⟨k0, k1, k2, k3, k4⟩ := hW; go_simp) <;> with_reducible rfl)
                simp only [Act.put, List.setIfInBounds_toArray, List.set_cons_zero, List.set_cons_succ]
                refine lex_take (i := 3) (v := ?_) rfl (by kernel_rfl) (by kernel_rfl) (by kernel_rfl) (by rfl) (HKW.out _ (bmore UA.out (bd wa)) (GA.out.trans (Hold.below (bd wa)))) ?_ ?_
                rotate_left
                · ((intro W hW; obtain ⟨k0, k1, k2, k3, k4⟩ := hW; go_simp) <;> with_reducible rfl)
                simp only [Act.put, List.setIfInBounds_toArray, List.set_cons_zero, List.set_cons_succ]
                refine lex_take (i := 4) (v := ?_) rfl (by kernel_rfl) (by kernel_rfl) (by kernel_rfl) (by rfl) (HKW.out _ (bmore UA.out (bd wa)) (GA.out.trans (Hold.below (bd wa)))) ?_ ?_
                rotate_left
                · ((intro W hW; obtain ⟨k0, k1, k2, k3, k4⟩ := hW; go_simp) <;> with_reducible rfl)
                simp only [Act.put, List.setIfInBounds_toArray, List.set_cons_zero, List.set_cons_succ]
                refine lex_take (i := 5) (v := ?_) rfl (by kernel_rfl) (by kernel_rfl) (by kernel_rfl) (by rfl) (HKW.out _ (bmore UA.out (bd wa)) (GA.out.trans (Hold.below (bd wa)))) ?_ ?_
                rotate_left
                · ((intro W hW; obtain ⟨k0, k1, k2, k3, k4⟩ := hW; go_simp) <;> with_reducible rfl)
                simp only [Act.put, List.setIfInBounds_toArray, List.set_cons_zero, List.set_cons_succ]
                refine lex_take (i := 6) (v := ?_) rfl (by kernel_rfl) (by kernel_rfl) (by kernel_rfl) (by rfl) (HKW.out _ (bmore UA.out (bd wa)) (GA.out.trans (Hold.below (bd wa)))) ?_ ?_
                rotate_left
                · ((intro W hW; obtain ⟨k0, k1, k2, k3, k4⟩ := hW; go_simp) <;> with_reducible rfl)
                simp only [Act.put, List.setIfInBounds_toArray, List.set_cons_zero, List.set_cons_succ]
                refine lex_take (i := 7) (v := ?_) rfl (by kernel_rfl) (by kernel_rfl) (by kernel_rfl) (by rfl) (HKW.out _ (bmore UA.out (bd wa)) (GA.out.trans (Hold.below (bd wa)))) ?_ ?_
                rotate_left
                · ((intro W hW; obtain ⟨k0, k1, k2, k3, k4⟩ := hW; go_simp) <;> with_reducible rfl)
                simp only [Act.put, List.setIfInBounds_toArray, List.set_cons_zero, List.set_cons_succ]
                refine lex_call (i := 8) rfl (by kernel_rfl) (by rfl) ?_ _ VW.out ?_
                · go_simp
                rintro e w20 ⟨u20, v20, p20, m20, rfl, hp20, ha20, hu20, hg20⟩
                have U20 := Lib.hid ((bmore UA.out (bd wa)).trans (hg20.below.mono (Nat.le_of_lt HWB2.out)))
                have G20 : Hid (Hold LisT wr w20) := Lib.hid ((GA.out.trans (Hold.below (bd wa))).trans (hg20.hold _ (by decide) (by decide)))
                have HP20 := Lib.hid hp20
                have HA20 := Lib.hid ha20
                have HV20 := Lib.hid hu20
                have HH20 : Hid (∀ T, T ≠ PoolT → T ≠ MadeT → Hold T w3 w20) := Lib.hid fun T h1 h2 => ((HHA.out T h1 h2).trans (Hold.below (bd wa))).trans (hg20.hold T h1 h2)
                clear hp20 ha20 hu20 hg20 VW
                refine ⟨_, rfl, (fun V : World => V.cell? ⟨w.heap.size, 1, none⟩ = some (.slice (some ⟨lb, lo, none⟩) l.length k1) ∧ V.cell? ⟨w.heap.size, 2, none⟩ = some (.slice (some ⟨mb, mo, none⟩) m.length k2) ∧ V.cell? ⟨w.heap.size, 4, none⟩ = some (.int .i64 who) ∧ V.cell? ⟨lb, lo + i, none⟩ = some (.int .i64 x) ∧ V.cell? ⟨mb, mo + i, none⟩ = some (.int .i64 y)), fun W h => h, (HKW.out _ U20.out G20.out), ?_⟩
                simp only [Act.put, List.setIfInBounds_toArray, List.set_cons_zero, List.set_cons_succ]
                refine lex_take (i := 9) (v := ?_) rfl (by kernel_rfl) (by kernel_rfl) (by kernel_rfl) (by rfl) (HKW.out _ U20.out G20.out) ?_ ?_
                rotate_left
                · ((intro W hW; obtain ⟨k0, k1, k2, k3, k4⟩ := hW; go_simp) <;> with_reducible rfl)
                simp only [Act.put, List.setIfInBounds_toArray, List.set_cons_zero, List.set_cons_succ]
                refine lex_take (i := 10) (v := ?_) rfl (by kernel_rfl) (by kernel_rfl) (by kernel_rfl) (by rfl) (HKW.out _ U20.out G20.out) ?_ ?_
                rotate_left
                · ((intro W hW; obtain ⟨k0, k1, k2, k3, k4⟩ := hW; go_simp) <;> with_reducible rfl)
                simp only [Act.put, List.setIfInBounds_toArray, List.set_cons_zero, List.set_cons_succ]
                refine lex_take (i := 11) (v := ?_) rfl (by kernel_rfl) (by kernel_rfl) (by kernel_rfl) (by rfl) (HKW.out _ U20.out G20.out) ?_ ?_
                rotate_left
                · ((intro W hW; obtain ⟨k0, k1, k2, k3, k4⟩ := hW; go_simp) <;> with_reducible rfl)
                simp only [Act.put, List.setIfInBounds_toArray, List.set_cons_zero, List.set_cons_succ]
                refine lex_take (i := 12) (v := ?_) rfl (by kernel_rfl) (by kernel_rfl) (by kernel_rfl) (by rfl) (HKW.out _ U20.out G20.out) ?_ ?_
                rotate_left
                · ((intro W hW; obtain ⟨k0, k1, k2, k3, k4⟩ := hW; go_simp) <;> with_reducible rfl)
                simp only [Act.put, List.setIfInBounds_toArray, List.set_cons_zero, List.set_cons_succ]
                refine lex_take (i := 13) (v := ?_) rfl (by kernel_rfl) (by kernel_rfl) (by kernel_rfl) (by rfl) (HKW.out _ U20.out G20.out) ?_ ?_
                rotate_left
                · ((intro W hW; obtain ⟨k0, k1, k2, k3, k4⟩ := hW; go_simp) <;> with_reducible rfl)
                simp only [Act.put, List.setIfInBounds_toArray, List.set_cons_zero, List.set_cons_succ]
                refine lex_done (by kernel_rfl) ?_
                have HPL2 : Hid (p20.length ≤ 10400) := Lib.hid (by have := HA20.out.len; have := HPL.out; have := HXL.out; omega)
                have HYI2 : Hid (inP p20 y = true) := Lib.hid (by obtain ⟨e1, he1⟩ := HA20.out.ext; rw [he1, List.append_assoc]; exact inP_le HYI.out (by simp))
                clear HPA UA GA HHA
                go_upto_region 21 with fail
                have VW := Lib.hid (view_any (w0 := w) HLD.out (Nat.le_of_lt HWB2.out) (bmore U20.out (bd w20)) (HP20.out.below (bd w20)) who (t := y) HNB.out HYI2.out (by have := HPL2.out; have := HYL.out; omega))
                refine lex_start [0, 1, 2, 3, 4, 5, 6, 7, 8, 9, 10, 11, 12, 13] (S := (fun V : World => V.cell? ⟨w.heap.size, 1, none⟩ = some (.slice (some ⟨lb, lo, none⟩) l.length k1) ∧ V.cell? ⟨w.heap.size, 2, none⟩ = some (.slice (some ⟨mb, mo, none⟩) m.length k2) ∧ V.cell? ⟨w.heap.size, 4, none⟩ = some (.int .i64 who) ∧ V.cell? ⟨lb, lo + i, none⟩ = some (.int .i64 x) ∧ V.cell? ⟨mb, mo + i, none⟩ = some (.int .i64 y))) (by kernel_rfl) (HKW.out _ (bmore U20.out (bd w20)) (G20.out.trans (Hold.below (bd w20)))) (fun hS => ?_)
                clear hS
                simp only [inOrder, List.filterMap, List.getElem?_cons_succ, List.getElem?_cons_zero]
                refine lex_take (i := 0) (v := ?_) rfl (by kernel_rfl) (by kernel_rfl) (by kernel_rfl) (by rfl) (HKW.out _ (bmore U20.out (bd w20)) (G20.out.trans (Hold.below (bd w20)))) ?_ ?_
                rotate_left
                · ((intro W hW; obtain ⟨k0, k1, k2, k3, k4⟩ := hW; go_simp) <;> with_reducible rfl)
                simp only [Act.put, List.setIfInBounds_toArray, List.set_cons_zero, List.set_cons_succ]
                refine lex_take (i := 1) (v := ?_) rfl (by kernel_rfl) (by kernel_rfl) (by kernel_rfl) (by rfl) (HKW.out _ (bmore U20.out (bd w20)) (G20.out.trans (Hold.below (bd w20)))) ?_ ?_
                rotate_left
                · ((intro W hW; obtain ⟨k0, k1, k2, k3, k4⟩ := hW; go_simp) <;> with_reducible rfl)
                simp only [Act.put, List.setIfInBounds_toArray, List.set_cons_zero, List.set_cons_succ]
                refine lex_take (i := 2) (v := ?_) rfl (by kernel_rfl) (by kernel_rfl) (by kernel_rfl) (by rfl) (HKW.out _ (bmore U20.out (bd w20)) (G20.out.trans (Hold.below (bd w20)))) ?_ ?_
                rotate_left
                · ((intro W hW; obtain ⟨k0, k1, k2, k3, k4⟩ := hW; go_simp) <;> with_reducible rfl)
                simp only [Act.put, List.setIfInBounds_toArray, List.set_cons_zero, List.set_cons_succ]
                refine lex_take (i := 3) (v := ?_) rfl (by kernel_rfl) (by kernel_rfl) (by kernel_rfl) (by rfl) (HKW.out _ (bmore U20.out (bd w20)) (G20.out.trans (Hold.below (bd w20)))) ?_ ?_
                rotate_left
                · ((intro W hW; obtain ⟨k0, k1, k2, k3, k4⟩ := hW; go_simp) <;> with_reducible rfl)
                simp only [Act.put, List.setIfInBounds_toArray, List.set_cons_zero, List.set_cons_succ]
                refine lex_take (i := 4) (v := ?_) rfl (by kernel_rfl) (by kernel_rfl) (by kernel_rfl) (by rfl) (HKW.out _ (bmore U20.out (bd w20)) (G20.out.trans (Hold.below (bd w20)))) ?_ ?_
                rotate_left
                · ((intro W hW; obtain ⟨k0, k1, k2, k3, k4⟩ := hW; go_simp) <;> with_reducible rfl)
                simp only [Act.put, List.setIfInBounds_toArray, List.set_cons_zero, List.set_cons_succ]
                refine lex_take (i := 5) (v := ?_) rfl (by kernel_rfl) (by kernel_rfl) (by kernel_rfl) (by rfl) (HKW.out _ (bmore U20.out (bd w20)) (G20.out.trans (Hold.below (bd w20)))) ?_ ?_
                rotate_left
                · ((intro W hW; obtain ⟨k0, k1, k2, k3, k4⟩ := hW; go_simp) <;> with_reducible rfl)
                simp only [Act.put, List.setIfInBounds_toArray, List.set_cons_zero, List.set_cons_succ]
                refine lex_take (i := 6) (v := ?_) rfl (by kernel_rfl) (by kernel_rfl) (by kernel_rfl) (by rfl) (HKW.out _ (bmore U20.out (bd w20)) (G20.out.trans (Hold.below (bd w20)))) ?_ ?_
                rotate_left
                · ((intro W hW; obtain ⟨k0, k1, k2, k3, k4⟩ := hW; go_simp) <;> with_reducible rfl)
                simp only [Act.put, List.setIfInBounds_toArray, List.set_cons_zero, List.set_cons_succ]
                refine lex_take (i := 7) (v := ?_) rfl (by kernel_rfl) (by kernel_rfl) (by kernel_rfl) (by rfl) (HKW.out _ (bmore U20.out (bd w20)) (G20.out.trans (Hold.below (bd w20)))) ?_ ?_
                rotate_left
                · ((intro W hW; obtain ⟨k0, k1, k2, k3, k4⟩ := hW; go_simp) <;> with_reducible rfl)
                simp only [Act.put, List.setIfInBounds_toArray, List.set_cons_zero, List.set_cons_succ]
                refine lex_call (i := 8) rfl (by kernel_rfl) (by rfl) ?_ _ VW.out ?_
                · go_simp
                rintro e w21 ⟨u21, v21, p21, m21, rfl, hp21, ha21, hu21, hg21⟩
                have U21 := Lib.hid ((bmore U20.out (bd w20)).trans (hg21.below.mono (Nat.le_of_lt HWB2.out)))
                have G21 : Hid (Hold LisT wr w21) := Lib.hid ((G20.out.trans (Hold.below (bd w20))).trans (hg21.hold _ (by decide) (by decide)))
                have HP21 := Lib.hid hp21
                have HA21 := Lib.hid ha21
                have HV21 := Lib.hid hu21
                have HH21 : Hid (∀ T, T ≠ PoolT → T ≠ MadeT → Hold T w3 w21) := Lib.hid fun T h1 h2 => ((HH20.out T h1 h2).trans (Hold.below (bd w20))).trans (hg21.hold T h1 h2)
                clear hp21 ha21 hu21 hg21 VW
                refine ⟨_, rfl, (fun V : World => V.cell? ⟨w.heap.size, 1, none⟩ = some (.slice (some ⟨lb, lo, none⟩) l.length k1) ∧ V.cell? ⟨w.heap.size, 2, none⟩ = some (.slice (some ⟨mb, mo, none⟩) m.length k2) ∧ V.cell? ⟨w.heap.size, 4, none⟩ = some (.int .i64 who) ∧ V.cell? ⟨lb, lo + i, none⟩ = some (.int .i64 x) ∧ V.cell? ⟨mb, mo + i, none⟩ = some (.int .i64 y)), fun W h => h, (HKW.out _ U21.out G21.out), ?_⟩
                simp only [Act.put, List.setIfInBounds_toArray, List.set_cons_zero, List.set_cons_succ]
                refine lex_take (i := 9) (v := ?_) rfl (by kernel_rfl) (by kernel_rfl) (by kernel_rfl) (by rfl) (HKW.out _ U21.out G21.out) ?_ ?_
                rotate_left
                · ((intro W hW; obtain ⟨k0, k1, k2, k3, k4⟩ := hW; go_simp) <;> with_reducible rfl)
                simp only [Act.put, List.setIfInBounds_toArray, List.set_cons_zero, List.set_cons_succ]
                refine lex_take (i := 10) (v := ?_) rfl (by kernel_rfl) (by kernel_rfl) (by kernel_rfl) (by rfl) (HKW.out _ U21.out G21.out) ?_ ?_
                rotate_left
                · ((intro W hW; obtain ⟨k0, k1, k2, k3, k4⟩ := hW; go_simp) <;> with_reducible rfl)
                simp only [Act.put, List.setIfInBounds_toArray, List.set_cons_zero, List.set_cons_succ]
                refine lex_take (i := 11) (v := ?_) rfl (by kernel_rfl) (by kernel_rfl) (by kernel_rfl) (by rfl) (HKW.out _ U21.out G21.out) ?_ ?_
                rotate_left
                · ((intro W hW; obtain ⟨k0, k1, k2, k3, k4⟩ := hW; go_simp) <;> with_reducible rfl)
                simp only [Act.put, List.setIfInBounds_toArray, List.set_cons_zero, List.set_cons_succ]
                refine lex_take (i := 12) (v := ?_) rfl (by kernel_rfl) (by kernel_rfl) (by kernel_rfl) (by rfl) (HKW.out _ U21.out G21.out) ?_ ?_
                rotate_left
                · ((intro W hW; obtain ⟨k0, k1, k2, k3, k4⟩ := hW; go_simp) <;> with_reducible rfl)
                simp only [Act.put, List.setIfInBounds_toArray, List.set_cons_zero, List.set_cons_succ]
                refine lex_take (i := 13) (v := ?_) rfl (by kernel_rfl) (by kernel_rfl) (by kernel_rfl) (by rfl) (HKW.out _ U21.out G21.out) ?_ ?_
                rotate_left
                · ((intro W hW; obtain ⟨k0, k1, k2, k3, k4⟩ := hW; go_simp) <;> with_reducible rfl)
                simp only [Act.put, List.setIfInBounds_toArray, List.set_cons_zero, List.set_cons_succ]
                refine lex_done (by kernel_rfl) ?_
                obtain rfl : u20 = u21 := HVW.out _ _ _ _ _ _ _ _ HA20.out HA21.out HV20.out HV21.out
                have HNX : Hid (∃ e', p21 = p ++ e' ∧ e'.length ≤ (i + 1) * 800) := Lib.hid (by
                  obtain ⟨e1, he1⟩ := HA20.out.ext
                  obtain ⟨e2, he2⟩ := HA21.out.ext
                  refine ⟨ex ++ e1 ++ e2, by rw [he2, he1]; simp [List.append_assoc], ?_⟩
                  have k1 := HA20.out.len
                  have k2 := HA21.out.len
                  have := HXL.out
                  have := HYL.out
                  have := HEX.out
                  rw [he1] at k1
                  rw [he2, he1] at k2
                  simp only [List.length_append] at k1 k2 ⊢
                  omega)
                clear HVW HA20 HA21 HV20 HV21 U20 G20 HP20 HH20 HPL2 HYI2 HXI HYI HKW QL QM
                have huu : (u20 != u20) = false := by simp
                have NU := Lib.hid (fun (n : Int) (W : World) => num_any n W)
                go_wp2_with ((with_reducible refine (NU.out _ _).mono ?_); rintro e wn ⟨rfl, rfl⟩)
                go_roundw
                case rel =>
                  obtain ⟨e', rfl, he'⟩ := HNX.out
                  exact ⟨i + 1, v21, e', by go_num, by omega, HP21.out, he', .inl (by trivial), U21.out, HH21.out⟩
                case measure => simp [intOf] <;> omega
              · obtain rfl : i = l.length := by omega
                have HAL : Hid ((∀ x ∈ l, inP p x = true) ∨ ex = []) := Lib.hid (.inl HAK.out.2.1)
                have hd : decide ((l.length : Int) < (l.length : Int)) = false := decide_eq_false (by omega)
                clear HAK hlt hi
                go_wp2_with fail
                clear z1 hd
                obtain ⟨wn, rfl⟩ : ∃ wn, wn = wr := ⟨_, rfl⟩
                have z1 : wn.cell? ⟨w.heap.size, 1, none⟩ = some (.slice a1 l.length k1) := cellB (j := 1) (HHW.out _ (by decide) (by decide) _ _ HX.out) rfl
                have z2 : wn.cell? ⟨w.heap.size, 2, none⟩ = some (.slice a2 m.length k2) := cellB (j := 2) (HHW.out _ (by decide) (by decide) _ _ HX.out) rfl
                have HRW : Hid (IsRef wn B2 ra rl rs rd p) := Lib.hid ⟨HHW.out _ (by decide) (by decide) _ _ HR.out.lay, HR.out.ga, own_hold HR.out.rl (HHW.out _ (by decide) (by decide)), own_hold HR.out.rs (HHW.out _ (by decide) (by decide)), own_hold HR.out.rd (HHW.out _ (by decide) (by decide)), HR.out.ap, HR.out.ok, HR.out.nok⟩
                go_wp2_with fail
                go_loopw [17, 18] (fun v17 v18 wr => ∃ i : Nat, v18 = .int .i64 (i : Int) ∧ v17 = .bool (inUp p true l i) ∧ i ≤ l.length ∧ wn = wr) (fun _ v _ => l.length - (intOf v).toNat)
                case atStart => exact ⟨0, rfl, by rw [inUp_zero], Nat.zero_le _, rfl⟩
                case round =>
                  obtain ⟨i, rfl, rfl, hi, rfl⟩ := hrel
                  by_cases hlt : i < l.length
                  · obtain ⟨lb, lo, rfl, ql⟩ := HLX.out (by omega)
                    have cl := bcellAt HUW.out (ql i _ (ints_at l i hlt))
                    have hl12 : l.length ≤ 12 := HLL.out.1
                    have hi0 : (0 : Int) ≤ (i : Int) := by omega
                    have hi1 : (i : Int) < (l.length : Int) := by omega
                    have HSU := Lib.hid (inUp_succ p true l hlt)
                    have HRN := rin HRW.out l[i]
                    generalize l[i] = x at *
                    generalize inUp p true l i = bu at *
                    clear ql
                    cases bu with
                    | true =>
                      go_wp2_with fail
                      refine HRN.mono ?_
                      rintro e V ⟨rfl, rfl⟩
                      clear cl
                      go_wp2_with fail
                      go_roundw
                      case rel => exact ⟨i + 1, by go_num, by rw [HSU.out]; rfl, by omega, by trivial⟩
                      case measure => simp [intOf] <;> omega
                    | false =>
                      clear HRN cl
                      go_wp2_with fail
                      go_roundw
                      case rel => exact ⟨i + 1, by go_num, by rw [HSU.out]; rfl, by omega, by trivial⟩
                      case measure => simp [intOf] <;> omega
                  · obtain rfl : i = l.length := by omega
                    clear hlt
                    have HIA := Lib.hid (inUp_all (p := p) (k := true) (l := l))
                    have HNM := Lib.hid (notary_more (p := p) (e := ex) HPW.out.ok (l := l) (m := m) HAL.out)
                    have AL := Lib.hid (Alike_any HPW.out 2 (R1.out.below HUW.out) (R2.out.below HUW.out) (by have := HLL.out; omega) (by have := HLL.out; omega))
                    generalize inUp p true l l.length = ba at *
                    go_wp2_with fail
                    refine AL.out.mono ?_
                    rintro e wa ⟨rA, rfl, hrA, va⟩
                    have HRA := Lib.hid (hrA.trans HNM.out)
                    have HUA := Lib.hid (bmore HUW.out va)
                    have HVA := Lib.hid va
                    have z1W := Lib.hid z1
                    have z2W := Lib.hid z2
                    clear hrA va AL HNM z1 z2
                    have z1 : wa.cell? ⟨w.heap.size, 1, none⟩ = some (.slice a1 l.length k1) := bcellAt HVA.out z1W.out
                    have z2 : wa.cell? ⟨w.heap.size, 2, none⟩ = some (.slice a2 m.length k2) := bcellAt HVA.out z2W.out
                    cases ba with
                    | true =>
                      have TG := Lib.hid (termsG_any (R1.out.below HUA.out) (R2.out.below HUA.out) (by have := HLL.out; omega) (by have := HLL.out; omega))
                      go_wp2_with fail
                      refine TG.out.mono ?_
                      rintro e wb ⟨⟨rT, rfl, hrT⟩, vb⟩
                      obtain rfl : rA = rT := by
                        have h1 := (HIA.out.1 (by trivial)).2
                        have h2 := HRA.out
                        cases rA <;> cases rT <;> first | rfl | exact absurd (h2.2 ⟨h1, hrT.1 rfl⟩) (by decide) | exact absurd (hrT.2 (h2.1 rfl).2) (by decide)
                      have hrr : (rA == rA) = true := by simp
                      have HUB := Lib.hid (bmore HUA.out vb)
                      have LV := Lib.hid (live_any (HLD.out.below HUB.out))
                      clear hrT vb TG z1 z2 HRA
                      go_wp2_with fail
                      refine LV.out.mono ?_
                      rintro e wl ⟨rfl, vl'⟩
                      have HUL := Lib.hid (bmore HUB.out vl')
                      clear vl' LV
                      go_wp2_with fail
                      go_returns
                      exact ⟨rfl, HUL.out⟩
                    | false =>
                      obtain rfl : rA = false := by
                        cases rA with
                        | false => rfl
                        | true => exact absurd (HIA.out.2 ⟨by trivial, (HRA.out.1 rfl).1⟩) (by decide)
                      have LV := Lib.hid (live_any (HLD.out.below HUA.out))
                      clear z1 z2 HRA
                      go_wp2_with fail
                      refine LV.out.mono ?_
                      rintro e wl ⟨rfl, vl'⟩
                      have HUL := Lib.hid (bmore HUA.out vl')
                      clear vl' LV
                      go_wp2_with fail
                      go_returns
                      exact ⟨rfl, HUL.out⟩
end Go.Proofs.YtgaklaajbepfaaaDoor
namespace Go.Proofs.YtgaklaajbepfaaaDoor
open Go Go.ChangeShapes Go.WideShapes Go.ChangeAt Go.RowKit
set_option linter.unusedVariables false

theorem vequals_all {w : World} (hl : Laid w) {fo : Fo} {u0 u1 u2 u3 v : Value} {l m n : List Int} {who : Int} (hk : IsK w (fun b => b < w.heap.size) u0 fo) (hok : OkF fo) (h1 : Row w 1 u1 l.length (ints l)) (h2 : Row w 1 u2 m.length (ints m)) (h3 : Row w 1 u3 n.length (ints n)) (hw : i64R who) (hv : v = .agg #[u0, u1, u2, u3, .int .i64 who]) : Calls Tryd.prog 4 #[v] w fun e w' => e = .returned (.bool true) ∧ Below w.heap.size w w' := by
  subst hv
  exact equals_walk hl hk hok h1 h2 h3

set_option maxRecDepth 100000 in
/-- What the walk gives, for every argument. -/
theorem vequals_contract (H : Type) (enc : TypeId × Value → H) (W : World) (base : Nat) (args : Array Value) (ds gs : List (DataW H)) (before : List MemPlace)
    (hval0 : ∀ (j : Nat) t v, Tryd.f4.params[j]? = some t → args[j]? = some v → Value.okWide Tryd.prog W .any base t v)
    (hW : DataW.Whole enc Tryd.prog Tryd.f4.params.toList Rows.viewEqualsSpec.vars false W args.toList ds gs before) (hL : laidMetH Tryd.prog laidL W) :
    Calls Tryd.prog 4 args W fun e W' => ∃ v, e = .returned v ∧ Rows.viewEqualsSpec.post enc Tryd.prog Tryd.f4 false true false false W args v W' := by
  have hval : ∀ (j : Nat) t v, Tryd.f4.params[j]? = some t → args[j]? = some v → Value.okWide Tryd.prog W .any base t v := hval0
  have hW' := hW
  obtain ⟨p, q, hA0, hV, rfl, hfz, hnd⟩ := hW
  have hA : DataW.TrodAll enc Tryd.prog W 0 (fun _ => true) true Tryd.f4.params.toList args.toList ds p := hA0
  rw [Tryd.params4] at hA hval
  obtain ⟨v0, vs0, d0, ds0, p0, q0, hargs0, rfl, rfl, h0, r0⟩ := trodAll_cons hA
  obtain ⟨rfl, rfl, rfl⟩ := trodAll_nil r0
  obtain rfl : args = #[v0] := by cases args; simp_all
  obtain ⟨rfl, rfl⟩ := trodVars_none hV
  obtain ⟨⟨fo0, g0, st0, go0, n0⟩, x0, x1, x2, x3, e0, hk0, hok0, hg0, hs0, hgo0, hn0⟩ := open_lists (hval 0 25 v0 rfl rfl) h0
  have HL := of_laid hL
  clear hA0 hval0 hL
  simp only [List.append_nil] at hW'
  refine (vequals_all HL hk0 hok0 hg0.1 hs0.1 hgo0.1 hn0 e0).mono fun e W' ⟨he, bel⟩ => ?_
  subst he
  exact ⟨_, rfl, _, _, _, [], _, [], hW', trodAll_mk1 (shut_bool Tryd.underlying4 _), (trodAll_cons_mk (Below.trod laidOut (by kernel_rfl) (of_decide_eq_true (by kernel_rfl)) h0 bel (places_lt h0)) trodAll_mk0), rfl, bel.frame _, fun h => by cases h⟩

set_option maxRecDepth 100000 in
theorem vequals_lifted (os : Os) (started : os.Started) (H : Type) (enc : TypeId × Value → H) :
    ReturnsInHanded {} Tryd.checked os 4 .any (fun w args => (Rows.viewEqualsSpec.pre enc Tryd.prog Tryd.f4 [] false w args ∧ laidMetH Tryd.prog laidL w) ∧ sizedMet enc Tryd.prog Tryd.f4 (OpenSpec.ofChange Rows.viewEqualsSpec) false w args)
      (Rows.viewEqualsSpec.post enc Tryd.prog Tryd.f4 false true false false) := by
  refine returnsInHanded_of_change_and (C := Tryd.checked) (X := fun w _ => laidMetH Tryd.prog laidL w) (fun _ _ _ hh h => h.of_heap hh) own started (by kernel_rfl) Tryd.func4
    (ChangeSpec.witness_shaped (enc := enc) (C := Tryd.checked) (os := os) (X := fun w _ => laidMetH Tryd.prog laidL w) false (World.doorLaid Tryd.prog 400 os) #[.agg #[.slice none 0 0, .slice none 0 0, .slice none 0 0, .slice none 0 0, .int .i64 0]] 8 rfl (World.shaped_of_RefB (by kernel_rfl) (by kernel_rfl)) (by kernel_rfl) (by kernel_rfl) (by kernel_rfl) (door_met os _)) ?_
  intro W base args ds gs before hval hW _ _ hL _
  exact vequals_contract H enc W base args ds gs before hval hW hL

/-- The row's statement. -/
theorem vequals_holds : Rows.ViewEqualsSaid :=
  OpenClaim.holds_of_wide 4 Tryd.f4 rfl rfl rfl rfl rfl rfl rfl ⟨rfl, rfl, rfl, rfl, rfl⟩ rfl rfl rfl rfl rfl (by kernel_rfl) Tryd.func4 (by kernel_rfl)
    (of_decide_eq_true (by kernel_rfl)) (by unfold Func.isWrapper; first | (rw [if_pos (by decide +kernel)]; kernel_rfl) | (rw [if_neg (by decide +kernel)]; exact ⟨rfl, rfl⟩))
    (fun os started H enc _ => vequals_lifted os started H enc)

/-- The card. -/
theorem vequals_card : Rows.ViewEqualsCardSaid :=
  Claim7.holds_tied_plain_at .later [] [.data] true _ false
    vequals_holds (fun _ h => by cases h) (by kernel_rfl) (fun _ h => by cases h) viewEquals_row_tie rfl ⟨rfl, rfl⟩ (by kernel_rfl) rfl
    (fun f fn hf hfn => by
      obtain rfl : f = 4 := Option.some.inj ((show Tryd.prog.funcNamed "escrow/escrowlaw10.ViewEquals" = some 4 by kernel_rfl).symm.trans hf) |>.symm
      obtain rfl : fn = Tryd.f4 := (Option.some.inj (Tryd.func4.symm.trans hfn)).symm
      exact ⟨by kernel_rfl, fun j t ht => by
        rw [Tryd.params4] at ht
        have hm : t ∈ [25] := by simpa using Array.mem_of_getElem? ht
        have hall : ([25].all fun u => !Tryd.prog.wantsStandIn u) = true := by kernel_rfl
        exact (show Tryd.prog.wantsStandIn t = false by simpa using List.all_eq_true.1 hall t hm)⟩)
    (by kernel_rfl)
#print axioms vequals_card
end Go.Proofs.YtgaklaajbepfaaaDoor
