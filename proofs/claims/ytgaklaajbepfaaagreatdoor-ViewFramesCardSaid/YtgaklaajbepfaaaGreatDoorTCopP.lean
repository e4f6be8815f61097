/-
  Plain: a term of one pool in another: its subterms are made, what stands in each being there already.
-/
import Derived.Test.YtgaklaajbepfaaaGreatDoorTSubP
import Derived.Test.YtgaklaajbepfaaaGreatDoorTTree
namespace Go.Proofs.YtgaklaajbepfaaaGreatDoor
set_option linter.unusedVariables false

/-- The same node, what stands in it renumbered. -/
def asN (m : Int → Int) (n : Nd) : Nd := ⟨n.kind, n.frm, n.to, n.num, n.text, m n.a, m n.b⟩
theorem errP_as {p q : Pl} {n : Nd} {m : Int → Int} (h : errP q n = 0) (h0 : m 0 = 0) (ha : inP q n.a = true → inP p (m n.a) = true ∧ szP p (m n.a) = szP q n.a ∧ dpP p (m n.a) = dpP q n.a)
    (hb : inP q n.b = true → inP p (m n.b) = true ∧ szP p (m n.b) = szP q n.b ∧ dpP p (m n.b) = dpP q n.b) : errP p (asN m n) = 0 ∧ szN p (asN m n) = szN q n ∧ dpN p (asN m n) = dpN q n := by
  obtain ⟨k1, k2⟩ := kid_in h
  have sa : szP p (m n.a) = szP q n.a ∧ dpP p (m n.a) = dpP q n.a := by
    rcases k1 with e | e
    · rw [e, h0]; exact ⟨by rw [szP_zero, szP_zero], by rw [dpP_zero, dpP_zero]⟩
    · exact (ha e).2
  have sb : szP p (m n.b) = szP q n.b ∧ dpP p (m n.b) = dpP q n.b := by
    rcases k2 with e | e
    · rw [e, h0]; exact ⟨by rw [szP_zero, szP_zero], by rw [dpP_zero, dpP_zero]⟩
    · exact (hb e).2
  have e1 : szN p (asN m n) = szN q n := by unfold szN asN; simp only; rw [sa.1, sb.1]
  have e2 : dpN p (asN m n) = dpN q n := by unfold dpN asN; simp only; rw [sa.2, sb.2]
  refine ⟨?_, e1, e2⟩
  unfold errP at h ⊢
  split at h
  · rename_i h1; exact absurd h h1
  · rename_i h1
    have hs : shp n = 0 := by simpa using h1
    have hs' : shp (asN m n) = 0 := by
      unfold shp at hs ⊢
      by_cases hp : plainB n = false
      · rw [if_pos hp] at hs; cases hs
      · have hp' : plainB n = true := by simpa using hp
        have hq : plainB (asN m n) = true := by
          unfold plainB asN at *
          simp only [Bool.and_eq_true, Bool.or_eq_true, decide_eq_true_eq, beq_iff_eq] at hp' ⊢
          exact ⟨⟨hp'.1.1, hp'.1.2.imp id fun e => by rw [e, h0]⟩, hp'.2.imp id fun e => by rw [e, h0]⟩
        rw [if_neg (by rw [hq]; simp)]
        rw [if_neg hp] at hs
        exact hs
    rw [if_neg (by rw [hs']; simp)]
    split at h
    · cases h
    · rename_i h2
      have h2' : kidsBad q n = false := by simpa using h2
      have h3 : kidsBad p (asN m n) = false := by
        unfold kidsBad at h2'
        have ga : (decide (1 ≤ kidsN n.kind) && !inP p (m n.a)) = false := by
          have := (Bool.or_eq_false_iff.1 h2').1
          cases hx : decide (1 ≤ kidsN n.kind) with
          | false => rfl
          | true => rw [hx] at this; simp at this; rw [(ha this).1]; rfl
        have gb : (kidsN n.kind == 2 && !inP p (m n.b)) = false := by
          have := (Bool.or_eq_false_iff.1 h2').2
          cases hx : (kidsN n.kind == 2) with
          | false => rfl
          | true => rw [hx] at this; simp at this; rw [(hb this).1]; rfl
        show ((decide (1 ≤ kidsN n.kind) && !inP p (m n.a)) || (kidsN n.kind == 2 && !inP p (m n.b))) = false
        rw [ga, gb]; rfl
      rw [if_neg (by rw [h3]; simp), e1, e2]
      exact h

/-- What stands in each is ahead of it. -/
def Cl (q : Pl) (l : List Int) : Prop := ∀ (pre : List Int) (u : Int) (suf : List Int), l = pre ++ u :: suf → inP q u = true ∧ ((atP q u).1.a = 0 ∨ (atP q u).1.a ∈ pre) ∧ ((atP q u).1.b = 0 ∨ (atP q u).1.b ∈ pre)
theorem Cl.nil (q : Pl) : Cl q [] := fun pre u suf h => by simp at h
theorem Cl.snoc {q : Pl} {l : List Int} {t : Int} (h : Cl q l) (ht : inP q t = true) (ha : (atP q t).1.a = 0 ∨ (atP q t).1.a ∈ l) (hb : (atP q t).1.b = 0 ∨ (atP q t).1.b ∈ l) : Cl q (l ++ [t]) := by
  intro pre u suf e
  rcases List.eq_nil_or_concat suf with rfl | ⟨suf', x, rfl⟩
  · have := List.append_inj' e rfl
    obtain ⟨rfl, e2⟩ := this
    obtain rfl : t = u := by simpa using e2
    exact ⟨ht, ha, hb⟩
  · rw [List.concat_eq_append, ← List.cons_append, ← List.append_assoc] at e
    have := List.append_inj' e rfl
    obtain ⟨e1, e2⟩ := this
    exact h pre u suf' e1
theorem over_cl {q : Pl} (hq : Ok q) : ∀ (f : Nat) (t : Int) (acc : List Int), t.toNat ≤ f → Cl q acc → Cl q (over q f t acc)
  | 0, _, _, _, h => h
  | f + 1, t, acc, hf, h => by
    by_cases hc : inP q t = true ∧ t ∉ acc
    · rw [over_in q f hc.1 hc.2]
      obtain ⟨ka, kb⟩ := kid_less hq hc.1
      have hin : ∀ x : Int, inP q x = true → 1 ≤ x := fun x hx => by unfold inP at hx; simp at hx; omega
      have fa : (atP q t).1.a.toNat ≤ f := by rcases ka with e | e <;> omega
      have fb : (atP q t).1.b.toNat ≤ f := by rcases kb with e | e <;> omega
      refine (over_cl hq f _ _ fb (over_cl hq f _ _ fa h)).snoc hc.1 ?_ ?_
      · rcases ka with e | e
        · exact .inl e
        · exact .inr ((over_more q f _ _).subset (over_has f e.1 (by have := hin _ e.1; omega)))
      · rcases kb with e | e
        · exact .inl e
        · exact .inr (over_has f e.1 (by have := hin _ e.1; omega))
    · rw [over_out q _ hc]; exact h
theorem subs_cl {q : Pl} (hq : Ok q) (t : Int) : Cl q (subs q t) := by
  by_cases h : inP q t = true
  · exact over_cl hq _ _ _ (by unfold inP at h; simp at h; omega) (Cl.nil q)
  · unfold subs; rw [over_out q _ (fun x => h x.1)]; exact Cl.nil q
theorem subs_has {q : Pl} {t : Int} (h : inP q t = true) : t ∈ subs q t := over_has _ h (by unfold inP at h; simp at h; omega)

/-- The pool and the numbers behind one more. -/
def cpS (q : Pl) (st : Pl × (Int → Int)) (u : Int) : Pl × (Int → Int) :=
  ((mkP st.1 (asN st.2 (atP q u).1)).2.2, fun x => if x = u then (mkP st.1 (asN st.2 (atP q u).1)).1 else st.2 x)
def cpA (q p : Pl) (l : List Int) : Pl × (Int → Int) := l.foldl (cpS q) (p, fun _ => 0)
theorem cpA_snoc (q p : Pl) (l : List Int) (u : Int) : cpA q p (l ++ [u]) = cpS q (cpA q p l) u := by simp [cpA]
/-- What Copy answers. -/
def copyP (q p : Pl) (t : Int) : Int × Int × Pl := if inP q t = true then ((cpA q p (subs q t)).2 t, 0, (cpA q p (subs q t)).1) else (0, 51, p)

structure CpOk (q p : Pl) (pre : List Int) (st : Pl × (Int → Int)) : Prop where
  ok : Ok st.1
  more : ∃ e, st.1 = p ++ e ∧ e.length ≤ pre.length
  out : ∀ x, x ∉ pre → st.2 x = 0
  at_ : ∀ x ∈ pre, inP st.1 (st.2 x) = true ∧ szP st.1 (st.2 x) = szP q x ∧ dpP st.1 (st.2 x) = dpP q x
theorem CpOk.start {q p : Pl} (hp : Ok p) : CpOk q p [] (p, fun _ => 0) := ⟨hp, ⟨[], by simp, by simp⟩, fun _ _ => rfl, fun x h => by cases h⟩
/-- One more: it is made, without an error. -/
theorem CpOk.step {q p : Pl} (hq : Ok q) {pre : List Int} {st : Pl × (Int → Int)} (h : CpOk q p pre st) {u : Int} (hpre : ∀ x ∈ pre, inP q x = true) (hu : inP q u = true) (hnu : u ∉ pre) (ha : (atP q u).1.a = 0 ∨ (atP q u).1.a ∈ pre) (hb : (atP q u).1.b = 0 ∨ (atP q u).1.b ∈ pre)
    (hroom : p.length + pre.length < 65536) : (mkP st.1 (asN st.2 (atP q u).1)).2.1 = 0 ∧ CpOk q p (pre ++ [u]) (cpS q st u) := by
  have h00 : st.2 0 = 0 := h.out 0 (fun e => by have := hpre 0 e; rw [inP_zero] at this; cases this)
  have hin : ∀ k, (k = 0 ∨ k ∈ pre) → inP q k = true → inP st.1 (st.2 k) = true ∧ szP st.1 (st.2 k) = szP q k ∧ dpP st.1 (st.2 k) = dpP q k := fun k hk hi => by
    rcases hk with rfl | hk
    · rw [inP_zero] at hi; cases hi
    · exact h.at_ k hk
  obtain ⟨i, hi, rfl, hat⟩ := atP_get hu
  have he : errP q (atP q ((i : Int) + 1)).1 = 0 := by rw [hat]; exact hq.mem _ (List.getElem_mem hi)
  obtain ⟨e0, e1, e2⟩ := errP_as (p := st.1) he h00 (hin _ ha) (hin _ hb)
  obtain ⟨e, hm, hl⟩ := h.more
  obtain ⟨m1, m2, m3, e', m4, m5⟩ := mkP_good h.ok e0 (by rw [hm]; simp; omega)
  have hok := mkP_ok h.ok (asN st.2 (atP q ((i : Int) + 1)).1)
  obtain ⟨z1, z2⟩ := hok.at_sizes m2
  obtain ⟨y1, y2⟩ := hq.at_sizes hu
  refine ⟨m1, hok, ⟨e ++ e', by show (mkP st.1 _).2.2 = _; rw [m4, hm, List.append_assoc], by simp; omega⟩, fun x hx => ?_, fun x hx => ?_⟩
  · simp only [List.mem_append, List.mem_singleton, not_or] at hx
    show (if x = _ then _ else st.2 x) = 0
    rw [if_neg hx.2]
    exact h.out x hx.1
  · show inP (mkP st.1 _).2.2 (if x = _ then _ else st.2 x) = true ∧ szP (mkP st.1 _).2.2 (if x = _ then _ else st.2 x) = _ ∧ dpP (mkP st.1 _).2.2 (if x = _ then _ else st.2 x) = _
    by_cases ex : x = (i : Int) + 1
    · rw [if_pos ex, ex]
      refine ⟨m2, ?_, ?_⟩
      · rw [z1, m3, y1, ← e1, m4]
        unfold szN szP asN
        simp only
        have k1 := kid_in e0
        simp only [asN] at k1
        rw [at_kid k1.1, at_kid k1.2]
      · rw [z2, m3, y2, ← e2, m4]
        unfold dpN dpP asN
        simp only
        have k1 := kid_in e0
        simp only [asN] at k1
        rw [at_kid k1.1, at_kid k1.2]
    · rw [if_neg ex]
      have hxp : x ∈ pre := by
        rcases List.mem_append.1 hx with h | h
        · exact h
        · exact absurd (by simpa using h) ex
      obtain ⟨q1, q2, q3⟩ := h.at_ x hxp
      rw [m4]
      refine ⟨inP_le q1 (by simp), ?_, ?_⟩
      · unfold szP at *; rw [atP_append q1]; exact q2
      · unfold dpP at *; rw [atP_append q1]; exact q3
/-- All of them. -/
theorem cpA_ok {q p : Pl} (hq : Ok q) (hp : Ok p) {t : Int} (hroom : p.length + q.length ≤ 65536) {pre suf : List Int} (hs : subs q t = pre ++ suf) : CpOk q p pre (cpA q p pre) := by
  obtain ⟨n, hn⟩ : ∃ n, pre.length = n := ⟨_, rfl⟩
  induction n generalizing pre suf with
  | zero => obtain rfl := List.eq_nil_of_length_eq_zero hn; exact CpOk.start hp
  | succ n ihn =>
    obtain ⟨pre, u, rfl⟩ : ∃ pre' u, pre = pre' ++ [u] := by
      rcases List.eq_nil_or_concat pre with rfl | ⟨l, x, rfl⟩
      · simp at hn
      · exact ⟨l, x, by simp⟩
    have ih := fun {suf : List Int} (h : subs q t = pre ++ suf) => ihn h (by simp at hn; omega)
    rw [cpA_snoc]
    have hs' : subs q t = pre ++ u :: suf := by rw [hs]; simp
    obtain ⟨c1, c2, c3⟩ := subs_cl hq t pre u suf hs'
    have hnd := over_nodup hq q.length t [] List.nodup_nil
    rw [show over q q.length t [] = subs q t from rfl, hs'] at hnd
    have hnu : u ∉ pre := fun h => (List.nodup_append.1 hnd).2.2 u h u (by simp) rfl
    have hl := subs_len hq t
    rw [hs'] at hl
    simp at hl
    exact ((ih hs').step hq (fun x hx => subs_in hq (t := t) (by rw [hs']; exact List.mem_append_left _ hx)) c1 hnu c2 c3 (by omega)).2
end Go.Proofs.YtgaklaajbepfaaaGreatDoor
