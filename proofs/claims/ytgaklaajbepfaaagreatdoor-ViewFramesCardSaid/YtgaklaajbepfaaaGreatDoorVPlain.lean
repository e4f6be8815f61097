/-
  Plain: a term made anew, each node of the kind that is answered for it.
-/
import Derived.Test.YtgaklaajbepfaaaGreatDoorTCopP
namespace Go.Proofs.YtgaklaajbepfaaaGreatDoor
set_option linter.unusedVariables false

def kdN (k : Int) (n : Nd) : Nd := ⟨k, n.frm, n.to, n.num, n.text, n.a, n.b⟩
def abN (n : Nd) (x y : Int) : Nd := ⟨n.kind, n.frm, n.to, n.num, n.text, x, y⟩
/-- A kind that a node may take: its own, or the other of a promise and a fake. -/
def KdOk (n : Nd) (k : Int) : Prop := k = n.kind ∨ ((n.kind = 8 ∨ n.kind = 9) ∧ (k = 8 ∨ k = 9))
theorem kd_err {n : Nd} {k : Int} (h : KdOk n k) (p : Pl) : errP p (kdN k n) = errP p n := by
  rcases h with rfl | ⟨h1, h2⟩
  · rfl
  · have e : ∀ j : Int, (j = 8 ∨ j = 9) → namedB j = true ∧ twoB j = true ∧ kidsN j = 1 ∧ (1 ≤ j ∧ j ≤ 9) ∧ (j == 2) = false ∧ (j == 3) = false := fun j hj => by rcases hj with rfl | rfl <;> decide
    obtain ⟨a1, a2, a3, a4, a5, a6⟩ := e _ h1
    obtain ⟨b1, b2, b3, b4, b5, b6⟩ := e _ h2
    have hp : plainB (kdN k n) = plainB n := by
      unfold plainB kdN
      simp only [a1, a2, a3, a5, a6, b1, b2, b3, b5, b6, a4, b4, decide_true]
    have hs : shp (kdN k n) = shp n := by
      unfold shp
      rw [hp]
      show (if plainB n = false then 53 else if ((namedB k && !nameB n.frm) || (twoB k && (!nameB n.to || n.frm == n.to))) = true then 50 else if 64 < n.text.size then 1 else 0 : Int) = _
      rw [a1, a2, b1, b2]
    have hk : kidsBad p (kdN k n) = kidsBad p n := by
      unfold kidsBad
      show ((decide (1 ≤ kidsN k) && !inP p n.a) || (kidsN k == 2 && !inP p n.b)) = _
      rw [a3, b3]
    unfold errP
    rw [hs, hk]
    rfl
theorem kd_sz (k : Int) (n : Nd) (p : Pl) : szN p (kdN k n) = szN p n ∧ dpN p (kdN k n) = dpN p n := ⟨rfl, rfl⟩

def updO (m : Int → Option Int) (t u : Int) : Int → Option Int := fun x => if x = t then some u else m x
/-- What was made anew: of terms of q up to T, in the pool p. -/
structure Anew (kf : Nd → Int) (q : Pl) (T : Int) (p : Pl) (m : Int → Option Int) : Prop where
  ok : Ok p
  ext : ∃ e, p = q ++ e
  zero : m 0 = some 0
  at_ : ∀ t u, m t = some u → (t = 0 ∧ u = 0) ∨ (inP q t = true ∧ t ≤ T ∧ inP p u = true ∧ (∃ x y, m (atP q t).1.a = some x ∧ m (atP q t).1.b = some y ∧ (atP p u).1 = kdN (kf (atP q t).1) (abN (atP q t).1 x y)) ∧ szP p u = szP q t ∧ dpP p u = dpP q t)
  room : ∃ L : List Int, L.Nodup ∧ (∀ t ∈ L, 1 ≤ t ∧ t ≤ T ∧ (m t).isSome = true) ∧ p.length ≤ q.length + L.length
theorem nodup_upto {l : List Int} {T : Int} (hn : l.Nodup) (h : ∀ t ∈ l, 1 ≤ t ∧ t ≤ T) : l.length ≤ T.toNat :=
  nodup_len hn fun t ht => by have := h t ht; omega
theorem Anew.start (kf : Nd → Int) {q : Pl} (hq : Ok q) (T : Int) : Anew kf q T q (fun x => if x = 0 then some 0 else none) := by
  refine ⟨hq, ⟨[], by simp⟩, rfl, fun t u h => ?_, ⟨[], List.nodup_nil, fun t h => (by cases h), by simp⟩⟩
  by_cases e : t = 0
  · rw [if_pos e] at h; exact .inl ⟨e, (Option.some.inj h).symm⟩
  · rw [if_neg e] at h; cases h
theorem Anew.len {kf : Nd → Int} {q : Pl} {T : Int} {p : Pl} {m : Int → Option Int} (h : Anew kf q T p m) : p.length ≤ q.length + T.toNat := by
  obtain ⟨L, h1, h2, h3⟩ := h.room
  have := nodup_upto h1 fun t ht => ⟨(h2 t ht).1, (h2 t ht).2.1⟩
  omega
/-- One more: it is made, without an error. -/
theorem Anew.step {kf : Nd → Int} {q : Pl} (hq : Ok q) {T : Int} {p : Pl} {m : Int → Option Int} (h : Anew kf q T p m) {t : Int} (hin : inP q t = true) (htT : t ≤ T) (hm : m t = none) {x y : Int} (hx : m (atP q t).1.a = some x) (hy : m (atP q t).1.b = some y) (hk : KdOk (atP q t).1 (kf (atP q t).1)) (hroom : q.length + T.toNat ≤ 65536) :
    (mkP p (kdN (kf (atP q t).1) (abN (atP q t).1 x y))).2.1 = 0 ∧ Anew kf q T (mkP p (kdN (kf (atP q t).1) (abN (atP q t).1 x y))).2.2 (updO m t (mkP p (kdN (kf (atP q t).1) (abN (atP q t).1 x y))).1) := by
  obtain ⟨i, hi, hti, hat⟩ := atP_get hin
  have he : errP q (atP q t).1 = 0 := by rw [hat]; exact hq.mem _ (List.getElem_mem hi)
  have hkid : ∀ k z, m k = some z → inP q k = true → inP p z = true ∧ szP p z = szP q k ∧ dpP p z = dpP q k := fun k z hz hik => by
    rcases h.at_ k z hz with ⟨rfl, _⟩ | ⟨_, _, h3, _, h5, h6⟩
    · rw [inP_zero] at hik; cases hik
    · exact ⟨h3, h5, h6⟩
  have hxe : (m (atP q t).1.a).getD 0 = x := by rw [hx]; rfl
  have hye : (m (atP q t).1.b).getD 0 = y := by rw [hy]; rfl
  obtain ⟨e0, e1, e2⟩ := errP_as (p := p) (m := fun z => (m z).getD 0) he (by simp [h.zero]) (fun hi => by simp only [hxe]; exact hkid _ _ hx hi) (fun hi => by simp only [hye]; exact hkid _ _ hy hi)
  have hasN : asN (fun z => (m z).getD 0) (atP q t).1 = abN (atP q t).1 x y := by unfold asN abN; simp only [hxe, hye]
  rw [hasN] at e0 e1 e2
  have e0' : errP p (kdN (kf (atP q t).1) (abN (atP q t).1 x y)) = 0 := by rw [kd_err (n := abN (atP q t).1 x y) hk]; exact e0
  obtain ⟨L, l1, l2, l3⟩ := h.room
  have htL : t ∉ L := fun hc => by have := (l2 t hc).2.2; rw [hm] at this; cases this
  have ht1 : 1 ≤ t := by unfold inP at hin; simp at hin; omega
  have hLT := nodup_upto (l := t :: L) (T := T) (List.nodup_cons.2 ⟨htL, l1⟩) (fun z hz => by
    rcases List.mem_cons.1 hz with rfl | hz
    · exact ⟨ht1, htT⟩
    · exact ⟨(l2 z hz).1, (l2 z hz).2.1⟩)
  simp only [List.length_cons] at hLT
  obtain ⟨m1, m2, m3, e', m4, m5⟩ := mkP_good h.ok e0' (by omega)
  have hok := mkP_ok h.ok (kdN (kf (atP q t).1) (abN (atP q t).1 x y))
  obtain ⟨z1, z2⟩ := hok.at_sizes m2
  obtain ⟨y1, y2⟩ := hq.at_sizes hin
  have k1 := kid_in e0
  have hs1 : szP (mkP p (kdN (kf (atP q t).1) (abN (atP q t).1 x y))).2.2 (mkP p (kdN (kf (atP q t).1) (abN (atP q t).1 x y))).1 = szP q t := by
    rw [z1, m3, y1, ← e1, m4]
    unfold szN szP
    show 1 + (atP (p ++ e') (abN (atP q t).1 x y).a).2.1 + (atP (p ++ e') (abN (atP q t).1 x y).b).2.1 = _
    rw [at_kid k1.1, at_kid k1.2]
  have hs2 : dpP (mkP p (kdN (kf (atP q t).1) (abN (atP q t).1 x y))).2.2 (mkP p (kdN (kf (atP q t).1) (abN (atP q t).1 x y))).1 = dpP q t := by
    rw [z2, m3, y2, ← e2, m4]
    unfold dpN dpP
    show 1 + max (atP (p ++ e') (abN (atP q t).1 x y).a).2.2 (atP (p ++ e') (abN (atP q t).1 x y).b).2.2 = _
    rw [at_kid k1.1, at_kid k1.2]
  obtain ⟨e, hext⟩ := h.ext
  have hkey : ∀ k z, m k = some z → updO m t (mkP p (kdN (kf (atP q t).1) (abN (atP q t).1 x y))).1 k = some z := fun k z hz => by
    unfold updO
    rw [if_neg (fun ek => by rw [ek, hm] at hz; cases hz)]; exact hz
  refine ⟨m1, hok, ⟨e ++ e', by rw [m4, hext, List.append_assoc]⟩, hkey _ _ h.zero, fun k z hz => ?_, ⟨t :: L, List.nodup_cons.2 ⟨htL, l1⟩, fun z hz => ?_, by rw [m4]; simp; omega⟩⟩
  · by_cases ek : k = t
    · subst ek
      have hz' : (mkP p (kdN (kf (atP q k).1) (abN (atP q k).1 x y))).1 = z := by unfold updO at hz; rw [if_pos rfl] at hz; exact Option.some.inj hz
      rw [hz'] at m2 m3 hs1 hs2
      exact .inr ⟨hin, htT, m2, ⟨x, y, hkey _ _ hx, hkey _ _ hy, m3⟩, hs1, hs2⟩
    · have hz' : m k = some z := by unfold updO at hz; rw [if_neg ek] at hz; exact hz
      rcases h.at_ k z hz' with h1 | ⟨h1, h2, h3, ⟨x', y', h4, h5, h6⟩, h7, h8⟩
      · exact .inl h1
      · refine .inr ⟨h1, h2, ?_, ⟨x', y', hkey _ _ h4, hkey _ _ h5, ?_⟩, ?_, ?_⟩
        · rw [m4]; exact inP_le h3 (by simp)
        · rw [m4, atP_append h3]; exact h6
        · rw [m4]; unfold szP at *; rw [atP_append h3]; exact h7
        · rw [m4]; unfold dpP at *; rw [atP_append h3]; exact h8
  · rcases List.mem_cons.1 hz with rfl | hz
    · exact ⟨ht1, htT, by unfold updO; rw [if_pos rfl]; rfl⟩
    · obtain ⟨b1, b2, b3⟩ := l2 z hz
      refine ⟨b1, b2, ?_⟩
      obtain ⟨v, hv⟩ := Option.isSome_iff_exists.1 b3
      rw [hkey _ _ hv]; rfl
end Go.Proofs.YtgaklaajbepfaaaGreatDoor
