/-
  Plain: a list of trees in a pool that is nearly full, beside the same in an empty one.
-/
import Derived.Test.YteflbecdeinflaaDoorTFulP
namespace Go.Proofs.YteflbecdeinflaaDoor
set_option linter.unusedVariables false

/-- No label's number is below 0. -/
def NN : Fo → Prop
  | .nil => True
  | .cons n k r => 0 ≤ n.num ∧ NN k ∧ NN r
theorem fresh_le (base : Nat) (q e : Pl) : fresh base q ≤ fresh base (q ++ e) := by rw [fresh_append]; omega
theorem nodeOf_map (m : Int → Int) (h0 : m 0 = 0) (n : Nd) (ka : List Int) : nodeOf n (ka.map m) = asN m (nodeOf n ka) := by
  unfold nodeOf asN
  have h : ∀ i, (ka.map m).getD i 0 = m (ka.getD i 0) := fun i => by
    simp only [List.getD_eq_getElem?_getD, List.getElem?_map]
    cases ka[i]? <;> simp [h0]
  rw [h, h]
theorem simF {base : Nat} : ∀ (f : Fo) (q p : Pl) (m : Int → Int), Sim base q p m → Good f → Bare f → NN f → (f.size : Int) ≤ 4096 → (f.depth : Int) ≤ 64 → q.length + f.size ≤ 65536 →
    ∃ m' : Int → Int, (∀ t, t = 0 ∨ inP q t = true → m' t = m t) ∧
      ((∃ p', grF f p = ((grF f q).1.map m', 0, p') ∧ Sim base (grF f q).2.2 p' m') ∨ ((grF f p).2.1 = 6 ∧ 65536 < base + fresh base (grF f q).2.2)) := by
  intro f
  induction f with
  | nil => intro q p m h _ _ _ _ _ _; exact ⟨m, fun _ _ => rfl, .inl ⟨p, rfl, h⟩⟩
  | cons n k r ihk ihr =>
    intro q p m h hg hb hn h1 h2 h3
    obtain ⟨g1, g2, g3, g4⟩ := hg
    obtain ⟨b1, b2, b3, b4⟩ := hb
    obtain ⟨n1, n2, n3⟩ := hn
    simp only [Fo.size, Fo.depth] at h1 h2 h3
    obtain ⟨k1, k2, k3, e, k4, k5⟩ := grF_good k q h.okq g3 b3 (by omega) (by omega) (by omega)
    have hl : (grF k q).1.length = kidsN n.kind := by rw [k2.length]; exact g1
    have he := errP_nodeOf k3 k2 g2 hl b1 b2 (by omega) (by omega)
    have hlen1 : (grF k q).2.2.length < 65536 := by rw [k4]; simp; omega
    obtain ⟨c1, c2, c3, x, c4, c5⟩ := mkP_good k3 he hlen1
    have hq2 : (mkP (grF k q).2.2 (nodeOf n (grF k q).1)).2.2.length + r.size ≤ 65536 := by rw [c4, k4]; simp; omega
    obtain ⟨r1, r2, r3, y, r4, r5⟩ := grF_good r _ (mkP_ok k3 (nodeOf n (grF k q).1)) g4 b4 (by omega) (by omega) hq2
    have hqq : grF (.cons n k r) q = ((mkP (grF k q).2.2 (nodeOf n (grF k q).1)).1 :: (grF r (mkP (grF k q).2.2 (nodeOf n (grF k q).1)).2.2).1, (grF r (mkP (grF k q).2.2 (nodeOf n (grF k q).1)).2.2).2.1, (grF r (mkP (grF k q).2.2 (nodeOf n (grF k q).1)).2.2).2.2) := by
      simp only [grF]
      rw [if_neg (by rw [k1]; simp), if_neg (by rw [c1]; simp)]
    rw [hqq]
    obtain ⟨m1, hm1, ⟨p1, e1, s1⟩ | ⟨e1, f1⟩⟩ := ihk q p m h g3 b3 n2 (by omega) (by omega) (by omega)
    · obtain ⟨m2, hm2, ⟨p2, e2, s2⟩ | ⟨e2, f2⟩⟩ := s1.step he n1 hlen1
      · obtain ⟨m3, hm3, h3'⟩ := ihr _ p2 m2 s2 g4 b4 n3 (by omega) (by omega) hq2
        have hext : ∀ t, t = 0 ∨ inP q t = true → m3 t = m t := fun t ht => by
          have i1 : t = 0 ∨ inP (grF k q).2.2 t = true := ht.imp id fun i => by rw [k4]; exact inP_le i (by simp)
          have i2 : t = 0 ∨ inP (mkP (grF k q).2.2 (nodeOf n (grF k q).1)).2.2 t = true := i1.imp id fun i => by rw [c4]; exact inP_le i (by simp)
          rw [hm3 t i2, hm2 t i1, hm1 t ht]
        have hp1 : (grF k p).1 = (grF k q).1.map m1 ∧ (grF k p).2.1 = 0 ∧ (grF k p).2.2 = p1 := by rw [e1]; exact ⟨rfl, rfl, rfl⟩
        have hmk : mkP (grF k p).2.2 (nodeOf n (grF k p).1) = (m2 (mkP (grF k q).2.2 (nodeOf n (grF k q).1)).1, 0, p2) := by rw [hp1.1, hp1.2.2, nodeOf_map m1 s1.zero, e2]
        refine ⟨m3, hext, ?_⟩
        rcases h3' with ⟨p3, e3, s3⟩ | ⟨e3, f3⟩
        · left
          refine ⟨p3, ?_, s3⟩
          simp only [grF]
          rw [if_neg (by rw [hp1.2.1]; simp), hmk, if_neg (by simp), e3]
          simp only [List.map_cons]
          rw [hm3 _ (.inr c2)]
        · right
          refine ⟨?_, f3⟩
          simp only [grF]
          rw [if_neg (by rw [hp1.2.1]; simp), hmk, if_neg (by simp)]
          exact e3
      · refine ⟨m2, fun t ht => ?_, .inr ⟨?_, ?_⟩⟩
        · rw [hm2 t (ht.imp id fun i => by rw [k4]; exact inP_le i (by simp)), hm1 t ht]
        · have hp1 : (grF k p).1 = (grF k q).1.map m1 ∧ (grF k p).2.1 = 0 ∧ (grF k p).2.2 = p1 := by rw [e1]; exact ⟨rfl, rfl, rfl⟩
          have hmk : (mkP (grF k p).2.2 (nodeOf n (grF k p).1)).2.1 = 6 := by rw [hp1.1, hp1.2.2, nodeOf_map m1 s1.zero, e2]
          simp only [grF]
          rw [if_neg (by rw [hp1.2.1]; simp), if_pos (by rw [hmk]; simp)]
          exact hmk
        · show 65536 < base + fresh base (grF r _).2.2
          rw [r4]
          have := fresh_le base (mkP (grF k q).2.2 (nodeOf n (grF k q).1)).2.2 y
          omega
    · refine ⟨m1, hm1, .inr ⟨?_, ?_⟩⟩
      · simp only [grF]
        rw [if_pos (by rw [e1]; simp)]
        exact e1
      · show 65536 < base + fresh base (grF r _).2.2
        rw [r4, c4, List.append_assoc]
        have := fresh_le base (grF k q).2.2 (x ++ y)
        omega
/-- A tree's terms are as they were where all terms are renumbered. -/
theorem RepF.sim {base : Nat} {q p : Pl} {m : Int → Int} (h : Sim base q p m) : ∀ {f : Fo} {ts : List Int}, RepF q ts f → RepF p (ts.map m) f
  | .nil, [], _ => trivial
  | .cons n k r, t :: ts, hr => by
    obtain ⟨h1, ⟨ka, h2, h3, h4⟩, h5⟩ := hr
    obtain ⟨a1, a2, _, _⟩ := h.at_ t h1
    exact ⟨a1, ⟨ka.map m, RepF.sim h h2, by simpa using h3, by rw [a2, h4, nodeOf_map m h.zero]⟩, RepF.sim h h5⟩
  | .cons _ _ _, [], hr => hr.elim
  | .nil, _ :: _, hr => hr.elim
/-- A tree, in a pool that has left places left: there is room just if no more is new. -/
theorem full_tree {left : Nat} (hl : left ≤ 65536) {n : Nd} {k : Fo} (hg : Good (.cons n k .nil)) (hb : Bare (.cons n k .nil)) (hn : NN (.cons n k .nil)) (h1 : ((Fo.cons n k .nil).size : Int) ≤ 4096) (h2 : ((Fo.cons n k .nil).depth : Int) ≤ 64) :
    (fresh (65536 - left) (grT n k []).2.2 ≤ left ∧ ∃ t p', grT n k (numsP (65536 - left)) = (t, 0, p') ∧ p'.length = 65536 - left + fresh (65536 - left) (grT n k []).2.2 ∧ Ok p' ∧ RepF p' [t] (.cons n k .nil)) ∨
    (left < fresh (65536 - left) (grT n k []).2.2 ∧ (grT n k (numsP (65536 - left))).2.1 = 6) := by
  obtain ⟨m', _, h⟩ := simF (.cons n k .nil) [] _ _ (Sim.start (base := 65536 - left) (by omega)) hg hb hn h1 h2 (by simp; omega)
  obtain ⟨q1, q2, q3, e, q4, q5⟩ := grF_good (.cons n k .nil) [] Ok.nil hg hb h1 h2 (by simp; omega)
  have hT : ∀ p, (grF (.cons n k .nil) p).2.1 = (grT n k p).2.1 ∧ (grF (.cons n k .nil) p).2.2 = (grT n k p).2.2 ∧ ((grT n k p).2.1 = 0 → (grF (.cons n k .nil) p).1 = [(grT n k p).1]) := fun p => by
    rw [grF_cons]
    by_cases c : (grT n k p).2.1 ≠ 0
    · rw [if_pos c]; exact ⟨rfl, rfl, fun h => absurd h c⟩
    · rw [if_neg c]
      have hz : (grT n k p).2.1 = 0 := Classical.byContradiction c
      exact ⟨by rw [hz]; rfl, rfl, fun _ => rfl⟩
  rw [(hT []).2.1] at h
  rcases h with ⟨p', e1, s1⟩ | ⟨e1, f1⟩
  · left
    obtain ⟨ee, e2, e3⟩ := s1.more
    have hz : (grT n k (numsP (65536 - left))).2.1 = 0 := by rw [← (hT _).1, e1]
    have hr := RepF.sim s1 (by rw [← (hT []).2.1]; exact q2)
    have e4 := (hT (numsP (65536 - left))).2.2 hz
    rw [e1] at e4
    have hlen := s1.okp.len
    rw [e2, List.length_append, numsP_len, e3] at hlen
    refine ⟨by omega, (grT n k (numsP (65536 - left))).1, p', ?_, by rw [e2, List.length_append, numsP_len, e3], s1.okp, by rw [← e4]; exact hr⟩
    have e5 := (hT (numsP (65536 - left))).2.1
    rw [e1] at e5
    exact Prod.ext rfl (Prod.ext hz e5.symm)
  · right
    refine ⟨by omega, ?_⟩
    rw [← (hT _).1]
    exact e1
end Go.Proofs.YteflbecdeinflaaDoor
