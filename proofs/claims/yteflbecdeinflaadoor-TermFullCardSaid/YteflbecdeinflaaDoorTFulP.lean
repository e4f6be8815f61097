/-
  Plain: a pool that holds numbers alone, nearly full: how many more a tree wants, and whether there is room.
-/
import Derived.Test.YteflbecdeinflaaDoorTCopP
import Derived.Test.YteflbecdeinflaaDoorTKit
namespace Go.Proofs.YteflbecdeinflaaDoor
set_option linter.unusedVariables false

def numNd (i : Int) : Nd := ⟨2, 0, 0, i, emptyS, 0, 0⟩
def numsP (k : Nat) : Pl := (List.range k).map fun (i : Nat) => ((numNd (i : Int), (1 : Int), (1 : Int)) : Md)
def upd (m : Int → Int) (k s : Int) : Int → Int := fun x => if x = k then s else m x
theorem upd_same (m : Int → Int) (k s : Int) : upd m k s k = s := by simp [upd]
theorem upd_other (m : Int → Int) (k s : Int) {x : Int} (h : x ≠ k) : upd m k s x = m x := by simp [upd, h]
theorem numsP_len (k : Nat) : (numsP k).length = k := by simp [numsP]
theorem numsP_succ (k : Nat) : numsP (k + 1) = numsP k ++ [(numNd (k : Int), 1, 1)] := by simp [numsP, List.range_succ]
theorem numsP_err (p : Pl) (i : Int) : errP p (numNd i) = 0 ∧ szN p (numNd i) = 1 ∧ dpN p (numNd i) = 1 := by
  have h1 : szN p (numNd i) = 1 := by unfold szN numNd; simp only; rw [szP_zero]; rfl
  have h2 : dpN p (numNd i) = 1 := by unfold dpN numNd; simp only; rw [dpP_zero]; rfl
  refine ⟨?_, h1, h2⟩
  unfold errP
  have hs : shp (numNd i) = 0 := by
    unfold shp
    rw [if_neg (by simp [plainB, numNd, namedB, twoB, kidsN, emptyS] <;> decide), if_neg (by simp [numNd, namedB, twoB]), if_neg (by simp [numNd, emptyS] <;> decide)]
  rw [if_neg (by rw [hs]; simp), if_neg (by simp [kidsBad, numNd, kidsN]), if_neg (by rw [h1, h2]; omega)]
theorem numsP_mem {k : Nat} {m : Md} : m ∈ numsP k ↔ ∃ i : Nat, i < k ∧ m = (numNd (i : Int), 1, 1) := by
  simp [numsP, eq_comm]
theorem numsP_new (k : Nat) : numP (numsP k) (numNd (k : Int)) = 0 := by
  rw [numP_zero]
  intro m hm
  obtain ⟨i, hi, rfl⟩ := numsP_mem.1 hm
  simp [numNd]
  omega
theorem numsP_add (k : Nat) : addP (numsP k) (numNd (k : Int)) = numsP (k + 1) := by
  obtain ⟨_, h1, h2⟩ := numsP_err (numsP k) (k : Int)
  rw [addP, h1, h2, numsP_succ]
theorem numsP_mk {k : Nat} (h : k < 65536) : mkP (numsP k) (numNd (k : Int)) = ((k : Int) + 1, 0, numsP (k + 1)) := by
  unfold mkP
  rw [if_neg (by rw [(numsP_err _ _).1]; simp), if_neg (by rw [numsP_new]; simp), if_neg (by rw [numsP_len]; omega), numsP_add, numsP_len]
theorem numsP_ok : ∀ k : Nat, k ≤ 65536 → Ok (numsP k)
  | 0, _ => Ok.nil
  | k + 1, h => by
    rw [← numsP_add]
    exact Ok.add (numsP_ok k (by omega)) (numsP_err _ _).1 (numsP_new k) (by rw [numsP_len]; omega)
theorem numsP_at {k i : Nat} (h : i < k) : atP (numsP k) ((i : Int) + 1) = (numNd (i : Int), 1, 1) := by
  have hin : inP (numsP k) ((i : Int) + 1) = true := by unfold inP; rw [numsP_len]; simp; omega
  obtain ⟨j, hj, e1, e2⟩ := atP_get hin
  rw [e2]
  obtain rfl : j = i := by omega
  simp [numsP]

/-- Is a node one of the numbers that are there? -/
def isB (base : Nat) (n : Nd) : Bool := n.kind == 2 && decide (n.num < (base : Int))
def fresh (base : Nat) (q : Pl) : Nat := (q.filter fun m => !isB base m.1).length
theorem fresh_append (base : Nat) (q e : Pl) : fresh base (q ++ e) = fresh base q + fresh base e := by simp [fresh]
theorem fresh_one (base : Nat) (m : Md) : fresh base [m] = if isB base m.1 = true then 0 else 1 := by
  unfold fresh
  cases h : isB base m.1 <;> simp [h]

/-- The nearly full pool p has the numbers below base, and of q's terms those that are none of them; m: q's terms as p's. -/
structure Sim (base : Nat) (q p : Pl) (m : Int → Int) : Prop where
  okq : Ok q
  okp : Ok p
  more : ∃ e, p = numsP base ++ e ∧ e.length = fresh base q
  zero : m 0 = 0
  at_ : ∀ t, inP q t = true → inP p (m t) = true ∧ (atP p (m t)).1 = asN m (atP q t).1 ∧ szP p (m t) = szP q t ∧ dpP p (m t) = dpP q t
  inj : ∀ t s, inP q t = true → inP q s = true → m t = m s → t = s
  onto : ∀ s, inP p s = true → (base : Int) < s → ∃ t, inP q t = true ∧ m t = s
theorem Sim.start {base : Nat} (h : base ≤ 65536) : Sim base [] (numsP base) (fun _ => 0) :=
  ⟨Ok.nil, numsP_ok base h, ⟨[], by simp, by simp [fresh]⟩, rfl, fun t ht => by simp [inP] at ht; omega, fun t s ht => by simp [inP] at ht; omega, fun s hs hb => by unfold inP at hs; rw [numsP_len] at hs; simp at hs; omega⟩
theorem numP_of {p : Pl} (hp : Ok p) {t : Int} (ht : inP p t = true) : (numP p (atP p t).1 : Int) = t := by
  obtain ⟨i, hi, rfl, e⟩ := atP_get ht
  rw [e, hp.first i hi]
  omega
theorem mkP_there {p : Pl} (hp : Ok p) {n : Nd} (he : errP p n = 0) {t : Int} (ht : inP p t = true) (e : (atP p t).1 = n) : mkP p n = (t, 0, p) := by
  have h := numP_of hp ht
  rw [e] at h
  have h1 : 1 ≤ t := by unfold inP at ht; simp at ht; omega
  unfold mkP
  rw [if_neg (by rw [he]; simp), if_pos (by omega), h]
theorem numP_at {p : Pl} {n : Nd} (h : numP p n ≠ 0) : inP p (numP p n : Int) = true ∧ (atP p (numP p n : Int)).1 = n := by
  obtain ⟨i, hi, e1, e2, _⟩ := numP_some h
  have hin : inP p ((numP p n : Nat) : Int) = true := by simp [inP]; omega
  refine ⟨hin, ?_⟩
  obtain ⟨j, hj, e3, e4⟩ := atP_get hin
  rw [e4]
  obtain rfl : j = i := by omega
  exact e2
/-- One node more. -/
theorem Sim.step {base : Nat} {q p : Pl} {m : Int → Int} (h : Sim base q p m) {n : Nd} (he : errP q n = 0) (hnn : 0 ≤ n.num) (hq : q.length < 65536) :
    ∃ m' : Int → Int, (∀ t, t = 0 ∨ inP q t = true → m' t = m t) ∧
      ((∃ p', mkP p (asN m n) = (m' (mkP q n).1, 0, p') ∧ Sim base (mkP q n).2.2 p' m') ∨ ((mkP p (asN m n)).2.1 = 6 ∧ 65536 < base + fresh base (mkP q n).2.2)) := by
  obtain ⟨k1, k2⟩ := kid_in he
  have hk : ∀ k, inP q k = true → inP p (m k) = true ∧ szP p (m k) = szP q k ∧ dpP p (m k) = dpP q k := fun k hk => ⟨(h.at_ k hk).1, (h.at_ k hk).2.2.1, (h.at_ k hk).2.2.2⟩
  obtain ⟨e0, e1, e2⟩ := errP_as (p := p) he h.zero (hk _) (hk _)
  obtain ⟨m1, m2, m3, _⟩ := mkP_good h.okq he hq
  by_cases hn : numP q n ≠ 0
  · -- it is there already
    obtain ⟨a1, a2⟩ := numP_at hn
    have hmk := mkP_there h.okq he a1 a2
    refine ⟨m, fun _ _ => rfl, .inl ⟨p, ?_, by rw [hmk]; exact h⟩⟩
    rw [hmk]
    obtain ⟨b1, b2, _, _⟩ := h.at_ _ a1
    exact mkP_there h.okp e0 b1 (by rw [b2, a2])
  · have hn0 : numP q n = 0 := by omega
    have hmk : mkP q n = ((q.length : Int) + 1, 0, addP q n) := by
      unfold mkP
      rw [if_neg (by rw [he]; simp), if_neg (by omega), if_neg (by omega)]
    have hoq : Ok (addP q n) := Ok.add h.okq he hn0 hq
    have hnin : ∀ t, t = 0 ∨ inP q t = true → t ≠ (q.length : Int) + 1 := fun t ht e => by
      subst e
      rcases ht with ht | ht
      · omega
      · unfold inP at ht; simp at ht; omega
    have hmz : ∀ k, (k = 0 ∨ inP q k = true) → m k = 0 → k = 0 := fun k hk e => by
      rcases hk with hk | hk
      · exact hk
      · have := (h.at_ k hk).1
        rw [e, inP_zero] at this; cases this
    have hmi : ∀ k k', (k = 0 ∨ inP q k = true) → (k' = 0 ∨ inP q k' = true) → m k = m k' → k = k' := fun k k' hk hk' e => by
      by_cases e0 : k = 0
      · subst e0; exact (hmz k' hk' (by rw [← e]; exact h.zero)).symm
      · by_cases e1 : k' = 0
        · subst e1; exact absurd (hmz k hk (by rw [e]; exact h.zero)) e0
        · exact h.inj k k' (hk.resolve_left e0) (hk'.resolve_left e1) e
    have hatq : ∀ t, inP (addP q n) t = true → (inP q t = true ∧ atP (addP q n) t = atP q t) ∨ (t = (q.length : Int) + 1 ∧ (atP (addP q n) t).1 = n) := fun t ht => by
      by_cases h1 : inP q t = true
      · exact .inl ⟨h1, by rw [addP, atP_append h1]⟩
      · have : t = (q.length : Int) + 1 := by unfold inP addP at *; simp at h1 ht; omega
        refine .inr ⟨this, ?_⟩
        subst this
        have := m3
        rw [hmk] at this
        exact this
    have hasm : ∀ (m' : Int → Int), (∀ t, t = 0 ∨ inP q t = true → m' t = m t) → ∀ t, inP q t = true → asN m' (atP q t).1 = asN m (atP q t).1 := fun m' hm' t ht => by
      have hl := kid_less h.okq ht
      unfold asN
      rw [hm' _ (hl.1.imp id (·.1)), hm' _ (hl.2.imp id (·.1))]
    have hasn : ∀ (m' : Int → Int), (∀ t, t = 0 ∨ inP q t = true → m' t = m t) → asN m' n = asN m n := fun m' hm' => by
      unfold asN
      rw [hm' _ k1, hm' _ k2]
    obtain ⟨ee, hpe, hel⟩ := h.more
    have hnew : ∀ t, inP q t = true → (atP q t).1 ≠ n := fun t ht e => by
      have := numP_of h.okq ht
      rw [e, hn0] at this
      unfold inP at ht; simp at ht; omega
    have hsq := hoq.at_sizes (t := (q.length : Int) + 1) (by simp [inP, addP]; omega)
    have hatn : (atP (addP q n) ((q.length : Int) + 1)).1 = n := by have := m3; rw [hmk] at this; exact this
    rw [hatn] at hsq
    have hszq : szN (addP q n) n = szN q n ∧ dpN (addP q n) n = dpN q n := by
      unfold addP szN dpN szP dpP
      rw [at_kid k1, at_kid k2]
      exact ⟨rfl, rfl⟩
    rw [hmk]
    -- the new numbers
    have build : ∀ (p' : Pl) (s : Int), Ok p' → inP p' s = true → (atP p' s).1 = asN m n → (∃ e, p' = p ++ e) → (∃ e, p' = numsP base ++ e ∧ e.length = fresh base (addP q n)) → (∀ t, inP q t = true → m t ≠ s) → (∀ s', inP p' s' = true → (base : Int) < s' → s' = s ∨ inP p s' = true) →
        Sim base (addP q n) p' (upd m ((q.length : Int) + 1) s) := fun p' s hop hs1 hs2 ⟨e, he'⟩ hmore hns hon => by
      have hm' : ∀ t, t = 0 ∨ inP q t = true → upd m ((q.length : Int) + 1) s t = m t := fun t ht => upd_other _ _ _ (hnin t ht)
      refine ⟨hoq, hop, hmore, by rw [hm' 0 (.inl rfl)]; exact h.zero, fun t ht => ?_, fun t s' ht hs' hts => ?_, fun s' hs' hbs => ?_⟩
      · rcases hatq t ht with ⟨h1, h2⟩ | ⟨h1, h2⟩
        · obtain ⟨b1, b2, b3, b4⟩ := h.at_ t h1
          rw [hm' t (.inr h1), h2, hasm _ hm' t h1]
          refine ⟨by rw [he']; exact inP_le b1 (by simp), by rw [he', atP_append b1]; exact b2, ?_, ?_⟩
          · unfold szP at *; rw [he', atP_append b1, h2]; exact b3
          · unfold dpP at *; rw [he', atP_append b1, h2]; exact b4
        · subst h1
          rw [upd_same, h2, hasn _ hm']
          refine ⟨hs1, hs2, ?_, ?_⟩
          · rw [(hop.at_sizes hs1).1, hsq.1, hs2, hszq.1, ← e1, he']
            have kk := kid_in e0
            unfold szN szP
            rw [at_kid kk.1, at_kid kk.2]
          · rw [(hop.at_sizes hs1).2, hsq.2, hs2, hszq.2, ← e2, he']
            have kk := kid_in e0
            unfold dpN dpP
            rw [at_kid kk.1, at_kid kk.2]
      · rcases hatq t ht with ⟨h1, _⟩ | ⟨h1, _⟩
        · rcases hatq s' hs' with ⟨h2, _⟩ | ⟨h2, _⟩
          · rw [hm' t (.inr h1), hm' s' (.inr h2)] at hts
            exact h.inj t s' h1 h2 hts
          · rw [hm' t (.inr h1), h2, upd_same] at hts
            exact absurd hts (hns t h1)
        · rcases hatq s' hs' with ⟨h2, _⟩ | ⟨h2, _⟩
          · rw [hm' s' (.inr h2), h1, upd_same] at hts
            exact absurd hts.symm (hns s' h2)
          · rw [h1, h2]
      · rcases hon s' hs' hbs with e | e
        · exact ⟨(q.length : Int) + 1, by simp [inP, addP]; omega, by rw [upd_same, e]⟩
        · obtain ⟨t, t1, t2⟩ := h.onto s' e hbs
          exact ⟨t, inP_le t1 (by simp [addP]), by rw [hm' t (.inr t1)]; exact t2⟩
    have hmm : ∀ s : Int, ∀ t, t = 0 ∨ inP q t = true → upd m ((q.length : Int) + 1) s t = m t := fun s t ht => upd_other _ _ _ (hnin t ht)
    have hfr : fresh base (addP q n) = fresh base q + (if isB base n = true then 0 else 1) := by rw [addP, fresh_append, fresh_one]
    have hsame : ∀ t, inP q t = true → (atP p (m t)).1 ≠ asN m n := fun t ht e => by
      have hl := kid_less h.okq ht
      rw [(h.at_ t ht).2.1] at e
      apply hnew t ht
      unfold asN at e
      injection e with f1 f2 f3 f4 f5 f6 f7
      exact Nd.eq_of f1 f2 f3 f4 f5 (hmi _ _ (hl.1.imp id (·.1)) k1 f6) (hmi _ _ (hl.2.imp id (·.1)) k2 f7)
    have hkind : isB base n = true → ∃ i : Nat, i < base ∧ asN m n = numNd (i : Int) := fun hB => by
      unfold isB at hB
      simp only [Bool.and_eq_true, beq_iff_eq, decide_eq_true_eq] at hB
      obtain ⟨hk2, hlt⟩ := hB
      obtain ⟨i, hi⟩ := Int.eq_ofNat_of_zero_le hnn
      refine ⟨i, by omega, ?_⟩
      have hs : shp n = 0 := by
        unfold errP at he
        by_cases hs : shp n ≠ 0
        · rw [if_pos hs] at he; exact he
        · simpa using hs
      have hpl : plainB n = true := by
        unfold shp at hs
        by_cases hp : plainB n = false
        · rw [if_pos hp] at hs; cases hs
        · simpa using hp
      obtain ⟨nk, nf, nt, nu, ns, na, nb⟩ := n
      simp only at hk2 hi
      subst hk2 hi
      simp only [plainB, namedB, twoB, kidsN, Bool.and_eq_true, Bool.or_eq_true, beq_iff_eq, decide_eq_true_eq] at hpl
      simp at hpl
      obtain ⟨⟨⟨⟨hf, ht⟩, hx⟩, ha⟩, hb⟩ := hpl
      subst hf ht ha hb
      have hx' : ns = emptyS := toList_inj (by rw [hx]; first | (simp [emptyS]; done) | decide +kernel)
      subst hx'
      unfold asN numNd
      simp only
      rw [h.zero]
    by_cases hnp : numP p (asN m n) ≠ 0
    · obtain ⟨a1, a2⟩ := numP_at hnp
      have hB : isB base n = true := by
        by_cases hsb : (base : Int) < (numP p (asN m n) : Int)
        · obtain ⟨t, t1, t2⟩ := h.onto _ a1 hsb
          exact absurd (by rw [t2]; exact a2) (hsame t t1)
        · obtain ⟨i, hi⟩ : ∃ i, numP p (asN m n) = i + 1 := ⟨numP p (asN m n) - 1, by omega⟩
          have hib : i < base := by omega
          have hin : inP (numsP base) ((i : Int) + 1) = true := by unfold inP; rw [numsP_len]; simp; omega
          have e3 : (atP p ((i : Int) + 1)).1 = numNd (i : Int) := by rw [hpe, atP_append hin, numsP_at hib]
          rw [hi, show (((i + 1 : Nat) : Int)) = (i : Int) + 1 by omega, e3] at a2
          unfold asN numNd at a2
          injection a2 with f1 f2 f3 f4 f5 f6 f7
          unfold isB
          rw [← f1, ← f4]
          simp
          omega
      refine ⟨upd m ((q.length : Int) + 1) (numP p (asN m n) : Int), hmm _, .inl ⟨p, ?_, ?_⟩⟩
      · rw [mkP_there h.okp e0 a1 a2, upd_same]
      · refine build p _ h.okp a1 a2 ⟨[], by simp⟩ ⟨ee, hpe, by rw [hfr, if_pos hB, hel]; rfl⟩ (fun t ht e => ?_) (fun s' hs' _ => .inr hs')
        exact hsame t ht (by rw [e]; exact a2)
    · have hnp0 : numP p (asN m n) = 0 := by omega
      have hB : isB base n = false := by
        cases hb : isB base n with
        | false => rfl
        | true =>
          exfalso
          obtain ⟨i, hi, e⟩ := hkind hb
          rw [numP_zero] at hnp0
          refine hnp0 (numNd (i : Int), 1, 1) ?_ e.symm
          rw [hpe]
          exact List.mem_append_left _ (numsP_mem.2 ⟨i, hi, rfl⟩)
      rw [hB] at hfr
      by_cases hfull : 65536 ≤ p.length
      · refine ⟨m, fun _ _ => rfl, .inr ⟨?_, ?_⟩⟩
        · unfold mkP
          rw [if_neg (by rw [e0]; simp), if_neg (by omega), if_pos hfull]
        · rw [hpe, List.length_append, numsP_len] at hfull
          show 65536 < base + fresh base (addP q n)
          rw [hfr, ← hel]
          simp
          omega
      · have hmkp : mkP p (asN m n) = ((p.length : Int) + 1, 0, addP p (asN m n)) := by
          unfold mkP
          rw [if_neg (by rw [e0]; simp), if_neg (by omega), if_neg hfull]
        have hop : Ok (addP p (asN m n)) := Ok.add h.okp e0 hnp0 (by omega)
        refine ⟨upd m ((q.length : Int) + 1) ((p.length : Int) + 1), hmm _, .inl ⟨addP p (asN m n), ?_, ?_⟩⟩
        · rw [hmkp, upd_same]
        · have hin : inP (addP p (asN m n)) ((p.length : Int) + 1) = true := by simp [inP, addP]; omega
          refine build _ _ hop hin ?_ ⟨_, rfl⟩ ⟨ee ++ [(asN m n, szN p (asN m n), dpN p (asN m n))], by rw [addP, hpe]; simp, by rw [hfr, ← hel]; simp⟩ (fun t ht e => ?_) (fun s' hs' _ => ?_)
          · obtain ⟨_, _, g, _⟩ := mkP_good h.okp e0 (by omega)
            rw [hmkp] at g
            exact g
          · have := (h.at_ t ht).1
            rw [e] at this
            unfold inP at this; simp at this; omega
          · by_cases h1 : inP p s' = true
            · exact .inr h1
            · refine .inl ?_
              unfold inP addP at *; simp at h1 hs'; omega
end Go.Proofs.YteflbecdeinflaaDoor
