/-
  Recipes as plain data: what each operation makes of a pool; what is made is derived.
  Recipes in memory: operations in a row; a list of operations as an argument; knowledge beside a pool that grows.
-/
import Derived.Test.YtjpkeoenajlmeaaDoorEKnowP
import Derived.Test.YtjpkeoenajlmeaaDoorTTree
import Derived.Test.YtjpkeoenajlmeaaDoorTPool
import Derived.Test.YtjpkeoenajlmeaaDoorEAdd
import Derived.Test.YtjpkeoenajlmeaaDoorTArgN
import Derived.Test.YtjpkeoenajlmeaaDoorTOf
import Derived.Test.YtjpkeoenajlmeaaDoorTBeside
namespace Go.Proofs.YtjpkeoenajlmeaaDoor
set_option linter.unusedVariables false

structure OpP where
  code : Int
  a : Int
  b : Int
  num : Int
  text : ByteArray
/-- A number that names a name. -/
def nmP (n : Int) : Int := if n ≤ 16 then n else 16
def upB (m : List Int) (i : Int) : Bool := decide (0 ≤ i) && decide (i < (m.length : Int))
def mdP (m : List Int) (i : Int) : Int := m.getD i.toNat 0
/-- The node of what the operation i made. -/
def ndP (p : Pl) (m : List Int) (i : Int) : Nd := (atP p (mdP m i)).1
def noP (p : Pl) : Int × Int × Pl := (0, 90, p)
/-- What an operation makes: the term, the error, the pool. -/
def doP (p : Pl) (g m : List Int) (o : OpP) : Int × Int × Pl :=
  if o.code = 0 then (if upB g o.a = true then (mdP g o.a, 0, p) else noP p)
  else if o.code = 1 then mkP p ⟨1, o.a, 0, 0, emptyS, 0, 0⟩
  else if o.code = 2 then mkP p ⟨2, 0, 0, o.num, emptyS, 0, 0⟩
  else if o.code = 3 then mkP p ⟨3, 0, 0, 0, o.text, 0, 0⟩
  else if o.code = 4 then (if (upB m o.a && upB m o.b) = true then mkP p ⟨4, 0, 0, 0, emptyS, mdP m o.a, mdP m o.b⟩ else noP p)
  else if o.code = 5 then (if upB m o.a = true then mkP p ⟨5, 0, 0, 0, emptyS, mdP m o.a, 0⟩ else noP p)
  else if o.code = 6 then (if (upB m o.a && (ndP p m o.a).kind == 4) = true then ((ndP p m o.a).a, 0, p) else noP p)
  else if o.code = 7 then (if (upB m o.a && (ndP p m o.a).kind == 4) = true then ((ndP p m o.a).b, 0, p) else noP p)
  else if o.code = 8 then (if (upB m o.a && showB (ndP p m o.a).kind) = true then ((ndP p m o.a).a, 0, p) else noP p)
  else if o.code = 9 then (if (upB m o.a && (upB m o.b && (ndP p m o.b).kind == 6)) = true then mkP p ⟨7, (ndP p m o.b).frm, 0, 0, emptyS, mdP m o.a, 0⟩ else noP p)
  else if o.code = 10 then (if (upB m o.a && (upB m o.b && (ndP p m o.b).kind == 6)) = true then mkP p ⟨8, (ndP p m o.b).frm, nmP o.num, 0, emptyS, mdP m o.a, 0⟩ else noP p)
  else if o.code = 11 then (if (upB m o.a && (upB m o.b && (ndP p m o.b).kind == 6)) = true then mkP p ⟨9, nmP o.num, (ndP p m o.b).frm, 0, emptyS, mdP m o.a, 0⟩ else noP p)
  else noP p
/-- What operations make, up to the first that cannot be done, and why that cannot. -/
def runP (p : Pl) (g m : List Int) : List OpP → List Int × Int × Pl
  | [] => (m, 0, p)
  | o :: l => if (doP p g m o).2.1 ≠ 0 then (m, (doP p g m o).2.1, (doP p g m o).2.2) else runP (doP p g m o).2.2 g (m ++ [(doP p g m o).1]) l
/-- What follow answers of a pool and knowledge that are there. -/
def folP (p : Pl) (g : List Int) (l : List OpP) : List Int × Int × Pl :=
  if 256 < l.length then ([], 6, p) else if l.length = 0 then ([], 3, p) else runP p g [] l
/-- What Eval answers. -/
def evlP (r : List Int × Int × Pl) : Int × Int × Int := if r.2.1 ≠ 0 then (0, r.2.1, (r.1.length : Int)) else (r.1.getD (r.1.length - 1) 0, 0, 0)

theorem mkP_ext (p : Pl) (n : Nd) : ∃ e, (mkP p n).2.2 = p ++ e := by
  unfold mkP
  split
  · exact ⟨[], by simp⟩
  · split
    · exact ⟨[], by simp⟩
    · split
      · exact ⟨[], by simp⟩
      · exact ⟨[(n, szN p n, dpN p n)], rfl⟩
theorem mkP_made {p : Pl} (hp : Ok p) {n : Nd} (h : (mkP p n).2.1 = 0) : errP p n = 0 ∧ inP (mkP p n).2.2 (mkP p n).1 = true ∧ (atP (mkP p n).2.2 (mkP p n).1).1 = n := by
  by_cases he : errP p n = 0
  · by_cases hl : p.length < 65536
    · obtain ⟨_, h2, h3, _⟩ := mkP_good hp he hl
      exact ⟨he, h2, h3⟩
    · by_cases hn : numP p n = 0
      · unfold mkP at h
        rw [if_neg (fun h => h he), if_neg (fun h => h hn), if_pos (by omega)] at h
        cases h
      · obtain ⟨i, hi, e1, e2, _⟩ := numP_some hn
        have e : mkP p n = ((numP p n : Int), 0, p) := by
          unfold mkP
          rw [if_neg (fun h => h he), if_pos hn]
        rw [e, e1]
        refine ⟨he, ?_, ?_⟩
        · simp [inP]; omega
        · rw [show ((i + 1 : Nat) : Int) = (i : Int) + 1 by omega, getD_at hi]; exact e2
  · unfold mkP at h
    rw [if_pos he] at h
    exact absurd h he
theorem numP_app {p e : Pl} {n : Nd} (h : numP p n ≠ 0) : numP (p ++ e) n = numP p n := by
  unfold numP at h ⊢
  rw [List.findIdx?_append]
  cases hf : p.findIdx? (fun m => m.1 = n) with
  | some i => simp
  | none => rw [hf] at h; simp at h
theorem at_in {p : Pl} {t : Int} (h : (atP p t).1.kind ≠ 0) : inP p t = true := by
  cases e : inP p t with
  | true => rfl
  | false => rw [atP_out e] at h; exact absurd rfl h
theorem part_kind {p : Pl} {n : Nd} (h : (partP p n).2.2 = true) : n.kind ≠ 0 := by
  intro e
  unfold partP showB at h
  simp [e] at h
theorem part_ext {p e : Pl} {n : Nd} (h : (partP p n).2.2 = true) : partP (p ++ e) n = partP p n := by
  unfold partP keyP at h ⊢
  split
  · rfl
  · split
    · rfl
    · split
      · rename_i h1 h2 h3
        rw [if_neg h1, if_neg h2, if_pos h3] at h
        simp only [decide_eq_true_eq] at h
        rw [numP_app h]
      · rfl
theorem reach_ext {p : Pl} (hp : Ok p) {g : List Int} (hg : ∀ x ∈ g, inP p x = true) (e : Pl) {t : Int} : Reach (p ++ e) g t ↔ Reach p g t := by
  constructor
  · intro h
    induction h with
    | given h => exact .given h
    | @step t r _ h2 ih =>
      rw [atP_append (Reach.inp hp hg ih)] at h2 ⊢
      exact .step r ih h2
  · intro h
    induction h with
    | given h => exact .given h
    | @step t r h1 h2 ih =>
      have e := atP_append (q := e) (Reach.inp hp hg h1)
      rw [← e] at h2 ⊢
      exact .step r ih h2
theorem SeenOk.ext {p : Pl} (hp : Ok p) {g : List Int} {s : Int → Option Way} (h : SeenOk p g s) (e : Pl) : SeenOk (p ++ e) g s :=
  ⟨h.nodup, fun t ht => inP_le (h.ing t ht) (by simp), fun t => by rw [h.reach t, reach_ext hp h.ing e], h.given, fun t r y h1 h2 => by
    obtain ⟨a1, a2, a3, a4⟩ := h.ways t r y h1 h2
    exact ⟨a1, (reach_ext hp h.ing e).2 a2, by rw [atP_append (Reach.inp hp h.ing a2)]; exact a3, a4⟩, h.zero⟩
theorem der_in {p : Pl} {S : Int → Prop} (hS : ∀ t, S t → inP p t = true) {t : Int} (h : Der p S t) : inP p t = true := by
  cases h with
  | seen h => exact hS t h
  | free h => exact at_in (fun e => by rw [e] at h; exact absurd h (by decide))
  | one h _ _ => exact at_in (part_kind h)
  | two h _ _ _ => exact at_in (part_kind h)
theorem der_ext {p e : Pl} {S S' : Int → Prop} (hS : ∀ t, S t → inP p t = true ∧ S' t) {t : Int} (h : Der p S t) : Der (p ++ e) S' t := by
  induction h with
  | seen h => exact .seen (hS _ h).2
  | @free t h =>
    have hin := at_in (p := p) (t := t) (fun e => by rw [e] at h; exact absurd h (by decide))
    exact .free (by rw [atP_append hin]; exact h)
  | @one t h h0 _ ih =>
    have hin := at_in (part_kind h)
    have e1 := part_ext (e := e) h
    rw [← atP_append (q := e) hin] at e1 h h0 ih
    rw [← e1] at h h0 ih
    exact .one h h0 ih
  | @two t h h0 _ _ ih1 ih2 =>
    have hin := at_in (part_kind h)
    have e1 := part_ext (e := e) h
    rw [← atP_append (q := e) hin] at e1 h h0 ih1 ih2
    rw [← e1] at h h0 ih1 ih2
    exact .two h h0 ih1 ih2
theorem kidA {p : Pl} (hp : Ok p) {t : Int} (ht : inP p t = true) (hk : 1 ≤ kidsN (atP p t).1.kind) : inP p (atP p t).1.a = true := by
  have he : errP p (atP p t).1 = 0 := hp.mem _ (by
    unfold atP; rw [if_pos ht]
    simp only [inP, Bool.and_eq_true, decide_eq_true_eq] at ht
    rw [List.getD_eq_getElem?_getD, List.getElem?_eq_getElem (by omega)]
    exact List.getElem_mem _)
  unfold errP at he
  split at he
  · rename_i h1; exact absurd he h1
  · split at he
    · cases he
    · rename_i h2
      have h2' : kidsBad p (atP p t).1 = false := by simpa using h2
      simp only [kidsBad, Bool.or_eq_false_iff, Bool.and_eq_false_iff, decide_eq_false_iff_not, Bool.not_eq_false'] at h2'
      rcases h2'.1 with h | h
      · exact absurd hk h
      · exact h
theorem kidB {p : Pl} (hp : Ok p) {t : Int} (ht : inP p t = true) (hk : kidsN (atP p t).1.kind = 2) : inP p (atP p t).1.b = true := by
  have he : errP p (atP p t).1 = 0 := hp.mem _ (by
    unfold atP; rw [if_pos ht]
    simp only [inP, Bool.and_eq_true, decide_eq_true_eq] at ht
    rw [List.getD_eq_getElem?_getD, List.getElem?_eq_getElem (by omega)]
    exact List.getElem_mem _)
  unfold errP at he
  split at he
  · rename_i h1; exact absurd he h1
  · split at he
    · cases he
    · rename_i h2
      have h2' : kidsBad p (atP p t).1 = false := by simpa using h2
      simp only [kidsBad, Bool.or_eq_false_iff, Bool.and_eq_false_iff, decide_eq_false_iff_not, Bool.not_eq_false', beq_eq_false_iff_ne] at h2'
      rcases h2'.2 with h | h
      · exact absurd hk h
      · exact h
theorem in_ne {p : Pl} {t : Int} (h : inP p t = true) : t ≠ 0 := by
  intro e; rw [e, inP_zero] at h; cases h
/-- What stands in a pair that is derived is derived. -/
theorem der_pair {p : Pl} (hp : Ok p) {g : List Int} (hg : ∀ x ∈ g, inP p x = true) {t : Int} (h : Der p (Reach p g) t) (hk : (atP p t).1.kind = 4) : Der p (Reach p g) (atP p t).1.a ∧ Der p (Reach p g) (atP p t).1.b := by
  have hin := der_in (fun _ h => Reach.inp hp hg h) h
  have ha := in_ne (kidA hp hin (by rw [hk]; decide))
  have hb := in_ne (kidB hp hin (by rw [hk]; decide))
  have ep : partP p (atP p t).1 = ((atP p t).1.a, (atP p t).1.b, true) := by unfold partP; rw [if_pos hk]
  cases h with
  | seen h =>
    have e1 : takeN 1 (atP p t).1 = (atP p t).1.a := by unfold takeN; rw [if_pos hk]; rfl
    have e2 : takeN 2 (atP p t).1 = (atP p t).1.b := by unfold takeN; rw [if_pos hk]; rfl
    have s1 := Reach.step 1 h (by rw [e1]; exact ha)
    have s2 := Reach.step 2 h (by rw [e2]; exact hb)
    rw [e1] at s1
    rw [e2] at s2
    exact ⟨.seen s1, .seen s2⟩
  | free h => rw [hk] at h; exact absurd h (by decide)
  | one _ h0 _ => rw [ep] at h0; exact absurd h0 hb
  | two _ _ h1 h2 => rw [ep] at h1 h2; exact ⟨h1, h2⟩
/-- What is signed, promised or faked and derived can be shown. -/
theorem der_show {p : Pl} (hp : Ok p) {g : List Int} (hg : ∀ x ∈ g, inP p x = true) {t : Int} (h : Der p (Reach p g) t) (hk : showB (atP p t).1.kind = true) : Der p (Reach p g) (atP p t).1.a := by
  have hin := der_in (fun _ h => Reach.inp hp hg h) h
  have hk' : (atP p t).1.kind = 7 ∨ (atP p t).1.kind = 8 ∨ (atP p t).1.kind = 9 := by
    simp only [showB, Bool.or_eq_true, beq_iff_eq] at hk; omega
  have ha := in_ne (kidA hp hin (by rcases hk' with e | e | e <;> rw [e] <;> decide))
  have h4 : (atP p t).1.kind ≠ 4 := by omega
  have h5 : (atP p t).1.kind ≠ 5 := by omega
  have ep : (partP p (atP p t).1).1 = (atP p t).1.a := by unfold partP; rw [if_neg h4, if_neg h5, if_pos hk]
  cases h with
  | seen h =>
    have e1 : takeN 3 (atP p t).1 = (atP p t).1.a := by unfold takeN; rw [if_neg h4, if_pos hk]; rfl
    have s1 := Reach.step 3 h (by rw [e1]; exact ha)
    rw [e1] at s1
    exact .seen s1
  | free h => rcases hk' with e | e | e <;> rw [e] at h <;> exact absurd h (by decide)
  | one _ _ h1 => rw [ep] at h1; exact h1
  | two _ _ h1 _ => rw [ep] at h1; exact h1
/-- A key's node has its name alone. -/
theorem key_node {p : Pl} (hp : Ok p) {t : Int} (ht : inP p t = true) (hk : (atP p t).1.kind = 6) : (atP p t).1 = keyNd (atP p t).1.frm ∧ (numP p (keyNd (atP p t).1.frm) : Int) = t := by
  simp only [inP, Bool.and_eq_true, decide_eq_true_eq] at ht
  obtain ⟨i, rfl⟩ : ∃ i : Nat, t = (i : Int) + 1 := ⟨(t - 1).toNat, by omega⟩
  have hi : i < p.length := by omega
  rw [getD_at hi] at hk ⊢
  have he := hp.mem _ (List.getElem_mem hi)
  have hs : shp (p[i]).1 = 0 := by
    unfold errP at he
    split at he
    · rename_i h1; exact absurd he h1
    · rename_i h1; simpa using h1
  have e : (p[i]).1 = keyNd (p[i]).1.frm := by
    unfold shp at hs
    by_cases hpl : plainB (p[i]).1 = false
    · rw [if_pos hpl] at hs; cases hs
    · have hp' : plainB (p[i]).1 = true := by simpa using hpl
      simp only [plainB, hk, Bool.and_eq_true, Bool.or_eq_true, decide_eq_true_eq, beq_iff_eq] at hp'
      have q1 : (p[i]).1.to = 0 := by rcases hp'.1.1.1.1.2 with h | h; exact absurd h (by decide); exact h
      have q2 : (p[i]).1.num = 0 := by rcases hp'.1.1.1.2 with h | h; exact absurd h (by decide); exact h
      have q3 : (p[i]).1.text = emptyS := by
        rcases hp'.1.1.2 with h | h
        · exact absurd h (by decide)
        · exact toList_inj (by rw [List.isEmpty_iff.1 h, ByteArray.toList_eq]; rfl)
      have q4 : (p[i]).1.a = 0 := by rcases hp'.1.2 with h | h; exact absurd h (by decide); exact h
      have q5 : (p[i]).1.b = 0 := by rcases hp'.2 with h | h; exact absurd h (by decide); exact h
      exact Nd.eq_of hk rfl q1 q2 q3 q4 q5
  refine ⟨e, ?_⟩
  rw [← e, hp.first i hi]; omega
/-- Who has the key makes a signature, a promise, a fake. -/
theorem der_made {p : Pl} (hp : Ok p) {g : List Int} (hg : ∀ x ∈ g, inP p x = true) {n : Nd} {x : Int} (hk : showB n.kind = true) (hx : Der p (Reach p g) x) (hxk : (atP p x).1.kind = 6) (hh : holdN n = (atP p x).1.frm) (ha : Der p (Reach p g) n.a) (h : (mkP p n).2.1 = 0) : Der (mkP p n).2.2 (Reach (mkP p n).2.2 g) (mkP p n).1 := by
  obtain ⟨_, h2, h3⟩ := mkP_made hp h
  obtain ⟨e, he⟩ := mkP_ext p n
  have hS : ∀ t, Reach p g t → inP p t = true ∧ Reach (p ++ e) g t := fun t h => ⟨Reach.inp hp hg h, (reach_ext hp hg e).2 h⟩
  have hxi := der_in (fun t h => (hS t h).1) hx
  have hkn := (key_node hp hxi hxk).2
  have hx0 := in_ne hxi
  have h4 : n.kind ≠ 4 := fun e => by rw [e] at hk; exact absurd hk (by decide)
  have h5 : n.kind ≠ 5 := fun e => by rw [e] at hk; exact absurd hk (by decide)
  have hkp : (keyP p n : Int) = x := by unfold keyP; rw [hh]; exact hkn
  have hk0 : keyP p n ≠ 0 := by omega
  have ep : partP p n = (n.a, x, true) := by
    unfold partP
    rw [if_neg h4, if_neg h5, if_pos hk, hkp]
    simp [hk0]
  have ep' : partP (p ++ e) n = (n.a, x, true) := by rw [part_ext (by rw [ep])]; exact ep
  rw [he] at h2 h3 ⊢
  have ep'' : partP (p ++ e) (atP (p ++ e) (mkP p n).1).1 = (n.a, x, true) := by rw [h3]; exact ep'
  refine .two (by rw [ep'']) (by rw [ep'']; exact hx0) ?_ ?_
  · rw [ep'']; exact der_ext hS ha
  · rw [ep'']; exact der_ext hS hx
theorem doP_out (p : Pl) (g m : List Int) (o : OpP) : (∃ e, (doP p g m o).2.2 = p ++ e) ∧ (Ok p → Ok (doP p g m o).2.2) := by
  have h0 : ∀ x y : Int, (fun r : Int × Int × Pl => (∃ e, r.2.2 = p ++ e) ∧ (Ok p → Ok r.2.2)) (x, y, p) := fun x y => ⟨⟨[], by simp⟩, id⟩
  have h1 : ∀ n, (fun r : Int × Int × Pl => (∃ e, r.2.2 = p ++ e) ∧ (Ok p → Ok r.2.2)) (mkP p n) := fun n => ⟨mkP_ext p n, fun h => mkP_ok h n⟩
  have hi : ∀ (c : Prop) [Decidable c] (x y : Int × Int × Pl), (fun r : Int × Int × Pl => (∃ e, r.2.2 = p ++ e) ∧ (Ok p → Ok r.2.2)) x → (fun r : Int × Int × Pl => (∃ e, r.2.2 = p ++ e) ∧ (Ok p → Ok r.2.2)) y → (fun r : Int × Int × Pl => (∃ e, r.2.2 = p ++ e) ∧ (Ok p → Ok r.2.2)) (if c then x else y) := fun c _ x y hx hy => by
    by_cases e : c
    · rw [if_pos e]; exact hx
    · rw [if_neg e]; exact hy
  show (fun r : Int × Int × Pl => (∃ e, r.2.2 = p ++ e) ∧ (Ok p → Ok r.2.2)) (doP p g m o)
  generalize (fun r : Int × Int × Pl => (∃ e, r.2.2 = p ++ e) ∧ (Ok p → Ok r.2.2)) = G at *
  unfold doP noP
  repeat' (first | exact h0 _ _ | exact h1 _ | refine hi _ _ _ ?_ ?_)
theorem md_in {m : List Int} {i : Int} (h : upB m i = true) : mdP m i ∈ m := by
  simp only [upB, Bool.and_eq_true, decide_eq_true_eq] at h
  unfold mdP
  rw [List.getD_eq_getElem?_getD, List.getElem?_eq_getElem (by omega)]
  exact List.getElem_mem _
set_option maxHeartbeats 1600000 in
theorem do_sound {p : Pl} (hp : Ok p) {g m : List Int} (hg : ∀ x ∈ g, inP p x = true) (hm : ∀ x ∈ m, Der p (Reach p g) x) {o : OpP} (h : (doP p g m o).2.1 = 0) : Der (doP p g m o).2.2 (Reach (doP p g m o).2.2 g) (doP p g m o).1 := by
  have hno : ∀ {P : Prop}, (noP p).2.1 = 0 → P := fun h => by cases h
  have free : ∀ {n : Nd}, freeB n.kind = true → (mkP p n).2.1 = 0 → Der (mkP p n).2.2 (Reach (mkP p n).2.2 g) (mkP p n).1 := fun hf h => by
    obtain ⟨_, _, h3⟩ := mkP_made hp h
    exact .free (by rw [h3]; exact hf)
  unfold doP at h ⊢
  by_cases e : o.code = 0
  · rw [if_pos e] at h ⊢
    by_cases h1 : upB g o.a = true
    · rw [if_pos h1] at h ⊢; exact .seen (.given (md_in h1))
    · rw [if_neg h1] at h ⊢; exact hno h
  rw [if_neg e] at h ⊢
  clear e
  by_cases e : o.code = 1
  · rw [if_pos e] at h ⊢; exact free (n := ⟨1, o.a, 0, 0, emptyS, 0, 0⟩) rfl h
  rw [if_neg e] at h ⊢
  clear e
  by_cases e : o.code = 2
  · rw [if_pos e] at h ⊢; exact free (n := ⟨2, 0, 0, o.num, emptyS, 0, 0⟩) rfl h
  rw [if_neg e] at h ⊢
  clear e
  by_cases e : o.code = 3
  · rw [if_pos e] at h ⊢; exact free (n := ⟨3, 0, 0, 0, o.text, 0, 0⟩) rfl h
  rw [if_neg e] at h ⊢
  clear e
  by_cases e : o.code = 4
  · rw [if_pos e] at h ⊢
    by_cases h1 : (upB m o.a && upB m o.b) = true
    · rw [if_pos h1] at h ⊢
      simp only [Bool.and_eq_true] at h1
      have hA := hm _ (md_in h1.1)
      have hB := hm _ (md_in h1.2)
      obtain ⟨_, h2, h3⟩ := mkP_made hp h
      obtain ⟨e, he⟩ := mkP_ext p ⟨4, 0, 0, 0, emptyS, mdP m o.a, mdP m o.b⟩
      have hS : ∀ t, Reach p g t → inP p t = true ∧ Reach (p ++ e) g t := fun t h => ⟨Reach.inp hp hg h, (reach_ext hp hg e).2 h⟩
      have hb0 := in_ne (der_in (fun t h => (hS t h).1) hB)
      rw [he] at h2 h3 ⊢
      have ep : partP (p ++ e) (atP (p ++ e) (mkP p ⟨4, 0, 0, 0, emptyS, mdP m o.a, mdP m o.b⟩).1).1 = (mdP m o.a, mdP m o.b, true) := by rw [h3]; rfl
      exact .two (by rw [ep]) (by rw [ep]; exact hb0) (by rw [ep]; exact der_ext hS hA) (by rw [ep]; exact der_ext hS hB)
    · rw [if_neg h1] at h ⊢; exact hno h
  rw [if_neg e] at h ⊢
  clear e
  by_cases e : o.code = 5
  · rw [if_pos e] at h ⊢
    by_cases h1 : upB m o.a = true
    · rw [if_pos h1] at h ⊢
      have hA := hm _ (md_in h1)
      obtain ⟨_, h2, h3⟩ := mkP_made hp h
      obtain ⟨e, he⟩ := mkP_ext p ⟨5, 0, 0, 0, emptyS, mdP m o.a, 0⟩
      have hS : ∀ t, Reach p g t → inP p t = true ∧ Reach (p ++ e) g t := fun t h => ⟨Reach.inp hp hg h, (reach_ext hp hg e).2 h⟩
      rw [he] at h2 h3 ⊢
      have ep : partP (p ++ e) (atP (p ++ e) (mkP p ⟨5, 0, 0, 0, emptyS, mdP m o.a, 0⟩).1).1 = (mdP m o.a, 0, true) := by rw [h3]; rfl
      exact .one (by rw [ep]) (by rw [ep]) (by rw [ep]; exact der_ext hS hA)
    · rw [if_neg h1] at h ⊢; exact hno h
  rw [if_neg e] at h ⊢
  clear e
  by_cases e : o.code = 6
  · rw [if_pos e] at h ⊢
    by_cases h1 : (upB m o.a && (ndP p m o.a).kind == 4) = true
    · rw [if_pos h1] at h ⊢
      simp only [Bool.and_eq_true, beq_iff_eq] at h1
      exact (der_pair hp hg (hm _ (md_in h1.1)) h1.2).1
    · rw [if_neg h1] at h ⊢; exact hno h
  rw [if_neg e] at h ⊢
  clear e
  by_cases e : o.code = 7
  · rw [if_pos e] at h ⊢
    by_cases h1 : (upB m o.a && (ndP p m o.a).kind == 4) = true
    · rw [if_pos h1] at h ⊢
      simp only [Bool.and_eq_true, beq_iff_eq] at h1
      exact (der_pair hp hg (hm _ (md_in h1.1)) h1.2).2
    · rw [if_neg h1] at h ⊢; exact hno h
  rw [if_neg e] at h ⊢
  clear e
  by_cases e : o.code = 8
  · rw [if_pos e] at h ⊢
    by_cases h1 : (upB m o.a && showB (ndP p m o.a).kind) = true
    · rw [if_pos h1] at h ⊢
      simp only [Bool.and_eq_true] at h1
      exact der_show hp hg (hm _ (md_in h1.1)) h1.2
    · rw [if_neg h1] at h ⊢; exact hno h
  rw [if_neg e] at h ⊢
  clear e
  by_cases e : o.code = 9
  · rw [if_pos e] at h ⊢
    by_cases h1 : (upB m o.a && (upB m o.b && (ndP p m o.b).kind == 6)) = true
    · rw [if_pos h1] at h ⊢
      simp only [Bool.and_eq_true, beq_iff_eq] at h1
      exact der_made hp hg rfl (hm _ (md_in h1.2.1)) h1.2.2 rfl (hm _ (md_in h1.1)) h
    · rw [if_neg h1] at h ⊢; exact hno h
  rw [if_neg e] at h ⊢
  clear e
  by_cases e : o.code = 10
  · rw [if_pos e] at h ⊢
    by_cases h1 : (upB m o.a && (upB m o.b && (ndP p m o.b).kind == 6)) = true
    · rw [if_pos h1] at h ⊢
      simp only [Bool.and_eq_true, beq_iff_eq] at h1
      exact der_made hp hg rfl (hm _ (md_in h1.2.1)) h1.2.2 rfl (hm _ (md_in h1.1)) h
    · rw [if_neg h1] at h ⊢; exact hno h
  rw [if_neg e] at h ⊢
  clear e
  by_cases e : o.code = 11
  · rw [if_pos e] at h ⊢
    by_cases h1 : (upB m o.a && (upB m o.b && (ndP p m o.b).kind == 6)) = true
    · rw [if_pos h1] at h ⊢
      simp only [Bool.and_eq_true, beq_iff_eq] at h1
      exact der_made hp hg rfl (hm _ (md_in h1.2.1)) h1.2.2 rfl (hm _ (md_in h1.1)) h
    · rw [if_neg h1] at h ⊢; exact hno h
  rw [if_neg e] at h ⊢
  clear e
  exact hno h
/-- Whatever is made is derived. -/
theorem run_sound {g : List Int} : ∀ (l : List OpP) {p : Pl} {m : List Int}, Ok p → (∀ x ∈ g, inP p x = true) → (∀ x ∈ m, Der p (Reach p g) x) →
    Ok (runP p g m l).2.2 ∧ (∃ e, (runP p g m l).2.2 = p ++ e) ∧ ∀ x ∈ (runP p g m l).1, Der (runP p g m l).2.2 (Reach (runP p g m l).2.2 g) x
  | [], p, m, hp, hg, hm => ⟨hp, ⟨[], by simp [runP]⟩, hm⟩
  | o :: l, p, m, hp, hg, hm => by
    obtain ⟨⟨e, he⟩, ho⟩ := doP_out p g m o
    have hS : ∀ t, Reach p g t → inP p t = true ∧ Reach (p ++ e) g t := fun t h => ⟨Reach.inp hp hg h, (reach_ext hp hg e).2 h⟩
    have hm' : ∀ x ∈ m, Der (doP p g m o).2.2 (Reach (doP p g m o).2.2 g) x := fun x hx => by rw [he]; exact der_ext hS (hm x hx)
    unfold runP
    split
    · exact ⟨ho hp, ⟨e, he⟩, hm'⟩
    · rename_i h
      obtain ⟨a1, ⟨e2, a2⟩, a3⟩ := run_sound l (ho hp) (fun x hx => by rw [he]; exact inP_le (hg x hx) (by simp)) (m := m ++ [(doP p g m o).1]) (fun x hx => by
        rcases List.mem_append.1 hx with hx | hx
        · exact hm' x hx
        · rw [List.mem_singleton.1 hx]; exact do_sound hp hg hm (by simpa using h))
      exact ⟨a1, ⟨e ++ e2, by rw [a2, he, List.append_assoc]⟩, a3⟩
theorem fol_sound {g : List Int} (l : List OpP) {p : Pl} (hp : Ok p) (hg : ∀ x ∈ g, inP p x = true) : Ok (folP p g l).2.2 ∧ (∃ e, (folP p g l).2.2 = p ++ e) ∧ ∀ x ∈ (folP p g l).1, Der (folP p g l).2.2 (Reach (folP p g l).2.2 g) x := by
  unfold folP
  split
  · exact ⟨hp, ⟨[], by simp⟩, fun x hx => by simp at hx⟩
  · split
    · exact ⟨hp, ⟨[], by simp⟩, fun x hx => by simp at hx⟩
    · exact run_sound l hp hg (fun x hx => by simp at hx)
theorem run_long {g : List Int} : ∀ (l : List OpP) (p : Pl) (m : List Int), (runP p g m l).1.length ≤ m.length + l.length ∧ ((runP p g m l).2.1 = 0 → (runP p g m l).1.length = m.length + l.length)
  | [], p, m => by simp [runP]
  | o :: l, p, m => by
    unfold runP
    split
    · rename_i h; exact ⟨by simp, fun h' => absurd h' h⟩
    · have := run_long (g := g) l (doP p g m o).2.2 (m ++ [(doP p g m o).1])
      simp only [List.length_append, List.length_cons, List.length_nil] at this ⊢
      exact ⟨by omega, fun h => by have := this.2 h; omega⟩
end Go.Proofs.YtjpkeoenajlmeaaDoor
namespace Go.Proofs.YtjpkeoenajlmeaaDoor
open Go.ChangeShapes Go.WideShapes Go.ChangeAt Go.RowKit Go.Maps
set_option linter.unusedVariables false

/-- A list of operations as cells. -/
def opC (z : OpP) : List Value := [.int .i64 z.code, .int .i64 z.a, .int .i64 z.b, .int .u64 z.num, .string z.text]
def opA (z : OpP) : Array Value := #[.int .i64 z.code, .int .i64 z.a, .int .i64 z.b, .int .u64 z.num, .string z.text]
def opsV (l : List OpP) : List Value := l.flatMap opC
theorem opsV_length (l : List OpP) : (opsV l).length = l.length * 5 := by
  induction l with
  | nil => rfl
  | cons a l ih => simp [opsV, opC, List.flatMap_cons] at ih ⊢; omega
theorem opsV_append (a b : List OpP) : opsV (a ++ b) = opsV a ++ opsV b := by simp [opsV]
theorem opsV_at (l : List OpP) : ∀ (i : Nat) (h : i < l.length), (opsV l)[i * 5]? = some (.int .i64 (l[i]).code) ∧ (opsV l)[i * 5 + 1]? = some (.int .i64 (l[i]).a) ∧ (opsV l)[i * 5 + 2]? = some (.int .i64 (l[i]).b) ∧ (opsV l)[i * 5 + 3]? = some (.int .u64 (l[i]).num) ∧ (opsV l)[i * 5 + 4]? = some (.string (l[i]).text) := by
  induction l with
  | nil => intro i h; simp at h
  | cons a l ih =>
    intro i h
    have e : opsV (a :: l) = .int .i64 a.code :: .int .i64 a.a :: .int .i64 a.b :: .int .u64 a.num :: .string a.text :: opsV l := by simp [opsV, opC]
    cases i with
    | zero => simp [e]
    | succ i =>
      have := ih i (by simpa using h)
      have hx : ∀ j, (opsV (a :: l))[(i + 1) * 5 + j]? = (opsV l)[i * 5 + j]? := fun j => by
        rw [e, show (i + 1) * 5 + j = i * 5 + j + 1 + 1 + 1 + 1 + 1 by omega]
        simp
      have h0 := hx 0
      simp only [Nat.add_zero] at h0
      rw [h0, hx 1, hx 2, hx 3, hx 4]
      simpa using this
/-- What may stand in an operation. -/
structure OpOk (z : OpP) : Prop where
  code : i64R z.code
  a : i64R z.a
  b : i64R z.b
  num : 0 ≤ z.num ∧ z.num ≤ 18446744073709551615
  text : z.text.size ≤ maxLen
theorem cellsOp : Tryd.prog.cellsOf 92 = 5 := by kernel_rfl
section
variable {H : Type} {enc : TypeId × Value → H} {W : World} {base : Nat}
set_option maxRecDepth 100000 in
theorem trod_op {u0 u1 u2 u3 u4 : Value} {fuel : Nat} {sp : Nat → Bool} {x : DataW H × List MemPlace} (ht : DataW.trod enc Tryd.prog W 0 sp true fuel 92 [u0, u1, u2, u3, u4] = some x) :
    ∃ z : OpP, OpOk z ∧ u0 = .int .i64 z.code ∧ u1 = .int .i64 z.a ∧ u2 = .int .i64 z.b ∧ u3 = .int .u64 z.num ∧ u4 = .string z.text := by
  obtain ⟨ys, k, _, _, _, hyl, hfld⟩ := DataW.trod_struct Tryd.underlying92 ht
  have hi1 : Tryd.prog.cellsOf 3 = 1 := by kernel_rfl
  have hi2 : Tryd.prog.cellsOf 25 = 1 := by kernel_rfl
  have f0 : DataW.trod enc Tryd.prog W 0 sp true k 3 (([u0, u1, u2, u3, u4].drop 0).take (Tryd.prog.cellsOf 3)) = ys[0]? := hfld 0 _ rfl
  have f1 : DataW.trod enc Tryd.prog W 0 sp true k 3 (([u0, u1, u2, u3, u4].drop 1).take (Tryd.prog.cellsOf 3)) = ys[1]? := hfld 1 _ rfl
  have f2 : DataW.trod enc Tryd.prog W 0 sp true k 3 (([u0, u1, u2, u3, u4].drop 2).take (Tryd.prog.cellsOf 3)) = ys[2]? := hfld 2 _ rfl
  have f3 : DataW.trod enc Tryd.prog W 0 sp true k 25 (([u0, u1, u2, u3, u4].drop 3).take (Tryd.prog.cellsOf 25)) = ys[3]? := hfld 3 _ rfl
  have f4 : DataW.trod enc Tryd.prog W 0 sp true k 9 (([u0, u1, u2, u3, u4].drop 4).take (Tryd.prog.cellsOf 9)) = ys[4]? := hfld 4 _ rfl
  rw [hi1] at f0 f1 f2
  rw [hi2] at f3
  rw [cellsS] at f4
  simp only [List.drop_zero, List.drop_succ_cons, List.take_succ_cons, List.take_zero] at f0 f1 f2 f3 f4
  have y0 : ys[0]? = some (ys[0]'(by rw [hyl]; decide)) := List.getElem?_eq_getElem (by rw [hyl]; decide)
  rw [y0] at f0
  have y1 : ys[1]? = some (ys[1]'(by rw [hyl]; decide)) := List.getElem?_eq_getElem (by rw [hyl]; decide)
  rw [y1] at f1
  have y2 : ys[2]? = some (ys[2]'(by rw [hyl]; decide)) := List.getElem?_eq_getElem (by rw [hyl]; decide)
  rw [y2] at f2
  have y3 : ys[3]? = some (ys[3]'(by rw [hyl]; decide)) := List.getElem?_eq_getElem (by rw [hyl]; decide)
  rw [y3] at f3
  have y4 : ys[4]? = some (ys[4]'(by rw [hyl]; decide)) := List.getElem?_eq_getElem (by rw [hyl]; decide)
  rw [y4] at f4
  obtain ⟨n0, e0, _, w0⟩ := DataW.trod_int Tryd.underlying3 f0
  obtain ⟨n1, e1, _, w1⟩ := DataW.trod_int Tryd.underlying3 f1
  obtain ⟨n2, e2, _, w2⟩ := DataW.trod_int Tryd.underlying3 f2
  obtain ⟨n3, e3, _, w3⟩ := DataW.trod_int Tryd.underlying25 f3
  obtain ⟨n4, e4, _, w4⟩ := DataW.trod_string Tryd.underlying9 f4
  simp at e0 e1 e2 e3 e4
  subst e0 e1 e2 e3 e4
  refine ⟨⟨n0, n1, n2, n3, n4⟩, ⟨?_, ?_, ?_, ?_, w4⟩, rfl, rfl, rfl, rfl, rfl⟩
  · have := bounds_i64 w0; unfold i64R; simp only; omega
  · have := bounds_i64 w1; unfold i64R; simp only; omega
  · have := bounds_i64 w2; unfold i64R; simp only; omega
  · have := bounds_u64 w3; simp only; omega
set_option maxRecDepth 100000 in
theorem open_ops {v : Value} {fuel : Nat} {x : DataW H × List MemPlace} (hval : Cell.okWide Tryd.prog W .any base 56 v) (hf : DataW.trod enc Tryd.prog W 0 (fun _ => true) true fuel 56 [v] = some x) :
    ∃ l : List OpP, Row W 5 v l.length (opsV l) ∧ ∀ y ∈ l, OpOk y := by
  rcases Go.Deep.open_slice Tryd.underlying56 hf with ⟨hcs, _⟩ | ⟨y, len, cap, m, n, D, Pl, hcs, _, hl, hm, hmm, hx, hi⟩
  · simp at hcs
    subst hcs
    exact ⟨[], Row.nils W 5, fun s hs => by cases hs⟩
  · simp at hcs
    subst hcs
    simp only [if_true] at hmm
    subst hmm
    have hh : W.has Tryd.prog .any base y 92 m := by
      simp only [Tryd.underlying56, Cell.okWide, Cell.ok] at hval
      exact hval.2.2
    obtain ⟨hspot, hblk⟩ := place_of hh
    obtain ⟨b, off, spot⟩ := y
    simp only at hspot hblk
    subst hspot
    have each : ∀ i, i < m → ∃ z : OpP, OpOk z ∧ ∀ j u, (opC z)[j]? = some u → W.cell? ⟨b, off + i * 5 + j, none⟩ = some u := by
      intro i him
      obtain ⟨cs', hc, ht⟩ := hi i him
      rw [cellsOp] at hc
      obtain ⟨_, hlen5, hat⟩ := World.cells?_some hc
      match cs', hlen5 with
      | [u0, u1, u2, u3, u4], _ =>
        obtain ⟨z, hz, rfl, rfl, rfl, rfl, rfl⟩ := trod_op ht
        refine ⟨z, hz, fun j u hj => ?_⟩
        have hjl : j < 5 := (List.getElem?_eq_some_iff.1 hj).1
        have a0 := hat j (by simpa using hjl)
        rw [Go.Deep.add_add, addr_add, ← Nat.add_assoc] at a0
        rw [a0]
        exact hj
    obtain ⟨l, hll, hq⟩ := list_of m each
    have hlt : (l.take len).length = len := by simp; omega
    refine ⟨l.take len, ⟨by rw [opsV_length], .inr ⟨b, off, m, by rw [hlt], hblk, by omega, hm, fun j u hj => ?_⟩⟩, fun z hz => ?_⟩
    · have hj' : j < len * 5 := by
        have := (List.getElem?_eq_some_iff.1 hj).1
        rw [opsV_length] at this; omega
      have hd : j / 5 < (l.take len).length := by omega
      obtain ⟨_, q⟩ := hq (j / 5) (by omega)
      obtain ⟨p0, p1, p2, p3, p4⟩ := opsV_at (l.take len) (j / 5) hd
      rw [List.getElem_take] at p0 p1 p2 p3 p4
      have hjj : off + j = off + j / 5 * 5 + j % 5 := by omega
      rw [hjj]
      refine q (j % 5) u ?_
      have hx : j = j / 5 * 5 + j % 5 := by omega
      rcases (by omega : j % 5 = 0 ∨ j % 5 = 1 ∨ j % 5 = 2 ∨ j % 5 = 3 ∨ j % 5 = 4) with e | e | e | e | e
      all_goals (rw [hx, e] at hj; rw [e])
      · rw [Nat.add_zero, p0] at hj; rw [← hj]; rfl
      · rw [p1] at hj; rw [← hj]; rfl
      · rw [p2] at hj; rw [← hj]; rfl
      · rw [p3] at hj; rw [← hj]; rfl
      · rw [p4] at hj; rw [← hj]; rfl
    · obtain ⟨i, hi', rfl⟩ := List.getElem_of_mem (List.mem_of_mem_take hz)
      exact (hq i hi').1
end

/-- Knowledge beside a pool that grows. -/
theorem IsKnow.grow {w w' : World} {B a b B2 k mb : Nat} {v gv : Value} {p e : Pl} {g : List Int} {s : Int → Option Way} (hk : IsKnow w B2 k gv mb a p g s) (hp : IsPool w B a b v p) (hmb : mb ≠ b) (hg : Grew w B a b v (p ++ e) w') : IsKnow w' B2 k gv mb a (p ++ e) g s := by
  have h1 := hg.hold hp (T := KnowT) (by decide) (by decide)
  have h2 := hg.hold hp (T := TermT) (by decide) (by decide)
  obtain ⟨n, D, L, ⟨es, c, hm, r⟩, h3, h4, h5, h6, h7⟩ := hk.seen
  have hm' : w'.heap[mb]? = some (.map es c) := by
    rw [hg.2.1 mb (Array.getElem?_eq_some_iff.1 hm).1 (fun e => ?_) hmb (fun e => ?_)]
    · exact hm
    · rw [e, hp.lay] at hm; cases hm
    · obtain ⟨_, cur, hc⟩ := own_type hp.row e
      rw [hm] at hc; cases hc
  exact ⟨h1 _ _ hk.lay, hk.gk, hk.gm, own_hold hk.row h2, ⟨n, D, L, ⟨es, c, hm', r⟩, h3, h4, h5, fun x hx => inP_le (h6 x hx) (by simp), h7⟩, hk.ok.ext hp.ok e⟩
theorem IsKnow.rmost {w w' : World} {B B2 k mb a : Nat} {gv vl vl' : Value} {p : Pl} {g : List Int} {s : Int → Option Way} (hk : IsKnow w B2 k gv mb a p g s) (h : RMostV w B vl w' vl') : IsKnow w' B2 k gv mb a p g s :=
  ⟨h.hold (by decide) (by decide) (by decide) _ _ hk.lay, hk.gk, hk.gm, own_hold hk.row (h.hold (by decide) (by decide) (by decide)), hk.seen.same (fun es c hm => h.2.1 mb _ hm (fun cs T fr e => by cases e)), hk.ok⟩
end Go.Proofs.YtjpkeoenajlmeaaDoor
