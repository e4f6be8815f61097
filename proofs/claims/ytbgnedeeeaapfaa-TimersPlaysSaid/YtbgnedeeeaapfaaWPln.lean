/-
  Plain: what falls due, as a list in order; and the same by ticks and places, as the wheel keeps it. No function of the program is named here.
-/
import Derived.Test.YtbgnedeeeaapfaaKMem
namespace Go.Proofs.Ytbgnedeeeaapfaa
set_option linter.unusedVariables false
/-- A timer: its id, its tick, its place among those of its tick, its value. -/
structure Tm where
  id : Int
  tk : Int
  pl : Int
  v : Value
/-- A wheel: the tick, how many ids and places were given, the timers in the order in which they fall due. -/
structure Wh where
  now : Int
  ids : Int
  pls : Int
  ts : List Tm
abbrev Grp := List (Int × List (Int × Int))
def flat (G : Grp) : List (Int × Int × Int) := G.flatMap fun g => g.2.map fun q => (g.1, q.1, q.2)
def keyT3 (t : Tm) : Int × Int × Int := (t.tk, t.pl, t.id)
def lt2 (a b : Tm) : Prop := a.tk < b.tk ∨ a.tk = b.tk ∧ a.pl < b.pl
structure Lines (G : Grp) (ts : List Tm) : Prop where
  so : Srt G
  si : ∀ g ∈ G, Srt g.2 ∧ g.2 ≠ []
  fl : flat G = ts.map keyT3
def maxI : Int := 9223372036854775807
structure Good (x : Wh) : Prop where
  now0 : 0 ≤ x.now
  nowM : x.now ≤ maxI
  ids0 : 0 ≤ x.ids
  idM : x.ids ≤ 400000
  pls0 : 0 ≤ x.pls
  plM : x.pls ≤ 400000
  ord : x.ts.Pairwise lt2
  nd : x.ts.Pairwise fun a b => a.id ≠ b.id
  per : ∀ t ∈ x.ts, x.now ≤ t.tk ∧ t.tk ≤ maxI ∧ 0 ≤ t.id ∧ t.id < x.ids ∧ 0 ≤ t.pl ∧ t.pl < x.pls
  len : x.ts.length ≤ 4096
def ins (ts : List Tm) (t : Tm) : List Tm := ts.filter (fun a => decide (a.tk ≤ t.tk)) ++ t :: ts.filter (fun a => decide (t.tk < a.tk))
def out (ts : List Tm) (i : Int) : List Tm := ts.filter fun a => decide (a.id ≠ i)
def fnd (ts : List Tm) (i : Int) : Option Tm := ts.find? fun a => decide (a.id = i)
/-- The line of a tick. -/
def lineOf (G : Grp) (k : Int) : List (Int × Int) := match atKey G k with
  | [] => []
  | e :: _ => e.2
theorem flat_append (A B : Grp) : flat (A ++ B) = flat A ++ flat B := by simp [flat]
theorem flat_cons (k : Int) (l : List (Int × Int)) (B : Grp) : flat ((k, l) :: B) = l.map (fun q => (k, q.1, q.2)) ++ flat B := by simp [flat]
theorem flat_filter (p : Int → Bool) (G : Grp) : flat (G.filter fun g => p g.1) = (flat G).filter fun e => p e.1 := by
  induction G with
  | nil => rfl
  | cons g G ih =>
    obtain ⟨k, l⟩ := g
    rw [flat_cons, List.filter_append, ← ih]
    cases hp : p k
    · rw [List.filter_cons, if_neg (by simp [hp])]
      rw [filter_none (l := l.map _)]
      · rfl
      · intro a ha
        obtain ⟨q, _, rfl⟩ := List.mem_map.1 ha
        exact hp
    · rw [List.filter_cons, if_pos (by simp [hp]), flat_cons, filter_all (l := l.map _)]
      intro a ha
      obtain ⟨q, _, rfl⟩ := List.mem_map.1 ha
      exact hp
theorem keys_filter (p : Int → Bool) (ts : List Tm) : (ts.filter fun t => p t.tk).map keyT3 = (ts.map keyT3).filter fun e => p e.1 := by
  induction ts with
  | nil => rfl
  | cons t ts ih =>
    simp only [List.filter_cons, List.map_cons]
    have : (keyT3 t).1 = t.tk := rfl
    rw [this]
    cases hp : p t.tk <;> simp [ih]
theorem ltI (a b : Int) : (KOrd.lt a b : Bool) = decide (a < b) := rfl
theorem Lines.below {G : Grp} {ts : List Tm} (h : Lines G ts) (k : Int) : flat (below G k) = (ts.filter fun a => decide (a.tk < k)).map keyT3 := by
  rw [keys_filter (fun a => decide (a < k)), ← h.fl, ← flat_filter (fun a => decide (a < k))]; rfl
theorem Lines.above {G : Grp} {ts : List Tm} (h : Lines G ts) (k : Int) : flat (above G k) = (ts.filter fun a => decide (k < a.tk)).map keyT3 := by
  rw [keys_filter (fun a => decide (k < a)), ← h.fl, ← flat_filter (fun a => decide (k < a))]; rfl
theorem lineOf_cases {G : Grp} (h : Srt G) (k : Int) : (atKey G k = [] ∧ lineOf G k = []) ∨ (atKey G k = [(k, lineOf G k)] ∧ (k, lineOf G k) ∈ G) := by
  have hs := atKey_short h k
  unfold lineOf
  cases e : atKey G k with
  | nil => exact .inl ⟨rfl, rfl⟩
  | cons a t =>
    rw [e] at hs
    cases t with
    | cons b t => simp at hs
    | nil =>
      right
      have hm := mem_atKey.1 (show a ∈ atKey G k by rw [e]; simp)
      obtain ⟨a1, a2⟩ := a
      obtain rfl := hm.2
      exact ⟨rfl, hm.1⟩
theorem atKey_eqI (G : Grp) (k : Int) : atKey G k = G.filter fun g => decide (g.1 = k) := by
  unfold atKey
  congr 1
  funext g
  rw [ltI, ltI]
  by_cases h : g.1 = k
  · simp [h]
  · have : g.1 < k ∨ k < g.1 := by omega
    rcases this with h1 | h1
    · simp [h1, h]
    · simp [h1, h]
theorem Lines.line {G : Grp} {ts : List Tm} (h : Lines G ts) (k : Int) : (lineOf G k).map (fun q => (k, q.1, q.2)) = (ts.filter fun a => decide (a.tk = k)).map keyT3 := by
  have e1 : flat (atKey G k) = (ts.filter fun a => decide (a.tk = k)).map keyT3 := by
    rw [keys_filter (fun a => decide (a = k)), ← h.fl, ← flat_filter (fun a => decide (a = k)), atKey_eqI]
  rcases lineOf_cases h.so k with ⟨e, e'⟩ | ⟨e, _⟩
  · rw [e] at e1; rw [e', ← e1]; rfl
  · rw [e] at e1; rw [← e1]; simp [flat]
theorem Lines.line_srt {G : Grp} {ts : List Tm} (h : Lines G ts) (k : Int) : Srt (lineOf G k) := by
  rcases lineOf_cases h.so k with ⟨_, e⟩ | ⟨_, e⟩
  · rw [e]; exact Srt.nil
  · exact (h.si _ e).1
theorem Lines.line_mem {G : Grp} {ts : List Tm} (h : Lines G ts) {k : Int} {q : Int × Int} (hq : q ∈ lineOf G k) : ∃ t ∈ ts, t.tk = k ∧ t.pl = q.1 ∧ t.id = q.2 := by
  have : (k, q.1, q.2) ∈ (lineOf G k).map (fun q => (k, q.1, q.2)) := List.mem_map.2 ⟨q, hq, rfl⟩
  rw [h.line] at this
  obtain ⟨t, ht, e⟩ := List.mem_map.1 this
  obtain ⟨h1, h2⟩ := List.mem_filter.1 ht
  unfold keyT3 at e
  simp only [Prod.mk.injEq] at e
  exact ⟨t, h1, e.1, e.2.1, e.2.2⟩
theorem lput_last {l : List (Int × Int)} {p i : Int} (h : ∀ q ∈ l, q.1 < p) : lput l p i = l ++ [(p, i)] := by
  unfold lput below above
  rw [filter_all (l := l) (fun q hq => by rw [ltI]; simpa using h q hq), filter_none (l := l) (fun q hq => by rw [ltI]; have := h q hq; simp; omega)]
theorem lput_lines {G : Grp} {k : Int} {l : List (Int × Int)} (hG : Srt G) (hi : ∀ g ∈ G, Srt g.2 ∧ g.2 ≠ []) (hl : Srt l) (hn : l ≠ []) : Srt (lput G k l) ∧ (∀ g ∈ lput G k l, Srt g.2 ∧ g.2 ≠ []) := by
  refine ⟨hG.lput k l, fun g hg => ?_⟩
  unfold lput at hg
  rcases List.mem_append.1 hg with hg | hg
  · exact hi g (mem_below.1 hg).1
  · rcases List.mem_cons.1 hg with rfl | hg
    · exact ⟨hl, hn⟩
    · exact hi g (mem_above.1 hg).1
theorem le_split {ts : List Tm} (h : ts.Pairwise lt2) (k : Int) : ts.filter (fun a => decide (a.tk ≤ k)) = ts.filter (fun a => decide (a.tk < k)) ++ ts.filter (fun a => decide (a.tk = k)) := by
  induction ts with
  | nil => rfl
  | cons t ts ih =>
    rw [List.pairwise_cons] at h
    have ih := ih h.2
    simp only [List.filter_cons]
    by_cases h1 : t.tk < k
    · have h2 : t.tk ≤ k := by omega
      have h3 : ¬ t.tk = k := by omega
      simp [h1, h2, h3, ih]
    · by_cases h2 : t.tk = k
      · have h4 : t.tk ≤ k := by omega
        have : ts.filter (fun a => decide (a.tk < k)) = [] := filter_none fun a ha => by
          have := h.1 a ha
          unfold lt2 at this
          simp; omega
        rw [this] at ih ⊢
        simp [h2, ih]
      · have h4 : ¬ t.tk ≤ k := by omega
        simp [h1, h2, h4, ih]
theorem all_split {ts : List Tm} (h : ts.Pairwise lt2) (k : Int) : ts = ts.filter (fun a => decide (a.tk < k)) ++ (ts.filter (fun a => decide (a.tk = k)) ++ ts.filter (fun a => decide (k < a.tk))) := by
  induction ts with
  | nil => rfl
  | cons t ts ih =>
    rw [List.pairwise_cons] at h
    have ih := ih h.2
    simp only [List.filter_cons]
    by_cases h1 : t.tk < k
    · have e1 : decide (t.tk < k) = true := by simpa using h1
      have e2 : decide (t.tk = k) = false := by simp; omega
      have e3 : decide (k < t.tk) = false := by simp; omega
      rw [e1, e2, e3]
      simpa using ih
    · have hb : ts.filter (fun a => decide (a.tk < k)) = [] := filter_none fun a ha => by
        have := h.1 a ha
        unfold lt2 at this
        simp; omega
      rw [hb] at ih ⊢
      have e1 : decide (t.tk < k) = false := by simpa using h1
      by_cases h2 : t.tk = k
      · have e2 : decide (t.tk = k) = true := by simpa using h2
        have e3 : decide (k < t.tk) = false := by simp; omega
        rw [e1, e2, e3]
        simpa using ih
      · have hc : ts.filter (fun a => decide (a.tk = k)) = [] := filter_none fun a ha => by
          have := h.1 a ha
          unfold lt2 at this
          simp; omega
        rw [hc] at ih ⊢
        have e2 : decide (t.tk = k) = false := by simpa using h2
        have e3 : decide (k < t.tk) = true := by simp; omega
        rw [e1, e2, e3]
        simpa using ih
/-- A timer is laid. -/
theorem Lines.lay {G : Grp} {ts : List Tm} (h : Lines G ts) (ho : ts.Pairwise lt2) (t : Tm) (hp : ∀ a ∈ ts, a.pl < t.pl) :
    lput (lineOf G t.tk) t.pl t.id = lineOf G t.tk ++ [(t.pl, t.id)] ∧ Lines (lput G t.tk (lput (lineOf G t.tk) t.pl t.id)) (ins ts t) := by
  have e := lput_last (l := lineOf G t.tk) (p := t.pl) (i := t.id) fun q hq => by
    obtain ⟨a, ha, _, h2, _⟩ := h.line_mem hq
    rw [← h2]; exact hp a ha
  refine ⟨e, ?_⟩
  have hl := lput_lines (k := t.tk) h.so h.si ((h.line_srt t.tk).lput t.pl t.id) (by rw [e]; simp)
  refine ⟨hl.1, hl.2, ?_⟩
  rw [e]
  unfold Go.Proofs.Ytbgnedeeeaapfaa.lput
  rw [flat_append, flat_cons, h.below, h.above, List.map_append, h.line]
  unfold ins
  rw [le_split ho]
  simp [keyT3]
theorem ldrop_filter {l : List (Int × Int)} (h : Srt l) (p : Int) : ldrop l p = l.filter fun q => decide (q.1 ≠ p) := by
  unfold ldrop
  conv => rhs; rw [h.parts p]
  rw [List.filter_append, List.filter_append]
  have h1 : (below l p).filter (fun q => decide (q.1 ≠ p)) = below l p := filter_all fun q hq => by
    have := (mem_below.1 hq).2
    rw [ltI] at this
    simp at this ⊢; omega
  have h2 : (above l p).filter (fun q => decide (q.1 ≠ p)) = above l p := filter_all fun q hq => by
    have := (mem_above.1 hq).2
    rw [ltI] at this
    simp at this ⊢; omega
  have h3 : (atKey l p).filter (fun q => decide (q.1 ≠ p)) = [] := filter_none fun q hq => by
    have := (mem_atKey.1 hq).2
    simp [this]
  rw [h1, h2, h3]; simp
theorem same_tm {ts : List Tm} (ho : ts.Pairwise lt2) (hn : ts.Pairwise fun a b => a.id ≠ b.id) {t a : Tm} (ht : t ∈ ts) (ha : a ∈ ts) (hk : a.tk = t.tk) : a.id ≠ t.id ↔ a.pl ≠ t.pl := by
  rcases List.mem_iff_getElem.1 ht with ⟨i, hi, rfl⟩
  rcases List.mem_iff_getElem.1 ha with ⟨j, hj, rfl⟩
  rw [List.pairwise_iff_getElem] at ho hn
  by_cases e : i = j
  · subst e; simp
  · rcases Nat.lt_or_gt_of_ne e with h | h
    · have h1 := ho i j hi hj h
      have h2 := hn i j hi hj h
      unfold lt2 at h1
      constructor
      · intro _; omega
      · intro _ e'; exact h2 e'.symm
    · have h1 := ho j i hj hi h
      have h2 := hn j i hj hi h
      unfold lt2 at h1
      constructor
      · intro _; omega
      · intro _; exact h2
/-- A timer is taken out: its line is one less, or gone. -/
theorem Lines.take {G : Grp} {ts : List Tm} (h : Lines G ts) (ho : ts.Pairwise lt2) (hn : ts.Pairwise fun a b => a.id ≠ b.id) {t : Tm} (ht : t ∈ ts) :
    (ldrop (lineOf G t.tk) t.pl = [] → Lines (ldrop G t.tk) (out ts t.id)) ∧ (ldrop (lineOf G t.tk) t.pl ≠ [] → Lines (lput G t.tk (ldrop (lineOf G t.tk) t.pl)) (out ts t.id)) := by
  have hlow : (ts.filter (fun a => decide (a.tk < t.tk))).filter (fun a => decide (a.id ≠ t.id)) = ts.filter (fun a => decide (a.tk < t.tk)) := filter_all fun a ha => by
    obtain ⟨h1, h2⟩ := List.mem_filter.1 ha
    simp only [decide_eq_true_eq] at h2 ⊢
    intro e
    have := (List.pairwise_iff_getElem.1 hn)
    rcases List.mem_iff_getElem.1 ht with ⟨i, hi, ei⟩
    rcases List.mem_iff_getElem.1 h1 with ⟨j, hj, ej⟩
    have hij : i ≠ j := by rintro rfl; rw [ei] at ej; rw [ej] at h2; omega
    rcases Nat.lt_or_gt_of_ne hij with h | h
    · exact this i j hi hj h (by rw [ei, ej, e])
    · exact this j i hj hi h (by rw [ei, ej, e])
  have hup : (ts.filter (fun a => decide (t.tk < a.tk))).filter (fun a => decide (a.id ≠ t.id)) = ts.filter (fun a => decide (t.tk < a.tk)) := filter_all fun a ha => by
    obtain ⟨h1, h2⟩ := List.mem_filter.1 ha
    simp only [decide_eq_true_eq] at h2 ⊢
    intro e
    have := (List.pairwise_iff_getElem.1 hn)
    rcases List.mem_iff_getElem.1 ht with ⟨i, hi, ei⟩
    rcases List.mem_iff_getElem.1 h1 with ⟨j, hj, ej⟩
    have hij : i ≠ j := by rintro rfl; rw [ei] at ej; rw [ej] at h2; omega
    rcases Nat.lt_or_gt_of_ne hij with h | h
    · exact this i j hi hj h (by rw [ei, ej, e])
    · exact this j i hj hi h (by rw [ei, ej, e])
  have hmid : (ldrop (lineOf G t.tk) t.pl).map (fun q => (t.tk, q.1, q.2)) = ((ts.filter (fun a => decide (a.tk = t.tk))).filter (fun a => decide (a.id ≠ t.id))).map keyT3 := by
    rw [ldrop_filter (h.line_srt _)]
    have e1 : ((lineOf G t.tk).filter fun q => decide (q.1 ≠ t.pl)).map (fun q => (t.tk, q.1, q.2)) = ((lineOf G t.tk).map (fun q => (t.tk, q.1, q.2))).filter fun e => decide (e.2.1 ≠ t.pl) := by
      rw [List.filter_map]; rfl
    rw [e1, h.line, List.filter_map]
    congr 1
    apply List.filter_congr
    intro a ha
    obtain ⟨h1, h2⟩ := List.mem_filter.1 ha
    simp only [decide_eq_true_eq] at h2
    have := same_tm ho hn ht h1 h2
    simp only [Function.comp, keyT3]
    exact (decide_eq_decide.2 this).symm
  have hall : (out ts t.id).map keyT3 = flat (Go.Proofs.Ytbgnedeeeaapfaa.below G t.tk) ++ ((ldrop (lineOf G t.tk) t.pl).map (fun q => (t.tk, q.1, q.2)) ++ flat (Go.Proofs.Ytbgnedeeeaapfaa.above G t.tk)) := by
    unfold out
    conv => lhs; rw [all_split ho t.tk]
    rw [List.filter_append, List.filter_append, hlow, hup, List.map_append, List.map_append, ← hmid, h.below, h.above]
  constructor
  · intro he
    rw [he] at hall
    refine ⟨h.so.ldrop _, fun g hg => ?_, ?_⟩
    · unfold Go.Proofs.Ytbgnedeeeaapfaa.ldrop at hg
      rcases List.mem_append.1 hg with hg | hg
      · exact h.si g (mem_below.1 hg).1
      · exact h.si g (mem_above.1 hg).1
    · unfold Go.Proofs.Ytbgnedeeeaapfaa.ldrop
      rw [flat_append, hall]; simp
  · intro he
    have hl := lput_lines (k := t.tk) h.so h.si ((h.line_srt t.tk).ldrop t.pl) he
    refine ⟨hl.1, hl.2, ?_⟩
    unfold Go.Proofs.Ytbgnedeeeaapfaa.lput
    rw [flat_append, flat_cons, hall]
end Go.Proofs.Ytbgnedeeeaapfaa
