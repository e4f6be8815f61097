/-
  TimersNext: the next tick is the least at which one falls due. The walk and the statement.
-/
import Derived.Test.YtbgnedeeeaapfaaWArg
import Derived.Test.YtbgnedeeeaapfaaW3N
import Derived.Test.YtbgnedeeeaapfaaW4N
namespace Go.Proofs.Ytbgnedeeeaapfaa
open Go.ChangeShapes Go.WideShapes Go.ChangeAt Go.RowKit Go.Maps
set_option linter.unusedVariables false
def idsL (c : Nat) : List Value := (List.range c).map fun j : Nat => Value.int .i64 (j : Int)
theorem idsL_len (c : Nat) : (idsL c).length = c := by simp [idsL]
theorem idsL_succ (c : Nat) : idsL (c + 1) = idsL c ++ [.int .i64 (c : Int)] := by simp [idsL, List.range_succ]
theorem idsL_at (c i : Nat) (h : i < c) : (idsL c)[i]? = some (.int .i64 (i : Int)) := by simp [idsL, h]
/-- So many were set, and all are there. -/
structure Sets (x : Wh) (c : Nat) : Prop where
  now : x.now = 0
  ids : x.ids = c
  pls : x.pls = c
  len : x.ts.length = c
  all : ∀ j : Int, 0 ≤ j → j < c → (fnd x.ts j).isSome = true
theorem Sets.new : Sets ⟨0, 0, 0, []⟩ 0 := ⟨rfl, rfl, rfl, rfl, fun j h1 h2 => by omega⟩
theorem Sets.past {x : Wh} {c : Nat} (h : Sets x c) {t : Int} (ht : t ≤ 0) (v : Value) : setP x t v = (x, 0, 140) := setP_past (by rw [h.now]; exact ht)
theorem Sets.set {x : Wh} {c : Nat} (h : Sets x c) (hg : Good x) (hc : c < 4096) {t : Int} (ht : 0 < t) (v : Value) : ∃ x', setP x t v = (x', (c : Int), 0) ∧ Sets x' (c + 1) := by
  have h1 : ¬ t ≤ x.now := by rw [h.now]; omega
  have h2 : ¬ 4096 ≤ x.ts.length := by rw [h.len]; omega
  rw [setP_ok h1 h2, h.ids]
  have hf : ∀ a ∈ x.ts, a.id ≠ (c : Int) := fun a ha => by have := (hg.per a ha).2.2.2.1; rw [h.ids] at this; omega
  refine ⟨_, rfl, h.now, by simp only [layP]; push_cast; rfl, by simp only [layP, h.pls]; push_cast; rfl, by simp only [layP, ins_len, h.len], fun j h3 h4 => ?_⟩
  simp only [layP]
  rw [fnd_ins hg.nd hf]
  split
  · rfl
  · rename_i hne
    simp only at hne
    exact h.all j h3 (by omega)
theorem Sets.found {x : Wh} {c : Nat} (h : Sets x c) (hg : Good x) (i : Int) : (fnd x.ts i).isSome = decide (0 ≤ i ∧ i < c) := by
  by_cases hi : 0 ≤ i ∧ i < c
  · rw [h.all i hi.1 hi.2]; exact (decide_eq_true hi).symm
  · rw [decide_eq_false hi]
    cases e : fnd x.ts i with
    | none => rfl
    | some t =>
      obtain ⟨h1, rfl⟩ := fnd_some e
      have := hg.per t h1
      rw [h.ids] at this
      exact absurd ⟨this.2.2.1, this.2.2.2.1⟩ hi
/-- How many stand below an id. -/
def cntB (ts : List Tm) (i : Int) : Nat := (ts.filter fun t => decide (t.id < i)).length
theorem cntB_step {ts : List Tm} (hn : ts.Pairwise fun a b => a.id ≠ b.id) (i : Int) : cntB ts (i + 1) = cntB ts i + (if (fnd ts i).isSome then 1 else 0) := by
  unfold cntB
  induction ts with
  | nil => rfl
  | cons t ts ih =>
    rw [List.pairwise_cons] at hn
    have ih := ih hn.2
    rw [List.filter_cons, List.filter_cons]
    by_cases e : t.id = i
    · have hno : fnd ts i = none := by
        cases h : fnd ts i with
        | none => rfl
        | some a => obtain ⟨h1, h2⟩ := fnd_some h; exact absurd (e.trans h2.symm) (hn.1 a h1)
      rw [hno] at ih
      have hs : (fnd (t :: ts) i).isSome = true := by simp [fnd, e]
      rw [hs, if_pos (by simp; omega), if_neg (by simp; omega)]
      simp only [Option.isSome_none, Bool.false_eq_true, if_false] at ih
      simp [ih]
    · have hs : fnd (t :: ts) i = fnd ts i := by simp [fnd, e]
      rw [hs]
      by_cases hl : t.id < i
      · rw [if_pos (by simp; omega), if_pos (by simp; omega)]
        simp only [List.length_cons, ih]; omega
      · rw [if_neg (by simp; omega), if_neg (by simp; omega)]
        exact ih
theorem cntB_all {ts : List Tm} {c : Int} (h : ∀ t ∈ ts, t.id < c) : cntB ts c = ts.length := by
  unfold cntB
  rw [filter_all fun t ht => by simpa using h t ht]
theorem cntB_zero {ts : List Tm} (h : ∀ t ∈ ts, 0 ≤ t.id) : cntB ts 0 = 0 := by
  unfold cntB
  rw [filter_none fun t ht => by have := h t ht; simp; omega]; rfl
theorem cntB_le (ts : List Tm) (i : Int) : cntB ts i ≤ ts.length := List.length_filter_le _ _
/-- The least tick among those below an id; 0, if there is none. -/
structure LeastB (ts : List Tm) (i : Int) (l : Int) : Prop where
  no : cntB ts i = 0 → l = 0
  lo : ∀ t ∈ ts, t.id < i → l ≤ t.tk
  hit : 0 < cntB ts i → ∃ t ∈ ts, t.tk = l
theorem LeastB.skip {ts : List Tm} (hn : ts.Pairwise fun a b => a.id ≠ b.id) {i l : Int} (h : LeastB ts i l) (hf : fnd ts i = none) : LeastB ts (i + 1) l := by
  have hc := cntB_step hn i
  rw [hf] at hc
  simp at hc
  refine ⟨fun e => h.no (by omega), fun t ht hi => h.lo t ht ?_, fun e => h.hit (by omega)⟩
  have := fnd_none hf t ht
  omega
theorem LeastB.take {ts : List Tm} (hn : ts.Pairwise fun a b => a.id ≠ b.id) {i l : Int} (h : LeastB ts i l) {t : Tm} (hf : fnd ts i = some t) : LeastB ts (i + 1) (if cntB ts i = 0 ∨ t.tk < l then t.tk else l) := by
  obtain ⟨ht, hti⟩ := fnd_some hf
  have hc := cntB_step hn i
  rw [hf] at hc
  simp at hc
  refine ⟨fun e => by omega, fun u hu hi => ?_, fun _ => ?_⟩
  · by_cases e : u.id = i
    · obtain rfl := id_inj hn ht hu (e.trans hti.symm)
      split <;> omega
    · have h1 : u.id < i := by omega
      have h2 := h.lo u hu h1
      have h3 : cntB ts i ≠ 0 := by
        unfold cntB
        intro e0
        have := (List.mem_filter (p := fun t : Tm => decide (t.id < i))).2 ⟨hu, show decide (u.id < i) = true by simpa using h1⟩
        rw [List.eq_nil_of_length_eq_zero e0] at this; cases this
      split <;> omega
  · split
    · exact ⟨t, ht, rfl⟩
    · rename_i hno
      exact h.hit (by omega)
theorem LeastB.last {x : Wh} (hg : Good x) {l : Int} (h : LeastB x.ts x.ids l) : l = nextP x := by
  have hall : cntB x.ts x.ids = x.ts.length := cntB_all fun t ht => (hg.per t ht).2.2.2.1
  have ho := hg.ord
  unfold nextP
  cases e : x.ts with
  | nil => exact h.no (by rw [hall, e]; rfl)
  | cons t ts =>
    obtain ⟨u, hu, e2⟩ := h.hit (by rw [hall, e]; simp)
    have h1 := h.lo t (by rw [e]; simp) ((hg.per t (by rw [e]; simp)).2.2.2.1)
    rw [e] at ho hu
    have h2 := ord_le ho u hu
    simp only; omega
set_option maxRecDepth 100000 in
set_option maxHeartbeats 3200000 in
theorem next_long {w : World} {v : Value} {l : List Int} (h : Row w 1 v l.length (ints l)) (d : Int) (hl : 80 < l.length) :
    Calls Try.prog 6 #[v, .int .i64 d] w fun e w' => e = .returned (.bool true) ∧ Below w.heap.size w w' := by
  obtain ⟨aa, ca, rfl⟩ := h.shape
  clear h
  have hlen : decide ((80 : Int) < (l.length : Int)) = true := by simp; omega
  clear hl
  go_enter Try.func6, Try.ntmps6
  go_wp2_with fail
  refine (live14 _).mono ?_
  rintro e w1 ⟨rfl, u1⟩
  have HU := Lib.hid u1
  clear u1
  go_wp2_with fail
  go_returns
  exact ⟨rfl, HU.out⟩
set_option maxRecDepth 100000 in
set_option maxHeartbeats 6400000 in
theorem next_walk {w : World} {v : Value} {l : List Int} (h : Row w 1 v l.length (ints l)) (hok : ∀ n ∈ l, (Lit.int .i64 n).wf = true) {d : Int} (hd : i64R d) (hl : l.length ≤ 80) :
    Calls Try.prog 6 #[v, .int .i64 d] w fun e w' => e = .returned (.bool true) ∧ Below w.heap.size w w' := by
  obtain ⟨aa, ca, rfl, xa⟩ := h.at
  have XA := Lib.hid xa
  have HL := Lib.hid hl
  have HOK := Lib.hid (fun (i : Nat) (hi : i < l.length) => (show l[i] ≤ maxI by
    have := hok l[i] (List.getElem_mem hi)
    simp only [Lit.wf, Bool.and_eq_true, decide_eq_true_eq] at this
    exact Int.le_trans this.2 (by decide)))
  have HD := Lib.hid hd
  have hlen : decide ((80 : Int) < (l.length : Int)) = false := by simp; omega
  clear h xa hl hok hd
  go_enter Try.func6, Try.ntmps6
  go_wp2_with fail
  refine (newN w).mono ?_
  rintro e w1 ⟨rfl, h1, u1⟩
  have H1 := Lib.hid h1
  have U1 := Lib.hid u1
  have L1 := Lib.hid h1.lt
  clear h1 u1
  go_wp2_with fail
  go_loopw [7, 6] (fun v u wr => ∃ (k c : Nat) (x : Wh), v = .int .i64 (k : Int) ∧ k ≤ l.length ∧ c ≤ k ∧ IsWN wr (w.heap.size + 1) w.heap.size (.slice none 0 0) false x ∧ Sets x c ∧ wr.ownsRow w1.heap.size ElTN 1 u c (idsL c) ∧ Touch (OwnW (w.heap.size + 1) w.heap.size) w1 wr) (fun v _ _ => 81 - (intOf v).toNat)
  case atStart => exact ⟨0, 0, _, rfl, by omega, by omega, H1.out, Sets.new, World.ownsRow_nil _ _ _ 1, Touch.refl _ _⟩
  case round =>
    obtain ⟨k, c, x, rfl, hk, hck, hx, hs, ho, ht⟩ := hrel
    have HX := Lib.hid hx
    have HS := Lib.hid hs
    have HO := Lib.hid ho
    have HT := Lib.hid ht
    have HC := Lib.hid hck
    clear hx hs ho ht hck
    by_cases hlt : k < l.length
    · obtain ⟨b1, o1, rfl, q1⟩ := XA.out (by omega)
      have c1 := q1 k _ (ints_at l k hlt)
      have b0 : Below w.heap.size w wr := U1.out.trans (HT.out.below U1.out.size (fun k hk => by rcases hk with rfl | rfl <;> omega))
      have c2 := bcellAt b0 c1
      have HM := Lib.hid (HOK.out k hlt)
      have hk0 : (0 : Int) ≤ (k : Int) := by omega
      have hk1 : (k : Int) < (l.length : Int) := by omega
      have HK := Lib.hid hlt
      clear q1 XA c1 b0 HOK
      generalize l[k] = t at *
      have hwk : IntKind.i64.wrap ((k : Int) + 1) = (k : Int) + 1 := IntWalk.i64_in _ (by have := HL.out; omega)
      have HG := Lib.hid HX.out.good
      by_cases ht0 : 0 < t
      · obtain ⟨x', hx1, hx2⟩ := HS.out.set HG.out (by have := HC.out; have := HL.out; omega) ht0 (.int .i64 k)
        have HX1 := Lib.hid hx1
        have HX2 := Lib.hid hx2
        clear hx1 hx2 ht0
        go_wp2_with fail
        refine (setN HX.out t (k : Int) (by have := HC.out; have := HL.out; rw [HS.out.ids]; omega) (by have := HC.out; have := HL.out; rw [HS.out.pls]; omega) HM.out).mono ?_
        rw [HX1.out]
        rintro e w2 ⟨rfl, h2, t2⟩
        have H2 := Lib.hid h2
        have T2 := Lib.hid (HT.out.trans t2)
        have O2 := Lib.hid (own_keep HO.out t2 (fun k hk e => by have := (own_from HO.out hk).1; have := L1.out; rcases e with e | e <;> omega))
        have S2 := Lib.hid T2.out.size
        clear h2 t2
        go_wp2_with fail
        refine (num14 _ _).mono ?_
        rintro e w3 ⟨rfl, rfl⟩
        have b5 : Below w2.heap.size w2 (w2.alloc (.cells #[.int .i64 (c : Int)] 3)) := (Below.refl _ _).alloc (Nat.le_refl _) _
        have q5 := cellB (j := 0) (heap_alloc_new w2 (.cells #[.int .i64 (c : Int)] 3)) rfl
        have O5 := Lib.hid (own_hold O2.out (Hold.below b5))
        have H5 := Lib.hid (H2.out.below b5)
        have T5 := Lib.hid (T2.out.trans (touch_of_below b5 _))
        have S5 := Lib.hid T5.out.size
        have HLC := Lib.hid (show (idsL c).length ≤ 1000000 by have := HC.out; have := HL.out; rw [idsL_len]; omega)
        clear b5
        go_wp2_with (at_builtin; refine wpList_appN rfl _ _ rfl w1.heap.size _ (idsL c) rfl (by rw [idsL_len]; exact O5.out) _ (c : Int) rfl q5 HLC.out S5.out ?_)
        intro v6 w6 o6 g6 at6
        have hown : ∀ k, Value.ownBlock u6 = some k → w1.heap.size ≤ k := fun k hk => (own_from O5.out hk).1
        have X6 := Lib.hid (H5.out.keep (g6.block _ H5.out.lt (fun e => by have := hown _ e.symm; have := L1.out; omega)) (g6.block _ H5.out.map.lt (fun e => by have := hown _ e.symm; have := L1.out; omega)) ⟨Hold.grown g6 (fun k e => by obtain ⟨_, cs, hcs⟩ := own_type O5.out e; exact ⟨cs, hcs⟩) (by decide), Hold.grown g6 (fun k e => by obtain ⟨_, cs, hcs⟩ := own_type O5.out e; exact ⟨cs, hcs⟩) (by decide)⟩)
        have T6 := Lib.hid (T5.out.step (touch_of_grown g6 (fun k => Value.ownBlock u6 = some k) (fun k e => e)) (fun k e => .inr (hown k e)))
        have O6 := Lib.hid o6
        clear o6 g6 at6 hown q5 c2
        go_wp2_with fail
        go_roundw
        case rel => exact ⟨k + 1, c + 1, x', by push_cast; rfl, by have := HK.out; omega, by have := HC.out; omega, X6.out, HX2.out, by rw [idsL_succ]; have := O6.out; simpa [idsL_len] using this, T6.out⟩
        case measure => have := HK.out; have := HL.out; simp [intOf]; omega
      · have HX1 := Lib.hid (HS.out.past (t := t) (by omega) (.int .i64 k))
        clear ht0
        go_wp2_with fail
        refine (setN HX.out t (k : Int) (by have := HC.out; have := HL.out; rw [HS.out.ids]; omega) (by have := HC.out; have := HL.out; rw [HS.out.pls]; omega) HM.out).mono ?_
        rw [HX1.out]
        rintro e w2 ⟨rfl, h2, t2⟩
        have H2 := Lib.hid h2
        have T2 := Lib.hid (HT.out.trans t2)
        have O2 := Lib.hid (own_keep HO.out t2 (fun k hk e => by have := (own_from HO.out hk).1; have := L1.out; rcases e with e | e <;> omega))
        clear h2 t2 c2
        go_wp2_with fail
        refine (num14 _ _).mono ?_
        rintro e w3 ⟨rfl, rfl⟩
        go_wp2_with fail
        go_roundw
        case rel => exact ⟨k + 1, c, x, by push_cast; rfl, by have := HK.out; omega, by have := HC.out; omega, H2.out, HS.out, O2.out, T2.out⟩
        case measure => have := HK.out; have := HL.out; simp [intOf]; omega
    · obtain rfl : k = l.length := by omega
      clear hlt
      have HG := Lib.hid HX.out.good
      have HFD := Lib.hid (HS.out.found HG.out d)
      go_wp2_with fail
      refine (cancelN HX.out HD.out).mono ?_
      rw [HFD.out]
      rintro e w2 ⟨rfl, h2, t2⟩
      have H2 := Lib.hid h2
      have T2 := Lib.hid (HT.out.trans t2)
      have O2 := Lib.hid (own_keep HO.out t2 (fun k hk e => by have := (own_from HO.out hk).1; have := L1.out; rcases e with e | e <;> omega))
      clear h2 t2
      go_wp2_with fail
      refine (cancelN H2.out HD.out).mono ?_
      have hno : fnd (takeP x d).ts d = none := by
        show fnd (out x.ts d) d = none
        rw [fnd_out HG.out.nd, if_pos rfl]
      have hee : takeP (takeP x d) d = takeP x d := by
        show ({ takeP x d with ts := out (takeP x d).ts d } : Wh) = takeP x d
        rw [out_none hno]
      rw [hee, hno]
      rintro e w3 ⟨rfl, h3, t3⟩
      have H3 := Lib.hid h3
      have T3 := Lib.hid (T2.out.trans t3)
      have O3 := Lib.hid (own_keep O2.out t3 (fun k hk e => by have := (own_from O2.out hk).1; have := L1.out; rcases e with e | e <;> omega))
      have HID := Lib.hid (show (takeP x d).ids = (c : Int) from HS.out.ids)
      have HG2 := Lib.hid h3.good
      have HC2 : Hid (c ≤ 80) := Lib.hid (by have := HC.out; have := HL.out; omega)
      clear h3 t3 hno hee
      generalize hy : takeP x d = y at *
      clear hy
      go_wp2_with fail
      refine (nextN H3.out).mono ?_
      rintro e w4 ⟨rfl, u4⟩
      have H4 := Lib.hid (H3.out.below u4)
      have T4 := Lib.hid (T3.out.trans (touch_of_below u4 _))
      have O4 := Lib.hid (own_hold O3.out (Hold.below u4))
      clear u4
      generalize hnx : nextP y = nx at *
      generalize hne : (!y.ts.isEmpty) = ne at *
      have HNX := Lib.hid hnx
      have HNE := Lib.hid hne
      obtain ⟨ai, ci, rfl, qi⟩ := (row_of_own O4.out).at
      have QI := Lib.hid qi
      clear hnx hne qi
      go_wp2_with fail
      go_loopw [18, 16, 17] (fun v s n wr => ∃ (i : Nat) (lo : Int), v = .int .i64 (i : Int) ∧ i ≤ c ∧ s = .int .i64 lo ∧ n = .int .i64 (cntB y.ts i : Int) ∧ LeastB y.ts i lo ∧ Below w4.heap.size w4 wr) (fun v _ _ _ => 81 - (intOf v).toNat)
      case atStart => exact ⟨0, 0, rfl, by omega, rfl, by rw [show ((0 : Nat) : Int) = 0 from rfl, cntB_zero (fun t ht => (HG2.out.per t ht).2.2.1)]; rfl, ⟨fun _ => rfl, fun t ht hi => by have := (HG2.out.per t ht).2.2.1; rw [show ((0 : Nat) : Int) = 0 from rfl] at hi; omega, fun e => by rw [show ((0 : Nat) : Int) = 0 from rfl, cntB_zero (fun t ht => (HG2.out.per t ht).2.2.1)] at e; omega⟩, Below.refl _ _⟩
      case round =>
        obtain ⟨i, lo, rfl, hi, rfl, rfl, hlo, hb⟩ := hrel
        have HLO := Lib.hid hlo
        have HB := Lib.hid hb
        clear hlo hb
        by_cases hlt : i < c
        · obtain ⟨b2, o2, rfl, q2⟩ := QI.out (by omega)
          have c1 := bcellAt HB.out (q2 i _ (idsL_at c i hlt))
          have hk0 : (0 : Int) ≤ (i : Int) := by omega
          have hk1 : (i : Int) < (c : Int) := by omega
          have HI := Lib.hid hlt
          have hwk : IntKind.i64.wrap ((i : Int) + 1) = (i : Int) + 1 := IntWalk.i64_in _ (by have := HC2.out; omega)
          have hcl : cntB y.ts (i : Int) ≤ 4096 := Nat.le_trans (cntB_le _ _) HG2.out.len
          obtain ⟨cn, hcn⟩ : ∃ cn : Int, cn = (cntB y.ts (i : Int) : Int) := ⟨_, rfl⟩
          have hwc : IntKind.i64.wrap (cn + 1) = cn + 1 := IntWalk.i64_in _ (by omega)
          rw [← hcn]
          have HCN := Lib.hid hcn
          have HSTEP := Lib.hid (cntB_step HG2.out.nd (i : Int))
          clear q2 hlt hcl hcn
          go_wp2_with fail
          refine (dueN (H4.out.below HB.out) (i := (i : Int)) (by have := HC2.out; have := HI.out; unfold i64R; omega)).mono ?_
          cases hf : fnd y.ts (i : Int) with
          | none =>
            have hdue : duePN y (i : Int) = 0 := by unfold duePN; rw [hf]
            have HST : Hid (cntB y.ts ((i : Int) + 1) = cntB y.ts (i : Int)) := Lib.hid (by rw [HSTEP.out, hf]; rfl)
            have HLB := Lib.hid (HLO.out.skip HG2.out.nd hf)
            rw [hdue]
            rintro e w5 ⟨rfl, u5⟩
            have U5 := Lib.hid (bmore HB.out u5)
            clear u5 hf hdue c1
            simp only [Option.isSome_none]
            go_wp2_with fail
            go_roundw
            case rel => exact ⟨i + 1, lo, by push_cast; rfl, by have := HI.out; omega, rfl, by push_cast; rw [HST.out, HCN.out], by push_cast; exact HLB.out, U5.out⟩
            case measure => have := HI.out; have := HC2.out; simp [intOf]; omega
          | some t =>
            have hdue : duePN y (i : Int) = t.tk := by unfold duePN; rw [hf]
            have HST : Hid (cntB y.ts ((i : Int) + 1) = cntB y.ts (i : Int) + 1) := Lib.hid (by rw [HSTEP.out, hf]; rfl)
            have HLB := Lib.hid (HLO.out.take HG2.out.nd hf)
            rw [hdue]
            rintro e w5 ⟨rfl, u5⟩
            have U5 := Lib.hid (bmore HB.out u5)
            clear u5 hf hdue c1
            simp only [Option.isSome_some]
            by_cases h0 : cn = 0
            · have HL2 : Hid (LeastB y.ts ((i : Int) + 1) t.tk) := Lib.hid (by have := HLB.out; rwa [if_pos (.inl (by have := HCN.out; omega))] at this)
              subst h0
              go_wp2_with fail
              go_roundw
              case rel => exact ⟨i + 1, t.tk, by push_cast; rfl, by have := HI.out; omega, rfl, by congr 1; have := HST.out; have := HCN.out; push_cast; omega, by push_cast; exact HL2.out, U5.out⟩
              case measure => have := HI.out; have := HC2.out; simp [intOf]; omega
            · have hb0 : (cn == 0) = false := by simpa using h0
              by_cases hlt2 : t.tk < lo
              · have hd1 : decide (t.tk < lo) = true := by simpa using hlt2
                have HL2 : Hid (LeastB y.ts ((i : Int) + 1) t.tk) := Lib.hid (by have := HLB.out; rwa [if_pos (.inr hlt2)] at this)
                clear hlt2
                go_wp2_with fail
                go_roundw
                case rel => exact ⟨i + 1, t.tk, by push_cast; rfl, by have := HI.out; omega, rfl, by congr 1; have := HST.out; have := HCN.out; push_cast; omega, by push_cast; exact HL2.out, U5.out⟩
                case measure => have := HI.out; have := HC2.out; simp [intOf]; omega
              · have hd1 : decide (t.tk < lo) = false := by simpa using hlt2
                have HL2 : Hid (LeastB y.ts ((i : Int) + 1) lo) := Lib.hid (by have := HLB.out; rwa [if_neg (fun e => e.elim (fun e => h0 (by have := HCN.out; omega)) hlt2)] at this)
                clear hlt2
                go_wp2_with fail
                go_roundw
                case rel => exact ⟨i + 1, lo, by push_cast; rfl, by have := HI.out; omega, rfl, by congr 1; have := HST.out; have := HCN.out; push_cast; omega, by push_cast; exact HL2.out, U5.out⟩
                case measure => have := HI.out; have := HC2.out; simp [intOf]; omega
        · obtain rfl : i = c := by omega
          have hlast : lo = nx := by rw [← HNX.out]; exact (by have := HLO.out; rw [← HID.out] at this; exact this.last HG2.out)
          have hcnt : cntB y.ts ((i : Nat) : Int) = y.ts.length := by rw [← HID.out]; exact cntB_all fun t ht => (HG2.out.per t ht).2.2.2.1
          have hnz : ne = decide (0 < (y.ts.length : Int)) := by rw [← HNE.out]; cases y.ts <;> simp
          subst hlast
          rw [hcnt, hnz]
          have hbd : decide (0 ≤ d ∧ d < (i : Int)) = (decide (0 ≤ d) && decide (d < (i : Int))) := by simp
          (try rw [hbd])
          have HF := Lib.hid (H4.out.below HB.out)
          clear hlt hcnt hnz hbd
          go_wp2_with fail
          all_goals
            refine (lenN HF.out).mono ?_
            rintro e w5 ⟨rfl, rfl⟩
            go_wp2_with fail
            refine (live14 _).mono ?_
            rintro e w6 ⟨rfl, u6⟩
            have U6 := Lib.hid u6
            clear u6
            go_wp2_with fail
            go_returns
            refine ⟨rfl, ?_⟩
            have b4 : Below w.heap.size w1 w4 := T4.out.below U1.out.size (fun k hk => by rcases hk with rfl | rfl <;> omega)
            have b5 := U1.out.trans b4
            have b6 := b5.trans (HB.out.mono b5.size)
            exact b6.trans (U6.out.mono b6.size)
theorem next_all {w : World} {v : Value} {l : List Int} (h : Row w 1 v l.length (ints l)) (hok : ∀ n ∈ l, (Lit.int .i64 n).wf = true) {d : Int} (hd : (Lit.int .i64 d).wf = true) :
    Calls Try.prog 6 #[v, .int .i64 d] w fun e w' => e = .returned (.bool true) ∧ Below w.heap.size w w' := by
  by_cases hl : 80 < l.length
  · exact next_long h d hl
  · exact next_walk h hok (by
      simp only [Lit.wf, Bool.and_eq_true, decide_eq_true_eq] at hd
      exact ⟨Int.le_trans (by decide) hd.1, Int.le_trans hd.2 (by decide)⟩) (by omega)
set_option maxRecDepth 100000 in
/-- What the walk gives, for every argument. -/
theorem tnext_contract (H : Type) (enc : TypeId × Value → H) (W : World) (base : Nat) (args : Array Value) (ds gs : List (DataW H)) (before : List MemPlace)
    (hval0 : ∀ (j : Nat) t v, Try.f6.params[j]? = some t → args[j]? = some v → Value.okWide Try.prog W .any base t v)
    (hW : DataW.Whole enc Try.prog Try.f6.params.toList Rows.timersNextSpec.vars false W args.toList ds gs before) :
    Calls Try.prog 6 args W fun e W' => ∃ v, e = .returned v ∧ Rows.timersNextSpec.post enc Try.prog Try.f6 false true false false W args v W' := by
  have hval : ∀ (j : Nat) t v, Try.f6.params[j]? = some t → args[j]? = some v → Value.okWide Try.prog W .any base t v := hval0
  have hW' := hW
  obtain ⟨p, q, hA0, hV, rfl, hfz, hnd⟩ := hW
  have hA : DataW.TrodAll enc Try.prog W 0 (fun _ => true) true Try.f6.params.toList args.toList ds p := hA0
  rw [Try.params6] at hA hval
  obtain ⟨v0, vs0, d0, ds0, p0, q0, hargs0, rfl, rfl, h0, r0⟩ := trodAll_cons hA
  obtain ⟨v1, vs1, d1, ds1, p1, q1, hargs1, rfl, rfl, h1, r1⟩ := trodAll_cons r0
  obtain ⟨rfl, rfl, rfl⟩ := trodAll_nil r1
  subst hargs1
  obtain rfl : args = #[v0, v1] := by cases args; simp_all
  obtain ⟨rfl, rfl⟩ := trodVars_none hV
  have hv0 := hval 0 53 v0 rfl rfl
  have hc0 : Cell.okWide Try.prog W .any base 53 v0 := by simpa only [Value.okWide, Try.underlying53] using hv0
  obtain ⟨a0, c0, n0, e0⟩ := okWide_slice Try.underlying53 hv0
  obtain ⟨fuel0, hf0⟩ := id h0
  rw [show v0.cells.toList = [v0] by rw [e0]; rfl] at hf0
  obtain ⟨l0, rl0, hs0⟩ := open_num64 hc0 hf0
  obtain ⟨a1, rfl, rfl, rfl, w1⟩ := open_int Try.underlying3 (hval 1 3 v1 rfl rfl) h1
  clear hA0 hval0
  simp only [List.append_nil] at hW'
  refine (next_all rl0 hs0 w1).mono fun e W' ⟨he, bel⟩ => ?_
  subst he
  exact ⟨_, rfl, _, _, _, [], _, [], hW', trodAll_mk1 (shut_bool Try.underlying4 _), (trodAll_cons_mk (Below.trod laidOut (by kernel_rfl) (of_decide_eq_true (by kernel_rfl)) h0 bel (places_lt h0)) (trodAll_cons_mk (shut_int Try.underlying3 w1) trodAll_mk0)), rfl, bel.frame _, fun h => by cases h⟩
set_option maxRecDepth 100000 in
theorem tnext_lifted (os : Os) (started : os.Started) (H : Type) (enc : TypeId × Value → H) :
    ReturnsInHanded {} Try.checked os 6 .any (Rows.timersNextSpec.pre6 enc Try.prog Try.f6 Rows.timersNextRow.domain false) (Rows.timersNextSpec.post enc Try.prog Try.f6 false true false false) := by
  refine returnsInHanded_of_change (C := Try.checked) own started (by kernel_rfl) Try.func6
    (ChangeSpec.witness6 (enc := enc) (C := Try.checked) false ⟨#[], #[.slice none 0 0, .int .i64 0], []⟩ 8 (by kernel_rfl) (by kernel_rfl) (by kernel_rfl) (by kernel_rfl)) ?_
  intro W base args ds gs before hval hW _ _
  exact tnext_contract H enc W base args ds gs before hval hW
/-- The statement. -/
theorem tnext_holds : Rows.TimersNextSaid :=
  OpenClaim.holds_of_wide 6 Try.f6 rfl rfl rfl rfl rfl rfl rfl ⟨rfl, rfl, rfl, rfl, rfl⟩ rfl rfl rfl rfl rfl (by kernel_rfl) Try.func6 (by kernel_rfl)
    (of_decide_eq_true (by kernel_rfl)) (by unfold Func.isWrapper; first | (rw [if_pos (by decide +kernel)]; kernel_rfl) | (rw [if_neg (by decide +kernel)]; exact ⟨rfl, rfl⟩))
    (fun os started H enc _ => tnext_lifted os started H enc)
end Go.Proofs.Ytbgnedeeeaapfaa
