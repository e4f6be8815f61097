/-
  The document's own operations: what each makes of its pool.
  The document's own Run, Eval; its Same of two lists that are one.
-/
import Derived.Test.YtlckneajppfmbaaGreatDoorYLivW
import Derived.Test.YtlckneajppfmbaaGreatDoorTRefMake
namespace Go.Proofs.YtlckneajppfmbaaGreatDoor
open Go.RowKit Go.Maps
set_option linter.unusedVariables false

def oneB (c : Int) : Bool := decide (4 ≤ c) && decide (c ≤ 11)
def twoB9 (c : Int) : Bool := (c == 4) || (decide (9 ≤ c) && decide (c ≤ 11))
/-- The document's own name of a number. -/
def whoP (n : Int) : Int := if 2147483648 < n then -1 else n
theorem one_any (c : Int) (w : World) : Calls Tryz.prog 44 #[.int .i64 c] w fun e w' => e = .returned (.bool (oneB c)) ∧ w = w' := by
  unfold oneB
  by_cases h : 4 ≤ c
  · rw [decide_eq_true h, Bool.true_and]
    cases hd : decide (c ≤ 11)
    all_goals
      go_enter Tryz.func44, Tryz.ntmps44
      go_wp2_with fail
      go_returns
      exact ⟨by simp, rfl⟩
  · have h' : decide (4 ≤ c) = false := decide_eq_false h
    rw [h', Bool.false_and]
    go_enter Tryz.func44, Tryz.ntmps44
    go_wp2_with fail
    go_returns
    exact ⟨rfl, rfl⟩
theorem two9_any (c : Int) (w : World) : Calls Tryz.prog 45 #[.int .i64 c] w fun e w' => e = .returned (.bool (twoB9 c)) ∧ w = w' := by
  unfold twoB9
  cases h4 : (c == 4)
  · rw [Bool.false_or]
    by_cases h : 9 ≤ c
    · rw [decide_eq_true h, Bool.true_and]
      cases hd : decide (c ≤ 11)
      all_goals
        go_enter Tryz.func45, Tryz.ntmps45
        go_wp2_with fail
        go_returns
        exact ⟨by simp, rfl⟩
    · have h' : decide (9 ≤ c) = false := decide_eq_false h
      rw [h', Bool.false_and]
      go_enter Tryz.func45, Tryz.ntmps45
      go_wp2_with fail
      go_returns
      exact ⟨rfl, rfl⟩
  · rw [Bool.true_or]
    go_enter Tryz.func45, Tryz.ntmps45
    go_wp2_with fail
    go_returns
    exact ⟨rfl, rfl⟩
theorem who_any {n : Int} (hn : 0 ≤ n ∧ n ≤ 18446744073709551615) (w : World) : Calls Tryz.prog 47 #[.int .u64 n] w fun e w' => e = .returned (.int .i64 (whoP n)) ∧ w = w' := by
  unfold whoP
  by_cases h : 2147483648 < n
  · rw [if_pos h]
    go_enter Tryz.func47, Tryz.ntmps47
    go_wp2_with fail
    go_returns
    exact ⟨rfl, rfl⟩
  · have h' : decide (2147483648 < n) = false := decide_eq_false h
    rw [if_neg h]
    go_enter Tryz.func47, Tryz.ntmps47
    go_wp2_with fail
    go_returns
    exact ⟨by go_num, rfl⟩
theorem who_i64 {n : Int} (h : 0 ≤ n ∧ n ≤ 18446744073709551615) : i64R (whoP n) := by
  unfold whoP i64R
  split <;> omega
theorem who_name {n : Int} (h0 : 0 ≤ n) (h : ¬ whoP n = nmP n) : nameB (whoP n) = false ∧ nameB (nmP n) = false := by
  have h16 : ¬ n ≤ 16 := fun h' => h (by unfold whoP nmP; rw [if_neg (by omega), if_pos h'])
  constructor
  · unfold whoP nameB
    split
    · rfl
    · simp; omega
  · unfold nmP; rw [if_neg h16]; rfl
theorem shp_to {f t x : Int} (h : nameB t = false) : shp ⟨8, f, t, 0, emptyS, x, 0⟩ = 50 := by
  have hp : plainB ⟨8, f, t, 0, emptyS, x, 0⟩ = true := by
    have e : emptyS.toList = [] := by rw [ByteArray.toList_eq]; rfl
    simp [plainB, namedB, twoB, kidsN, e]
  unfold shp
  rw [if_neg (by rw [hp]; decide), if_pos (by simp [namedB, twoB, h])]
theorem shp_frm {f t x : Int} (h : nameB f = false) : shp ⟨9, f, t, 0, emptyS, x, 0⟩ = 50 := by
  have hp : plainB ⟨9, f, t, 0, emptyS, x, 0⟩ = true := by
    have e : emptyS.toList = [] := by rw [ByteArray.toList_eq]; rfl
    simp [plainB, namedB, twoB, kidsN, e]
  unfold shp
  rw [if_neg (by rw [hp]; decide), if_pos (by simp [namedB, twoB, h])]
theorem mk_shp {p : Pl} {n : Nd} (h : shp n = 50) : mkP p n = (0, 50, p) := by
  have e : errP p n = 50 := by unfold errP; rw [if_pos (by rw [h]; decide), h]
  unfold mkP
  rw [if_pos (by rw [e]; decide), e]
theorem mk_who8 (p : Pl) (f x : Int) {n : Int} (h0 : 0 ≤ n) : mkP p ⟨8, f, whoP n, 0, emptyS, x, 0⟩ = mkP p ⟨8, f, nmP n, 0, emptyS, x, 0⟩ := by
  by_cases h : whoP n = nmP n
  · rw [h]
  · obtain ⟨h1, h2⟩ := who_name h0 h
    rw [mk_shp (shp_to h1), mk_shp (shp_to h2)]
theorem mk_who9 (p : Pl) (f x : Int) {n : Int} (h0 : 0 ≤ n) : mkP p ⟨9, whoP n, f, 0, emptyS, x, 0⟩ = mkP p ⟨9, nmP n, f, 0, emptyS, x, 0⟩ := by
  by_cases h : whoP n = nmP n
  · rw [h]
  · obtain ⟨h1, h2⟩ := who_name h0 h
    rw [mk_shp (shp_frm h1), mk_shp (shp_frm h2)]
theorem up3 (m : List Int) (i : Int) : (i < 0 ∧ upB m i = false) ∨ (∃ n : Nat, i = (n : Int) ∧ m.length ≤ n ∧ upB m i = false) ∨ (∃ n : Nat, i = (n : Int) ∧ n < m.length ∧ upB m i = true) := by
  by_cases h : i < 0
  · exact .inl ⟨h, by unfold upB; rw [decide_eq_false (by omega), Bool.false_and]⟩
  · obtain ⟨n, rfl⟩ := Int.eq_ofNat_of_zero_le (show 0 ≤ i by omega)
    by_cases h' : n < m.length
    · exact .inr (.inr ⟨n, rfl, h', by unfold upB; rw [decide_eq_true (by omega), decide_eq_true (by omega)]; rfl⟩)
    · exact .inr (.inl ⟨n, rfl, by omega, by unfold upB; rw [decide_eq_true (show (0 : Int) ≤ (n : Int) by omega), decide_eq_false (by omega)]; rfl⟩)
/-- A term of a row. -/
theorem row_at {w : World} {v : Value} {m : List Int} (h : Row w 1 v m.length (ints m)) {n : Nat} (hn : n < m.length) : ∃ mb mo mc, v = .slice (some ⟨mb, mo, none⟩) m.length mc ∧ w.cell? ⟨mb, mo + n, none⟩ = some (.int .i64 (mdP m (n : Int))) := by
  obtain ⟨qa, qc, hqe, hqx⟩ := h.at
  obtain ⟨gb, go, rfl, qq⟩ := hqx (by omega)
  refine ⟨gb, go, qc, hqe, ?_⟩
  unfold mdP
  rw [show ((n : Int)).toNat = n by omega, List.getD_eq_getElem?_getD, List.getElem?_eq_getElem hn, Option.getD_some]
  exact qq n _ (ints_at m n hn)
theorem wpList_store_row {P : Program} {ops : Array Oper} {rest : List Oper} {o : Oper} {a : Act} {w : World} {Q : Exit → Act → World → Prop} (hgd : o.guard = none) (ty : TypeId) (x y : Operand) (ho : o.op = .store ty x y)
    (g : Nat) (cells : Array Value) (hx : a.eval x = .pointer (some ⟨g, 0, none⟩)) (hy : a.eval y = .agg cells)
    (t : TypeId) (old : Array Value) (hg : w.heap[g]? = some (.cells old t (0, 0))) (hi : (P.info? ty).map (·.size) = some cells.size)
    (hold : old.size = cells.size) (h1 : cells.all (·.oneCell') = true)
    (h : wpList P ops Q rest (a.put o.dst undef) (w.setRow g cells)) : wpList P ops Q (o :: rest) a w :=
  wpList_plain hgd fun _ hK => wp_store_row ty x y ho g cells hx hy t old hg hi hold h1 (hK _ _ h)
section
variable {w : World} {B a : Nat} {vl vs vd : Value} {p : Pl} {gvl mvl : Value} {g m : List Int}
theorem RGrew.after {w0 : World} {p' : Pl} {w' : World} (h : IsRef w B a vl vs vd p) (h0 : Below w.heap.size w w0) (hg : RGrew w0 B a vl vs vd p' w') : RGrew w B a vl vs vd p' w' := by
  obtain ⟨g1, g2, vl', vs', vd', g3, g4⟩ := hg
  refine ⟨(h0.mono (Nat.le_trans h.ga (Nat.le_of_lt h.lt))).trans g1, fun k hk e1 e2 e3 e4 => ?_, vl', vs', vd', g3, ?_⟩
  · rw [g2 k (Nat.lt_of_lt_of_le hk h0.size) e1 e2 e3 e4, h0.block k hk]
  · rcases g4 with e | ⟨g, e, hg⟩
    · exact .inl e
    · exact .inr ⟨g, e, Nat.le_trans h0.size hg⟩
def RDoOK (r : Int × Int × Pl) (n : Nd) (p : Pl) : Prop := r = mkP p n
theorem rnd_i64 (h : IsRef w B a vl vs vd p) (t : Int) : NdOk (atP p t).1 := by
  cases hin : inP p t with
  | false => rw [atP_out hin]; exact ⟨(by unfold i64R zeroM zeroN; simp), (by unfold i64R zeroM zeroN; simp), (by unfold i64R zeroM zeroN; simp), (by unfold zeroM zeroN; simp), (by decide), (by unfold i64R zeroM zeroN; simp), (by unfold i64R zeroM zeroN; simp)⟩
  | true =>
    simp only [inP, Bool.and_eq_true, decide_eq_true_eq] at hin
    obtain ⟨i, rfl⟩ : ∃ i : Nat, t = (i : Int) + 1 := ⟨(t - 1).toNat, by omega⟩
    rw [getD_at (show i < p.length by omega)]
    exact h.nok _ (List.getElem_mem _)
/-- What the document's operation leaves. -/
def RDoPost (w : World) (B a : Nat) (vl vs vd : Value) (r : Int × Int × Pl) (e : Ending) (w' : World) : Prop :=
  e = .returned (.tuple #[.int .i64 r.1, .int .i64 r.2.1]) ∧ RGrew w B a vl vs vd r.2.2 w'
set_option maxRecDepth 100000 in
set_option maxHeartbeats 6400000 in
theorem rdo_0 (hrf : IsRef w B a vl vs vd p) (hg : Row w 1 gvl g.length (ints g)) (hm : Row w 1 mvl m.length (ints m)) (hmi : ∀ x ∈ m, i64R x) {oa ob on : Int} {os : ByteArray} (hoa : i64R oa) (hon : 0 ≤ on ∧ on ≤ 18446744073709551615) (hos : os.size ≤ maxLen) : Calls Tryz.prog 28 #[.pointer (some ⟨a, 0, none⟩), gvl, mvl, .agg #[.int .i64 0, .int .i64 oa, .int .i64 ob, .int .u64 on, .string os]] w (RDoPost w B a vl vs vd (doP p g m ⟨0, oa, ob, on, os⟩)) := by
  obtain ⟨r, hr⟩ : ∃ r, r = doP p g m ⟨0, oa, ob, on, os⟩ := ⟨_, rfl⟩
  rw [← hr]
  rw [show doP p g m ⟨0, oa, ob, on, os⟩ = (if upB g oa = true then (mdP g oa, 0, p) else noP p) from rfl] at hr
  have HR := Lib.hid hr
  clear hr
  obtain ⟨ga, gc, rfl⟩ := hg.shape
  obtain ⟨ma, mc, rfl⟩ := hm.shape
  have HRF := Lib.hid hrf
  have HG := Lib.hid hg
  have HM := Lib.hid hm
  have HMI := Lib.hid hmi
  have HON := Lib.hid hon
  have HOS := Lib.hid hos
  have HOA := Lib.hid hoa
  have hone : oneB 0 = false := rfl
  have htwo : twoB9 0 = false := rfl
  clear hrf hg hm hmi hon hos hoa
  rcases up3 g oa with ⟨hneg, hu⟩ | ⟨n, rfl, hbig, hu⟩ | ⟨n, rfl, hlt, hu⟩
  · have hdn : decide (oa < 0) = true := decide_eq_true hneg
    have bO := bA0 w (.cells #[.int .i64 0, .int .i64 oa, .int .i64 ob, .int .u64 on, .string os] OpT)
    have hO := heap_alloc_new w (.cells #[.int .i64 0, .int .i64 oa, .int .i64 ob, .int .u64 on, .string os] OpT)
    have y0 := cellB (j := 0) hO rfl
    have y1 := cellB (j := 1) hO rfl
    have y2 := cellB (j := 2) hO rfl
    have y3 := cellB (j := 3) hO rfl
    have y4 := cellB (j := 4) hO rfl
    have HA := Lib.hid bO
    have HO := Lib.hid hO
    clear bO hO
    go_enter Tryz.func28, Tryz.ntmps28
    go_wp2_with fail
    refine (one_any _ _).mono ?_
    rintro e w' ⟨rfl, rfl⟩
    rw [hone]
    go_wp2_with fail
    refine (two9_any _ _).mono ?_
    rintro e w' ⟨rfl, rfl⟩
    rw [htwo]
    go_wp2_with fail
    refine (one_any _ _).mono ?_
    rintro e w' ⟨rfl, rfl⟩
    rw [hone]
    have RN := Lib.hid (rnode (HRF.out.below HA.out) 0)
    have hndok := rnd_i64 HRF.out 0
    generalize hnn : (atP p 0).1 = nn at *
    have HNN := Lib.hid hnn
    clear hnn
    obtain ⟨nk, nf, nt, nu, ns, nx, ny⟩ := nn
    simp only [nodeA] at RN
    go_wp2_with fail
    refine RN.out.mono ?_
    rintro e w1 ⟨rfl, u1⟩
    obtain ⟨bX, hX, hK⟩ := two_boxes w1 (.cells #[.int .i64 nk, .int .i64 nf, .int .i64 nt, .int .u64 nu, .string ns, .int .i64 nx, .int .i64 ny] NodeT) (.cells #[.int .i64 0, .int .i64 0, .int .i64 0, .int .u64 0, .string ⟨#[]⟩, .int .i64 0, .int .i64 0] NodeT)
    have HX := Lib.hid (bmore HA.out (bmore u1 bX))
    have ho2 := Hold.below (bmore u1 bX) _ _ HO.out
    have HO2 := Lib.hid ho2
    have HKB := Lib.hid hK
    have n0 := cellB (j := 0) hX rfl
    have n5 := cellB (j := 5) hX rfl
    have n6 := cellB (j := 6) hX rfl
    have y0 := cellB (j := 0) ho2 rfl
    have y1 := cellB (j := 1) ho2 rfl
    have y2 := cellB (j := 2) ho2 rfl
    have y3 := cellB (j := 3) ho2 rfl
    have y4 := cellB (j := 4) ho2 rfl
    have hkb : w.heap.size ≤ w1.heap.size := Nat.le_trans HA.out.size u1.size
    clear bX hX hK ho2 u1 RN
    have er := HR.out
    clear er
    have er : r = noP p := by rw [HR.out]; exact if_neg (by rw [hu]; decide)
    go_wp2_with fail
    go_returns
    rw [er]
    exact ⟨rfl, RGrew.same HRF.out HX.out⟩
  · have hdn : decide ((n : Int) < 0) = false := decide_eq_false (by omega)
    have hdb : decide ((g.length : Int) ≤ (n : Int)) = true := decide_eq_true (by omega)
    have hdb2 : decide (g.length ≤ n) = true := decide_eq_true hbig
    have bO := bA0 w (.cells #[.int .i64 0, .int .i64 (n : Int), .int .i64 ob, .int .u64 on, .string os] OpT)
    have hO := heap_alloc_new w (.cells #[.int .i64 0, .int .i64 (n : Int), .int .i64 ob, .int .u64 on, .string os] OpT)
    have y0 := cellB (j := 0) hO rfl
    have y1 := cellB (j := 1) hO rfl
    have y2 := cellB (j := 2) hO rfl
    have y3 := cellB (j := 3) hO rfl
    have y4 := cellB (j := 4) hO rfl
    have HA := Lib.hid bO
    have HO := Lib.hid hO
    clear bO hO
    go_enter Tryz.func28, Tryz.ntmps28
    go_wp2_with fail
    refine (one_any _ _).mono ?_
    rintro e w' ⟨rfl, rfl⟩
    rw [hone]
    go_wp2_with fail
    refine (two9_any _ _).mono ?_
    rintro e w' ⟨rfl, rfl⟩
    rw [htwo]
    go_wp2_with fail
    refine (one_any _ _).mono ?_
    rintro e w' ⟨rfl, rfl⟩
    rw [hone]
    have RN := Lib.hid (rnode (HRF.out.below HA.out) 0)
    have hndok := rnd_i64 HRF.out 0
    generalize hnn : (atP p 0).1 = nn at *
    have HNN := Lib.hid hnn
    clear hnn
    obtain ⟨nk, nf, nt, nu, ns, nx, ny⟩ := nn
    simp only [nodeA] at RN
    go_wp2_with fail
    refine RN.out.mono ?_
    rintro e w1 ⟨rfl, u1⟩
    obtain ⟨bX, hX, hK⟩ := two_boxes w1 (.cells #[.int .i64 nk, .int .i64 nf, .int .i64 nt, .int .u64 nu, .string ns, .int .i64 nx, .int .i64 ny] NodeT) (.cells #[.int .i64 0, .int .i64 0, .int .i64 0, .int .u64 0, .string ⟨#[]⟩, .int .i64 0, .int .i64 0] NodeT)
    have HX := Lib.hid (bmore HA.out (bmore u1 bX))
    have ho2 := Hold.below (bmore u1 bX) _ _ HO.out
    have HO2 := Lib.hid ho2
    have HKB := Lib.hid hK
    have n0 := cellB (j := 0) hX rfl
    have n5 := cellB (j := 5) hX rfl
    have n6 := cellB (j := 6) hX rfl
    have y0 := cellB (j := 0) ho2 rfl
    have y1 := cellB (j := 1) ho2 rfl
    have y2 := cellB (j := 2) ho2 rfl
    have y3 := cellB (j := 3) ho2 rfl
    have y4 := cellB (j := 4) ho2 rfl
    have hkb : w.heap.size ≤ w1.heap.size := Nat.le_trans HA.out.size u1.size
    clear bX hX hK ho2 u1 RN
    have er := HR.out
    clear er
    have er : r = noP p := by rw [HR.out]; exact if_neg (by rw [hu]; decide)
    go_wp2_with fail
    go_returns
    rw [er]
    exact ⟨rfl, RGrew.same HRF.out HX.out⟩
  · obtain ⟨gb, go, gcc, hge, hgc⟩ := row_at HG.out hlt
    cases hge
    have hdn : decide ((n : Int) < 0) = false := decide_eq_false (by omega)
    have hdb : decide ((g.length : Int) ≤ (n : Int)) = false := decide_eq_false (by omega)
    have hdb2 : decide (g.length ≤ n) = false := decide_eq_false (by omega)
    have hn0 : (0 : Int) ≤ (n : Int) := by omega
    have hn1 : (n : Int) < (g.length : Int) := by omega
    have bO := bA0 w (.cells #[.int .i64 0, .int .i64 (n : Int), .int .i64 ob, .int .u64 on, .string os] OpT)
    have hO := heap_alloc_new w (.cells #[.int .i64 0, .int .i64 (n : Int), .int .i64 ob, .int .u64 on, .string os] OpT)
    have y0 := cellB (j := 0) hO rfl
    have y1 := cellB (j := 1) hO rfl
    have y2 := cellB (j := 2) hO rfl
    have y3 := cellB (j := 3) hO rfl
    have y4 := cellB (j := 4) hO rfl
    have HA := Lib.hid bO
    have HO := Lib.hid hO
    clear bO hO
    go_enter Tryz.func28, Tryz.ntmps28
    go_wp2_with fail
    refine (one_any _ _).mono ?_
    rintro e w' ⟨rfl, rfl⟩
    rw [hone]
    go_wp2_with fail
    refine (two9_any _ _).mono ?_
    rintro e w' ⟨rfl, rfl⟩
    rw [htwo]
    go_wp2_with fail
    refine (one_any _ _).mono ?_
    rintro e w' ⟨rfl, rfl⟩
    rw [hone]
    have RN := Lib.hid (rnode (HRF.out.below HA.out) 0)
    have hndok := rnd_i64 HRF.out 0
    generalize hnn : (atP p 0).1 = nn at *
    have HNN := Lib.hid hnn
    clear hnn
    obtain ⟨nk, nf, nt, nu, ns, nx, ny⟩ := nn
    simp only [nodeA] at RN
    go_wp2_with fail
    refine RN.out.mono ?_
    rintro e w1 ⟨rfl, u1⟩
    obtain ⟨bX, hX, hK⟩ := two_boxes w1 (.cells #[.int .i64 nk, .int .i64 nf, .int .i64 nt, .int .u64 nu, .string ns, .int .i64 nx, .int .i64 ny] NodeT) (.cells #[.int .i64 0, .int .i64 0, .int .i64 0, .int .u64 0, .string ⟨#[]⟩, .int .i64 0, .int .i64 0] NodeT)
    have HX := Lib.hid (bmore HA.out (bmore u1 bX))
    have ho2 := Hold.below (bmore u1 bX) _ _ HO.out
    have HO2 := Lib.hid ho2
    have HKB := Lib.hid hK
    have n0 := cellB (j := 0) hX rfl
    have n5 := cellB (j := 5) hX rfl
    have n6 := cellB (j := 6) hX rfl
    have y0 := cellB (j := 0) ho2 rfl
    have y1 := cellB (j := 1) ho2 rfl
    have y2 := cellB (j := 2) ho2 rfl
    have y3 := cellB (j := 3) ho2 rfl
    have y4 := cellB (j := 4) ho2 rfl
    have hkb : w.heap.size ≤ w1.heap.size := Nat.le_trans HA.out.size u1.size
    clear bX hX hK ho2 u1 RN
    have er := HR.out
    clear er
    have c2 := bcellAt HX.out hgc
    have er : r = (mdP g (n : Int), 0, p) := by rw [HR.out]; exact if_pos hu
    generalize mdP g (n : Int) = tg at *
    clear HR
    go_wp2_with fail
    go_returns
    rw [er]
    exact ⟨rfl, RGrew.same HRF.out HX.out⟩
set_option maxRecDepth 100000 in
set_option maxHeartbeats 6400000 in
theorem rdo_1 (hrf : IsRef w B a vl vs vd p) (hg : Row w 1 gvl g.length (ints g)) (hm : Row w 1 mvl m.length (ints m)) (hmi : ∀ x ∈ m, i64R x) {oa ob on : Int} {os : ByteArray} (hoa : i64R oa) (hon : 0 ≤ on ∧ on ≤ 18446744073709551615) (hos : os.size ≤ maxLen) : Calls Tryz.prog 28 #[.pointer (some ⟨a, 0, none⟩), gvl, mvl, .agg #[.int .i64 1, .int .i64 oa, .int .i64 ob, .int .u64 on, .string os]] w (RDoPost w B a vl vs vd (doP p g m ⟨1, oa, ob, on, os⟩)) := by
  obtain ⟨r, hr⟩ : ∃ r, r = doP p g m ⟨1, oa, ob, on, os⟩ := ⟨_, rfl⟩
  rw [← hr]
  rw [show doP p g m ⟨1, oa, ob, on, os⟩ = mkP p ⟨1, oa, 0, 0, emptyS, 0, 0⟩ from rfl] at hr
  have HR := Lib.hid hr
  clear hr
  obtain ⟨ga, gc, rfl⟩ := hg.shape
  obtain ⟨ma, mc, rfl⟩ := hm.shape
  have HRF := Lib.hid hrf
  have HG := Lib.hid hg
  have HM := Lib.hid hm
  have HMI := Lib.hid hmi
  have HON := Lib.hid hon
  have HOS := Lib.hid hos
  have HOA := Lib.hid hoa
  have hone : oneB 1 = false := rfl
  have htwo : twoB9 1 = false := rfl
  clear hrf hg hm hmi hon hos hoa
  have bO := bA0 w (.cells #[.int .i64 1, .int .i64 oa, .int .i64 ob, .int .u64 on, .string os] OpT)
  have hO := heap_alloc_new w (.cells #[.int .i64 1, .int .i64 oa, .int .i64 ob, .int .u64 on, .string os] OpT)
  have y0 := cellB (j := 0) hO rfl
  have y1 := cellB (j := 1) hO rfl
  have y2 := cellB (j := 2) hO rfl
  have y3 := cellB (j := 3) hO rfl
  have y4 := cellB (j := 4) hO rfl
  have HA := Lib.hid bO
  have HO := Lib.hid hO
  clear bO hO
  go_enter Tryz.func28, Tryz.ntmps28
  go_wp2_with fail
  refine (one_any _ _).mono ?_
  rintro e w' ⟨rfl, rfl⟩
  rw [hone]
  go_wp2_with fail
  refine (two9_any _ _).mono ?_
  rintro e w' ⟨rfl, rfl⟩
  rw [htwo]
  go_wp2_with fail
  refine (one_any _ _).mono ?_
  rintro e w' ⟨rfl, rfl⟩
  rw [hone]
  have RN := Lib.hid (rnode (HRF.out.below HA.out) 0)
  have hndok := rnd_i64 HRF.out 0
  generalize hnn : (atP p 0).1 = nn at *
  have HNN := Lib.hid hnn
  clear hnn
  obtain ⟨nk, nf, nt, nu, ns, nx, ny⟩ := nn
  simp only [nodeA] at RN
  go_wp2_with fail
  refine RN.out.mono ?_
  rintro e w1 ⟨rfl, u1⟩
  obtain ⟨bX, hX, hK⟩ := two_boxes w1 (.cells #[.int .i64 nk, .int .i64 nf, .int .i64 nt, .int .u64 nu, .string ns, .int .i64 nx, .int .i64 ny] NodeT) (.cells #[.int .i64 0, .int .i64 0, .int .i64 0, .int .u64 0, .string ⟨#[]⟩, .int .i64 0, .int .i64 0] NodeT)
  have HX := Lib.hid (bmore HA.out (bmore u1 bX))
  have ho2 := Hold.below (bmore u1 bX) _ _ HO.out
  have HO2 := Lib.hid ho2
  have HKB := Lib.hid hK
  have n0 := cellB (j := 0) hX rfl
  have n5 := cellB (j := 5) hX rfl
  have n6 := cellB (j := 6) hX rfl
  have y0 := cellB (j := 0) ho2 rfl
  have y1 := cellB (j := 1) ho2 rfl
  have y2 := cellB (j := 2) ho2 rfl
  have y3 := cellB (j := 3) ho2 rfl
  have y4 := cellB (j := 4) ho2 rfl
  have hkb : w.heap.size ≤ w1.heap.size := Nat.le_trans HA.out.size u1.size
  clear bX hX hK ho2 u1 RN
  have RM := Lib.hid (rmake (HRF.out.below HX.out) (n := ⟨1, oa, 0, 0, emptyS, 0, 0⟩) ⟨(i64R_lit (by simp)), HOA.out, (i64R_lit (by simp)), (by simp), emptyS_le, (i64R_lit (by simp)), (i64R_lit (by simp))⟩)
  go_wp2_with fail
  refine RM.out.mono ?_
  rintro e w9 hp9
  have er := HR.out
  obtain ⟨he9, g9⟩ := hp9
  rw [← er] at he9 g9
  subst he9
  have HGR := Lib.hid (RGrew.after HRF.out HX.out g9)
  clear g9 er
  go_wp2_with fail
  go_returns
  exact ⟨rfl, HGR.out⟩
set_option maxRecDepth 100000 in
set_option maxHeartbeats 6400000 in
theorem rdo_2 (hrf : IsRef w B a vl vs vd p) (hg : Row w 1 gvl g.length (ints g)) (hm : Row w 1 mvl m.length (ints m)) (hmi : ∀ x ∈ m, i64R x) {oa ob on : Int} {os : ByteArray} (hoa : i64R oa) (hon : 0 ≤ on ∧ on ≤ 18446744073709551615) (hos : os.size ≤ maxLen) : Calls Tryz.prog 28 #[.pointer (some ⟨a, 0, none⟩), gvl, mvl, .agg #[.int .i64 2, .int .i64 oa, .int .i64 ob, .int .u64 on, .string os]] w (RDoPost w B a vl vs vd (doP p g m ⟨2, oa, ob, on, os⟩)) := by
  obtain ⟨r, hr⟩ : ∃ r, r = doP p g m ⟨2, oa, ob, on, os⟩ := ⟨_, rfl⟩
  rw [← hr]
  rw [show doP p g m ⟨2, oa, ob, on, os⟩ = mkP p ⟨2, 0, 0, on, emptyS, 0, 0⟩ from rfl] at hr
  have HR := Lib.hid hr
  clear hr
  obtain ⟨ga, gc, rfl⟩ := hg.shape
  obtain ⟨ma, mc, rfl⟩ := hm.shape
  have HRF := Lib.hid hrf
  have HG := Lib.hid hg
  have HM := Lib.hid hm
  have HMI := Lib.hid hmi
  have HON := Lib.hid hon
  have HOS := Lib.hid hos
  have HOA := Lib.hid hoa
  have hone : oneB 2 = false := rfl
  have htwo : twoB9 2 = false := rfl
  clear hrf hg hm hmi hon hos hoa
  have bO := bA0 w (.cells #[.int .i64 2, .int .i64 oa, .int .i64 ob, .int .u64 on, .string os] OpT)
  have hO := heap_alloc_new w (.cells #[.int .i64 2, .int .i64 oa, .int .i64 ob, .int .u64 on, .string os] OpT)
  have y0 := cellB (j := 0) hO rfl
  have y1 := cellB (j := 1) hO rfl
  have y2 := cellB (j := 2) hO rfl
  have y3 := cellB (j := 3) hO rfl
  have y4 := cellB (j := 4) hO rfl
  have HA := Lib.hid bO
  have HO := Lib.hid hO
  clear bO hO
  go_enter Tryz.func28, Tryz.ntmps28
  go_wp2_with fail
  refine (one_any _ _).mono ?_
  rintro e w' ⟨rfl, rfl⟩
  rw [hone]
  go_wp2_with fail
  refine (two9_any _ _).mono ?_
  rintro e w' ⟨rfl, rfl⟩
  rw [htwo]
  go_wp2_with fail
  refine (one_any _ _).mono ?_
  rintro e w' ⟨rfl, rfl⟩
  rw [hone]
  have RN := Lib.hid (rnode (HRF.out.below HA.out) 0)
  have hndok := rnd_i64 HRF.out 0
  generalize hnn : (atP p 0).1 = nn at *
  have HNN := Lib.hid hnn
  clear hnn
  obtain ⟨nk, nf, nt, nu, ns, nx, ny⟩ := nn
  simp only [nodeA] at RN
  go_wp2_with fail
  refine RN.out.mono ?_
  rintro e w1 ⟨rfl, u1⟩
  obtain ⟨bX, hX, hK⟩ := two_boxes w1 (.cells #[.int .i64 nk, .int .i64 nf, .int .i64 nt, .int .u64 nu, .string ns, .int .i64 nx, .int .i64 ny] NodeT) (.cells #[.int .i64 0, .int .i64 0, .int .i64 0, .int .u64 0, .string ⟨#[]⟩, .int .i64 0, .int .i64 0] NodeT)
  have HX := Lib.hid (bmore HA.out (bmore u1 bX))
  have ho2 := Hold.below (bmore u1 bX) _ _ HO.out
  have HO2 := Lib.hid ho2
  have HKB := Lib.hid hK
  have n0 := cellB (j := 0) hX rfl
  have n5 := cellB (j := 5) hX rfl
  have n6 := cellB (j := 6) hX rfl
  have y0 := cellB (j := 0) ho2 rfl
  have y1 := cellB (j := 1) ho2 rfl
  have y2 := cellB (j := 2) ho2 rfl
  have y3 := cellB (j := 3) ho2 rfl
  have y4 := cellB (j := 4) ho2 rfl
  have hkb : w.heap.size ≤ w1.heap.size := Nat.le_trans HA.out.size u1.size
  clear bX hX hK ho2 u1 RN
  have RM := Lib.hid (rmake (HRF.out.below HX.out) (n := ⟨2, 0, 0, on, emptyS, 0, 0⟩) ⟨(i64R_lit (by simp)), (i64R_lit (by simp)), (i64R_lit (by simp)), HON.out, emptyS_le, (i64R_lit (by simp)), (i64R_lit (by simp))⟩)
  go_wp2_with fail
  refine RM.out.mono ?_
  rintro e w9 hp9
  have er := HR.out
  obtain ⟨he9, g9⟩ := hp9
  rw [← er] at he9 g9
  subst he9
  have HGR := Lib.hid (RGrew.after HRF.out HX.out g9)
  clear g9 er
  go_wp2_with fail
  go_returns
  exact ⟨rfl, HGR.out⟩
set_option maxRecDepth 100000 in
set_option maxHeartbeats 6400000 in
theorem rdo_3 (hrf : IsRef w B a vl vs vd p) (hg : Row w 1 gvl g.length (ints g)) (hm : Row w 1 mvl m.length (ints m)) (hmi : ∀ x ∈ m, i64R x) {oa ob on : Int} {os : ByteArray} (hoa : i64R oa) (hon : 0 ≤ on ∧ on ≤ 18446744073709551615) (hos : os.size ≤ maxLen) : Calls Tryz.prog 28 #[.pointer (some ⟨a, 0, none⟩), gvl, mvl, .agg #[.int .i64 3, .int .i64 oa, .int .i64 ob, .int .u64 on, .string os]] w (RDoPost w B a vl vs vd (doP p g m ⟨3, oa, ob, on, os⟩)) := by
  obtain ⟨r, hr⟩ : ∃ r, r = doP p g m ⟨3, oa, ob, on, os⟩ := ⟨_, rfl⟩
  rw [← hr]
  rw [show doP p g m ⟨3, oa, ob, on, os⟩ = mkP p ⟨3, 0, 0, 0, os, 0, 0⟩ from rfl] at hr
  have HR := Lib.hid hr
  clear hr
  obtain ⟨ga, gc, rfl⟩ := hg.shape
  obtain ⟨ma, mc, rfl⟩ := hm.shape
  have HRF := Lib.hid hrf
  have HG := Lib.hid hg
  have HM := Lib.hid hm
  have HMI := Lib.hid hmi
  have HON := Lib.hid hon
  have HOS := Lib.hid hos
  have HOA := Lib.hid hoa
  have hone : oneB 3 = false := rfl
  have htwo : twoB9 3 = false := rfl
  clear hrf hg hm hmi hon hos hoa
  have bO := bA0 w (.cells #[.int .i64 3, .int .i64 oa, .int .i64 ob, .int .u64 on, .string os] OpT)
  have hO := heap_alloc_new w (.cells #[.int .i64 3, .int .i64 oa, .int .i64 ob, .int .u64 on, .string os] OpT)
  have y0 := cellB (j := 0) hO rfl
  have y1 := cellB (j := 1) hO rfl
  have y2 := cellB (j := 2) hO rfl
  have y3 := cellB (j := 3) hO rfl
  have y4 := cellB (j := 4) hO rfl
  have HA := Lib.hid bO
  have HO := Lib.hid hO
  clear bO hO
  go_enter Tryz.func28, Tryz.ntmps28
  go_wp2_with fail
  refine (one_any _ _).mono ?_
  rintro e w' ⟨rfl, rfl⟩
  rw [hone]
  go_wp2_with fail
  refine (two9_any _ _).mono ?_
  rintro e w' ⟨rfl, rfl⟩
  rw [htwo]
  go_wp2_with fail
  refine (one_any _ _).mono ?_
  rintro e w' ⟨rfl, rfl⟩
  rw [hone]
  have RN := Lib.hid (rnode (HRF.out.below HA.out) 0)
  have hndok := rnd_i64 HRF.out 0
  generalize hnn : (atP p 0).1 = nn at *
  have HNN := Lib.hid hnn
  clear hnn
  obtain ⟨nk, nf, nt, nu, ns, nx, ny⟩ := nn
  simp only [nodeA] at RN
  go_wp2_with fail
  refine RN.out.mono ?_
  rintro e w1 ⟨rfl, u1⟩
  obtain ⟨bX, hX, hK⟩ := two_boxes w1 (.cells #[.int .i64 nk, .int .i64 nf, .int .i64 nt, .int .u64 nu, .string ns, .int .i64 nx, .int .i64 ny] NodeT) (.cells #[.int .i64 0, .int .i64 0, .int .i64 0, .int .u64 0, .string ⟨#[]⟩, .int .i64 0, .int .i64 0] NodeT)
  have HX := Lib.hid (bmore HA.out (bmore u1 bX))
  have ho2 := Hold.below (bmore u1 bX) _ _ HO.out
  have HO2 := Lib.hid ho2
  have HKB := Lib.hid hK
  have n0 := cellB (j := 0) hX rfl
  have n5 := cellB (j := 5) hX rfl
  have n6 := cellB (j := 6) hX rfl
  have y0 := cellB (j := 0) ho2 rfl
  have y1 := cellB (j := 1) ho2 rfl
  have y2 := cellB (j := 2) ho2 rfl
  have y3 := cellB (j := 3) ho2 rfl
  have y4 := cellB (j := 4) ho2 rfl
  have hkb : w.heap.size ≤ w1.heap.size := Nat.le_trans HA.out.size u1.size
  clear bX hX hK ho2 u1 RN
  have RM := Lib.hid (rmake (HRF.out.below HX.out) (n := ⟨3, 0, 0, 0, os, 0, 0⟩) ⟨(i64R_lit (by simp)), (i64R_lit (by simp)), (i64R_lit (by simp)), (by simp), HOS.out, (i64R_lit (by simp)), (i64R_lit (by simp))⟩)
  go_wp2_with fail
  refine RM.out.mono ?_
  rintro e w9 hp9
  have er := HR.out
  obtain ⟨he9, g9⟩ := hp9
  rw [← er] at he9 g9
  subst he9
  have HGR := Lib.hid (RGrew.after HRF.out HX.out g9)
  clear g9 er
  go_wp2_with fail
  go_returns
  exact ⟨rfl, HGR.out⟩
set_option maxRecDepth 100000 in
set_option maxHeartbeats 6400000 in
theorem rdo_4 (hrf : IsRef w B a vl vs vd p) (hg : Row w 1 gvl g.length (ints g)) (hm : Row w 1 mvl m.length (ints m)) (hmi : ∀ x ∈ m, i64R x) {oa ob on : Int} {os : ByteArray} (hoa : i64R oa) (hon : 0 ≤ on ∧ on ≤ 18446744073709551615) (hos : os.size ≤ maxLen) : Calls Tryz.prog 28 #[.pointer (some ⟨a, 0, none⟩), gvl, mvl, .agg #[.int .i64 4, .int .i64 oa, .int .i64 ob, .int .u64 on, .string os]] w (RDoPost w B a vl vs vd (doP p g m ⟨4, oa, ob, on, os⟩)) := by
  obtain ⟨r, hr⟩ : ∃ r, r = doP p g m ⟨4, oa, ob, on, os⟩ := ⟨_, rfl⟩
  rw [← hr]
  rw [show doP p g m ⟨4, oa, ob, on, os⟩ = (if (upB m oa && upB m ob) = true then mkP p ⟨4, 0, 0, 0, emptyS, mdP m oa, mdP m ob⟩ else noP p) from rfl] at hr
  have HR := Lib.hid hr
  clear hr
  obtain ⟨ga, gc, rfl⟩ := hg.shape
  obtain ⟨ma, mc, rfl⟩ := hm.shape
  have HRF := Lib.hid hrf
  have HG := Lib.hid hg
  have HM := Lib.hid hm
  have HMI := Lib.hid hmi
  have HON := Lib.hid hon
  have HOS := Lib.hid hos
  have HOA := Lib.hid hoa
  have hone : oneB 4 = true := rfl
  have htwo : twoB9 4 = true := rfl
  clear hrf hg hm hmi hon hos hoa
  rcases up3 m oa with ⟨hneg, hua⟩ | ⟨na, rfl, hbig, hua⟩ | ⟨na, rfl, hlt, hua⟩
  · have hdn : decide (oa < 0) = true := decide_eq_true hneg
    have bO := bA0 w (.cells #[.int .i64 4, .int .i64 oa, .int .i64 ob, .int .u64 on, .string os] OpT)
    have hO := heap_alloc_new w (.cells #[.int .i64 4, .int .i64 oa, .int .i64 ob, .int .u64 on, .string os] OpT)
    have y0 := cellB (j := 0) hO rfl
    have y1 := cellB (j := 1) hO rfl
    have y2 := cellB (j := 2) hO rfl
    have y3 := cellB (j := 3) hO rfl
    have y4 := cellB (j := 4) hO rfl
    have HA := Lib.hid bO
    have HO := Lib.hid hO
    clear bO hO
    go_enter Tryz.func28, Tryz.ntmps28
    go_wp2_with fail
    refine (one_any _ _).mono ?_
    rintro e w' ⟨rfl, rfl⟩
    rw [hone]
    have er : r = noP p := by rw [HR.out]; exact if_neg (by rw [hua, Bool.false_and]; decide)
    go_wp2_with fail
    go_returns
    rw [er]
    exact ⟨rfl, RGrew.same HRF.out HA.out⟩
  · have hdn : decide ((na : Int) < 0) = false := decide_eq_false (by omega)
    have hdb : decide ((m.length : Int) ≤ (na : Int)) = true := decide_eq_true (by omega)
    have hdb2 : decide (m.length ≤ na) = true := decide_eq_true hbig
    have bO := bA0 w (.cells #[.int .i64 4, .int .i64 (na : Int), .int .i64 ob, .int .u64 on, .string os] OpT)
    have hO := heap_alloc_new w (.cells #[.int .i64 4, .int .i64 (na : Int), .int .i64 ob, .int .u64 on, .string os] OpT)
    have y0 := cellB (j := 0) hO rfl
    have y1 := cellB (j := 1) hO rfl
    have y2 := cellB (j := 2) hO rfl
    have y3 := cellB (j := 3) hO rfl
    have y4 := cellB (j := 4) hO rfl
    have HA := Lib.hid bO
    have HO := Lib.hid hO
    clear bO hO
    go_enter Tryz.func28, Tryz.ntmps28
    go_wp2_with fail
    refine (one_any _ _).mono ?_
    rintro e w' ⟨rfl, rfl⟩
    rw [hone]
    have er : r = noP p := by rw [HR.out]; exact if_neg (by rw [hua, Bool.false_and]; decide)
    go_wp2_with fail
    go_returns
    rw [er]
    exact ⟨rfl, RGrew.same HRF.out HA.out⟩
  · have hdn : decide ((na : Int) < 0) = false := decide_eq_false (by omega)
    have hdb : decide ((m.length : Int) ≤ (na : Int)) = false := decide_eq_false (by omega)
    have hdb2 : decide (m.length ≤ na) = false := decide_eq_false (by omega)
    have ha0 : (0 : Int) ≤ (na : Int) := by omega
    have ha1 : (na : Int) < (m.length : Int) := by omega
    obtain ⟨mb, mo, mcc, hme, hc1⟩ := row_at HM.out hlt
    cases hme
    rcases up3 m ob with ⟨hnegb, hub⟩ | ⟨nb, rfl, hbigb, hub⟩ | ⟨nb, rfl, hltb, hub⟩
    · have hen : decide (ob < 0) = true := decide_eq_true hnegb
      have bO := bA0 w (.cells #[.int .i64 4, .int .i64 (na : Int), .int .i64 ob, .int .u64 on, .string os] OpT)
      have hO := heap_alloc_new w (.cells #[.int .i64 4, .int .i64 (na : Int), .int .i64 ob, .int .u64 on, .string os] OpT)
      have y0 := cellB (j := 0) hO rfl
      have y1 := cellB (j := 1) hO rfl
      have y2 := cellB (j := 2) hO rfl
      have y3 := cellB (j := 3) hO rfl
      have y4 := cellB (j := 4) hO rfl
      have HA := Lib.hid bO
      have HO := Lib.hid hO
      clear bO hO
      go_enter Tryz.func28, Tryz.ntmps28
      go_wp2_with fail
      refine (one_any _ _).mono ?_
      rintro e w' ⟨rfl, rfl⟩
      rw [hone]
      go_wp2_with fail
      refine (two9_any _ _).mono ?_
      rintro e w' ⟨rfl, rfl⟩
      rw [htwo]
      have er : r = noP p := by rw [HR.out]; exact if_neg (by rw [hua, hub]; decide)
      go_wp2_with fail
      go_returns
      rw [er]
      exact ⟨rfl, RGrew.same HRF.out HA.out⟩
    · have hen : decide ((nb : Int) < 0) = false := decide_eq_false (by omega)
      have heb : decide ((m.length : Int) ≤ (nb : Int)) = true := decide_eq_true (by omega)
      have heb2 : decide (m.length ≤ nb) = true := decide_eq_true hbigb
      have bO := bA0 w (.cells #[.int .i64 4, .int .i64 (na : Int), .int .i64 (nb : Int), .int .u64 on, .string os] OpT)
      have hO := heap_alloc_new w (.cells #[.int .i64 4, .int .i64 (na : Int), .int .i64 (nb : Int), .int .u64 on, .string os] OpT)
      have y0 := cellB (j := 0) hO rfl
      have y1 := cellB (j := 1) hO rfl
      have y2 := cellB (j := 2) hO rfl
      have y3 := cellB (j := 3) hO rfl
      have y4 := cellB (j := 4) hO rfl
      have HA := Lib.hid bO
      have HO := Lib.hid hO
      clear bO hO
      go_enter Tryz.func28, Tryz.ntmps28
      go_wp2_with fail
      refine (one_any _ _).mono ?_
      rintro e w' ⟨rfl, rfl⟩
      rw [hone]
      go_wp2_with fail
      refine (two9_any _ _).mono ?_
      rintro e w' ⟨rfl, rfl⟩
      rw [htwo]
      have er : r = noP p := by rw [HR.out]; exact if_neg (by rw [hua, hub]; decide)
      go_wp2_with fail
      go_returns
      rw [er]
      exact ⟨rfl, RGrew.same HRF.out HA.out⟩
    · have hen : decide ((nb : Int) < 0) = false := decide_eq_false (by omega)
      have heb : decide ((m.length : Int) ≤ (nb : Int)) = false := decide_eq_false (by omega)
      have heb2 : decide (m.length ≤ nb) = false := decide_eq_false (by omega)
      have hb0 : (0 : Int) ≤ (nb : Int) := by omega
      have hb1 : (nb : Int) < (m.length : Int) := by omega
      obtain ⟨mb2, mo2, mcc2, hme2, hc2⟩ := row_at HM.out hltb
      cases hme2
      have bO := bA0 w (.cells #[.int .i64 4, .int .i64 (na : Int), .int .i64 (nb : Int), .int .u64 on, .string os] OpT)
      have hO := heap_alloc_new w (.cells #[.int .i64 4, .int .i64 (na : Int), .int .i64 (nb : Int), .int .u64 on, .string os] OpT)
      have y0 := cellB (j := 0) hO rfl
      have y1 := cellB (j := 1) hO rfl
      have y2 := cellB (j := 2) hO rfl
      have y3 := cellB (j := 3) hO rfl
      have y4 := cellB (j := 4) hO rfl
      have HA := Lib.hid bO
      have HO := Lib.hid hO
      clear bO hO
      go_enter Tryz.func28, Tryz.ntmps28
      have c1 := bcellAt HA.out hc1
      have c2 := hc2
      go_wp2_with fail
      refine (one_any _ _).mono ?_
      rintro e w' ⟨rfl, rfl⟩
      rw [hone]
      go_wp2_with fail
      refine (two9_any _ _).mono ?_
      rintro e w' ⟨rfl, rfl⟩
      rw [htwo]
      go_wp2_with fail
      refine (one_any _ _).mono ?_
      rintro e w' ⟨rfl, rfl⟩
      rw [hone]
      have RN := Lib.hid (rnode (HRF.out.below HA.out) (mdP m (na : Int)))
      have hndok := rnd_i64 HRF.out (mdP m (na : Int))
      generalize hnn : (atP p (mdP m (na : Int))).1 = nn at *
      have HNN := Lib.hid hnn
      clear hnn
      obtain ⟨nk, nf, nt, nu, ns, nx, ny⟩ := nn
      simp only [nodeA] at RN
      go_wp2_with fail
      refine RN.out.mono ?_
      rintro e w1 ⟨rfl, u1⟩
      obtain ⟨bX, hX, hK⟩ := two_boxes w1 (.cells #[.int .i64 nk, .int .i64 nf, .int .i64 nt, .int .u64 nu, .string ns, .int .i64 nx, .int .i64 ny] NodeT) (.cells #[.int .i64 0, .int .i64 0, .int .i64 0, .int .u64 0, .string ⟨#[]⟩, .int .i64 0, .int .i64 0] NodeT)
      have HX := Lib.hid (bmore HA.out (bmore u1 bX))
      have ho2 := Hold.below (bmore u1 bX) _ _ HO.out
      have HO2 := Lib.hid ho2
      have HKB := Lib.hid hK
      have n0 := cellB (j := 0) hX rfl
      have n5 := cellB (j := 5) hX rfl
      have n6 := cellB (j := 6) hX rfl
      have y0 := cellB (j := 0) ho2 rfl
      have y1 := cellB (j := 1) ho2 rfl
      have y2 := cellB (j := 2) ho2 rfl
      have y3 := cellB (j := 3) ho2 rfl
      have y4 := cellB (j := 4) ho2 rfl
      have hkb : w.heap.size ≤ w1.heap.size := Nat.le_trans HA.out.size u1.size
      clear bX hX hK ho2 u1 RN
      have d2 := bcellAt HX.out c2
      have RM := Lib.hid (rmake (HRF.out.below HX.out) (n := ⟨4, 0, 0, 0, emptyS, mdP m (na : Int), mdP m (nb : Int)⟩) ⟨(i64R_lit (by simp)), (i64R_lit (by simp)), (i64R_lit (by simp)), (by simp), emptyS_le, HMI.out _ (md_in hua), HMI.out _ (md_in hub)⟩)
      go_wp2_with fail
      refine RM.out.mono ?_
      rintro e w9 hp9
      have er : r = mkP p ⟨4, 0, 0, 0, emptyS, mdP m (na : Int), mdP m (nb : Int)⟩ := by rw [HR.out]; exact if_pos (by rw [hua, hub]; rfl)
      obtain ⟨he9, g9⟩ := hp9
      rw [← er] at he9 g9
      subst he9
      have HGR := Lib.hid (RGrew.after HRF.out HX.out g9)
      clear g9 er
      go_wp2_with fail
      go_returns
      exact ⟨rfl, HGR.out⟩
set_option maxRecDepth 100000 in
set_option maxHeartbeats 6400000 in
theorem rdo_5 (hrf : IsRef w B a vl vs vd p) (hg : Row w 1 gvl g.length (ints g)) (hm : Row w 1 mvl m.length (ints m)) (hmi : ∀ x ∈ m, i64R x) {oa ob on : Int} {os : ByteArray} (hoa : i64R oa) (hon : 0 ≤ on ∧ on ≤ 18446744073709551615) (hos : os.size ≤ maxLen) : Calls Tryz.prog 28 #[.pointer (some ⟨a, 0, none⟩), gvl, mvl, .agg #[.int .i64 5, .int .i64 oa, .int .i64 ob, .int .u64 on, .string os]] w (RDoPost w B a vl vs vd (doP p g m ⟨5, oa, ob, on, os⟩)) := by
  obtain ⟨r, hr⟩ : ∃ r, r = doP p g m ⟨5, oa, ob, on, os⟩ := ⟨_, rfl⟩
  rw [← hr]
  rw [show doP p g m ⟨5, oa, ob, on, os⟩ = (if upB m oa = true then mkP p ⟨5, 0, 0, 0, emptyS, mdP m oa, 0⟩ else noP p) from rfl] at hr
  have HR := Lib.hid hr
  clear hr
  obtain ⟨ga, gc, rfl⟩ := hg.shape
  obtain ⟨ma, mc, rfl⟩ := hm.shape
  have HRF := Lib.hid hrf
  have HG := Lib.hid hg
  have HM := Lib.hid hm
  have HMI := Lib.hid hmi
  have HON := Lib.hid hon
  have HOS := Lib.hid hos
  have HOA := Lib.hid hoa
  have hone : oneB 5 = true := rfl
  have htwo : twoB9 5 = false := rfl
  clear hrf hg hm hmi hon hos hoa
  rcases up3 m oa with ⟨hneg, hua⟩ | ⟨na, rfl, hbig, hua⟩ | ⟨na, rfl, hlt, hua⟩
  · have hdn : decide (oa < 0) = true := decide_eq_true hneg
    have bO := bA0 w (.cells #[.int .i64 5, .int .i64 oa, .int .i64 ob, .int .u64 on, .string os] OpT)
    have hO := heap_alloc_new w (.cells #[.int .i64 5, .int .i64 oa, .int .i64 ob, .int .u64 on, .string os] OpT)
    have y0 := cellB (j := 0) hO rfl
    have y1 := cellB (j := 1) hO rfl
    have y2 := cellB (j := 2) hO rfl
    have y3 := cellB (j := 3) hO rfl
    have y4 := cellB (j := 4) hO rfl
    have HA := Lib.hid bO
    have HO := Lib.hid hO
    clear bO hO
    go_enter Tryz.func28, Tryz.ntmps28
    go_wp2_with fail
    refine (one_any _ _).mono ?_
    rintro e w' ⟨rfl, rfl⟩
    rw [hone]
    have er : r = noP p := by rw [HR.out]; exact if_neg (by rw [hua]; decide)
    go_wp2_with fail
    go_returns
    rw [er]
    exact ⟨rfl, RGrew.same HRF.out HA.out⟩
  · have hdn : decide ((na : Int) < 0) = false := decide_eq_false (by omega)
    have hdb : decide ((m.length : Int) ≤ (na : Int)) = true := decide_eq_true (by omega)
    have hdb2 : decide (m.length ≤ na) = true := decide_eq_true hbig
    have bO := bA0 w (.cells #[.int .i64 5, .int .i64 (na : Int), .int .i64 ob, .int .u64 on, .string os] OpT)
    have hO := heap_alloc_new w (.cells #[.int .i64 5, .int .i64 (na : Int), .int .i64 ob, .int .u64 on, .string os] OpT)
    have y0 := cellB (j := 0) hO rfl
    have y1 := cellB (j := 1) hO rfl
    have y2 := cellB (j := 2) hO rfl
    have y3 := cellB (j := 3) hO rfl
    have y4 := cellB (j := 4) hO rfl
    have HA := Lib.hid bO
    have HO := Lib.hid hO
    clear bO hO
    go_enter Tryz.func28, Tryz.ntmps28
    go_wp2_with fail
    refine (one_any _ _).mono ?_
    rintro e w' ⟨rfl, rfl⟩
    rw [hone]
    have er : r = noP p := by rw [HR.out]; exact if_neg (by rw [hua]; decide)
    go_wp2_with fail
    go_returns
    rw [er]
    exact ⟨rfl, RGrew.same HRF.out HA.out⟩
  · have hdn : decide ((na : Int) < 0) = false := decide_eq_false (by omega)
    have hdb : decide ((m.length : Int) ≤ (na : Int)) = false := decide_eq_false (by omega)
    have hdb2 : decide (m.length ≤ na) = false := decide_eq_false (by omega)
    have ha0 : (0 : Int) ≤ (na : Int) := by omega
    have ha1 : (na : Int) < (m.length : Int) := by omega
    obtain ⟨mb, mo, mcc, hme, hc1⟩ := row_at HM.out hlt
    cases hme
    have bO := bA0 w (.cells #[.int .i64 5, .int .i64 (na : Int), .int .i64 ob, .int .u64 on, .string os] OpT)
    have hO := heap_alloc_new w (.cells #[.int .i64 5, .int .i64 (na : Int), .int .i64 ob, .int .u64 on, .string os] OpT)
    have y0 := cellB (j := 0) hO rfl
    have y1 := cellB (j := 1) hO rfl
    have y2 := cellB (j := 2) hO rfl
    have y3 := cellB (j := 3) hO rfl
    have y4 := cellB (j := 4) hO rfl
    have HA := Lib.hid bO
    have HO := Lib.hid hO
    clear bO hO
    go_enter Tryz.func28, Tryz.ntmps28
    have c1 := bcellAt HA.out hc1
    go_wp2_with fail
    refine (one_any _ _).mono ?_
    rintro e w' ⟨rfl, rfl⟩
    rw [hone]
    go_wp2_with fail
    refine (two9_any _ _).mono ?_
    rintro e w' ⟨rfl, rfl⟩
    rw [htwo]
    go_wp2_with fail
    refine (one_any _ _).mono ?_
    rintro e w' ⟨rfl, rfl⟩
    rw [hone]
    have RN := Lib.hid (rnode (HRF.out.below HA.out) (mdP m (na : Int)))
    have hndok := rnd_i64 HRF.out (mdP m (na : Int))
    generalize hnn : (atP p (mdP m (na : Int))).1 = nn at *
    have HNN := Lib.hid hnn
    clear hnn
    obtain ⟨nk, nf, nt, nu, ns, nx, ny⟩ := nn
    simp only [nodeA] at RN
    go_wp2_with fail
    refine RN.out.mono ?_
    rintro e w1 ⟨rfl, u1⟩
    obtain ⟨bX, hX, hK⟩ := two_boxes w1 (.cells #[.int .i64 nk, .int .i64 nf, .int .i64 nt, .int .u64 nu, .string ns, .int .i64 nx, .int .i64 ny] NodeT) (.cells #[.int .i64 0, .int .i64 0, .int .i64 0, .int .u64 0, .string ⟨#[]⟩, .int .i64 0, .int .i64 0] NodeT)
    have HX := Lib.hid (bmore HA.out (bmore u1 bX))
    have ho2 := Hold.below (bmore u1 bX) _ _ HO.out
    have HO2 := Lib.hid ho2
    have HKB := Lib.hid hK
    have n0 := cellB (j := 0) hX rfl
    have n5 := cellB (j := 5) hX rfl
    have n6 := cellB (j := 6) hX rfl
    have y0 := cellB (j := 0) ho2 rfl
    have y1 := cellB (j := 1) ho2 rfl
    have y2 := cellB (j := 2) ho2 rfl
    have y3 := cellB (j := 3) ho2 rfl
    have y4 := cellB (j := 4) ho2 rfl
    have hkb : w.heap.size ≤ w1.heap.size := Nat.le_trans HA.out.size u1.size
    clear bX hX hK ho2 u1 RN
    have RM := Lib.hid (rmake (HRF.out.below HX.out) (n := ⟨5, 0, 0, 0, emptyS, mdP m (na : Int), 0⟩) ⟨(i64R_lit (by simp)), (i64R_lit (by simp)), (i64R_lit (by simp)), (by simp), emptyS_le, HMI.out _ (md_in hua), (i64R_lit (by simp))⟩)
    go_wp2_with fail
    refine RM.out.mono ?_
    rintro e w9 hp9
    have er : r = mkP p ⟨5, 0, 0, 0, emptyS, mdP m (na : Int), 0⟩ := by rw [HR.out]; exact if_pos hua
    obtain ⟨he9, g9⟩ := hp9
    rw [← er] at he9 g9
    subst he9
    have HGR := Lib.hid (RGrew.after HRF.out HX.out g9)
    clear g9 er
    go_wp2_with fail
    go_returns
    exact ⟨rfl, HGR.out⟩
set_option maxRecDepth 100000 in
set_option maxHeartbeats 6400000 in
theorem rdo_6 (hrf : IsRef w B a vl vs vd p) (hg : Row w 1 gvl g.length (ints g)) (hm : Row w 1 mvl m.length (ints m)) (hmi : ∀ x ∈ m, i64R x) {oa ob on : Int} {os : ByteArray} (hoa : i64R oa) (hon : 0 ≤ on ∧ on ≤ 18446744073709551615) (hos : os.size ≤ maxLen) : Calls Tryz.prog 28 #[.pointer (some ⟨a, 0, none⟩), gvl, mvl, .agg #[.int .i64 6, .int .i64 oa, .int .i64 ob, .int .u64 on, .string os]] w (RDoPost w B a vl vs vd (doP p g m ⟨6, oa, ob, on, os⟩)) := by
  obtain ⟨r, hr⟩ : ∃ r, r = doP p g m ⟨6, oa, ob, on, os⟩ := ⟨_, rfl⟩
  rw [← hr]
  rw [show doP p g m ⟨6, oa, ob, on, os⟩ = (if (upB m oa && (ndP p m oa).kind == 4) = true then ((ndP p m oa).a, 0, p) else noP p) from rfl] at hr
  have HR := Lib.hid hr
  clear hr
  obtain ⟨ga, gc, rfl⟩ := hg.shape
  obtain ⟨ma, mc, rfl⟩ := hm.shape
  have HRF := Lib.hid hrf
  have HG := Lib.hid hg
  have HM := Lib.hid hm
  have HMI := Lib.hid hmi
  have HON := Lib.hid hon
  have HOS := Lib.hid hos
  have HOA := Lib.hid hoa
  have hone : oneB 6 = true := rfl
  have htwo : twoB9 6 = false := rfl
  clear hrf hg hm hmi hon hos hoa
  rcases up3 m oa with ⟨hneg, hua⟩ | ⟨na, rfl, hbig, hua⟩ | ⟨na, rfl, hlt, hua⟩
  · have hdn : decide (oa < 0) = true := decide_eq_true hneg
    have bO := bA0 w (.cells #[.int .i64 6, .int .i64 oa, .int .i64 ob, .int .u64 on, .string os] OpT)
    have hO := heap_alloc_new w (.cells #[.int .i64 6, .int .i64 oa, .int .i64 ob, .int .u64 on, .string os] OpT)
    have y0 := cellB (j := 0) hO rfl
    have y1 := cellB (j := 1) hO rfl
    have y2 := cellB (j := 2) hO rfl
    have y3 := cellB (j := 3) hO rfl
    have y4 := cellB (j := 4) hO rfl
    have HA := Lib.hid bO
    have HO := Lib.hid hO
    clear bO hO
    go_enter Tryz.func28, Tryz.ntmps28
    go_wp2_with fail
    refine (one_any _ _).mono ?_
    rintro e w' ⟨rfl, rfl⟩
    rw [hone]
    have er : r = noP p := by rw [HR.out]; exact if_neg (by rw [hua, Bool.false_and]; decide)
    go_wp2_with fail
    go_returns
    rw [er]
    exact ⟨rfl, RGrew.same HRF.out HA.out⟩
  · have hdn : decide ((na : Int) < 0) = false := decide_eq_false (by omega)
    have hdb : decide ((m.length : Int) ≤ (na : Int)) = true := decide_eq_true (by omega)
    have hdb2 : decide (m.length ≤ na) = true := decide_eq_true hbig
    have bO := bA0 w (.cells #[.int .i64 6, .int .i64 (na : Int), .int .i64 ob, .int .u64 on, .string os] OpT)
    have hO := heap_alloc_new w (.cells #[.int .i64 6, .int .i64 (na : Int), .int .i64 ob, .int .u64 on, .string os] OpT)
    have y0 := cellB (j := 0) hO rfl
    have y1 := cellB (j := 1) hO rfl
    have y2 := cellB (j := 2) hO rfl
    have y3 := cellB (j := 3) hO rfl
    have y4 := cellB (j := 4) hO rfl
    have HA := Lib.hid bO
    have HO := Lib.hid hO
    clear bO hO
    go_enter Tryz.func28, Tryz.ntmps28
    go_wp2_with fail
    refine (one_any _ _).mono ?_
    rintro e w' ⟨rfl, rfl⟩
    rw [hone]
    have er : r = noP p := by rw [HR.out]; exact if_neg (by rw [hua, Bool.false_and]; decide)
    go_wp2_with fail
    go_returns
    rw [er]
    exact ⟨rfl, RGrew.same HRF.out HA.out⟩
  · have hdn : decide ((na : Int) < 0) = false := decide_eq_false (by omega)
    have hdb : decide ((m.length : Int) ≤ (na : Int)) = false := decide_eq_false (by omega)
    have hdb2 : decide (m.length ≤ na) = false := decide_eq_false (by omega)
    have ha0 : (0 : Int) ≤ (na : Int) := by omega
    have ha1 : (na : Int) < (m.length : Int) := by omega
    obtain ⟨mb, mo, mcc, hme, hc1⟩ := row_at HM.out hlt
    cases hme
    have bO := bA0 w (.cells #[.int .i64 6, .int .i64 (na : Int), .int .i64 ob, .int .u64 on, .string os] OpT)
    have hO := heap_alloc_new w (.cells #[.int .i64 6, .int .i64 (na : Int), .int .i64 ob, .int .u64 on, .string os] OpT)
    have y0 := cellB (j := 0) hO rfl
    have y1 := cellB (j := 1) hO rfl
    have y2 := cellB (j := 2) hO rfl
    have y3 := cellB (j := 3) hO rfl
    have y4 := cellB (j := 4) hO rfl
    have HA := Lib.hid bO
    have HO := Lib.hid hO
    clear bO hO
    go_enter Tryz.func28, Tryz.ntmps28
    have c1 := bcellAt HA.out hc1
    go_wp2_with fail
    refine (one_any _ _).mono ?_
    rintro e w' ⟨rfl, rfl⟩
    rw [hone]
    go_wp2_with fail
    refine (two9_any _ _).mono ?_
    rintro e w' ⟨rfl, rfl⟩
    rw [htwo]
    go_wp2_with fail
    refine (one_any _ _).mono ?_
    rintro e w' ⟨rfl, rfl⟩
    rw [hone]
    have RN := Lib.hid (rnode (HRF.out.below HA.out) (mdP m (na : Int)))
    have hndok := rnd_i64 HRF.out (mdP m (na : Int))
    generalize hnn : (atP p (mdP m (na : Int))).1 = nn at *
    have HNN := Lib.hid hnn
    clear hnn
    obtain ⟨nk, nf, nt, nu, ns, nx, ny⟩ := nn
    simp only [nodeA] at RN
    go_wp2_with fail
    refine RN.out.mono ?_
    rintro e w1 ⟨rfl, u1⟩
    obtain ⟨bX, hX, hK⟩ := two_boxes w1 (.cells #[.int .i64 nk, .int .i64 nf, .int .i64 nt, .int .u64 nu, .string ns, .int .i64 nx, .int .i64 ny] NodeT) (.cells #[.int .i64 0, .int .i64 0, .int .i64 0, .int .u64 0, .string ⟨#[]⟩, .int .i64 0, .int .i64 0] NodeT)
    have HX := Lib.hid (bmore HA.out (bmore u1 bX))
    have ho2 := Hold.below (bmore u1 bX) _ _ HO.out
    have HO2 := Lib.hid ho2
    have HKB := Lib.hid hK
    have n0 := cellB (j := 0) hX rfl
    have n5 := cellB (j := 5) hX rfl
    have n6 := cellB (j := 6) hX rfl
    have y0 := cellB (j := 0) ho2 rfl
    have y1 := cellB (j := 1) ho2 rfl
    have y2 := cellB (j := 2) ho2 rfl
    have y3 := cellB (j := 3) ho2 rfl
    have y4 := cellB (j := 4) ho2 rfl
    have hkb : w.heap.size ≤ w1.heap.size := Nat.le_trans HA.out.size u1.size
    clear bX hX hK ho2 u1 RN
    have hnd : ndP p m (na : Int) = ⟨nk, nf, nt, nu, ns, nx, ny⟩ := HNN.out
    by_cases hk4 : nk = 4
    · subst hk4
      have er : r = (nx, 0, p) := by rw [HR.out, hnd]; exact if_pos (by rw [hua]; rfl)
      go_wp2_with fail
      go_returns
      rw [er]
      exact ⟨rfl, RGrew.same HRF.out HX.out⟩
    · have hd4 : (nk != 4) = true := by simp [hk4]
      have er : r = noP p := by rw [HR.out]; exact if_neg (by rw [hnd, hua]; simp [hk4])
      go_wp2_with fail
      go_returns
      rw [er]
      exact ⟨rfl, RGrew.same HRF.out HX.out⟩
set_option maxRecDepth 100000 in
set_option maxHeartbeats 6400000 in
theorem rdo_7 (hrf : IsRef w B a vl vs vd p) (hg : Row w 1 gvl g.length (ints g)) (hm : Row w 1 mvl m.length (ints m)) (hmi : ∀ x ∈ m, i64R x) {oa ob on : Int} {os : ByteArray} (hoa : i64R oa) (hon : 0 ≤ on ∧ on ≤ 18446744073709551615) (hos : os.size ≤ maxLen) : Calls Tryz.prog 28 #[.pointer (some ⟨a, 0, none⟩), gvl, mvl, .agg #[.int .i64 7, .int .i64 oa, .int .i64 ob, .int .u64 on, .string os]] w (RDoPost w B a vl vs vd (doP p g m ⟨7, oa, ob, on, os⟩)) := by
  obtain ⟨r, hr⟩ : ∃ r, r = doP p g m ⟨7, oa, ob, on, os⟩ := ⟨_, rfl⟩
  rw [← hr]
  rw [show doP p g m ⟨7, oa, ob, on, os⟩ = (if (upB m oa && (ndP p m oa).kind == 4) = true then ((ndP p m oa).b, 0, p) else noP p) from rfl] at hr
  have HR := Lib.hid hr
  clear hr
  obtain ⟨ga, gc, rfl⟩ := hg.shape
  obtain ⟨ma, mc, rfl⟩ := hm.shape
  have HRF := Lib.hid hrf
  have HG := Lib.hid hg
  have HM := Lib.hid hm
  have HMI := Lib.hid hmi
  have HON := Lib.hid hon
  have HOS := Lib.hid hos
  have HOA := Lib.hid hoa
  have hone : oneB 7 = true := rfl
  have htwo : twoB9 7 = false := rfl
  clear hrf hg hm hmi hon hos hoa
  rcases up3 m oa with ⟨hneg, hua⟩ | ⟨na, rfl, hbig, hua⟩ | ⟨na, rfl, hlt, hua⟩
  · have hdn : decide (oa < 0) = true := decide_eq_true hneg
    have bO := bA0 w (.cells #[.int .i64 7, .int .i64 oa, .int .i64 ob, .int .u64 on, .string os] OpT)
    have hO := heap_alloc_new w (.cells #[.int .i64 7, .int .i64 oa, .int .i64 ob, .int .u64 on, .string os] OpT)
    have y0 := cellB (j := 0) hO rfl
    have y1 := cellB (j := 1) hO rfl
    have y2 := cellB (j := 2) hO rfl
    have y3 := cellB (j := 3) hO rfl
    have y4 := cellB (j := 4) hO rfl
    have HA := Lib.hid bO
    have HO := Lib.hid hO
    clear bO hO
    go_enter Tryz.func28, Tryz.ntmps28
    go_wp2_with fail
    refine (one_any _ _).mono ?_
    rintro e w' ⟨rfl, rfl⟩
    rw [hone]
    have er : r = noP p := by rw [HR.out]; exact if_neg (by rw [hua, Bool.false_and]; decide)
    go_wp2_with fail
    go_returns
    rw [er]
    exact ⟨rfl, RGrew.same HRF.out HA.out⟩
  · have hdn : decide ((na : Int) < 0) = false := decide_eq_false (by omega)
    have hdb : decide ((m.length : Int) ≤ (na : Int)) = true := decide_eq_true (by omega)
    have hdb2 : decide (m.length ≤ na) = true := decide_eq_true hbig
    have bO := bA0 w (.cells #[.int .i64 7, .int .i64 (na : Int), .int .i64 ob, .int .u64 on, .string os] OpT)
    have hO := heap_alloc_new w (.cells #[.int .i64 7, .int .i64 (na : Int), .int .i64 ob, .int .u64 on, .string os] OpT)
    have y0 := cellB (j := 0) hO rfl
    have y1 := cellB (j := 1) hO rfl
    have y2 := cellB (j := 2) hO rfl
    have y3 := cellB (j := 3) hO rfl
    have y4 := cellB (j := 4) hO rfl
    have HA := Lib.hid bO
    have HO := Lib.hid hO
    clear bO hO
    go_enter Tryz.func28, Tryz.ntmps28
    go_wp2_with fail
    refine (one_any _ _).mono ?_
    rintro e w' ⟨rfl, rfl⟩
    rw [hone]
    have er : r = noP p := by rw [HR.out]; exact if_neg (by rw [hua, Bool.false_and]; decide)
    go_wp2_with fail
    go_returns
    rw [er]
    exact ⟨rfl, RGrew.same HRF.out HA.out⟩
  · have hdn : decide ((na : Int) < 0) = false := decide_eq_false (by omega)
    have hdb : decide ((m.length : Int) ≤ (na : Int)) = false := decide_eq_false (by omega)
    have hdb2 : decide (m.length ≤ na) = false := decide_eq_false (by omega)
    have ha0 : (0 : Int) ≤ (na : Int) := by omega
    have ha1 : (na : Int) < (m.length : Int) := by omega
    obtain ⟨mb, mo, mcc, hme, hc1⟩ := row_at HM.out hlt
    cases hme
    have bO := bA0 w (.cells #[.int .i64 7, .int .i64 (na : Int), .int .i64 ob, .int .u64 on, .string os] OpT)
    have hO := heap_alloc_new w (.cells #[.int .i64 7, .int .i64 (na : Int), .int .i64 ob, .int .u64 on, .string os] OpT)
    have y0 := cellB (j := 0) hO rfl
    have y1 := cellB (j := 1) hO rfl
    have y2 := cellB (j := 2) hO rfl
    have y3 := cellB (j := 3) hO rfl
    have y4 := cellB (j := 4) hO rfl
    have HA := Lib.hid bO
    have HO := Lib.hid hO
    clear bO hO
    go_enter Tryz.func28, Tryz.ntmps28
    have c1 := bcellAt HA.out hc1
    go_wp2_with fail
    refine (one_any _ _).mono ?_
    rintro e w' ⟨rfl, rfl⟩
    rw [hone]
    go_wp2_with fail
    refine (two9_any _ _).mono ?_
    rintro e w' ⟨rfl, rfl⟩
    rw [htwo]
    go_wp2_with fail
    refine (one_any _ _).mono ?_
    rintro e w' ⟨rfl, rfl⟩
    rw [hone]
    have RN := Lib.hid (rnode (HRF.out.below HA.out) (mdP m (na : Int)))
    have hndok := rnd_i64 HRF.out (mdP m (na : Int))
    generalize hnn : (atP p (mdP m (na : Int))).1 = nn at *
    have HNN := Lib.hid hnn
    clear hnn
    obtain ⟨nk, nf, nt, nu, ns, nx, ny⟩ := nn
    simp only [nodeA] at RN
    go_wp2_with fail
    refine RN.out.mono ?_
    rintro e w1 ⟨rfl, u1⟩
    obtain ⟨bX, hX, hK⟩ := two_boxes w1 (.cells #[.int .i64 nk, .int .i64 nf, .int .i64 nt, .int .u64 nu, .string ns, .int .i64 nx, .int .i64 ny] NodeT) (.cells #[.int .i64 0, .int .i64 0, .int .i64 0, .int .u64 0, .string ⟨#[]⟩, .int .i64 0, .int .i64 0] NodeT)
    have HX := Lib.hid (bmore HA.out (bmore u1 bX))
    have ho2 := Hold.below (bmore u1 bX) _ _ HO.out
    have HO2 := Lib.hid ho2
    have HKB := Lib.hid hK
    have n0 := cellB (j := 0) hX rfl
    have n5 := cellB (j := 5) hX rfl
    have n6 := cellB (j := 6) hX rfl
    have y0 := cellB (j := 0) ho2 rfl
    have y1 := cellB (j := 1) ho2 rfl
    have y2 := cellB (j := 2) ho2 rfl
    have y3 := cellB (j := 3) ho2 rfl
    have y4 := cellB (j := 4) ho2 rfl
    have hkb : w.heap.size ≤ w1.heap.size := Nat.le_trans HA.out.size u1.size
    clear bX hX hK ho2 u1 RN
    have hnd : ndP p m (na : Int) = ⟨nk, nf, nt, nu, ns, nx, ny⟩ := HNN.out
    by_cases hk4 : nk = 4
    · subst hk4
      have er : r = (ny, 0, p) := by rw [HR.out, hnd]; exact if_pos (by rw [hua]; rfl)
      go_wp2_with fail
      go_returns
      rw [er]
      exact ⟨rfl, RGrew.same HRF.out HX.out⟩
    · have hd4 : (nk != 4) = true := by simp [hk4]
      have er : r = noP p := by rw [HR.out]; exact if_neg (by rw [hnd, hua]; simp [hk4])
      go_wp2_with fail
      go_returns
      rw [er]
      exact ⟨rfl, RGrew.same HRF.out HX.out⟩
set_option maxRecDepth 100000 in
set_option maxHeartbeats 6400000 in
theorem rdo_8 (hrf : IsRef w B a vl vs vd p) (hg : Row w 1 gvl g.length (ints g)) (hm : Row w 1 mvl m.length (ints m)) (hmi : ∀ x ∈ m, i64R x) {oa ob on : Int} {os : ByteArray} (hoa : i64R oa) (hon : 0 ≤ on ∧ on ≤ 18446744073709551615) (hos : os.size ≤ maxLen) : Calls Tryz.prog 28 #[.pointer (some ⟨a, 0, none⟩), gvl, mvl, .agg #[.int .i64 8, .int .i64 oa, .int .i64 ob, .int .u64 on, .string os]] w (RDoPost w B a vl vs vd (doP p g m ⟨8, oa, ob, on, os⟩)) := by
  obtain ⟨r, hr⟩ : ∃ r, r = doP p g m ⟨8, oa, ob, on, os⟩ := ⟨_, rfl⟩
  rw [← hr]
  rw [show doP p g m ⟨8, oa, ob, on, os⟩ = (if (upB m oa && showB (ndP p m oa).kind) = true then ((ndP p m oa).a, 0, p) else noP p) from rfl] at hr
  have HR := Lib.hid hr
  clear hr
  obtain ⟨ga, gc, rfl⟩ := hg.shape
  obtain ⟨ma, mc, rfl⟩ := hm.shape
  have HRF := Lib.hid hrf
  have HG := Lib.hid hg
  have HM := Lib.hid hm
  have HMI := Lib.hid hmi
  have HON := Lib.hid hon
  have HOS := Lib.hid hos
  have HOA := Lib.hid hoa
  have hone : oneB 8 = true := rfl
  have htwo : twoB9 8 = false := rfl
  clear hrf hg hm hmi hon hos hoa
  rcases up3 m oa with ⟨hneg, hua⟩ | ⟨na, rfl, hbig, hua⟩ | ⟨na, rfl, hlt, hua⟩
  · have hdn : decide (oa < 0) = true := decide_eq_true hneg
    have bO := bA0 w (.cells #[.int .i64 8, .int .i64 oa, .int .i64 ob, .int .u64 on, .string os] OpT)
    have hO := heap_alloc_new w (.cells #[.int .i64 8, .int .i64 oa, .int .i64 ob, .int .u64 on, .string os] OpT)
    have y0 := cellB (j := 0) hO rfl
    have y1 := cellB (j := 1) hO rfl
    have y2 := cellB (j := 2) hO rfl
    have y3 := cellB (j := 3) hO rfl
    have y4 := cellB (j := 4) hO rfl
    have HA := Lib.hid bO
    have HO := Lib.hid hO
    clear bO hO
    go_enter Tryz.func28, Tryz.ntmps28
    go_wp2_with fail
    refine (one_any _ _).mono ?_
    rintro e w' ⟨rfl, rfl⟩
    rw [hone]
    have er : r = noP p := by rw [HR.out]; exact if_neg (by rw [hua, Bool.false_and]; decide)
    go_wp2_with fail
    go_returns
    rw [er]
    exact ⟨rfl, RGrew.same HRF.out HA.out⟩
  · have hdn : decide ((na : Int) < 0) = false := decide_eq_false (by omega)
    have hdb : decide ((m.length : Int) ≤ (na : Int)) = true := decide_eq_true (by omega)
    have hdb2 : decide (m.length ≤ na) = true := decide_eq_true hbig
    have bO := bA0 w (.cells #[.int .i64 8, .int .i64 (na : Int), .int .i64 ob, .int .u64 on, .string os] OpT)
    have hO := heap_alloc_new w (.cells #[.int .i64 8, .int .i64 (na : Int), .int .i64 ob, .int .u64 on, .string os] OpT)
    have y0 := cellB (j := 0) hO rfl
    have y1 := cellB (j := 1) hO rfl
    have y2 := cellB (j := 2) hO rfl
    have y3 := cellB (j := 3) hO rfl
    have y4 := cellB (j := 4) hO rfl
    have HA := Lib.hid bO
    have HO := Lib.hid hO
    clear bO hO
    go_enter Tryz.func28, Tryz.ntmps28
    go_wp2_with fail
    refine (one_any _ _).mono ?_
    rintro e w' ⟨rfl, rfl⟩
    rw [hone]
    have er : r = noP p := by rw [HR.out]; exact if_neg (by rw [hua, Bool.false_and]; decide)
    go_wp2_with fail
    go_returns
    rw [er]
    exact ⟨rfl, RGrew.same HRF.out HA.out⟩
  · have hdn : decide ((na : Int) < 0) = false := decide_eq_false (by omega)
    have hdb : decide ((m.length : Int) ≤ (na : Int)) = false := decide_eq_false (by omega)
    have hdb2 : decide (m.length ≤ na) = false := decide_eq_false (by omega)
    have ha0 : (0 : Int) ≤ (na : Int) := by omega
    have ha1 : (na : Int) < (m.length : Int) := by omega
    obtain ⟨mb, mo, mcc, hme, hc1⟩ := row_at HM.out hlt
    cases hme
    have bO := bA0 w (.cells #[.int .i64 8, .int .i64 (na : Int), .int .i64 ob, .int .u64 on, .string os] OpT)
    have hO := heap_alloc_new w (.cells #[.int .i64 8, .int .i64 (na : Int), .int .i64 ob, .int .u64 on, .string os] OpT)
    have y0 := cellB (j := 0) hO rfl
    have y1 := cellB (j := 1) hO rfl
    have y2 := cellB (j := 2) hO rfl
    have y3 := cellB (j := 3) hO rfl
    have y4 := cellB (j := 4) hO rfl
    have HA := Lib.hid bO
    have HO := Lib.hid hO
    clear bO hO
    go_enter Tryz.func28, Tryz.ntmps28
    have c1 := bcellAt HA.out hc1
    go_wp2_with fail
    refine (one_any _ _).mono ?_
    rintro e w' ⟨rfl, rfl⟩
    rw [hone]
    go_wp2_with fail
    refine (two9_any _ _).mono ?_
    rintro e w' ⟨rfl, rfl⟩
    rw [htwo]
    go_wp2_with fail
    refine (one_any _ _).mono ?_
    rintro e w' ⟨rfl, rfl⟩
    rw [hone]
    have RN := Lib.hid (rnode (HRF.out.below HA.out) (mdP m (na : Int)))
    have hndok := rnd_i64 HRF.out (mdP m (na : Int))
    generalize hnn : (atP p (mdP m (na : Int))).1 = nn at *
    have HNN := Lib.hid hnn
    clear hnn
    obtain ⟨nk, nf, nt, nu, ns, nx, ny⟩ := nn
    simp only [nodeA] at RN
    go_wp2_with fail
    refine RN.out.mono ?_
    rintro e w1 ⟨rfl, u1⟩
    obtain ⟨bX, hX, hK⟩ := two_boxes w1 (.cells #[.int .i64 nk, .int .i64 nf, .int .i64 nt, .int .u64 nu, .string ns, .int .i64 nx, .int .i64 ny] NodeT) (.cells #[.int .i64 0, .int .i64 0, .int .i64 0, .int .u64 0, .string ⟨#[]⟩, .int .i64 0, .int .i64 0] NodeT)
    have HX := Lib.hid (bmore HA.out (bmore u1 bX))
    have ho2 := Hold.below (bmore u1 bX) _ _ HO.out
    have HO2 := Lib.hid ho2
    have HKB := Lib.hid hK
    have n0 := cellB (j := 0) hX rfl
    have n5 := cellB (j := 5) hX rfl
    have n6 := cellB (j := 6) hX rfl
    have y0 := cellB (j := 0) ho2 rfl
    have y1 := cellB (j := 1) ho2 rfl
    have y2 := cellB (j := 2) ho2 rfl
    have y3 := cellB (j := 3) ho2 rfl
    have y4 := cellB (j := 4) ho2 rfl
    have hkb : w.heap.size ≤ w1.heap.size := Nat.le_trans HA.out.size u1.size
    clear bX hX hK ho2 u1 RN
    have hnd : ndP p m (na : Int) = ⟨nk, nf, nt, nu, ns, nx, ny⟩ := HNN.out
    by_cases h7 : nk = 7
    · subst h7
      have er : r = (nx, 0, p) := by rw [HR.out, hnd]; exact if_pos (by rw [hua]; rfl)
      go_wp2_with fail
      go_returns
      rw [er]
      exact ⟨rfl, RGrew.same HRF.out HX.out⟩
    by_cases h8 : nk = 8
    · subst h8
      have er : r = (nx, 0, p) := by rw [HR.out, hnd]; exact if_pos (by rw [hua]; rfl)
      go_wp2_with fail
      go_returns
      rw [er]
      exact ⟨rfl, RGrew.same HRF.out HX.out⟩
    by_cases h9 : nk = 9
    · subst h9
      have er : r = (nx, 0, p) := by rw [HR.out, hnd]; exact if_pos (by rw [hua]; rfl)
      go_wp2_with fail
      go_returns
      rw [er]
      exact ⟨rfl, RGrew.same HRF.out HX.out⟩
    have hd7 : (nk != 7) = true := by simp [h7]
    have hd8 : (nk != 8) = true := by simp [h8]
    have hd9 : (nk != 9) = true := by simp [h9]
    have er : r = noP p := by rw [HR.out]; exact if_neg (by rw [hnd, hua]; simp [showB, h7, h8, h9])
    go_wp2_with fail
    go_returns
    rw [er]
    exact ⟨rfl, RGrew.same HRF.out HX.out⟩
set_option maxRecDepth 100000 in
set_option maxHeartbeats 6400000 in
theorem rdo_9 (hrf : IsRef w B a vl vs vd p) (hg : Row w 1 gvl g.length (ints g)) (hm : Row w 1 mvl m.length (ints m)) (hmi : ∀ x ∈ m, i64R x) {oa ob on : Int} {os : ByteArray} (hoa : i64R oa) (hon : 0 ≤ on ∧ on ≤ 18446744073709551615) (hos : os.size ≤ maxLen) : Calls Tryz.prog 28 #[.pointer (some ⟨a, 0, none⟩), gvl, mvl, .agg #[.int .i64 9, .int .i64 oa, .int .i64 ob, .int .u64 on, .string os]] w (RDoPost w B a vl vs vd (doP p g m ⟨9, oa, ob, on, os⟩)) := by
  obtain ⟨r, hr⟩ : ∃ r, r = doP p g m ⟨9, oa, ob, on, os⟩ := ⟨_, rfl⟩
  rw [← hr]
  rw [show doP p g m ⟨9, oa, ob, on, os⟩ = (if (upB m oa && (upB m ob && (ndP p m ob).kind == 6)) = true then mkP p ⟨7, (ndP p m ob).frm, 0, 0, emptyS, mdP m oa, 0⟩ else noP p) from rfl] at hr
  have HR := Lib.hid hr
  clear hr
  obtain ⟨ga, gc, rfl⟩ := hg.shape
  obtain ⟨ma, mc, rfl⟩ := hm.shape
  have HRF := Lib.hid hrf
  have HG := Lib.hid hg
  have HM := Lib.hid hm
  have HMI := Lib.hid hmi
  have HON := Lib.hid hon
  have HOS := Lib.hid hos
  have HOA := Lib.hid hoa
  have hone : oneB 9 = true := rfl
  have htwo : twoB9 9 = true := rfl
  clear hrf hg hm hmi hon hos hoa
  rcases up3 m oa with ⟨hneg, hua⟩ | ⟨na, rfl, hbig, hua⟩ | ⟨na, rfl, hlt, hua⟩
  · have hdn : decide (oa < 0) = true := decide_eq_true hneg
    have bO := bA0 w (.cells #[.int .i64 9, .int .i64 oa, .int .i64 ob, .int .u64 on, .string os] OpT)
    have hO := heap_alloc_new w (.cells #[.int .i64 9, .int .i64 oa, .int .i64 ob, .int .u64 on, .string os] OpT)
    have y0 := cellB (j := 0) hO rfl
    have y1 := cellB (j := 1) hO rfl
    have y2 := cellB (j := 2) hO rfl
    have y3 := cellB (j := 3) hO rfl
    have y4 := cellB (j := 4) hO rfl
    have HA := Lib.hid bO
    have HO := Lib.hid hO
    clear bO hO
    go_enter Tryz.func28, Tryz.ntmps28
    go_wp2_with fail
    refine (one_any _ _).mono ?_
    rintro e w' ⟨rfl, rfl⟩
    rw [hone]
    have er : r = noP p := by rw [HR.out]; exact if_neg (by rw [hua, Bool.false_and]; decide)
    go_wp2_with fail
    go_returns
    rw [er]
    exact ⟨rfl, RGrew.same HRF.out HA.out⟩
  · have hdn : decide ((na : Int) < 0) = false := decide_eq_false (by omega)
    have hdb : decide ((m.length : Int) ≤ (na : Int)) = true := decide_eq_true (by omega)
    have hdb2 : decide (m.length ≤ na) = true := decide_eq_true hbig
    have bO := bA0 w (.cells #[.int .i64 9, .int .i64 (na : Int), .int .i64 ob, .int .u64 on, .string os] OpT)
    have hO := heap_alloc_new w (.cells #[.int .i64 9, .int .i64 (na : Int), .int .i64 ob, .int .u64 on, .string os] OpT)
    have y0 := cellB (j := 0) hO rfl
    have y1 := cellB (j := 1) hO rfl
    have y2 := cellB (j := 2) hO rfl
    have y3 := cellB (j := 3) hO rfl
    have y4 := cellB (j := 4) hO rfl
    have HA := Lib.hid bO
    have HO := Lib.hid hO
    clear bO hO
    go_enter Tryz.func28, Tryz.ntmps28
    go_wp2_with fail
    refine (one_any _ _).mono ?_
    rintro e w' ⟨rfl, rfl⟩
    rw [hone]
    have er : r = noP p := by rw [HR.out]; exact if_neg (by rw [hua, Bool.false_and]; decide)
    go_wp2_with fail
    go_returns
    rw [er]
    exact ⟨rfl, RGrew.same HRF.out HA.out⟩
  · have hdn : decide ((na : Int) < 0) = false := decide_eq_false (by omega)
    have hdb : decide ((m.length : Int) ≤ (na : Int)) = false := decide_eq_false (by omega)
    have hdb2 : decide (m.length ≤ na) = false := decide_eq_false (by omega)
    have ha0 : (0 : Int) ≤ (na : Int) := by omega
    have ha1 : (na : Int) < (m.length : Int) := by omega
    obtain ⟨mb, mo, mcc, hme, hc1⟩ := row_at HM.out hlt
    cases hme
    rcases up3 m ob with ⟨hnegb, hub⟩ | ⟨nb, rfl, hbigb, hub⟩ | ⟨nb, rfl, hltb, hub⟩
    · have hen : decide (ob < 0) = true := decide_eq_true hnegb
      have bO := bA0 w (.cells #[.int .i64 9, .int .i64 (na : Int), .int .i64 ob, .int .u64 on, .string os] OpT)
      have hO := heap_alloc_new w (.cells #[.int .i64 9, .int .i64 (na : Int), .int .i64 ob, .int .u64 on, .string os] OpT)
      have y0 := cellB (j := 0) hO rfl
      have y1 := cellB (j := 1) hO rfl
      have y2 := cellB (j := 2) hO rfl
      have y3 := cellB (j := 3) hO rfl
      have y4 := cellB (j := 4) hO rfl
      have HA := Lib.hid bO
      have HO := Lib.hid hO
      clear bO hO
      go_enter Tryz.func28, Tryz.ntmps28
      go_wp2_with fail
      refine (one_any _ _).mono ?_
      rintro e w' ⟨rfl, rfl⟩
      rw [hone]
      go_wp2_with fail
      refine (two9_any _ _).mono ?_
      rintro e w' ⟨rfl, rfl⟩
      rw [htwo]
      have er : r = noP p := by rw [HR.out]; exact if_neg (by rw [hua, hub, Bool.false_and]; decide)
      go_wp2_with fail
      go_returns
      rw [er]
      exact ⟨rfl, RGrew.same HRF.out HA.out⟩
    · have hen : decide ((nb : Int) < 0) = false := decide_eq_false (by omega)
      have heb : decide ((m.length : Int) ≤ (nb : Int)) = true := decide_eq_true (by omega)
      have heb2 : decide (m.length ≤ nb) = true := decide_eq_true hbigb
      have bO := bA0 w (.cells #[.int .i64 9, .int .i64 (na : Int), .int .i64 (nb : Int), .int .u64 on, .string os] OpT)
      have hO := heap_alloc_new w (.cells #[.int .i64 9, .int .i64 (na : Int), .int .i64 (nb : Int), .int .u64 on, .string os] OpT)
      have y0 := cellB (j := 0) hO rfl
      have y1 := cellB (j := 1) hO rfl
      have y2 := cellB (j := 2) hO rfl
      have y3 := cellB (j := 3) hO rfl
      have y4 := cellB (j := 4) hO rfl
      have HA := Lib.hid bO
      have HO := Lib.hid hO
      clear bO hO
      go_enter Tryz.func28, Tryz.ntmps28
      go_wp2_with fail
      refine (one_any _ _).mono ?_
      rintro e w' ⟨rfl, rfl⟩
      rw [hone]
      go_wp2_with fail
      refine (two9_any _ _).mono ?_
      rintro e w' ⟨rfl, rfl⟩
      rw [htwo]
      have er : r = noP p := by rw [HR.out]; exact if_neg (by rw [hua, hub, Bool.false_and]; decide)
      go_wp2_with fail
      go_returns
      rw [er]
      exact ⟨rfl, RGrew.same HRF.out HA.out⟩
    · have hen : decide ((nb : Int) < 0) = false := decide_eq_false (by omega)
      have heb : decide ((m.length : Int) ≤ (nb : Int)) = false := decide_eq_false (by omega)
      have heb2 : decide (m.length ≤ nb) = false := decide_eq_false (by omega)
      have hb0 : (0 : Int) ≤ (nb : Int) := by omega
      have hb1 : (nb : Int) < (m.length : Int) := by omega
      obtain ⟨mb2, mo2, mcc2, hme2, hc2⟩ := row_at HM.out hltb
      cases hme2
      have bO := bA0 w (.cells #[.int .i64 9, .int .i64 (na : Int), .int .i64 (nb : Int), .int .u64 on, .string os] OpT)
      have hO := heap_alloc_new w (.cells #[.int .i64 9, .int .i64 (na : Int), .int .i64 (nb : Int), .int .u64 on, .string os] OpT)
      have y0 := cellB (j := 0) hO rfl
      have y1 := cellB (j := 1) hO rfl
      have y2 := cellB (j := 2) hO rfl
      have y3 := cellB (j := 3) hO rfl
      have y4 := cellB (j := 4) hO rfl
      have HA := Lib.hid bO
      have HO := Lib.hid hO
      clear bO hO
      go_enter Tryz.func28, Tryz.ntmps28
      have c1 := bcellAt HA.out hc1
      have c2 := hc2
      go_wp2_with fail
      refine (one_any _ _).mono ?_
      rintro e w' ⟨rfl, rfl⟩
      rw [hone]
      go_wp2_with fail
      refine (two9_any _ _).mono ?_
      rintro e w' ⟨rfl, rfl⟩
      rw [htwo]
      go_wp2_with fail
      refine (one_any _ _).mono ?_
      rintro e w' ⟨rfl, rfl⟩
      rw [hone]
      have RN := Lib.hid (rnode (HRF.out.below HA.out) (mdP m (na : Int)))
      have hndok := rnd_i64 HRF.out (mdP m (na : Int))
      generalize hnn : (atP p (mdP m (na : Int))).1 = nn at *
      have HNN := Lib.hid hnn
      clear hnn
      obtain ⟨nk, nf, nt, nu, ns, nx, ny⟩ := nn
      simp only [nodeA] at RN
      go_wp2_with fail
      refine RN.out.mono ?_
      rintro e w1 ⟨rfl, u1⟩
      obtain ⟨bX, hX, hK⟩ := two_boxes w1 (.cells #[.int .i64 nk, .int .i64 nf, .int .i64 nt, .int .u64 nu, .string ns, .int .i64 nx, .int .i64 ny] NodeT) (.cells #[.int .i64 0, .int .i64 0, .int .i64 0, .int .u64 0, .string ⟨#[]⟩, .int .i64 0, .int .i64 0] NodeT)
      have HX := Lib.hid (bmore HA.out (bmore u1 bX))
      have ho2 := Hold.below (bmore u1 bX) _ _ HO.out
      have HO2 := Lib.hid ho2
      have HKB := Lib.hid hK
      have n0 := cellB (j := 0) hX rfl
      have n5 := cellB (j := 5) hX rfl
      have n6 := cellB (j := 6) hX rfl
      have y0 := cellB (j := 0) ho2 rfl
      have y1 := cellB (j := 1) ho2 rfl
      have y2 := cellB (j := 2) ho2 rfl
      have y3 := cellB (j := 3) ho2 rfl
      have y4 := cellB (j := 4) ho2 rfl
      have hkb : w.heap.size ≤ w1.heap.size := Nat.le_trans HA.out.size u1.size
      clear bX hX hK ho2 u1 RN
      have d2 := bcellAt HX.out c2
      have RK := Lib.hid (rnode (HRF.out.below HX.out) (mdP m (nb : Int)))
      have hkok := rnd_i64 HRF.out (mdP m (nb : Int))
      generalize hkk : (atP p (mdP m (nb : Int))).1 = kn at *
      have HKN := Lib.hid (show ndP p m (nb : Int) = kn from hkk)
      clear hkk
      obtain ⟨kk, kf, kt, ku, ks, kx, ky⟩ := kn
      simp only [nodeA] at RK
      have HKF := Lib.hid hkok.frm
      clear hkok
      go_wp2_with fail
      generalize ((w1.alloc (.cells #[.int .i64 nk, .int .i64 nf, .int .i64 nt, .int .u64 nu, .string ns, .int .i64 nx, .int .i64 ny] NodeT)).alloc (.cells #[.int .i64 0, .int .i64 0, .int .i64 0, .int .u64 0, .string ⟨#[]⟩, .int .i64 0, .int .i64 0] NodeT)) = X2 at *
      refine RK.out.mono ?_
      rintro e w3 ⟨rfl, u3⟩
      have hk3 := Hold.below u3 _ _ HKB.out
      have ho3 := Hold.below u3 _ _ HO2.out
      have hk4 : (w3.setRow (w1.heap.size + 1) #[.int .i64 kk, .int .i64 kf, .int .i64 kt, .int .u64 ku, .string ks, .int .i64 kx, .int .i64 ky]).heap[w1.heap.size + 1]? = some (Obj.cells #[.int .i64 kk, .int .i64 kf, .int .i64 kt, .int .u64 ku, .string ks, .int .i64 kx, .int .i64 ky] NodeT) := setRow_heap _ _ _ _ _ _ hk3
      have ho4 : (w3.setRow (w1.heap.size + 1) #[.int .i64 kk, .int .i64 kf, .int .i64 kt, .int .u64 ku, .string ks, .int .i64 kx, .int .i64 ky]).heap[w.heap.size]? = some (Obj.cells #[.int .i64 9, .int .i64 (na : Int), .int .i64 (nb : Int), .int .u64 on, .string os] OpT) := by rw [setRow_other _ _ _ _ (by omega)]; exact ho3
      have HX4 : Hid (Below w.heap.size w (w3.setRow (w1.heap.size + 1) #[.int .i64 kk, .int .i64 kf, .int .i64 kt, .int .u64 ku, .string ks, .int .i64 kx, .int .i64 ky])) := Lib.hid (by
        have h1 := bmore HX.out u3
        exact ⟨h1.os, h1.tape, h1.output, by have := h1.size; simpa [World.setRow] using this, fun j hj => by rw [setRow_other _ _ _ _ (by omega)]; exact h1.block j hj⟩)
      have k0 := cellB (j := 0) hk4 rfl
      have k1 := cellB (j := 1) hk4 rfl
      have y0 := cellB (j := 0) ho4 rfl
      have y3 := cellB (j := 3) ho4 rfl
      have HK3 := Lib.hid hk3
      have HK4 := Lib.hid hk4
      have HO4 := Lib.hid ho4
      clear u3 hk3 ho3 hk4 ho4 d2 y1 y2 y4 n0 n5 n6 RK
      by_cases h6 : kk = 6
      · subst h6
        have RM := Lib.hid (rmake (HRF.out.below HX4.out) (n := ⟨7, kf, 0, 0, emptyS, mdP m (na : Int), 0⟩) ⟨(i64R_lit (by simp)), HKF.out, (i64R_lit (by simp)), (by simp), emptyS_le, HMI.out _ (md_in hua), (i64R_lit (by simp))⟩)
        go_wp2_with (refine wpList_store_row rfl NodeT _ _ rfl (w1.heap.size + 1) #[.int .i64 6, .int .i64 kf, .int .i64 kt, .int .u64 ku, .string ks, .int .i64 kx, .int .i64 ky] rfl rfl NodeT #[.int .i64 0, .int .i64 0, .int .i64 0, .int .u64 0, .string ⟨#[]⟩, .int .i64 0, .int .i64 0] HK3.out (by kernel_rfl) rfl (by simp [Value.oneCell']) ?_)
        refine RM.out.mono ?_
        rintro e w9 hp9
        have er : r = mkP p ⟨7, kf, 0, 0, emptyS, mdP m (na : Int), 0⟩ := by rw [HR.out, HKN.out]; exact if_pos (by rw [hua, hub]; rfl)
        obtain ⟨he9, g9⟩ := hp9
        rw [← er] at he9 g9
        subst he9
        have HGR := Lib.hid (RGrew.after HRF.out HX4.out g9)
        clear g9 er
        go_wp2_with fail
        go_returns
        exact ⟨rfl, HGR.out⟩
      · have hd6 : (kk != 6) = true := by simp [h6]
        have er : r = noP p := by rw [HR.out, HKN.out]; exact if_neg (by rw [hua, hub]; simp [h6])
        go_wp2_with (refine wpList_store_row rfl NodeT _ _ rfl (w1.heap.size + 1) #[.int .i64 kk, .int .i64 kf, .int .i64 kt, .int .u64 ku, .string ks, .int .i64 kx, .int .i64 ky] rfl rfl NodeT #[.int .i64 0, .int .i64 0, .int .i64 0, .int .u64 0, .string ⟨#[]⟩, .int .i64 0, .int .i64 0] HK3.out (by kernel_rfl) rfl (by simp [Value.oneCell']) ?_)
        go_returns
        rw [er]
        exact ⟨rfl, RGrew.same HRF.out HX4.out⟩
set_option maxRecDepth 100000 in
set_option maxHeartbeats 6400000 in
theorem rdo_10 (hrf : IsRef w B a vl vs vd p) (hg : Row w 1 gvl g.length (ints g)) (hm : Row w 1 mvl m.length (ints m)) (hmi : ∀ x ∈ m, i64R x) {oa ob on : Int} {os : ByteArray} (hoa : i64R oa) (hon : 0 ≤ on ∧ on ≤ 18446744073709551615) (hos : os.size ≤ maxLen) : Calls Tryz.prog 28 #[.pointer (some ⟨a, 0, none⟩), gvl, mvl, .agg #[.int .i64 10, .int .i64 oa, .int .i64 ob, .int .u64 on, .string os]] w (RDoPost w B a vl vs vd (doP p g m ⟨10, oa, ob, on, os⟩)) := by
  obtain ⟨r, hr⟩ : ∃ r, r = doP p g m ⟨10, oa, ob, on, os⟩ := ⟨_, rfl⟩
  rw [← hr]
  rw [show doP p g m ⟨10, oa, ob, on, os⟩ = (if (upB m oa && (upB m ob && (ndP p m ob).kind == 6)) = true then mkP p ⟨8, (ndP p m ob).frm, nmP on, 0, emptyS, mdP m oa, 0⟩ else noP p) from rfl] at hr
  have HR := Lib.hid hr
  clear hr
  obtain ⟨ga, gc, rfl⟩ := hg.shape
  obtain ⟨ma, mc, rfl⟩ := hm.shape
  have HRF := Lib.hid hrf
  have HG := Lib.hid hg
  have HM := Lib.hid hm
  have HMI := Lib.hid hmi
  have HON := Lib.hid hon
  have HOS := Lib.hid hos
  have HOA := Lib.hid hoa
  have hone : oneB 10 = true := rfl
  have htwo : twoB9 10 = true := rfl
  clear hrf hg hm hmi hon hos hoa
  rcases up3 m oa with ⟨hneg, hua⟩ | ⟨na, rfl, hbig, hua⟩ | ⟨na, rfl, hlt, hua⟩
  · have hdn : decide (oa < 0) = true := decide_eq_true hneg
    have bO := bA0 w (.cells #[.int .i64 10, .int .i64 oa, .int .i64 ob, .int .u64 on, .string os] OpT)
    have hO := heap_alloc_new w (.cells #[.int .i64 10, .int .i64 oa, .int .i64 ob, .int .u64 on, .string os] OpT)
    have y0 := cellB (j := 0) hO rfl
    have y1 := cellB (j := 1) hO rfl
    have y2 := cellB (j := 2) hO rfl
    have y3 := cellB (j := 3) hO rfl
    have y4 := cellB (j := 4) hO rfl
    have HA := Lib.hid bO
    have HO := Lib.hid hO
    clear bO hO
    go_enter Tryz.func28, Tryz.ntmps28
    go_wp2_with fail
    refine (one_any _ _).mono ?_
    rintro e w' ⟨rfl, rfl⟩
    rw [hone]
    have er : r = noP p := by rw [HR.out]; exact if_neg (by rw [hua, Bool.false_and]; decide)
    go_wp2_with fail
    go_returns
    rw [er]
    exact ⟨rfl, RGrew.same HRF.out HA.out⟩
  · have hdn : decide ((na : Int) < 0) = false := decide_eq_false (by omega)
    have hdb : decide ((m.length : Int) ≤ (na : Int)) = true := decide_eq_true (by omega)
    have hdb2 : decide (m.length ≤ na) = true := decide_eq_true hbig
    have bO := bA0 w (.cells #[.int .i64 10, .int .i64 (na : Int), .int .i64 ob, .int .u64 on, .string os] OpT)
    have hO := heap_alloc_new w (.cells #[.int .i64 10, .int .i64 (na : Int), .int .i64 ob, .int .u64 on, .string os] OpT)
    have y0 := cellB (j := 0) hO rfl
    have y1 := cellB (j := 1) hO rfl
    have y2 := cellB (j := 2) hO rfl
    have y3 := cellB (j := 3) hO rfl
    have y4 := cellB (j := 4) hO rfl
    have HA := Lib.hid bO
    have HO := Lib.hid hO
    clear bO hO
    go_enter Tryz.func28, Tryz.ntmps28
    go_wp2_with fail
    refine (one_any _ _).mono ?_
    rintro e w' ⟨rfl, rfl⟩
    rw [hone]
    have er : r = noP p := by rw [HR.out]; exact if_neg (by rw [hua, Bool.false_and]; decide)
    go_wp2_with fail
    go_returns
    rw [er]
    exact ⟨rfl, RGrew.same HRF.out HA.out⟩
  · have hdn : decide ((na : Int) < 0) = false := decide_eq_false (by omega)
    have hdb : decide ((m.length : Int) ≤ (na : Int)) = false := decide_eq_false (by omega)
    have hdb2 : decide (m.length ≤ na) = false := decide_eq_false (by omega)
    have ha0 : (0 : Int) ≤ (na : Int) := by omega
    have ha1 : (na : Int) < (m.length : Int) := by omega
    obtain ⟨mb, mo, mcc, hme, hc1⟩ := row_at HM.out hlt
    cases hme
    rcases up3 m ob with ⟨hnegb, hub⟩ | ⟨nb, rfl, hbigb, hub⟩ | ⟨nb, rfl, hltb, hub⟩
    · have hen : decide (ob < 0) = true := decide_eq_true hnegb
      have bO := bA0 w (.cells #[.int .i64 10, .int .i64 (na : Int), .int .i64 ob, .int .u64 on, .string os] OpT)
      have hO := heap_alloc_new w (.cells #[.int .i64 10, .int .i64 (na : Int), .int .i64 ob, .int .u64 on, .string os] OpT)
      have y0 := cellB (j := 0) hO rfl
      have y1 := cellB (j := 1) hO rfl
      have y2 := cellB (j := 2) hO rfl
      have y3 := cellB (j := 3) hO rfl
      have y4 := cellB (j := 4) hO rfl
      have HA := Lib.hid bO
      have HO := Lib.hid hO
      clear bO hO
      go_enter Tryz.func28, Tryz.ntmps28
      go_wp2_with fail
      refine (one_any _ _).mono ?_
      rintro e w' ⟨rfl, rfl⟩
      rw [hone]
      go_wp2_with fail
      refine (two9_any _ _).mono ?_
      rintro e w' ⟨rfl, rfl⟩
      rw [htwo]
      have er : r = noP p := by rw [HR.out]; exact if_neg (by rw [hua, hub, Bool.false_and]; decide)
      go_wp2_with fail
      go_returns
      rw [er]
      exact ⟨rfl, RGrew.same HRF.out HA.out⟩
    · have hen : decide ((nb : Int) < 0) = false := decide_eq_false (by omega)
      have heb : decide ((m.length : Int) ≤ (nb : Int)) = true := decide_eq_true (by omega)
      have heb2 : decide (m.length ≤ nb) = true := decide_eq_true hbigb
      have bO := bA0 w (.cells #[.int .i64 10, .int .i64 (na : Int), .int .i64 (nb : Int), .int .u64 on, .string os] OpT)
      have hO := heap_alloc_new w (.cells #[.int .i64 10, .int .i64 (na : Int), .int .i64 (nb : Int), .int .u64 on, .string os] OpT)
      have y0 := cellB (j := 0) hO rfl
      have y1 := cellB (j := 1) hO rfl
      have y2 := cellB (j := 2) hO rfl
      have y3 := cellB (j := 3) hO rfl
      have y4 := cellB (j := 4) hO rfl
      have HA := Lib.hid bO
      have HO := Lib.hid hO
      clear bO hO
      go_enter Tryz.func28, Tryz.ntmps28
      go_wp2_with fail
      refine (one_any _ _).mono ?_
      rintro e w' ⟨rfl, rfl⟩
      rw [hone]
      go_wp2_with fail
      refine (two9_any _ _).mono ?_
      rintro e w' ⟨rfl, rfl⟩
      rw [htwo]
      have er : r = noP p := by rw [HR.out]; exact if_neg (by rw [hua, hub, Bool.false_and]; decide)
      go_wp2_with fail
      go_returns
      rw [er]
      exact ⟨rfl, RGrew.same HRF.out HA.out⟩
    · have hen : decide ((nb : Int) < 0) = false := decide_eq_false (by omega)
      have heb : decide ((m.length : Int) ≤ (nb : Int)) = false := decide_eq_false (by omega)
      have heb2 : decide (m.length ≤ nb) = false := decide_eq_false (by omega)
      have hb0 : (0 : Int) ≤ (nb : Int) := by omega
      have hb1 : (nb : Int) < (m.length : Int) := by omega
      obtain ⟨mb2, mo2, mcc2, hme2, hc2⟩ := row_at HM.out hltb
      cases hme2
      have bO := bA0 w (.cells #[.int .i64 10, .int .i64 (na : Int), .int .i64 (nb : Int), .int .u64 on, .string os] OpT)
      have hO := heap_alloc_new w (.cells #[.int .i64 10, .int .i64 (na : Int), .int .i64 (nb : Int), .int .u64 on, .string os] OpT)
      have y0 := cellB (j := 0) hO rfl
      have y1 := cellB (j := 1) hO rfl
      have y2 := cellB (j := 2) hO rfl
      have y3 := cellB (j := 3) hO rfl
      have y4 := cellB (j := 4) hO rfl
      have HA := Lib.hid bO
      have HO := Lib.hid hO
      clear bO hO
      go_enter Tryz.func28, Tryz.ntmps28
      have c1 := bcellAt HA.out hc1
      have c2 := hc2
      go_wp2_with fail
      refine (one_any _ _).mono ?_
      rintro e w' ⟨rfl, rfl⟩
      rw [hone]
      go_wp2_with fail
      refine (two9_any _ _).mono ?_
      rintro e w' ⟨rfl, rfl⟩
      rw [htwo]
      go_wp2_with fail
      refine (one_any _ _).mono ?_
      rintro e w' ⟨rfl, rfl⟩
      rw [hone]
      have RN := Lib.hid (rnode (HRF.out.below HA.out) (mdP m (na : Int)))
      have hndok := rnd_i64 HRF.out (mdP m (na : Int))
      generalize hnn : (atP p (mdP m (na : Int))).1 = nn at *
      have HNN := Lib.hid hnn
      clear hnn
      obtain ⟨nk, nf, nt, nu, ns, nx, ny⟩ := nn
      simp only [nodeA] at RN
      go_wp2_with fail
      refine RN.out.mono ?_
      rintro e w1 ⟨rfl, u1⟩
      obtain ⟨bX, hX, hK⟩ := two_boxes w1 (.cells #[.int .i64 nk, .int .i64 nf, .int .i64 nt, .int .u64 nu, .string ns, .int .i64 nx, .int .i64 ny] NodeT) (.cells #[.int .i64 0, .int .i64 0, .int .i64 0, .int .u64 0, .string ⟨#[]⟩, .int .i64 0, .int .i64 0] NodeT)
      have HX := Lib.hid (bmore HA.out (bmore u1 bX))
      have ho2 := Hold.below (bmore u1 bX) _ _ HO.out
      have HO2 := Lib.hid ho2
      have HKB := Lib.hid hK
      have n0 := cellB (j := 0) hX rfl
      have n5 := cellB (j := 5) hX rfl
      have n6 := cellB (j := 6) hX rfl
      have y0 := cellB (j := 0) ho2 rfl
      have y1 := cellB (j := 1) ho2 rfl
      have y2 := cellB (j := 2) ho2 rfl
      have y3 := cellB (j := 3) ho2 rfl
      have y4 := cellB (j := 4) ho2 rfl
      have hkb : w.heap.size ≤ w1.heap.size := Nat.le_trans HA.out.size u1.size
      clear bX hX hK ho2 u1 RN
      have d2 := bcellAt HX.out c2
      have RK := Lib.hid (rnode (HRF.out.below HX.out) (mdP m (nb : Int)))
      have hkok := rnd_i64 HRF.out (mdP m (nb : Int))
      generalize hkk : (atP p (mdP m (nb : Int))).1 = kn at *
      have HKN := Lib.hid (show ndP p m (nb : Int) = kn from hkk)
      clear hkk
      obtain ⟨kk, kf, kt, ku, ks, kx, ky⟩ := kn
      simp only [nodeA] at RK
      have HKF := Lib.hid hkok.frm
      clear hkok
      go_wp2_with fail
      generalize ((w1.alloc (.cells #[.int .i64 nk, .int .i64 nf, .int .i64 nt, .int .u64 nu, .string ns, .int .i64 nx, .int .i64 ny] NodeT)).alloc (.cells #[.int .i64 0, .int .i64 0, .int .i64 0, .int .u64 0, .string ⟨#[]⟩, .int .i64 0, .int .i64 0] NodeT)) = X2 at *
      refine RK.out.mono ?_
      rintro e w3 ⟨rfl, u3⟩
      have hk3 := Hold.below u3 _ _ HKB.out
      have ho3 := Hold.below u3 _ _ HO2.out
      have hk4 : (w3.setRow (w1.heap.size + 1) #[.int .i64 kk, .int .i64 kf, .int .i64 kt, .int .u64 ku, .string ks, .int .i64 kx, .int .i64 ky]).heap[w1.heap.size + 1]? = some (Obj.cells #[.int .i64 kk, .int .i64 kf, .int .i64 kt, .int .u64 ku, .string ks, .int .i64 kx, .int .i64 ky] NodeT) := setRow_heap _ _ _ _ _ _ hk3
      have ho4 : (w3.setRow (w1.heap.size + 1) #[.int .i64 kk, .int .i64 kf, .int .i64 kt, .int .u64 ku, .string ks, .int .i64 kx, .int .i64 ky]).heap[w.heap.size]? = some (Obj.cells #[.int .i64 10, .int .i64 (na : Int), .int .i64 (nb : Int), .int .u64 on, .string os] OpT) := by rw [setRow_other _ _ _ _ (by omega)]; exact ho3
      have HX4 : Hid (Below w.heap.size w (w3.setRow (w1.heap.size + 1) #[.int .i64 kk, .int .i64 kf, .int .i64 kt, .int .u64 ku, .string ks, .int .i64 kx, .int .i64 ky])) := Lib.hid (by
        have h1 := bmore HX.out u3
        exact ⟨h1.os, h1.tape, h1.output, by have := h1.size; simpa [World.setRow] using this, fun j hj => by rw [setRow_other _ _ _ _ (by omega)]; exact h1.block j hj⟩)
      have k0 := cellB (j := 0) hk4 rfl
      have k1 := cellB (j := 1) hk4 rfl
      have y0 := cellB (j := 0) ho4 rfl
      have y3 := cellB (j := 3) ho4 rfl
      have HK3 := Lib.hid hk3
      have HK4 := Lib.hid hk4
      have HO4 := Lib.hid ho4
      clear u3 hk3 ho3 hk4 ho4 d2 y1 y2 y4 n0 n5 n6 RK
      by_cases h6 : kk = 6
      · subst h6
        have HW := Lib.hid (fun (W : World) => who_any HON.out W)
        have RM : Hid (∀ W : World, Below (w3.setRow (w1.heap.size + 1) #[.int .i64 6, .int .i64 kf, .int .i64 kt, .int .u64 ku, .string ks, .int .i64 kx, .int .i64 ky]).heap.size (w3.setRow (w1.heap.size + 1) #[.int .i64 6, .int .i64 kf, .int .i64 kt, .int .u64 ku, .string ks, .int .i64 kx, .int .i64 ky]) W → Calls Tryz.prog 46 #[.pointer (some ⟨a, 0, none⟩), .agg #[.int .i64 8, .int .i64 kf, .int .i64 (whoP on), .int .u64 0, .string ⟨#[]⟩, .int .i64 (mdP m (na : Int)), .int .i64 0]] W (RPost W B a vl vs vd p (⟨8, kf, whoP on, 0, emptyS, mdP m (na : Int), 0⟩))) := Lib.hid (fun W h => rmake (HRF.out.below (bmore HX4.out h)) (n := ⟨8, kf, whoP on, 0, emptyS, mdP m (na : Int), 0⟩) ⟨(i64R_lit (by simp)), HKF.out, who_i64 HON.out, (by simp), emptyS_le, HMI.out _ (md_in hua), (i64R_lit (by simp))⟩)
        have HKD := Lib.hid (fun (V : World) (hb : Below (w3.setRow (w1.heap.size + 1) #[.int .i64 6, .int .i64 kf, .int .i64 kt, .int .u64 ku, .string ks, .int .i64 kx, .int .i64 ky]).heap.size (w3.setRow (w1.heap.size + 1) #[.int .i64 6, .int .i64 kf, .int .i64 kt, .int .u64 ku, .string ks, .int .i64 kx, .int .i64 ky]) V) => (show V.cell? ⟨w1.heap.size + 1, 1, none⟩ = some (.int .i64 kf) ∧ V.cell? ⟨w.heap.size, 3, none⟩ = some (.int .u64 on) from ⟨bcellAt hb k1, bcellAt hb y3⟩))
        have HKQ := Lib.hid (fun (V : World) (h1 : V.heap[w.heap.size]? = some (Obj.cells #[.int .i64 10, .int .i64 (na : Int), .int .i64 (nb : Int), .int .u64 on, .string os] OpT)) (h2 : V.heap[w1.heap.size + 1]? = some (Obj.cells #[.int .i64 6, .int .i64 kf, .int .i64 kt, .int .u64 ku, .string ks, .int .i64 kx, .int .i64 ky] NodeT)) => (show V.cell? ⟨w1.heap.size + 1, 1, none⟩ = some (.int .i64 kf) ∧ V.cell? ⟨w.heap.size, 3, none⟩ = some (.int .u64 on) from ⟨cellB (j := 1) h2 rfl, cellB (j := 3) h1 rfl⟩))
        have er : RDoOK r (⟨8, kf, whoP on, 0, emptyS, mdP m (na : Int), 0⟩) p := by unfold RDoOK; show r = mkP p ⟨8, kf, whoP on, 0, emptyS, mdP m (na : Int), 0⟩ ; rw [mk_who8 _ _ _ HON.out.1, HR.out, HKN.out]; exact if_pos (by rw [hua, hub]; rfl)
        have ER := Lib.hid er
        clear er
        go_wp2_with (refine wpList_store_row rfl NodeT _ _ rfl (w1.heap.size + 1) #[.int .i64 6, .int .i64 kf, .int .i64 kt, .int .u64 ku, .string ks, .int .i64 kx, .int .i64 ky] rfl rfl NodeT #[.int .i64 0, .int .i64 0, .int .i64 0, .int .u64 0, .string ⟨#[]⟩, .int .i64 0, .int .i64 0] HK3.out (by kernel_rfl) rfl (by simp [Value.oneCell']) ?_)
        generalize hX5 : (w3.setRow (w1.heap.size + 1) #[.int .i64 6, .int .i64 kf, .int .i64 kt, .int .u64 ku, .string ks, .int .i64 kx, .int .i64 ky]) = X5 at *
        have hnv : ∀ c, vl.ownBlock = some c → c ≠ w1.heap.size + 1 := fun c hc => by
          obtain ⟨_, cur, h9⟩ := own_type HRF.out.rl hc
          have := (Array.getElem?_eq_some_iff.1 h9).1
          omega
        have HNV := Lib.hid hnv
        clear hnv
        go_region_held3 (fun V => V.cell? ⟨w1.heap.size + 1, 1, none⟩ = some (.int .i64 kf) ∧ V.cell? ⟨w.heap.size, 3, none⟩ = some (.int .u64 on)) ((first | exact HKQ.out _ HOE.out HKE.out | (refine HKD.out _ ?_; first | exact bd _ | exact bdn _ _)))
          ((first
            | ((with_reducible refine (HW.out _).mono ?_); rintro e w8 ⟨rfl, rfl⟩)
            | ((with_reducible refine (RM.out _ (bd _)).mono ?_); rintro e w9 hp9; obtain ⟨he9, g9⟩ := hp9; have er := ER.out; unfold RDoOK at er; rw [← er] at he9 g9; subst he9; clear er; have HGR := Lib.hid (RGrew.after HRF.out (bmore HX4.out (bd _)) g9); have hmo := RGrew.most (HRF.out.below (bmore HX4.out (bd _))) g9; obtain ⟨_, _, _, _, hmo⟩ := hmo; have HOE := Lib.hid (hmo.hold (T := OpT) (by decide) (by decide) (by decide) _ _ (Hold.below (bd _) _ _ HO4.out)); have HKE := Lib.hid (hmo.2.2.1 _ _ (Hold.below (bd _) _ _ HK4.out) (fun e => HNV.out _ e rfl)))))
        go_wp2_with fail
        go_returns
        exact ⟨rfl, HGR.out⟩
      · have hd6 : (kk != 6) = true := by simp [h6]
        have er : r = noP p := by rw [HR.out, HKN.out]; exact if_neg (by rw [hua, hub]; simp [h6])
        go_wp2_with (refine wpList_store_row rfl NodeT _ _ rfl (w1.heap.size + 1) #[.int .i64 kk, .int .i64 kf, .int .i64 kt, .int .u64 ku, .string ks, .int .i64 kx, .int .i64 ky] rfl rfl NodeT #[.int .i64 0, .int .i64 0, .int .i64 0, .int .u64 0, .string ⟨#[]⟩, .int .i64 0, .int .i64 0] HK3.out (by kernel_rfl) rfl (by simp [Value.oneCell']) ?_)
        go_returns
        rw [er]
        exact ⟨rfl, RGrew.same HRF.out HX4.out⟩
set_option maxRecDepth 100000 in
set_option maxHeartbeats 6400000 in
theorem rdo_11 (hrf : IsRef w B a vl vs vd p) (hg : Row w 1 gvl g.length (ints g)) (hm : Row w 1 mvl m.length (ints m)) (hmi : ∀ x ∈ m, i64R x) {oa ob on : Int} {os : ByteArray} (hoa : i64R oa) (hon : 0 ≤ on ∧ on ≤ 18446744073709551615) (hos : os.size ≤ maxLen) : Calls Tryz.prog 28 #[.pointer (some ⟨a, 0, none⟩), gvl, mvl, .agg #[.int .i64 11, .int .i64 oa, .int .i64 ob, .int .u64 on, .string os]] w (RDoPost w B a vl vs vd (doP p g m ⟨11, oa, ob, on, os⟩)) := by
  obtain ⟨r, hr⟩ : ∃ r, r = doP p g m ⟨11, oa, ob, on, os⟩ := ⟨_, rfl⟩
  rw [← hr]
  rw [show doP p g m ⟨11, oa, ob, on, os⟩ = (if (upB m oa && (upB m ob && (ndP p m ob).kind == 6)) = true then mkP p ⟨9, nmP on, (ndP p m ob).frm, 0, emptyS, mdP m oa, 0⟩ else noP p) from rfl] at hr
  have HR := Lib.hid hr
  clear hr
  obtain ⟨ga, gc, rfl⟩ := hg.shape
  obtain ⟨ma, mc, rfl⟩ := hm.shape
  have HRF := Lib.hid hrf
  have HG := Lib.hid hg
  have HM := Lib.hid hm
  have HMI := Lib.hid hmi
  have HON := Lib.hid hon
  have HOS := Lib.hid hos
  have HOA := Lib.hid hoa
  have hone : oneB 11 = true := rfl
  have htwo : twoB9 11 = true := rfl
  clear hrf hg hm hmi hon hos hoa
  rcases up3 m oa with ⟨hneg, hua⟩ | ⟨na, rfl, hbig, hua⟩ | ⟨na, rfl, hlt, hua⟩
  · have hdn : decide (oa < 0) = true := decide_eq_true hneg
    have bO := bA0 w (.cells #[.int .i64 11, .int .i64 oa, .int .i64 ob, .int .u64 on, .string os] OpT)
    have hO := heap_alloc_new w (.cells #[.int .i64 11, .int .i64 oa, .int .i64 ob, .int .u64 on, .string os] OpT)
    have y0 := cellB (j := 0) hO rfl
    have y1 := cellB (j := 1) hO rfl
    have y2 := cellB (j := 2) hO rfl
    have y3 := cellB (j := 3) hO rfl
    have y4 := cellB (j := 4) hO rfl
    have HA := Lib.hid bO
    have HO := Lib.hid hO
    clear bO hO
    go_enter Tryz.func28, Tryz.ntmps28
    go_wp2_with fail
    refine (one_any _ _).mono ?_
    rintro e w' ⟨rfl, rfl⟩
    rw [hone]
    have er : r = noP p := by rw [HR.out]; exact if_neg (by rw [hua, Bool.false_and]; decide)
    go_wp2_with fail
    go_returns
    rw [er]
    exact ⟨rfl, RGrew.same HRF.out HA.out⟩
  · have hdn : decide ((na : Int) < 0) = false := decide_eq_false (by omega)
    have hdb : decide ((m.length : Int) ≤ (na : Int)) = true := decide_eq_true (by omega)
    have hdb2 : decide (m.length ≤ na) = true := decide_eq_true hbig
    have bO := bA0 w (.cells #[.int .i64 11, .int .i64 (na : Int), .int .i64 ob, .int .u64 on, .string os] OpT)
    have hO := heap_alloc_new w (.cells #[.int .i64 11, .int .i64 (na : Int), .int .i64 ob, .int .u64 on, .string os] OpT)
    have y0 := cellB (j := 0) hO rfl
    have y1 := cellB (j := 1) hO rfl
    have y2 := cellB (j := 2) hO rfl
    have y3 := cellB (j := 3) hO rfl
    have y4 := cellB (j := 4) hO rfl
    have HA := Lib.hid bO
    have HO := Lib.hid hO
    clear bO hO
    go_enter Tryz.func28, Tryz.ntmps28
    go_wp2_with fail
    refine (one_any _ _).mono ?_
    rintro e w' ⟨rfl, rfl⟩
    rw [hone]
    have er : r = noP p := by rw [HR.out]; exact if_neg (by rw [hua, Bool.false_and]; decide)
    go_wp2_with fail
    go_returns
    rw [er]
    exact ⟨rfl, RGrew.same HRF.out HA.out⟩
  · have hdn : decide ((na : Int) < 0) = false := decide_eq_false (by omega)
    have hdb : decide ((m.length : Int) ≤ (na : Int)) = false := decide_eq_false (by omega)
    have hdb2 : decide (m.length ≤ na) = false := decide_eq_false (by omega)
    have ha0 : (0 : Int) ≤ (na : Int) := by omega
    have ha1 : (na : Int) < (m.length : Int) := by omega
    obtain ⟨mb, mo, mcc, hme, hc1⟩ := row_at HM.out hlt
    cases hme
    rcases up3 m ob with ⟨hnegb, hub⟩ | ⟨nb, rfl, hbigb, hub⟩ | ⟨nb, rfl, hltb, hub⟩
    · have hen : decide (ob < 0) = true := decide_eq_true hnegb
      have bO := bA0 w (.cells #[.int .i64 11, .int .i64 (na : Int), .int .i64 ob, .int .u64 on, .string os] OpT)
      have hO := heap_alloc_new w (.cells #[.int .i64 11, .int .i64 (na : Int), .int .i64 ob, .int .u64 on, .string os] OpT)
      have y0 := cellB (j := 0) hO rfl
      have y1 := cellB (j := 1) hO rfl
      have y2 := cellB (j := 2) hO rfl
      have y3 := cellB (j := 3) hO rfl
      have y4 := cellB (j := 4) hO rfl
      have HA := Lib.hid bO
      have HO := Lib.hid hO
      clear bO hO
      go_enter Tryz.func28, Tryz.ntmps28
      go_wp2_with fail
      refine (one_any _ _).mono ?_
      rintro e w' ⟨rfl, rfl⟩
      rw [hone]
      go_wp2_with fail
      refine (two9_any _ _).mono ?_
      rintro e w' ⟨rfl, rfl⟩
      rw [htwo]
      have er : r = noP p := by rw [HR.out]; exact if_neg (by rw [hua, hub, Bool.false_and]; decide)
      go_wp2_with fail
      go_returns
      rw [er]
      exact ⟨rfl, RGrew.same HRF.out HA.out⟩
    · have hen : decide ((nb : Int) < 0) = false := decide_eq_false (by omega)
      have heb : decide ((m.length : Int) ≤ (nb : Int)) = true := decide_eq_true (by omega)
      have heb2 : decide (m.length ≤ nb) = true := decide_eq_true hbigb
      have bO := bA0 w (.cells #[.int .i64 11, .int .i64 (na : Int), .int .i64 (nb : Int), .int .u64 on, .string os] OpT)
      have hO := heap_alloc_new w (.cells #[.int .i64 11, .int .i64 (na : Int), .int .i64 (nb : Int), .int .u64 on, .string os] OpT)
      have y0 := cellB (j := 0) hO rfl
      have y1 := cellB (j := 1) hO rfl
      have y2 := cellB (j := 2) hO rfl
      have y3 := cellB (j := 3) hO rfl
      have y4 := cellB (j := 4) hO rfl
      have HA := Lib.hid bO
      have HO := Lib.hid hO
      clear bO hO
      go_enter Tryz.func28, Tryz.ntmps28
      go_wp2_with fail
      refine (one_any _ _).mono ?_
      rintro e w' ⟨rfl, rfl⟩
      rw [hone]
      go_wp2_with fail
      refine (two9_any _ _).mono ?_
      rintro e w' ⟨rfl, rfl⟩
      rw [htwo]
      have er : r = noP p := by rw [HR.out]; exact if_neg (by rw [hua, hub, Bool.false_and]; decide)
      go_wp2_with fail
      go_returns
      rw [er]
      exact ⟨rfl, RGrew.same HRF.out HA.out⟩
    · have hen : decide ((nb : Int) < 0) = false := decide_eq_false (by omega)
      have heb : decide ((m.length : Int) ≤ (nb : Int)) = false := decide_eq_false (by omega)
      have heb2 : decide (m.length ≤ nb) = false := decide_eq_false (by omega)
      have hb0 : (0 : Int) ≤ (nb : Int) := by omega
      have hb1 : (nb : Int) < (m.length : Int) := by omega
      obtain ⟨mb2, mo2, mcc2, hme2, hc2⟩ := row_at HM.out hltb
      cases hme2
      have bO := bA0 w (.cells #[.int .i64 11, .int .i64 (na : Int), .int .i64 (nb : Int), .int .u64 on, .string os] OpT)
      have hO := heap_alloc_new w (.cells #[.int .i64 11, .int .i64 (na : Int), .int .i64 (nb : Int), .int .u64 on, .string os] OpT)
      have y0 := cellB (j := 0) hO rfl
      have y1 := cellB (j := 1) hO rfl
      have y2 := cellB (j := 2) hO rfl
      have y3 := cellB (j := 3) hO rfl
      have y4 := cellB (j := 4) hO rfl
      have HA := Lib.hid bO
      have HO := Lib.hid hO
      clear bO hO
      go_enter Tryz.func28, Tryz.ntmps28
      have c1 := bcellAt HA.out hc1
      have c2 := hc2
      go_wp2_with fail
      refine (one_any _ _).mono ?_
      rintro e w' ⟨rfl, rfl⟩
      rw [hone]
      go_wp2_with fail
      refine (two9_any _ _).mono ?_
      rintro e w' ⟨rfl, rfl⟩
      rw [htwo]
      go_wp2_with fail
      refine (one_any _ _).mono ?_
      rintro e w' ⟨rfl, rfl⟩
      rw [hone]
      have RN := Lib.hid (rnode (HRF.out.below HA.out) (mdP m (na : Int)))
      have hndok := rnd_i64 HRF.out (mdP m (na : Int))
      generalize hnn : (atP p (mdP m (na : Int))).1 = nn at *
      have HNN := Lib.hid hnn
      clear hnn
      obtain ⟨nk, nf, nt, nu, ns, nx, ny⟩ := nn
      simp only [nodeA] at RN
      go_wp2_with fail
      refine RN.out.mono ?_
      rintro e w1 ⟨rfl, u1⟩
      obtain ⟨bX, hX, hK⟩ := two_boxes w1 (.cells #[.int .i64 nk, .int .i64 nf, .int .i64 nt, .int .u64 nu, .string ns, .int .i64 nx, .int .i64 ny] NodeT) (.cells #[.int .i64 0, .int .i64 0, .int .i64 0, .int .u64 0, .string ⟨#[]⟩, .int .i64 0, .int .i64 0] NodeT)
      have HX := Lib.hid (bmore HA.out (bmore u1 bX))
      have ho2 := Hold.below (bmore u1 bX) _ _ HO.out
      have HO2 := Lib.hid ho2
      have HKB := Lib.hid hK
      have n0 := cellB (j := 0) hX rfl
      have n5 := cellB (j := 5) hX rfl
      have n6 := cellB (j := 6) hX rfl
      have y0 := cellB (j := 0) ho2 rfl
      have y1 := cellB (j := 1) ho2 rfl
      have y2 := cellB (j := 2) ho2 rfl
      have y3 := cellB (j := 3) ho2 rfl
      have y4 := cellB (j := 4) ho2 rfl
      have hkb : w.heap.size ≤ w1.heap.size := Nat.le_trans HA.out.size u1.size
      clear bX hX hK ho2 u1 RN
      have d2 := bcellAt HX.out c2
      have RK := Lib.hid (rnode (HRF.out.below HX.out) (mdP m (nb : Int)))
      have hkok := rnd_i64 HRF.out (mdP m (nb : Int))
      generalize hkk : (atP p (mdP m (nb : Int))).1 = kn at *
      have HKN := Lib.hid (show ndP p m (nb : Int) = kn from hkk)
      clear hkk
      obtain ⟨kk, kf, kt, ku, ks, kx, ky⟩ := kn
      simp only [nodeA] at RK
      have HKF := Lib.hid hkok.frm
      clear hkok
      go_wp2_with fail
      generalize ((w1.alloc (.cells #[.int .i64 nk, .int .i64 nf, .int .i64 nt, .int .u64 nu, .string ns, .int .i64 nx, .int .i64 ny] NodeT)).alloc (.cells #[.int .i64 0, .int .i64 0, .int .i64 0, .int .u64 0, .string ⟨#[]⟩, .int .i64 0, .int .i64 0] NodeT)) = X2 at *
      refine RK.out.mono ?_
      rintro e w3 ⟨rfl, u3⟩
      have hk3 := Hold.below u3 _ _ HKB.out
      have ho3 := Hold.below u3 _ _ HO2.out
      have hk4 : (w3.setRow (w1.heap.size + 1) #[.int .i64 kk, .int .i64 kf, .int .i64 kt, .int .u64 ku, .string ks, .int .i64 kx, .int .i64 ky]).heap[w1.heap.size + 1]? = some (Obj.cells #[.int .i64 kk, .int .i64 kf, .int .i64 kt, .int .u64 ku, .string ks, .int .i64 kx, .int .i64 ky] NodeT) := setRow_heap _ _ _ _ _ _ hk3
      have ho4 : (w3.setRow (w1.heap.size + 1) #[.int .i64 kk, .int .i64 kf, .int .i64 kt, .int .u64 ku, .string ks, .int .i64 kx, .int .i64 ky]).heap[w.heap.size]? = some (Obj.cells #[.int .i64 11, .int .i64 (na : Int), .int .i64 (nb : Int), .int .u64 on, .string os] OpT) := by rw [setRow_other _ _ _ _ (by omega)]; exact ho3
      have HX4 : Hid (Below w.heap.size w (w3.setRow (w1.heap.size + 1) #[.int .i64 kk, .int .i64 kf, .int .i64 kt, .int .u64 ku, .string ks, .int .i64 kx, .int .i64 ky])) := Lib.hid (by
        have h1 := bmore HX.out u3
        exact ⟨h1.os, h1.tape, h1.output, by have := h1.size; simpa [World.setRow] using this, fun j hj => by rw [setRow_other _ _ _ _ (by omega)]; exact h1.block j hj⟩)
      have k0 := cellB (j := 0) hk4 rfl
      have k1 := cellB (j := 1) hk4 rfl
      have y0 := cellB (j := 0) ho4 rfl
      have y3 := cellB (j := 3) ho4 rfl
      have HK3 := Lib.hid hk3
      have HK4 := Lib.hid hk4
      have HO4 := Lib.hid ho4
      clear u3 hk3 ho3 hk4 ho4 d2 y1 y2 y4 n0 n5 n6 RK
      by_cases h6 : kk = 6
      · subst h6
        have HW := Lib.hid (fun (W : World) => who_any HON.out W)
        have RM : Hid (∀ W : World, Below (w3.setRow (w1.heap.size + 1) #[.int .i64 6, .int .i64 kf, .int .i64 kt, .int .u64 ku, .string ks, .int .i64 kx, .int .i64 ky]).heap.size (w3.setRow (w1.heap.size + 1) #[.int .i64 6, .int .i64 kf, .int .i64 kt, .int .u64 ku, .string ks, .int .i64 kx, .int .i64 ky]) W → Calls Tryz.prog 46 #[.pointer (some ⟨a, 0, none⟩), .agg #[.int .i64 9, .int .i64 (whoP on), .int .i64 kf, .int .u64 0, .string ⟨#[]⟩, .int .i64 (mdP m (na : Int)), .int .i64 0]] W (RPost W B a vl vs vd p (⟨9, whoP on, kf, 0, emptyS, mdP m (na : Int), 0⟩))) := Lib.hid (fun W h => rmake (HRF.out.below (bmore HX4.out h)) (n := ⟨9, whoP on, kf, 0, emptyS, mdP m (na : Int), 0⟩) ⟨(i64R_lit (by simp)), who_i64 HON.out, HKF.out, (by simp), emptyS_le, HMI.out _ (md_in hua), (i64R_lit (by simp))⟩)
        have HKD := Lib.hid (fun (V : World) (hb : Below (w3.setRow (w1.heap.size + 1) #[.int .i64 6, .int .i64 kf, .int .i64 kt, .int .u64 ku, .string ks, .int .i64 kx, .int .i64 ky]).heap.size (w3.setRow (w1.heap.size + 1) #[.int .i64 6, .int .i64 kf, .int .i64 kt, .int .u64 ku, .string ks, .int .i64 kx, .int .i64 ky]) V) => (show V.cell? ⟨w1.heap.size + 1, 1, none⟩ = some (.int .i64 kf) ∧ V.cell? ⟨w.heap.size, 3, none⟩ = some (.int .u64 on) from ⟨bcellAt hb k1, bcellAt hb y3⟩))
        have HKQ := Lib.hid (fun (V : World) (h1 : V.heap[w.heap.size]? = some (Obj.cells #[.int .i64 11, .int .i64 (na : Int), .int .i64 (nb : Int), .int .u64 on, .string os] OpT)) (h2 : V.heap[w1.heap.size + 1]? = some (Obj.cells #[.int .i64 6, .int .i64 kf, .int .i64 kt, .int .u64 ku, .string ks, .int .i64 kx, .int .i64 ky] NodeT)) => (show V.cell? ⟨w1.heap.size + 1, 1, none⟩ = some (.int .i64 kf) ∧ V.cell? ⟨w.heap.size, 3, none⟩ = some (.int .u64 on) from ⟨cellB (j := 1) h2 rfl, cellB (j := 3) h1 rfl⟩))
        have er : RDoOK r (⟨9, whoP on, kf, 0, emptyS, mdP m (na : Int), 0⟩) p := by unfold RDoOK; show r = mkP p ⟨9, whoP on, kf, 0, emptyS, mdP m (na : Int), 0⟩ ; rw [mk_who9 _ _ _ HON.out.1, HR.out, HKN.out]; exact if_pos (by rw [hua, hub]; rfl)
        have ER := Lib.hid er
        clear er
        go_wp2_with (refine wpList_store_row rfl NodeT _ _ rfl (w1.heap.size + 1) #[.int .i64 6, .int .i64 kf, .int .i64 kt, .int .u64 ku, .string ks, .int .i64 kx, .int .i64 ky] rfl rfl NodeT #[.int .i64 0, .int .i64 0, .int .i64 0, .int .u64 0, .string ⟨#[]⟩, .int .i64 0, .int .i64 0] HK3.out (by kernel_rfl) rfl (by simp [Value.oneCell']) ?_)
        generalize hX5 : (w3.setRow (w1.heap.size + 1) #[.int .i64 6, .int .i64 kf, .int .i64 kt, .int .u64 ku, .string ks, .int .i64 kx, .int .i64 ky]) = X5 at *
        have hnv : ∀ c, vl.ownBlock = some c → c ≠ w1.heap.size + 1 := fun c hc => by
          obtain ⟨_, cur, h9⟩ := own_type HRF.out.rl hc
          have := (Array.getElem?_eq_some_iff.1 h9).1
          omega
        have HNV := Lib.hid hnv
        clear hnv
        go_region_held3 (fun V => V.cell? ⟨w1.heap.size + 1, 1, none⟩ = some (.int .i64 kf) ∧ V.cell? ⟨w.heap.size, 3, none⟩ = some (.int .u64 on)) ((first | exact HKQ.out _ HOE.out HKE.out | (refine HKD.out _ ?_; first | exact bd _ | exact bdn _ _)))
          ((first
            | ((with_reducible refine (HW.out _).mono ?_); rintro e w8 ⟨rfl, rfl⟩)
            | ((with_reducible refine (RM.out _ (bd _)).mono ?_); rintro e w9 hp9; obtain ⟨he9, g9⟩ := hp9; have er := ER.out; unfold RDoOK at er; rw [← er] at he9 g9; subst he9; clear er; have HGR := Lib.hid (RGrew.after HRF.out (bmore HX4.out (bd _)) g9); have hmo := RGrew.most (HRF.out.below (bmore HX4.out (bd _))) g9; obtain ⟨_, _, _, _, hmo⟩ := hmo; have HOE := Lib.hid (hmo.hold (T := OpT) (by decide) (by decide) (by decide) _ _ (Hold.below (bd _) _ _ HO4.out)); have HKE := Lib.hid (hmo.2.2.1 _ _ (Hold.below (bd _) _ _ HK4.out) (fun e => HNV.out _ e rfl)))))
        go_wp2_with fail
        go_returns
        exact ⟨rfl, HGR.out⟩
      · have hd6 : (kk != 6) = true := by simp [h6]
        have er : r = noP p := by rw [HR.out, HKN.out]; exact if_neg (by rw [hua, hub]; simp [h6])
        go_wp2_with (refine wpList_store_row rfl NodeT _ _ rfl (w1.heap.size + 1) #[.int .i64 kk, .int .i64 kf, .int .i64 kt, .int .u64 ku, .string ks, .int .i64 kx, .int .i64 ky] rfl rfl NodeT #[.int .i64 0, .int .i64 0, .int .i64 0, .int .u64 0, .string ⟨#[]⟩, .int .i64 0, .int .i64 0] HK3.out (by kernel_rfl) rfl (by simp [Value.oneCell']) ?_)
        go_returns
        rw [er]
        exact ⟨rfl, RGrew.same HRF.out HX4.out⟩
end
end Go.Proofs.YtlckneajppfmbaaGreatDoor
namespace Go.Proofs.YtlckneajppfmbaaGreatDoor
open Go.RowKit Go.Maps
set_option linter.unusedVariables false

def litsO (z : OpP) : List Lit := [.int .i64 z.code, .int .i64 z.a, .int .i64 z.b, .int .u64 z.num, .string z.text.data.toList]
set_option maxRecDepth 100000 in
theorem keyO_of {z : OpP} (h : OpOk z) : Tryz.prog.keyLits 3 OpT (Value.agg (opA z)).cells.toList = some (litsO z) := by
  have hu := Tryz.underlying60
  have u3 := Tryz.underlying3
  have u31 := Tryz.underlying53
  have u9 := Tryz.underlying9
  have c33 : Tryz.prog.cellsOf OpT = 5 := by kernel_rfl
  have c3 : Tryz.prog.cellsOf 3 = 1 := by kernel_rfl
  have c31 : Tryz.prog.cellsOf 53 = 1 := by kernel_rfl
  have c9 : Tryz.prog.cellsOf 9 = 1 := by kernel_rfl
  simp [Program.keyLits, hu, u3, u31, u9, c33, c3, c31, c9, opA, Value.cells, litsO, wf_i64 h.code, wf_i64 h.a, wf_i64 h.b, wf_u64 h.num, h.text]
theorem formedO (z : OpP) : (Value.agg (opA z)).formed Tryz.prog OpT = true := by
  have hu := Tryz.underlying60
  have c33 : Tryz.prog.cellsOf OpT = 5 := by kernel_rfl
  simp [Value.formed, hu, c33, opA]
/-- An operation is itself. -/
theorem neq_op {x : OpP} (hx : OpOk x) (W : World) : (binOp .neq OpT (.agg (opA x)) (.agg (opA x))).run Tryz.prog W = .ok (.bool false) W := by
  obtain ⟨r, hr, hi⟩ := run_equalIn_deep (P := Tryz.prog) 9997 3 OpT (by kernel_rfl) W 3 3 (.agg (opA x)) (.agg (opA x)) (litsO x) (litsO x) (formedO x) (formedO x) (keyO_of hx) (keyO_of hx)
  have e : r = true := hi.2 rfl
  subst e
  rw [run_neq_struct, hr]; rfl
set_option maxRecDepth 100000 in
set_option maxHeartbeats 1600000 in
theorem rsame9_any {w : World} {va vb : Value} {l : List OpP} (ha : Row w 5 va l.length (opsV l)) (hb : Row w 5 vb l.length (opsV l)) (hok : ∀ o ∈ l, OpOk o) : Calls Tryz.prog 14 #[va, vb] w fun e w' => e = .returned (.bool true) ∧ Below w.heap.size w w' := by
  obtain ⟨aa, ac, rfl, hax⟩ := ha.at2
  obtain ⟨ba, bc, rfl, hbx⟩ := hb.at2
  have HAX := Lib.hid hax
  have HBX := Lib.hid hbx
  have HOK := Lib.hid hok
  have hll := ha.small
  unfold maxLen at hll
  clear ha hb hax hbx hok
  go_enter Tryz.func14, Tryz.ntmps14
  go_wp2_with fail
  go_loopw [5] (fun v5 wr => ∃ i : Nat, v5 = .int .i64 (i : Int) ∧ i ≤ l.length ∧ Below w.heap.size w wr) (fun v _ => l.length - (intOf v).toNat)
  case atStart => exact ⟨0, rfl, Nat.zero_le _, Below.refl _ _⟩
  case round =>
    obtain ⟨i, rfl, hi, hb⟩ := hrel
    have HB := Lib.hid hb
    by_cases hlt : i < l.length
    · obtain ⟨b1, o1, rfl, q1⟩ := HAX.out (by omega)
      obtain ⟨b2, o2, rfl, q2⟩ := HBX.out (by omega)
      obtain ⟨a0, a1, a2, a3, a4⟩ := opsV_at l i hlt
      have c0 := bcellAt hb (q1 _ _ a0)
      have c1 := bcellAt hb (q1 _ _ a1)
      have c2 := bcellAt hb (q1 _ _ a2)
      have c3 := bcellAt hb (q1 _ _ a3)
      have c4 := bcellAt hb (q1 _ _ a4)
      have e0 := bcellAt hb (q2 _ _ a0)
      have e1 := bcellAt hb (q2 _ _ a1)
      have e2 := bcellAt hb (q2 _ _ a2)
      have e3 := bcellAt hb (q2 _ _ a3)
      have e4 := bcellAt hb (q2 _ _ a4)
      simp only [← Nat.add_assoc] at c1 c2 c3 c4 e1 e2 e3 e4
      have hq := fun (W : World) => neq_op (HOK.out _ (List.getElem_mem hlt)) W
      clear q1 q2 a0 a1 a2 a3 a4 hb
      generalize l[i] = o at *
      obtain ⟨oc, oa, ob, on, os⟩ := o
      simp only [opA] at c0 c1 c2 c3 c4 e0 e1 e2 e3 e4 hq
      have hi0 : (0 : Int) ≤ (i : Int) := by omega
      have hi1 : (i : Int) < (l.length : Int) := by omega
      go_wp2_with fail
      go_quiet (fail)
      have HBQ := Lib.hid (bmore HB.out (bdn wr nq))
      clear c0 c1 c2 c3 c4 e0 e1 e2 e3 e4
      go_wp2_with fail
      go_roundw
      case rel => exact ⟨i + 1, by go_num, by omega, HBQ.out⟩
      case measure => simp [intOf] <;> omega
    · obtain rfl : i = l.length := by omega
      clear hb hlt
      go_wp2_with fail
      go_returns
      exact ⟨rfl, HB.out⟩
section
variable {w : World} {B a : Nat} {vl vs vd : Value} {p : Pl} {gvl mvl : Value} {g m : List Int}
theorem RMostV.grown {w1 w2 : World} {v1 : Value} {row : Option Nat} (hg : RMostV w B vl w1 v1) (hB : B ≤ w.heap.size) (h : w1.grownBy w2 row) (hr : ∀ k, row = some k → w.heap.size ≤ k) : RMostV w B vl w2 v1 := by
  obtain ⟨g1, g2, g3, g4⟩ := hg
  have e : ∀ k, k < w.heap.size → w2.heap[k]? = w1.heap[k]? := fun k hk => h.block k (Nat.lt_of_lt_of_le hk g1.size) (fun e => by have := hr k e.symm; omega)
  exact ⟨g1.trans (grown_below h (Nat.le_trans hB g1.size) (fun k e => Nat.le_trans hB (hr k e))), fun k o h ho => by rw [e k (Array.getElem?_eq_some_iff.1 h).1]; exact g2 k o h ho, fun k cs h hn => by rw [e k (Array.getElem?_eq_some_iff.1 h).1]; exact g3 k cs h hn, g4⟩
set_option maxRecDepth 100000 in
theorem rdo_none (hrf : IsRef w B a vl vs vd p) {oc oa ob on : Int} {os : ByteArray} (hc : oc < 0 ∨ 11 < oc) : Calls Tryz.prog 28 #[.pointer (some ⟨a, 0, none⟩), gvl, mvl, .agg #[.int .i64 oc, .int .i64 oa, .int .i64 ob, .int .u64 on, .string os]] w (RDoPost w B a vl vs vd (noP p)) := by
  have bO := bA0 w (.cells #[.int .i64 oc, .int .i64 oa, .int .i64 ob, .int .u64 on, .string os] OpT)
  have hO := heap_alloc_new w (.cells #[.int .i64 oc, .int .i64 oa, .int .i64 ob, .int .u64 on, .string os] OpT)
  have y0 := cellB (j := 0) hO rfl
  have HA := Lib.hid bO
  have HRF := Lib.hid hrf
  clear hrf bO hO
  rcases hc with hc | hc
  · have h1 : decide (oc < 0) = true := decide_eq_true hc
    go_enter Tryz.func28, Tryz.ntmps28
    go_wp2_with fail
    go_returns
    exact ⟨rfl, RGrew.same HRF.out HA.out⟩
  · have h1 : decide (oc < 0) = false := decide_eq_false (by omega)
    have h2 : decide (11 < oc) = true := decide_eq_true hc
    go_enter Tryz.func28, Tryz.ntmps28
    go_wp2_with fail
    go_returns
    exact ⟨rfl, RGrew.same HRF.out HA.out⟩
theorem rdo_any (hrf : IsRef w B a vl vs vd p) (hg : Row w 1 gvl g.length (ints g)) (hm : Row w 1 mvl m.length (ints m)) (hmi : ∀ x ∈ m, i64R x) {o : OpP} (ho : OpOk o) : Calls Tryz.prog 28 #[.pointer (some ⟨a, 0, none⟩), gvl, mvl, .agg (opA o)] w (RDoPost w B a vl vs vd (doP p g m o)) := by
  obtain ⟨c, oa, ob, on, os⟩ := o
  obtain ⟨h1, h2, h3, h4, h5⟩ := ho
  simp only at h1 h2 h3 h4 h5 ⊢
  rcases (by omega : c = 0 ∨ c = 1 ∨ c = 2 ∨ c = 3 ∨ c = 4 ∨ c = 5 ∨ c = 6 ∨ c = 7 ∨ c = 8 ∨ c = 9 ∨ c = 10 ∨ c = 11 ∨ c < 0 ∨ 11 < c) with e | e | e | e | e | e | e | e | e | e | e | e | e | e
  · subst e; exact rdo_0 hrf hg hm hmi h2 h4 h5
  · subst e; exact rdo_1 hrf hg hm hmi h2 h4 h5
  · subst e; exact rdo_2 hrf hg hm hmi h2 h4 h5
  · subst e; exact rdo_3 hrf hg hm hmi h2 h4 h5
  · subst e; exact rdo_4 hrf hg hm hmi h2 h4 h5
  · subst e; exact rdo_5 hrf hg hm hmi h2 h4 h5
  · subst e; exact rdo_6 hrf hg hm hmi h2 h4 h5
  · subst e; exact rdo_7 hrf hg hm hmi h2 h4 h5
  · subst e; exact rdo_8 hrf hg hm hmi h2 h4 h5
  · subst e; exact rdo_9 hrf hg hm hmi h2 h4 h5
  · subst e; exact rdo_10 hrf hg hm hmi h2 h4 h5
  · subst e; exact rdo_11 hrf hg hm hmi h2 h4 h5
  all_goals
    have e2 : doP p g m ⟨c, oa, ob, on, os⟩ = noP p := by
      unfold doP
      rw [if_neg (by simp only; omega), if_neg (by simp only; omega), if_neg (by simp only; omega), if_neg (by simp only; omega), if_neg (by simp only; omega), if_neg (by simp only; omega), if_neg (by simp only; omega), if_neg (by simp only; omega), if_neg (by simp only; omega), if_neg (by simp only; omega), if_neg (by simp only; omega), if_neg (by simp only; omega)]
    rw [e2]
    exact rdo_none hrf (show c < 0 ∨ 11 < c by omega)
def RRunPost (w : World) (B a : Nat) (vl : Value) (r : List Int × Int × Pl) (e : Ending) (w' : World) : Prop :=
  ∃ mv, e = .returned (.tuple #[mv, .int .i64 r.2.1]) ∧ w'.ownsRow w.heap.size TermT 1 mv r.1.length (ints r.1) ∧ RMost w B a vl r.2.2 w'
set_option maxRecDepth 100000 in
set_option maxHeartbeats 12800000 in
theorem rrun_any (hrf : IsRef w B a vl vs vd p) (hg : w.ownsRow B TermT 1 gvl g.length (ints g)) (hgi : ∀ x ∈ g, inP p x = true) {vo : Value} {l : List OpP} (hops : ∀ W : World, Below B w W → Row W 5 vo l.length (opsV l)) (hok : ∀ o ∈ l, OpOk o) (hl : l.length ≤ 1000) :
    Calls Tryz.prog 11 #[.pointer (some ⟨a, 0, none⟩), gvl, vo] w (RRunPost w B a vl (runP p g [] l)) := by
  obtain ⟨la, lc, rfl⟩ := (hops w (Below.refl _ _)).shape
  obtain ⟨ga, gc, rfl⟩ := (row_of_own hg).shape
  obtain ⟨r, hr⟩ : ∃ r, r = runP p g [] l := ⟨_, rfl⟩
  rw [← hr]
  have HR := Lib.hid hr
  have hB : B ≤ w.heap.size := Nat.le_trans hrf.ga (Nat.le_of_lt hrf.lt)
  have HRF := Lib.hid hrf
  have HG := Lib.hid hg
  have HGI := Lib.hid hgi
  have HO := Lib.hid hops
  have HOK := Lib.hid hok
  clear hrf hg hgi hops hok hr
  go_enter Tryz.func11, Tryz.ntmps11
  go_wp2_with fail
  go_loopw [8, 9] (fun v8 v9 wr => ∃ (q e : Pl) (made : List Int) (vl' vs' vd' : Value), v9 = .int .i64 (made.length : Int) ∧ made.length ≤ l.length ∧ q = p ++ e ∧ IsRef wr B a vl' vs' vd' q ∧ RMostV w B vl wr vl' ∧ wr.ownsRow w.heap.size TermT 1 v8 made.length (ints made) ∧ wr.ownsRow B TermT 1 (.slice ga g.length gc) g.length (ints g) ∧ Twain v8 (.slice ga g.length gc) ∧ (∀ x ∈ made, Der q (Reach q g) x) ∧ runP p g [] l = runP q g made (l.drop made.length)) (fun _ v _ => l.length - (intOf v).toNat)
  case atStart => exact ⟨p, [], [], vl, vs, vd, rfl, Nat.zero_le _, by simp, HRF.out, RMostV.start hB (Below.refl _ _), World.ownsRow_nil _ _ _ 1, HG.out, fun r hr => by simp [Value.ownBlock] at hr, fun x hx => by simp at hx, rfl⟩
  case round =>
    obtain ⟨_, e, made, vl', vs', vd', rfl, hi, rfl, hrf, hmo, hmr, hgr, htw, hder, hrun⟩ := hrel
    have HRF1 := Lib.hid hrf
    have HMO := Lib.hid hmo
    have HMR := Lib.hid hmr
    have HGR := Lib.hid hgr
    have HTW := Lib.hid htw
    have HDER := Lib.hid hder
    have HRUN := Lib.hid hrun
    have HGI2 := Lib.hid (fun x (hx : x ∈ g) => inP_le (q := p ++ e) (HGI.out x hx) (by simp))
    have HOW := Lib.hid (HO.out wr hmo.1)
    obtain ⟨ma, mc, rfl⟩ := (row_of_own hmr).shape
    clear hrf hmo hmr hgr htw hder hrun
    by_cases hlt : made.length < l.length
    · obtain ⟨qa, qc, hqe, hqx⟩ := HOW.out.at2
      obtain ⟨lb, lo, rfl, qq⟩ := hqx (by omega)
      cases hqe
      obtain ⟨a0, a1, a2, a3, a4⟩ := opsV_at l made.length hlt
      have c0 := qq _ _ a0
      have c1 := qq _ _ a1
      have c2 := qq _ _ a2
      have c3 := qq _ _ a3
      have c4 := qq _ _ a4
      simp only [← Nat.add_assoc] at c1 c2 c3 c4
      have hoo := HOK.out _ (List.getElem_mem hlt)
      have hdr : l.drop made.length = l[made.length] :: l.drop (made.length + 1) := List.drop_eq_getElem_cons hlt
      have hrun := HRUN.out
      rw [hdr, runP_cons] at hrun
      have HRUN2 := Lib.hid hrun
      clear qq hqx a0 a1 a2 a3 a4 hdr hrun HRUN
      generalize l[made.length] = o at *
      have hi0 : (0 : Int) ≤ (made.length : Int) := by omega
      have hi1 : (made.length : Int) < (l.length : Int) := by omega
      have hmi : ∀ x ∈ made, i64R x := fun x hx => in_i64 HRF1.out.ok.len (.inr (der_in (fun t h => Reach.inp HRF1.out.ok HGI2.out h) (HDER.out x hx)))
      have DO := Lib.hid (rdo_any HRF1.out (row_of_own HGR.out) (row_of_own HMR.out) hmi hoo)
      have HSN := Lib.hid (fun (h : (doP (p ++ e) g made o).2.1 = 0) => do_sound HRF1.out.ok HGI2.out HDER.out h)
      have HEX := Lib.hid (doP_out (p ++ e) g made o).1
      obtain ⟨oc, oa, ob, on, os⟩ := o
      simp only [opA] at c0 c1 c2 c3 c4 DO
      clear hmi hoo
      go_wp2_with fail
      refine DO.out.mono ?_
      generalize doP (p ++ e) g made ⟨oc, oa, ob, on, os⟩ = rr at *
      obtain ⟨t, er, q'⟩ := rr
      rintro en w4 ⟨rfl, g4⟩
      obtain ⟨vl2, vs2, vd2, hrf4, hmo4⟩ := RGrew.most HRF1.out g4
      have HRF4 := Lib.hid hrf4
      have HMO4 := Lib.hid (HMO.out.trans hmo4)
      have HMR4 := Lib.hid (own_hold HMR.out (hmo4.hold (by decide) (by decide) (by decide)))
      have HGR4 := Lib.hid (own_hold HGR.out (hmo4.hold (by decide) (by decide) (by decide)))
      clear g4 hrf4 hmo4 c0 c1 c2 c3 c4 DO
      by_cases her : er = 0
      · subst her
        obtain ⟨e2, rfl⟩ := HEX.out
        have HSN2 := Lib.hid (HSN.out rfl)
        have hrun := HRUN2.out
        rw [if_neg (by simp)] at hrun
        have HRUN3 := Lib.hid hrun
        have HRT := Lib.hid (own_hold HMR4.out (Hold.below (bA0 w4 (.cells #[.int .i64 t] TermT))))
        have hw4 : w.heap.size ≤ w4.heap.size := HMO4.out.1.size
        clear hrun HSN HRUN2
        go_wp2_with (at_builtin; refine wpList_append_tw rfl _ _ rfl w.heap.size (.slice ma made.length mc) made rfl HRT.out w4.heap.size t rfl (cellB (j := 0) (heap_alloc_new _ _) rfl) (by omega) (Nat.le_trans hw4 (bA0 _ _).size) ?_; intro v9 w9 hrow9 hg9 hv9; obtain ⟨sa, sc, rfl⟩ := (row_of_own hrow9).shape)
        have hA := bA0 w4 (.cells #[.int .i64 t] TermT)
        have hln : (made ++ [t]).length = made.length + 1 := by simp
        rw [hln] at hrow9 hv9
        have hT : ∀ T, T ≠ TermT → Hold T w4 w9 := fun T h => (Hold.below hA).trans (hold_row HRT.out hg9 h)
        have HGR9 := Lib.hid (own_kept (own_hold HGR4.out (Hold.below hA)) hg9 (fun r hr hx => HTW.out r hr hx))
        have HMR9 : Hid (w9.ownsRow w.heap.size TermT 1 (.slice sa (made.length + 1) sc) (made ++ [t]).length (ints (made ++ [t]))) := Lib.hid (by rw [hln]; exact hrow9)
        have HTW9 : Hid (Twain (.slice sa (made.length + 1) sc) (.slice ga g.length gc)) := Lib.hid (two_left (w := w4) HTW.out (u' := .slice sa (made.length + 1) sc) (by rcases hv9 with h | h; exact .inl h; exact .inr ⟨_, h, hA.size⟩) (own_lt HGR4.out))
        have HRF9 := Lib.hid (HRF4.out.hold (hT _ (by decide)) (hT _ (by decide)) (hT _ (by decide)))
        have HMO9 := Lib.hid ((HMO4.out.trans (RMostV.start (Nat.le_trans hB hw4) hA)).grown hB hg9 (fun j e => (own_type HRT.out e).1))
        clear hA hT hrow9 hg9 hv9 HRT
        go_wp2_with fail
        go_roundw
        case rel => exact ⟨(p ++ e) ++ e2, e ++ e2, made ++ [t], vl2, vs2, vd2, by rw [hln]; go_num, by rw [hln]; omega, by simp, HRF9.out, HMO9.out, by rw [hln]; exact (by have h := HMR9.out; rwa [hln] at h), HGR9.out, HTW9.out, fun x hx => by
            rcases List.mem_append.1 hx with hx | hx
            · exact der_ext (fun t h => ⟨Reach.inp HRF1.out.ok HGI2.out h, (reach_ext HRF1.out.ok HGI2.out e2).2 h⟩) (HDER.out x hx)
            · rw [List.mem_singleton.1 hx]; exact HSN2.out, by rw [hln]; exact HRUN3.out⟩
        case measure => simp [intOf]; omega
      · have hb : (er != 0) = true := by simp [her]
        have hrun := HRUN2.out
        rw [if_pos her] at hrun
        have HRUN3 := Lib.hid hrun
        clear hrun HRUN2 her
        go_wp2_with fail
        go_returns
        rw [HR.out, HRUN3.out]
        exact ⟨_, rfl, HMR4.out, _, _, _, HRF4.out, HMO4.out⟩
    · have hrun := HRUN.out
      rw [List.drop_eq_nil_of_le (by omega)] at hrun
      have HRUN3 := Lib.hid hrun
      have hge : decide (made.length < l.length) = false := decide_eq_false hlt
      clear hrun
      go_wp2_with fail
      go_returns
      rw [HR.out, HRUN3.out]
      exact ⟨_, rfl, HMR.out, _, _, _, HRF1.out, HMO.out⟩
def REvPost (w : World) (B a : Nat) (vl : Value) (r : List Int × Int × Pl) (e : Ending) (w' : World) : Prop :=
  e = .returned (.tuple #[.int .i64 (evlP r).1, .int .i64 (evlP r).2.1, .int .i64 (evlP r).2.2]) ∧ RMost w B a vl r.2.2 w'
set_option maxRecDepth 100000 in
set_option maxHeartbeats 3200000 in
theorem reval_any (hrf : IsRef w B a vl vs vd p) (hg : w.ownsRow B TermT 1 gvl g.length (ints g)) (hgi : ∀ x ∈ g, inP p x = true) {vo : Value} {l : List OpP} (hops : ∀ W : World, Below B w W → Row W 5 vo l.length (opsV l)) (hok : ∀ o ∈ l, OpOk o) (hl : l.length ≤ 1000) :
    Calls Tryz.prog 9 #[.pointer (some ⟨a, 0, none⟩), gvl, vo] w (REvPost w B a vl (folP p g l)) := by
  have RU := Lib.hid (rrun_any hrf hg hgi hops hok hl)
  obtain ⟨la, lc, rfl⟩ := (hops w (Below.refl _ _)).shape
  have hB : B ≤ w.heap.size := Nat.le_trans hrf.ga (Nat.le_of_lt hrf.lt)
  have HRF := Lib.hid hrf
  have HM := Lib.hid (fun h => fol_made (p := p) (g := g) (l := l) h)
  obtain ⟨r, hr⟩ : ∃ r, r = folP p g l := ⟨_, rfl⟩
  rw [← hr] at HM ⊢
  clear hrf hg hgi hops hok
  by_cases h256 : 256 < l.length
  · have HR : Hid (r = ([], 6, p)) := Lib.hid (by rw [hr]; unfold folP; exact if_pos h256)
    have hc : (256 : Int) < (l.length : Int) := by omega
    clear hr h256 HM
    go_enter Tryz.func9, Tryz.ntmps9
    go_wp2_with fail
    go_returns
    rw [HR.out]
    exact ⟨rfl, _, _, _, HRF.out, RMostV.start hB (Below.refl _ _)⟩
  have hc : decide ((256 : Int) < (l.length : Int)) = false := decide_eq_false (by omega)
  by_cases h0 : l.length = 0
  · have HR : Hid (r = ([], 3, p)) := Lib.hid (by rw [hr]; unfold folP; rw [if_neg h256]; exact if_pos h0)
    have hc0 : ((l.length : Int) == 0) = true := by simp [h0]
    clear hr h256 HM h0
    go_enter Tryz.func9, Tryz.ntmps9
    go_wp2_with fail
    go_returns
    rw [HR.out]
    exact ⟨rfl, _, _, _, HRF.out, RMostV.start hB (Below.refl _ _)⟩
  have hc0 : ((l.length : Int) == 0) = false := by simp; intro e; rw [e] at h0; exact h0 rfl
  have hrr : r = runP p g [] l := by rw [hr]; unfold folP; rw [if_neg h256]; exact if_neg h0
  rw [← hrr] at RU
  clear hr hrr h256 h0
  obtain ⟨made, er, q⟩ := r
  obtain ⟨ev, hev⟩ : ∃ ev, ev = evlP (made, er, q) := ⟨_, rfl⟩
  have HEV := Lib.hid hev
  unfold REvPost
  rw [← hev]
  clear hev
  obtain ⟨r1, r2, r3⟩ := ev
  simp only at HM ⊢
  go_enter Tryz.func9, Tryz.ntmps9
  go_wp2_with fail
  refine RU.out.mono ?_
  rintro e w1 ⟨mv, rfl, hm1, g1⟩
  have HG := Lib.hid g1
  clear g1 RU
  simp only at hm1 ⊢
  by_cases h0 : er = 0
  · subst h0
    have hpos := HM.out rfl
    obtain ⟨qa, qc, rfl, hqx⟩ := (row_of_own hm1).at
    obtain ⟨gb, go, rfl, qq⟩ := hqx hpos
    obtain ⟨nl, x, hnl, hx, hev⟩ : ∃ nl x, made.length = nl + 1 ∧ (ints made)[nl]? = some (.int .i64 x) ∧ made.getD (made.length - 1) 0 = x := by
      have hn : made.length - 1 < made.length := by omega
      refine ⟨made.length - 1, made[made.length - 1], by omega, ints_at made _ hn, ?_⟩
      rw [List.getD_eq_getElem?_getD, List.getElem?_eq_getElem hn, Option.getD_some]
    have c0 := qq nl _ hx
    have hr := HEV.out
    unfold evlP at hr
    rw [if_neg (by simp)] at hr
    simp only [hev, Prod.mk.injEq] at hr
    obtain ⟨rfl, rfl, rfl⟩ := hr
    have hml := (row_of_own hm1).small
    unfold maxLen at hml
    have hx0 : ((made.length : Int) - 1) = (nl : Int) := by omega
    have hn0 : (0 : Int) ≤ (nl : Int) := by omega
    have hn1 : (nl : Int) < (made.length : Int) := by omega
    clear hm1 hqx qq HEV
    go_wp2_with fail
    go_returns
    exact ⟨rfl, HG.out⟩
  · have hb : (er != 0) = true := by simp [h0]
    have hr := HEV.out
    unfold evlP at hr
    rw [if_pos h0] at hr
    simp only [Prod.mk.injEq] at hr
    obtain ⟨rfl, rfl, rfl⟩ := hr
    obtain ⟨qa, qc, rfl⟩ := (row_of_own hm1).shape
    clear HEV hm1
    go_wp2_with fail
    go_returns
    exact ⟨rfl, HG.out⟩
end
end Go.Proofs.YtlckneajppfmbaaGreatDoor
