/-
  The document's own lists of facts: sign, Compare, Same, Has, Bonds.
-/
import Derived.BigQuiet
import Derived.Test.YtjmcaceegfdkkaaGreatDoorQbFBon
import Derived.Test.YtjmcaceegfdkkaaGreatDoorQbFCpm
namespace Go.Proofs.YtjmcaceegfdkkaaGreatDoor
open Go.RowKit Go.Maps
set_option linter.unusedVariables false
theorem hneq_fc (x y : Fc) (W : World) : (binOp .neq FacT (.agg (fcA x)) (.agg (fcA y))).run Tryz.prog W = .ok (.bool (!decide (x = y))) W := by
  have h := heq_fc x y W
  unfold fcA at h ⊢
  rw [run_eql_struct] at h
  rw [run_neq_struct]
  generalize (Op.equalIn 10000 FacT _ _).run Tryz.prog W = r at *
  cases r with
  | ok b w' => simp only [Result.andThen] at h ⊢; cases h; rfl
  | _ => simp [Result.andThen] at h
theorem cmpOf_ne {K : Type} [o : KOrd K] {a b : K} (h : a ≠ b) : cmpOf a b = if o.lt a b = true then -1 else 1 := by
  unfold cmpOf
  cases h1 : o.lt a b with
  | true => simp
  | false =>
    cases h2 : o.lt b a with
    | true => simp
    | false => exact absurd (o.tri h1 h2) h
theorem cmpOf_refl {K : Type} [o : KOrd K] (a : K) : cmpOf a a = 0 := by unfold cmpOf; rw [o.irr]; simp
theorem orI_ne {K : Type} [o : KOrd K] {a b : K} (h : a ≠ b) (l : List Int) : orI (cmpOf a b :: l) = if o.lt a b = true then -1 else 1 := by
  have e := cmpOf_ne h
  unfold orI
  rw [if_neg (by rw [e]; split <;> decide), e]
theorem orI_eq {K : Type} [o : KOrd K] (a : K) (l : List Int) : orI (cmpOf a a :: l) = orI l := by
  show (if cmpOf a a = 0 then orI l else cmpOf a a) = orI l
  rw [if_pos (cmpOf_refl a)]
theorem rsign_any (b : Bool) (w : World) : Calls Tryz.prog 82 #[.bool b] w fun e w' => e = .returned (.int .i64 (if b = true then -1 else 1)) ∧ Below w.heap.size w w' := by
  have HB := Lib.hid (Below.refl w.heap.size w)
  cases b
  all_goals
    go_enter Tryz.func82, Tryz.ntmps82
    go_wp2_with fail
    go_returns
    exact ⟨rfl, HB.out⟩
set_option maxRecDepth 100000 in
set_option maxHeartbeats 6400000 in
theorem rcmpf_any (x y : Fc) (w : World) : Calls Tryz.prog 28 #[.agg (fcA x), .agg (fcA y)] w fun e w' => e = .returned (.int .i64 (cmpF x y)) ∧ Below w.heap.size w w' := by
  obtain ⟨k1, w1, c1, s1⟩ := x
  obtain ⟨k2, w2, c2, s2⟩ := y
  obtain ⟨rr, hrr⟩ : ∃ rr, rr = cmpF ⟨k1, w1, c1, s1⟩ ⟨k2, w2, c2, s2⟩ := ⟨_, rfl⟩
  rw [← hrr]
  have HR := Lib.hid (show rr = orI [cmpOf c1 c2, cmpOf k1 k2, cmpOf w1 w2, cmpOf s1 s2] from hrr)
  clear hrr
  have SG := Lib.hid (fun (b : Bool) (W : World) => rsign_any b W)
  simp only [fcA] at *
  have b0 := bZ w (.cells #[.int .i64 k1, .int .i64 w1, .int .u64 c1, .string s1] FacT)
  have h0 := heap_alloc_new w (.cells #[.int .i64 k1, .int .i64 w1, .int .u64 c1, .string s1] FacT)
  have b1 := bZ (w.alloc (.cells #[.int .i64 k1, .int .i64 w1, .int .u64 c1, .string s1] FacT)) (.cells #[.int .i64 k2, .int .i64 w2, .int .u64 c2, .string s2] FacT)
  have hY := heap_alloc_new (w.alloc (.cells #[.int .i64 k1, .int .i64 w1, .int .u64 c1, .string s1] FacT)) (.cells #[.int .i64 k2, .int .i64 w2, .int .u64 c2, .string s2] FacT)
  have hX := Hold.below b1 _ _ h0
  rw [show (w.alloc (.cells #[.int .i64 k1, .int .i64 w1, .int .u64 c1, .string s1] FacT)).heap.size = w.heap.size + 1 from by simp] at hY
  have HB := Lib.hid (bmore b0 b1)
  clear h0 b1 b0
  go_enter Tryz.func28, Tryz.ntmps28
  go_upto_region 1 with fail
  generalize ((w.alloc (.cells #[.int .i64 k1, .int .i64 w1, .int .u64 c1, .string s1] FacT)).alloc (.cells #[.int .i64 k2, .int .i64 w2, .int .u64 c2, .string s2] FacT)) = W at *
  generalize w.heap.size + 1 = m1 at *
  have x0 : W.cell? ⟨w.heap.size, 0, none⟩ = some (.int .i64 k1) := cellB (j := 0) hX rfl
  have y0 : W.cell? ⟨m1, 0, none⟩ = some (.int .i64 k2) := cellB (j := 0) hY rfl
  have x1 : W.cell? ⟨w.heap.size, 1, none⟩ = some (.int .i64 w1) := cellB (j := 1) hX rfl
  have y1 : W.cell? ⟨m1, 1, none⟩ = some (.int .i64 w2) := cellB (j := 1) hY rfl
  have x2 : W.cell? ⟨w.heap.size, 2, none⟩ = some (.int .u64 c1) := cellB (j := 2) hX rfl
  have y2 : W.cell? ⟨m1, 2, none⟩ = some (.int .u64 c2) := cellB (j := 2) hY rfl
  have x3 : W.cell? ⟨w.heap.size, 3, none⟩ = some (.string s1) := cellB (j := 3) hX rfl
  have y3 : W.cell? ⟨m1, 3, none⟩ = some (.string s2) := cellB (j := 3) hY rfl
  clear hX hY
  by_cases e2 : c1 = c2
  case neg =>
    have q2 : (c1 != c2) = true := by simpa using e2
    have HV := Lib.hid (HR.out.trans (orI_ne e2 _))
    have SR := Lib.hid (fun (W : World) => (show Calls Tryz.prog 82 #[.bool (decide (c1 < c2))] W fun e w' => e = .returned (.int .i64 rr) ∧ Below W.heap.size W w' from by rw [HV.out]; exact rsign_any _ W))
    clear HR e2 x0 x1 x3 y0 y1 y3 SG HV
    go_wp2_with fail
    refine (SR.out _).mono ?_
    rintro e w3 ⟨rfl, u3⟩
    have HF := Lib.hid (bmore HB.out u3)
    clear u3
    go_wp2_with fail
    go_returns
    exact ⟨rfl, HF.out⟩
  subst e2
  have HR2 := Lib.hid (HR.out.trans (orI_eq c1 _))
  clear HR
  by_cases e0 : k1 = k2
  case neg =>
    have q2 : (c1 != c1) = false := by simp
    have q0 : (k1 != k2) = true := by simpa using e0
    have HV := Lib.hid (HR2.out.trans (orI_ne e0 _))
    have SR := Lib.hid (fun (W : World) => (show Calls Tryz.prog 82 #[.bool (decide (k1 < k2))] W fun e w' => e = .returned (.int .i64 rr) ∧ Below W.heap.size W w' from by rw [HV.out]; exact rsign_any _ W))
    clear HR2 e0 x1 x3 y1 y3 SG HV
    go_wp2_with fail
    refine (SR.out _).mono ?_
    rintro e w3 ⟨rfl, u3⟩
    have HF := Lib.hid (bmore HB.out u3)
    clear u3
    go_wp2_with fail
    go_returns
    exact ⟨rfl, HF.out⟩
  subst e0
  have HR0 := Lib.hid (HR2.out.trans (orI_eq k1 _))
  clear HR2
  by_cases e1 : w1 = w2
  case neg =>
    have q1 : (w1 != w2) = true := by simpa using e1
    have HV := Lib.hid (HR0.out.trans (orI_ne e1 _))
    have SR := Lib.hid (fun (W : World) => (show Calls Tryz.prog 82 #[.bool (decide (w1 < w2))] W fun e w' => e = .returned (.int .i64 rr) ∧ Below W.heap.size W w' from by rw [HV.out]; exact rsign_any _ W))
    clear HR0 e1 x3 y3 SG HV
    go_wp2_with fail
    refine (SR.out _).mono ?_
    rintro e w3 ⟨rfl, u3⟩
    have HF := Lib.hid (bmore HB.out u3)
    clear u3
    go_wp2_with fail
    go_returns
    exact ⟨rfl, HF.out⟩
  subst e1
  have HR1 := Lib.hid (HR0.out.trans (orI_eq w1 _))
  clear HR0
  by_cases e3 : s1 = s2
  case neg =>
    have q3 : (s1.toList == s2.toList) = false := ne_bytes e3
    have HV := Lib.hid (HR1.out.trans (orI_ne e3 _))
    have SR := Lib.hid (fun (W : World) => (show Calls Tryz.prog 82 #[.bool (Op.bytesLess s1.toList s2.toList)] W fun e w' => e = .returned (.int .i64 rr) ∧ Below W.heap.size W w' from by rw [HV.out]; exact rsign_any _ W))
    clear HR1 e3 SG HV
    go_wp2_with fail
    refine (SR.out _).mono ?_
    rintro e w3 ⟨rfl, u3⟩
    have HF := Lib.hid (bmore HB.out u3)
    clear u3
    go_wp2_with fail
    go_returns
    exact ⟨rfl, HF.out⟩
  subst e3
  have q3 := beq_self_list s1
  have HV : Hid (rr = 0) := Lib.hid (HR1.out.trans (orI_eq s1 _))
  clear HR1
  go_wp2_with fail
  go_returns
  exact ⟨by rw [HV.out]; rfl, HB.out⟩
set_option maxRecDepth 100000 in
set_option maxHeartbeats 6400000 in
theorem rsame12_any {w : World} {va vb : Value} {l m : List Fc} (ha : Row w 4 va l.length (fcs l)) (hb : Row w 4 vb m.length (fcs m)) : Calls Tryz.prog 19 #[va, vb] w fun e w' => e = .returned (.bool (decide (l = m))) ∧ Below w.heap.size w w' := by
  obtain ⟨aa, ac, rfl, hax⟩ := ha.at4
  obtain ⟨ba, bc, rfl, hbx⟩ := hb.at4
  have HAX := Lib.hid hax
  have HBX := Lib.hid hbx
  have hll := ha.small
  have hlm := hb.small
  unfold maxLen at hll hlm
  obtain ⟨rr, hrr⟩ : ∃ rr, rr = decide (l = m) := ⟨_, rfl⟩
  rw [← hrr]
  have HR := Lib.hid hrr
  clear ha hb hax hbx hrr
  by_cases hlen : l.length = m.length
  case neg =>
    have hn : ((l.length : Int) != (m.length : Int)) = true := by simp; omega
    obtain rfl : rr = false := HR.out.trans (decide_eq_false fun e => hlen (by rw [e]))
    have HB := Lib.hid (Below.refl w.heap.size w)
    clear HR hlen HAX HBX
    go_enter Tryz.func19, Tryz.ntmps19
    go_wp2_with fail
    go_returns
    exact ⟨rfl, HB.out⟩
  have hn : ((l.length : Int) != (m.length : Int)) = false := by simp; omega
  go_enter Tryz.func19, Tryz.ntmps19
  go_wp2_with fail
  go_loopw [5] (fun v5 wr => ∃ i : Nat, v5 = .int .i64 (i : Int) ∧ i ≤ l.length ∧ l.take i = m.take i ∧ Below w.heap.size w wr) (fun v _ => l.length - (intOf v).toNat)
  case atStart => exact ⟨0, rfl, Nat.zero_le _, by simp, Below.refl _ _⟩
  case round =>
    obtain ⟨i, rfl, hi, htk, hb⟩ := hrel
    have HB := Lib.hid hb
    have HTK := Lib.hid htk
    clear htk
    by_cases hlt : i < l.length
    · have hlt2 : i < m.length := by omega
      obtain ⟨b1, o1, rfl, q1⟩ := HAX.out (by omega)
      obtain ⟨b2, o2, rfl, q2⟩ := HBX.out (by omega)
      obtain ⟨a0, a1, a2, a3⟩ := fcs_at l i hlt
      obtain ⟨d0, d1, d2, d3⟩ := fcs_at m i hlt2
      have c0 := bcellAt hb (q1 _ _ a0)
      have c1 := bcellAt hb (q1 _ _ a1)
      have c2 := bcellAt hb (q1 _ _ a2)
      have c3 := bcellAt hb (q1 _ _ a3)
      have e0 := bcellAt hb (q2 _ _ d0)
      have e1 := bcellAt hb (q2 _ _ d1)
      have e2 := bcellAt hb (q2 _ _ d2)
      have e3 := bcellAt hb (q2 _ _ d3)
      simp only [← Nat.add_assoc] at c1 c2 c3 e1 e2 e3
      have hq := fun (W : World) => hneq_fc l[i] m[i] W
      have HN := Lib.hid (fun (h : l[i] = m[i]) => (by rw [List.take_add_one, List.take_add_one, List.getElem?_eq_getElem hlt, List.getElem?_eq_getElem hlt2, HTK.out, h] : l.take (i + 1) = m.take (i + 1)))
      have HX := Lib.hid (fun (h : ¬ l[i] = m[i]) => (HR.out.trans (decide_eq_false fun e => h (by subst e; rfl)) : rr = false))
      clear q1 q2 a0 a1 a2 a3 d0 d1 d2 d3 hb HR HTK
      generalize l[i] = x at *
      generalize m[i] = y at *
      have hi0 : (0 : Int) ≤ (i : Int) := by omega
      have hi1 : (i : Int) < (l.length : Int) := by omega
      have hi2 : (i : Int) < (m.length : Int) := by omega
      by_cases hxy : x = y
      · have HNN := Lib.hid (HN.out hxy)
        rw [decide_eq_true hxy] at hq
        obtain ⟨xk, xw, xc, xs⟩ := x
        obtain ⟨yk, yw, yc, ys⟩ := y
        simp only [fcA, Bool.not_true] at c0 c1 c2 c3 e0 e1 e2 e3 hq
        clear HN HX hxy
        go_wp2_with fail
        go_quiet (fail)
        have HBQ := Lib.hid (bmore HB.out (bdn wr nq))
        clear c0 c1 c2 c3 e0 e1 e2 e3
        go_wp2_with fail
        go_roundw
        case rel => exact ⟨i + 1, by go_num, by omega, HNN.out, HBQ.out⟩
        case measure => simp [intOf] <;> omega
      · obtain rfl := HX.out hxy
        rw [decide_eq_false hxy] at hq
        obtain ⟨xk, xw, xc, xs⟩ := x
        obtain ⟨yk, yw, yc, ys⟩ := y
        simp only [fcA, Bool.not_false] at c0 c1 c2 c3 e0 e1 e2 e3 hq
        clear HN HX hxy
        go_wp2_with fail
        go_quiet (fail)
        have HBQ := Lib.hid (bmore HB.out (bdn wr nq))
        clear c0 c1 c2 c3 e0 e1 e2 e3
        go_wp2_with fail
        go_returns
        exact ⟨rfl, HBQ.out⟩
    · obtain rfl : i = l.length := by omega
      obtain rfl : rr = true := HR.out.trans (decide_eq_true (by have h := HTK.out; rw [List.take_length, hlen, List.take_length] at h; exact h))
      clear HR HTK
      go_wp2_with fail
      go_returns
      exact ⟨rfl, HB.out⟩
set_option maxRecDepth 100000 in
set_option maxHeartbeats 6400000 in
theorem rhas12_any {w : World} {va : Value} {l : List Fc} (ha : Row w 4 va l.length (fcs l)) (x : Fc) : Calls Tryz.prog 41 #[va, .agg (fcA x)] w fun e w' => e = .returned (.bool (decide (x ∈ l))) ∧ Below w.heap.size w w' := by
  obtain ⟨aa, ac, rfl, hax⟩ := ha.at4
  have HAX := Lib.hid hax
  have hll := ha.small
  unfold maxLen at hll
  obtain ⟨rr, hrr⟩ : ∃ rr, rr = decide (x ∈ l) := ⟨_, rfl⟩
  rw [← hrr]
  have HR := Lib.hid hrr
  clear ha hax hrr
  obtain ⟨xk, xw, xc, xs⟩ := x
  have HB0 := Lib.hid (bZ w (.cells #[.int .i64 xk, .int .i64 xw, .int .u64 xc, .string xs] FacT))
  have hz := heap_alloc_new w (.cells #[.int .i64 xk, .int .i64 xw, .int .u64 xc, .string xs] FacT)
  simp only [fcA] at *
  go_enter Tryz.func41, Tryz.ntmps41
  go_upto_region 1 with fail
  generalize (w.alloc (.cells #[.int .i64 xk, .int .i64 xw, .int .u64 xc, .string xs] FacT)) = w1 at *
  have z0 : w1.cell? ⟨w.heap.size, 0, none⟩ = some (.int .i64 xk) := cellB (j := 0) hz rfl
  have z1 : w1.cell? ⟨w.heap.size, 1, none⟩ = some (.int .i64 xw) := cellB (j := 1) hz rfl
  have z2 : w1.cell? ⟨w.heap.size, 2, none⟩ = some (.int .u64 xc) := cellB (j := 2) hz rfl
  have z3 : w1.cell? ⟨w.heap.size, 3, none⟩ = some (.string xs) := cellB (j := 3) hz rfl
  clear hz
  go_wp2_with fail
  go_loopw [5] (fun v5 wr => ∃ i : Nat, v5 = .int .i64 (i : Int) ∧ i ≤ l.length ∧ (⟨xk, xw, xc, xs⟩ : Fc) ∉ l.take i ∧ Below w1.heap.size w1 wr) (fun v _ => l.length - (intOf v).toNat)
  case atStart => exact ⟨0, rfl, Nat.zero_le _, by simp, Below.refl _ _⟩
  case round =>
    obtain ⟨i, rfl, hi, htk, hb⟩ := hrel
    have HB := Lib.hid (bmore HB0.out hb)
    have HBR := Lib.hid hb
    have HTK := Lib.hid htk
    clear htk
    by_cases hlt : i < l.length
    · obtain ⟨b1, o1, rfl, q1⟩ := HAX.out (by omega)
      obtain ⟨a0, a1, a2, a3⟩ := fcs_at l i hlt
      have c0 := bcellAt HB.out (q1 _ _ a0)
      have c1 := bcellAt HB.out (q1 _ _ a1)
      have c2 := bcellAt HB.out (q1 _ _ a2)
      have c3 := bcellAt HB.out (q1 _ _ a3)
      simp only [← Nat.add_assoc] at c1 c2 c3
      have y0 := bcellAt hb z0
      have y1 := bcellAt hb z1
      have y2 := bcellAt hb z2
      have y3 := bcellAt hb z3
      have hq := fun (W : World) => heq_fc l[i] ⟨xk, xw, xc, xs⟩ W
      have HN := Lib.hid (fun (h : ¬ l[i] = ⟨xk, xw, xc, xs⟩) => (by rw [List.take_add_one, List.getElem?_eq_getElem hlt]; simp only [Option.toList_some, List.mem_append, List.mem_singleton, not_or]; exact ⟨HTK.out, fun e => h e.symm⟩ : (⟨xk, xw, xc, xs⟩ : Fc) ∉ l.take (i + 1)))
      have HX := Lib.hid (fun (h : l[i] = ⟨xk, xw, xc, xs⟩) => (HR.out.trans (decide_eq_true (by rw [← h]; exact List.getElem_mem hlt)) : rr = true))
      clear q1 a0 a1 a2 a3 hb HTK z0 z1 z2 z3
      generalize l[i] = y at *
      have hi0 : (0 : Int) ≤ (i : Int) := by omega
      have hi1 : (i : Int) < (l.length : Int) := by omega
      by_cases hxy : y = ⟨xk, xw, xc, xs⟩
      · obtain rfl := HX.out hxy
        rw [decide_eq_true hxy] at hq
        obtain ⟨yk, yw, yc, ys⟩ := y
        simp only [fcA] at c0 c1 c2 c3 hq
        clear HN HX hxy
        go_wp2_with fail
        go_quiet (fail)
        have HBQ := Lib.hid (bmore HB.out (bdn wr nq))
        clear c0 c1 c2 c3 y0 y1 y2 y3
        go_wp2_with fail
        go_returns
        exact ⟨rfl, HBQ.out⟩
      · have HNN := Lib.hid (HN.out hxy)
        rw [decide_eq_false hxy] at hq
        obtain ⟨yk, yw, yc, ys⟩ := y
        simp only [fcA] at c0 c1 c2 c3 hq
        clear HN HX hxy
        go_wp2_with fail
        go_quiet (fail)
        have HBQ := Lib.hid (bmore HBR.out (bdn wr nq))
        clear c0 c1 c2 c3 y0 y1 y2 y3
        go_wp2_with fail
        go_roundw
        case rel => exact ⟨i + 1, by go_num, by omega, HNN.out, HBQ.out⟩
        case measure => simp [intOf] <;> omega
    · obtain rfl : i = l.length := by omega
      obtain rfl : rr = false := HR.out.trans (decide_eq_false (by have h := HTK.out; rw [List.take_length] at h; exact h))
      clear HR HTK z0 z1 z2 z3
      go_wp2_with fail
      go_returns
      exact ⟨rfl, HB.out⟩
theorem bonP_eq (l : List Fc) (who : Int) (f : Fc) : bonP (l ++ [f]) who = bonP l who ++ (if (f.kind == 2 && f.who == who) = true then [f] else []) := bonP_snoc l who f
set_option maxRecDepth 100000 in
set_option maxHeartbeats 6400000 in
theorem rbonds12_any {w : World} {v : Value} {l : List Fc} (h : Row w 4 v l.length (fcs l)) (hl : l.length ≤ 100000) (who : Int) : Calls Tryz.prog 21 #[v, .int .i64 who] w (FcPost w (bonP l who)) := by
  obtain ⟨sa, sc, rfl, hsx⟩ := h.at4
  have HSX := Lib.hid hsx
  have HLN := Lib.hid hl
  clear h hsx hl
  go_enter Tryz.func21, Tryz.ntmps21
  go_wp2_with fail
  go_loopw [5, 6] (fun v5 v10 wr => ∃ (i : Nat), v10 = .int .i64 (i : Int) ∧ i ≤ l.length ∧ wr.ownsRow w.heap.size FacT 4 v5 (bonP (l.take i) who).length (fcs (bonP (l.take i) who)) ∧ Below w.heap.size w wr) (fun _ v _ => l.length - (intOf v).toNat)
  case atStart => exact ⟨0, rfl, Nat.zero_le _, by rw [List.take_zero]; exact World.ownsRow_nil _ _ _ 4, Below.refl _ _⟩
  case round =>
    obtain ⟨i, rfl, hi, hown, hb⟩ := hrel
    have HO := Lib.hid hown
    have HB := Lib.hid hb
    obtain ⟨la, lc, rfl⟩ := (row_of_own hown).shape
    clear hown
    have hl4 : l.length ≤ 100000 := HLN.out
    by_cases hlt : i < l.length
    · obtain ⟨b, o, rfl, ql⟩ := HSX.out (by omega)
      obtain ⟨g0, g1, g2, g3⟩ := fcs_at l i hlt
      have x0 := bcellAt hb (ql _ _ g0)
      have x1 := bcellAt hb (ql _ _ g1); rw [← Nat.add_assoc] at x1
      have x2 := bcellAt hb (ql _ _ g2); rw [← Nat.add_assoc] at x2
      have x3 := bcellAt hb (ql _ _ g3); rw [← Nat.add_assoc] at x3
      have hi0 : (0 : Int) ≤ (i : Int) := by omega
      have hi1 : (i : Int) < (l.length : Int) := by omega
      have HTK : Hid (l.take (i + 1) = l.take i ++ [l[i]]) := Lib.hid (by rw [List.take_add_one, List.getElem?_eq_getElem hlt, Option.toList_some])
      have HPN : Hid ((bonP (l.take i) who).length ≤ 100000) := Lib.hid (Nat.le_trans (bonP_len _ _) (by rw [List.length_take]; have := HLN.out; omega))
      have HPS := Lib.hid (bonP_eq (l.take i) who l[i])
      rw [← HTK.out] at HPS
      generalize l[i] = x at *
      clear ql hb HTK g0 g1 g2 g3
      generalize bonP (l.take i) who = S0 at *
      obtain ⟨k, xw, c, s⟩ := x
      simp only at *
      by_cases hk : k = 2
      · by_cases hw : xw = who
        · subst hk hw
          have HS3 := Lib.hid HB.out.size
          have HZ3 := Lib.hid (bZ wr (.cells #[.int .i64 2, .int .i64 xw, .int .u64 c, .string s] FacT))
          have HR3 := Lib.hid (row_fc (w := wr.alloc (.cells #[.int .i64 2, .int .i64 xw, .int .u64 c, .string s] FacT)) (b := wr.heap.size) (f := ⟨2, xw, c, s⟩) (heap_alloc_new _ _))
          have HO4 := Lib.hid (own_hold HO.out (Hold.below HZ3.out))
          go_wp2_with (first
            | (at_builtin; refine wpList_append_fc rfl _ _ rfl w.heap.size (.slice la S0.length lc) S0 rfl HO4.out _ [⟨2, xw, c, s⟩] rfl HR3.out (by have := HPN.out; simp; omega) (Nat.le_trans HS3.out HZ3.out.size) ?_; intro v5 w5 hrow5 hg5)
            | fail)
          go_roundw
          case rel =>
            refine ⟨i + 1, by go_num, by omega, ?_, ?_⟩
            · have h6 := HPS.out
              have h7 : ((2 : Int) == 2 && xw == xw) = true := by simp
              rw [if_pos h7] at h6
              rw [h6]
              exact hrow5
            · exact (bmore HB.out HZ3.out).grown hg5 (Nat.le_trans HS3.out HZ3.out.size) (fun j e => (own_type HO4.out e).1)
          case measure => simp [intOf]; omega
        · have hw1 : (xw == who) = false := by simpa using hw
          have hk1 : (k == 2) = true := by simpa using hk
          have HW : Hid ((k == 2 && xw == who) = false) := Lib.hid (by rw [hw1]; simp)
          clear hw hk
          go_wp2_with fail
          go_roundw
          case rel => exact ⟨i + 1, by go_num, by omega, by rw [HPS.out, HW.out]; simpa using HO.out, HB.out⟩
          case measure => simp [intOf]; omega
      · have hk1 : (k == 2) = false := by simpa using hk
        have HW : Hid ((k == 2 && xw == who) = false) := Lib.hid (by rw [hk1]; rfl)
        clear hk
        go_wp2_with fail
        go_roundw
        case rel => exact ⟨i + 1, by go_num, by omega, by rw [HPS.out, HW.out]; simpa using HO.out, HB.out⟩
        case measure => simp [intOf]; omega
    · obtain rfl : i = l.length := by omega
      have hi2 : decide ((l.length : Int) < (l.length : Int)) = false := decide_eq_false (by omega)
      go_wp2_with fail
      go_returns
      exact ⟨_, rfl, by rw [show bonP l who = bonP (l.take l.length) who from by rw [List.take_length]]; exact HO.out, HB.out⟩
end Go.Proofs.YtjmcaceegfdkkaaGreatDoor
