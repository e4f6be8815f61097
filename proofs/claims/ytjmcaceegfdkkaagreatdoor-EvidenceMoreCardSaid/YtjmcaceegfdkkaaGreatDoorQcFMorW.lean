/-
  The law's own walk: EvidenceMore.
-/
import Derived.Deep.RegionHeld3
import Derived.Test.YtjmcaceegfdkkaaGreatDoorQcFMorP
import Derived.Test.YtjmcaceegfdkkaaGreatDoorQcFLiv
import Derived.Test.YtjmcaceegfdkkaaGreatDoorQcFOrdW
namespace Go.Proofs.YtjmcaceegfdkkaaGreatDoor
open Go.RowKit Go.Maps
set_option linter.unusedVariables false
set_option maxRecDepth 100000 in
set_option maxHeartbeats 51200000 in
theorem more_walk {w : World} (hL : Laid w) (hl : LaidK w) {fo : Fo} {vn : Value} (hk : IsK w (fun b => b < w.heap.size) vn fo) (hok : OkF fo) {vt : Value} {ts : List Int} (ht : Row w 1 vt ts.length (ints ts)) (hti : ∀ x ∈ ts, i64R x) {vm : Value} {more : List Int} (hm : Row w 1 vm more.length (ints more)) (hmi : ∀ x ∈ more, i64R x) : Calls Tryz.prog 8 #[vn, vt, vm] w fun e w' => e = .returned (.bool true) ∧ Below w.heap.size w w' := by
 obtain ⟨ta, tc, rfl⟩ := ht.shape
 obtain ⟨ma, mc, rfl⟩ := hm.shape
 have htl := ht.small
 have hml := hm.small
 unfold maxLen at htl hml
 have HT := Lib.hid ht
 have HM := Lib.hid hm
 have HTI := Lib.hid hti
 have HMI := Lib.hid hmi
 have HL := Lib.hid hL
 have HK := Lib.hid hl
 have WD := Lib.hid (wide_any hk)
 have PO := Lib.hid (fun (W : World) (hb : Below w.heap.size w W) (h1 : fo.size < 500) (h2 : fo.len ≤ 10) => pools_any (hL.below hb) (IsK.of (w' := W) (hk.below hb) fun b h _ => Nat.lt_of_lt_of_le h hb.size) hok (by omega) (by omega))
 have LV := Lib.hid (fun (V : World) (hb : Below w.heap.size w V) => live_any (hL.below hb) (hl.below hb))
 obtain ⟨na, nc, rfl, _⟩ := hk.shape
 clear ht hm hti hmi hL hl hk hok
 go_enter Tryz.func8, Tryz.ntmps8
 go_wp2_with fail
 refine WD.out.mono ?_
 rintro e w1 ⟨⟨qb, rfl, hq⟩, u1⟩
 have U1 := Lib.hid u1
 have HQ := Lib.hid hq
 clear u1 hq WD
 cases qb with
 | true =>
  go_wp2_with fail
  refine (LV.out _ U1.out).mono ?_
  rintro e w9 ⟨rfl, u9⟩
  have HFF := Lib.hid (bmore U1.out u9)
  clear u9
  go_wp2_with fail
  go_returns
  exact ⟨rfl, HFF.out⟩
 | false =>
  obtain ⟨hq1, hq2⟩ := HQ.out rfl
  have hc1 : ((20 : Int) < (ts.length : Int)) ∨ ((ts.length : Int) ≤ 20) := by omega
  rcases hc1 with hc1 | hc1
  ·go_wp2_with fail
   refine (LV.out _ U1.out).mono ?_
   rintro e w9 ⟨rfl, u9⟩
   have HFF := Lib.hid (bmore U1.out u9)
   clear u9
   go_wp2_with fail
   go_returns
   exact ⟨rfl, HFF.out⟩
  have hc2 : ((20 : Int) < (more.length : Int)) ∨ ((more.length : Int) ≤ 20) := by omega
  rcases hc2 with hc2 | hc2
  ·go_wp2_with fail
   refine (LV.out _ U1.out).mono ?_
   rintro e w9 ⟨rfl, u9⟩
   have HFF := Lib.hid (bmore U1.out u9)
   clear u9
   go_wp2_with fail
   go_returns
   exact ⟨rfl, HFF.out⟩
  go_wp2_with fail
  refine (PO.out _ U1.out hq2 hq1).mono ?_
  rintro e w2 ⟨pa, b, ra, vv, rl, rs, rd, q, rfl, hp, hr, u2, hql⟩
  have hq5 : q.length ≤ 500 := by omega
  have U2 := Lib.hid (bmore U1.out u2)
  have HP := Lib.hid hp
  have HR := Lib.hid hr
  have A1 := Lib.hid (all_any hp (HK.out.below U2.out) (by omega) (HT.out.below U2.out) HTI.out (by omega))
  clear hp hr u2 PO hql
  go_wp2_with fail
  refine A1.out.mono ?_
  rintro e w3 ⟨v3, F, rfl, hf3, hF, u3⟩
  have U3 := Lib.hid (bmore U2.out u3)
  have HP3 := Lib.hid (HP.out.below u3)
  have HR3 := Lib.hid (HR.out.below u3)
  have HF3 := Lib.hid (row_of_own hf3)
  have HFA := Lib.hid hF
  obtain ⟨fa, fc, rfl⟩ := (row_of_own hf3).shape
  clear hf3 hF u3 A1 HP HR
  have hz := heap_alloc_new w3 (.cells #[] TermT)
  have HZ := Lib.hid (bZ w3 (.cells #[] TermT))
  have HOE : Hid ((w3.alloc (.cells #[] TermT)).ownsRow w3.heap.size TermT 1 (.slice (some ⟨w3.heap.size, 0, none⟩) 0 0) ([] : List Int).length (ints [])) := Lib.hid ⟨rfl, .inr ⟨w3.heap.size, 0, #[], rfl, Nat.le_refl _, hz, Nat.le_refl _, by unfold maxLen; omega, rfl, rfl⟩⟩
  clear hz
  go_wp2_with (first
   | (at_builtin; refine wpList_append_tl rfl _ _ rfl w3.heap.size v4 ts rfl HR4.out _ more rfl (HM.out.below (bmore U3.out B4.out)) (by omega) B4.out.size ?_; intro v5 w5 hrow5 hg5; have B5 := Lib.hid (B4.out.grown hg5 B4.out.size (fun j e => (own_type HR4.out e).1)))
   | (at_builtin; refine wpList_append_tl rfl _ _ rfl w3.heap.size (.slice (some ⟨w3.heap.size, 0, none⟩) 0 0) [] rfl HOE.out _ ts rfl (HT.out.below (bmore U3.out HZ.out)) (by simp; omega) HZ.out.size ?_; intro v4 w4 hrow4 hg4; have B4 := Lib.hid (HZ.out.grown hg4 HZ.out.size (fun j e => (own_type HOE.out e).1)); have HR4 : Hid (w4.ownsRow w3.heap.size TermT 1 v4 ts.length (ints ts)) := Lib.hid hrow4; clear hrow4 hg4)
   | fail)
  have HR5 := Lib.hid (row_of_own hrow5)
  obtain ⟨la, lc, rfl⟩ := (row_of_own hrow5).shape
  have A2 := Lib.hid (all_any (HP3.out.below B5.out) (HK.out.below (bmore U3.out B5.out)) (by omega) HR5.out (fun x hx => (List.mem_append.1 hx).elim (HTI.out x) (HMI.out x)) (by rw [List.length_append]; omega))
  clear hrow5 hg5 HR4 B4 HOE HZ HR5
  refine A2.out.mono ?_
  rintro e w6 ⟨v6, G, rfl, hg6, hG, u6⟩
  have U6 := Lib.hid (bmore (bmore U3.out B5.out) u6)
  have HP6 := Lib.hid (HP3.out.below (bmore B5.out u6))
  have HR6 := Lib.hid (HR3.out.below (bmore B5.out u6))
  have HF6 := Lib.hid (HF3.out.below (bmore B5.out u6))
  have HG6 := Lib.hid (row_of_own hg6)
  have HSUB := Lib.hid (isAll_sub HFA.out hG)
  have hFl := HF3.out.small
  unfold maxLen at hFl
  obtain ⟨ga, gc, rfl⟩ := (row_of_own hg6).shape
  obtain ⟨fa', fc', hv, hqf⟩ := HF6.out.at4
  simp only [Value.slice.injEq, true_and] at hv
  obtain ⟨rfl, rfl⟩ := hv
  have HQF := Lib.hid hqf
  clear hg6 hG u6 A2 HP3 HR3 HF3 B5 U3 hqf
  go_wp2_with fail
  go_loopw [12] (fun v12 wr => ∃ i : Nat, v12 = .int .i64 (i : Int) ∧ i ≤ F.length ∧ Below w6.heap.size w6 wr) (fun v _ => F.length - (intOf v).toNat)
  case atStart => exact ⟨0, rfl, Nat.zero_le _, Below.refl _ _⟩
  case round =>
   obtain ⟨i, rfl, hi, hb⟩ := hrel
   have HB := Lib.hid hb
   by_cases hlt : i < F.length
   ·obtain ⟨fb, fo', rfl, qf⟩ := HQF.out (by omega)
    obtain ⟨g0, g1, g2, g3⟩ := fcs_at F i hlt
    have x0 := bcellAt hb (qf _ _ g0)
    have x1 := bcellAt hb (qf _ _ g1)
    have x2 := bcellAt hb (qf _ _ g2)
    have x3 := bcellAt hb (qf _ _ g3)
    simp only [← Nat.add_assoc] at x1 x2 x3
    have hi0 : (0 : Int) ≤ (i : Int) := by omega
    have hi1 : (i : Int) < (F.length : Int) := by omega
    have HX := Lib.hid (fun (W : World) (hw : Below wr.heap.size wr W) => (show Calls Tryz.prog 41 #[.slice ga G.length gc, .agg (fcA F[i])] W fun e w' => e = .returned (.bool true) ∧ Below W.heap.size W w' from by
     have h := rhas12_any (HG6.out.below (bmore HB.out hw)) F[i]
     rw [decide_eq_true (HSUB.out _ (List.getElem_mem hlt))] at h
     exact h))
    have hcs : i = 0 ∨ 1 ≤ i := by omega
    rcases hcs with h1 | h1
    ·have HH := Lib.hid HX.out
     have hgi : decide ((0 : Int) < (i : Int)) = false := decide_eq_false (by omega)
     have hgj : decide (0 < i) = false := decide_eq_false (by omega)
     clear qf g0 g1 g2 g3 hb HX h1
     generalize F[i] = x at *
     obtain ⟨xk, xw, xc, xs⟩ := x
     simp only [fcA] at *
     have HS := Lib.hid (fun (V : World) (hb : Below wr.heap.size wr V) => (⟨bcellAt hb x0, bcellAt hb x1, bcellAt hb x2, bcellAt hb x3⟩ : (fun V : World => V.cell? ⟨fb, fo' + i * 4, none⟩ = some (.int .i64 xk) ∧ V.cell? ⟨fb, fo' + i * 4 + 1, none⟩ = some (.int .i64 xw) ∧ V.cell? ⟨fb, fo' + i * 4 + 2, none⟩ = some (.int .u64 xc) ∧ V.cell? ⟨fb, fo' + i * 4 + 3, none⟩ = some (.string xs)) V))
     go_upto_region 10 with fail
     clear x0 x1 x2 x3
     refine lex_start [0, 1, 2, 3, 4, 5, 6, 7, 8, 9, 10, 11, 12, 13, 14, 15, 16, 17, 18, 19, 20, 21, 22, 23] (S := (fun V : World => V.cell? ⟨fb, fo' + i * 4, none⟩ = some (.int .i64 xk) ∧ V.cell? ⟨fb, fo' + i * 4 + 1, none⟩ = some (.int .i64 xw) ∧ V.cell? ⟨fb, fo' + i * 4 + 2, none⟩ = some (.int .u64 xc) ∧ V.cell? ⟨fb, fo' + i * 4 + 3, none⟩ = some (.string xs))) (by kernel_rfl) (HS.out _ (bd wr)) (fun hS => ?_)
     simp only [inOrder, List.filterMap, List.getElem?_cons_succ, List.getElem?_cons_zero]
     have D0 := Lib.hid (bd wr)
     have CC := Lib.hid (HH.out _ D0.out)
     generalize wr.drew = V0 at *
     clear hS
     refine lex_take (i := 0) (v := ?_) rfl (by kernel_rfl) (by kernel_rfl) (by kernel_rfl) (by rfl) (HS.out _ D0.out) ?_ ?_
     rotate_left
     ·((intro W hW; obtain ⟨k0, k1, k2, k3⟩ := hW; go_simp) <;> with_reducible rfl)
     simp only [Act.put, List.setIfInBounds_toArray, List.set_cons_zero, List.set_cons_succ]
     refine lex_take (i := 1) (v := ?_) rfl (by kernel_rfl) (by kernel_rfl) (by kernel_rfl) (by rfl) (HS.out _ D0.out) ?_ ?_
     rotate_left
     ·((intro W hW; obtain ⟨k0, k1, k2, k3⟩ := hW; go_simp) <;> with_reducible rfl)
     simp only [Act.put, List.setIfInBounds_toArray, List.set_cons_zero, List.set_cons_succ]
     refine lex_take (i := 2) (v := ?_) rfl (by kernel_rfl) (by kernel_rfl) (by kernel_rfl) (by rfl) (HS.out _ D0.out) ?_ ?_
     rotate_left
     ·((intro W hW; obtain ⟨k0, k1, k2, k3⟩ := hW; go_simp) <;> with_reducible rfl)
     simp only [Act.put, List.setIfInBounds_toArray, List.set_cons_zero, List.set_cons_succ]
     refine lex_take (i := 3) (v := ?_) rfl (by kernel_rfl) (by kernel_rfl) (by kernel_rfl) (by rfl) (HS.out _ D0.out) ?_ ?_
     rotate_left
     ·((intro W hW; obtain ⟨k0, k1, k2, k3⟩ := hW; go_simp) <;> with_reducible rfl)
     simp only [Act.put, List.setIfInBounds_toArray, List.set_cons_zero, List.set_cons_succ]
     refine lex_take (i := 4) (v := ?_) rfl (by kernel_rfl) (by kernel_rfl) (by kernel_rfl) (by rfl) (HS.out _ D0.out) ?_ ?_
     rotate_left
     ·((intro W hW; obtain ⟨k0, k1, k2, k3⟩ := hW; go_simp) <;> with_reducible rfl)
     simp only [Act.put, List.setIfInBounds_toArray, List.set_cons_zero, List.set_cons_succ]
     refine lex_call (i := 5) rfl (by kernel_rfl) (by rfl) ?_ _ CC.out ?_
     ·go_simp
     rintro e V1 ⟨rfl, uu⟩
     have D1 := Lib.hid (bmore D0.out uu)
     clear uu CC
     refine ⟨_, rfl, (fun V : World => V.cell? ⟨fb, fo' + i * 4, none⟩ = some (.int .i64 xk) ∧ V.cell? ⟨fb, fo' + i * 4 + 1, none⟩ = some (.int .i64 xw) ∧ V.cell? ⟨fb, fo' + i * 4 + 2, none⟩ = some (.int .u64 xc) ∧ V.cell? ⟨fb, fo' + i * 4 + 3, none⟩ = some (.string xs)), fun W h => h, HS.out _ D1.out, ?_⟩
     simp only [Act.put, List.setIfInBounds_toArray, List.set_cons_zero, List.set_cons_succ]
     refine lex_take (i := 6) (v := ?_) rfl (by kernel_rfl) (by kernel_rfl) (by kernel_rfl) (by rfl) (HS.out _ D1.out) ?_ ?_
     rotate_left
     ·((intro W hW; obtain ⟨k0, k1, k2, k3⟩ := hW; go_simp) <;> with_reducible rfl)
     simp only [Act.put, List.setIfInBounds_toArray, List.set_cons_zero, List.set_cons_succ]
     refine lex_take (i := 7) (v := ?_) rfl (by kernel_rfl) (by kernel_rfl) (by kernel_rfl) (by rfl) (HS.out _ D1.out) ?_ ?_
     rotate_left
     ·((intro W hW; obtain ⟨k0, k1, k2, k3⟩ := hW; go_simp) <;> with_reducible rfl)
     simp only [Act.put, List.setIfInBounds_toArray, List.set_cons_zero, List.set_cons_succ]
     refine lex_take (i := 8) (v := ?_) rfl (by kernel_rfl) (by kernel_rfl) (by kernel_rfl) (by rfl) (HS.out _ D1.out) ?_ ?_
     rotate_left
     ·((intro W hW; obtain ⟨k0, k1, k2, k3⟩ := hW; go_simp) <;> with_reducible rfl)
     simp only [Act.put, List.setIfInBounds_toArray, List.set_cons_zero, List.set_cons_succ]
     refine lex_take (i := 9) (v := ?_) rfl (by kernel_rfl) (by kernel_rfl) (by kernel_rfl) (by rfl) (HS.out _ D1.out) ?_ ?_
     rotate_left
     ·((intro W hW; obtain ⟨k0, k1, k2, k3⟩ := hW; go_simp) <;> with_reducible rfl)
     simp only [Act.put, List.setIfInBounds_toArray, List.set_cons_zero, List.set_cons_succ]
     refine lex_take (i := 10) (v := ?_) rfl (by kernel_rfl) (by kernel_rfl) (by kernel_rfl) (by rfl) (HS.out _ D1.out) ?_ ?_
     rotate_left
     ·((intro W hW; obtain ⟨k0, k1, k2, k3⟩ := hW; go_simp) <;> with_reducible rfl)
     simp only [Act.put, List.setIfInBounds_toArray, List.set_cons_zero, List.set_cons_succ]
     refine lex_skip (i := 11) rfl (by kernel_rfl) (by kernel_rfl) (by kernel_rfl) (by rfl) (HS.out _ D1.out) ?_
     simp only [Act.put, List.setIfInBounds_toArray, List.set_cons_zero, List.set_cons_succ]
     refine lex_skip (i := 12) rfl (by kernel_rfl) (by kernel_rfl) (by kernel_rfl) (by rfl) (HS.out _ D1.out) ?_
     simp only [Act.put, List.setIfInBounds_toArray, List.set_cons_zero, List.set_cons_succ]
     refine lex_skip (i := 13) rfl (by kernel_rfl) (by kernel_rfl) (by kernel_rfl) (by rfl) (HS.out _ D1.out) ?_
     simp only [Act.put, List.setIfInBounds_toArray, List.set_cons_zero, List.set_cons_succ]
     refine lex_skip (i := 14) rfl (by kernel_rfl) (by kernel_rfl) (by kernel_rfl) (by rfl) (HS.out _ D1.out) ?_
     simp only [Act.put, List.setIfInBounds_toArray, List.set_cons_zero, List.set_cons_succ]
     refine lex_skip (i := 15) rfl (by kernel_rfl) (by kernel_rfl) (by kernel_rfl) (by rfl) (HS.out _ D1.out) ?_
     simp only [Act.put, List.setIfInBounds_toArray, List.set_cons_zero, List.set_cons_succ]
     refine lex_skip (i := 16) rfl (by kernel_rfl) (by kernel_rfl) (by kernel_rfl) (by rfl) (HS.out _ D1.out) ?_
     simp only [Act.put, List.setIfInBounds_toArray, List.set_cons_zero, List.set_cons_succ]
     refine lex_skip (i := 17) rfl (by kernel_rfl) (by kernel_rfl) (by kernel_rfl) (by rfl) (HS.out _ D1.out) ?_
     simp only [Act.put, List.setIfInBounds_toArray, List.set_cons_zero, List.set_cons_succ]
     refine lex_skip (i := 18) rfl (by kernel_rfl) (by kernel_rfl) (by kernel_rfl) (by rfl) (HS.out _ D1.out) ?_
     simp only [Act.put, List.setIfInBounds_toArray, List.set_cons_zero, List.set_cons_succ]
     refine lex_skip (i := 19) rfl (by kernel_rfl) (by kernel_rfl) (by kernel_rfl) (by rfl) (HS.out _ D1.out) ?_
     simp only [Act.put, List.setIfInBounds_toArray, List.set_cons_zero, List.set_cons_succ]
     refine lex_skip (i := 20) rfl (by kernel_rfl) (by kernel_rfl) (by kernel_rfl) (by rfl) (HS.out _ D1.out) ?_
     simp only [Act.put, List.setIfInBounds_toArray, List.set_cons_zero, List.set_cons_succ]
     refine lex_skip (i := 21) rfl (by kernel_rfl) (by kernel_rfl) (by kernel_rfl) (by rfl) (HS.out _ D1.out) ?_
     simp only [Act.put, List.setIfInBounds_toArray, List.set_cons_zero, List.set_cons_succ]
     refine lex_take (i := 22) (v := ?_) rfl (by kernel_rfl) (by kernel_rfl) (by kernel_rfl) (by rfl) (HS.out _ D1.out) ?_ ?_
     rotate_left
     ·((intro W hW; obtain ⟨k0, k1, k2, k3⟩ := hW; go_simp) <;> with_reducible rfl)
     simp only [Act.put, List.setIfInBounds_toArray, List.set_cons_zero, List.set_cons_succ]
     refine lex_take (i := 23) (v := ?_) rfl (by kernel_rfl) (by kernel_rfl) (by kernel_rfl) (by rfl) (HS.out _ D1.out) ?_ ?_
     rotate_left
     ·((intro W hW; obtain ⟨k0, k1, k2, k3⟩ := hW; go_simp) <;> with_reducible rfl)
     simp only [Act.put, List.setIfInBounds_toArray, List.set_cons_zero, List.set_cons_succ]
     refine lex_done (by kernel_rfl) ?_
     have HBN := Lib.hid (bmore HB.out D1.out)
     clear D1 D0 HS HH
     go_wp2_with fail
     go_roundw
     case rel => exact ⟨i + 1, by go_num, by omega, HBN.out⟩
     case measure => simp [intOf]; omega
    ·have hp : i - 1 < F.length := by omega
     obtain ⟨p0, p1, p2, p3⟩ := fcs_at F (i - 1) hp
     have y0 := bcellAt hb (qf _ _ p0)
     have y1 := bcellAt hb (qf _ _ p1)
     have y2 := bcellAt hb (qf _ _ p2)
     have y3 := bcellAt hb (qf _ _ p3)
     simp only [← Nat.add_assoc] at y1 y2 y3
     obtain ⟨cv, hcv⟩ : ∃ cv, cv = cmpF (F[i - 1]) F[i] := ⟨_, rfl⟩
     have hneg : cv < 0 := by
      obtain ⟨m, rfl⟩ : ∃ m, i = m + 1 := ⟨i - 1, by omega⟩
      rw [hcv]
      exact isAll_lt HFA.out hlt
     have HCV := Lib.hid hcv
     have h1i : (1 : Int) ≤ (i : Int) := by omega
     have hgi : decide ((0 : Int) < (i : Int)) = true := decide_eq_true (by omega)
     have hgj : decide (0 < i) = true := decide_eq_true (by omega)
     have hw1 : IntKind.i64.wrap ((i : Int) - 1) = (i : Int) - 1 := IntWalk.i64_in _ (by omega)
     have hw2 : (0 : Int) ≤ (i : Int) - 1 := by omega
     have hw3 : (i : Int) - 1 < (F.length : Int) := by omega
     have hw4 : ((i : Int) - 1).toNat = i - 1 := by omega
     have hge : decide ((0 : Int) ≤ cv) = false := decide_eq_false (by omega)
     have HH := Lib.hid HX.out
     clear qf g0 g1 g2 g3 p0 p1 p2 p3 hb HX hcv
     generalize F[i - 1] = y at *
     generalize F[i] = x at *
     have CM := Lib.hid (fun (W : World) => (show Calls Tryz.prog 27 #[.agg (fcA y), .agg (fcA x)] W fun e w' => e = .returned (.int .i64 cv) ∧ Below W.heap.size W w' from (by rw [HCV.out]; exact (cmpF_any y x W).mono fun e w' h => ⟨h.1, h.2.below⟩)))
     obtain ⟨xk, xw, xc, xs⟩ := x
     obtain ⟨yk, yw, yc, ys⟩ := y
     simp only [fcA] at *
     have HKP := Lib.hid (fun (V : World) (hb : Below wr.heap.size wr V) => (⟨bcellAt hb x0, bcellAt hb x1, bcellAt hb x2, bcellAt hb x3, bcellAt hb y0, bcellAt hb y1, bcellAt hb y2, bcellAt hb y3⟩ : V.cell? ⟨fb, fo' + i * 4, none⟩ = some (.int .i64 xk) ∧ V.cell? ⟨fb, fo' + i * 4 + 1, none⟩ = some (.int .i64 xw) ∧ V.cell? ⟨fb, fo' + i * 4 + 2, none⟩ = some (.int .u64 xc) ∧ V.cell? ⟨fb, fo' + i * 4 + 3, none⟩ = some (.string xs) ∧ V.cell? ⟨fb, fo' + (i - 1) * 4, none⟩ = some (.int .i64 yk) ∧ V.cell? ⟨fb, fo' + (i - 1) * 4 + 1, none⟩ = some (.int .i64 yw) ∧ V.cell? ⟨fb, fo' + (i - 1) * 4 + 2, none⟩ = some (.int .u64 yc) ∧ V.cell? ⟨fb, fo' + (i - 1) * 4 + 3, none⟩ = some (.string ys)))
     go_upto_region 10 with fail
     clear x0 x1 x2 x3 y0 y1 y2 y3
     go_region_held3 (fun V => V.cell? ⟨fb, fo' + i * 4, none⟩ = some (.int .i64 xk) ∧ V.cell? ⟨fb, fo' + i * 4 + 1, none⟩ = some (.int .i64 xw) ∧ V.cell? ⟨fb, fo' + i * 4 + 2, none⟩ = some (.int .u64 xc) ∧ V.cell? ⟨fb, fo' + i * 4 + 3, none⟩ = some (.string xs) ∧ V.cell? ⟨fb, fo' + (i - 1) * 4, none⟩ = some (.int .i64 yk) ∧ V.cell? ⟨fb, fo' + (i - 1) * 4 + 1, none⟩ = some (.int .i64 yw) ∧ V.cell? ⟨fb, fo' + (i - 1) * 4 + 2, none⟩ = some (.int .u64 yc) ∧ V.cell? ⟨fb, fo' + (i - 1) * 4 + 3, none⟩ = some (.string ys)) ((refine HKP.out _ ?_; with_reducible (first | exact d12 | exact d11 | exact bd _ | exact bdn _ _)))
      ((first
       | ((with_reducible refine (HH.out _ (by first | exact bd _ | exact bdn _ _)).mono ?_); rintro e wa ⟨rfl, ua⟩; have d11 : Below wr.heap.size wr wa := (by first | exact bmore (bd _) ua | exact bmore (bdn _ _) ua))
       | ((with_reducible refine (CM.out _).mono ?_); rintro e wb ⟨rfl, ub⟩; have d12 : Below wr.heap.size wr wb := bmore d11 ub)))
     have HBN := Lib.hid (bmore HB.out d12)
     clear d11 ua d12 ub HKP HH CM
     go_wp2_with fail
     go_roundw
     case rel => exact ⟨i + 1, by go_num, by omega, HBN.out⟩
     case measure => simp [intOf]; omega
   ·obtain rfl : i = F.length := by omega
    have UN := Lib.hid (bmore U6.out hb)
    have HPN := Lib.hid (HP6.out.below hb)
    have HRN := Lib.hid (HR6.out.below hb)
    have HFN := Lib.hid (HF6.out.below hb)
    clear HB hb hlt hi HP6 HR6 HF6 HG6 U6 HQF HSUB
    generalize wr = wn at *
    have hkb := heap_alloc_new wn (.cells #[.pointer (some ⟨ra, 0, none⟩), .slice none 0 0] RKT)
    have HRK : Hid (IsRK (wn.alloc (.cells #[.pointer (some ⟨ra, 0, none⟩), .slice none 0 0] RKT)) wn.heap.size wn.heap.size ra (.slice none 0 0) []) := Lib.hid ⟨hkb, Nat.le_refl _, World.ownsRow_nil _ _ _ 1⟩
    have HBK := Lib.hid (bZ wn (.cells #[.pointer (some ⟨ra, 0, none⟩), .slice none 0 0] RKT))
    clear hkb
    obtain ⟨ta', tc', hv2, htx⟩ := HT.out.at
    simp only [Value.slice.injEq, true_and] at hv2
    obtain ⟨rfl, rfl⟩ := hv2
    have HTX := Lib.hid htx
    clear htx
    go_wp2_with fail
    go_loopw [14] (fun v14 wr => ∃ (i : Nat) (gv : Value), v14 = .int .i64 (i : Int) ∧ i ≤ ts.length ∧ IsRK wr wn.heap.size wn.heap.size ra gv (addsG q [] (ts.take i)) ∧ Below wn.heap.size wn wr) (fun v _ => ts.length - (intOf v).toNat)
    case atStart => exact ⟨0, .slice none 0 0, rfl, Nat.zero_le _, HRK.out, HBK.out⟩
    case round =>
     obtain ⟨i, gv, rfl, hi, hrk, hb⟩ := hrel
     have HB := Lib.hid hb
     have HRI := Lib.hid hrk
     clear hrk
     by_cases hlt : i < ts.length
     ·obtain ⟨tb, to_, rfl, qt⟩ := HTX.out (by omega)
      have c0 := bcellAt (bmore UN.out hb) (qt i _ (ints_at ts i hlt))
      have hi0 : (0 : Int) ≤ (i : Int) := by omega
      have hi1 : (i : Int) < (ts.length : Int) := by omega
      have hgl : (addsG q [] (ts.take i)).length ≤ 65536 := by have h9 := addsG_le q (ts.take i) []; rw [List.length_take] at h9; simp at h9; omega
      have AD := Lib.hid (radd_any (HRN.out.below hb) HRI.out hgl ts[i])
      have HSN : Hid (addsG q [] (ts.take (i + 1)) = addG q (addsG q [] (ts.take i)) ts[i]) := Lib.hid (by rw [List.take_add_one, List.getElem?_eq_getElem hlt, Option.toList_some, addsG_snoc])
      generalize ts[i] = x at *
      clear qt hb hgl
      go_wp2_with fail
      refine AD.out.mono ?_
      rintro e w8 ⟨⟨n8, rfl⟩, gv8, hrk8, hrg8, _⟩
      have HB8 := Lib.hid (HB.out.trans hrg8.below)
      have HRK8 : Hid (IsRK w8 wn.heap.size wn.heap.size ra gv8 (addsG q [] (ts.take (i + 1)))) := Lib.hid (by rw [HSN.out]; exact hrk8)
      clear hrk8 hrg8 AD HSN HRI HB c0
      go_wp2_with fail
      go_roundw
      case rel => exact ⟨i + 1, gv8, by go_num, by omega, HRK8.out, HB8.out⟩
      case measure => simp [intOf]; omega
     ·obtain rfl : i = ts.length := by omega
      have HRF : Hid (IsRK wr wn.heap.size wn.heap.size ra gv (addsG q [] ts)) := Lib.hid (by have h9 := HRI.out; rwa [List.take_length] at h9)
      have hgl : (addsG q [] ts).length ≤ 65536 := by have h9 := addsG_le q ts []; simp at h9; omega
      have SE := Lib.hid (rkseen_any (HRN.out.below hb) HRF.out addsG_ok hgl (s := seenS q (addsG q [] ts)) seenS_iff)
      have HPR := Lib.hid (HPN.out.below hb)
      have HFR := Lib.hid (HFN.out.below hb)
      have UR := Lib.hid (bmore UN.out hb)
      have HOQ := Lib.hid HPN.out.ok
      clear hlt hi HRI HRF HB hb hgl HRN HPN HFN
      go_wp2_with fail
      refine SE.out.mono ?_
      rintro e w8 ⟨v8, rfl, hrow8, u8⟩
      have A3 := Lib.hid (all_any (HPR.out.below u8) (HK.out.below (bmore UR.out u8)) (by omega) (row_of_own hrow8) (seenL_i64 (by omega) _ (seen_in HOQ.out addsG_ok)) (Nat.le_trans (seenL_len _ _) (by omega)))
      have HF8 := Lib.hid (HFR.out.below u8)
      have U8 := Lib.hid (bmore UR.out u8)
      obtain ⟨sa, sc, rfl⟩ := (row_of_own hrow8).shape
      clear hrow8 u8 SE HPR HFR UR
      generalize hsl : (seenL q (seenS q (addsG q [] ts))).length = sl at *
      go_wp2_with fail
      refine A3.out.mono ?_
      rintro e w9 ⟨v9, G3, rfl, hrow9, hG3, u9⟩
      obtain rfl := isAll_again HOQ.out addsG_ok HFA.out hG3
      have SM := Lib.hid (rsame12_any (row_of_own hrow9) (HF8.out.below u9))
      rw [decide_eq_true rfl] at SM
      have U9 := Lib.hid (bmore U8.out u9)
      obtain ⟨qa, qc, rfl⟩ := (row_of_own hrow9).shape
      clear hrow9 hG3 u9 A3 HF8 U8
      go_wp2_with fail
      refine SM.out.mono ?_
      rintro e w10 ⟨rfl, u10⟩
      have U10 := Lib.hid (bmore U9.out u10)
      clear u10 SM
      go_wp2_with fail
      refine (LV.out _ U10.out).mono ?_
      rintro e w11 ⟨rfl, u11⟩
      have HFF := Lib.hid (bmore U10.out u11)
      clear u11
      go_wp2_with fail
      go_returns
      exact ⟨rfl, HFF.out⟩
end Go.Proofs.YtjmcaceegfdkkaaGreatDoor
