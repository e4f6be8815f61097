/-
  slices.Compact at facts: the walk.
-/
import Derived.Deep.DeepCutAuto
import Derived.Test.YtjmcaceegfdkkaaGreatDoorQcFCpm
namespace Go.Proofs.YtjmcaceegfdkkaaGreatDoor
open Go.RowKit Go.Maps Go.Lib
set_option linter.unusedVariables false
theorem hne_fc (x y : Fc) (W : World) : (binOp .neq FacT (.agg (fcA x)) (.agg (fcA y))).run Tryz.prog W = .ok (.bool (!decide (x = y))) W := by
 have u3 := Tryz.underlying3
 have u4 := Tryz.underlying24
 have u5 := Tryz.underlying9
 have a3 := Tryz.isAgg3
 have z3 := Tryz.sizeOf3
 have a4 := Tryz.isAgg24
 have z4 := Tryz.sizeOf24
 have a5 := Tryz.isAgg9
 have z5 := Tryz.sizeOf9
 have hS : Tryz.prog.underlying FacT = some (.struct (Tryz.prog.fieldsOf FacT)) := by kernel_rfl
 have hp : Tryz.prog.stoodInHeld FacT = false := by kernel_rfl
 rw [show decide (x = y) = eqF x y from by rw [Bool.eq_iff_iff, eqF_iff, decide_eq_true_eq]]
 obtain ⟨k, ww, c, s⟩ := x
 obtain ⟨k', w', c', s'⟩ := y
 simp only [fcA, eqF]
 rw [run_neq_struct, show (10000 : Nat) = 9999 + 1 from rfl, run_equalIn_agg W 9999 FacT _ _ hS hp]
 simp only [Program.fieldsOf, Tryz.underlying45]
 go_simp
 by_cases h1 : k = k' <;> by_cases h2 : ww = w' <;> by_cases h3 : c = c' <;> by_cases h4 : s.toList = s'.toList <;> simp [h1, h2, h3, h4]
theorem own_cell4 {w : World} {base g n cap : Nat} {l : List Fc} (h : w.ownsRow base FacT 4 (.slice (some ⟨g, 0, none⟩) n cap) n (fcs l)) {j : Nat} {u : Value} (hu : (fcs l)[j]? = some u) : w.cell? ⟨g, j, none⟩ = some u := by
 have hj := (List.getElem?_eq_some_iff.1 hu).1
 rw [World.ownsRow.cellAt h j (by rw [← h.1]; exact hj), hu]
theorem own_cells4 {w : World} {base g n cap : Nat} {l : List Fc} (h : w.ownsRow base FacT 4 (.slice (some ⟨g, 0, none⟩) n cap) n (fcs l)) {j : Nat} {x : Fc} (hx : l[j]? = some x) : w.cell? ⟨g, j * 4, none⟩ = some (.int .i64 x.kind) ∧ w.cell? ⟨g, j * 4 + 1, none⟩ = some (.int .i64 x.who) ∧ w.cell? ⟨g, j * 4 + 2, none⟩ = some (.int .u64 x.c) ∧ w.cell? ⟨g, j * 4 + 3, none⟩ = some (.string x.text) := by
 obtain ⟨hj, rfl⟩ := List.getElem?_eq_some_iff.1 hx
 obtain ⟨a0, a1, a2, a3⟩ := fcs_at l j hj
 exact ⟨own_cell4 h a0, own_cell4 h a1, own_cell4 h a2, own_cell4 h a3⟩
theorem own_frozen4 {w : World} {base g n cap : Nat} {l : List Value} (h : w.ownsRow base FacT 4 (.slice (some ⟨g, 0, none⟩) n cap) n l) (j : Nat) : w.frozen? ⟨g, j, none⟩ = false := by
 rcases h.2 with ⟨e0, _⟩ | ⟨g', cap', cur, e', _, hg, _⟩
 ·simp at e0
 ·simp only [Value.slice.injEq, Option.some.injEq, Addr.mk.injEq, true_and, and_true] at e'
  obtain ⟨rfl, rfl⟩ := e'
  exact frozenB hg
theorem fcs_takeF (l : List Fc) (k : Nat) : (fcs l).take (k * 4) = fcs (l.take k) := by
 induction l generalizing k with
 | nil => simp [fcs]
 | cons m l ih =>
  cases k with
  | zero => rfl
  | succ k =>
   show (fcC m ++ fcs l).take ((k + 1) * 4) = fcC m ++ fcs (l.take k)
   rw [List.take_append, ← ih k]
   have : (fcC m).length = 4 := rfl
   rw [this, show (k + 1) * 4 - 4 = k * 4 from by omega, List.take_of_length_le (by rw [this]; omega)]
theorem own_clear {w : World} {base g n cap k : Nat} {l : List Fc} (h : w.ownsRow base FacT 4 (.slice (some ⟨g, 0, none⟩) n cap) n (fcs l)) (hk : k ≤ n) (c : Nat) : ∃ w', (∀ ty, (Builtin.clear_ #[FacsT] ty #[.slice (some ⟨g, k * 4, none⟩) (n - k) c]).run Tryz.prog w = .ok (.tuple #[]) w') ∧ Below base w w' ∧ w'.ownsRow base FacT 4 (.slice (some ⟨g, 0, none⟩) k cap) k (fcs (l.take k)) := by
 have hl : l.length = n := by have := h.1; rw [fcs_length] at this; omega
 rcases h.2 with ⟨e0, _⟩ | ⟨g', cap', cur, e', hb, hg, hle, hm, hc, ht⟩
 ·simp at e0
 ·simp only [Value.slice.injEq, Option.some.injEq, Addr.mk.injEq, true_and, and_true] at e'
  obtain ⟨rfl, rfl⟩ := e'
  obtain ⟨w', cur', h1, h2, h3, h4, h5⟩ := clear_fc w g k (n - k) c hg (by rw [hc]; omega)
  refine ⟨w', h1, h2 _ hb, by rw [fcs_length, List.length_take]; omega, .inr ⟨g, cap, cur', rfl, hb, h3, Nat.le_trans hk hle, hm, by rw [h4, hc], ?_⟩⟩
  rw [h5, ← fcs_takeF, ← ht, List.take_take, show min (k * 4) (n * 4) = k * 4 from by omega]
theorem take_set (l : List Fc) (k : Nat) (x : Fc) (h : k < l.length) : (l.set k x).take (k + 1) = l.take k ++ [x] := by
 rw [List.take_add_one, List.getElem?_set_self h, List.take_set_of_le (Nat.le_refl _)]
 rfl
theorem cptF_small {l : List Fc} (h : l.length < 2) : cptF l = l := by
 match l, h with
 | [], _ => rfl
 | [x], _ => rfl
section
variable {w : World} {base : Nat} {v : Value} {l : List Fc}
set_option maxRecDepth 100000 in
set_option maxHeartbeats 3200000 in
theorem compact_small (h : w.ownsRow base FacT 4 v l.length (fcs l)) (h2 : l.length < 2) : Calls Tryz.prog 76 #[v] w fun e w' => ∃ v', e = .returned v' ∧ w'.ownsRow base FacT 4 v' (cptF l).length (fcs (cptF l)) ∧ Below base w w' := by
 rw [cptF_small h2]
 have HO := Lib.hid h
 obtain ⟨a, c, rfl⟩ := (row_of_own h).shape
 have hn2 : (l.length : Int) < 2 := by omega
 clear h h2
 go_enter Tryz.func76, Tryz.ntmps76
 go_wp2_with fail
 go_returns
 exact ⟨_, rfl, HO.out, Below.refl _ _⟩
set_option maxRecDepth 100000 in
set_option maxHeartbeats 12800000 in
theorem compact_long (h : w.ownsRow base FacT 4 v l.length (fcs l)) (hlen : l.length ≤ 100000) (h2 : 2 ≤ l.length) : Calls Tryz.prog 76 #[v] w fun e w' => ∃ v', e = .returned v' ∧ w'.ownsRow base FacT 4 v' (cptF l).length (fcs (cptF l)) ∧ Below base w w' := by
 obtain ⟨g, cap, rfl, hB, hgl, hle⟩ : ∃ g cap, v = .slice (some ⟨g, 0, none⟩) l.length cap ∧ base ≤ g ∧ g < w.heap.size ∧ l.length ≤ cap := by
  rcases h.2 with ⟨_, e⟩ | ⟨g, cap, cur, e, hb, hg, hle, _⟩
  ·omega
  ·exact ⟨g, cap, e, hb, (Array.getElem?_eq_some_iff.1 hg).1, hle⟩
 have HO := Lib.hid h
 have HB := Lib.hid hB
 have HG := Lib.hid hgl
 have HLE := Lib.hid hle
 have HL := Lib.hid hlen
 have H2 := Lib.hid h2
 have hn2 : decide ((l.length : Int) < 2) = false := decide_eq_false (by omega)
 clear h hB hgl hle hlen h2
 go_enter Tryz.func76, Tryz.ntmps76
 go_wp2_with fail
 go_loopw [3] (fun v3 wr => ∃ (i m0 : Nat), v3 = .int .i64 (i : Int) ∧ 1 ≤ i ∧ i ≤ l.length ∧ cptF (l.take i) = l.take i ∧ wr = w.drewN m0) (fun v _ => l.length - (intOf v).toNat)
 case atStart => exact ⟨1, 0, rfl, Nat.le_refl _, by have := H2.out; omega, cptF_small (by rw [List.length_take]; omega), rfl⟩
 case round =>
  obtain ⟨i, m0, rfl, hi1, hin, hcp, rfl⟩ := hrel
  have HCP := Lib.hid hcp
  clear hcp
  have hl4 : l.length ≤ 100000 := HL.out
  by_cases hlt : i < l.length
  ·have hjl : i - 1 < l.length := by omega
   have HOW := Lib.hid (own_hold HO.out (Hold.below (bdn w m0)))
   obtain ⟨x0, x1, x2, x3⟩ := own_cells4 HOW.out (List.getElem?_eq_getElem hlt)
   obtain ⟨y0, y1, y2, y3⟩ := own_cells4 HOW.out (List.getElem?_eq_getElem hjl)
   have HE := Lib.hid (fun W => heq_fc l[i] l[i - 1] W)
   have HCT := Lib.hid (cptF_take (l := l) (i := i) (by omega) hlt)
   have HTK : Hid (l.take (i + 1) = l.take i ++ [l[i]]) := Lib.hid (by rw [List.take_add_one, List.getElem?_eq_getElem hlt, Option.toList_some])
   generalize l[i] = x at *
   generalize l[i - 1] = y at *
   have hi0 : (0 : Int) ≤ (i : Int) := by omega
   have hi2 : (i : Int) < (l.length : Int) := by omega
   have hii : (1 : Int) ≤ (i : Int) := by omega
   by_cases hxy : x = y
   case neg =>
    have he : ∀ W : World, (binOp .eql FacT (.agg (fcA x)) (.agg (fcA y))).run Tryz.prog W = .ok (.bool false) W := fun W => by rw [HE.out W, decide_eq_false hxy]
    have HNX := Lib.hid hxy
    clear hxy HE
    obtain ⟨k1, f1, c1, s1⟩ := x
    obtain ⟨k2, f2, c2, s2⟩ := y
    simp only [fcA] at *
    generalize hwd : w.drewN m0 = wd at *
    have HWD := Lib.hid hwd
    clear hwd
    go_wp2_with fail
    go_quiet (fail)
    go_wp2_with fail
    go_roundw
    case rel =>
     refine ⟨i + 1, _, by go_num, by omega, by omega, ?_, by rw [← HWD.out]; first | rfl | rw [World.drewN_drewN]⟩
     rw [HCT.out, if_neg (fun e => HNX.out e.symm), HCP.out, HTK.out]
    case measure => simp [intOf]; omega
   case pos =>
    have he : ∀ W : World, (binOp .eql FacT (.agg (fcA x)) (.agg (fcA y))).run Tryz.prog W = .ok (.bool true) W := fun W => by rw [HE.out W, decide_eq_true hxy]
    have HC0 := Lib.hid (HCT.out.trans (if_pos hxy.symm))
    clear hxy HE HCT
    obtain ⟨k1, f1, c1, s1⟩ := x
    obtain ⟨k2, f2, c2, s2⟩ := y
    simp only [fcA] at *
    generalize hwd : w.drewN m0 = wd at *
    have HWD := Lib.hid hwd
    clear hwd
    obtain ⟨r, hr⟩ : ∃ r, r = l.length - i := ⟨_, rfl⟩
    have hs1 : ∀ W : World, (Instr.slice FacsT (.slice (some ⟨g, 0, none⟩) l.length cap) (some (.int .i64 (i : Int))) none none).run Tryz.prog W = .ok (.slice (some ⟨g, i * 4, none⟩) r (cap - i)) W := fun W => by rw [hr]; exact fac_drop hin (by have := HLE.out; omega) W
    have HR : Hid (r = l.length - i) := Lib.hid hr
    clear hr
    generalize cap - i = cr at *
    go_wp2_with fail
    go_quiet (fail)
    go_wp2_with fail
    have HOS := Lib.hid (own_hold HOW.out (Hold.below (bdn wd nq)))
    have HBS := Lib.hid (show Below base w (wd.drewN nq) from by rw [← HWD.out]; exact ((bdn w m0).mono (Nat.le_trans HB.out (Nat.le_of_lt HG.out))).trans ((bdn _ nq).mono (Nat.le_trans HB.out (Nat.le_of_lt HG.out))))
    clear x0 x1 x2 x3 y0 y1 y2 y3 he
    go_loopw [3, 5] (fun v3 v5 wr => ∃ (k q : Nat) (mm : List Fc), v3 = .int .i64 (k : Int) ∧ v5 = .int .i64 (q : Int) ∧ 1 ≤ q ∧ i + q ≤ l.length ∧ k + 1 ≤ i + q ∧ mm.length = l.length ∧ wr.ownsRow base FacT 4 (.slice (some ⟨g, 0, none⟩) l.length cap) l.length (fcs mm) ∧ mm.take k = cptF (l.take (i + q)) ∧ (cptF (l.take (i + q))).length = k ∧ (∀ j, i + q ≤ j + 1 → mm[j]? = l[j]?) ∧ Below base w wr) (fun _ v _ => r - (intOf v).toNat)
    case atStart =>
     refine ⟨i, 1, l, rfl, rfl, Nat.le_refl _, by omega, by omega, rfl, HOS.out, ?_, ?_, fun _ _ => rfl, HBS.out⟩
     ·rw [HC0.out, HCP.out]
     ·rw [HC0.out, HCP.out, List.length_take]; omega
    case round =>
     obtain ⟨k, q, mm, rfl, rfl, hq1, hqn, hkq, hml, hrow, htk, hck, hsame, hb⟩ := hrel
     have HRW := Lib.hid hrow
     have HTK2 := Lib.hid htk
     have HCK := Lib.hid hck
     have HSM := Lib.hid hsame
     have HBW := Lib.hid hb
     have HML := Lib.hid hml
     have HBZ := Lib.hid (Nat.le_trans (Nat.le_trans HB.out (Nat.le_of_lt HG.out)) hb.size)
     clear htk hck hsame hb hml hrow HOS HBS HC0 HTK
     have hrr : r = l.length - i := HR.out
     by_cases hqr : q < r
     ·have hlt2 : i + q < l.length := by omega
      have hx := (HSM.out (i + q) (by omega)).trans (List.getElem?_eq_getElem hlt2)
      have hy := (HSM.out (i + q - 1) (by omega)).trans (List.getElem?_eq_getElem (show i + q - 1 < l.length by omega))
      have HCT2 := Lib.hid (cptF_take (l := l) (i := i + q) (by omega) hlt2)
      have HQ := Lib.hid (fun W => hne_fc l[i + q] l[i + q - 1] W)
      generalize l[i + q] = x at *
      generalize l[i + q - 1] = y at *
      obtain ⟨x0, x1, x2, x3⟩ := own_cells4 HRW.out hx
      obtain ⟨y0, y1, y2, y3⟩ := own_cells4 HRW.out hy
      have e1 : (i + q) * 4 = i * 4 + q * 4 := by omega
      have e2 : (i + q - 1) * 4 = i * 4 + (q - 1) * 4 := by omega
      rw [e1] at x0 x1 x2 x3
      rw [e2] at y0 y1 y2 y3
      have HHX := Lib.hid hx
      clear e1 e2 hx hy
      have hq0 : (0 : Int) ≤ (q : Int) := by omega
      have hq2 : (q : Int) < (r : Int) := by omega
      have hq3 : (1 : Int) ≤ (q : Int) := by omega
      have HRR := Lib.hid hrr
      clear hrr
      by_cases hxy2 : x = y
      ·have he : ∀ W : World, (binOp .neq FacT (.agg (fcA x)) (.agg (fcA y))).run Tryz.prog W = .ok (.bool false) W := fun W => by rw [HQ.out W, decide_eq_true hxy2]; rfl
       have HC3 := Lib.hid (HCT2.out.trans (if_pos hxy2.symm))
       clear hxy2 HQ HCT2
       obtain ⟨k3, f3, c3, s3⟩ := x
       obtain ⟨k4, f4, c4, s4⟩ := y
       simp only [fcA] at *
       go_wp2_with fail
       go_quiet (fail)
       go_wp2_with fail
       go_roundw
       case rel =>
        refine ⟨k, q + 1, mm, rfl, by go_num, by omega, by omega, by omega, HML.out, own_hold HRW.out (Hold.below (bdn _ _)), ?_, ?_, fun j hj => HSM.out j (by omega), HBW.out.trans ((bdn _ _).mono HBZ.out)⟩
        ·rw [HTK2.out]; exact HC3.out.symm
        ·rw [show i + (q + 1) = i + q + 1 from rfl, HC3.out]; exact HCK.out
       case measure => simp [intOf]; omega
      ·have he : ∀ W : World, (binOp .neq FacT (.agg (fcA x)) (.agg (fcA y))).run Tryz.prog W = .ok (.bool true) W := fun W => by rw [HQ.out W, decide_eq_false hxy2]; rfl
       have HC3 := Lib.hid (HCT2.out.trans (if_neg (fun e => hxy2 e.symm)))
       have hkl : k < mm.length := by have := HML.out; omega
       obtain ⟨z0, z1, z2, z3⟩ := own_cells4 HRW.out (List.getElem?_eq_getElem hkl)
       have f0 := own_frozen4 HRW.out (k * 4)
       have f1' := own_frozen4 HRW.out (k * 4 + 1)
       have f2' := own_frozen4 HRW.out (k * 4 + 2)
       have f3' := own_frozen4 HRW.out (k * 4 + 3)
       have hk0 : (0 : Int) ≤ (k : Int) := by omega
       have hk2 : (k : Int) < (l.length : Int) := by have := HML.out; omega
       have HTS := Lib.hid (take_set mm k x hkl)
       have HOX := Lib.hid (fun (W : World) (hW : W.ownsRow base FacT 4 (.slice (some ⟨g, 0, none⟩) l.length cap) l.length (fcs mm)) => own_set4 hW (show k < l.length by have := HML.out; omega) x)
       have HOB := Lib.hid (fun (W : World) (hW : Below base w W) => set4_below hW HB.out (k * 4) x)
       have HST := Lib.hid (fun j (hj : i + (q + 1) ≤ j + 1) => (List.getElem?_set_ne (l := mm) (a := x) (show k ≠ j by omega)).trans (HSM.out j (by omega)))
       have HSL := Lib.hid (show (mm.set k x).length = l.length from by rw [List.length_set]; exact HML.out)
       generalize mm[k] = z at *
       clear hxy2 HQ HCT2 hkl
       generalize hm2 : mm.set k x = mm2 at *
       clear hm2
       obtain ⟨k3, f3, c3, s3⟩ := x
       obtain ⟨k4, f4, c4, s4⟩ := y
       obtain ⟨k5, f5, c5, s5⟩ := z
       simp only [fcA, set4] at *
       go_wp2_with fail
       go_quiet (fail)
       go_wp2_with fail
       go_roundw
       case rel =>
        refine ⟨k + 1, q + 1, mm2, by go_num, by go_num, by omega, by omega, by omega, HSL.out, HOX.out _ (own_hold HRW.out (Hold.below (bdn _ _))), ?_, ?_, HST.out, HOB.out _ (HBW.out.trans ((bdn _ _).mono HBZ.out))⟩
        ·rw [HTS.out, HTK2.out]; exact HC3.out.symm
        ·rw [show i + (q + 1) = i + q + 1 from rfl, HC3.out, List.length_append, HCK.out]; rfl
       case measure => simp [intOf]; omega
     ·have hqe : i + q = l.length := by omega
      have HTL := Lib.hid (HTK2.out.trans (by rw [hqe, List.take_length]))
      have HKL := Lib.hid (show (cptF l).length = k from by have := HCK.out; rwa [hqe, List.take_length] at this)
      have hkn : k ≤ l.length := by omega
      have hkc : k < cap := by have := HLE.out; omega
      have hs2 : ∀ W : World, (Instr.slice FacsT (.slice (some ⟨g, 0, none⟩) l.length cap) (some (.int .i64 (k : Int))) none none).run Tryz.prog W = .ok (.slice (some ⟨g, k * 4, none⟩) (l.length - k) (cap - k)) W := fun W => fac_drop hkn hkc W
      have hs3 : ∀ W : World, (Instr.slice FacsT (.slice (some ⟨g, 0, none⟩) l.length cap) none (some (.int .i64 (k : Int))) none).run Tryz.prog W = .ok (.slice (some ⟨g, 0, none⟩) k cap) W := fun W => fac_take (Nat.le_of_lt hkc) W
      obtain ⟨w', hcl, hbl, hol⟩ := own_clear HRW.out hkn (cap - k)
      have HBL := Lib.hid (HBW.out.trans hbl)
      have HOL := Lib.hid hol
      have hq2 : decide ((q : Int) < (r : Int)) = false := decide_eq_false (by omega)
      have hqeq : q = r := by omega
      subst hqeq
      clear hbl hol hs1 hqr hqe hq2
      generalize l.length - k = r2 at *
      generalize cap - k = c2 at *
      go_wp2_with fail
      go_returns
      refine ⟨_, rfl, ?_, HBL.out⟩
      rw [HKL.out, ← HTL.out]
      exact HOL.out
  ·obtain rfl : i = l.length := by omega
   have hi2 : decide ((l.length : Int) < (l.length : Int)) = false := decide_eq_false (by omega)
   rw [List.take_length] at HCP
   have HO2 := Lib.hid (own_hold HO.out (Hold.below (bdn w m0)))
   have HBL := Lib.hid (show Below base w (w.drewN m0) from (bdn w m0).mono (Nat.le_trans HB.out (Nat.le_of_lt HG.out)))
   go_wp2_with fail
   go_returns
   exact ⟨_, rfl, by rw [HCP.out]; exact HO2.out, HBL.out⟩
end
end Go.Proofs.YtjmcaceegfdkkaaGreatDoor
