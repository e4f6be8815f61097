/-
  Read in memory, whatever the term.
  The law's alike: two pools that are the same plain one.
  The two pools beside each other.
  Of in memory.
-/
import Derived.Deep.DeepCutAuto
import Derived.Test.YtjmcaceegfdkkaaGreatDoorQbLRdB
import Derived.Test.YtjmcaceegfdkkaaGreatDoorQbTCmp
import Derived.Test.YtjmcaceegfdkkaaGreatDoorQbTKey
import Derived.Test.YtjmcaceegfdkkaaGreatDoorQbTLacks
import Derived.Test.YtjmcaceegfdkkaaGreatDoorQbTClone
namespace Go.Proofs.YtjmcaceegfdkkaaGreatDoor
open Go.RowKit Go.Maps
set_option linter.unusedVariables false
section
variable {w : World} {pv : Value} {p : Pl}
theorem read_any (h : Nodes w pv p) (hok : Ok p) (hl : LaidK w) (t : Int) : Calls Tryz.prog 37 #[pv, .int .i64 t] w fun e w' => e = .returned (ltV (rdP p t)) ∧ Below w.heap.size w w' := by
  by_cases h8 : (atP p t).1.kind = 8 ∨ (atP p t).1.kind = 9
  · exact read_prom h hok hl t h8
  by_cases h7 : (atP p t).1.kind = 7 ∨ (atP p t).1.kind = 4
  · by_cases d2 : ahP p (inrP p t) = dealS
    · exact read_2 h hok hl t h7 d2
    by_cases d3 : ahP p (inrP p t) = abortS
    · exact read_3 h hok hl t h7 d3
    by_cases d4 : ahP p (inrP p t) = resolveS
    · exact read_4 h hok hl t h7 d4
    by_cases d5 : ahP p (inrP p t) = abortedS
    · exact read_5 h hok hl t h7 d5
    by_cases d6 : ahP p (inrP p t) = insteadS
    · exact read_6 h hok hl t h7 d6
    by_cases d7 : ahP p (inrP p t) = fullS
    · exact read_7 h hok hl t h7 d7
    exact read_0 h hok hl t h7 d2 d3 d4 d5 d6 d7
  · exact read_none h hok hl t h8 h7
end
end Go.Proofs.YtjmcaceegfdkkaaGreatDoor
namespace Go.Proofs.YtjmcaceegfdkkaaGreatDoor
open Go.RowKit Go.Maps
set_option linter.unusedVariables false
theorem nok_zero : NdOk zeroM.1 := by
  have z : i64R 0 := i64R_lit (by omega)
  exact ⟨z, z, z, ⟨by decide, by decide⟩, emptyS_le, z, z⟩
theorem atP_nok {p : Pl} (h : ∀ m ∈ p, NdOk m.1) (t : Int) : NdOk (atP p t).1 := by
  unfold atP
  split
  · by_cases hl : t.toNat - 1 < p.length
    · rw [show p.getD (t.toNat - 1) zeroM = p[t.toNat - 1] by simp [List.getD_eq_getElem?_getD, hl]]; exact h _ (List.getElem_mem hl)
    · rw [show p.getD (t.toNat - 1) zeroM = zeroM by simp [List.getD_eq_getElem?_getD, List.getElem?_eq_none (Nat.le_of_not_lt hl)]]; exact nok_zero
  · exact nok_zero
section
variable {w : World} {B a b : Nat} {v : Value} {p : Pl} {B2 a2 : Nat} {vl vs vd : Value}
end
end Go.Proofs.YtjmcaceegfdkkaaGreatDoor
namespace Go.Proofs.YtjmcaceegfdkkaaGreatDoor
open Go.RowKit Go.Maps
set_option linter.unusedVariables false
section
variable {w : World} {B a b : Nat} {v : Value} {p : Pl} {a2 : Nat} {vl vs vd : Value} {q : Pl}
/-- What a Make of the program leaves, of the blocks of another type. -/
theorem Grew.hold (h : IsPool w B a b v p) {p' : Pl} {w' : World} (hg : Grew w B a b v p' w') {T : TypeId} (h1 : T ≠ PoolT) (h2 : T ≠ MadeT) : Hold T w w' := fun k cs hk => by
  obtain ⟨D, hown, _⟩ := h.dict
  obtain ⟨es, clock, hb, _⟩ := hown
  have hk0 := (Array.getElem?_eq_some_iff.1 hk).1
  rw [hg.2.1 k hk0 ?_ ?_ ?_]
  · exact hk
  · rintro rfl
    have h0 := h.lay
    rw [h0] at hk
    simp only [Option.some.injEq, Obj.cells.injEq] at hk
    exact h1 hk.2.1.symm
  · rintro rfl
    rw [hb] at hk
    simp at hk
  · intro e
    obtain ⟨_, cur, hc⟩ := own_type h.row e
    rw [hk] at hc
    simp only [Option.some.injEq, Obj.cells.injEq] at hc
    exact h2 hc.2.1
end
end Go.Proofs.YtjmcaceegfdkkaaGreatDoor
namespace Go.Proofs.YtjmcaceegfdkkaaGreatDoor
open Go.RowKit Go.Maps
set_option linter.unusedVariables false
abbrev FacT : TypeId := 45
abbrev FacsT : TypeId := 33
set_option maxRecDepth 100000 in
set_option maxHeartbeats 1600000 in
theorem fact_any {w : World} {lb : Nat} {c : Int} {s : ByteArray} (h2 : w.cell? ⟨lb, 2, none⟩ = some (.int .u64 c)) (h3 : w.cell? ⟨lb, 3, none⟩ = some (.string s)) (k who : Int) : Calls Tryz.prog 68 #[.int .i64 k, .int .i64 who, .pointer (some ⟨lb, 0, none⟩)] w fun e w' => e = .returned (.agg #[.int .i64 k, .int .i64 who, .int .u64 c, .string s]) ∧ Below w.heap.size w w' := by
  have bz := bZ w (.cells #[.int .i64 0, .int .i64 0, .int .u64 0, .string ⟨#[]⟩] FacT)
  have hz := heap_alloc_new w (.cells #[.int .i64 0, .int .i64 0, .int .u64 0, .string ⟨#[]⟩] FacT)
  have x2 := bcellAt bz h2
  have x3 := bcellAt bz h3
  have z0 := cellB (j := 0) hz rfl
  have z1 := cellB (j := 1) hz rfl
  have z2 := cellB (j := 2) hz rfl
  have z3 := cellB (j := 3) hz rfl
  have f0 := frozenB (j := 0) hz
  have f1 := frozenB (j := 1) hz
  have f2 := frozenB (j := 2) hz
  have f3 := frozenB (j := 3) hz
  have hq := heap_alloc_new w (.cells #[.int .i64 k, .int .i64 who, .int .u64 c, .string s] FacT)
  have q0 := cellB (j := 0) hq rfl
  have q1 := cellB (j := 1) hq rfl
  have q2 := cellB (j := 2) hq rfl
  have q3 := cellB (j := 3) hq rfl
  have HB := Lib.hid (bZ w (.cells #[.int .i64 k, .int .i64 who, .int .u64 c, .string s] FacT))
  clear hz hq bz
  go_enter Tryz.func68, Tryz.ntmps68
  go_wp2_with fail
  refine bodyPost_ret (v := .agg #[.int .i64 k, .int .i64 who, .int .u64 c, .string s]) (by simp [results, Tryz.results68, go_sem, q0, q1, q2, q3]) rfl ⟨rfl, HB.out⟩
/-- A list of facts of the call's own is answered. -/
def FcPost (w : World) (l : List Fc) (e : Ending) (w' : World) : Prop := ∃ v, e = .returned v ∧ w'.ownsRow w.heap.size FacT 4 v l.length (fcs l) ∧ Below w.heap.size w w'
theorem own_made {w : World} {B : Nat} (hB : B ≤ w.heap.size) (l : List Fc) (cs : Array Value) (hc : cs.toList = fcs l) (hl : l.length ≤ 1000) : (w.alloc (.cells cs FacT)).ownsRow B FacT 4 (.slice (some ⟨w.heap.size, 0, none⟩) l.length l.length) l.length (fcs l) :=
  ⟨fcs_length l, .inr ⟨w.heap.size, l.length, cs, rfl, hB, heap_alloc_new _ _, Nat.le_refl _, by unfold maxLen; omega, by
    have : cs.size = (fcs l).length := by rw [← hc]; simp
    rw [this, fcs_length], by rw [← hc, ← fcs_length, ← hc]; simp; exact List.take_of_length_le (by simp)⟩⟩
section
variable {w : World} {pv : Value} {p : Pl}
set_option maxRecDepth 100000 in
set_option maxHeartbeats 6400000 in
theorem of_any (h : Nodes w pv p) (hok : Ok p) (hl : LaidK w) (t : Int) : Calls Tryz.prog 18 #[pv, .int .i64 t] w (FcPost w (ofR p t)) := by
  have RD := Lib.hid (read_any h hok hl t)
  clear h hok hl
  unfold ofR
  have hv : ∃ b, ltV (rdP p t) = .tuple #[.agg (ltA ((rdP p t).getD zeroL)), .bool b] := by
    cases rdP p t with
    | none => exact ⟨_, rfl⟩
    | some l => exact ⟨_, rfl⟩
  obtain ⟨bb, hbb⟩ := hv
  rw [hbb] at RD
  clear hbb
  generalize (rdP p t).getD zeroL = l at *
  obtain ⟨lk, lf, lc, ls, lx⟩ := l
  obtain ⟨fl, hfl⟩ : ∃ fl, fl = ofL ⟨lk, lf, lc, ls, lx⟩ := ⟨_, rfl⟩
  rw [← hfl]
  have HF := Lib.hid hfl
  clear hfl
  simp only [ltA] at *
  go_enter Tryz.func18, Tryz.ntmps18
  go_wp2_with fail
  refine RD.out.mono ?_
  rintro e w1 ⟨rfl, u1⟩
  have b2 := bmore u1 (bZ w1 (.cells #[.int .i64 lk, .int .i64 lf, .int .u64 lc, .string ls, .bool lx] LtT))
  have h2 := heap_alloc_new w1 (.cells #[.int .i64 lk, .int .i64 lf, .int .u64 lc, .string ls, .bool lx] LtT)
  have HB2 := Lib.hid b2
  have HH2 := Lib.hid h2
  clear u1 b2 h2 RD
  have l0 := cellB (j := 0) HH2.out rfl
  have l1 := cellB (j := 1) HH2.out rfl
  have l4 := cellB (j := 4) HH2.out rfl
  go_upto_region 3 with fail
  generalize (w1.alloc (.cells #[.int .i64 lk, .int .i64 lf, .int .u64 lc, .string ls, .bool lx] LtT)) = w2 at *
  generalize w1.heap.size = lb at *
  have HLB := Lib.hid (show lb < w2.heap.size from (Array.getElem?_eq_some_iff.1 HH2.out).1)
  have FA := Lib.hid (fun (W : World) (hb : Below w2.heap.size w2 W) (k who : Int) => fact_any (c := lc) (s := ls) (bcellAt hb (cellB (j := 2) HH2.out rfl)) (bcellAt hb (cellB (j := 3) HH2.out rfl)) k who)
  have b2 := Below.refl w2.heap.size w2
  by_cases hk1 : lk = 1
  · subst hk1
    cases lx with
    | true =>
      go_wp2_with fail
      go_returns
      refine ⟨_, rfl, ?_, HB2.out⟩
      rw [show fl = ([] : List Fc) from HF.out.trans rfl]
      exact World.ownsRow_nil _ _ _ 4
    | false =>
      go_wp2_with fail
      refine (FA.out _ b2 1 lf).mono ?_
      rintro e w3 ⟨rfl, u3⟩
      have b3 := bmore b2 u3
      go_wp2_with fail
      go_returns
      refine ⟨_, rfl, ?_, bmore HB2.out (bmore b3 (bZ _ _))⟩
      rw [show fl = ([⟨1, lf, lc, ls⟩] : List Fc) from HF.out.trans (rfl)]
      exact own_made (bmore HB2.out b3).size ([⟨1, lf, lc, ls⟩] : List Fc) #[.int .i64 1, .int .i64 lf, .int .u64 lc, .string ls] rfl (by simp)
  have e1 : (lk == 1) = false := by simpa using hk1
  by_cases hk2 : lk = 2
  · subst hk2
    go_wp2_with fail
    refine (FA.out _ b2 2 lf).mono ?_
    rintro e w3 ⟨rfl, u3⟩
    have b3 := bmore b2 u3
    go_wp2_with fail
    go_returns
    refine ⟨_, rfl, ?_, bmore HB2.out (bmore b3 (bZ _ _))⟩
    rw [show fl = ([⟨2, lf, lc, ls⟩] : List Fc) from HF.out.trans (rfl)]
    exact own_made (bmore HB2.out b3).size ([⟨2, lf, lc, ls⟩] : List Fc) #[.int .i64 2, .int .i64 lf, .int .u64 lc, .string ls] rfl (by simp)
  have e2 : (lk == 2) = false := by simpa using hk2
  by_cases hk3 : lk = 3
  · subst hk3
    go_wp2_with fail
    refine (FA.out _ b2 3 0).mono ?_
    rintro e w3 ⟨rfl, u3⟩
    have b3 := bmore b2 u3
    go_wp2_with fail
    go_returns
    refine ⟨_, rfl, ?_, bmore HB2.out (bmore b3 (bZ _ _))⟩
    rw [show fl = ([⟨3, 0, lc, ls⟩] : List Fc) from HF.out.trans (rfl)]
    exact own_made (bmore HB2.out b3).size ([⟨3, 0, lc, ls⟩] : List Fc) #[.int .i64 3, .int .i64 0, .int .u64 lc, .string ls] rfl (by simp)
  have e3 : (lk == 3) = false := by simpa using hk3
  by_cases hk4 : lk = 4
  · subst hk4
    go_wp2_with fail
    refine (FA.out _ b2 4 lf).mono ?_
    rintro e w3 ⟨rfl, u3⟩
    have b3 := bmore b2 u3
    have b4 := bmore b3 (bZ w3 (.cells #[.int .i64 4, .int .i64 lf, .int .u64 lc, .string ls] FacT))
    have h4 := heap_alloc_new w3 (.cells #[.int .i64 4, .int .i64 lf, .int .u64 lc, .string ls] FacT)
    have HH4 := Lib.hid h4
    clear h4
    have l4' := bcellAt b4 l4
    have y0 := cellB (j := 0) HH4.out rfl
    have y1 := cellB (j := 1) HH4.out rfl
    have y2 := cellB (j := 2) HH4.out rfl
    have y3 := cellB (j := 3) HH4.out rfl
    cases lx with
    | true =>
      go_upto_region 15 with fail
      generalize (w3.alloc (.cells #[.int .i64 4, .int .i64 lf, .int .u64 lc, .string ls] FacT)) = w4 at *
      go_wp2_with fail
      go_returns
      refine ⟨_, rfl, ?_, bmore HB2.out (bmore b4 (bZ _ _))⟩
      rw [show fl = ([⟨4, lf, lc, ls⟩] : List Fc) from HF.out.trans (rfl)]
      exact own_made (bmore HB2.out b4).size ([⟨4, lf, lc, ls⟩] : List Fc) #[.int .i64 4, .int .i64 lf, .int .u64 lc, .string ls] rfl (by simp)
    | false =>
      go_upto_region 16 with fail
      generalize (w3.alloc (.cells #[.int .i64 4, .int .i64 lf, .int .u64 lc, .string ls] FacT)) = w4 at *
      generalize w3.heap.size = wb at *
      have HKP := Lib.hid (fun (V : World) (hb : Below w4.heap.size w4 V) => (show V.cell? ⟨wb, 0, none⟩ = some (.int .i64 4) ∧ V.cell? ⟨wb, 1, none⟩ = some (.int .i64 lf) ∧ V.cell? ⟨wb, 2, none⟩ = some (.int .u64 lc) ∧ V.cell? ⟨wb, 3, none⟩ = some (.string ls) from ⟨bcellAt hb y0, bcellAt hb y1, bcellAt hb y2, bcellAt hb y3⟩))
      have HB4 := Lib.hid b4
      go_region_held3 (fun V => V.cell? ⟨wb, 0, none⟩ = some (.int .i64 4) ∧ V.cell? ⟨wb, 1, none⟩ = some (.int .i64 lf) ∧ V.cell? ⟨wb, 2, none⟩ = some (.int .u64 lc) ∧ V.cell? ⟨wb, 3, none⟩ = some (.string ls)) ((refine HKP.out _ ?_; first | exact bd _ | exact bmore (bd _) u5 | exact bmore (bmore (bd _) u5) u6 | exact bmore (bmore (bmore (bd _) u5) u6) (bZ _ _)))
        ((first
          | ((with_reducible refine (FA.out _ (bmore HB4.out (bd _)) 1 0).mono ?_); rintro e w5 ⟨rfl, u5⟩)
          | ((with_reducible refine (FA.out _ (bmore HB4.out (bmore (bd _) u5)) 1 1).mono ?_); rintro e w6 ⟨rfl, u6⟩)))
      have b6 := bmore HB4.out (bmore (bmore (bd w4) u5) u6)
      go_wp2_with fail
      go_returns
      refine ⟨_, rfl, ?_, bmore HB2.out (bmore b6 (bZ _ _))⟩
      rw [show fl = ([⟨4, lf, lc, ls⟩, ⟨1, 0, lc, ls⟩, ⟨1, 1, lc, ls⟩] : List Fc) from HF.out.trans (rfl)]
      exact own_made (bmore HB2.out b6).size ([⟨4, lf, lc, ls⟩, ⟨1, 0, lc, ls⟩, ⟨1, 1, lc, ls⟩] : List Fc) #[.int .i64 4, .int .i64 lf, .int .u64 lc, .string ls, .int .i64 1, .int .i64 0, .int .u64 lc, .string ls, .int .i64 1, .int .i64 1, .int .u64 lc, .string ls] rfl (by simp)
  have e4 : (lk == 4) = false := by simpa using hk4
  by_cases hk5 : lk = 5
  · subst hk5
    go_wp2_with fail
    refine (FA.out _ b2 5 2).mono ?_
    rintro e w3 ⟨rfl, u3⟩
    have b3 := bmore b2 u3
    go_wp2_with fail
    go_returns
    refine ⟨_, rfl, ?_, bmore HB2.out (bmore b3 (bZ _ _))⟩
    rw [show fl = ([⟨5, 2, lc, ls⟩] : List Fc) from HF.out.trans (rfl)]
    exact own_made (bmore HB2.out b3).size ([⟨5, 2, lc, ls⟩] : List Fc) #[.int .i64 5, .int .i64 2, .int .u64 lc, .string ls] rfl (by simp)
  have e5 : (lk == 5) = false := by simpa using hk5
  by_cases hk6 : lk = 6
  · subst hk6
    go_wp2_with fail
    refine (FA.out _ b2 6 2).mono ?_
    rintro e w3 ⟨rfl, u3⟩
    have b3 := bmore b2 u3
    go_wp2_with fail
    refine (FA.out _ b3 2 0).mono ?_
    rintro e w4 ⟨rfl, u4⟩
    have b4 := bmore b3 u4
    go_wp2_with fail
    refine (FA.out _ b4 2 1).mono ?_
    rintro e w5 ⟨rfl, u5⟩
    have b5 := bmore b4 u5
    go_wp2_with fail
    go_returns
    refine ⟨_, rfl, ?_, bmore HB2.out (bmore b5 (bZ _ _))⟩
    rw [show fl = ([⟨6, 2, lc, ls⟩, ⟨2, 0, lc, ls⟩, ⟨2, 1, lc, ls⟩] : List Fc) from HF.out.trans (rfl)]
    exact own_made (bmore HB2.out b5).size ([⟨6, 2, lc, ls⟩, ⟨2, 0, lc, ls⟩, ⟨2, 1, lc, ls⟩] : List Fc) #[.int .i64 6, .int .i64 2, .int .u64 lc, .string ls, .int .i64 2, .int .i64 0, .int .u64 lc, .string ls, .int .i64 2, .int .i64 1, .int .u64 lc, .string ls] rfl (by simp)
  have e6 : (lk == 6) = false := by simpa using hk6
  have HE := Lib.hid (HF.out.trans ((by unfold ofL; rw [if_neg hk1, if_neg hk2, if_neg hk3, if_neg hk4, if_neg hk5, if_neg hk6]) : _ = ([] : List Fc)))
  clear hk1 hk2 hk3 hk4 hk5 hk6
  go_wp2_with fail
  go_returns
  refine ⟨_, rfl, ?_, HB2.out⟩
  rw [HE.out]
  exact World.ownsRow_nil _ _ _ 4
end
end Go.Proofs.YtjmcaceegfdkkaaGreatDoor
