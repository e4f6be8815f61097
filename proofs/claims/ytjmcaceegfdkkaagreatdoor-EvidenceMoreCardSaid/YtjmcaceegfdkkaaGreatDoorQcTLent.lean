/-
  The two pools beside each other.
  Of in memory.
  The program's Compare of facts.
  A statement that leaves its order open, whose last operation turns what its reads have read: the operations in an order that is named; F holds up to the operation p.
  Trees in a row of the call's own: what is appended one behind the other.
  The document's own Lent: a tree in new memory.
-/
import Derived.Deep.DeepCutAuto
import Derived.Test.YtjmcaceegfdkkaaGreatDoorQcTAlike
import Derived.Test.YtjmcaceegfdkkaaGreatDoorQcTRefMake
import Derived.Test.YtjmcaceegfdkkaaGreatDoorQcTKey
import Derived.Test.YtjmcaceegfdkkaaGreatDoorQcTFor
import Derived.Test.YtjmcaceegfdkkaaGreatDoorQcTChain
import Derived.Test.YtjmcaceegfdkkaaGreatDoorQcLProm
import Derived.Test.YtjmcaceegfdkkaaGreatDoorQcTClone
namespace Go.Proofs.YtjmcaceegfdkkaaGreatDoor
open Go.RowKit Go.Maps
set_option linter.unusedVariables false
section
variable {w : World} {B a b : Nat} {v : Value} {p : Pl} {a2 : Nat} {vl vs vd : Value} {q : Pl}
theorem Grew.hold (h : IsPool w B a b v p) {p' : Pl} {w' : World} (hg : Grew w B a b v p' w') {T : TypeId} (h1 : T ≠ PoolT) (h2 : T ≠ MadeT) : Hold T w w' := fun k cs hk => by
 obtain ⟨D, hown, _⟩ := h.dict
 obtain ⟨es, clock, hb, _⟩ := hown
 have hk0 := (Array.getElem?_eq_some_iff.1 hk).1
 rw [hg.2.1 k hk0 ?_ ?_ ?_]
 ·exact hk
 ·rintro rfl
  have h0 := h.lay
  rw [h0] at hk
  simp only [Option.some.injEq, Obj.cells.injEq] at hk
  exact h1 hk.2.1.symm
 ·rintro rfl
  rw [hb] at hk
  simp at hk
 ·intro e
  obtain ⟨_, cur, hc⟩ := own_type h.row e
  rw [hk] at hc
  simp only [Option.some.injEq, Obj.cells.injEq] at hc
  exact h2 hc.2.1
theorem IsRef.hold {w' : World} (h : IsRef w B a vl vs vd p) (h1 : Hold RPoolT w w') (h2 : Hold NodeT w w') (h3 : Hold IntT w w') : IsRef w' B a vl vs vd p :=
 ⟨h1 _ _ h.lay, h.ga, own_hold h.rl h2, own_hold h.rs h3, own_hold h.rd h3, h.ap, h.ok, h.nok⟩
theorem IsRef.grew (h : IsPool w B a b v p) (hr : IsRef w B a2 vl vs vd q) {p' : Pl} {w' : World} (hg : Grew w B a b v p' w') : IsRef w' B a2 vl vs vd q :=
 hr.hold (hg.hold h (by decide) (by decide)) (hg.hold h (by decide) (by decide)) (hg.hold h (by decide) (by decide))
theorem RGrew.keep (hr : IsRef w B a2 vl vs vd q) {q' : Pl} {w' : World} (hg : RGrew w B a2 vl vs vd q' w') {k : Nat} {o : Obj} (hk : w.heap[k]? = some o) (ho : ∀ cs T fr, o = Obj.cells cs T fr → T ≠ RPoolT ∧ T ≠ NodeT ∧ T ≠ IntT) : w'.heap[k]? = some o := by
 have hk0 := (Array.getElem?_eq_some_iff.1 hk).1
 rw [hg.2.1 k hk0 ?_ ?_ ?_ ?_]
 ·exact hk
 ·rintro rfl
  have h0 := hr.lay
  rw [hk] at h0
  exact (ho _ _ _ (Option.some.inj h0)).1 rfl
 ·intro e
  obtain ⟨_, cur, hc⟩ := own_type hr.rl e
  rw [hk] at hc
  exact (ho _ _ _ (Option.some.inj hc)).2.1 rfl
 ·intro e
  obtain ⟨_, cur, hc⟩ := own_type hr.rs e
  rw [hk] at hc
  exact (ho _ _ _ (Option.some.inj hc)).2.2 rfl
 ·intro e
  obtain ⟨_, cur, hc⟩ := own_type hr.rd e
  rw [hk] at hc
  exact (ho _ _ _ (Option.some.inj hc)).2.2 rfl
end
end Go.Proofs.YtjmcaceegfdkkaaGreatDoor
namespace Go.Proofs.YtjmcaceegfdkkaaGreatDoor
open Go.RowKit Go.Maps
set_option linter.unusedVariables false
abbrev FacT : TypeId := 45
abbrev FacsT : TypeId := 33
set_option maxRecDepth 100000 in
set_option maxHeartbeats 1600000 in
theorem fact_any {w : World} {lb : Nat} {c : Int} {s : ByteArray} (h2 : w.cell? ⟨lb, 2, none⟩ = some (.int .u64 c)) (h3 : w.cell? ⟨lb, 3, none⟩ = some (.string s)) (k who : Int) : Calls Tryz.prog 68 #[.int .i64 k, .int .i64 who, .pointer (some ⟨lb, 0, none⟩)] w fun e w' => e = .returned (.agg #[.int .i64 k, .int .i64 who, .int .u64 c, .string s]) ∧ Below w.heap.size w w' := by
 have bz := bZ w (.cells #[.int .i64 0, .int .i64 0, .int .u64 0, .string ⟨#[]⟩] FacT)
 have hz := heap_alloc_new w (.cells #[.int .i64 0, .int .i64 0, .int .u64 0, .string ⟨#[]⟩] FacT)
 have x2 := bcellAt bz h2
 have x3 := bcellAt bz h3
 obtain ⟨z0, z1, z2, z3⟩ := cs4 hz rfl rfl rfl rfl
 obtain ⟨f0, f1, f2, f3⟩ := fz4 hz
 have hq := heap_alloc_new w (.cells #[.int .i64 k, .int .i64 who, .int .u64 c, .string s] FacT)
 obtain ⟨q0, q1, q2, q3⟩ := cs4 hq rfl rfl rfl rfl
 have HB := Lib.hid (bZ w (.cells #[.int .i64 k, .int .i64 who, .int .u64 c, .string s] FacT))
 clear hz hq bz
 go_enter Tryz.func68, Tryz.ntmps68
 go_wp2_with fail
 refine bodyPost_ret (v := .agg #[.int .i64 k, .int .i64 who, .int .u64 c, .string s]) (by simp [results, Tryz.results68, go_sem, q0, q1, q2, q3]) rfl ⟨rfl, HB.out⟩
def FcPost (w : World) (l : List Fc) (e : Ending) (w' : World) : Prop := ∃ v, e = .returned v ∧ w'.ownsRow w.heap.size FacT 4 v l.length (fcs l) ∧ Below w.heap.size w w'
theorem own_made {w : World} {B : Nat} (hB : B ≤ w.heap.size) (l : List Fc) (cs : Array Value) (hc : cs.toList = fcs l) (hl : l.length ≤ 1000) : (w.alloc (.cells cs FacT)).ownsRow B FacT 4 (.slice (some ⟨w.heap.size, 0, none⟩) l.length l.length) l.length (fcs l) :=
 ⟨fcs_length l, .inr ⟨w.heap.size, l.length, cs, rfl, hB, heap_alloc_new _ _, Nat.le_refl _, by unfold maxLen; omega, by
  have : cs.size = (fcs l).length := by rw [← hc]; simp
  rw [this, fcs_length], by rw [← hc, ← fcs_length, ← hc]; simp; exact List.take_of_length_le (by simp)⟩⟩
section
variable {w : World} {pv : Value} {p : Pl}
set_option maxRecDepth 100000 in
set_option maxHeartbeats 6400000 in
theorem of_any (h : Nodes w pv p) (hok : Ok p) (hl : LaidK w) (t : Int) : Calls Tryz.prog 18 #[pv, .int .i64 t] w (FcPost w (ofR p t)) := by
 have RD := Lib.hid (read_any h hok hl t)
 clear h hok hl
 unfold ofR
 have hv : ∃ b, ltV (rdP p t) = .tuple #[.agg (ltA ((rdP p t).getD zeroL)), .bool b] := by
  cases rdP p t with
  | none => exact ⟨_, rfl⟩
  | some l => exact ⟨_, rfl⟩
 obtain ⟨bb, hbb⟩ := hv
 rw [hbb] at RD
 clear hbb
 generalize (rdP p t).getD zeroL = l at *
 obtain ⟨lk, lf, lc, ls, lx⟩ := l
 obtain ⟨fl, hfl⟩ : ∃ fl, fl = ofL ⟨lk, lf, lc, ls, lx⟩ := ⟨_, rfl⟩
 rw [← hfl]
 have HF := Lib.hid hfl
 clear hfl
 simp only [ltA] at *
 go_enter Tryz.func18, Tryz.ntmps18
 go_wp2_with fail
 refine RD.out.mono ?_
 rintro e w1 ⟨rfl, u1⟩
 have b2 := bmore u1 (bZ w1 (.cells #[.int .i64 lk, .int .i64 lf, .int .u64 lc, .string ls, .bool lx] LtT))
 have h2 := heap_alloc_new w1 (.cells #[.int .i64 lk, .int .i64 lf, .int .u64 lc, .string ls, .bool lx] LtT)
 have HB2 := Lib.hid b2
 have HH2 := Lib.hid h2
 clear u1 b2 h2 RD
 have l0 := cellB (j := 0) HH2.out rfl
 have l1 := cellB (j := 1) HH2.out rfl
 have l4 := cellB (j := 4) HH2.out rfl
 go_upto_region 3 with fail
 generalize (w1.alloc (.cells #[.int .i64 lk, .int .i64 lf, .int .u64 lc, .string ls, .bool lx] LtT)) = w2 at *
 generalize w1.heap.size = lb at *
 have HLB := Lib.hid (show lb < w2.heap.size from (Array.getElem?_eq_some_iff.1 HH2.out).1)
 have FA := Lib.hid (fun (W : World) (hb : Below w2.heap.size w2 W) (k who : Int) => fact_any (c := lc) (s := ls) (bcellAt hb (cellB (j := 2) HH2.out rfl)) (bcellAt hb (cellB (j := 3) HH2.out rfl)) k who)
 have b2 := Below.refl w2.heap.size w2
 by_cases hk1 : lk = 1
 ·subst hk1
  cases lx with
  | true =>
   go_wp2_with fail
   go_returns
   refine ⟨_, rfl, ?_, HB2.out⟩
   rw [show fl = ([] : List Fc) from HF.out.trans rfl]
   exact World.ownsRow_nil _ _ _ 4
  | false =>
   go_wp2_with fail
   refine (FA.out _ b2 1 lf).mono ?_
   rintro e w3 ⟨rfl, u3⟩
   have b3 := bmore b2 u3
   go_wp2_with fail
   go_returns
   refine ⟨_, rfl, ?_, bmore HB2.out (bmore b3 (bZ _ _))⟩
   rw [show fl = ([⟨1, lf, lc, ls⟩] : List Fc) from HF.out.trans (rfl)]
   exact own_made (bmore HB2.out b3).size ([⟨1, lf, lc, ls⟩] : List Fc) #[.int .i64 1, .int .i64 lf, .int .u64 lc, .string ls] rfl (by simp)
 have e1 : (lk == 1) = false := by simpa using hk1
 by_cases hk2 : lk = 2
 ·subst hk2
  go_wp2_with fail
  refine (FA.out _ b2 2 lf).mono ?_
  rintro e w3 ⟨rfl, u3⟩
  have b3 := bmore b2 u3
  go_wp2_with fail
  go_returns
  refine ⟨_, rfl, ?_, bmore HB2.out (bmore b3 (bZ _ _))⟩
  rw [show fl = ([⟨2, lf, lc, ls⟩] : List Fc) from HF.out.trans (rfl)]
  exact own_made (bmore HB2.out b3).size ([⟨2, lf, lc, ls⟩] : List Fc) #[.int .i64 2, .int .i64 lf, .int .u64 lc, .string ls] rfl (by simp)
 have e2 : (lk == 2) = false := by simpa using hk2
 by_cases hk3 : lk = 3
 ·subst hk3
  go_wp2_with fail
  refine (FA.out _ b2 3 0).mono ?_
  rintro e w3 ⟨rfl, u3⟩
  have b3 := bmore b2 u3
  go_wp2_with fail
  go_returns
  refine ⟨_, rfl, ?_, bmore HB2.out (bmore b3 (bZ _ _))⟩
  rw [show fl = ([⟨3, 0, lc, ls⟩] : List Fc) from HF.out.trans (rfl)]
  exact own_made (bmore HB2.out b3).size ([⟨3, 0, lc, ls⟩] : List Fc) #[.int .i64 3, .int .i64 0, .int .u64 lc, .string ls] rfl (by simp)
 have e3 : (lk == 3) = false := by simpa using hk3
 by_cases hk4 : lk = 4
 ·subst hk4
  go_wp2_with fail
  refine (FA.out _ b2 4 lf).mono ?_
  rintro e w3 ⟨rfl, u3⟩
  have b3 := bmore b2 u3
  have b4 := bmore b3 (bZ w3 (.cells #[.int .i64 4, .int .i64 lf, .int .u64 lc, .string ls] FacT))
  have h4 := heap_alloc_new w3 (.cells #[.int .i64 4, .int .i64 lf, .int .u64 lc, .string ls] FacT)
  have HH4 := Lib.hid h4
  clear h4
  have l4' := bcellAt b4 l4
  obtain ⟨y0, y1, y2, y3⟩ := cs4 HH4.out rfl rfl rfl rfl
  cases lx with
  | true =>
   go_upto_region 15 with fail
   generalize (w3.alloc (.cells #[.int .i64 4, .int .i64 lf, .int .u64 lc, .string ls] FacT)) = w4 at *
   go_wp2_with fail
   go_returns
   refine ⟨_, rfl, ?_, bmore HB2.out (bmore b4 (bZ _ _))⟩
   rw [show fl = ([⟨4, lf, lc, ls⟩] : List Fc) from HF.out.trans (rfl)]
   exact own_made (bmore HB2.out b4).size ([⟨4, lf, lc, ls⟩] : List Fc) #[.int .i64 4, .int .i64 lf, .int .u64 lc, .string ls] rfl (by simp)
  | false =>
   go_upto_region 16 with fail
   generalize (w3.alloc (.cells #[.int .i64 4, .int .i64 lf, .int .u64 lc, .string ls] FacT)) = w4 at *
   generalize w3.heap.size = wb at *
   have HKP := Lib.hid (fun (V : World) (hb : Below w4.heap.size w4 V) => (show V.cell? ⟨wb, 0, none⟩ = some (.int .i64 4) ∧ V.cell? ⟨wb, 1, none⟩ = some (.int .i64 lf) ∧ V.cell? ⟨wb, 2, none⟩ = some (.int .u64 lc) ∧ V.cell? ⟨wb, 3, none⟩ = some (.string ls) from ⟨bcellAt hb y0, bcellAt hb y1, bcellAt hb y2, bcellAt hb y3⟩))
   have HB4 := Lib.hid b4
   go_region_held3 (fun V => V.cell? ⟨wb, 0, none⟩ = some (.int .i64 4) ∧ V.cell? ⟨wb, 1, none⟩ = some (.int .i64 lf) ∧ V.cell? ⟨wb, 2, none⟩ = some (.int .u64 lc) ∧ V.cell? ⟨wb, 3, none⟩ = some (.string ls)) ((refine HKP.out _ ?_; first | exact bd _ | exact bmore (bd _) u5 | exact bmore (bmore (bd _) u5) u6 | exact bmore (bmore (bmore (bd _) u5) u6) (bZ _ _)))
    ((first
     | ((with_reducible refine (FA.out _ (bmore HB4.out (bd _)) 1 0).mono ?_); rintro e w5 ⟨rfl, u5⟩)
     | ((with_reducible refine (FA.out _ (bmore HB4.out (bmore (bd _) u5)) 1 1).mono ?_); rintro e w6 ⟨rfl, u6⟩)))
   have b6 := bmore HB4.out (bmore (bmore (bd w4) u5) u6)
   go_wp2_with fail
   go_returns
   refine ⟨_, rfl, ?_, bmore HB2.out (bmore b6 (bZ _ _))⟩
   rw [show fl = ([⟨4, lf, lc, ls⟩, ⟨1, 0, lc, ls⟩, ⟨1, 1, lc, ls⟩] : List Fc) from HF.out.trans (rfl)]
   exact own_made (bmore HB2.out b6).size ([⟨4, lf, lc, ls⟩, ⟨1, 0, lc, ls⟩, ⟨1, 1, lc, ls⟩] : List Fc) #[.int .i64 4, .int .i64 lf, .int .u64 lc, .string ls, .int .i64 1, .int .i64 0, .int .u64 lc, .string ls, .int .i64 1, .int .i64 1, .int .u64 lc, .string ls] rfl (by simp)
 have e4 : (lk == 4) = false := by simpa using hk4
 by_cases hk5 : lk = 5
 ·subst hk5
  go_wp2_with fail
  refine (FA.out _ b2 5 2).mono ?_
  rintro e w3 ⟨rfl, u3⟩
  have b3 := bmore b2 u3
  go_wp2_with fail
  go_returns
  refine ⟨_, rfl, ?_, bmore HB2.out (bmore b3 (bZ _ _))⟩
  rw [show fl = ([⟨5, 2, lc, ls⟩] : List Fc) from HF.out.trans (rfl)]
  exact own_made (bmore HB2.out b3).size ([⟨5, 2, lc, ls⟩] : List Fc) #[.int .i64 5, .int .i64 2, .int .u64 lc, .string ls] rfl (by simp)
 have e5 : (lk == 5) = false := by simpa using hk5
 by_cases hk6 : lk = 6
 ·subst hk6
  go_wp2_with fail
  refine (FA.out _ b2 6 2).mono ?_
  rintro e w3 ⟨rfl, u3⟩
  have b3 := bmore b2 u3
  go_wp2_with fail
  refine (FA.out _ b3 2 0).mono ?_
  rintro e w4 ⟨rfl, u4⟩
  have b4 := bmore b3 u4
  go_wp2_with fail
  refine (FA.out _ b4 2 1).mono ?_
  rintro e w5 ⟨rfl, u5⟩
  have b5 := bmore b4 u5
  go_wp2_with fail
  go_returns
  refine ⟨_, rfl, ?_, bmore HB2.out (bmore b5 (bZ _ _))⟩
  rw [show fl = ([⟨6, 2, lc, ls⟩, ⟨2, 0, lc, ls⟩, ⟨2, 1, lc, ls⟩] : List Fc) from HF.out.trans (rfl)]
  exact own_made (bmore HB2.out b5).size ([⟨6, 2, lc, ls⟩, ⟨2, 0, lc, ls⟩, ⟨2, 1, lc, ls⟩] : List Fc) #[.int .i64 6, .int .i64 2, .int .u64 lc, .string ls, .int .i64 2, .int .i64 0, .int .u64 lc, .string ls, .int .i64 2, .int .i64 1, .int .u64 lc, .string ls] rfl (by simp)
 have e6 : (lk == 6) = false := by simpa using hk6
 have HE := Lib.hid (HF.out.trans ((by unfold ofL; rw [if_neg hk1, if_neg hk2, if_neg hk3, if_neg hk4, if_neg hk5, if_neg hk6]) : _ = ([] : List Fc)))
 clear hk1 hk2 hk3 hk4 hk5 hk6
 go_wp2_with fail
 go_returns
 refine ⟨_, rfl, ?_, HB2.out⟩
 rw [HE.out]
 exact World.ownsRow_nil _ _ _ 4
end
end Go.Proofs.YtjmcaceegfdkkaaGreatDoor
namespace Go.Proofs.YtjmcaceegfdkkaaGreatDoor
open Go.RowKit Go.Maps
set_option linter.unusedVariables false
def cmpF (x y : Fc) : Int := orI [cmpOf x.c y.c, cmpOf x.kind y.kind, cmpOf x.who y.who, cmpOf x.text y.text]
theorem row4 (W : World) (a b c d : Int) : Row (W.alloc (.cells #[.int .i64 a, .int .i64 b, .int .i64 c, .int .i64 d] 3)) 1 (.slice (some ⟨W.heap.size, 0, none⟩) 4 4) 4 (ints [a, b, c, d]) :=
 ⟨rfl, .inr ⟨W.heap.size, 0, 4, rfl, by simp, Nat.le_refl _, by unfold maxLen; omega, fun j u hj => by
  rw [Nat.zero_add]
  refine cellB (heap_alloc_new _ _) ?_
  rw [← hj]; simp [ints]⟩⟩
theorem row4d (W : World) (a b c d : Int) : Row (W.alloc (.cells #[.int .i64 a, .int .i64 b, .int .i64 c, .int .i64 d] 3)).drew 1 (.slice (some ⟨W.heap.size, 0, none⟩) 4 4) 4 (ints [a, b, c, d]) := (row4 W a b c d).below (bd _)
def CmpW (x y : Fc) (w w' : World) : Prop := ∃ o, w' = (((w.alloc (.cells (fcA x) FacT)).alloc (.cells (fcA y) FacT)).alloc o).drew
set_option maxRecDepth 100000 in
set_option maxHeartbeats 12800000 in
theorem cmpF_any (x y : Fc) (w : World) : Calls Tryz.prog 27 #[.agg (fcA x), .agg (fcA y)] w fun e w' => e = .returned (.int .i64 (cmpF x y)) ∧ CmpW x y w w' := by
 obtain ⟨k1, w1, c1, s1⟩ := x
 obtain ⟨k2, w2, c2, s2⟩ := y
 unfold CmpW
 have C1 := Lib.hid (fun W : World => cmpU_any c1 c2 W)
 have C2 := Lib.hid (fun W : World => cmpI_any k1 k2 W)
 have C3 := Lib.hid (fun W : World => cmpI_any w1 w2 W)
 have C4 := Lib.hid (fun W : World => cmpS_any s1 s2 W)
 obtain ⟨rr, hrr⟩ : ∃ rr, rr = cmpF ⟨k1, w1, c1, s1⟩ ⟨k2, w2, c2, s2⟩ := ⟨_, rfl⟩
 rw [← hrr]
 have HOW : Hid (orI [cmpOf c1 c2, cmpOf k1 k2, cmpOf w1 w2, cmpOf s1 s2] = rr) := Lib.hid hrr.symm
 clear hrr
 generalize cmpOf c1 c2 = o1 at *
 generalize cmpOf k1 k2 = o2 at *
 generalize cmpOf w1 w2 = o3 at *
 generalize cmpOf s1 s2 = o4 at *
 simp only [fcA] at *
 have h0 := heap_alloc_new w (.cells #[.int .i64 k1, .int .i64 w1, .int .u64 c1, .string s1] FacT)
 have b1 := bZ (w.alloc (.cells #[.int .i64 k1, .int .i64 w1, .int .u64 c1, .string s1] FacT)) (.cells #[.int .i64 k2, .int .i64 w2, .int .u64 c2, .string s2] FacT)
 have hY := heap_alloc_new (w.alloc (.cells #[.int .i64 k1, .int .i64 w1, .int .u64 c1, .string s1] FacT)) (.cells #[.int .i64 k2, .int .i64 w2, .int .u64 c2, .string s2] FacT)
 have hX := Hold.below b1 _ _ h0
 rw [show (w.alloc (.cells #[.int .i64 k1, .int .i64 w1, .int .u64 c1, .string s1] FacT)).heap.size = w.heap.size + 1 from by simp] at hY
 clear h0 b1
 go_enter Tryz.func27, Tryz.ntmps27
 go_upto_region 1 with fail
 obtain ⟨W, hW⟩ : ∃ W, W = ((w.alloc (.cells #[.int .i64 k1, .int .i64 w1, .int .u64 c1, .string s1] FacT)).alloc (.cells #[.int .i64 k2, .int .i64 w2, .int .u64 c2, .string s2] FacT)) := ⟨_, rfl⟩
 have HWW := Lib.hid hW
 rw [← hW] at hX hY ⊢
 clear hW
 generalize w.heap.size + 1 = m1 at *
 generalize w.heap.size = m0 at *
 have x0 := cellB (j := 0) hX rfl
 have y0 := cellB (j := 0) hY rfl
 have x1 := cellB (j := 1) hX rfl
 have y1 := cellB (j := 1) hY rfl
 have x2 := cellB (j := 2) hX rfl
 have y2 := cellB (j := 2) hY rfl
 have x3 := cellB (j := 3) hX rfl
 have y3 := cellB (j := 3) hY rfl
 have HK := Lib.hid (fun (V : World) (hb : Below W.heap.size W V) => (show V.cell? ⟨m0, 0, none⟩ = some (.int .i64 k1) ∧ V.cell? ⟨m0, 1, none⟩ = some (.int .i64 w1) ∧ V.cell? ⟨m0, 2, none⟩ = some (.int .u64 c1) ∧ V.cell? ⟨m0, 3, none⟩ = some (.string s1) ∧ V.cell? ⟨m1, 0, none⟩ = some (.int .i64 k2) ∧ V.cell? ⟨m1, 1, none⟩ = some (.int .i64 w2) ∧ V.cell? ⟨m1, 2, none⟩ = some (.int .u64 c2) ∧ V.cell? ⟨m1, 3, none⟩ = some (.string s2) from ⟨bcellAt hb x0, bcellAt hb x1, bcellAt hb x2, bcellAt hb x3, bcellAt hb y0, bcellAt hb y1, bcellAt hb y2, bcellAt hb y3⟩))
 clear hX hY
 go_region_held3 (fun V => V.cell? ⟨m0, 0, none⟩ = some (.int .i64 k1) ∧ V.cell? ⟨m0, 1, none⟩ = some (.int .i64 w1) ∧ V.cell? ⟨m0, 2, none⟩ = some (.int .u64 c1) ∧ V.cell? ⟨m0, 3, none⟩ = some (.string s1) ∧ V.cell? ⟨m1, 0, none⟩ = some (.int .i64 k2) ∧ V.cell? ⟨m1, 1, none⟩ = some (.int .i64 w2) ∧ V.cell? ⟨m1, 2, none⟩ = some (.int .u64 c2) ∧ V.cell? ⟨m1, 3, none⟩ = some (.string s2)) ((refine HK.out _ ?_; first | exact bd _ | exact (bAl (Below.refl _ _) _) | exact (bAl (Below.refl _ _) _).drew | exact (bd _).trans (bAl (Below.refl _ _) _)))
  ((first
   | ((with_reducible refine (C1.out _).mono ?_); rintro e w' ⟨rfl, rfl⟩)
   | ((with_reducible refine (C2.out _).mono ?_); rintro e w' ⟨rfl, rfl⟩)
   | ((with_reducible refine (C3.out _).mono ?_); rintro e w' ⟨rfl, rfl⟩)
   | ((with_reducible refine (C4.out _).mono ?_); rintro e w' ⟨rfl, rfl⟩)
   | ((with_reducible refine (or_any (l := [o1, o2, o3, o4]) (row4d _ _ _ _ _) (by simp)).mono ?_); rintro e w' ⟨rfl, rfl⟩; rw [HOW.out])
   | ((with_reducible refine (or_any (l := [o1, o2, o3, o4]) (row4 _ _ _ _ _) (by simp)).mono ?_); rintro e w' ⟨rfl, rfl⟩; rw [HOW.out])))
 clear x0 x1 x2 x3 y0 y1 y2 y3 HK
 obtain ⟨V, hV⟩ : ∃ V, V = (W.alloc (.cells #[.int .i64 o1, .int .i64 o2, .int .i64 o3, .int .i64 o4] 3)).drew := ⟨_, rfl⟩
 have HV := Lib.hid hV
 rw [← hV]
 clear hV
 go_wp2_with fail
 go_returns
 exact ⟨rfl, _, by rw [HV.out, HWW.out]⟩
end Go.Proofs.YtjmcaceegfdkkaaGreatDoor
namespace Go.Proofs.YtjmcaceegfdkkaaGreatDoor
open Go.RowKit
set_option linter.unusedVariables false
section
variable {P : Program} {ops : Array Oper} {Q : Exit → Act → World → Prop} {md : Region.Mode} {F : World → Prop} {p : Nat}
def wpAnyG (P : Program) (md : Region.Mode) (ops : Array Oper) (Q : Exit → Act → World → Prop) (F : World → Prop) (p : Nat) : Nat → Array Bool → Act → World → Prop
 | 0, listed, a, w => Region.ready md ops listed = [] ∧ Q .normal a w
 | fuel + 1, listed, a, w =>
  (Region.ready md ops listed = [] → Q .normal a w) ∧
  ∀ i ∈ Region.ready md ops listed, wpOp P ops Q i (fun a' w' => (i ≠ p → F w') ∧ wpAnyG P md ops Q F p fuel (listed.setIfInBounds i true) a' w') a w
theorem wpAny_of_g : ∀ (fuel : Nat) (listed : Array Bool) (a : Act) (w : World), wpAnyG P md ops Q F p fuel listed a w → wpAny P md ops Q fuel listed a w
 | 0, _, _, _, h => h
 | fuel + 1, _, _, _, h => ⟨h.1, fun i hi => wpOp_mono (fun a' w' h' => wpAny_of_g fuel _ a' w' h'.2) (h.2 i hi)⟩
theorem wpAnyG_first {i : Nat} {oi : Oper} {v : Value} (hi : ops[i]? = some oi) (hsel : ∀ (j : Nat) (o : Oper) cs b, ops[j]? = some o → o.op ≠ .select cs b)
  (hQ : ∀ c a w, Q (.panic c) (a.put oi.dst v) w → Q (.panic c) a w) (hip : i ≠ p) (hwait : ∀ op, ops[p]? = some op → ∃ e ∈ op.after, Region.binds md e = true ∧ e.on = i) :
  ∀ (fuel : Nat) (listed : Array Bool) (a : Act) (w : World),
   (∀ j oj, ops[j]? = some oj → j ≠ i → listed.getD j true = false → (∀ e ∈ oj.after, Region.binds md e = true → e.on ≠ i) → oi.apart ops oj = true) →
   i ∈ Region.ready md ops listed → YieldsIf P ops F oi v a → F w →
   wpAnyG P md ops Q F p fuel (listed.setIfInBounds i true) (a.put oi.dst v) w → wpAnyG P md ops Q F p (fuel + 1) listed a w := by
 intro fuel
 induction fuel with
 | zero =>
  intro listed a w _ hr hy hS H
  refine ⟨fun h => (by rw [h] at hr; cases hr), fun j hj => ?_⟩
  by_cases hji : j = i
  ·subst hji; exact hy.wpOp hi hS ⟨fun _ => hS, H⟩
  ·have := ready_mono hj hji
   rw [H.1] at this
   cases this
 | succ fuel ih =>
  intro listed a w hfree hr hy hS H
  refine ⟨fun h => (by rw [h] at hr; cases hr), fun j hj => ?_⟩
  by_cases hji : j = i
  ·subst hji; exact hy.wpOp hi hS ⟨fun _ => hS, H⟩
  ·have h1 := H.2 j (ready_mono hj hji)
   obtain ⟨hjun, oj, hoj, hall⟩ := mem_ready.1 hj
   have hnot : ∀ e ∈ oj.after, Region.binds md e = true → e.on ≠ i := fun e he hb heq => by
    have h1 := hall e he hb
    have h0 := (mem_ready.1 hr).1
    rw [heq] at h1
    rcases Nat.lt_or_ge i listed.size with h' | h'
    ·simp [h'] at h0 h1; rw [h0] at h1; cases h1
    ·simp [Array.getElem?_eq_none h'] at h1
   have hjp : j ≠ p := fun e => by
    subst e
    obtain ⟨e, he, hb, ho⟩ := hwait oj hoj
    exact hnot e he hb ho
   have h2 := wpOp_putIf hoj (hfree j oj hoj hji hjun hnot) (fun cs b => hsel i oi cs b hi) (fun cs b => hsel j oj cs b hoj) hQ hy h1
   have hfree' : ∀ k ok, ops[k]? = some ok → k ≠ i → (listed.setIfInBounds j true).getD k true = false →
     (∀ e ∈ ok.after, Region.binds md e = true → e.on ≠ i) → oi.apart ops ok = true := fun k ok hk hki hun hno => by
    refine hfree k ok hk hki ?_ hno
    by_cases hjk : j = k
    ·subst hjk; exact hjun
    ·rw [getD_set_ne true hjk] at hun; exact hun
   refine wpOp_mono (fun a' w' h3 => ⟨h3.2.1, ih (listed.setIfInBounds j true) a' w' hfree' (ready_mono hr (Ne.symm hji)) h3.1 (h3.2.1 hjp) ?_⟩) h2
   rw [Array.setIfInBounds_comm _ _ hji]
   exact h3.2.2
def LexG (P : Program) (md : Region.Mode) (ops : Array Oper) (Q : Exit → Act → World → Prop) (F : World → Prop) (p : Nat) (_rest : List Oper) (fuel : Nat) (listed : Array Bool) (a : Act) (w : World) : Prop := wpAnyG P md ops Q F p fuel listed a w
theorem lexg_start (is : List Nat) (p : Nat) {l : List Oper} {id : Nat} {a : Act} {w : World} (hm : P.follows .mixedOrders = true)
  (h : LexG P .any l.toArray (NoPanic Q) F p (inOrder l is) l.length (Array.replicate l.length false) a w.drew) : (Code.region id l.toArray true).wp P Q a w :=
 wp_region_noPanic (wp_region_any hm (wpAny_of_g _ _ _ _ (by simpa [LexG] using h)))
theorem lexg_take {i : Nat} {o : Oper} {rest : List Oper} {fuel : Nat} {listed : Array Bool} {a : Act} {w : World} {v : Value} (hi : ops[i]? = some o) (hip : i ≠ p)
  (hn : Region.noSelect ops = true) (hf : Region.free md ops listed i = true) (hr : (Region.ready md ops listed).contains i = true) (hwt : ((ops[p]?.map fun op => op.after.any fun e => Region.binds md e && e.on == i).getD true) = true)
  (hw : Region.wanted o (yielded ops a.tmps) = true) (hS : F w) (hy : ∀ W, F W → (execOp a.eval o).run P W = .ok (.value v) W)
  (h : LexG P md ops (NoPanic Q) F p rest fuel (listed.setIfInBounds i true) (a.put o.dst v) w) : LexG P md ops (NoPanic Q) F p (o :: rest) (fuel + 1) listed a w :=
 wpAnyG_first hi (Region.noSelect_spec hn) (fun _ _ _ h => h) hip (fun op hop => by
  rw [hop] at hwt
  simp only [Option.map_some, Option.getD_some, Array.any_eq_true'] at hwt
  obtain ⟨e, he, hb⟩ := hwt
  simp only [Bool.and_eq_true, beq_iff_eq] at hb
  exact ⟨e, he, hb.1, hb.2⟩) fuel listed a w (Region.free_spec hi hf) (by simpa using hr) (Or.inl ⟨hw, hy⟩) hS h
theorem lexg_call {i : Nat} {o : Oper} {rest : List Oper} {fuel : Nat} {listed : Array Bool} {a : Act} {w : World} {f : FuncId} {vals : Array Value}
  (hi : ops[i]? = some o) (hr : Region.ready md ops listed = [i]) (hw : Region.wanted o (yielded ops a.tmps) = true)
  (hx : (execOp a.eval o).run P w = .ok (.enter f vals) w) (R : Ending → World → Prop) (hc : Calls P f vals w R)
  (h : ∀ e w', R e w' → ∃ v, e = .returned v ∧ (i ≠ p → F w') ∧ LexG P md ops Q F p rest fuel (listed.setIfInBounds i true) (a.put o.dst v) w') : LexG P md ops Q F p (o :: rest) (fuel + 1) listed a w := by
 refine ⟨fun h0 => (by rw [hr] at h0; cases h0), fun j hj => ?_⟩
 rw [hr, List.mem_singleton] at hj
 subst hj
 unfold wpOp
 simp only [hi, hw, if_true, Oper.wp, hx, Oper.upon]
 refine .inl (hc.mono fun e w' hR => ?_)
 obtain ⟨v, rfl, h1, h2⟩ := h e w' hR
 exact ⟨h1, h2⟩
theorem lexg_do {i : Nat} {o : Oper} {rest : List Oper} {fuel : Nat} {listed : Array Bool} {a : Act} {w : World}
  (hi : ops[i]? = some o) (hr : Region.ready md ops listed = [i]) (hw : Region.wanted o (yielded ops a.tmps) = true)
  (h : ∀ K : Act → World → Prop, (∀ a' w', (i ≠ p → F w') ∧ LexG P md ops Q F p rest fuel (listed.setIfInBounds i true) a' w' → K a' w') → Oper.wp P o a w K Q) : LexG P md ops Q F p (o :: rest) (fuel + 1) listed a w := by
 refine ⟨fun h0 => (by rw [hr] at h0; cases h0), fun j hj => ?_⟩
 rw [hr, List.mem_singleton] at hj
 subst hj
 unfold wpOp
 simp only [hi, hw, if_true]
 exact .inl (h _ fun a' w' h => h)
theorem lexg_done {listed : Array Bool} {a : Act} {w : World} {fuel : Nat} (hr : Region.ready md ops listed = []) (h : Q .normal a w) : LexG P md ops (NoPanic Q) F p [] fuel listed a w := by
 cases fuel with
 | zero => exact ⟨hr, NoPanic.normal h⟩
 | succ n => exact ⟨fun _ => NoPanic.normal h, fun i hi => by rw [hr] at hi; cases hi⟩
end
end Go.Proofs.YtjmcaceegfdkkaaGreatDoor
namespace Go.Proofs.YtjmcaceegfdkkaaGreatDoor
open Go.RowKit Go.Maps
set_option linter.unusedVariables false
def six (n : Nd) (v : Value) : List Value := [.int .i64 n.kind, .int .i64 n.frm, .int .i64 n.to, .int .u64 n.num, .string n.text, v]
def RowF (w : World) (G : Nat → Prop) : List (Nd × Fo) → List Value → Prop
 | [], xs => xs = []
 | x :: l, xs => ∃ v ys, xs = six x.1 v ++ ys ∧ IsK w G v x.2 ∧ RowF w G l ys
theorem RowF.at {w : World} {G : Nat → Prop} {b : Nat} : ∀ {l : List (Nd × Fo)} {xs : List Value} {off : Nat}, RowF w G l xs → (∀ j u, xs[j]? = some u → w.cell? ⟨b, off + j, none⟩ = some u) → AtF w G (foOf l) b off
 | [], _, _, _, _ => trivial
 | x :: l, _, off, ⟨v, ys, rfl, h1, h2⟩, hc => by
  have c0 := hc 0 _ (by simp [six]; rfl)
  have c1 := hc 1 _ (by simp [six]; rfl)
  have c2 := hc 2 _ (by simp [six]; rfl)
  have c3 := hc 3 _ (by simp [six]; rfl)
  have c4 := hc 4 _ (by simp [six]; rfl)
  have c5 := hc 5 _ (by simp [six]; rfl)
  refine AtF.mk c0 c1 c2 c3 c4 c5 h1 (RowF.at h2 fun j u hj => ?_)
  have := hc (6 + j) u (by rw [Nat.add_comm 6 j]; simpa [six] using hj)
  rw [← Nat.add_assoc] at this
  exact this
end Go.Proofs.YtjmcaceegfdkkaaGreatDoor
namespace Go.Proofs.YtjmcaceegfdkkaaGreatDoor
open Go.RowKit Go.Maps
set_option linter.unusedVariables false
def NewT (w w' : World) (b : Nat) : Prop := w.heap.size ≤ b ∧ ∃ cs, w'.heap[b]? = some (Obj.cells cs TrT)
theorem IsK.newT {w w' : World} {B : Nat} {v : Value} {k : Fo} (h : IsK w' (NewT w w') v k) : IsK w' (Safe w' B) v k := h.keep fun b hb _ => ⟨.inr hb.2, rfl⟩
end Go.Proofs.YtjmcaceegfdkkaaGreatDoor
