/-
  promises, belong.
-/
import Derived.Deep.DeepCutAuto
import Derived.Test.YtjmcaceegfdkkaaGreatDoorQcTKey
import Derived.Test.YtjmcaceegfdkkaaGreatDoorQcTAlike
import Derived.Test.YtjmcaceegfdkkaaGreatDoorQcLProm
import Derived.Test.YtjmcaceegfdkkaaGreatDoorQcTRefP
namespace Go.Proofs.YtjmcaceegfdkkaaGreatDoor
open Go.RowKit Go.Maps
set_option linter.unusedVariables false
def prmL (p : Pl) (a b : Int) : Lt × Lt × Int :=
 if inP p a = false ∨ inP p b = false then (zeroL, zeroL, 51) else
 if ((rdP p a).getD zeroL).kind ≠ 1 ∨ ((rdP p b).getD zeroL).kind ≠ 1 then (zeroL, zeroL, 120) else ((rdP p a).getD zeroL, (rdP p b).getD zeroL, 0)
def prmV (x : Lt × Lt × Int) : Value := .tuple #[.agg (ltA x.1), .agg (ltA x.2.1), .int .i64 x.2.2]
def blgB (x y : Lt) : Bool := x.frm == 0 && (y.frm == 1 && (x.c == y.c && x.text.toList == y.text.toList))
theorem set5_othr {w : World} {b d : Nat} {o : Obj} (h : w.heap[d]? = some o) (hd : b ≠ d) (v0 v1 v2 v3 v4 : Value) : (set5 w b v0 v1 v2 v3 v4).heap[d]? = some o := by
 unfold set5
 repeat rw [Below.heap_setCell _ _ _ _ (fun e => hd e.symm)]
 exact h
theorem two5 {n : Nat} {w w2 : World} {b d : Nat} {c0 c1 c2 c3 c4 e0 e1 e2 e3 e4 : Value} (hb : w2.heap[b]? = some (Obj.cells #[c0, c1, c2, c3, c4] LtT)) (hd : w2.heap[d]? = some (Obj.cells #[e0, e1, e2, e3, e4] LtT)) (hne : b ≠ d) (hB : Below n w w2) (nb : n ≤ b) (nd : n ≤ d) (v0 v1 v2 v3 v4 u0 u1 u2 u3 u4 : Value) :
  (set5 (set5 w2 b v0 v1 v2 v3 v4) d u0 u1 u2 u3 u4).heap[b]? = some (Obj.cells #[v0, v1, v2, v3, v4] LtT) ∧ (set5 (set5 w2 b v0 v1 v2 v3 v4) d u0 u1 u2 u3 u4).heap[d]? = some (Obj.cells #[u0, u1, u2, u3, u4] LtT) ∧ Below n w (set5 (set5 w2 b v0 v1 v2 v3 v4) d u0 u1 u2 u3 u4) :=
 ⟨set5_othr (set5_at hb _ _ _ _ _) (fun e => hne e.symm) _ _ _ _ _, set5_at (set5_othr hd hne _ _ _ _ _) _ _ _ _ _, set5_below (set5_below hB nb _ _ _ _ _) nd _ _ _ _ _⟩
section
variable {w : World}
set_option maxRecDepth 100000 in
set_option maxHeartbeats 3200000 in
theorem prm_nil (a b : Int) : Calls Tryz.prog 83 #[.pointer none, .int .i64 a, .int .i64 b] w fun e w' => e = .returned (prmV (zeroL, zeroL, 7)) ∧ Below w.heap.size w w' := by
 have b0 := bZ w (.cells #[.int .i64 0, .int .i64 0, .int .u64 0, .string ⟨#[]⟩, .bool false] LtT)
 have h0 := heap_alloc_new w (.cells #[.int .i64 0, .int .i64 0, .int .u64 0, .string ⟨#[]⟩, .bool false] LtT)
 have b1 := bZ (w.alloc (.cells #[.int .i64 0, .int .i64 0, .int .u64 0, .string ⟨#[]⟩, .bool false] LtT)) (.cells #[.int .i64 0, .int .i64 0, .int .u64 0, .string ⟨#[]⟩, .bool false] LtT)
 have h1 := heap_alloc_new (w.alloc (.cells #[.int .i64 0, .int .i64 0, .int .u64 0, .string ⟨#[]⟩, .bool false] LtT)) (.cells #[.int .i64 0, .int .i64 0, .int .u64 0, .string ⟨#[]⟩, .bool false] LtT)
 have h0' := Hold.below b1 _ _ h0
 have HB := Lib.hid (bmore b0 b1)
 rw [show (w.alloc (.cells #[.int .i64 0, .int .i64 0, .int .u64 0, .string ⟨#[]⟩, .bool false] LtT)).heap.size = w.heap.size + 1 from by simp] at h1
 have HN : w.heap.size ≠ w.heap.size + 1 := by omega
 have HM : w.heap.size ≤ w.heap.size + 1 := by omega
 clear b0 b1 h0
 have HH0 := Lib.hid h0'
 have HH1 := Lib.hid h1
 clear h0' h1
 go_enter Tryz.func83, Tryz.ntmps83
 go_upto_region 2 with fail
 generalize ((w.alloc (.cells #[.int .i64 0, .int .i64 0, .int .u64 0, .string ⟨#[]⟩, .bool false] LtT)).alloc (.cells #[.int .i64 0, .int .i64 0, .int .u64 0, .string ⟨#[]⟩, .bool false] LtT)) = w2 at *
 generalize w.heap.size + 1 = m1 at *
 have hm : (w.heap.size == m1) = false := by simpa using HN
 have x0 := cellB (j := 0) HH0.out rfl
 have fx0 := frozenB (j := 0) HH0.out
 have x1 := cellB (j := 1) HH0.out rfl
 have fx1 := frozenB (j := 1) HH0.out
 have x2 := cellB (j := 2) HH0.out rfl
 have fx2 := frozenB (j := 2) HH0.out
 have x3 := cellB (j := 3) HH0.out rfl
 have fx3 := frozenB (j := 3) HH0.out
 have x4 := cellB (j := 4) HH0.out rfl
 have fx4 := frozenB (j := 4) HH0.out
 have y0 := cellB (j := 0) HH1.out rfl
 have fy0 := frozenB (j := 0) HH1.out
 have y1 := cellB (j := 1) HH1.out rfl
 have fy1 := frozenB (j := 1) HH1.out
 have y2 := cellB (j := 2) HH1.out rfl
 have fy2 := frozenB (j := 2) HH1.out
 have y3 := cellB (j := 3) HH1.out rfl
 have fy3 := frozenB (j := 3) HH1.out
 have y4 := cellB (j := 4) HH1.out rfl
 have fy4 := frozenB (j := 4) HH1.out
 go_region
 have h55 := two5 HH0.out HH1.out HN HB.out (Nat.le_refl _) HM (.int .i64 0) (.int .i64 0) (.int .u64 0) (.string ⟨#[]⟩) (.bool false) (.int .i64 0) (.int .i64 0) (.int .u64 0) (.string ⟨#[]⟩) (.bool false)
 rw [show set5 (set5 w2 w.heap.size (.int .i64 0) (.int .i64 0) (.int .u64 0) (.string ⟨#[]⟩) (.bool false)) m1 (.int .i64 0) (.int .i64 0) (.int .u64 0) (.string ⟨#[]⟩) (.bool false) = ((((((((((w2.setCell ⟨w.heap.size, 0, none⟩ (.int .i64 0)).setCell ⟨w.heap.size, 1, none⟩ (.int .i64 0)).setCell ⟨w.heap.size, 2, none⟩ (.int .u64 0)).setCell ⟨w.heap.size, 3, none⟩ (.string ⟨#[]⟩)).setCell ⟨w.heap.size, 4, none⟩ (.bool false)).setCell ⟨m1, 0, none⟩ (.int .i64 0)).setCell ⟨m1, 1, none⟩ (.int .i64 0)).setCell ⟨m1, 2, none⟩ (.int .u64 0)).setCell ⟨m1, 3, none⟩ (.string ⟨#[]⟩)).setCell ⟨m1, 4, none⟩ (.bool false)) from rfl] at h55
 obtain ⟨q5, r5, hw5⟩ := h55
 have HW5 := Lib.hid hw5
 clear hw5
 generalize ((((((((((w2.setCell ⟨w.heap.size, 0, none⟩ (.int .i64 0)).setCell ⟨w.heap.size, 1, none⟩ (.int .i64 0)).setCell ⟨w.heap.size, 2, none⟩ (.int .u64 0)).setCell ⟨w.heap.size, 3, none⟩ (.string ⟨#[]⟩)).setCell ⟨w.heap.size, 4, none⟩ (.bool false)).setCell ⟨m1, 0, none⟩ (.int .i64 0)).setCell ⟨m1, 1, none⟩ (.int .i64 0)).setCell ⟨m1, 2, none⟩ (.int .u64 0)).setCell ⟨m1, 3, none⟩ (.string ⟨#[]⟩)).setCell ⟨m1, 4, none⟩ (.bool false)) = w5 at *
 obtain ⟨q50, q51, q52, q53, q54⟩ := cs5 q5 rfl rfl rfl rfl rfl
 obtain ⟨r50, r51, r52, r53, r54⟩ := cs5 r5 rfl rfl rfl rfl rfl
 clear q5 r5
 go_wp2_with fail
 refine bodyPost_ret (v := .tuple #[.agg #[.int .i64 0, .int .i64 0, .int .u64 0, .string ⟨#[]⟩, .bool false], .agg #[.int .i64 0, .int .i64 0, .int .u64 0, .string ⟨#[]⟩, .bool false], .int .i64 7]) (by simp [results, Tryz.results83, go_sem, q50, q51, q52, q53, q54, r50, r51, r52, r53, r54]) rfl ⟨rfl, bmore HW5.out (bd _)⟩
set_option maxRecDepth 100000 in
set_option maxHeartbeats 6400000 in
theorem prm_any {B a b : Nat} {vv : Value} {p : Pl} (hp : IsPool w B a b vv p) (hl : LaidK w) (s t : Int) : Calls Tryz.prog 83 #[.pointer (some ⟨a, 0, none⟩), .int .i64 s, .int .i64 t] w fun e w' => e = .returned (prmV (prmL p s t)) ∧ Below w.heap.size w w' := by
 have NA := Lib.hid (fun (W : World) (hb : Below w.heap.size w W) => pnode (hp.below hb) s)
 have NB := Lib.hid (fun (W : World) (hb : Below w.heap.size w W) => pnode (hp.below hb) t)
 have RA := Lib.hid (fun (W : World) (hb : Below w.heap.size w W) => read_any (nodes_pool (hp.below hb)) hp.ok (hl.below hb) s)
 have RB := Lib.hid (fun (W : World) (hb : Below w.heap.size w W) => read_any (nodes_pool (hp.below hb)) hp.ok (hl.below hb) t)
 obtain ⟨rr, hrr⟩ : ∃ rr, rr = prmL p s t := ⟨_, rfl⟩
 rw [← hrr]
 unfold prmL at hrr
 have hv : ∀ o : Option Lt, ∃ f, ltV o = .tuple #[.agg (ltA (o.getD zeroL)), .bool f] := fun o => by
  cases o with
  | none => exact ⟨_, rfl⟩
  | some l => exact ⟨_, rfl⟩
 obtain ⟨fa, hfa⟩ := hv (rdP p s)
 obtain ⟨fb, hfb⟩ := hv (rdP p t)
 rw [hfa] at RA
 rw [hfb] at RB
 clear hfa hfb hv hp hl
 generalize (rdP p s).getD zeroL = x at *
 generalize (rdP p t).getD zeroL = y at *
 generalize inP p s = ia at *
 generalize inP p t = ib at *
 generalize (atP p s).1 = na at *
 generalize (atP p t).1 = nb at *
 obtain ⟨xk, xf, xc, xs, xx⟩ := x
 obtain ⟨yk, yf, yc, ys, yx⟩ := y
 obtain ⟨k1, f1, t1, n1, s1, a1, c1⟩ := na
 obtain ⟨k2, f2, t2, n2, s2, a2, c2⟩ := nb
 simp only [ltA, nodeA] at *
 have HR := Lib.hid hrr
 clear hrr
 have b0 := bZ w (.cells #[.int .i64 0, .int .i64 0, .int .u64 0, .string ⟨#[]⟩, .bool false] LtT)
 have h0 := heap_alloc_new w (.cells #[.int .i64 0, .int .i64 0, .int .u64 0, .string ⟨#[]⟩, .bool false] LtT)
 have b1 := bZ (w.alloc (.cells #[.int .i64 0, .int .i64 0, .int .u64 0, .string ⟨#[]⟩, .bool false] LtT)) (.cells #[.int .i64 0, .int .i64 0, .int .u64 0, .string ⟨#[]⟩, .bool false] LtT)
 have h1 := heap_alloc_new (w.alloc (.cells #[.int .i64 0, .int .i64 0, .int .u64 0, .string ⟨#[]⟩, .bool false] LtT)) (.cells #[.int .i64 0, .int .i64 0, .int .u64 0, .string ⟨#[]⟩, .bool false] LtT)
 have h0' := Hold.below b1 _ _ h0
 have HB := Lib.hid (bmore b0 b1)
 rw [show (w.alloc (.cells #[.int .i64 0, .int .i64 0, .int .u64 0, .string ⟨#[]⟩, .bool false] LtT)).heap.size = w.heap.size + 1 from by simp] at h1
 have HN : w.heap.size ≠ w.heap.size + 1 := by omega
 have HM : w.heap.size ≤ w.heap.size + 1 := by omega
 clear b0 b1 h0
 have HH0 := Lib.hid h0'
 have HH1 := Lib.hid h1
 clear h0' h1
 go_enter Tryz.func83, Tryz.ntmps83
 go_upto_region 3 with fail
 generalize ((w.alloc (.cells #[.int .i64 0, .int .i64 0, .int .u64 0, .string ⟨#[]⟩, .bool false] LtT)).alloc (.cells #[.int .i64 0, .int .i64 0, .int .u64 0, .string ⟨#[]⟩, .bool false] LtT)) = w2 at *
 generalize w.heap.size + 1 = m1 at *
 have hm : (w.heap.size == m1) = false := by simpa using HN
 go_wp2_with fail
 refine (NA.out _ HB.out).mono ?_
 rintro e w3 ⟨rfl, u3⟩
 have u3' := bmore u3 (bZ w3 (.cells #[.int .i64 k1, .int .i64 f1, .int .i64 t1, .int .u64 n1, .string s1, .int .i64 a1, .int .i64 c1] NodeT))
 have HB3 := Lib.hid (bmore HB.out u3')
 have HX3 := Lib.hid (Hold.below u3' _ _ HH0.out)
 have HY3 := Lib.hid (Hold.below u3' _ _ HH1.out)
 clear u3 u3' NA HB HH0 HH1
 go_upto_region 4 with fail
 generalize (w3.alloc (.cells #[.int .i64 k1, .int .i64 f1, .int .i64 t1, .int .u64 n1, .string s1, .int .i64 a1, .int .i64 c1] NodeT)) = w4 at *
 go_wp2_with fail
 refine (NB.out _ HB3.out).mono ?_
 rintro e w5 ⟨rfl, u5⟩
 have u5' := bmore u5 (bZ w5 (.cells #[.int .i64 k2, .int .i64 f2, .int .i64 t2, .int .u64 n2, .string s2, .int .i64 a2, .int .i64 c2] NodeT))
 have HB5 := Lib.hid (bmore HB3.out u5')
 have HX5 := Lib.hid (Hold.below u5' _ _ HX3.out)
 have HY5 := Lib.hid (Hold.below u5' _ _ HY3.out)
 clear u5 u5' NB HB3 HX3 HY3
 by_cases hin : ia = false ∨ ib = false
 ·have HE := Lib.hid (HR.out.trans (if_pos hin))
  have hg : ia = false ∨ (ia = true ∧ ib = false) := by cases ia <;> simp_all
  clear hin HR
  rcases hg with rfl | ⟨rfl, rfl⟩
  all_goals
   go_upto_region 6 with fail
   generalize (w5.alloc (.cells #[.int .i64 k2, .int .i64 f2, .int .i64 t2, .int .u64 n2, .string s2, .int .i64 a2, .int .i64 c2] NodeT)) = w6 at *
   have x0 := cellB (j := 0) HX5.out rfl
   have fx0 := frozenB (j := 0) HX5.out
   have x1 := cellB (j := 1) HX5.out rfl
   have fx1 := frozenB (j := 1) HX5.out
   have x2 := cellB (j := 2) HX5.out rfl
   have fx2 := frozenB (j := 2) HX5.out
   have x3 := cellB (j := 3) HX5.out rfl
   have fx3 := frozenB (j := 3) HX5.out
   have x4 := cellB (j := 4) HX5.out rfl
   have fx4 := frozenB (j := 4) HX5.out
   have y0 := cellB (j := 0) HY5.out rfl
   have fy0 := frozenB (j := 0) HY5.out
   have y1 := cellB (j := 1) HY5.out rfl
   have fy1 := frozenB (j := 1) HY5.out
   have y2 := cellB (j := 2) HY5.out rfl
   have fy2 := frozenB (j := 2) HY5.out
   have y3 := cellB (j := 3) HY5.out rfl
   have fy3 := frozenB (j := 3) HY5.out
   have y4 := cellB (j := 4) HY5.out rfl
   have fy4 := frozenB (j := 4) HY5.out
   go_region
   have h55 := two5 HX5.out HY5.out HN HB5.out (Nat.le_refl _) HM (.int .i64 0) (.int .i64 0) (.int .u64 0) (.string ⟨#[]⟩) (.bool false) (.int .i64 0) (.int .i64 0) (.int .u64 0) (.string ⟨#[]⟩) (.bool false)
   rw [show set5 (set5 w6 w.heap.size (.int .i64 0) (.int .i64 0) (.int .u64 0) (.string ⟨#[]⟩) (.bool false)) m1 (.int .i64 0) (.int .i64 0) (.int .u64 0) (.string ⟨#[]⟩) (.bool false) = ((((((((((w6.setCell ⟨w.heap.size, 0, none⟩ (.int .i64 0)).setCell ⟨w.heap.size, 1, none⟩ (.int .i64 0)).setCell ⟨w.heap.size, 2, none⟩ (.int .u64 0)).setCell ⟨w.heap.size, 3, none⟩ (.string ⟨#[]⟩)).setCell ⟨w.heap.size, 4, none⟩ (.bool false)).setCell ⟨m1, 0, none⟩ (.int .i64 0)).setCell ⟨m1, 1, none⟩ (.int .i64 0)).setCell ⟨m1, 2, none⟩ (.int .u64 0)).setCell ⟨m1, 3, none⟩ (.string ⟨#[]⟩)).setCell ⟨m1, 4, none⟩ (.bool false)) from rfl] at h55
   obtain ⟨q5, r5, hw5⟩ := h55
   have HW5 := Lib.hid hw5
   clear hw5
   generalize ((((((((((w6.setCell ⟨w.heap.size, 0, none⟩ (.int .i64 0)).setCell ⟨w.heap.size, 1, none⟩ (.int .i64 0)).setCell ⟨w.heap.size, 2, none⟩ (.int .u64 0)).setCell ⟨w.heap.size, 3, none⟩ (.string ⟨#[]⟩)).setCell ⟨w.heap.size, 4, none⟩ (.bool false)).setCell ⟨m1, 0, none⟩ (.int .i64 0)).setCell ⟨m1, 1, none⟩ (.int .i64 0)).setCell ⟨m1, 2, none⟩ (.int .u64 0)).setCell ⟨m1, 3, none⟩ (.string ⟨#[]⟩)).setCell ⟨m1, 4, none⟩ (.bool false)) = w8 at *
   obtain ⟨q50, q51, q52, q53, q54⟩ := cs5 q5 rfl rfl rfl rfl rfl
   obtain ⟨r50, r51, r52, r53, r54⟩ := cs5 r5 rfl rfl rfl rfl rfl
   clear q5 r5
   go_wp2_with fail
   refine bodyPost_ret (v := .tuple #[.agg #[.int .i64 0, .int .i64 0, .int .u64 0, .string ⟨#[]⟩, .bool false], .agg #[.int .i64 0, .int .i64 0, .int .u64 0, .string ⟨#[]⟩, .bool false], .int .i64 51]) (by simp [results, Tryz.results83, go_sem, q50, q51, q52, q53, q54, r50, r51, r52, r53, r54]) rfl ⟨by rw [HE.out]; rfl, bmore HW5.out (bd _)⟩
 ·have hia : ia = true := by cases ia <;> simp_all
  have hib : ib = true := by cases ib <;> simp_all
  have HE := Lib.hid (HR.out.trans (if_neg hin))
  clear hin HR
  subst hia hib
  go_upto_region 7 with fail
  generalize (w5.alloc (.cells #[.int .i64 k2, .int .i64 f2, .int .i64 t2, .int .u64 n2, .string s2, .int .i64 a2, .int .i64 c2] NodeT)) = w6 at *
  go_wp2_with fail
  refine (RA.out _ HB5.out).mono ?_
  rintro e w7 ⟨rfl, u7⟩
  have HB7 := Lib.hid (bmore HB5.out u7)
  have HX7 := Lib.hid (Hold.below u7 _ _ HX5.out)
  have HY7 := Lib.hid (Hold.below u7 _ _ HY5.out)
  clear u7 RA HB5 HX5 HY5
  have x0 := cellB (j := 0) HX7.out rfl
  have fx0 := frozenB (j := 0) HX7.out
  have x1 := cellB (j := 1) HX7.out rfl
  have fx1 := frozenB (j := 1) HX7.out
  have x2 := cellB (j := 2) HX7.out rfl
  have fx2 := frozenB (j := 2) HX7.out
  have x3 := cellB (j := 3) HX7.out rfl
  have fx3 := frozenB (j := 3) HX7.out
  have x4 := cellB (j := 4) HX7.out rfl
  have fx4 := frozenB (j := 4) HX7.out
  have y0 := cellB (j := 0) HY7.out rfl
  have fy0 := frozenB (j := 0) HY7.out
  have y1 := cellB (j := 1) HY7.out rfl
  have fy1 := frozenB (j := 1) HY7.out
  have y2 := cellB (j := 2) HY7.out rfl
  have fy2 := frozenB (j := 2) HY7.out
  have y3 := cellB (j := 3) HY7.out rfl
  have fy3 := frozenB (j := 3) HY7.out
  have y4 := cellB (j := 4) HY7.out rfl
  have fy4 := frozenB (j := 4) HY7.out
  go_upto_region 8 with fail
  have hs := set5_at HX7.out (.int .i64 xk) (.int .i64 xf) (.int .u64 xc) (.string xs) (.bool xx)
  have ho := set5_othr HY7.out HN (.int .i64 xk) (.int .i64 xf) (.int .u64 xc) (.string xs) (.bool xx)
  have hb := set5_below HB7.out (Nat.le_refl _) (.int .i64 xk) (.int .i64 xf) (.int .u64 xc) (.string xs) (.bool xx)
  rw [show set5 w7 w.heap.size (.int .i64 xk) (.int .i64 xf) (.int .u64 xc) (.string xs) (.bool xx) = (((((w7.setCell ⟨w.heap.size, 0, none⟩ (.int .i64 xk)).setCell ⟨w.heap.size, 1, none⟩ (.int .i64 xf)).setCell ⟨w.heap.size, 2, none⟩ (.int .u64 xc)).setCell ⟨w.heap.size, 3, none⟩ (.string xs)).setCell ⟨w.heap.size, 4, none⟩ (.bool xx)) from rfl] at hs ho hb
  clear x0 fx0 y0 fy0 x1 fx1 y1 fy1 x2 fx2 y2 fy2 x3 fx3 y3 fy3 x4 fx4 y4 fy4
  generalize (((((w7.setCell ⟨w.heap.size, 0, none⟩ (.int .i64 xk)).setCell ⟨w.heap.size, 1, none⟩ (.int .i64 xf)).setCell ⟨w.heap.size, 2, none⟩ (.int .u64 xc)).setCell ⟨w.heap.size, 3, none⟩ (.string xs)).setCell ⟨w.heap.size, 4, none⟩ (.bool xx)) = w8 at *
  have HX8 := Lib.hid hs
  have HY8 := Lib.hid ho
  have HB8 := Lib.hid hb
  clear hs ho hb HX7 HY7 HB7
  go_wp2_with fail
  refine (RB.out _ HB8.out).mono ?_
  rintro e w9 ⟨rfl, u9⟩
  have HB9 := Lib.hid (bmore HB8.out u9)
  have HX9 := Lib.hid (Hold.below u9 _ _ HX8.out)
  have HY9 := Lib.hid (Hold.below u9 _ _ HY8.out)
  clear u9 RB HB8 HX8 HY8
  have x0 := cellB (j := 0) HX9.out rfl
  have fx0 := frozenB (j := 0) HX9.out
  have x1 := cellB (j := 1) HX9.out rfl
  have fx1 := frozenB (j := 1) HX9.out
  have x2 := cellB (j := 2) HX9.out rfl
  have fx2 := frozenB (j := 2) HX9.out
  have x3 := cellB (j := 3) HX9.out rfl
  have fx3 := frozenB (j := 3) HX9.out
  have x4 := cellB (j := 4) HX9.out rfl
  have fx4 := frozenB (j := 4) HX9.out
  have y0 := cellB (j := 0) HY9.out rfl
  have fy0 := frozenB (j := 0) HY9.out
  have y1 := cellB (j := 1) HY9.out rfl
  have fy1 := frozenB (j := 1) HY9.out
  have y2 := cellB (j := 2) HY9.out rfl
  have fy2 := frozenB (j := 2) HY9.out
  have y3 := cellB (j := 3) HY9.out rfl
  have fy3 := frozenB (j := 3) HY9.out
  have y4 := cellB (j := 4) HY9.out rfl
  have fy4 := frozenB (j := 4) HY9.out
  go_upto_region 9 with fail
  have hs := set5_at HY9.out (.int .i64 yk) (.int .i64 yf) (.int .u64 yc) (.string ys) (.bool yx)
  have ho := set5_othr HX9.out (fun e => HN e.symm) (.int .i64 yk) (.int .i64 yf) (.int .u64 yc) (.string ys) (.bool yx)
  have hb := set5_below HB9.out HM (.int .i64 yk) (.int .i64 yf) (.int .u64 yc) (.string ys) (.bool yx)
  rw [show set5 w9 m1 (.int .i64 yk) (.int .i64 yf) (.int .u64 yc) (.string ys) (.bool yx) = (((((w9.setCell ⟨m1, 0, none⟩ (.int .i64 yk)).setCell ⟨m1, 1, none⟩ (.int .i64 yf)).setCell ⟨m1, 2, none⟩ (.int .u64 yc)).setCell ⟨m1, 3, none⟩ (.string ys)).setCell ⟨m1, 4, none⟩ (.bool yx)) from rfl] at hs ho hb
  clear x0 fx0 y0 fy0 x1 fx1 y1 fy1 x2 fx2 y2 fy2 x3 fx3 y3 fy3 x4 fx4 y4 fy4
  generalize (((((w9.setCell ⟨m1, 0, none⟩ (.int .i64 yk)).setCell ⟨m1, 1, none⟩ (.int .i64 yf)).setCell ⟨m1, 2, none⟩ (.int .u64 yc)).setCell ⟨m1, 3, none⟩ (.string ys)).setCell ⟨m1, 4, none⟩ (.bool yx)) = w10 at *
  have HX := Lib.hid ho
  have HY := Lib.hid hs
  have HB := Lib.hid hb
  clear hs ho hb HX9 HY9 HB9
  have x0 := cellB (j := 0) HX.out rfl
  have fx0 := frozenB (j := 0) HX.out
  have x1 := cellB (j := 1) HX.out rfl
  have fx1 := frozenB (j := 1) HX.out
  have x2 := cellB (j := 2) HX.out rfl
  have fx2 := frozenB (j := 2) HX.out
  have x3 := cellB (j := 3) HX.out rfl
  have fx3 := frozenB (j := 3) HX.out
  have x4 := cellB (j := 4) HX.out rfl
  have fx4 := frozenB (j := 4) HX.out
  have y0 := cellB (j := 0) HY.out rfl
  have fy0 := frozenB (j := 0) HY.out
  have y1 := cellB (j := 1) HY.out rfl
  have fy1 := frozenB (j := 1) HY.out
  have y2 := cellB (j := 2) HY.out rfl
  have fy2 := frozenB (j := 2) HY.out
  have y3 := cellB (j := 3) HY.out rfl
  have fy3 := frozenB (j := 3) HY.out
  have y4 := cellB (j := 4) HY.out rfl
  have fy4 := frozenB (j := 4) HY.out
  by_cases hk : xk ≠ 1 ∨ yk ≠ 1
  ·have HE2 := Lib.hid (HE.out.trans (if_pos hk))
   have hg : ((xk != 1) = true) ∨ ((xk != 1) = false ∧ (yk != 1) = true) := by
    by_cases h1 : xk = 1
    ·exact .inr ⟨by simp [h1], by simpa using hk.resolve_left (fun h => h h1)⟩
    ·exact .inl (by simpa using h1)
   clear hk HE
   rcases hg with h1 | ⟨h1, h2⟩
   all_goals
    go_wp2_with fail
    have h55 := two5 HX.out HY.out HN HB.out (Nat.le_refl _) HM (.int .i64 0) (.int .i64 0) (.int .u64 0) (.string ⟨#[]⟩) (.bool false) (.int .i64 0) (.int .i64 0) (.int .u64 0) (.string ⟨#[]⟩) (.bool false)
    rw [show set5 (set5 w10 w.heap.size (.int .i64 0) (.int .i64 0) (.int .u64 0) (.string ⟨#[]⟩) (.bool false)) m1 (.int .i64 0) (.int .i64 0) (.int .u64 0) (.string ⟨#[]⟩) (.bool false) = ((((((((((w10.setCell ⟨w.heap.size, 0, none⟩ (.int .i64 0)).setCell ⟨w.heap.size, 1, none⟩ (.int .i64 0)).setCell ⟨w.heap.size, 2, none⟩ (.int .u64 0)).setCell ⟨w.heap.size, 3, none⟩ (.string ⟨#[]⟩)).setCell ⟨w.heap.size, 4, none⟩ (.bool false)).setCell ⟨m1, 0, none⟩ (.int .i64 0)).setCell ⟨m1, 1, none⟩ (.int .i64 0)).setCell ⟨m1, 2, none⟩ (.int .u64 0)).setCell ⟨m1, 3, none⟩ (.string ⟨#[]⟩)).setCell ⟨m1, 4, none⟩ (.bool false)) from rfl] at h55
    obtain ⟨q5, r5, hw5⟩ := h55
    have HW5 := Lib.hid hw5
    clear hw5
    generalize ((((((((((w10.setCell ⟨w.heap.size, 0, none⟩ (.int .i64 0)).setCell ⟨w.heap.size, 1, none⟩ (.int .i64 0)).setCell ⟨w.heap.size, 2, none⟩ (.int .u64 0)).setCell ⟨w.heap.size, 3, none⟩ (.string ⟨#[]⟩)).setCell ⟨w.heap.size, 4, none⟩ (.bool false)).setCell ⟨m1, 0, none⟩ (.int .i64 0)).setCell ⟨m1, 1, none⟩ (.int .i64 0)).setCell ⟨m1, 2, none⟩ (.int .u64 0)).setCell ⟨m1, 3, none⟩ (.string ⟨#[]⟩)).setCell ⟨m1, 4, none⟩ (.bool false)) = w5 at *
    obtain ⟨q50, q51, q52, q53, q54⟩ := cs5 q5 rfl rfl rfl rfl rfl
    obtain ⟨r50, r51, r52, r53, r54⟩ := cs5 r5 rfl rfl rfl rfl rfl
    clear q5 r5
    refine bodyPost_ret (v := .tuple #[.agg #[.int .i64 0, .int .i64 0, .int .u64 0, .string ⟨#[]⟩, .bool false], .agg #[.int .i64 0, .int .i64 0, .int .u64 0, .string ⟨#[]⟩, .bool false], .int .i64 120]) (by simp [results, Tryz.results83, go_sem, q50, q51, q52, q53, q54, r50, r51, r52, r53, r54]) rfl ⟨by rw [HE2.out]; rfl, HW5.out⟩
  ·have HE2 := Lib.hid (HE.out.trans (if_neg hk))
   have h1 : (xk != 1) = false := by have : xk = 1 := by omega
                                     simp [this]
   have h2 : (yk != 1) = false := by have : yk = 1 := by omega
                                     simp [this]
   clear hk HE
   go_upto_region 11 with fail
   go_region
   have h55 := two5 HX.out HY.out HN HB.out (Nat.le_refl _) HM (.int .i64 xk) (.int .i64 xf) (.int .u64 xc) (.string xs) (.bool xx) (.int .i64 yk) (.int .i64 yf) (.int .u64 yc) (.string ys) (.bool yx)
   rw [show set5 (set5 w10 w.heap.size (.int .i64 xk) (.int .i64 xf) (.int .u64 xc) (.string xs) (.bool xx)) m1 (.int .i64 yk) (.int .i64 yf) (.int .u64 yc) (.string ys) (.bool yx) = ((((((((((w10.setCell ⟨w.heap.size, 0, none⟩ (.int .i64 xk)).setCell ⟨w.heap.size, 1, none⟩ (.int .i64 xf)).setCell ⟨w.heap.size, 2, none⟩ (.int .u64 xc)).setCell ⟨w.heap.size, 3, none⟩ (.string xs)).setCell ⟨w.heap.size, 4, none⟩ (.bool xx)).setCell ⟨m1, 0, none⟩ (.int .i64 yk)).setCell ⟨m1, 1, none⟩ (.int .i64 yf)).setCell ⟨m1, 2, none⟩ (.int .u64 yc)).setCell ⟨m1, 3, none⟩ (.string ys)).setCell ⟨m1, 4, none⟩ (.bool yx)) from rfl] at h55
   obtain ⟨q5, r5, hw5⟩ := h55
   have HW5 := Lib.hid hw5
   clear hw5
   generalize ((((((((((w10.setCell ⟨w.heap.size, 0, none⟩ (.int .i64 xk)).setCell ⟨w.heap.size, 1, none⟩ (.int .i64 xf)).setCell ⟨w.heap.size, 2, none⟩ (.int .u64 xc)).setCell ⟨w.heap.size, 3, none⟩ (.string xs)).setCell ⟨w.heap.size, 4, none⟩ (.bool xx)).setCell ⟨m1, 0, none⟩ (.int .i64 yk)).setCell ⟨m1, 1, none⟩ (.int .i64 yf)).setCell ⟨m1, 2, none⟩ (.int .u64 yc)).setCell ⟨m1, 3, none⟩ (.string ys)).setCell ⟨m1, 4, none⟩ (.bool yx)) = w5 at *
   obtain ⟨q50, q51, q52, q53, q54⟩ := cs5 q5 rfl rfl rfl rfl rfl
   obtain ⟨r50, r51, r52, r53, r54⟩ := cs5 r5 rfl rfl rfl rfl rfl
   clear q5 r5
   go_wp2_with fail
   refine bodyPost_ret (v := .tuple #[.agg #[.int .i64 xk, .int .i64 xf, .int .u64 xc, .string xs, .bool xx], .agg #[.int .i64 yk, .int .i64 yf, .int .u64 yc, .string ys, .bool yx], .int .i64 0]) (by simp [results, Tryz.results83, go_sem, q50, q51, q52, q53, q54, r50, r51, r52, r53, r54]) rfl ⟨by rw [HE2.out]; rfl, bmore HW5.out (bd _)⟩
end
end Go.Proofs.YtjmcaceegfdkkaaGreatDoor
