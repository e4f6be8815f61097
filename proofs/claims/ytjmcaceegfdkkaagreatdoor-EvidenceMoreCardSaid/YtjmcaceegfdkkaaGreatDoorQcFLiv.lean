/-
  The law's live, plain: the pool that it makes, what it is asked.
  The law's live: the walk.
-/
import Derived.Deep.RegionHeld3
import Derived.Test.YtjmcaceegfdkkaaGreatDoorQcFReq
import Derived.Test.YtjmcaceegfdkkaaGreatDoorQcZHas
import Derived.Test.YtjmcaceegfdkkaaGreatDoorQcFCon
import Derived.Test.YtjmcaceegfdkkaaGreatDoorQcLProm
import Derived.Test.YtjmcaceegfdkkaaGreatDoorQcTRefP
import Derived.Test.YtjmcaceegfdkkaaGreatDoorQcFBon
import Derived.Test.YtjmcaceegfdkkaaGreatDoorQcEApart
namespace Go.Proofs.YtjmcaceegfdkkaaGreatDoor
open Go.RowKit Go.Maps
set_option linter.unusedVariables false
def xS : ByteArray := ⟨#[120]⟩
def lL0 : Lt := ⟨1, 0, 7, xS, false⟩
def lL1 : Lt := ⟨1, 1, 7, xS, false⟩
def lL4 : Lt := ⟨4, 1, 7, xS, false⟩
def lP1 : Pl := (ofP (letT lL0 true true).1 (letT lL0 true true).2 []).2.2
def lP2 : Pl := (ofP (letT lL1 true true).1 (letT lL1 true true).2 lP1).2.2
def lP3 : Pl := (ofP (letT (repL lL0) true true).1 (letT (repL lL0) true true).2 lP2).2.2
def lP4 : Pl := (ofP (letT lL4 true true).1 (letT lL4 true true).2 lP3).2.2
theorem li0 : chkP lL0 = 0 := by kernel_rfl
theorem li1 : ofP (letT lL0 true true).1 (letT lL0 true true).2 [] = (6, 0, lP1) := by kernel_rfl
theorem li2 : ofP (letT lL1 true true).1 (letT lL1 true true).2 lP1 = (7, 0, lP2) := by kernel_rfl
theorem li3 : ofP (letT (repL lL0) true true).1 (letT (repL lL0) true true).2 lP2 = (10, 0, lP3) := by kernel_rfl
theorem li4 : ofP (letT lL4 true true).1 (letT lL4 true true).2 lP3 = (14, 0, lP4) := by kernel_rfl
theorem liq1 : prmL lP2 6 7 = (lL0, lL1, 0) := by kernel_rfl
theorem liq4 : prmL lP3 6 7 = (lL0, lL1, 0) := by kernel_rfl
theorem lic1 : cnvE (lL0, lL1, 0) = 0 := by kernel_rfl
theorem lic4 : reqE 1 (lL0, lL1, 0) = 0 := by kernel_rfl
theorem lird : rdP lP4 14 = some lL4 := by kernel_rfl
theorem lir6 : rdP lP3 6 = some lL0 := by kernel_rfl
theorem lir7 : rdP lP3 7 = some lL1 := by kernel_rfl
theorem lib1 : decide ((⟨2, 0, 7, xS⟩ : Fc) ∈ ofR lP4 10) = true := by kernel_rfl
theorem lib2 : decide ((⟨2, 0, 7, xS⟩ : Fc) ∈ ofR lP4 6) = false := by kernel_rfl
theorem liw : whyP lP4 6 0 7 xS = 2 := by kernel_rfl
theorem lio : (ofR lP4 10).length = 3 := by kernel_rfl
theorem lin1 : lP1.length + 20 ≤ 65536 := by rw [show lP1.length = 6 from by kernel_rfl]; decide
theorem lin2 : lP2.length + 20 ≤ 65536 := by rw [show lP2.length = 7 from by kernel_rfl]; decide
theorem lin3 : lP3.length + 50 ≤ 65536 := by rw [show lP3.length = 10 from by kernel_rfl]; decide
theorem lin3b : lP3.length + 20 ≤ 65536 := by rw [show lP3.length = 10 from by kernel_rfl]; decide
theorem lin4 : lP4.length ≤ 30000 := by rw [show lP4.length = 14 from by kernel_rfl]; decide
def lF0 : List Fc := [⟨1, 0, 7, xS⟩, ⟨1, 1, 7, xS⟩, ⟨4, 1, 7, xS⟩]
def lS4 : List Int := [14, 13, 12, 11, 7, 6, 5, 4, 3, 2, 1]
theorem takeN_kid (r : Int) (n : Nd) : takeN r n = 0 ∨ takeN r n = n.a ∨ takeN r n = n.b := by
 unfold takeN
 repeat' split
 all_goals simp
theorem lis1 : (lS4.all fun t => decide ((atP lP4 t).1.a ∈ 0 :: lS4) && decide ((atP lP4 t).1.b ∈ 0 :: lS4)) = true := by kernel_rfl
theorem lis2 : (lS4.all fun t => (ofR lP4 t).all fun f => decide (f ∈ lF0)) = true := by kernel_rfl
theorem lis3 : (lF0.all fun f => decide (f ∈ ofR lP4 14)) = true := by kernel_rfl
theorem lis4 : decide (lF0.Pairwise fun x y => cmpF x y < 0) = true := by kernel_rfl
theorem lis5 : addsG lP4 [] [14] = [14] := by kernel_rfl
theorem li_reach {t : Int} (h : Reach lP4 [14] t) : t ∈ lS4 := by
 induction h with
 | given h => rw [List.mem_singleton.1 h]; decide
 | step r _ h0 ih =>
  have h1 := List.all_eq_true.1 lis1 _ ih
  simp only [Bool.and_eq_true, decide_eq_true_eq, List.mem_cons] at h1
  rcases takeN_kid r (atP lP4 _).1 with e | e | e
  ·exact absurd e h0
  ·rw [e] at h0 ⊢
   rcases h1.1 with h2 | h2
   ·exact absurd h2 h0
   ·exact h2
  ·rw [e] at h0 ⊢
   rcases h1.2 with h2 | h2
   ·exact absurd h2 h0
   ·exact h2
theorem li_all {F : List Fc} (h : IsAll lP4 (addsG lP4 [] [14]) F) : F.length = 3 := by
 rw [lis5] at h
 have h0 : IsAll lP4 [14] lF0 := by
  refine ⟨of_decide_eq_true lis4, fun x => ⟨fun hx => ⟨14, .given (by simp), of_decide_eq_true (List.all_eq_true.1 lis3 x hx)⟩, ?_⟩⟩
  rintro ⟨t, ht, hx⟩
  exact of_decide_eq_true (List.all_eq_true.1 (List.all_eq_true.1 lis2 t (li_reach ht)) x hx)
 rw [h.one h0]
 rfl
theorem li_t0 {x : Tr} (hp : Ok lP3) (hx : RT lP3 6 x) (hb : Bare (one x)) : x = letT lL0 true true := by
 obtain ⟨_, f1, f2, _, e⟩ := (rd_isL hp hx hb lL0).1 lir6
 exact e.symm
theorem li_t1 {x : Tr} (hp : Ok lP3) (hx : RT lP3 7 x) (hb : Bare (one x)) : x = letT lL1 true true := by
 obtain ⟨_, f1, f2, _, e⟩ := (rd_isL hp hx hb lL1).1 lir7
 exact e.symm
theorem li_req {w : World} {B a b : Nat} {vv : Value} (hp : Ok lP3) {e : Ending} {w' : World} (h : ReqPost w B a b vv lP3 1 6 7 e w') : OfPost w B a b vv (14, 0, lP4) e w' := by
 unfold ReqPost at h
 rw [liq4, lic4] at h
 rcases h with h | h
 ·exact absurd rfl h.1
 ·obtain ⟨_, Ta, Tb, r1, r2, b1, b2, h2⟩ := h
  obtain rfl := li_t0 hp r1 b1
  obtain rfl := li_t1 hp r2 b2
  rw [show signT 1 (pairT (dataT resolveS) (pairT (letT lL0 true true) (letT lL1 true true))) = letT lL4 true true from rfl, li4] at h2
  exact h2
theorem li_build {w : World} {B a b : Nat} {vv : Value} {p p' : Pl} {l : Lt} {t : Int} (hc : chkP l = 0) (ho : ofP (letT l true true).1 (letT l true true).2 p = (t, 0, p')) {e : Ending} {w' : World} (h : BuildPost w B a b vv p l e w') : OfPost w B a b vv (t, 0, p') e w' := by
 rcases h with h | h
 ·exact absurd hc h.1
 ·rw [ho] at h; exact h.2
theorem li_cnv {w : World} {B a b : Nat} {vv : Value} {p p' : Pl} {q : Lt × Lt × Int} {l m : Lt} {t : Int} (hq : q = (l, m, 0)) (hc : cnvE (l, m, 0) = 0) (ho : ofP (letT (repL l) true true).1 (letT (repL l) true true).2 p = (t, 0, p')) {e : Ending} {w' : World} (h : CnvPost w B a b vv p q e w') : OfPost w B a b vv (t, 0, p') e w' := by
 subst hq
 rcases h with h | h
 ·exact absurd hc h.1
 ·rw [ho] at h; exact h.2
theorem li_cnv_no {w : World} {B a b : Nat} {vv : Value} {p : Pl} {q : Lt × Lt × Int} {c : Int} (hc : cnvE q = c) (h0 : c ≠ 0) {e : Ending} {w' : World} (h : CnvPost w B a b vv p q e w') : e = .returned (.tuple #[.int .i64 0, .int .i64 c]) ∧ Below w.heap.size w w' := by
 rcases h with h | h
 ·rw [hc] at h; exact h.2
 ·exact absurd (hc.symm.trans h.1) h0
theorem lic3 : cnvE (prmL lP3 6 10) = 120 := by kernel_rfl
theorem liq2c : cnvE (prmL lP3 6 6) = 122 := by kernel_rfl
theorem lirow (w : World) (t : Int) : Row (w.alloc (.cells #[.int .i64 t] TermT)) 1 (.slice (some ⟨w.heap.size, 0, none⟩) 1 1) [t].length (ints [t]) := row_of_own (row_one w 0 (Nat.zero_le _) t)
end Go.Proofs.YtjmcaceegfdkkaaGreatDoor
namespace Go.Proofs.YtjmcaceegfdkkaaGreatDoor
open Go.RowKit Go.Maps
set_option linter.unusedVariables false
set_option maxRecDepth 100000 in
set_option maxHeartbeats 51200000 in
theorem live_any {w : World} (hL : Laid w) (hl : LaidK w) : Calls Tryz.prog 14 #[] w fun e w' => e = .returned (.bool true) ∧ Below w.heap.size w w' := by
 have HL := Lib.hid hL
 have HK := Lib.hid hl
 have HLT := Lib.hid hL.lt
 clear hL hl
 go_enter Tryz.func14, Tryz.ntmps14
 go_wp2_with fail
 refine (pnew _).mono ?_
 rintro e w1 ⟨rfl, p1, u1⟩
 have P1 := Lib.hid p1
 have U1 := Lib.hid u1
 clear p1 u1
 generalize hpa : w.heap.size + 1 = pa at *
 clear hpa
 have BA := Lib.hid (show Calls Tryz.prog 62 #[.pointer (some ⟨pa, 0, none⟩), .agg #[.int .i64 1, .int .i64 0, .int .u64 7, .string ⟨#[120]⟩, .bool false]] w1 (BuildPost w1 w.heap.size pa w.heap.size (.slice none 0 0) [] lL0) from build_any HLT.out (HL.out.below U1.out) (HK.out.below U1.out) P1.out (by decide) (by decide))
 go_wp2_with fail
 refine BA.out.mono ?_
 intro e w2 h2
 obtain ⟨rfl, g2⟩ := li_build li0 li1 h2
 obtain ⟨g2, _, v2, p2, _⟩ := g2
 have P2 := Lib.hid p2
 have U2 := Lib.hid (U1.out.trans g2)
 clear h2 g2 p2 BA
 have BB := Lib.hid (show Calls Tryz.prog 62 #[.pointer (some ⟨pa, 0, none⟩), .agg #[.int .i64 1, .int .i64 1, .int .u64 7, .string ⟨#[120]⟩, .bool false]] w2 (BuildPost w2 w.heap.size pa w.heap.size v2 lP1 lL1) from build_any HLT.out (HL.out.below U2.out) (HK.out.below U2.out) P2.out (by decide) lin1)
 go_wp2_with fail
 refine BB.out.mono ?_
 intro e w3 h3
 obtain ⟨rfl, g3⟩ := li_build (show chkP lL1 = 0 by kernel_rfl) li2 h3
 obtain ⟨g3, _, v3, p3, _⟩ := g3
 have P3 := Lib.hid p3
 have U3 := Lib.hid (U2.out.trans g3)
 clear h3 g3 p3 BB P1 P2
 have CA := Lib.hid (cnv_any HLT.out (HL.out.below U3.out) (HK.out.below U3.out) P3.out lin2 6 7)
 go_wp2_with fail
 refine CA.out.mono ?_
 intro e w4 h4
 obtain ⟨rfl, g4⟩ := li_cnv liq1 lic1 li3 h4
 obtain ⟨g4, _, v4, p4, _⟩ := g4
 have P4 := Lib.hid p4
 have U4 := Lib.hid (U3.out.trans g4)
 clear h4 g4 p4 CA P3
 have CB := Lib.hid (cnv_any HLT.out (HL.out.below U4.out) (HK.out.below U4.out) P4.out lin3b 6 6)
 go_wp2_with fail
 refine CB.out.mono ?_
 intro e w5 h5
 obtain ⟨rfl, u5⟩ := li_cnv_no liq2c (by decide) h5
 have P5 := Lib.hid (P4.out.below u5)
 have U5 := Lib.hid (bmore U4.out u5)
 clear h5 u5 CB P4
 have CC := Lib.hid (cnv_any HLT.out (HL.out.below U5.out) (HK.out.below U5.out) P5.out lin3b 6 10)
 go_wp2_with fail
 refine CC.out.mono ?_
 intro e w6 h6
 obtain ⟨rfl, u6⟩ := li_cnv_no lic3 (by decide) h6
 have P6 := Lib.hid (P5.out.below u6)
 have U6 := Lib.hid (bmore U5.out u6)
 clear h6 u6 CC P5
 have RQ := Lib.hid (req_any HLT.out (HL.out.below U6.out) (HK.out.below U6.out) P6.out lin3 1 6 7)
 have HOK6 := Lib.hid P6.out.ok
 go_wp2_with fail
 refine RQ.out.mono ?_
 intro e w7 h7
 obtain ⟨rfl, g7⟩ := li_req HOK6.out h7
 obtain ⟨g7, _, v7, p7, _⟩ := g7
 have P7 := Lib.hid p7
 have U7 := Lib.hid (U6.out.trans g7)
 clear h7 g7 p7 RQ P6 HOK6
 have RD := Lib.hid (read_any (nodes_pool P7.out) P7.out.ok (HK.out.below U7.out) 14)
 rw [lird] at RD
 go_wp2_with fail
 refine RD.out.mono ?_
 rintro e w8 ⟨rfl, u8⟩
 have P8 := Lib.hid (P7.out.below u8)
 have U8 := Lib.hid (bmore U7.out u8)
 clear u8 RD P7
 simp only [ltV, ltA, lL4]
 go_upto_region 11 with fail
 have hbx := heap_alloc_new w8 (.cells #[.int .i64 4, .int .i64 1, .int .u64 7, .string xS, .bool false] LtT)
 have P9 := Lib.hid (P8.out.below (bZ w8 (.cells #[.int .i64 4, .int .i64 1, .int .u64 7, .string xS, .bool false] LtT)))
 have U9 := Lib.hid (bmore U8.out (bZ w8 (.cells #[.int .i64 4, .int .i64 1, .int .u64 7, .string xS, .bool false] LtT)))
 clear P8 U8
 generalize (w8.alloc (.cells #[.int .i64 4, .int .i64 1, .int .u64 7, .string xS, .bool false] LtT)) = w9 at *
 generalize w8.heap.size = bx at *
 have x0 : w9.cell? ⟨bx, 0, none⟩ = some (.int .i64 4) := cellB (j := 0) hbx rfl
 have x1 : w9.cell? ⟨bx, 1, none⟩ = some (.int .i64 1) := cellB (j := 1) hbx rfl
 have HKP := Lib.hid (fun (W : World) (hb : Below w9.heap.size w9 W) => (⟨bcellAt hb x0, bcellAt hb x1, hb⟩ : W.cell? ⟨bx, 0, none⟩ = some (.int .i64 4) ∧ W.cell? ⟨bx, 1, none⟩ = some (.int .i64 1) ∧ Below w9.heap.size w9 W))
 have NU := Lib.hid (fun (n : Int) (W : World) => num12_any n W)
 have B1 := Lib.hid (fun (W : World) (hb : Below w9.heap.size w9 W) => (show Calls Tryz.prog 24 #[.pointer (some ⟨pa, 0, none⟩), .int .i64 10, .int .i64 0, .int .u64 7, .string ⟨#[120]⟩] W fun e w' => e = .returned (.bool true) ∧ Below W.heap.size W w' from by
  have h := binds_any (nodes_pool (P9.out.below hb)) P9.out.ok (HK.out.below (bmore U9.out hb)) 10 0 7 xS
  rw [lib1] at h
  exact h))
 have B2 := Lib.hid (fun (W : World) (hb : Below w9.heap.size w9 W) => (show Calls Tryz.prog 24 #[.pointer (some ⟨pa, 0, none⟩), .int .i64 6, .int .i64 0, .int .u64 7, .string ⟨#[120]⟩] W fun e w' => e = .returned (.bool false) ∧ Below W.heap.size W w' from by
  have h := binds_any (nodes_pool (P9.out.below hb)) P9.out.ok (HK.out.below (bmore U9.out hb)) 6 0 7 xS
  rw [lib2] at h
  exact h))
 have B3 := Lib.hid (fun (W : World) (hb : Below w9.heap.size w9 W) => (show Calls Tryz.prog 23 #[.pointer (some ⟨pa, 0, none⟩), .int .i64 6, .int .i64 0, .int .u64 7, .string ⟨#[120]⟩] W fun e w' => e = .returned (.int .i64 2) ∧ Below W.heap.size W w' from by
  have h := why_any (nodes_pool (P9.out.below hb)) P9.out.ok (HK.out.below (bmore U9.out hb)) 6 0 7 xS
  rw [liw] at h
  exact h))
 have B4 := Lib.hid (fun (W : World) (hb : Below w9.heap.size w9 W) => (show Calls Tryz.prog 18 #[.pointer (some ⟨pa, 0, none⟩), .int .i64 10] W fun e w' => ∃ a c, e = .returned (.slice a 3 c) ∧ Below W.heap.size W w' from by
  have h := of_any (nodes_pool (P9.out.below hb)) P9.out.ok (HK.out.below (bmore U9.out hb)) 10
  refine h.mono ?_
  rintro e w' ⟨v, rfl, hv, u⟩
  rw [lio] at hv
  obtain ⟨oa, oc, rfl⟩ := (row_of_own hv).shape
  exact ⟨oa, oc, rfl, u⟩))
 have B5 := Lib.hid (fun (W : World) (hb : Below w9.heap.size w9 W) => (show Calls Tryz.prog 25 #[.pointer (some ⟨pa, 0, none⟩), .slice (some ⟨W.heap.size, 0, none⟩) 1 1] (W.alloc (.cells #[.int .i64 14] TermT)) fun e w' => ∃ a c, e = .returned (.slice a 3 c) ∧ Below (W.alloc (.cells #[.int .i64 14] TermT)).heap.size (W.alloc (.cells #[.int .i64 14] TermT)) w' from by
  have h := all_any ((P9.out.below hb).below (bZ W (.cells #[.int .i64 14] TermT))) (HK.out.below (bmore (bmore U9.out hb) (bZ W (.cells #[.int .i64 14] TermT)))) lin4 (lirow W 14) (by simp [i64R]) (by simp)
  refine h.mono ?_
  rintro e w' ⟨v, F, rfl, hv, hF, u⟩
  rw [li_all hF] at hv
  obtain ⟨oa, oc, rfl⟩ := (row_of_own hv).shape
  exact ⟨oa, oc, rfl, u⟩))
 clear P9 hbx HL HLT
 clear HKP
 go_wp2_with ((with_reducible refine (NU.out _ _).mono ?_); rintro e wn ⟨rfl, rfl⟩)
 refine (B1.out _ (Below.refl _ _)).mono ?_
 rintro e wa ⟨rfl, ua⟩
 have b10 := Lib.hid ua
 have y0 := bcellAt ua x0
 have y1 := bcellAt ua x1
 clear ua
 go_wp2_with fail
 refine (B2.out _ b10.out).mono ?_
 rintro e wb ⟨rfl, ub⟩
 have b11 := Lib.hid (bmore b10.out ub)
 clear ub
 go_wp2_with fail
 refine (B3.out _ b11.out).mono ?_
 rintro e wc ⟨rfl, uc⟩
 have b12 := Lib.hid (bmore b11.out uc)
 clear uc
 go_wp2_with fail
 refine (B4.out _ b12.out).mono ?_
 rintro e wd ⟨da, dc, rfl, ud⟩
 have b13 := Lib.hid (bmore b12.out ud)
 clear ud
 go_wp2_with fail
 refine (B5.out _ b13.out).mono ?_
 rintro e we ⟨ea, ec, rfl, ue⟩
 have HF := Lib.hid (bmore U9.out (bmore (bmore b13.out (bZ _ _)) ue))
 clear b10 b11 b12 b13 ue
 go_wp2_with fail
 go_returns
 exact ⟨rfl, HF.out⟩
end Go.Proofs.YtjmcaceegfdkkaaGreatDoor
