/-
  The law's live: the walk.
  The law's own walk: EvidenceNil.
  What the row's condition gives the walks: the table of the kinds' fields.
-/
import Derived.Deep.RegionHeld3
import Derived.Test.YtjmcaceegfdkkaaGreatDoorRows
import Derived.LaidMore
import Derived.MakeChecks
import Derived.JoinedOf
import Derived.Stop.Joined
import Derived.Test.YtjmcaceegfdkkaaGreatDoorQaFLvP
import Derived.Test.YtjmcaceegfdkkaaGreatDoorQaFBon
import Derived.Test.YtjmcaceegfdkkaaGreatDoorQaEApart
import Derived.Test.YtjmcaceegfdkkaaGreatDoorQaTKey
namespace Go.Proofs.YtjmcaceegfdkkaaGreatDoor
open Go.RowKit Go.Maps
set_option linter.unusedVariables false
set_option maxRecDepth 100000 in
set_option maxHeartbeats 51200000 in
theorem live_any {w : World} (hL : Laid w) (hl : LaidK w) : Calls Tryz.prog 14 #[] w fun e w' => e = .returned (.bool true) ∧ Below w.heap.size w w' := by
  have HL := Lib.hid hL
  have HK := Lib.hid hl
  have HLT := Lib.hid hL.lt
  clear hL hl
  go_enter Tryz.func14, Tryz.ntmps14
  go_wp2_with fail
  refine (pnew _).mono ?_
  rintro e w1 ⟨rfl, p1, u1⟩
  have P1 := Lib.hid p1
  have U1 := Lib.hid u1
  clear p1 u1
  generalize hpa : w.heap.size + 1 = pa at *
  clear hpa
  have BA := Lib.hid (show Calls Tryz.prog 62 #[.pointer (some ⟨pa, 0, none⟩), .agg #[.int .i64 1, .int .i64 0, .int .u64 7, .string ⟨#[120]⟩, .bool false]] w1 (BuildPost w1 w.heap.size pa w.heap.size (.slice none 0 0) [] lL0) from build_any HLT.out (HL.out.below U1.out) (HK.out.below U1.out) P1.out (by decide) (by decide))
  go_wp2_with fail
  refine BA.out.mono ?_
  intro e w2 h2
  obtain ⟨rfl, g2⟩ := li_build li0 li1 h2
  obtain ⟨g2, _, v2, p2, _⟩ := g2
  have P2 := Lib.hid p2
  have U2 := Lib.hid (U1.out.trans g2)
  clear h2 g2 p2 BA
  have BB := Lib.hid (show Calls Tryz.prog 62 #[.pointer (some ⟨pa, 0, none⟩), .agg #[.int .i64 1, .int .i64 1, .int .u64 7, .string ⟨#[120]⟩, .bool false]] w2 (BuildPost w2 w.heap.size pa w.heap.size v2 lP1 lL1) from build_any HLT.out (HL.out.below U2.out) (HK.out.below U2.out) P2.out (by decide) lin1)
  go_wp2_with fail
  refine BB.out.mono ?_
  intro e w3 h3
  obtain ⟨rfl, g3⟩ := li_build (show chkP lL1 = 0 by kernel_rfl) li2 h3
  obtain ⟨g3, _, v3, p3, _⟩ := g3
  have P3 := Lib.hid p3
  have U3 := Lib.hid (U2.out.trans g3)
  clear h3 g3 p3 BB P1 P2
  have CA := Lib.hid (cnv_any HLT.out (HL.out.below U3.out) (HK.out.below U3.out) P3.out lin2 6 7)
  go_wp2_with fail
  refine CA.out.mono ?_
  intro e w4 h4
  obtain ⟨rfl, g4⟩ := li_cnv liq1 lic1 li3 h4
  obtain ⟨g4, _, v4, p4, _⟩ := g4
  have P4 := Lib.hid p4
  have U4 := Lib.hid (U3.out.trans g4)
  clear h4 g4 p4 CA P3
  have CB := Lib.hid (cnv_any HLT.out (HL.out.below U4.out) (HK.out.below U4.out) P4.out lin3b 6 6)
  go_wp2_with fail
  refine CB.out.mono ?_
  intro e w5 h5
  obtain ⟨rfl, u5⟩ := li_cnv_no liq2c (by decide) h5
  have P5 := Lib.hid (P4.out.below u5)
  have U5 := Lib.hid (bmore U4.out u5)
  clear h5 u5 CB P4
  have CC := Lib.hid (cnv_any HLT.out (HL.out.below U5.out) (HK.out.below U5.out) P5.out lin3b 6 10)
  go_wp2_with fail
  refine CC.out.mono ?_
  intro e w6 h6
  obtain ⟨rfl, u6⟩ := li_cnv_no lic3 (by decide) h6
  have P6 := Lib.hid (P5.out.below u6)
  have U6 := Lib.hid (bmore U5.out u6)
  clear h6 u6 CC P5
  have RQ := Lib.hid (req_any HLT.out (HL.out.below U6.out) (HK.out.below U6.out) P6.out lin3 1 6 7)
  have HOK6 := Lib.hid P6.out.ok
  go_wp2_with fail
  refine RQ.out.mono ?_
  intro e w7 h7
  obtain ⟨rfl, g7⟩ := li_req HOK6.out h7
  obtain ⟨g7, _, v7, p7, _⟩ := g7
  have P7 := Lib.hid p7
  have U7 := Lib.hid (U6.out.trans g7)
  clear h7 g7 p7 RQ P6 HOK6
  have RD := Lib.hid (read_any (nodes_pool P7.out) P7.out.ok (HK.out.below U7.out) 14)
  rw [lird] at RD
  go_wp2_with fail
  refine RD.out.mono ?_
  rintro e w8 ⟨rfl, u8⟩
  have P8 := Lib.hid (P7.out.below u8)
  have U8 := Lib.hid (bmore U7.out u8)
  clear u8 RD P7
  simp only [ltV, ltA, lL4]
  go_upto_region 11 with fail
  have hbx := heap_alloc_new w8 (.cells #[.int .i64 4, .int .i64 1, .int .u64 7, .string xS, .bool false] LtT)
  have P9 := Lib.hid (P8.out.below (bZ w8 (.cells #[.int .i64 4, .int .i64 1, .int .u64 7, .string xS, .bool false] LtT)))
  have U9 := Lib.hid (bmore U8.out (bZ w8 (.cells #[.int .i64 4, .int .i64 1, .int .u64 7, .string xS, .bool false] LtT)))
  clear P8 U8
  generalize (w8.alloc (.cells #[.int .i64 4, .int .i64 1, .int .u64 7, .string xS, .bool false] LtT)) = w9 at *
  generalize w8.heap.size = bx at *
  have x0 : w9.cell? ⟨bx, 0, none⟩ = some (.int .i64 4) := cellB (j := 0) hbx rfl
  have x1 : w9.cell? ⟨bx, 1, none⟩ = some (.int .i64 1) := cellB (j := 1) hbx rfl
  have HKP := Lib.hid (fun (W : World) (hb : Below w9.heap.size w9 W) => (⟨bcellAt hb x0, bcellAt hb x1, hb⟩ : W.cell? ⟨bx, 0, none⟩ = some (.int .i64 4) ∧ W.cell? ⟨bx, 1, none⟩ = some (.int .i64 1) ∧ Below w9.heap.size w9 W))
  have NU := Lib.hid (fun (n : Int) (W : World) => num12_any n W)
  have B1 := Lib.hid (fun (W : World) (hb : Below w9.heap.size w9 W) => (show Calls Tryz.prog 24 #[.pointer (some ⟨pa, 0, none⟩), .int .i64 10, .int .i64 0, .int .u64 7, .string ⟨#[120]⟩] W fun e w' => e = .returned (.bool true) ∧ Below W.heap.size W w' from by
    have h := binds_any (nodes_pool (P9.out.below hb)) P9.out.ok (HK.out.below (bmore U9.out hb)) 10 0 7 xS
    rw [lib1] at h
    exact h))
  have B2 := Lib.hid (fun (W : World) (hb : Below w9.heap.size w9 W) => (show Calls Tryz.prog 24 #[.pointer (some ⟨pa, 0, none⟩), .int .i64 6, .int .i64 0, .int .u64 7, .string ⟨#[120]⟩] W fun e w' => e = .returned (.bool false) ∧ Below W.heap.size W w' from by
    have h := binds_any (nodes_pool (P9.out.below hb)) P9.out.ok (HK.out.below (bmore U9.out hb)) 6 0 7 xS
    rw [lib2] at h
    exact h))
  have B3 := Lib.hid (fun (W : World) (hb : Below w9.heap.size w9 W) => (show Calls Tryz.prog 23 #[.pointer (some ⟨pa, 0, none⟩), .int .i64 6, .int .i64 0, .int .u64 7, .string ⟨#[120]⟩] W fun e w' => e = .returned (.int .i64 2) ∧ Below W.heap.size W w' from by
    have h := why_any (nodes_pool (P9.out.below hb)) P9.out.ok (HK.out.below (bmore U9.out hb)) 6 0 7 xS
    rw [liw] at h
    exact h))
  have B4 := Lib.hid (fun (W : World) (hb : Below w9.heap.size w9 W) => (show Calls Tryz.prog 18 #[.pointer (some ⟨pa, 0, none⟩), .int .i64 10] W fun e w' => ∃ a c, e = .returned (.slice a 3 c) ∧ Below W.heap.size W w' from by
    have h := of_any (nodes_pool (P9.out.below hb)) P9.out.ok (HK.out.below (bmore U9.out hb)) 10
    refine h.mono ?_
    rintro e w' ⟨v, rfl, hv, u⟩
    rw [lio] at hv
    obtain ⟨oa, oc, rfl⟩ := (row_of_own hv).shape
    exact ⟨oa, oc, rfl, u⟩))
  have B5 := Lib.hid (fun (W : World) (hb : Below w9.heap.size w9 W) => (show Calls Tryz.prog 25 #[.pointer (some ⟨pa, 0, none⟩), .slice (some ⟨W.heap.size, 0, none⟩) 1 1] (W.alloc (.cells #[.int .i64 14] TermT)) fun e w' => ∃ a c, e = .returned (.slice a 3 c) ∧ Below (W.alloc (.cells #[.int .i64 14] TermT)).heap.size (W.alloc (.cells #[.int .i64 14] TermT)) w' from by
    have h := all_any ((P9.out.below hb).below (bZ W (.cells #[.int .i64 14] TermT))) (HK.out.below (bmore (bmore U9.out hb) (bZ W (.cells #[.int .i64 14] TermT)))) lin4 (lirow W 14) (by simp [i64R]) (by simp)
    refine h.mono ?_
    rintro e w' ⟨v, F, rfl, hv, hF, u⟩
    rw [li_all hF] at hv
    obtain ⟨oa, oc, rfl⟩ := (row_of_own hv).shape
    exact ⟨oa, oc, rfl, u⟩))
  clear P9 hbx HL HLT
  clear HKP
  go_wp2_with ((with_reducible refine (NU.out _ _).mono ?_); rintro e wn ⟨rfl, rfl⟩)
  refine (B1.out _ (Below.refl _ _)).mono ?_
  rintro e wa ⟨rfl, ua⟩
  have b10 := Lib.hid ua
  have y0 := bcellAt ua x0
  have y1 := bcellAt ua x1
  clear ua
  go_wp2_with fail
  refine (B2.out _ b10.out).mono ?_
  rintro e wb ⟨rfl, ub⟩
  have b11 := Lib.hid (bmore b10.out ub)
  clear ub
  go_wp2_with fail
  refine (B3.out _ b11.out).mono ?_
  rintro e wc ⟨rfl, uc⟩
  have b12 := Lib.hid (bmore b11.out uc)
  clear uc
  go_wp2_with fail
  refine (B4.out _ b12.out).mono ?_
  rintro e wd ⟨da, dc, rfl, ud⟩
  have b13 := Lib.hid (bmore b12.out ud)
  clear ud
  go_wp2_with fail
  refine (B5.out _ b13.out).mono ?_
  rintro e we ⟨ea, ec, rfl, ue⟩
  have HF := Lib.hid (bmore U9.out (bmore (bmore b13.out (bZ _ _)) ue))
  clear b10 b11 b12 b13 ue
  go_wp2_with fail
  go_returns
  exact ⟨rfl, HF.out⟩
end Go.Proofs.YtjmcaceegfdkkaaGreatDoor
namespace Go.Proofs.YtjmcaceegfdkkaaGreatDoor
open Go.RowKit Go.Maps
set_option linter.unusedVariables false
set_option maxRecDepth 100000 in
set_option maxHeartbeats 25600000 in
theorem nil_walk {w : World} (hL : Laid w) (hl : LaidK w) : Calls Tryz.prog 9 #[] w fun e w' => e = .returned (.bool true) ∧ Below w.heap.size w w' := by
  have HL := Lib.hid hL
  have HK := Lib.hid hl
  clear hL hl
  have NU := Lib.hid (fun (n : Int) (W : World) => num12_any n W)
  go_enter Tryz.func9, Tryz.ntmps9
  go_wp2_with fail
  refine (cnv_nil _ 1 2).mono ?_
  rintro e w1 ⟨rfl, u1⟩
  have U1 := Lib.hid u1
  clear u1
  go_wp2_with fail
  refine (req_nil _ 1 2).mono ?_
  rintro e w2 ⟨rfl, u2⟩
  have U2 := Lib.hid (bmore U1.out u2)
  clear u2
  go_wp2_with fail
  refine (live_any (HL.out.below U2.out) (HK.out.below U2.out)).mono ?_
  rintro e w3 ⟨rfl, u3⟩
  have U3 := Lib.hid (bmore U2.out u3)
  clear u3
  go_wp2_with fail
  refine (of_any (nodes_nil w3) Ok.nil (HK.out.below U3.out) 1).mono ?_
  rintro e w4 ⟨v4, rfl, h4, u4⟩
  rw [show (ofR [] 1).length = 0 from by kernel_rfl] at h4
  obtain ⟨oa, oc, rfl⟩ := (row_of_own h4).shape
  have U4 := Lib.hid (bmore (bmore U3.out u4) (bZ w4 (.cells #[.int .i64 1] TermT)))
  have AN := Lib.hid (all_nil (lirow w4 1) (by simp))
  clear u4 h4
  go_wp2_with fail
  refine AN.out.mono ?_
  rintro e w5 ⟨a5, c5, rfl, u5⟩
  have U5 := Lib.hid (bmore U4.out u5)
  clear u5 AN
  have WH := Lib.hid (show Calls Tryz.prog 23 #[.pointer none, .int .i64 1, .int .i64 0, .int .u64 0, .string ⟨#[]⟩] w5 fun e w' => e = .returned (.int .i64 1) ∧ Below w5.heap.size w5 w' from by
    have h := why_any (nodes_nil w5) Ok.nil (HK.out.below U5.out) 1 0 0 ⟨#[]⟩
    rw [show whyP [] 1 0 0 ⟨#[]⟩ = 1 from by kernel_rfl] at h
    exact h)
  go_wp2_with fail
  refine WH.out.mono ?_
  rintro e w6 ⟨rfl, u6⟩
  have U6 := Lib.hid (bmore U5.out u6)
  clear u6 WH
  go_wp2_with ((with_reducible refine (NU.out _ _).mono ?_); rintro e wn ⟨rfl, rfl⟩)
  go_returns
  exact ⟨rfl, U6.out⟩
end Go.Proofs.YtjmcaceegfdkkaaGreatDoor
namespace Go.Proofs.YtjmcaceegfdkkaaGreatDoor
open Go.ChangeShapes Go.WideShapes Go.ChangeAt Go.WideMaps Go.WideElems Go.RowKit
set_option linter.unusedVariables false
abbrev laidL : List (String × DataW Unit) := [("escrow/term.shapes", Rows.laid_escrow_term_shapes), ("escrow/letter.kinds", Rows.laid_escrow_letter_kinds)]
def shD (k : Nat) : DataW Unit := .agg [.lit (.bool (namedB (k : Int))), .lit (.bool (twoB (k : Int))), .lit (.bool ((k : Int) == 2)), .lit (.bool ((k : Int) == 3)), .lit (.int .i64 (kidsN (k : Int) : Int))]
theorem datum_eq : (Rows.laid_escrow_term_shapes (H := Unit)) = .agg ((List.range 10).map shD) := by kernel_rfl
theorem gShapes : Tryz.prog.globalNamed "escrow/term.shapes" = some 1 := by kernel_rfl
theorem tShapes : (Tryz.prog.globals[1]?).map (·.type) = some 223 := by kernel_rfl
set_option maxRecDepth 100000 in
theorem trod_shape {H : Type} {enc : TypeId × Value → H} {W : World} {base fuel : Nat} {sp : Nat → Bool} {held : Bool} {cs : List Value} {x : DataW H × List MemPlace} {b0 b1 b2 b3 : Bool} {m : Int}
    (ht : DataW.trod enc Tryz.prog W base sp held fuel ShT cs = some x) (hx : x.1 = .agg [.lit (.bool b0), .lit (.bool b1), .lit (.bool b2), .lit (.bool b3), .lit (.int .i64 m)]) :
    cs = [.bool b0, .bool b1, .bool b2, .bool b3, .int .i64 m] := by
  obtain ⟨ys, k, _, hxx, hl, hyl, hfld⟩ := DataW.trod_struct Tryz.underlying150 ht
  rw [hxx] at hx
  have c5 : Tryz.prog.cellsOf 150 = 5 := by kernel_rfl
  have cb : Tryz.prog.cellsOf 4 = 1 := by kernel_rfl
  have ci : Tryz.prog.cellsOf 3 = 1 := by kernel_rfl
  rw [c5] at hl
  match cs, hl with
  | [u0, u1, u2, u3, u4], _ =>
    have f0 : DataW.trod enc Tryz.prog W base sp held k 4 (([u0, u1, u2, u3, u4].drop 0).take (Tryz.prog.cellsOf 4)) = ys[0]? := hfld 0 _ rfl
    have f1 : DataW.trod enc Tryz.prog W base sp held k 4 (([u0, u1, u2, u3, u4].drop 1).take (Tryz.prog.cellsOf 4)) = ys[1]? := hfld 1 _ rfl
    have f2 : DataW.trod enc Tryz.prog W base sp held k 4 (([u0, u1, u2, u3, u4].drop 2).take (Tryz.prog.cellsOf 4)) = ys[2]? := hfld 2 _ rfl
    have f3 : DataW.trod enc Tryz.prog W base sp held k 4 (([u0, u1, u2, u3, u4].drop 3).take (Tryz.prog.cellsOf 4)) = ys[3]? := hfld 3 _ rfl
    have f4 : DataW.trod enc Tryz.prog W base sp held k 3 (([u0, u1, u2, u3, u4].drop 4).take (Tryz.prog.cellsOf 3)) = ys[4]? := hfld 4 _ rfl
    rw [cb] at f0 f1 f2 f3
    rw [ci] at f4
    simp only [List.drop_zero, List.drop_succ_cons, List.take_succ_cons, List.take_zero] at f0 f1 f2 f3 f4
    match ys, hyl with
    | [y0, y1, y2, y3, y4], _ =>
      simp only [List.map_cons, List.map_nil, DataW.agg.injEq, List.cons.injEq, and_true] at hx
      obtain ⟨h0, h1, h2, h3, h4⟩ := hx
      obtain ⟨v0, e0, w0⟩ := DataW.trod_bool Tryz.underlying4 (show DataW.trod enc Tryz.prog W base sp held k 4 [u0] = some y0 from f0)
      obtain ⟨v1, e1, w1⟩ := DataW.trod_bool Tryz.underlying4 (show DataW.trod enc Tryz.prog W base sp held k 4 [u1] = some y1 from f1)
      obtain ⟨v2, e2, w2⟩ := DataW.trod_bool Tryz.underlying4 (show DataW.trod enc Tryz.prog W base sp held k 4 [u2] = some y2 from f2)
      obtain ⟨v3, e3, w3⟩ := DataW.trod_bool Tryz.underlying4 (show DataW.trod enc Tryz.prog W base sp held k 4 [u3] = some y3 from f3)
      obtain ⟨v4, e4, w4, _⟩ := DataW.trod_int Tryz.underlying3 (show DataW.trod enc Tryz.prog W base sp held k 3 [u4] = some y4 from f4)
      rw [w0] at h0
      rw [w1] at h1
      rw [w2] at h2
      rw [w3] at h3
      rw [w4] at h4
      simp only [DataW.lit.injEq, Lit.bool.injEq, Lit.int.injEq, true_and] at h0 h1 h2 h3 h4
      simp only [List.cons.injEq, and_true] at e0 e1 e2 e3 e4
      rw [e0, e1, e2, e3, e4, h0, h1, h2, h3, h4]
theorem at_of_take {L : List Value} {n : Nat} {a0 a1 a2 a3 a4 : Value} (h : (L.drop n).take 5 = [a0, a1, a2, a3, a4]) : L[n]? = some a0 ∧ L[n + 1]? = some a1 ∧ L[n + 2]? = some a2 ∧ L[n + 3]? = some a3 ∧ L[n + 4]? = some a4 := by
  have g : ∀ j, j < 5 → L[n + j]? = [a0, a1, a2, a3, a4][j]? := fun j hj => by
    rw [← h, List.getElem?_take, if_pos hj, List.getElem?_drop]
  exact ⟨g 0 (by decide), g 1 (by decide), g 2 (by decide), g 3 (by decide), g 4 (by decide)⟩
set_option maxRecDepth 100000 in
theorem of_laid {W : World} (h : laidMetH Tryz.prog laidL W) : Laid W := by
  rw [MakeChecks.laidMetH_plain _ _ _ (by kernel_rfl)] at h
  obtain ⟨ps, ⟨g0, t0, cs0, f0, p0, q0, hg0, ht0, hv0, hd0, _, _⟩, _⟩ := h
  obtain rfl := Option.some.inj (gShapes.symm.trans hg0)
  obtain rfl := Option.some.inj (tShapes.symm.trans ht0)
  rw [datum_eq] at hd0
  obtain ⟨xs, m, _, hx, _, hn, hel⟩ := DataW.trod_array Tryz.underlying223 hd0
  have c5 : Tryz.prog.cellsOf 150 = 5 := by kernel_rfl
  simp only [Prod.mk.injEq, DataW.agg.injEq] at hx
  intro k hk
  have hek := hel k hk
  rw [c5] at hek
  have hxk : xs[k]? = some (xs[k]'(by omega)) := List.getElem?_eq_getElem (by omega)
  rw [hxk] at hek
  have hd : (xs[k]'(by omega)).1 = shD k := by
    have := congrArg (fun l => l[k]?) hx.1
    simp only [List.getElem?_map, hxk, Option.map_some, List.getElem?_range hk] at this
    exact (Option.some.inj this).symm
  have hc := trod_shape hek hd
  obtain ⟨a0, a1, a2, a3, a4⟩ := at_of_take hc
  refine ⟨?_, ?_, ?_, ?_, ?_⟩
  · rw [World.var?_cell hg0 hv0, ← a0]; simp
  · rw [World.var?_cell hg0 hv0, ← a1]; simp
  · rw [World.var?_cell hg0 hv0, ← a2]; simp
  · rw [World.var?_cell hg0 hv0, ← a3]; simp
  · rw [World.var?_cell hg0 hv0, ← a4]; simp
/-- The door's own heap meets the condition: three closed facts. -/
theorem door_met (os : Os) (args : Array Value) : laidMetH Tryz.prog laidL ((World.doorLaid Tryz.prog 400 os).forCall (fun _ _ => 0) ⟨#[], args, []⟩).memory :=
  laidMetH_of_parts3 (fuel := 8) (laidMet_of_run' 8 (by kernel_rfl) (by kernel_rfl)) (by kernel_rfl) (by kernel_rfl)
end Go.Proofs.YtjmcaceegfdkkaaGreatDoor
