/-
  Whether a name finds no difference between two nodes themselves.
-/
import Derived.Test.YtgaklaajbepfaaaDoorVView
namespace Go.Proofs.YtgaklaajbepfaaaDoor
open Go.RowKit Go.Maps Go.Shelf
set_option linter.unusedVariables false

def sameN (who : Int) (x y : Nd) : Nd := ⟨if (veilB who x && veilB who y) = true then y.kind else x.kind, x.frm, x.to, x.num, x.text, y.a, y.b⟩
def sameB (who : Int) (x y : Nd) : Bool := decide (sameN who x y = y)
theorem nd_dec {k f t u k2 f2 t2 u2 a b : Int} {s s2 : ByteArray} : decide ((⟨k, f, t, u, s, a, b⟩ : Nd) = ⟨k2, f2, t2, u2, s2, a, b⟩) = (k == k2 && (f == f2 && (t == t2 && (u == u2 && decide (s.toList = s2.toList))))) := by
  rw [Bool.eq_iff_iff]
  simp only [decide_eq_true_eq, Bool.and_eq_true, beq_iff_eq, Nd.mk.injEq, and_true]
  exact ⟨fun ⟨h1, h2, h3, h4, h5⟩ => ⟨h1, h2, h3, h4, by rw [h5]⟩, fun ⟨h1, h2, h3, h4, h5⟩ => ⟨h1, h2, h3, h4, toList_inj h5⟩⟩
set_option maxRecDepth 100000 in
set_option maxHeartbeats 12800000 in
theorem vsame_any (who : Int) (x y : Nd) (w : World) : Calls Tryd.prog 40 #[.int .i64 who, .agg (nodeA x), .agg (nodeA y)] w fun e w' => e = .returned (.bool (sameB who x y)) ∧ Below w.heap.size w w' := by
  have VX := Lib.hid (fun W => veiled_any who x W)
  have VY := Lib.hid (fun W => veiled_any who y W)
  obtain ⟨kk, ff, tt, uu, ss, xa, xb⟩ := x
  obtain ⟨k2, f2, t2, u2, s2, a2, b2⟩ := y
  simp only [nodeA] at *
  obtain ⟨r, hr⟩ : ∃ r, r = sameB who ⟨kk, ff, tt, uu, ss, xa, xb⟩ ⟨k2, f2, t2, u2, s2, a2, b2⟩ := ⟨_, rfl⟩
  rw [← hr]
  have HRR := Lib.hid hr
  obtain ⟨bX, hbX⟩ := node_box w kk ff tt uu xa xb ss
  obtain ⟨bY, hbY⟩ := node_box (w.alloc (.cells #[.int .i64 kk, .int .i64 ff, .int .i64 tt, .int .u64 uu, .string ss, .int .i64 xa, .int .i64 xb] NodeT)) k2 f2 t2 u2 a2 b2 s2
  have hsz : (w.alloc (.cells #[.int .i64 kk, .int .i64 ff, .int .i64 tt, .int .u64 uu, .string ss, .int .i64 xa, .int .i64 xb] NodeT)).heap.size = w.heap.size + 1 := by simp [World.size_alloc]
  rw [hsz] at hbY
  have HX0 := Lib.hid (Hold.below bY _ _ hbX)
  have HY0 := Lib.hid hbY
  have HU0 := Lib.hid (bmore bX bY)
  clear hr bX hbX bY hbY hsz
  go_enter Tryd.func40, Tryd.ntmps40
  go_upto_region 1 with fail
  generalize ((w.alloc (.cells #[.int .i64 kk, .int .i64 ff, .int .i64 tt, .int .u64 uu, .string ss, .int .i64 xa, .int .i64 xb] NodeT)).alloc (.cells #[.int .i64 k2, .int .i64 f2, .int .i64 t2, .int .u64 u2, .string s2, .int .i64 a2, .int .i64 b2] NodeT)) = w2 at *
  have x0 : w2.cell? ⟨w.heap.size, 0, none⟩ = some (.int .i64 kk) := cellB (j := 0) HX0.out rfl
  have x1 : w2.cell? ⟨w.heap.size, 1, none⟩ = some (.int .i64 ff) := cellB (j := 1) HX0.out rfl
  have x2 : w2.cell? ⟨w.heap.size, 2, none⟩ = some (.int .i64 tt) := cellB (j := 2) HX0.out rfl
  have x3 : w2.cell? ⟨w.heap.size, 3, none⟩ = some (.int .u64 uu) := cellB (j := 3) HX0.out rfl
  have x4 : w2.cell? ⟨w.heap.size, 4, none⟩ = some (.string ss) := cellB (j := 4) HX0.out rfl
  have x5 : w2.cell? ⟨w.heap.size, 5, none⟩ = some (.int .i64 xa) := cellB (j := 5) HX0.out rfl
  have x6 : w2.cell? ⟨w.heap.size, 6, none⟩ = some (.int .i64 xb) := cellB (j := 6) HX0.out rfl
  have VX1 := Lib.hid (VX.out w2)
  clear VX
  generalize hvx : veilB who ⟨kk, ff, tt, uu, ss, xa, xb⟩ = vx at VX1
  generalize hvy : veilB who ⟨k2, f2, t2, u2, s2, a2, b2⟩ = vy at VY
  have HVX := Lib.hid hvx
  have HVY := Lib.hid hvy
  clear hvx hvy
  go_wp2_with fail
  refine VX1.out.mono ?_
  rintro e w3 ⟨rfl, u3⟩
  have HX3 := Lib.hid (Hold.below u3 _ _ HX0.out)
  have HY3 := Lib.hid (Hold.below u3 _ _ HY0.out)
  have HU3 := Lib.hid (bmore HU0.out u3)
  clear x0 x1 x2 x3 x4 x5 x6 u3 VX1 HX0 HY0 HU0
  cases vx with
  | false =>
    have HS : Hid (r = decide ((⟨kk, ff, tt, uu, ss, a2, b2⟩ : Nd) = ⟨k2, f2, t2, u2, s2, a2, b2⟩)) := Lib.hid (by
      rw [HRR.out]
      unfold sameB sameN
      simp [HVX.out])
    go_upto_region 3 with fail
    generalize w3 = V0 at *
    have HX := HX3
    have HY := HY3
    have HU := HU3
    clear HX3 HY3 HU3 VY HVX HVY HRR
    have hxd := Hold.below (bd V0) _ _ HX.out
    have hyd := Hold.below (bd V0) _ _ HY.out
    have HUD := Lib.hid (bmore HU.out (bd V0))
    clear HX HY HU
    have S0 : V0.drew.cell? ⟨w.heap.size + 1, 5, none⟩ = some (.int .i64 a2) ∧ V0.drew.cell? ⟨w.heap.size + 1, 6, none⟩ = some (.int .i64 b2) := ⟨cellB (j := 5) hyd rfl, cellB (j := 6) hyd rfl⟩
    refine lex_start [0, 1, 2, 3, 4, 5, 6, 7] (S := fun V => V.cell? ⟨w.heap.size + 1, 5, none⟩ = some (.int .i64 a2) ∧ V.cell? ⟨w.heap.size + 1, 6, none⟩ = some (.int .i64 b2)) (by kernel_rfl) S0 (fun hS => ?_)
    simp only [inOrder, List.filterMap, List.getElem?_cons_succ, List.getElem?_cons_zero]
    generalize V0.drew = V at *
    clear hS
    refine lex_take (i := 0) (v := ?_) rfl (by kernel_rfl) (by kernel_rfl) (by kernel_rfl) (by rfl) S0 ?_ ?_
    rotate_left
    · ((rintro W ⟨k0, k1⟩; go_simp) <;> with_reducible rfl)
    simp only [Act.put, List.setIfInBounds_toArray, List.set_cons_zero, List.set_cons_succ]
    refine lex_take (i := 1) (v := ?_) rfl (by kernel_rfl) (by kernel_rfl) (by kernel_rfl) (by rfl) S0 ?_ ?_
    rotate_left
    · ((rintro W ⟨k0, k1⟩; go_simp) <;> with_reducible rfl)
    simp only [Act.put, List.setIfInBounds_toArray, List.set_cons_zero, List.set_cons_succ]
    refine lex_take (i := 2) (v := ?_) rfl (by kernel_rfl) (by kernel_rfl) (by kernel_rfl) (by rfl) S0 ?_ ?_
    rotate_left
    · ((rintro W ⟨k0, k1⟩; go_simp) <;> with_reducible rfl)
    simp only [Act.put, List.setIfInBounds_toArray, List.set_cons_zero, List.set_cons_succ]
    refine lex_take (i := 3) (v := ?_) rfl (by kernel_rfl) (by kernel_rfl) (by kernel_rfl) (by rfl) S0 ?_ ?_
    rotate_left
    · ((rintro W ⟨k0, k1⟩; go_simp) <;> with_reducible rfl)
    simp only [Act.put, List.setIfInBounds_toArray, List.set_cons_zero, List.set_cons_succ]
    refine lex_take (i := 4) (v := ?_) rfl (by kernel_rfl) (by kernel_rfl) (by kernel_rfl) (by rfl) S0 ?_ ?_
    rotate_left
    · ((rintro W ⟨k0, k1⟩; go_simp) <;> with_reducible rfl)
    simp only [Act.put, List.setIfInBounds_toArray, List.set_cons_zero, List.set_cons_succ]
    have x5 : V.cell? ⟨w.heap.size, 5, none⟩ = some (.int .i64 xa) := cellB (j := 5) hxd rfl
    have x5f : V.frozen? ⟨w.heap.size, 5, none⟩ = false := frozenB (j := 5) hxd
    have hx1 : (V.setCell ⟨w.heap.size, 5, none⟩ (.int .i64 a2)).heap[w.heap.size]? = some (Obj.cells #[.int .i64 kk, .int .i64 ff, .int .i64 tt, .int .u64 uu, .string ss, .int .i64 a2, .int .i64 xb] NodeT) := setCellB (j := 5) hxd
    have hy1 : (V.setCell ⟨w.heap.size, 5, none⟩ (.int .i64 a2)).heap[w.heap.size + 1]? = some (Obj.cells #[.int .i64 k2, .int .i64 f2, .int .i64 t2, .int .u64 u2, .string s2, .int .i64 a2, .int .i64 b2] NodeT) := by rw [Below.heap_setCell _ _ _ _ (by simp)]; exact hyd
    have HU1 := Lib.hid (HUD.out.setCell (p := ⟨w.heap.size, 5, none⟩) (Nat.le_refl _) (.int .i64 a2))
    refine lex_do (i := 5) rfl (by kernel_rfl) (by rfl) (fun K hK => ?_)
    go_simp
    have S1 : (V.setCell ⟨w.heap.size, 5, none⟩ (.int .i64 a2)).cell? ⟨w.heap.size + 1, 5, none⟩ = some (.int .i64 a2) ∧ (V.setCell ⟨w.heap.size, 5, none⟩ (.int .i64 a2)).cell? ⟨w.heap.size + 1, 6, none⟩ = some (.int .i64 b2) := ⟨cellB (j := 5) hy1 rfl, cellB (j := 6) hy1 rfl⟩
    refine hK _ _ ⟨S1, ?_⟩
    clear hK K S0 x5 x5f hxd hyd HUD
    generalize (V.setCell ⟨w.heap.size, 5, none⟩ (.int .i64 a2)) = V1 at *
    refine lex_take (i := 6) (v := ?_) rfl (by kernel_rfl) (by kernel_rfl) (by kernel_rfl) (by rfl) S1 ?_ ?_
    rotate_left
    · ((rintro W ⟨k0, k1⟩; go_simp) <;> with_reducible rfl)
    simp only [Act.put, List.setIfInBounds_toArray, List.set_cons_zero, List.set_cons_succ]
    have x6 : V1.cell? ⟨w.heap.size, 6, none⟩ = some (.int .i64 xb) := cellB (j := 6) hx1 rfl
    have x6f : V1.frozen? ⟨w.heap.size, 6, none⟩ = false := frozenB (j := 6) hx1
    have hx2 : (V1.setCell ⟨w.heap.size, 6, none⟩ (.int .i64 b2)).heap[w.heap.size]? = some (Obj.cells #[.int .i64 kk, .int .i64 ff, .int .i64 tt, .int .u64 uu, .string ss, .int .i64 a2, .int .i64 b2] NodeT) := setCellB (j := 6) hx1
    have hy2 : (V1.setCell ⟨w.heap.size, 6, none⟩ (.int .i64 b2)).heap[w.heap.size + 1]? = some (Obj.cells #[.int .i64 k2, .int .i64 f2, .int .i64 t2, .int .u64 u2, .string s2, .int .i64 a2, .int .i64 b2] NodeT) := by rw [Below.heap_setCell _ _ _ _ (by simp)]; exact hy1
    have HU2 := Lib.hid (HU1.out.setCell (p := ⟨w.heap.size, 6, none⟩) (Nat.le_refl _) (.int .i64 b2))
    refine lex_do (i := 7) rfl (by kernel_rfl) (by rfl) (fun K hK => ?_)
    go_simp
    have S2 : (V1.setCell ⟨w.heap.size, 6, none⟩ (.int .i64 b2)).cell? ⟨w.heap.size + 1, 5, none⟩ = some (.int .i64 a2) ∧ (V1.setCell ⟨w.heap.size, 6, none⟩ (.int .i64 b2)).cell? ⟨w.heap.size + 1, 6, none⟩ = some (.int .i64 b2) := ⟨cellB (j := 5) hy2 rfl, cellB (j := 6) hy2 rfl⟩
    refine hK _ _ ⟨S2, ?_⟩
    clear hK K S1 x6 x6f hx1 hy1 HU1
    refine lex_done (by kernel_rfl) ?_
    clear S2
    generalize (V1.setCell ⟨w.heap.size, 6, none⟩ (.int .i64 b2)) = V2 at *
    have x0 : V2.cell? ⟨w.heap.size, 0, none⟩ = some (.int .i64 kk) := cellB (j := 0) hx2 rfl
    have y0 : V2.cell? ⟨w.heap.size + 1, 0, none⟩ = some (.int .i64 k2) := cellB (j := 0) hy2 rfl
    have x1 : V2.cell? ⟨w.heap.size, 1, none⟩ = some (.int .i64 ff) := cellB (j := 1) hx2 rfl
    have y1 : V2.cell? ⟨w.heap.size + 1, 1, none⟩ = some (.int .i64 f2) := cellB (j := 1) hy2 rfl
    have x2 : V2.cell? ⟨w.heap.size, 2, none⟩ = some (.int .i64 tt) := cellB (j := 2) hx2 rfl
    have y2 : V2.cell? ⟨w.heap.size + 1, 2, none⟩ = some (.int .i64 t2) := cellB (j := 2) hy2 rfl
    have x3 : V2.cell? ⟨w.heap.size, 3, none⟩ = some (.int .u64 uu) := cellB (j := 3) hx2 rfl
    have y3 : V2.cell? ⟨w.heap.size + 1, 3, none⟩ = some (.int .u64 u2) := cellB (j := 3) hy2 rfl
    have x4 : V2.cell? ⟨w.heap.size, 4, none⟩ = some (.string ss) := cellB (j := 4) hx2 rfl
    have y4 : V2.cell? ⟨w.heap.size + 1, 4, none⟩ = some (.string s2) := cellB (j := 4) hy2 rfl
    have x5 : V2.cell? ⟨w.heap.size, 5, none⟩ = some (.int .i64 a2) := cellB (j := 5) hx2 rfl
    have y5 : V2.cell? ⟨w.heap.size + 1, 5, none⟩ = some (.int .i64 a2) := cellB (j := 5) hy2 rfl
    have x6 : V2.cell? ⟨w.heap.size, 6, none⟩ = some (.int .i64 b2) := cellB (j := 6) hx2 rfl
    have y6 : V2.cell? ⟨w.heap.size + 1, 6, none⟩ = some (.int .i64 b2) := cellB (j := 6) hy2 rfl
    clear hx2 hy2
    go_wp2_with fail
    all_goals (clear x0 x1 x2 x3 x4 x5 x6 y0 y1 y2 y3 y4 y5 y6)
    all_goals (go_returns; exact ⟨by rw [HS.out, nd_dec]; simp [*], HU2.out⟩)
  | true =>
    have y0 : w3.cell? ⟨w.heap.size + 1, 0, none⟩ = some (.int .i64 k2) := cellB (j := 0) HY3.out rfl
    have y1 : w3.cell? ⟨w.heap.size + 1, 1, none⟩ = some (.int .i64 f2) := cellB (j := 1) HY3.out rfl
    have y2 : w3.cell? ⟨w.heap.size + 1, 2, none⟩ = some (.int .i64 t2) := cellB (j := 2) HY3.out rfl
    have y3 : w3.cell? ⟨w.heap.size + 1, 3, none⟩ = some (.int .u64 u2) := cellB (j := 3) HY3.out rfl
    have y4 : w3.cell? ⟨w.heap.size + 1, 4, none⟩ = some (.string s2) := cellB (j := 4) HY3.out rfl
    have y5 : w3.cell? ⟨w.heap.size + 1, 5, none⟩ = some (.int .i64 a2) := cellB (j := 5) HY3.out rfl
    have y6 : w3.cell? ⟨w.heap.size + 1, 6, none⟩ = some (.int .i64 b2) := cellB (j := 6) HY3.out rfl
    have VY1 := Lib.hid (VY.out w3)
    clear VY
    go_wp2_with fail
    refine VY1.out.mono ?_
    rintro e w4 ⟨rfl, u4⟩
    have HX4 := Lib.hid (Hold.below u4 _ _ HX3.out)
    have HY4 := Lib.hid (Hold.below u4 _ _ HY3.out)
    have HU4 := Lib.hid (bmore HU3.out u4)
    clear y0 y1 y2 y3 y4 y5 y6 u4 VY1 HX3 HY3 HU3
    cases vy with
    | false =>
      have HS : Hid (r = decide ((⟨kk, ff, tt, uu, ss, a2, b2⟩ : Nd) = ⟨k2, f2, t2, u2, s2, a2, b2⟩)) := Lib.hid (by
        rw [HRR.out]
        unfold sameB sameN
        simp [HVX.out, HVY.out])
      go_upto_region 3 with fail
      generalize w4 = V0 at *
      have HX := HX4
      have HY := HY4
      have HU := HU4
      clear HX4 HY4 HU4 HVX HVY HRR
      have hxd := Hold.below (bd V0) _ _ HX.out
      have hyd := Hold.below (bd V0) _ _ HY.out
      have HUD := Lib.hid (bmore HU.out (bd V0))
      clear HX HY HU
      have S0 : V0.drew.cell? ⟨w.heap.size + 1, 5, none⟩ = some (.int .i64 a2) ∧ V0.drew.cell? ⟨w.heap.size + 1, 6, none⟩ = some (.int .i64 b2) := ⟨cellB (j := 5) hyd rfl, cellB (j := 6) hyd rfl⟩
      refine lex_start [0, 1, 2, 3, 4, 5, 6, 7] (S := fun V => V.cell? ⟨w.heap.size + 1, 5, none⟩ = some (.int .i64 a2) ∧ V.cell? ⟨w.heap.size + 1, 6, none⟩ = some (.int .i64 b2)) (by kernel_rfl) S0 (fun hS => ?_)
      simp only [inOrder, List.filterMap, List.getElem?_cons_succ, List.getElem?_cons_zero]
      generalize V0.drew = V at *
      clear hS
      refine lex_take (i := 0) (v := ?_) rfl (by kernel_rfl) (by kernel_rfl) (by kernel_rfl) (by rfl) S0 ?_ ?_
      rotate_left
      · ((rintro W ⟨k0, k1⟩; go_simp) <;> with_reducible rfl)
      simp only [Act.put, List.setIfInBounds_toArray, List.set_cons_zero, List.set_cons_succ]
      refine lex_take (i := 1) (v := ?_) rfl (by kernel_rfl) (by kernel_rfl) (by kernel_rfl) (by rfl) S0 ?_ ?_
      rotate_left
      · ((rintro W ⟨k0, k1⟩; go_simp) <;> with_reducible rfl)
      simp only [Act.put, List.setIfInBounds_toArray, List.set_cons_zero, List.set_cons_succ]
      refine lex_take (i := 2) (v := ?_) rfl (by kernel_rfl) (by kernel_rfl) (by kernel_rfl) (by rfl) S0 ?_ ?_
      rotate_left
      · ((rintro W ⟨k0, k1⟩; go_simp) <;> with_reducible rfl)
      simp only [Act.put, List.setIfInBounds_toArray, List.set_cons_zero, List.set_cons_succ]
      refine lex_take (i := 3) (v := ?_) rfl (by kernel_rfl) (by kernel_rfl) (by kernel_rfl) (by rfl) S0 ?_ ?_
      rotate_left
      · ((rintro W ⟨k0, k1⟩; go_simp) <;> with_reducible rfl)
      simp only [Act.put, List.setIfInBounds_toArray, List.set_cons_zero, List.set_cons_succ]
      refine lex_take (i := 4) (v := ?_) rfl (by kernel_rfl) (by kernel_rfl) (by kernel_rfl) (by rfl) S0 ?_ ?_
      rotate_left
      · ((rintro W ⟨k0, k1⟩; go_simp) <;> with_reducible rfl)
      simp only [Act.put, List.setIfInBounds_toArray, List.set_cons_zero, List.set_cons_succ]
      have x5 : V.cell? ⟨w.heap.size, 5, none⟩ = some (.int .i64 xa) := cellB (j := 5) hxd rfl
      have x5f : V.frozen? ⟨w.heap.size, 5, none⟩ = false := frozenB (j := 5) hxd
      have hx1 : (V.setCell ⟨w.heap.size, 5, none⟩ (.int .i64 a2)).heap[w.heap.size]? = some (Obj.cells #[.int .i64 kk, .int .i64 ff, .int .i64 tt, .int .u64 uu, .string ss, .int .i64 a2, .int .i64 xb] NodeT) := setCellB (j := 5) hxd
      have hy1 : (V.setCell ⟨w.heap.size, 5, none⟩ (.int .i64 a2)).heap[w.heap.size + 1]? = some (Obj.cells #[.int .i64 k2, .int .i64 f2, .int .i64 t2, .int .u64 u2, .string s2, .int .i64 a2, .int .i64 b2] NodeT) := by rw [Below.heap_setCell _ _ _ _ (by simp)]; exact hyd
      have HU1 := Lib.hid (HUD.out.setCell (p := ⟨w.heap.size, 5, none⟩) (Nat.le_refl _) (.int .i64 a2))
      refine lex_do (i := 5) rfl (by kernel_rfl) (by rfl) (fun K hK => ?_)
      go_simp
      have S1 : (V.setCell ⟨w.heap.size, 5, none⟩ (.int .i64 a2)).cell? ⟨w.heap.size + 1, 5, none⟩ = some (.int .i64 a2) ∧ (V.setCell ⟨w.heap.size, 5, none⟩ (.int .i64 a2)).cell? ⟨w.heap.size + 1, 6, none⟩ = some (.int .i64 b2) := ⟨cellB (j := 5) hy1 rfl, cellB (j := 6) hy1 rfl⟩
      refine hK _ _ ⟨S1, ?_⟩
      clear hK K S0 x5 x5f hxd hyd HUD
      generalize (V.setCell ⟨w.heap.size, 5, none⟩ (.int .i64 a2)) = V1 at *
      refine lex_take (i := 6) (v := ?_) rfl (by kernel_rfl) (by kernel_rfl) (by kernel_rfl) (by rfl) S1 ?_ ?_
      rotate_left
      · ((rintro W ⟨k0, k1⟩; go_simp) <;> with_reducible rfl)
      simp only [Act.put, List.setIfInBounds_toArray, List.set_cons_zero, List.set_cons_succ]
      have x6 : V1.cell? ⟨w.heap.size, 6, none⟩ = some (.int .i64 xb) := cellB (j := 6) hx1 rfl
      have x6f : V1.frozen? ⟨w.heap.size, 6, none⟩ = false := frozenB (j := 6) hx1
      have hx2 : (V1.setCell ⟨w.heap.size, 6, none⟩ (.int .i64 b2)).heap[w.heap.size]? = some (Obj.cells #[.int .i64 kk, .int .i64 ff, .int .i64 tt, .int .u64 uu, .string ss, .int .i64 a2, .int .i64 b2] NodeT) := setCellB (j := 6) hx1
      have hy2 : (V1.setCell ⟨w.heap.size, 6, none⟩ (.int .i64 b2)).heap[w.heap.size + 1]? = some (Obj.cells #[.int .i64 k2, .int .i64 f2, .int .i64 t2, .int .u64 u2, .string s2, .int .i64 a2, .int .i64 b2] NodeT) := by rw [Below.heap_setCell _ _ _ _ (by simp)]; exact hy1
      have HU2 := Lib.hid (HU1.out.setCell (p := ⟨w.heap.size, 6, none⟩) (Nat.le_refl _) (.int .i64 b2))
      refine lex_do (i := 7) rfl (by kernel_rfl) (by rfl) (fun K hK => ?_)
      go_simp
      have S2 : (V1.setCell ⟨w.heap.size, 6, none⟩ (.int .i64 b2)).cell? ⟨w.heap.size + 1, 5, none⟩ = some (.int .i64 a2) ∧ (V1.setCell ⟨w.heap.size, 6, none⟩ (.int .i64 b2)).cell? ⟨w.heap.size + 1, 6, none⟩ = some (.int .i64 b2) := ⟨cellB (j := 5) hy2 rfl, cellB (j := 6) hy2 rfl⟩
      refine hK _ _ ⟨S2, ?_⟩
      clear hK K S1 x6 x6f hx1 hy1 HU1
      refine lex_done (by kernel_rfl) ?_
      clear S2
      generalize (V1.setCell ⟨w.heap.size, 6, none⟩ (.int .i64 b2)) = V2 at *
      have x0 : V2.cell? ⟨w.heap.size, 0, none⟩ = some (.int .i64 kk) := cellB (j := 0) hx2 rfl
      have y0 : V2.cell? ⟨w.heap.size + 1, 0, none⟩ = some (.int .i64 k2) := cellB (j := 0) hy2 rfl
      have x1 : V2.cell? ⟨w.heap.size, 1, none⟩ = some (.int .i64 ff) := cellB (j := 1) hx2 rfl
      have y1 : V2.cell? ⟨w.heap.size + 1, 1, none⟩ = some (.int .i64 f2) := cellB (j := 1) hy2 rfl
      have x2 : V2.cell? ⟨w.heap.size, 2, none⟩ = some (.int .i64 tt) := cellB (j := 2) hx2 rfl
      have y2 : V2.cell? ⟨w.heap.size + 1, 2, none⟩ = some (.int .i64 t2) := cellB (j := 2) hy2 rfl
      have x3 : V2.cell? ⟨w.heap.size, 3, none⟩ = some (.int .u64 uu) := cellB (j := 3) hx2 rfl
      have y3 : V2.cell? ⟨w.heap.size + 1, 3, none⟩ = some (.int .u64 u2) := cellB (j := 3) hy2 rfl
      have x4 : V2.cell? ⟨w.heap.size, 4, none⟩ = some (.string ss) := cellB (j := 4) hx2 rfl
      have y4 : V2.cell? ⟨w.heap.size + 1, 4, none⟩ = some (.string s2) := cellB (j := 4) hy2 rfl
      have x5 : V2.cell? ⟨w.heap.size, 5, none⟩ = some (.int .i64 a2) := cellB (j := 5) hx2 rfl
      have y5 : V2.cell? ⟨w.heap.size + 1, 5, none⟩ = some (.int .i64 a2) := cellB (j := 5) hy2 rfl
      have x6 : V2.cell? ⟨w.heap.size, 6, none⟩ = some (.int .i64 b2) := cellB (j := 6) hx2 rfl
      have y6 : V2.cell? ⟨w.heap.size + 1, 6, none⟩ = some (.int .i64 b2) := cellB (j := 6) hy2 rfl
      clear hx2 hy2
      go_wp2_with fail
      all_goals (clear x0 x1 x2 x3 x4 x5 x6 y0 y1 y2 y3 y4 y5 y6)
      all_goals (go_returns; exact ⟨by rw [HS.out, nd_dec]; simp [*], HU2.out⟩)
    | true =>
      have HS : Hid (r = decide ((⟨k2, ff, tt, uu, ss, a2, b2⟩ : Nd) = ⟨k2, f2, t2, u2, s2, a2, b2⟩)) := Lib.hid (by
        rw [HRR.out]
        unfold sameB sameN
        simp [HVX.out, HVY.out])
      have hx4 := HX4.out
      have x0 : w4.cell? ⟨w.heap.size, 0, none⟩ = some (.int .i64 kk) := cellB (j := 0) hx4 rfl
      have x0f : w4.frozen? ⟨w.heap.size, 0, none⟩ = false := frozenB (j := 0) hx4
      have y0 : w4.cell? ⟨w.heap.size + 1, 0, none⟩ = some (.int .i64 k2) := cellB (j := 0) HY4.out rfl
      have HX : Hid ((w4.setCell ⟨w.heap.size, 0, none⟩ (.int .i64 k2)).heap[w.heap.size]? = some (Obj.cells #[.int .i64 k2, .int .i64 ff, .int .i64 tt, .int .u64 uu, .string ss, .int .i64 xa, .int .i64 xb] NodeT)) := Lib.hid (setCellB (j := 0) hx4)
      have HY : Hid ((w4.setCell ⟨w.heap.size, 0, none⟩ (.int .i64 k2)).heap[w.heap.size + 1]? = some (Obj.cells #[.int .i64 k2, .int .i64 f2, .int .i64 t2, .int .u64 u2, .string s2, .int .i64 a2, .int .i64 b2] NodeT)) := Lib.hid (by rw [Below.heap_setCell _ _ _ _ (by simp)]; exact HY4.out)
      have HU := Lib.hid (HU4.out.setCell (p := ⟨w.heap.size, 0, none⟩) (Nat.le_refl _) (.int .i64 k2))
      clear hx4
      go_upto_region 3 with fail
      generalize (w4.setCell ⟨w.heap.size, 0, none⟩ (.int .i64 k2)) = V0 at *
      clear HX4 HY4 HU4 HVX HVY HRR x0 x0f y0
      have hxd := Hold.below (bd V0) _ _ HX.out
      have hyd := Hold.below (bd V0) _ _ HY.out
      have HUD := Lib.hid (bmore HU.out (bd V0))
      clear HX HY HU
      have S0 : V0.drew.cell? ⟨w.heap.size + 1, 5, none⟩ = some (.int .i64 a2) ∧ V0.drew.cell? ⟨w.heap.size + 1, 6, none⟩ = some (.int .i64 b2) := ⟨cellB (j := 5) hyd rfl, cellB (j := 6) hyd rfl⟩
      refine lex_start [0, 1, 2, 3, 4, 5, 6, 7] (S := fun V => V.cell? ⟨w.heap.size + 1, 5, none⟩ = some (.int .i64 a2) ∧ V.cell? ⟨w.heap.size + 1, 6, none⟩ = some (.int .i64 b2)) (by kernel_rfl) S0 (fun hS => ?_)
      simp only [inOrder, List.filterMap, List.getElem?_cons_succ, List.getElem?_cons_zero]
      generalize V0.drew = V at *
      clear hS
      refine lex_take (i := 0) (v := ?_) rfl (by kernel_rfl) (by kernel_rfl) (by kernel_rfl) (by rfl) S0 ?_ ?_
      rotate_left
      · ((rintro W ⟨k0, k1⟩; go_simp) <;> with_reducible rfl)
      simp only [Act.put, List.setIfInBounds_toArray, List.set_cons_zero, List.set_cons_succ]
      refine lex_take (i := 1) (v := ?_) rfl (by kernel_rfl) (by kernel_rfl) (by kernel_rfl) (by rfl) S0 ?_ ?_
      rotate_left
      · ((rintro W ⟨k0, k1⟩; go_simp) <;> with_reducible rfl)
      simp only [Act.put, List.setIfInBounds_toArray, List.set_cons_zero, List.set_cons_succ]
      refine lex_take (i := 2) (v := ?_) rfl (by kernel_rfl) (by kernel_rfl) (by kernel_rfl) (by rfl) S0 ?_ ?_
      rotate_left
      · ((rintro W ⟨k0, k1⟩; go_simp) <;> with_reducible rfl)
      simp only [Act.put, List.setIfInBounds_toArray, List.set_cons_zero, List.set_cons_succ]
      refine lex_take (i := 3) (v := ?_) rfl (by kernel_rfl) (by kernel_rfl) (by kernel_rfl) (by rfl) S0 ?_ ?_
      rotate_left
      · ((rintro W ⟨k0, k1⟩; go_simp) <;> with_reducible rfl)
      simp only [Act.put, List.setIfInBounds_toArray, List.set_cons_zero, List.set_cons_succ]
      refine lex_take (i := 4) (v := ?_) rfl (by kernel_rfl) (by kernel_rfl) (by kernel_rfl) (by rfl) S0 ?_ ?_
      rotate_left
      · ((rintro W ⟨k0, k1⟩; go_simp) <;> with_reducible rfl)
      simp only [Act.put, List.setIfInBounds_toArray, List.set_cons_zero, List.set_cons_succ]
      have x5 : V.cell? ⟨w.heap.size, 5, none⟩ = some (.int .i64 xa) := cellB (j := 5) hxd rfl
      have x5f : V.frozen? ⟨w.heap.size, 5, none⟩ = false := frozenB (j := 5) hxd
      have hx1 : (V.setCell ⟨w.heap.size, 5, none⟩ (.int .i64 a2)).heap[w.heap.size]? = some (Obj.cells #[.int .i64 k2, .int .i64 ff, .int .i64 tt, .int .u64 uu, .string ss, .int .i64 a2, .int .i64 xb] NodeT) := setCellB (j := 5) hxd
      have hy1 : (V.setCell ⟨w.heap.size, 5, none⟩ (.int .i64 a2)).heap[w.heap.size + 1]? = some (Obj.cells #[.int .i64 k2, .int .i64 f2, .int .i64 t2, .int .u64 u2, .string s2, .int .i64 a2, .int .i64 b2] NodeT) := by rw [Below.heap_setCell _ _ _ _ (by simp)]; exact hyd
      have HU1 := Lib.hid (HUD.out.setCell (p := ⟨w.heap.size, 5, none⟩) (Nat.le_refl _) (.int .i64 a2))
      refine lex_do (i := 5) rfl (by kernel_rfl) (by rfl) (fun K hK => ?_)
      go_simp
      have S1 : (V.setCell ⟨w.heap.size, 5, none⟩ (.int .i64 a2)).cell? ⟨w.heap.size + 1, 5, none⟩ = some (.int .i64 a2) ∧ (V.setCell ⟨w.heap.size, 5, none⟩ (.int .i64 a2)).cell? ⟨w.heap.size + 1, 6, none⟩ = some (.int .i64 b2) := ⟨cellB (j := 5) hy1 rfl, cellB (j := 6) hy1 rfl⟩
      refine hK _ _ ⟨S1, ?_⟩
      clear hK K S0 x5 x5f hxd hyd HUD
      generalize (V.setCell ⟨w.heap.size, 5, none⟩ (.int .i64 a2)) = V1 at *
      refine lex_take (i := 6) (v := ?_) rfl (by kernel_rfl) (by kernel_rfl) (by kernel_rfl) (by rfl) S1 ?_ ?_
      rotate_left
      · ((rintro W ⟨k0, k1⟩; go_simp) <;> with_reducible rfl)
      simp only [Act.put, List.setIfInBounds_toArray, List.set_cons_zero, List.set_cons_succ]
      have x6 : V1.cell? ⟨w.heap.size, 6, none⟩ = some (.int .i64 xb) := cellB (j := 6) hx1 rfl
      have x6f : V1.frozen? ⟨w.heap.size, 6, none⟩ = false := frozenB (j := 6) hx1
      have hx2 : (V1.setCell ⟨w.heap.size, 6, none⟩ (.int .i64 b2)).heap[w.heap.size]? = some (Obj.cells #[.int .i64 k2, .int .i64 ff, .int .i64 tt, .int .u64 uu, .string ss, .int .i64 a2, .int .i64 b2] NodeT) := setCellB (j := 6) hx1
      have hy2 : (V1.setCell ⟨w.heap.size, 6, none⟩ (.int .i64 b2)).heap[w.heap.size + 1]? = some (Obj.cells #[.int .i64 k2, .int .i64 f2, .int .i64 t2, .int .u64 u2, .string s2, .int .i64 a2, .int .i64 b2] NodeT) := by rw [Below.heap_setCell _ _ _ _ (by simp)]; exact hy1
      have HU2 := Lib.hid (HU1.out.setCell (p := ⟨w.heap.size, 6, none⟩) (Nat.le_refl _) (.int .i64 b2))
      refine lex_do (i := 7) rfl (by kernel_rfl) (by rfl) (fun K hK => ?_)
      go_simp
      have S2 : (V1.setCell ⟨w.heap.size, 6, none⟩ (.int .i64 b2)).cell? ⟨w.heap.size + 1, 5, none⟩ = some (.int .i64 a2) ∧ (V1.setCell ⟨w.heap.size, 6, none⟩ (.int .i64 b2)).cell? ⟨w.heap.size + 1, 6, none⟩ = some (.int .i64 b2) := ⟨cellB (j := 5) hy2 rfl, cellB (j := 6) hy2 rfl⟩
      refine hK _ _ ⟨S2, ?_⟩
      clear hK K S1 x6 x6f hx1 hy1 HU1
      refine lex_done (by kernel_rfl) ?_
      clear S2
      generalize (V1.setCell ⟨w.heap.size, 6, none⟩ (.int .i64 b2)) = V2 at *
      have x0 : V2.cell? ⟨w.heap.size, 0, none⟩ = some (.int .i64 k2) := cellB (j := 0) hx2 rfl
      have y0 : V2.cell? ⟨w.heap.size + 1, 0, none⟩ = some (.int .i64 k2) := cellB (j := 0) hy2 rfl
      have x1 : V2.cell? ⟨w.heap.size, 1, none⟩ = some (.int .i64 ff) := cellB (j := 1) hx2 rfl
      have y1 : V2.cell? ⟨w.heap.size + 1, 1, none⟩ = some (.int .i64 f2) := cellB (j := 1) hy2 rfl
      have x2 : V2.cell? ⟨w.heap.size, 2, none⟩ = some (.int .i64 tt) := cellB (j := 2) hx2 rfl
      have y2 : V2.cell? ⟨w.heap.size + 1, 2, none⟩ = some (.int .i64 t2) := cellB (j := 2) hy2 rfl
      have x3 : V2.cell? ⟨w.heap.size, 3, none⟩ = some (.int .u64 uu) := cellB (j := 3) hx2 rfl
      have y3 : V2.cell? ⟨w.heap.size + 1, 3, none⟩ = some (.int .u64 u2) := cellB (j := 3) hy2 rfl
      have x4 : V2.cell? ⟨w.heap.size, 4, none⟩ = some (.string ss) := cellB (j := 4) hx2 rfl
      have y4 : V2.cell? ⟨w.heap.size + 1, 4, none⟩ = some (.string s2) := cellB (j := 4) hy2 rfl
      have x5 : V2.cell? ⟨w.heap.size, 5, none⟩ = some (.int .i64 a2) := cellB (j := 5) hx2 rfl
      have y5 : V2.cell? ⟨w.heap.size + 1, 5, none⟩ = some (.int .i64 a2) := cellB (j := 5) hy2 rfl
      have x6 : V2.cell? ⟨w.heap.size, 6, none⟩ = some (.int .i64 b2) := cellB (j := 6) hx2 rfl
      have y6 : V2.cell? ⟨w.heap.size + 1, 6, none⟩ = some (.int .i64 b2) := cellB (j := 6) hy2 rfl
      clear hx2 hy2
      go_wp2_with fail
      all_goals (clear x0 x1 x2 x3 x4 x5 x6 y0 y1 y2 y3 y4 y5 y6)
      all_goals (go_returns; exact ⟨by rw [HS.out, nd_dec]; simp [*], HU2.out⟩)
end Go.Proofs.YtgaklaajbepfaaaDoor
