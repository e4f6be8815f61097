/-
  Whether a name finds no difference between two nodes themselves.
  Which lists look alike: the closure that lays two terms side by side.
  The closure that lays two terms side by side, in memory.
  Alike, of every two lists.
-/
import Derived.Test.YtgaklaajbepfaaaGreatDoorVView
namespace Go.Proofs.YtgaklaajbepfaaaGreatDoor
open Go.RowKit Go.Maps Go.Shelf
set_option linter.unusedVariables false

def sameN (who : Int) (x y : Nd) : Nd := ⟨if (veilB who x && veilB who y) = true then y.kind else x.kind, x.frm, x.to, x.num, x.text, y.a, y.b⟩
def sameB (who : Int) (x y : Nd) : Bool := decide (sameN who x y = y)
theorem nd_dec {k f t u k2 f2 t2 u2 a b : Int} {s s2 : ByteArray} : decide ((⟨k, f, t, u, s, a, b⟩ : Nd) = ⟨k2, f2, t2, u2, s2, a, b⟩) = (k == k2 && (f == f2 && (t == t2 && (u == u2 && decide (s.toList = s2.toList))))) := by
  rw [Bool.eq_iff_iff]
  simp only [decide_eq_true_eq, Bool.and_eq_true, beq_iff_eq, Nd.mk.injEq, and_true]
  exact ⟨fun ⟨h1, h2, h3, h4, h5⟩ => ⟨h1, h2, h3, h4, by rw [h5]⟩, fun ⟨h1, h2, h3, h4, h5⟩ => ⟨h1, h2, h3, h4, toList_inj h5⟩⟩
set_option maxRecDepth 100000 in
set_option maxHeartbeats 12800000 in
theorem vsame_any (who : Int) (x y : Nd) (w : World) : Calls Tryz.prog 100 #[.int .i64 who, .agg (nodeA x), .agg (nodeA y)] w fun e w' => e = .returned (.bool (sameB who x y)) ∧ Below w.heap.size w w' := by
  have VX := Lib.hid (fun W => veiled_any who x W)
  have VY := Lib.hid (fun W => veiled_any who y W)
  obtain ⟨kk, ff, tt, uu, ss, xa, xb⟩ := x
  obtain ⟨k2, f2, t2, u2, s2, a2, b2⟩ := y
  simp only [nodeA] at *
  obtain ⟨r, hr⟩ : ∃ r, r = sameB who ⟨kk, ff, tt, uu, ss, xa, xb⟩ ⟨k2, f2, t2, u2, s2, a2, b2⟩ := ⟨_, rfl⟩
  rw [← hr]
  have HRR := Lib.hid hr
  obtain ⟨bX, hbX⟩ := node_box w kk ff tt uu xa xb ss
  obtain ⟨bY, hbY⟩ := node_box (w.alloc (.cells #[.int .i64 kk, .int .i64 ff, .int .i64 tt, .int .u64 uu, .string ss, .int .i64 xa, .int .i64 xb] NodeT)) k2 f2 t2 u2 a2 b2 s2
  have hsz : (w.alloc (.cells #[.int .i64 kk, .int .i64 ff, .int .i64 tt, .int .u64 uu, .string ss, .int .i64 xa, .int .i64 xb] NodeT)).heap.size = w.heap.size + 1 := by simp [World.size_alloc]
  rw [hsz] at hbY
  have HX0 := Lib.hid (Hold.below bY _ _ hbX)
  have HY0 := Lib.hid hbY
  have HU0 := Lib.hid (bmore bX bY)
  clear hr bX hbX bY hbY hsz
  go_enter Tryz.func100, Tryz.ntmps100
  go_upto_region 1 with fail
  generalize ((w.alloc (.cells #[.int .i64 kk, .int .i64 ff, .int .i64 tt, .int .u64 uu, .string ss, .int .i64 xa, .int .i64 xb] NodeT)).alloc (.cells #[.int .i64 k2, .int .i64 f2, .int .i64 t2, .int .u64 u2, .string s2, .int .i64 a2, .int .i64 b2] NodeT)) = w2 at *
  have x0 : w2.cell? ⟨w.heap.size, 0, none⟩ = some (.int .i64 kk) := cellB (j := 0) HX0.out rfl
  have x1 : w2.cell? ⟨w.heap.size, 1, none⟩ = some (.int .i64 ff) := cellB (j := 1) HX0.out rfl
  have x2 : w2.cell? ⟨w.heap.size, 2, none⟩ = some (.int .i64 tt) := cellB (j := 2) HX0.out rfl
  have x3 : w2.cell? ⟨w.heap.size, 3, none⟩ = some (.int .u64 uu) := cellB (j := 3) HX0.out rfl
  have x4 : w2.cell? ⟨w.heap.size, 4, none⟩ = some (.string ss) := cellB (j := 4) HX0.out rfl
  have x5 : w2.cell? ⟨w.heap.size, 5, none⟩ = some (.int .i64 xa) := cellB (j := 5) HX0.out rfl
  have x6 : w2.cell? ⟨w.heap.size, 6, none⟩ = some (.int .i64 xb) := cellB (j := 6) HX0.out rfl
  have VX1 := Lib.hid (VX.out w2)
  clear VX
  generalize hvx : veilB who ⟨kk, ff, tt, uu, ss, xa, xb⟩ = vx at VX1
  generalize hvy : veilB who ⟨k2, f2, t2, u2, s2, a2, b2⟩ = vy at VY
  have HVX := Lib.hid hvx
  have HVY := Lib.hid hvy
  clear hvx hvy
  go_wp2_with fail
  refine VX1.out.mono ?_
  rintro e w3 ⟨rfl, u3⟩
  have HX3 := Lib.hid (Hold.below u3 _ _ HX0.out)
  have HY3 := Lib.hid (Hold.below u3 _ _ HY0.out)
  have HU3 := Lib.hid (bmore HU0.out u3)
  clear x0 x1 x2 x3 x4 x5 x6 u3 VX1 HX0 HY0 HU0
  cases vx with
  | false =>
    have HS : Hid (r = decide ((⟨kk, ff, tt, uu, ss, a2, b2⟩ : Nd) = ⟨k2, f2, t2, u2, s2, a2, b2⟩)) := Lib.hid (by
      rw [HRR.out]
      unfold sameB sameN
      simp [HVX.out])
    go_upto_region 3 with fail
    generalize w3 = V0 at *
    have HX := HX3
    have HY := HY3
    have HU := HU3
    clear HX3 HY3 HU3 VY HVX HVY HRR
    have hxd := Hold.below (bd V0) _ _ HX.out
    have hyd := Hold.below (bd V0) _ _ HY.out
    have HUD := Lib.hid (bmore HU.out (bd V0))
    clear HX HY HU
    have S0 : V0.drew.cell? ⟨w.heap.size + 1, 5, none⟩ = some (.int .i64 a2) ∧ V0.drew.cell? ⟨w.heap.size + 1, 6, none⟩ = some (.int .i64 b2) := ⟨cellB (j := 5) hyd rfl, cellB (j := 6) hyd rfl⟩
    refine lex_start [0, 1, 2, 3, 4, 5, 6, 7] (S := fun V => V.cell? ⟨w.heap.size + 1, 5, none⟩ = some (.int .i64 a2) ∧ V.cell? ⟨w.heap.size + 1, 6, none⟩ = some (.int .i64 b2)) (by kernel_rfl) S0 (fun hS => ?_)
    simp only [inOrder, List.filterMap, List.getElem?_cons_succ, List.getElem?_cons_zero]
    generalize V0.drew = V at *
    clear hS
    refine lex_take (i := 0) (v := ?_) rfl (by kernel_rfl) (by kernel_rfl) (by kernel_rfl) (by rfl) S0 ?_ ?_
    rotate_left
    · ((rintro W ⟨k0, k1⟩; go_simp) <;> with_reducible rfl)
    simp only [Act.put, List.setIfInBounds_toArray, List.set_cons_zero, List.set_cons_succ]
    refine lex_take (i := 1) (v := ?_) rfl (by kernel_rfl) (by kernel_rfl) (by kernel_rfl) (by rfl) S0 ?_ ?_
    rotate_left
    · ((rintro W ⟨k0, k1⟩; go_simp) <;> with_reducible rfl)
    simp only [Act.put, List.setIfInBounds_toArray, List.set_cons_zero, List.set_cons_succ]
    refine lex_take (i := 2) (v := ?_) rfl (by kernel_rfl) (by kernel_rfl) (by kernel_rfl) (by rfl) S0 ?_ ?_
    rotate_left
    · ((rintro W ⟨k0, k1⟩; go_simp) <;> with_reducible rfl)
    simp only [Act.put, List.setIfInBounds_toArray, List.set_cons_zero, List.set_cons_succ]
    refine lex_take (i := 3) (v := ?_) rfl (by kernel_rfl) (by kernel_rfl) (by kernel_rfl) (by rfl) S0 ?_ ?_
    rotate_left
    · ((rintro W ⟨k0, k1⟩; go_simp) <;> with_reducible rfl)
    simp only [Act.put, List.setIfInBounds_toArray, List.set_cons_zero, List.set_cons_succ]
    refine lex_take (i := 4) (v := ?_) rfl (by kernel_rfl) (by kernel_rfl) (by kernel_rfl) (by rfl) S0 ?_ ?_
    rotate_left
    · ((rintro W ⟨k0, k1⟩; go_simp) <;> with_reducible rfl)
    simp only [Act.put, List.setIfInBounds_toArray, List.set_cons_zero, List.set_cons_succ]
    have x5 : V.cell? ⟨w.heap.size, 5, none⟩ = some (.int .i64 xa) := cellB (j := 5) hxd rfl
    have x5f : V.frozen? ⟨w.heap.size, 5, none⟩ = false := frozenB (j := 5) hxd
    have hx1 : (V.setCell ⟨w.heap.size, 5, none⟩ (.int .i64 a2)).heap[w.heap.size]? = some (Obj.cells #[.int .i64 kk, .int .i64 ff, .int .i64 tt, .int .u64 uu, .string ss, .int .i64 a2, .int .i64 xb] NodeT) := setCellB (j := 5) hxd
    have hy1 : (V.setCell ⟨w.heap.size, 5, none⟩ (.int .i64 a2)).heap[w.heap.size + 1]? = some (Obj.cells #[.int .i64 k2, .int .i64 f2, .int .i64 t2, .int .u64 u2, .string s2, .int .i64 a2, .int .i64 b2] NodeT) := by rw [Below.heap_setCell _ _ _ _ (by simp)]; exact hyd
    have HU1 := Lib.hid (HUD.out.setCell (p := ⟨w.heap.size, 5, none⟩) (Nat.le_refl _) (.int .i64 a2))
    refine lex_do (i := 5) rfl (by kernel_rfl) (by rfl) (fun K hK => ?_)
    go_simp
    have S1 : (V.setCell ⟨w.heap.size, 5, none⟩ (.int .i64 a2)).cell? ⟨w.heap.size + 1, 5, none⟩ = some (.int .i64 a2) ∧ (V.setCell ⟨w.heap.size, 5, none⟩ (.int .i64 a2)).cell? ⟨w.heap.size + 1, 6, none⟩ = some (.int .i64 b2) := ⟨cellB (j := 5) hy1 rfl, cellB (j := 6) hy1 rfl⟩
    refine hK _ _ ⟨S1, ?_⟩
    clear hK K S0 x5 x5f hxd hyd HUD
    generalize (V.setCell ⟨w.heap.size, 5, none⟩ (.int .i64 a2)) = V1 at *
    refine lex_take (i := 6) (v := ?_) rfl (by kernel_rfl) (by kernel_rfl) (by kernel_rfl) (by rfl) S1 ?_ ?_
    rotate_left
    · ((rintro W ⟨k0, k1⟩; go_simp) <;> with_reducible rfl)
    simp only [Act.put, List.setIfInBounds_toArray, List.set_cons_zero, List.set_cons_succ]
    have x6 : V1.cell? ⟨w.heap.size, 6, none⟩ = some (.int .i64 xb) := cellB (j := 6) hx1 rfl
    have x6f : V1.frozen? ⟨w.heap.size, 6, none⟩ = false := frozenB (j := 6) hx1
    have hx2 : (V1.setCell ⟨w.heap.size, 6, none⟩ (.int .i64 b2)).heap[w.heap.size]? = some (Obj.cells #[.int .i64 kk, .int .i64 ff, .int .i64 tt, .int .u64 uu, .string ss, .int .i64 a2, .int .i64 b2] NodeT) := setCellB (j := 6) hx1
    have hy2 : (V1.setCell ⟨w.heap.size, 6, none⟩ (.int .i64 b2)).heap[w.heap.size + 1]? = some (Obj.cells #[.int .i64 k2, .int .i64 f2, .int .i64 t2, .int .u64 u2, .string s2, .int .i64 a2, .int .i64 b2] NodeT) := by rw [Below.heap_setCell _ _ _ _ (by simp)]; exact hy1
    have HU2 := Lib.hid (HU1.out.setCell (p := ⟨w.heap.size, 6, none⟩) (Nat.le_refl _) (.int .i64 b2))
    refine lex_do (i := 7) rfl (by kernel_rfl) (by rfl) (fun K hK => ?_)
    go_simp
    have S2 : (V1.setCell ⟨w.heap.size, 6, none⟩ (.int .i64 b2)).cell? ⟨w.heap.size + 1, 5, none⟩ = some (.int .i64 a2) ∧ (V1.setCell ⟨w.heap.size, 6, none⟩ (.int .i64 b2)).cell? ⟨w.heap.size + 1, 6, none⟩ = some (.int .i64 b2) := ⟨cellB (j := 5) hy2 rfl, cellB (j := 6) hy2 rfl⟩
    refine hK _ _ ⟨S2, ?_⟩
    clear hK K S1 x6 x6f hx1 hy1 HU1
    refine lex_done (by kernel_rfl) ?_
    clear S2
    generalize (V1.setCell ⟨w.heap.size, 6, none⟩ (.int .i64 b2)) = V2 at *
    have x0 : V2.cell? ⟨w.heap.size, 0, none⟩ = some (.int .i64 kk) := cellB (j := 0) hx2 rfl
    have y0 : V2.cell? ⟨w.heap.size + 1, 0, none⟩ = some (.int .i64 k2) := cellB (j := 0) hy2 rfl
    have x1 : V2.cell? ⟨w.heap.size, 1, none⟩ = some (.int .i64 ff) := cellB (j := 1) hx2 rfl
    have y1 : V2.cell? ⟨w.heap.size + 1, 1, none⟩ = some (.int .i64 f2) := cellB (j := 1) hy2 rfl
    have x2 : V2.cell? ⟨w.heap.size, 2, none⟩ = some (.int .i64 tt) := cellB (j := 2) hx2 rfl
    have y2 : V2.cell? ⟨w.heap.size + 1, 2, none⟩ = some (.int .i64 t2) := cellB (j := 2) hy2 rfl
    have x3 : V2.cell? ⟨w.heap.size, 3, none⟩ = some (.int .u64 uu) := cellB (j := 3) hx2 rfl
    have y3 : V2.cell? ⟨w.heap.size + 1, 3, none⟩ = some (.int .u64 u2) := cellB (j := 3) hy2 rfl
    have x4 : V2.cell? ⟨w.heap.size, 4, none⟩ = some (.string ss) := cellB (j := 4) hx2 rfl
    have y4 : V2.cell? ⟨w.heap.size + 1, 4, none⟩ = some (.string s2) := cellB (j := 4) hy2 rfl
    have x5 : V2.cell? ⟨w.heap.size, 5, none⟩ = some (.int .i64 a2) := cellB (j := 5) hx2 rfl
    have y5 : V2.cell? ⟨w.heap.size + 1, 5, none⟩ = some (.int .i64 a2) := cellB (j := 5) hy2 rfl
    have x6 : V2.cell? ⟨w.heap.size, 6, none⟩ = some (.int .i64 b2) := cellB (j := 6) hx2 rfl
    have y6 : V2.cell? ⟨w.heap.size + 1, 6, none⟩ = some (.int .i64 b2) := cellB (j := 6) hy2 rfl
    clear hx2 hy2
    go_wp2_with fail
    all_goals (clear x0 x1 x2 x3 x4 x5 x6 y0 y1 y2 y3 y4 y5 y6)
    all_goals (go_returns; exact ⟨by rw [HS.out, nd_dec]; simp [*], HU2.out⟩)
  | true =>
    have y0 : w3.cell? ⟨w.heap.size + 1, 0, none⟩ = some (.int .i64 k2) := cellB (j := 0) HY3.out rfl
    have y1 : w3.cell? ⟨w.heap.size + 1, 1, none⟩ = some (.int .i64 f2) := cellB (j := 1) HY3.out rfl
    have y2 : w3.cell? ⟨w.heap.size + 1, 2, none⟩ = some (.int .i64 t2) := cellB (j := 2) HY3.out rfl
    have y3 : w3.cell? ⟨w.heap.size + 1, 3, none⟩ = some (.int .u64 u2) := cellB (j := 3) HY3.out rfl
    have y4 : w3.cell? ⟨w.heap.size + 1, 4, none⟩ = some (.string s2) := cellB (j := 4) HY3.out rfl
    have y5 : w3.cell? ⟨w.heap.size + 1, 5, none⟩ = some (.int .i64 a2) := cellB (j := 5) HY3.out rfl
    have y6 : w3.cell? ⟨w.heap.size + 1, 6, none⟩ = some (.int .i64 b2) := cellB (j := 6) HY3.out rfl
    have VY1 := Lib.hid (VY.out w3)
    clear VY
    go_wp2_with fail
    refine VY1.out.mono ?_
    rintro e w4 ⟨rfl, u4⟩
    have HX4 := Lib.hid (Hold.below u4 _ _ HX3.out)
    have HY4 := Lib.hid (Hold.below u4 _ _ HY3.out)
    have HU4 := Lib.hid (bmore HU3.out u4)
    clear y0 y1 y2 y3 y4 y5 y6 u4 VY1 HX3 HY3 HU3
    cases vy with
    | false =>
      have HS : Hid (r = decide ((⟨kk, ff, tt, uu, ss, a2, b2⟩ : Nd) = ⟨k2, f2, t2, u2, s2, a2, b2⟩)) := Lib.hid (by
        rw [HRR.out]
        unfold sameB sameN
        simp [HVX.out, HVY.out])
      go_upto_region 3 with fail
      generalize w4 = V0 at *
      have HX := HX4
      have HY := HY4
      have HU := HU4
      clear HX4 HY4 HU4 HVX HVY HRR
      have hxd := Hold.below (bd V0) _ _ HX.out
      have hyd := Hold.below (bd V0) _ _ HY.out
      have HUD := Lib.hid (bmore HU.out (bd V0))
      clear HX HY HU
      have S0 : V0.drew.cell? ⟨w.heap.size + 1, 5, none⟩ = some (.int .i64 a2) ∧ V0.drew.cell? ⟨w.heap.size + 1, 6, none⟩ = some (.int .i64 b2) := ⟨cellB (j := 5) hyd rfl, cellB (j := 6) hyd rfl⟩
      refine lex_start [0, 1, 2, 3, 4, 5, 6, 7] (S := fun V => V.cell? ⟨w.heap.size + 1, 5, none⟩ = some (.int .i64 a2) ∧ V.cell? ⟨w.heap.size + 1, 6, none⟩ = some (.int .i64 b2)) (by kernel_rfl) S0 (fun hS => ?_)
      simp only [inOrder, List.filterMap, List.getElem?_cons_succ, List.getElem?_cons_zero]
      generalize V0.drew = V at *
      clear hS
      refine lex_take (i := 0) (v := ?_) rfl (by kernel_rfl) (by kernel_rfl) (by kernel_rfl) (by rfl) S0 ?_ ?_
      rotate_left
      · ((rintro W ⟨k0, k1⟩; go_simp) <;> with_reducible rfl)
      simp only [Act.put, List.setIfInBounds_toArray, List.set_cons_zero, List.set_cons_succ]
      refine lex_take (i := 1) (v := ?_) rfl (by kernel_rfl) (by kernel_rfl) (by kernel_rfl) (by rfl) S0 ?_ ?_
      rotate_left
      · ((rintro W ⟨k0, k1⟩; go_simp) <;> with_reducible rfl)
      simp only [Act.put, List.setIfInBounds_toArray, List.set_cons_zero, List.set_cons_succ]
      refine lex_take (i := 2) (v := ?_) rfl (by kernel_rfl) (by kernel_rfl) (by kernel_rfl) (by rfl) S0 ?_ ?_
      rotate_left
      · ((rintro W ⟨k0, k1⟩; go_simp) <;> with_reducible rfl)
      simp only [Act.put, List.setIfInBounds_toArray, List.set_cons_zero, List.set_cons_succ]
      refine lex_take (i := 3) (v := ?_) rfl (by kernel_rfl) (by kernel_rfl) (by kernel_rfl) (by rfl) S0 ?_ ?_
      rotate_left
      · ((rintro W ⟨k0, k1⟩; go_simp) <;> with_reducible rfl)
      simp only [Act.put, List.setIfInBounds_toArray, List.set_cons_zero, List.set_cons_succ]
      refine lex_take (i := 4) (v := ?_) rfl (by kernel_rfl) (by kernel_rfl) (by kernel_rfl) (by rfl) S0 ?_ ?_
      rotate_left
      · ((rintro W ⟨k0, k1⟩; go_simp) <;> with_reducible rfl)
      simp only [Act.put, List.setIfInBounds_toArray, List.set_cons_zero, List.set_cons_succ]
      have x5 : V.cell? ⟨w.heap.size, 5, none⟩ = some (.int .i64 xa) := cellB (j := 5) hxd rfl
      have x5f : V.frozen? ⟨w.heap.size, 5, none⟩ = false := frozenB (j := 5) hxd
      have hx1 : (V.setCell ⟨w.heap.size, 5, none⟩ (.int .i64 a2)).heap[w.heap.size]? = some (Obj.cells #[.int .i64 kk, .int .i64 ff, .int .i64 tt, .int .u64 uu, .string ss, .int .i64 a2, .int .i64 xb] NodeT) := setCellB (j := 5) hxd
      have hy1 : (V.setCell ⟨w.heap.size, 5, none⟩ (.int .i64 a2)).heap[w.heap.size + 1]? = some (Obj.cells #[.int .i64 k2, .int .i64 f2, .int .i64 t2, .int .u64 u2, .string s2, .int .i64 a2, .int .i64 b2] NodeT) := by rw [Below.heap_setCell _ _ _ _ (by simp)]; exact hyd
      have HU1 := Lib.hid (HUD.out.setCell (p := ⟨w.heap.size, 5, none⟩) (Nat.le_refl _) (.int .i64 a2))
      refine lex_do (i := 5) rfl (by kernel_rfl) (by rfl) (fun K hK => ?_)
      go_simp
      have S1 : (V.setCell ⟨w.heap.size, 5, none⟩ (.int .i64 a2)).cell? ⟨w.heap.size + 1, 5, none⟩ = some (.int .i64 a2) ∧ (V.setCell ⟨w.heap.size, 5, none⟩ (.int .i64 a2)).cell? ⟨w.heap.size + 1, 6, none⟩ = some (.int .i64 b2) := ⟨cellB (j := 5) hy1 rfl, cellB (j := 6) hy1 rfl⟩
      refine hK _ _ ⟨S1, ?_⟩
      clear hK K S0 x5 x5f hxd hyd HUD
      generalize (V.setCell ⟨w.heap.size, 5, none⟩ (.int .i64 a2)) = V1 at *
      refine lex_take (i := 6) (v := ?_) rfl (by kernel_rfl) (by kernel_rfl) (by kernel_rfl) (by rfl) S1 ?_ ?_
      rotate_left
      · ((rintro W ⟨k0, k1⟩; go_simp) <;> with_reducible rfl)
      simp only [Act.put, List.setIfInBounds_toArray, List.set_cons_zero, List.set_cons_succ]
      have x6 : V1.cell? ⟨w.heap.size, 6, none⟩ = some (.int .i64 xb) := cellB (j := 6) hx1 rfl
      have x6f : V1.frozen? ⟨w.heap.size, 6, none⟩ = false := frozenB (j := 6) hx1
      have hx2 : (V1.setCell ⟨w.heap.size, 6, none⟩ (.int .i64 b2)).heap[w.heap.size]? = some (Obj.cells #[.int .i64 kk, .int .i64 ff, .int .i64 tt, .int .u64 uu, .string ss, .int .i64 a2, .int .i64 b2] NodeT) := setCellB (j := 6) hx1
      have hy2 : (V1.setCell ⟨w.heap.size, 6, none⟩ (.int .i64 b2)).heap[w.heap.size + 1]? = some (Obj.cells #[.int .i64 k2, .int .i64 f2, .int .i64 t2, .int .u64 u2, .string s2, .int .i64 a2, .int .i64 b2] NodeT) := by rw [Below.heap_setCell _ _ _ _ (by simp)]; exact hy1
      have HU2 := Lib.hid (HU1.out.setCell (p := ⟨w.heap.size, 6, none⟩) (Nat.le_refl _) (.int .i64 b2))
      refine lex_do (i := 7) rfl (by kernel_rfl) (by rfl) (fun K hK => ?_)
      go_simp
      have S2 : (V1.setCell ⟨w.heap.size, 6, none⟩ (.int .i64 b2)).cell? ⟨w.heap.size + 1, 5, none⟩ = some (.int .i64 a2) ∧ (V1.setCell ⟨w.heap.size, 6, none⟩ (.int .i64 b2)).cell? ⟨w.heap.size + 1, 6, none⟩ = some (.int .i64 b2) := ⟨cellB (j := 5) hy2 rfl, cellB (j := 6) hy2 rfl⟩
      refine hK _ _ ⟨S2, ?_⟩
      clear hK K S1 x6 x6f hx1 hy1 HU1
      refine lex_done (by kernel_rfl) ?_
      clear S2
      generalize (V1.setCell ⟨w.heap.size, 6, none⟩ (.int .i64 b2)) = V2 at *
      have x0 : V2.cell? ⟨w.heap.size, 0, none⟩ = some (.int .i64 kk) := cellB (j := 0) hx2 rfl
      have y0 : V2.cell? ⟨w.heap.size + 1, 0, none⟩ = some (.int .i64 k2) := cellB (j := 0) hy2 rfl
      have x1 : V2.cell? ⟨w.heap.size, 1, none⟩ = some (.int .i64 ff) := cellB (j := 1) hx2 rfl
      have y1 : V2.cell? ⟨w.heap.size + 1, 1, none⟩ = some (.int .i64 f2) := cellB (j := 1) hy2 rfl
      have x2 : V2.cell? ⟨w.heap.size, 2, none⟩ = some (.int .i64 tt) := cellB (j := 2) hx2 rfl
      have y2 : V2.cell? ⟨w.heap.size + 1, 2, none⟩ = some (.int .i64 t2) := cellB (j := 2) hy2 rfl
      have x3 : V2.cell? ⟨w.heap.size, 3, none⟩ = some (.int .u64 uu) := cellB (j := 3) hx2 rfl
      have y3 : V2.cell? ⟨w.heap.size + 1, 3, none⟩ = some (.int .u64 u2) := cellB (j := 3) hy2 rfl
      have x4 : V2.cell? ⟨w.heap.size, 4, none⟩ = some (.string ss) := cellB (j := 4) hx2 rfl
      have y4 : V2.cell? ⟨w.heap.size + 1, 4, none⟩ = some (.string s2) := cellB (j := 4) hy2 rfl
      have x5 : V2.cell? ⟨w.heap.size, 5, none⟩ = some (.int .i64 a2) := cellB (j := 5) hx2 rfl
      have y5 : V2.cell? ⟨w.heap.size + 1, 5, none⟩ = some (.int .i64 a2) := cellB (j := 5) hy2 rfl
      have x6 : V2.cell? ⟨w.heap.size, 6, none⟩ = some (.int .i64 b2) := cellB (j := 6) hx2 rfl
      have y6 : V2.cell? ⟨w.heap.size + 1, 6, none⟩ = some (.int .i64 b2) := cellB (j := 6) hy2 rfl
      clear hx2 hy2
      go_wp2_with fail
      all_goals (clear x0 x1 x2 x3 x4 x5 x6 y0 y1 y2 y3 y4 y5 y6)
      all_goals (go_returns; exact ⟨by rw [HS.out, nd_dec]; simp [*], HU2.out⟩)
    | true =>
      have HS : Hid (r = decide ((⟨k2, ff, tt, uu, ss, a2, b2⟩ : Nd) = ⟨k2, f2, t2, u2, s2, a2, b2⟩)) := Lib.hid (by
        rw [HRR.out]
        unfold sameB sameN
        simp [HVX.out, HVY.out])
      have hx4 := HX4.out
      have x0 : w4.cell? ⟨w.heap.size, 0, none⟩ = some (.int .i64 kk) := cellB (j := 0) hx4 rfl
      have x0f : w4.frozen? ⟨w.heap.size, 0, none⟩ = false := frozenB (j := 0) hx4
      have y0 : w4.cell? ⟨w.heap.size + 1, 0, none⟩ = some (.int .i64 k2) := cellB (j := 0) HY4.out rfl
      have HX : Hid ((w4.setCell ⟨w.heap.size, 0, none⟩ (.int .i64 k2)).heap[w.heap.size]? = some (Obj.cells #[.int .i64 k2, .int .i64 ff, .int .i64 tt, .int .u64 uu, .string ss, .int .i64 xa, .int .i64 xb] NodeT)) := Lib.hid (setCellB (j := 0) hx4)
      have HY : Hid ((w4.setCell ⟨w.heap.size, 0, none⟩ (.int .i64 k2)).heap[w.heap.size + 1]? = some (Obj.cells #[.int .i64 k2, .int .i64 f2, .int .i64 t2, .int .u64 u2, .string s2, .int .i64 a2, .int .i64 b2] NodeT)) := Lib.hid (by rw [Below.heap_setCell _ _ _ _ (by simp)]; exact HY4.out)
      have HU := Lib.hid (HU4.out.setCell (p := ⟨w.heap.size, 0, none⟩) (Nat.le_refl _) (.int .i64 k2))
      clear hx4
      go_upto_region 3 with fail
      generalize (w4.setCell ⟨w.heap.size, 0, none⟩ (.int .i64 k2)) = V0 at *
      clear HX4 HY4 HU4 HVX HVY HRR x0 x0f y0
      have hxd := Hold.below (bd V0) _ _ HX.out
      have hyd := Hold.below (bd V0) _ _ HY.out
      have HUD := Lib.hid (bmore HU.out (bd V0))
      clear HX HY HU
      have S0 : V0.drew.cell? ⟨w.heap.size + 1, 5, none⟩ = some (.int .i64 a2) ∧ V0.drew.cell? ⟨w.heap.size + 1, 6, none⟩ = some (.int .i64 b2) := ⟨cellB (j := 5) hyd rfl, cellB (j := 6) hyd rfl⟩
      refine lex_start [0, 1, 2, 3, 4, 5, 6, 7] (S := fun V => V.cell? ⟨w.heap.size + 1, 5, none⟩ = some (.int .i64 a2) ∧ V.cell? ⟨w.heap.size + 1, 6, none⟩ = some (.int .i64 b2)) (by kernel_rfl) S0 (fun hS => ?_)
      simp only [inOrder, List.filterMap, List.getElem?_cons_succ, List.getElem?_cons_zero]
      generalize V0.drew = V at *
      clear hS
      refine lex_take (i := 0) (v := ?_) rfl (by kernel_rfl) (by kernel_rfl) (by kernel_rfl) (by rfl) S0 ?_ ?_
      rotate_left
      · ((rintro W ⟨k0, k1⟩; go_simp) <;> with_reducible rfl)
      simp only [Act.put, List.setIfInBounds_toArray, List.set_cons_zero, List.set_cons_succ]
      refine lex_take (i := 1) (v := ?_) rfl (by kernel_rfl) (by kernel_rfl) (by kernel_rfl) (by rfl) S0 ?_ ?_
      rotate_left
      · ((rintro W ⟨k0, k1⟩; go_simp) <;> with_reducible rfl)
      simp only [Act.put, List.setIfInBounds_toArray, List.set_cons_zero, List.set_cons_succ]
      refine lex_take (i := 2) (v := ?_) rfl (by kernel_rfl) (by kernel_rfl) (by kernel_rfl) (by rfl) S0 ?_ ?_
      rotate_left
      · ((rintro W ⟨k0, k1⟩; go_simp) <;> with_reducible rfl)
      simp only [Act.put, List.setIfInBounds_toArray, List.set_cons_zero, List.set_cons_succ]
      refine lex_take (i := 3) (v := ?_) rfl (by kernel_rfl) (by kernel_rfl) (by kernel_rfl) (by rfl) S0 ?_ ?_
      rotate_left
      · ((rintro W ⟨k0, k1⟩; go_simp) <;> with_reducible rfl)
      simp only [Act.put, List.setIfInBounds_toArray, List.set_cons_zero, List.set_cons_succ]
      refine lex_take (i := 4) (v := ?_) rfl (by kernel_rfl) (by kernel_rfl) (by kernel_rfl) (by rfl) S0 ?_ ?_
      rotate_left
      · ((rintro W ⟨k0, k1⟩; go_simp) <;> with_reducible rfl)
      simp only [Act.put, List.setIfInBounds_toArray, List.set_cons_zero, List.set_cons_succ]
      have x5 : V.cell? ⟨w.heap.size, 5, none⟩ = some (.int .i64 xa) := cellB (j := 5) hxd rfl
      have x5f : V.frozen? ⟨w.heap.size, 5, none⟩ = false := frozenB (j := 5) hxd
      have hx1 : (V.setCell ⟨w.heap.size, 5, none⟩ (.int .i64 a2)).heap[w.heap.size]? = some (Obj.cells #[.int .i64 k2, .int .i64 ff, .int .i64 tt, .int .u64 uu, .string ss, .int .i64 a2, .int .i64 xb] NodeT) := setCellB (j := 5) hxd
      have hy1 : (V.setCell ⟨w.heap.size, 5, none⟩ (.int .i64 a2)).heap[w.heap.size + 1]? = some (Obj.cells #[.int .i64 k2, .int .i64 f2, .int .i64 t2, .int .u64 u2, .string s2, .int .i64 a2, .int .i64 b2] NodeT) := by rw [Below.heap_setCell _ _ _ _ (by simp)]; exact hyd
      have HU1 := Lib.hid (HUD.out.setCell (p := ⟨w.heap.size, 5, none⟩) (Nat.le_refl _) (.int .i64 a2))
      refine lex_do (i := 5) rfl (by kernel_rfl) (by rfl) (fun K hK => ?_)
      go_simp
      have S1 : (V.setCell ⟨w.heap.size, 5, none⟩ (.int .i64 a2)).cell? ⟨w.heap.size + 1, 5, none⟩ = some (.int .i64 a2) ∧ (V.setCell ⟨w.heap.size, 5, none⟩ (.int .i64 a2)).cell? ⟨w.heap.size + 1, 6, none⟩ = some (.int .i64 b2) := ⟨cellB (j := 5) hy1 rfl, cellB (j := 6) hy1 rfl⟩
      refine hK _ _ ⟨S1, ?_⟩
      clear hK K S0 x5 x5f hxd hyd HUD
      generalize (V.setCell ⟨w.heap.size, 5, none⟩ (.int .i64 a2)) = V1 at *
      refine lex_take (i := 6) (v := ?_) rfl (by kernel_rfl) (by kernel_rfl) (by kernel_rfl) (by rfl) S1 ?_ ?_
      rotate_left
      · ((rintro W ⟨k0, k1⟩; go_simp) <;> with_reducible rfl)
      simp only [Act.put, List.setIfInBounds_toArray, List.set_cons_zero, List.set_cons_succ]
      have x6 : V1.cell? ⟨w.heap.size, 6, none⟩ = some (.int .i64 xb) := cellB (j := 6) hx1 rfl
      have x6f : V1.frozen? ⟨w.heap.size, 6, none⟩ = false := frozenB (j := 6) hx1
      have hx2 : (V1.setCell ⟨w.heap.size, 6, none⟩ (.int .i64 b2)).heap[w.heap.size]? = some (Obj.cells #[.int .i64 k2, .int .i64 ff, .int .i64 tt, .int .u64 uu, .string ss, .int .i64 a2, .int .i64 b2] NodeT) := setCellB (j := 6) hx1
      have hy2 : (V1.setCell ⟨w.heap.size, 6, none⟩ (.int .i64 b2)).heap[w.heap.size + 1]? = some (Obj.cells #[.int .i64 k2, .int .i64 f2, .int .i64 t2, .int .u64 u2, .string s2, .int .i64 a2, .int .i64 b2] NodeT) := by rw [Below.heap_setCell _ _ _ _ (by simp)]; exact hy1
      have HU2 := Lib.hid (HU1.out.setCell (p := ⟨w.heap.size, 6, none⟩) (Nat.le_refl _) (.int .i64 b2))
      refine lex_do (i := 7) rfl (by kernel_rfl) (by rfl) (fun K hK => ?_)
      go_simp
      have S2 : (V1.setCell ⟨w.heap.size, 6, none⟩ (.int .i64 b2)).cell? ⟨w.heap.size + 1, 5, none⟩ = some (.int .i64 a2) ∧ (V1.setCell ⟨w.heap.size, 6, none⟩ (.int .i64 b2)).cell? ⟨w.heap.size + 1, 6, none⟩ = some (.int .i64 b2) := ⟨cellB (j := 5) hy2 rfl, cellB (j := 6) hy2 rfl⟩
      refine hK _ _ ⟨S2, ?_⟩
      clear hK K S1 x6 x6f hx1 hy1 HU1
      refine lex_done (by kernel_rfl) ?_
      clear S2
      generalize (V1.setCell ⟨w.heap.size, 6, none⟩ (.int .i64 b2)) = V2 at *
      have x0 : V2.cell? ⟨w.heap.size, 0, none⟩ = some (.int .i64 k2) := cellB (j := 0) hx2 rfl
      have y0 : V2.cell? ⟨w.heap.size + 1, 0, none⟩ = some (.int .i64 k2) := cellB (j := 0) hy2 rfl
      have x1 : V2.cell? ⟨w.heap.size, 1, none⟩ = some (.int .i64 ff) := cellB (j := 1) hx2 rfl
      have y1 : V2.cell? ⟨w.heap.size + 1, 1, none⟩ = some (.int .i64 f2) := cellB (j := 1) hy2 rfl
      have x2 : V2.cell? ⟨w.heap.size, 2, none⟩ = some (.int .i64 tt) := cellB (j := 2) hx2 rfl
      have y2 : V2.cell? ⟨w.heap.size + 1, 2, none⟩ = some (.int .i64 t2) := cellB (j := 2) hy2 rfl
      have x3 : V2.cell? ⟨w.heap.size, 3, none⟩ = some (.int .u64 uu) := cellB (j := 3) hx2 rfl
      have y3 : V2.cell? ⟨w.heap.size + 1, 3, none⟩ = some (.int .u64 u2) := cellB (j := 3) hy2 rfl
      have x4 : V2.cell? ⟨w.heap.size, 4, none⟩ = some (.string ss) := cellB (j := 4) hx2 rfl
      have y4 : V2.cell? ⟨w.heap.size + 1, 4, none⟩ = some (.string s2) := cellB (j := 4) hy2 rfl
      have x5 : V2.cell? ⟨w.heap.size, 5, none⟩ = some (.int .i64 a2) := cellB (j := 5) hx2 rfl
      have y5 : V2.cell? ⟨w.heap.size + 1, 5, none⟩ = some (.int .i64 a2) := cellB (j := 5) hy2 rfl
      have x6 : V2.cell? ⟨w.heap.size, 6, none⟩ = some (.int .i64 b2) := cellB (j := 6) hx2 rfl
      have y6 : V2.cell? ⟨w.heap.size + 1, 6, none⟩ = some (.int .i64 b2) := cellB (j := 6) hy2 rfl
      clear hx2 hy2
      go_wp2_with fail
      all_goals (clear x0 x1 x2 x3 x4 x5 x6 y0 y1 y2 y3 y4 y5 y6)
      all_goals (go_returns; exact ⟨by rw [HS.out, nd_dec]; simp [*], HU2.out⟩)
end Go.Proofs.YtgaklaajbepfaaaGreatDoor
namespace Go.Proofs.YtgaklaajbepfaaaGreatDoor
open Go.RowKit Go.Maps Go.Shelf
set_option linter.unusedVariables false

/-- A correspondence of terms: one to one, and what stands in two that correspond corresponds. -/
structure Bij (p : Pl) (who : Int) (R : Int → Int → Prop) : Prop where
  fn : ∀ a b b', R a b → R a b' → b = b'
  inj : ∀ a a' b, R a b → R a' b → a = a'
  zero : R 0 0
  step : ∀ a b, R a b → (a = 0 ∧ b = 0) ∨ (inP p a = true ∧ inP p b = true ∧ sameB who (atP p a).1 (atP p b).1 = true ∧ R (atP p a).1.a (atP p b).1.a ∧ R (atP p a).1.b (atP p b).1.b)
/-- What corresponds so far. -/
structure Cor (p : Pl) (m n : Int → Option Int) : Prop where
  inv : ∀ a b, m a = some b ↔ n b = some a
  zero : m 0 = some 0
  ins : ∀ a b, m a = some b → (a = 0 ∧ b = 0) ∨ (inP p a = true ∧ inP p b = true)
def Closed (p : Pl) (who : Int) (m : Int → Option Int) (x y : Int) : Prop := (x = 0 ∧ y = 0) ∨ (sameB who (atP p x).1 (atP p y).1 = true ∧ m (atP p x).1.a = some (atP p y).1.a ∧ m (atP p x).1.b = some (atP p y).1.b)
theorem Closed.more {p : Pl} {who : Int} {m m' : Int → Option Int} {x y : Int} (h : Closed p who m x y) (hm : ∀ a b, m a = some b → m' a = some b) : Closed p who m' x y :=
  h.imp id fun ⟨h1, h2, h3⟩ => ⟨h1, hm _ _ h2, hm _ _ h3⟩
theorem Cor.start (p : Pl) : Cor p anew0 anew0 := by
  refine ⟨fun a b => ?_, rfl, fun a b h => ?_⟩
  · unfold anew0
    constructor
    · intro h
      split at h
      · rename_i e; rw [← Option.some.inj h, e]; rfl
      · cases h
    · intro h
      split at h
      · rename_i e; rw [← Option.some.inj h, e]; rfl
      · cases h
  · unfold anew0 at h
    split at h
    · rename_i e; exact .inl ⟨e, (Option.some.inj h).symm⟩
    · cases h
theorem Cor.put {p : Pl} {m n : Int → Option Int} (h : Cor p m n) {a b : Int} (ha : inP p a = true) (hb : inP p b = true) (h1 : m a = none) (h2 : n b = none) : Cor p (updO m a b) (updO n b a) := by
  refine ⟨fun x y => ?_, ?_, fun x y hxy => ?_⟩
  · unfold updO
    by_cases ex : x = a
    · subst ex
      rw [if_pos rfl]
      by_cases ey : y = b
      · subst ey; rw [if_pos rfl]; simp
      · rw [if_neg ey]
        constructor
        · intro e; exact absurd (Option.some.inj e).symm ey
        · intro e; rw [← h.inv] at e; rw [h1] at e; cases e
    · rw [if_neg ex]
      by_cases ey : y = b
      · subst ey
        rw [if_pos rfl]
        constructor
        · intro e; rw [h.inv] at e; rw [h2] at e; cases e
        · intro e; exact absurd (Option.some.inj e).symm ex
      · rw [if_neg ey]; exact h.inv x y
  · unfold updO
    rw [if_neg (fun e => by rw [← e, inP_zero] at ha; cases ha)]; exact h.zero
  · unfold updO at hxy
    by_cases ex : x = a
    · rw [if_pos ex] at hxy
      rw [ex, ← Option.some.inj hxy]; exact .inr ⟨ha, hb⟩
    · rw [if_neg ex] at hxy; exact h.ins x y hxy
/-- What laying two terms side by side tells. -/
def CorP (p : Pl) (who : Int) (m : Int → Option Int) (a b : Int) (r : Bool) (m' n' : Int → Option Int) : Prop :=
  (r = true → Cor p m' n' ∧ (∀ x y, m x = some y → m' x = some y) ∧ m' a = some b ∧ (∀ x y, m' x = some y → m x = some y ∨ Closed p who m' x y) ∧ (∀ R, Bij p who R → (∀ x y, m x = some y → R x y) → R a b → ∀ x y, m' x = some y → R x y)) ∧
  (r = false → ∀ R, Bij p who R → (∀ x y, m x = some y → R x y) → ¬ R a b)
section
variable {p : Pl} {who : Int} {m n : Int → Option Int} {a b : Int}
theorem corP_met {o : Int} (h : Cor p m n) (hm : m a = some o) : CorP p who m a b (o == b) m n := by
  refine ⟨fun hr => ?_, fun hr R hR hs hab => ?_⟩
  · have e : o = b := by simpa using hr
    subst e
    exact ⟨h, fun _ _ h => h, hm, fun _ _ h => .inl h, fun R _ hs _ x y hxy => hs x y hxy⟩
  · have := hR.fn a b o hab (hs a o hm)
    rw [this] at hr; simp at hr
theorem corP_taken {o : Int} (h : Cor p m n) (hm : m a = none) (hn : n b = some o) : CorP p who m a b false m n := by
  refine ⟨fun hr => (by cases hr), fun _ R hR hs hab => ?_⟩
  have h1 := (h.inv o b).2 hn
  have := hR.inj a o b hab (hs o b h1)
  rw [this, h1] at hm; cases hm
/-- The bodies tell them apart. -/
theorem corP_unlike {m' n' : Int → Option Int} (ha : inP p a = true) (hq : sameB who (atP p a).1 (atP p b).1 = false) : CorP p who m a b false m' n' := by
  refine ⟨fun hr => (by cases hr), fun _ R hR hs hab => ?_⟩
  rcases hR.step a b hab with ⟨rfl, _⟩ | ⟨_, _, h3, _⟩
  · rw [inP_zero] at ha; cases ha
  · rw [hq] at h3; cases h3
/-- What has been put: a correspondence that has the pair has it. -/
theorem put_sub {R : Int → Int → Prop} (hs : ∀ x y, m x = some y → R x y) (hab : R a b) : ∀ x y, updO m a b x = some y → R x y := fun x y h => by
  unfold updO at h
  by_cases e : x = a
  · rw [if_pos e] at h; rw [e, ← Option.some.inj h]; exact hab
  · rw [if_neg e] at h; exact hs x y h
theorem corP_left {m' n' : Int → Option Int} (ha : inP p a = true) (h : CorP p who (updO m a b) (atP p a).1.a (atP p b).1.a false m' n') : CorP p who m a b false m' n' := by
  refine ⟨fun hr => (by cases hr), fun _ R hR hs hab => ?_⟩
  rcases hR.step a b hab with ⟨rfl, _⟩ | ⟨_, _, _, h4, _⟩
  · rw [inP_zero] at ha; cases ha
  · exact h.2 rfl R hR (put_sub hs hab) h4
theorem corP_right {m1 n1 m' n' : Int → Option Int} (ha : inP p a = true) (h : CorP p who (updO m a b) (atP p a).1.a (atP p b).1.a true m1 n1) (h' : CorP p who m1 (atP p a).1.b (atP p b).1.b false m' n') : CorP p who m a b false m' n' := by
  refine ⟨fun hr => (by cases hr), fun _ R hR hs hab => ?_⟩
  rcases hR.step a b hab with ⟨rfl, _⟩ | ⟨_, _, _, h4, h5⟩
  · rw [inP_zero] at ha; cases ha
  · exact h'.2 rfl R hR ((h.1 rfl).2.2.2.2 R hR (put_sub hs hab) h4) h5
theorem corP_both {m1 n1 m' n' : Int → Option Int} (ha : inP p a = true) (hm : m a = none) (hq : sameB who (atP p a).1 (atP p b).1 = true) (h : CorP p who (updO m a b) (atP p a).1.a (atP p b).1.a true m1 n1) (h' : CorP p who m1 (atP p a).1.b (atP p b).1.b true m' n') : CorP p who m a b true m' n' := by
  refine ⟨fun _ => ?_, fun hr => (by cases hr)⟩
  obtain ⟨c1, e1, k1, d1, s1⟩ := h.1 rfl
  obtain ⟨c2, e2, k2, d2, s2⟩ := h'.1 rfl
  have hab : updO m a b a = some b := by unfold updO; rw [if_pos rfl]
  have hc : Closed p who m' a b := .inr ⟨hq, e2 _ _ k1, k2⟩
  refine ⟨c2, fun x y hxy => e2 _ _ (e1 _ _ ?_), e2 _ _ (e1 _ _ hab), fun x y hxy => ?_, fun R hR hs hRab x y hxy => ?_⟩
  · unfold updO
    rw [if_neg (fun e => by rw [e, hm] at hxy; cases hxy)]; exact hxy
  · rcases d2 x y hxy with h1 | h1
    · rcases d1 x y h1 with h2 | h2
      · by_cases e : x = a
        · unfold updO at h2
          rw [if_pos e] at h2
          rw [e, ← Option.some.inj h2]; exact .inr hc
        · unfold updO at h2
          rw [if_neg e] at h2; exact .inl h2
      · exact .inr (h2.more e2)
    · exact .inr h1
  · rcases hR.step a b hRab with ⟨rfl, _⟩ | ⟨_, _, _, h4, h5⟩
    · rw [inP_zero] at ha; cases ha
    · exact s2 R hR (s1 R hR (put_sub hs hRab) h4) h5 x y hxy
end
end Go.Proofs.YtgaklaajbepfaaaGreatDoor
namespace Go.Proofs.YtgaklaajbepfaaaGreatDoor
open Go.RowKit Go.Maps Go.Shelf
set_option linter.unusedVariables false

abbrev CoFT : TypeId := 154
theorem AnM.put {w : World} {mb : Nat} {T : Int} {m : Int → Option Int} (h : AnM w mb T m) (hT : T ≤ 65536) {t u : Int} (ht : i64R t) (hu : i64R u) (hin : 1 ≤ t ∧ t ≤ T) (hn : m t = none) : ∃ w', (Instr.mapUpdate AnewT (.map (some mb)) (.int .i64 t) (.int .i64 u)).run Tryz.prog w = .ok () w' ∧ AnM w' mb T (updO m t u) ∧ w.grownBy w' (some mb) := by
  obtain ⟨n0, D0, hown0, hn0, hst0⟩ := h.store hT ht hin hn
  obtain ⟨w', h1, h2, h3⟩ := hown0.update lawT Tryz.underlying153 hn0 (keyT ht) (plainElem_int Tryz.underlying39 (wf_i64 hu))
  exact ⟨w', h1, hst0 _ _ h2, h3⟩
/-- What the closure leaves as it was. -/
structure CoG (w : World) (B mb1 mb2 : Nat) (w' : World) : Prop where
  below : Below B w w'
  hold : ∀ T, Hold T w w'
  maps : ∀ j, j ≠ mb1 → j ≠ mb2 → ∀ es c, w.heap[j]? = some (.map es c) → w'.heap[j]? = some (.map es c)
theorem CoG.of {w w' : World} {B mb1 mb2 : Nat} (hB : B ≤ w.heap.size) (h : Below w.heap.size w w') : CoG w B mb1 mb2 w' :=
  ⟨h.mono hB, fun T => Hold.below h, fun j _ _ es c hm => by rw [h.block j (Array.getElem?_eq_some_iff.1 hm).1]; exact hm⟩
theorem CoG.trans {x y z : World} {B mb1 mb2 : Nat} (h : CoG x B mb1 mb2 y) (k : CoG y B mb1 mb2 z) : CoG x B mb1 mb2 z :=
  ⟨h.below.trans k.below, fun T => (h.hold T).trans (k.hold T), fun j h1 h2 es c hm => k.maps j h1 h2 es c (h.maps j h1 h2 es c hm)⟩
theorem CoG.put {w w' : World} {B mb mb1 mb2 : Nat} (hmb : mb = mb1 ∨ mb = mb2) {es c} (hB : B ≤ w.heap.size) (hm : B ≤ mb) (h0 : w.heap[mb]? = some (.map es c)) (g : w.grownBy w' (some mb)) : CoG w B mb1 mb2 w' :=
  ⟨grown_below g hB (fun k e => by cases e; exact hm), fun T => hold_map ⟨_, _, h0⟩ g T, fun j h1 h2 es' c' hj => by
    rw [g.block j (Array.getElem?_eq_some_iff.1 hj).1 (fun e => by have := Option.some.inj e; rcases hmb with e' | e' <;> omega)]; exact hj⟩
theorem CoG.pool {w w' : World} {B B' mb1 mb2 a b : Nat} {v : Value} {p : Pl} (h : CoG w B mb1 mb2 w') (hp : IsPool w B' a b v p) (h1 : b ≠ mb1) (h2 : b ≠ mb2) : IsPool w' B' a b v p :=
  hp.heldV (h.hold _) (h.hold _) (fun es c hm => h.maps b h1 h2 es c hm)
/-- The closure and what it holds. -/
structure IsCo (w : World) (tb bb pb wb cb mb1 mb2 a : Nat) (who : Int) : Prop where
  th : w.heap[tb]? = some (Obj.cells #[.map (some mb1)] AnewT)
  bk : w.heap[bb]? = some (Obj.cells #[.map (some mb2)] AnewT)
  pl : w.heap[pb]? = some (Obj.cells #[.pointer (some ⟨a, 0, none⟩)] VPoolT)
  wh : w.heap[wb]? = some (Obj.cells #[.int .i64 who] WhoT)
  co : w.heap[cb]? = some (Obj.cells #[.func (.func 99) #[] #[.pointer (some ⟨tb, 0, none⟩), .pointer (some ⟨bb, 0, none⟩), .pointer (some ⟨pb, 0, none⟩), .pointer (some ⟨wb, 0, none⟩), .pointer (some ⟨cb, 0, none⟩)]] CoFT)
theorem IsCo.hold {w w' : World} {tb bb pb wb cb mb1 mb2 a : Nat} {who : Int} (h : IsCo w tb bb pb wb cb mb1 mb2 a who) (hh : ∀ T, Hold T w w') : IsCo w' tb bb pb wb cb mb1 mb2 a who :=
  ⟨hh _ _ _ h.th, hh _ _ _ h.bk, hh _ _ _ h.pl, hh _ _ _ h.wh, hh _ _ _ h.co⟩
def CoPost (B b mb1 mb2 : Nat) (p : Pl) (who : Int) (m : Int → Option Int) (x y : Int) (w : World) (e : Ending) (w' : World) : Prop :=
  ∃ (r : Bool) (m' n' : Int → Option Int), e = .returned (.bool r) ∧ AnM w' mb1 (p.length : Int) m' ∧ AnM w' mb2 (p.length : Int) n' ∧ CorP p who m x y r m' n' ∧ CoG w B mb1 mb2 w'
def CoC (B B0 a b : Nat) (v : Value) (p : Pl) (who : Int) (tb bb pb wb cb mb1 mb2 : Nat) (x y : Int) : Prop :=
  ∀ (W : World) (m n : Int → Option Int), B ≤ W.heap.size → IsPool W B0 a b v p → IsCo W tb bb pb wb cb mb1 mb2 a who → Cor p m n → AnM W mb1 (p.length : Int) m → AnM W mb2 (p.length : Int) n → Calls Tryz.prog 99 #[.int .i64 x, .int .i64 y, .pointer (some ⟨tb, 0, none⟩), .pointer (some ⟨bb, 0, none⟩), .pointer (some ⟨pb, 0, none⟩), .pointer (some ⟨wb, 0, none⟩), .pointer (some ⟨cb, 0, none⟩)] W (CoPost B b mb1 mb2 p who m x y W)
section
variable {B B0 a b : Nat} {v : Value} {p : Pl} {who : Int} {tb bb pb wb cb mb1 mb2 : Nat} {x y : Int} {W : World} {m n : Int → Option Int}
set_option maxRecDepth 100000 in
set_option maxHeartbeats 6400000 in
theorem co_met {o : Int} (hx : i64R x) (hB : B ≤ W.heap.size) (hc : IsCo W tb bb pb wb cb mb1 mb2 a who) (hC : Cor p m n) (h1 : AnM W mb1 (p.length : Int) m) (h2 : AnM W mb2 (p.length : Int) n) (hm : m x = some o) : Calls Tryz.prog 99 #[.int .i64 x, .int .i64 y, .pointer (some ⟨tb, 0, none⟩), .pointer (some ⟨bb, 0, none⟩), .pointer (some ⟨pb, 0, none⟩), .pointer (some ⟨wb, 0, none⟩), .pointer (some ⟨cb, 0, none⟩)] W (CoPost B b mb1 mb2 p who m x y W) := by
  have hlk := h1.look hx
  rw [hm] at hlk
  have c0 : W.cell? ⟨tb, 0, none⟩ = some (.map (some mb1)) := cellB hc.th rfl
  have HF : Hid (CoPost B b mb1 mb2 p who m x y W (.returned (.bool (o == y))) W) := Lib.hid ⟨_, m, n, rfl, h1, h2, corP_met hC hm, CoG.of hB (Below.refl _ _)⟩
  clear hc hC h1 h2 hm
  go_enter Tryz.func99, Tryz.ntmps99
  go_wp2_with fail
  go_returns
  exact HF.out
set_option maxRecDepth 100000 in
set_option maxHeartbeats 6400000 in
theorem co_taken {o : Int} (hx : i64R x) (hy : i64R y) (hB : B ≤ W.heap.size) (hc : IsCo W tb bb pb wb cb mb1 mb2 a who) (hC : Cor p m n) (h1 : AnM W mb1 (p.length : Int) m) (h2 : AnM W mb2 (p.length : Int) n) (hm : m x = none) (hn : n y = some o) : Calls Tryz.prog 99 #[.int .i64 x, .int .i64 y, .pointer (some ⟨tb, 0, none⟩), .pointer (some ⟨bb, 0, none⟩), .pointer (some ⟨pb, 0, none⟩), .pointer (some ⟨wb, 0, none⟩), .pointer (some ⟨cb, 0, none⟩)] W (CoPost B b mb1 mb2 p who m x y W) := by
  have hlk := h1.look hx
  rw [hm] at hlk
  have hlk2 := h2.look hy
  rw [hn] at hlk2
  have c0 : W.cell? ⟨tb, 0, none⟩ = some (.map (some mb1)) := cellB hc.th rfl
  have c1 : W.cell? ⟨bb, 0, none⟩ = some (.map (some mb2)) := cellB hc.bk rfl
  have HF : Hid (CoPost B b mb1 mb2 p who m x y W (.returned (.bool false)) W) := Lib.hid ⟨_, m, n, rfl, h1, h2, corP_taken hC hm hn, CoG.of hB (Below.refl _ _)⟩
  clear hc hC h1 h2 hm hn
  go_enter Tryz.func99, Tryz.ntmps99
  go_wp2_with fail
  go_returns
  exact HF.out
set_option maxRecDepth 100000 in
set_option maxHeartbeats 51200000 in
theorem co_new (hx : inP p x = true) (hy : inP p y = true) (hne : mb1 ≠ mb2) (hb1 : b ≠ mb1) (hb2 : b ≠ mb2) (hB1 : B ≤ mb1) (hB2 : B ≤ mb2)
    (ia : CoC B B0 a b v p who tb bb pb wb cb mb1 mb2 (atP p x).1.a (atP p y).1.a) (ib : CoC B B0 a b v p who tb bb pb wb cb mb1 mb2 (atP p x).1.b (atP p y).1.b)
    (hB : B ≤ W.heap.size) (hp : IsPool W B0 a b v p) (hc : IsCo W tb bb pb wb cb mb1 mb2 a who) (hC : Cor p m n) (h1 : AnM W mb1 (p.length : Int) m) (h2 : AnM W mb2 (p.length : Int) n) (hm : m x = none) (hn : n y = none) : Calls Tryz.prog 99 #[.int .i64 x, .int .i64 y, .pointer (some ⟨tb, 0, none⟩), .pointer (some ⟨bb, 0, none⟩), .pointer (some ⟨pb, 0, none⟩), .pointer (some ⟨wb, 0, none⟩), .pointer (some ⟨cb, 0, none⟩)] W (CoPost B b mb1 mb2 p who m x y W) := by
  have hpl := hp.ok.len
  have hxi : i64R x := in_i64 hpl (.inr hx)
  have hyi : i64R y := in_i64 hpl (.inr hy)
  have hxr : 1 ≤ x ∧ x ≤ (p.length : Int) := by unfold inP at hx; simpa using hx
  have hyr : 1 ≤ y ∧ y ≤ (p.length : Int) := by unfold inP at hy; simpa using hy
  have hlk := h1.look hxi
  rw [hm] at hlk
  have hlk2 := h2.look hyi
  rw [hn] at hlk2
  have c0 : W.cell? ⟨tb, 0, none⟩ = some (.map (some mb1)) := cellB hc.th rfl
  have c1 : W.cell? ⟨bb, 0, none⟩ = some (.map (some mb2)) := cellB hc.bk rfl
  -- the two stores
  obtain ⟨V1, hr1, hM1, hg1⟩ := (h1.below (bd W)).put (by omega) hxi hyi hxr hm
  obtain ⟨es1, cl1, hmap1⟩ := (h1.below (bd W)).mapb
  have hBd : B ≤ W.drew.heap.size := hB
  have hco1 := CoG.put (mb1 := mb1) (mb2 := mb2) (.inl rfl) hBd hB1 hmap1 hg1
  have h2V : AnM V1 mb2 (p.length : Int) n := (h2.below (bd W)).same (fun es c hm => by rw [hg1.block mb2 (Array.getElem?_eq_some_iff.1 hm).1 (fun e => hne (Option.some.inj e).symm)]; exact hm)
  obtain ⟨V2, hr2, hM2, hg2⟩ := h2V.put (by omega) hyi hxi hyr hn
  obtain ⟨es2, cl2, hmap2⟩ := h2V.mapb
  have hBV : B ≤ V1.heap.size := Nat.le_trans hBd hg1.size
  have hco2 := CoG.put (mb1 := mb1) (mb2 := mb2) (.inr rfl) hBV hB2 hmap2 hg2
  have hM1' : AnM V2 mb1 (p.length : Int) (updO m x y) := hM1.same (fun es c hm => by rw [hg2.block mb1 (Array.getElem?_eq_some_iff.1 hm).1 (fun e => hne (Option.some.inj e))]; exact hm)
  have hG2 : CoG W B mb1 mb2 V2 := (CoG.of hB (bd W)).trans (hco1.trans hco2)
  have HM1 := Lib.hid hM1'
  have HM2 := Lib.hid hM2
  have HG2 := Lib.hid hG2
  have HC2 := Lib.hid (hC.put hx hy hm hn)
  have HI2 := Lib.hid (hc.hold hG2.hold)
  have HP2 := Lib.hid (hG2.pool hp hb1 hb2)
  have HB2 : Hid (B ≤ V2.heap.size) := Lib.hid (Nat.le_trans hBV hg2.size)
  have d0 : W.drew.cell? ⟨tb, 0, none⟩ = some (.map (some mb1)) ∧ W.drew.cell? ⟨bb, 0, none⟩ = some (.map (some mb2)) := ⟨bcellAt (bd W) c0, bcellAt (bd W) c1⟩
  have d1 : V1.cell? ⟨tb, 0, none⟩ = some (.map (some mb1)) ∧ V1.cell? ⟨bb, 0, none⟩ = some (.map (some mb2)) := ⟨cellB (hco1.hold _ _ _ (Hold.below (bd W) _ _ hc.th)) rfl, cellB (hco1.hold _ _ _ (Hold.below (bd W) _ _ hc.bk)) rfl⟩
  have d2 : V2.cell? ⟨tb, 0, none⟩ = some (.map (some mb1)) ∧ V2.cell? ⟨bb, 0, none⟩ = some (.map (some mb2)) := ⟨cellB (hG2.hold _ _ _ hc.th) rfl, cellB (hG2.hold _ _ _ hc.bk) rfl⟩
  have HXIN := Lib.hid hx
  have HMX := Lib.hid hm
  have HB1 := Lib.hid hb1
  have HB22 := Lib.hid hb2
  have IA := Lib.hid ia
  have IB := Lib.hid ib
  have UNL := Lib.hid (fun (m' n' : Int → Option Int) => corP_unlike (who := who) (m := m) (b := y) (m' := m') (n' := n') hx)
  have LFT := Lib.hid (fun (m' n' : Int → Option Int) => corP_left (who := who) (m := m) (b := y) (m' := m') (n' := n') hx)
  have RGT := Lib.hid (fun (m1 n1 m' n' : Int → Option Int) => corP_right (who := who) (m := m) (b := y) (m1 := m1) (n1 := n1) (m' := m') (n' := n') hx)
  have BTH := Lib.hid (fun (m1 n1 m' n' : Int → Option Int) => corP_both (who := who) (m := m) (b := y) (m1 := m1) (n1 := n1) (m' := m') (n' := n') hx hm)
  have PX := Lib.hid (fun (V : World) (h : IsPool V B0 a b v p) => pnode h x)
  have PY := Lib.hid (fun (V : World) (h : IsPool V B0 a b v p) => pnode h y)
  have eg := enters_of Tryz.func99 (by kernel_rfl) rfl
  clear hM1' hM2 hG2 hco1 hco2 h2V hmap1 hmap2 hM1 hg1 hg2 hBd hBV h1 h2 hp hc hC ia ib hpl hxr hyr hm hn hx hy hne hb1 hb2 hB1 hB2
  go_enter Tryz.func99, Tryz.ntmps99
  go_upto_region 7 with fail
  refine lex_start [0, 1, 2, 3, 4, 5, 6, 7] (S := fun V => V.cell? ⟨tb, 0, none⟩ = some (.map (some mb1)) ∧ V.cell? ⟨bb, 0, none⟩ = some (.map (some mb2))) (by kernel_rfl) d0 (fun hS => ?_)
  simp only [inOrder, List.filterMap, List.getElem?_cons_succ, List.getElem?_cons_zero]
  clear hS
  refine lex_take (i := 0) (v := ?_) rfl (by kernel_rfl) (by kernel_rfl) (by kernel_rfl) (by rfl) d0 ?_ ?_
  rotate_left
  · ((rintro W ⟨k0, k1⟩; go_simp) <;> with_reducible rfl)
  simp only [Act.put, List.setIfInBounds_toArray, List.set_cons_zero, List.set_cons_succ]
  refine lex_take (i := 1) (v := ?_) rfl (by kernel_rfl) (by kernel_rfl) (by kernel_rfl) (by rfl) d0 ?_ ?_
  rotate_left
  · ((rintro W ⟨k0, k1⟩; go_simp) <;> with_reducible rfl)
  simp only [Act.put, List.setIfInBounds_toArray, List.set_cons_zero, List.set_cons_succ]
  refine lex_take (i := 2) (v := ?_) rfl (by kernel_rfl) (by kernel_rfl) (by kernel_rfl) (by rfl) d0 ?_ ?_
  rotate_left
  · ((rintro W ⟨k0, k1⟩; go_simp) <;> with_reducible rfl)
  simp only [Act.put, List.setIfInBounds_toArray, List.set_cons_zero, List.set_cons_succ]
  refine lex_take (i := 3) (v := ?_) rfl (by kernel_rfl) (by kernel_rfl) (by kernel_rfl) (by rfl) d0 ?_ ?_
  rotate_left
  · ((rintro W ⟨k0, k1⟩; go_simp) <;> with_reducible rfl)
  simp only [Act.put, List.setIfInBounds_toArray, List.set_cons_zero, List.set_cons_succ]
  refine lex_take (i := 4) (v := ?_) rfl (by kernel_rfl) (by kernel_rfl) (by kernel_rfl) (by rfl) d0 ?_ ?_
  rotate_left
  · ((rintro W ⟨k0, k1⟩; go_simp) <;> with_reducible rfl)
  simp only [Act.put, List.setIfInBounds_toArray, List.set_cons_zero, List.set_cons_succ]
  refine lex_take (i := 5) (v := ?_) rfl (by kernel_rfl) (by kernel_rfl) (by kernel_rfl) (by rfl) d0 ?_ ?_
  rotate_left
  · ((rintro W ⟨k0, k1⟩; go_simp) <;> with_reducible rfl)
  simp only [Act.put, List.setIfInBounds_toArray, List.set_cons_zero, List.set_cons_succ]
  refine lex_do (i := 6) rfl (by kernel_rfl) (by rfl) (fun K hK => ?_)
  go_simp
  refine hK _ _ ⟨d1, ?_⟩
  clear hK K
  refine lex_do (i := 7) rfl (by kernel_rfl) (by rfl) (fun K hK => ?_)
  go_simp
  refine hK _ _ ⟨d2, ?_⟩
  clear hK K
  refine lex_done (by kernel_rfl) ?_
  clear d0 d1 d2 hr1 hr2 hlk hlk2 c0 c1
  have c4 : V2.cell? ⟨pb, 0, none⟩ = some (.pointer (some ⟨a, 0, none⟩)) := cellB HI2.out.pl rfl
  have PXV := Lib.hid (PX.out V2 HP2.out)
  generalize hxn : (atP p x).1 = nx at *
  obtain ⟨kk, ff, tt, uu, ss, xa, xb⟩ := nx
  simp only [nodeA] at PXV
  go_wp2_with fail
  refine PXV.out.mono ?_
  rintro e V3 ⟨rfl, u3⟩
  obtain ⟨bX, hbX⟩ := node_box V3 kk ff tt uu xa xb ss
  have HU4 := Lib.hid (bmore u3 bX)
  have HX4 := Lib.hid hbX
  clear PXV c4 u3 bX hbX
  go_upto_region 9 with fail
  generalize (V3.alloc (.cells #[.int .i64 kk, .int .i64 ff, .int .i64 tt, .int .u64 uu, .string ss, .int .i64 xa, .int .i64 xb] NodeT)) = V4 at *
  generalize V3.heap.size = xn at *
  have c4 : V4.cell? ⟨pb, 0, none⟩ = some (.pointer (some ⟨a, 0, none⟩)) := cellB (Hold.below HU4.out _ _ HI2.out.pl) rfl
  have PYV := Lib.hid (PY.out V4 (HP2.out.below HU4.out))
  generalize hyn : (atP p y).1 = ny at *
  obtain ⟨k2, f2, t2, u2, s2, a2, b2⟩ := ny
  simp only [nodeA] at PYV
  go_wp2_with fail
  refine PYV.out.mono ?_
  rintro e V5 ⟨rfl, u5⟩
  obtain ⟨bY, hbY⟩ := node_box V5 k2 f2 t2 u2 a2 b2 s2
  have HU6 := Lib.hid (bmore (bmore HU4.out u5) bY)
  have HX6 := Lib.hid (Hold.below (bmore u5 bY) _ _ HX4.out)
  have HY6 := Lib.hid hbY
  clear PYV c4 u5 bY hbY HX4 HU4
  go_upto_region 10 with fail
  generalize (V5.alloc (.cells #[.int .i64 k2, .int .i64 f2, .int .i64 t2, .int .u64 u2, .string s2, .int .i64 a2, .int .i64 b2] NodeT)) = V6 at *
  generalize V5.heap.size = yn at *
  have HG6 := Lib.hid (HG2.out.trans (CoG.of HB2.out HU6.out))
  have c5 : V6.cell? ⟨wb, 0, none⟩ = some (.int .i64 who) := cellB (Hold.below HU6.out _ _ HI2.out.wh) rfl
  have x0 : V6.cell? ⟨xn, 0, none⟩ = some (.int .i64 kk) := cellB (j := 0) HX6.out rfl
  have x1 : V6.cell? ⟨xn, 1, none⟩ = some (.int .i64 ff) := cellB (j := 1) HX6.out rfl
  have x2 : V6.cell? ⟨xn, 2, none⟩ = some (.int .i64 tt) := cellB (j := 2) HX6.out rfl
  have x3 : V6.cell? ⟨xn, 3, none⟩ = some (.int .u64 uu) := cellB (j := 3) HX6.out rfl
  have x4 : V6.cell? ⟨xn, 4, none⟩ = some (.string ss) := cellB (j := 4) HX6.out rfl
  have x5 : V6.cell? ⟨xn, 5, none⟩ = some (.int .i64 xa) := cellB (j := 5) HX6.out rfl
  have x6 : V6.cell? ⟨xn, 6, none⟩ = some (.int .i64 xb) := cellB (j := 6) HX6.out rfl
  have y0 : V6.cell? ⟨yn, 0, none⟩ = some (.int .i64 k2) := cellB (j := 0) HY6.out rfl
  have y1 : V6.cell? ⟨yn, 1, none⟩ = some (.int .i64 f2) := cellB (j := 1) HY6.out rfl
  have y2 : V6.cell? ⟨yn, 2, none⟩ = some (.int .i64 t2) := cellB (j := 2) HY6.out rfl
  have y3 : V6.cell? ⟨yn, 3, none⟩ = some (.int .u64 u2) := cellB (j := 3) HY6.out rfl
  have y4 : V6.cell? ⟨yn, 4, none⟩ = some (.string s2) := cellB (j := 4) HY6.out rfl
  have y5 : V6.cell? ⟨yn, 5, none⟩ = some (.int .i64 a2) := cellB (j := 5) HY6.out rfl
  have y6 : V6.cell? ⟨yn, 6, none⟩ = some (.int .i64 b2) := cellB (j := 6) HY6.out rfl
  have SM := Lib.hid (vsame_any who ⟨kk, ff, tt, uu, ss, xa, xb⟩ ⟨k2, f2, t2, u2, s2, a2, b2⟩ V6)
  simp only [nodeA] at SM
  generalize hq : sameB who ⟨kk, ff, tt, uu, ss, xa, xb⟩ ⟨k2, f2, t2, u2, s2, a2, b2⟩ = sq at *
  have HQ := Lib.hid hq
  clear hq
  go_wp2_with fail
  refine SM.out.mono ?_
  rintro e V7 ⟨rfl, u7⟩
  have HU7 := Lib.hid (bmore HU6.out u7)
  have HX7 := Lib.hid (Hold.below u7 _ _ HX6.out)
  have HY7 := Lib.hid (Hold.below u7 _ _ HY6.out)
  have HM17 := Lib.hid (HM1.out.below HU7.out)
  have HM27 := Lib.hid (HM2.out.below HU7.out)
  have HI7 := Lib.hid (HI2.out.hold (fun T => Hold.below HU7.out))
  have HP7 := Lib.hid (HP2.out.below HU7.out)
  have HB7 : Hid (B ≤ V7.heap.size) := Lib.hid (Nat.le_trans HB2.out HU7.out.size)
  have HG7 := Lib.hid (HG2.out.trans (CoG.of HB2.out HU7.out))
  clear u7 SM c5 x0 x1 x2 x3 x4 x5 x6 y0 y1 y2 y3 y4 y5 y6 HX6 HY6 HM1 HM2 HP2 HU6 HG6
  cases sq with
  | false =>
    have HF : Hid (CoPost B b mb1 mb2 p who m x y W (.returned (.bool false)) V7) := Lib.hid ⟨_, _, _, rfl, HM17.out, HM27.out, UNL.out _ _ (by first | exact HQ.out | rfl), HG7.out⟩
    go_wp2_with fail
    go_returns
    exact HF.out
  | true =>
    have x5 : V7.cell? ⟨xn, 5, none⟩ = some (.int .i64 xa) := cellB (j := 5) HX7.out rfl
    have y5 : V7.cell? ⟨yn, 5, none⟩ = some (.int .i64 a2) := cellB (j := 5) HY7.out rfl
    have cf : V7.cell? ⟨cb, 0, none⟩ = some (.func (.func 99) #[] #[.pointer (some ⟨tb, 0, none⟩), .pointer (some ⟨bb, 0, none⟩), .pointer (some ⟨pb, 0, none⟩), .pointer (some ⟨wb, 0, none⟩), .pointer (some ⟨cb, 0, none⟩)]) := cellB HI7.out.co rfl
    have CA := Lib.hid (IA.out V7 _ _ HB7.out HP7.out HI7.out HC2.out HM17.out HM27.out)
    go_wp2_with fail
    refine CA.out.mono ?_
    rintro e V8 ⟨r1, m1, n1, rfl, hm8, hn8, hr8, hg8⟩
    have HM18 := Lib.hid hm8
    have HM28 := Lib.hid hn8
    have HR8 := Lib.hid hr8
    have HG8 := Lib.hid (HG7.out.trans hg8)
    have HI8 := Lib.hid (HI7.out.hold hg8.hold)
    have HP8 := Lib.hid (hg8.pool HP7.out HB1.out HB22.out)
    have HB8 : Hid (B ≤ V8.heap.size) := Lib.hid (Nat.le_trans HB7.out hg8.below.size)
    have HX8 := Lib.hid (hg8.hold _ _ _ HX7.out)
    have HY8 := Lib.hid (hg8.hold _ _ _ HY7.out)
    clear hm8 hn8 hr8 hg8 CA x5 y5 cf HM17 HM27 HX7 HY7 HP7
    cases r1 with
    | false =>
      have HF : Hid (CoPost B b mb1 mb2 p who m x y W (.returned (.bool false)) V8) := Lib.hid ⟨_, _, _, rfl, HM18.out, HM28.out, LFT.out _ _ HR8.out, HG8.out⟩
      go_wp2_with fail
      go_returns
      exact HF.out
    | true =>
      have x6 : V8.cell? ⟨xn, 6, none⟩ = some (.int .i64 xb) := cellB (j := 6) HX8.out rfl
      have y6 : V8.cell? ⟨yn, 6, none⟩ = some (.int .i64 b2) := cellB (j := 6) HY8.out rfl
      have cf : V8.cell? ⟨cb, 0, none⟩ = some (.func (.func 99) #[] #[.pointer (some ⟨tb, 0, none⟩), .pointer (some ⟨bb, 0, none⟩), .pointer (some ⟨pb, 0, none⟩), .pointer (some ⟨wb, 0, none⟩), .pointer (some ⟨cb, 0, none⟩)]) := cellB HI8.out.co rfl
      have CB := Lib.hid (IB.out V8 _ _ HB8.out HP8.out HI8.out (HR8.out.1 rfl).1 HM18.out HM28.out)
      go_wp2_with fail
      refine CB.out.mono ?_
      rintro e V9 ⟨r2, m2, n2, rfl, hm9, hn9, hr9, hg9⟩
      have HF : Hid (CoPost B b mb1 mb2 p who m x y W (.returned (.bool r2)) V9) := Lib.hid (by
        cases r2 with
        | false => exact ⟨_, _, _, rfl, hm9, hn9, RGT.out _ _ _ _ HR8.out hr9, HG8.out.trans hg9⟩
        | true => exact ⟨_, _, _, rfl, hm9, hn9, BTH.out _ _ _ _ (by first | exact HQ.out | trivial) HR8.out hr9, HG8.out.trans hg9⟩)
      clear hm9 hn9 hr9 hg9 CB x6 y6 cf
      go_wp2_with fail
      go_returns
      exact HF.out
/-- The closure, at all terms. -/
theorem co_all (hp0 : Ok p) (hne : mb1 ≠ mb2) (hb1 : b ≠ mb1) (hb2 : b ≠ mb2) (hB1 : B ≤ mb1) (hB2 : B ≤ mb2) : ∀ (k : Nat) (x y : Int), x.toNat < k → (x = 0 ∨ inP p x = true) → (y = 0 ∨ inP p y = true) → CoC B B0 a b v p who tb bb pb wb cb mb1 mb2 x y
  | 0, _, _, h, _, _ => absurd h (Nat.not_lt_zero _)
  | k + 1, x, y, h, hx, hy => fun W m n hB hp hc hC h1 h2 => by
    have hxi := in_i64 hp0.len hx
    have hyi := in_i64 hp0.len hy
    cases hm : m x with
    | some o => exact co_met hxi hB hc hC h1 h2 hm
    | none =>
      cases hn : n y with
      | some o => exact co_taken hxi hyi hB hc hC h1 h2 hm hn
      | none =>
        have hx' : inP p x = true := by
          rcases hx with rfl | hx
          · rw [hC.zero] at hm; cases hm
          · exact hx
        have hy' : inP p y = true := by
          rcases hy with rfl | hy
          · rw [(hC.inv 0 0).1 hC.zero] at hn; cases hn
          · exact hy
        obtain ⟨ka, kb⟩ := kid_less hp0 hx'
        obtain ⟨la, lb⟩ := kid_less hp0 hy'
        have pos : ∀ z, inP p z = true → 1 ≤ z := fun z hz => by unfold inP at hz; simp at hz; omega
        have hx1 := pos x hx'
        refine co_new hx' hy' hne hb1 hb2 hB1 hB2 (co_all hp0 hne hb1 hb2 hB1 hB2 k _ _ ?_ (ka.imp id And.left) (la.imp id And.left)) (co_all hp0 hne hb1 hb2 hB1 hB2 k _ _ ?_ (kb.imp id And.left) (lb.imp id And.left)) hB hp hc hC h1 h2 hm hn
        · rcases ka with e | e <;> omega
        · rcases kb with e | e <;> omega
end
end Go.Proofs.YtgaklaajbepfaaaGreatDoor
namespace Go.Proofs.YtgaklaajbepfaaaGreatDoor
open Go.RowKit Go.Maps Go.Shelf
set_option linter.unusedVariables false

theorem run_store_funcW (P : Program) (w : World) (a : Addr) (fn : Fn) (x y : Array Value) (m : Mode) : (store a (.func fn x y) m).run P w = stored P w a (.func fn x y) m := run_store P w a _ m rfl
attribute [local go_sem] run_store_funcW
/-- Whether two lists look alike. -/
def AlikeP (p : Pl) (who : Int) (l m : List Int) : Prop :=
  nameB who = true ∧ (∀ x ∈ l, inP p x = true) ∧ (∀ x ∈ m, inP p x = true) ∧ l.length = m.length ∧ ∃ R, Bij p who R ∧ ∀ i (h : i < l.length) (h' : i < m.length), R l[i] m[i]
theorem rfs_zero {p : Pl} {who : Int} {l : List Int} : rfsP p who l = 0 ↔ nameB who = true ∧ ∀ x ∈ l, inP p x = true := by
  unfold rfsP
  by_cases h : nameB who = false
  · rw [if_pos h]
    exact ⟨fun e => (by cases e), fun e => by rw [h] at e; cases e.1⟩
  · rw [if_neg h]
    by_cases h2 : l.all (inP p) = true
    · rw [if_pos h2]
      exact ⟨fun _ => ⟨by simpa using h, List.all_eq_true.1 h2⟩, fun _ => rfl⟩
    · rw [if_neg h2]
      exact ⟨fun e => (by cases e), fun e => absurd (List.all_eq_true.2 e.2) h2⟩
/-- All pairs up to i correspond, and nothing but what they ask. -/
structure Upto (p : Pl) (who : Int) (l m : List Int) (i : Nat) (m1 n1 : Int → Option Int) : Prop where
  cor : Cor p m1 n1
  pair : ∀ j (h : j < l.length) (h' : j < m.length), j < i → m1 l[j] = some m[j]
  closed : ∀ x y, m1 x = some y → Closed p who m1 x y
  sub : ∀ R, Bij p who R → (∀ j (h : j < l.length) (h' : j < m.length), j < i → R l[j] m[j]) → ∀ x y, m1 x = some y → R x y
theorem Upto.start (p : Pl) (who : Int) (l m : List Int) : Upto p who l m 0 anew0 anew0 := by
  refine ⟨Cor.start p, fun j _ _ h => absurd h (Nat.not_lt_zero _), fun x y h => ?_, fun R hR _ x y h => ?_⟩
  · unfold anew0 at h
    split at h
    · rename_i e; exact .inl ⟨e, (Option.some.inj h).symm⟩
    · cases h
  · unfold anew0 at h
    split at h
    · rename_i e; rw [e, ← Option.some.inj h]; exact hR.zero
    · cases h
theorem Upto.step {p : Pl} {who : Int} {l m : List Int} {i : Nat} {m1 n1 m2 n2 : Int → Option Int} (h : Upto p who l m i m1 n1) (hi : i < l.length) (hj : i < m.length) (hc : CorP p who m1 l[i] m[i] true m2 n2) : Upto p who l m (i + 1) m2 n2 := by
  obtain ⟨c, e, k, d, s⟩ := hc.1 rfl
  refine ⟨c, fun j h1 h2 hlt => ?_, fun x y hxy => ?_, fun R hR hp => ?_⟩
  · rcases Nat.lt_or_ge j i with hj' | hj'
    · exact e _ _ (h.pair j h1 h2 hj')
    · obtain rfl : j = i := by omega
      exact k
  · rcases d x y hxy with h1 | h1
    · exact (h.closed x y h1).more e
    · exact h1
  · exact s R hR (h.sub R hR fun j h1 h2 hlt => hp j h1 h2 (by omega)) (hp i hi hj (by omega))
theorem Upto.fail {p : Pl} {who : Int} {l m : List Int} {i : Nat} {m1 n1 m2 n2 : Int → Option Int} (h : Upto p who l m i m1 n1) (hi : i < l.length) (hj : i < m.length) (hc : CorP p who m1 l[i] m[i] false m2 n2) : ¬ AlikeP p who l m := by
  rintro ⟨_, _, _, _, R, hR, hp⟩
  exact hc.2 rfl R hR (h.sub R hR fun j h1 h2 _ => hp j h1 h2) (hp i hi hj)
theorem Upto.done {p : Pl} {who : Int} {l m : List Int} {m1 n1 : Int → Option Int} (h : Upto p who l m l.length m1 n1) (hn : nameB who = true) (hl : ∀ x ∈ l, inP p x = true) (hm : ∀ x ∈ m, inP p x = true) (he : l.length = m.length) : AlikeP p who l m := by
  refine ⟨hn, hl, hm, he, fun x y => m1 x = some y, ⟨fun a b b' h1 h2 => Option.some.inj (h1.symm.trans h2), fun a a' b h1 h2 => ?_, h.cor.zero, fun a b hab => ?_⟩, fun i h1 h2 => h.pair i h1 h2 h1⟩
  · have e1 := (h.cor.inv a b).1 h1
    have e2 := (h.cor.inv a' b).1 h2
    exact Option.some.inj (e1.symm.trans e2)
  · rcases h.cor.ins a b hab with h1 | ⟨h1, h2⟩
    · exact .inl h1
    · rcases h.closed a b hab with ⟨e, _⟩ | ⟨h3, h4, h5⟩
      · rw [e, inP_zero] at h1; cases h1
      · exact .inr ⟨h1, h2, h3, h4, h5⟩

theorem co_boxes {w4 V1 V2 : World} {a pb wb : Nat} {who T : Int} (hpb : w4.heap[pb]? = some (Obj.cells #[.pointer (some ⟨a, 0, none⟩)] VPoolT)) (hwb : w4.heap[wb]? = some (Obj.cells #[.int .i64 who] WhoT)) (hA1 : AnM V1 w4.heap.size T anew0) (hg1 : (w4.alloc (.map #[] 0)).grownBy V1 (some w4.heap.size)) (hA2 : AnM V2 V1.heap.size T anew0) (hg2 : (V1.alloc (.map #[] 0)).grownBy V2 (some V1.heap.size)) :
    IsCo (((V2.alloc (.cells #[.map (some w4.heap.size)] AnewT)).alloc (.cells #[.map (some V1.heap.size)] AnewT)).alloc (.cells #[.func (.func 99) #[] #[.pointer (some ⟨V2.heap.size, 0, none⟩), .pointer (some ⟨V2.heap.size + 1, 0, none⟩), .pointer (some ⟨pb, 0, none⟩), .pointer (some ⟨wb, 0, none⟩), .pointer (some ⟨V2.heap.size + 1 + 1, 0, none⟩)]] CoFT)) V2.heap.size (V2.heap.size + 1) pb wb (V2.heap.size + 1 + 1) w4.heap.size V1.heap.size a who ∧ AnM (((V2.alloc (.cells #[.map (some w4.heap.size)] AnewT)).alloc (.cells #[.map (some V1.heap.size)] AnewT)).alloc (.cells #[.func (.func 99) #[] #[.pointer (some ⟨V2.heap.size, 0, none⟩), .pointer (some ⟨V2.heap.size + 1, 0, none⟩), .pointer (some ⟨pb, 0, none⟩), .pointer (some ⟨wb, 0, none⟩), .pointer (some ⟨V2.heap.size + 1 + 1, 0, none⟩)]] CoFT)) w4.heap.size T anew0 ∧ AnM (((V2.alloc (.cells #[.map (some w4.heap.size)] AnewT)).alloc (.cells #[.map (some V1.heap.size)] AnewT)).alloc (.cells #[.func (.func 99) #[] #[.pointer (some ⟨V2.heap.size, 0, none⟩), .pointer (some ⟨V2.heap.size + 1, 0, none⟩), .pointer (some ⟨pb, 0, none⟩), .pointer (some ⟨wb, 0, none⟩), .pointer (some ⟨V2.heap.size + 1 + 1, 0, none⟩)]] CoFT)) V1.heap.size T anew0 ∧ Below w4.heap.size w4 (((V2.alloc (.cells #[.map (some w4.heap.size)] AnewT)).alloc (.cells #[.map (some V1.heap.size)] AnewT)).alloc (.cells #[.func (.func 99) #[] #[.pointer (some ⟨V2.heap.size, 0, none⟩), .pointer (some ⟨V2.heap.size + 1, 0, none⟩), .pointer (some ⟨pb, 0, none⟩), .pointer (some ⟨wb, 0, none⟩), .pointer (some ⟨V2.heap.size + 1 + 1, 0, none⟩)]] CoFT)) ∧ w4.heap.size < V1.heap.size := by
  have bm1 := bA0 w4 (.map #[] 0)
  have hm1 : (w4.alloc (.map #[] 0)).heap[w4.heap.size]? = some (Obj.map #[] 0) := heap_alloc_new _ _
  have b1 : Below w4.heap.size w4 V1 := bm1.trans (grown_below hg1 bm1.size (fun k e => by cases e; omega))
  have hlt : w4.heap.size < V1.heap.size := hA1.lt
  have bm2 := bA0 V1 (.map #[] 0)
  have hm2 : (V1.alloc (.map #[] 0)).heap[V1.heap.size]? = some (Obj.map #[] 0) := heap_alloc_new _ _
  have b2 : Below V1.heap.size V1 V2 := bm2.trans (grown_below hg2 bm2.size (fun k e => by cases e; omega))
  have b4 : Below V2.heap.size V2 (((V2.alloc (.cells #[.map (some w4.heap.size)] AnewT)).alloc (.cells #[.map (some V1.heap.size)] AnewT)).alloc (.cells #[.func (.func 99) #[] #[.pointer (some ⟨V2.heap.size, 0, none⟩), .pointer (some ⟨V2.heap.size + 1, 0, none⟩), .pointer (some ⟨pb, 0, none⟩), .pointer (some ⟨wb, 0, none⟩), .pointer (some ⟨V2.heap.size + 1 + 1, 0, none⟩)]] CoFT)) := bmore (bmore (bA0 _ _) (bA0 _ _)) (bA0 _ _)
  have s7 : (V2.alloc (.cells #[.map (some w4.heap.size)] AnewT)).heap.size = V2.heap.size + 1 := by simp [World.size_alloc]
  have s8 : ((V2.alloc (.cells #[.map (some w4.heap.size)] AnewT)).alloc (.cells #[.map (some V1.heap.size)] AnewT)).heap.size = V2.heap.size + 1 + 1 := by simp [World.size_alloc]
  have x1 : (((V2.alloc (.cells #[.map (some w4.heap.size)] AnewT)).alloc (.cells #[.map (some V1.heap.size)] AnewT)).alloc (.cells #[.func (.func 99) #[] #[.pointer (some ⟨V2.heap.size, 0, none⟩), .pointer (some ⟨V2.heap.size + 1, 0, none⟩), .pointer (some ⟨pb, 0, none⟩), .pointer (some ⟨wb, 0, none⟩), .pointer (some ⟨V2.heap.size + 1 + 1, 0, none⟩)]] CoFT)).heap[V2.heap.size]? = some (Obj.cells #[.map (some w4.heap.size)] AnewT) := Hold.below (bA0 ((V2.alloc (.cells #[.map (some w4.heap.size)] AnewT)).alloc (.cells #[.map (some V1.heap.size)] AnewT)) _) _ _ (Hold.below (bA0 (V2.alloc (.cells #[.map (some w4.heap.size)] AnewT)) _) _ _ (heap_alloc_new _ _))
  have x2 : (((V2.alloc (.cells #[.map (some w4.heap.size)] AnewT)).alloc (.cells #[.map (some V1.heap.size)] AnewT)).alloc (.cells #[.func (.func 99) #[] #[.pointer (some ⟨V2.heap.size, 0, none⟩), .pointer (some ⟨V2.heap.size + 1, 0, none⟩), .pointer (some ⟨pb, 0, none⟩), .pointer (some ⟨wb, 0, none⟩), .pointer (some ⟨V2.heap.size + 1 + 1, 0, none⟩)]] CoFT)).heap[V2.heap.size + 1]? = some (Obj.cells #[.map (some V1.heap.size)] AnewT) := Hold.below (bA0 ((V2.alloc (.cells #[.map (some w4.heap.size)] AnewT)).alloc (.cells #[.map (some V1.heap.size)] AnewT)) _) _ _ (by rw [← s7]; exact heap_alloc_new _ _)
  have x3 : (((V2.alloc (.cells #[.map (some w4.heap.size)] AnewT)).alloc (.cells #[.map (some V1.heap.size)] AnewT)).alloc (.cells #[.func (.func 99) #[] #[.pointer (some ⟨V2.heap.size, 0, none⟩), .pointer (some ⟨V2.heap.size + 1, 0, none⟩), .pointer (some ⟨pb, 0, none⟩), .pointer (some ⟨wb, 0, none⟩), .pointer (some ⟨V2.heap.size + 1 + 1, 0, none⟩)]] CoFT)).heap[V2.heap.size + 1 + 1]? = some (Obj.cells #[.func (.func 99) #[] #[.pointer (some ⟨V2.heap.size, 0, none⟩), .pointer (some ⟨V2.heap.size + 1, 0, none⟩), .pointer (some ⟨pb, 0, none⟩), .pointer (some ⟨wb, 0, none⟩), .pointer (some ⟨V2.heap.size + 1 + 1, 0, none⟩)]] CoFT) := by rw [← s8]; exact heap_alloc_new _ _
  have b := bmore (bmore b1 b2) b4
  exact ⟨⟨x1, x2, Hold.below b _ _ hpb, Hold.below b _ _ hwb, x3⟩, (hA1.below b2).below b4, hA2.below b4, b, hlt⟩
set_option maxRecDepth 100000 in
set_option maxHeartbeats 51200000 in
theorem Alike_any {w : World} {B a b : Nat} {v : Value} {p : Pl} (h : IsPool w B a b v p) (who : Int) {vl vm : Value} {l m : List Int} (hl : Row w 1 vl l.length (ints l)) (hm : Row w 1 vm m.length (ints m)) (hll : l.length ≤ 1000000) (hml : m.length ≤ 1000000) : Calls Tryz.prog 65 #[.pointer (some ⟨a, 0, none⟩), .int .i64 who, vl, vm] w fun e w' => ∃ r, e = .returned (.bool r) ∧ (r = true ↔ AlikeP p who l m) ∧ Below w.heap.size w w' := by
  have hmm := @run_makeMap Tryz.prog
  have hmf : ∀ (fn : Fn) (first cap : Array Value) (w : World), (Instr.makeFunc fn first cap).run Tryz.prog w = .ok (.func fn first cap) w := fun _ _ _ _ => rfl
  obtain ⟨la, lc, rfl, hlx⟩ := hl.at
  obtain ⟨ma, mc, rfl, hmx⟩ := hm.at
  have b1 := bA0 w (.cells #[.pointer (some ⟨a, 0, none⟩)] VPoolT)
  have b2 := bmore b1 (bA0 (w.alloc (.cells #[.pointer (some ⟨a, 0, none⟩)] VPoolT)) (.cells #[.int .i64 who] WhoT))
  have s1 : (w.alloc (.cells #[.pointer (some ⟨a, 0, none⟩)] VPoolT)).heap.size = w.heap.size + 1 := by simp [World.size_alloc]
  have hpb : ((w.alloc (.cells #[.pointer (some ⟨a, 0, none⟩)] VPoolT)).alloc (.cells #[.int .i64 who] WhoT)).heap[w.heap.size]? = some (Obj.cells #[.pointer (some ⟨a, 0, none⟩)] VPoolT) := Hold.below (bA0 _ _) _ _ (heap_alloc_new _ _)
  have hwb : ((w.alloc (.cells #[.pointer (some ⟨a, 0, none⟩)] VPoolT)).alloc (.cells #[.int .i64 who] WhoT)).heap[w.heap.size + 1]? = some (Obj.cells #[.int .i64 who] WhoT) := by rw [← s1]; exact heap_alloc_new _ _
  have HU2 := Lib.hid b2
  have HPB := Lib.hid hpb
  have HWB := Lib.hid hwb
  have HP := Lib.hid h
  have HL := Lib.hid hl
  have HM := Lib.hid hm
  have HLX := Lib.hid hlx
  have HMX := Lib.hid hmx
  clear h hl hm b1 b2 s1 hpb hwb hlx hmx
  go_enter Tryz.func65, Tryz.ntmps65
  go_upto_region 1 with fail
  generalize ((w.alloc (.cells #[.pointer (some ⟨a, 0, none⟩)] VPoolT)).alloc (.cells #[.int .i64 who] WhoT)) = w2 at *
  have c0 : w2.cell? ⟨w.heap.size, 0, none⟩ = some (.pointer (some ⟨a, 0, none⟩)) := cellB HPB.out rfl
  have c1 : w2.cell? ⟨w.heap.size + 1, 0, none⟩ = some (.int .i64 who) := cellB HWB.out rfl
  have RL := Lib.hid (refuse_any (HP.out.below HU2.out) who (HL.out.below HU2.out) hll)
  obtain ⟨rl, hrl⟩ : ∃ rl, rl = rfsP p who l := ⟨_, rfl⟩
  rw [← hrl] at RL
  have HRL := Lib.hid hrl
  clear hrl
  go_wp2_with fail
  refine RL.out.mono ?_
  rintro e w3 ⟨rfl, u3⟩
  have HU3 := Lib.hid (bmore HU2.out u3)
  have HPB3 := Lib.hid (Hold.below u3 _ _ HPB.out)
  have HWB3 := Lib.hid (Hold.below u3 _ _ HWB.out)
  clear u3 RL c0 c1 HPB HWB
  by_cases hr0 : rl = 0
  · subst hr0
    have c0 : w3.cell? ⟨w.heap.size, 0, none⟩ = some (.pointer (some ⟨a, 0, none⟩)) := cellB HPB3.out rfl
    have c1 : w3.cell? ⟨w.heap.size + 1, 0, none⟩ = some (.int .i64 who) := cellB HWB3.out rfl
    have RM := Lib.hid (refuse_any (HP.out.below HU3.out) who (HM.out.below HU3.out) hml)
    obtain ⟨rm, hrm⟩ : ∃ rm, rm = rfsP p who m := ⟨_, rfl⟩
    rw [← hrm] at RM
    have HRM := Lib.hid hrm
    clear hrm
    go_wp2_with fail
    refine RM.out.mono ?_
    rintro e w4 ⟨rfl, u4⟩
    have HU4 := Lib.hid (bmore HU3.out u4)
    have HPB4 := Lib.hid (Hold.below u4 _ _ HPB3.out)
    have HWB4 := Lib.hid (Hold.below u4 _ _ HWB3.out)
    clear u4 RM c0 c1 HPB3 HWB3
    by_cases hr1 : rm = 0
    · subst hr1
      by_cases hlen : l.length = m.length
      · obtain ⟨V1, hins1, hA1, hg1⟩ := anew_new w4 (p.length : Int)
        obtain ⟨V2, hins2, hA2, hg2⟩ := anew_new V1 (p.length : Int)
        have hll2 : ((l.length : Int) != (m.length : Int)) = false := by rw [hlen]; simp
        obtain ⟨f1, f2, f3, f4, f5⟩ := co_boxes HPB4.out HWB4.out hA1 hg1 hA2 hg2
        have hbw : b < w.heap.size := by obtain ⟨D, ho, _⟩ := HP.out.dict; exact ho.lt
        have hw4 : w.heap.size ≤ w4.heap.size := HU4.out.size
        have HIC := Lib.hid f1
        have HA1 := Lib.hid f2
        have HA2 := Lib.hid f3
        have HU9 := Lib.hid (bmore HU4.out f4)
        have HP9 := Lib.hid (HP.out.below (bmore HU4.out f4))
        have HNM : Hid (nameB who = true ∧ (∀ x ∈ l, inP p x = true) ∧ (∀ x ∈ m, inP p x = true)) := Lib.hid ⟨(rfs_zero.1 HRL.out.symm).1, (rfs_zero.1 HRL.out.symm).2, (rfs_zero.1 HRM.out.symm).2⟩
        clear f1 f2 f3 f4 hA1 hg1 hA2 hg2 HPB4 HWB4 HRL HRM
        go_wp2_with fail
        clear hins1 hins2
        generalize (((V2.alloc (.cells #[.map (some w4.heap.size)] AnewT)).alloc (.cells #[.map (some V1.heap.size)] AnewT)).alloc (.cells #[.func (.func 99) #[] #[.pointer (some ⟨V2.heap.size, 0, none⟩), .pointer (some ⟨V2.heap.size + 1, 0, none⟩), .pointer (some ⟨w.heap.size, 0, none⟩), .pointer (some ⟨w.heap.size + 1, 0, none⟩), .pointer (some ⟨V2.heap.size + 1 + 1, 0, none⟩)]] CoFT)) = w9 at *
        generalize htb : V2.heap.size = tb at *
        have HCO := Lib.hid (fun (x y : Int) (hx : inP p x = true) (hy : inP p y = true) => co_all (B := w.heap.size) (B0 := B) (a := a) (b := b) (v := v) (who := who) (tb := tb) (bb := tb + 1) (pb := w.heap.size) (wb := w.heap.size + 1) (cb := tb + 1 + 1) (mb1 := w4.heap.size) (mb2 := V1.heap.size) HP.out.ok (by omega) (by omega) (by omega) hw4 (by omega) (x.toNat + 1) x y (Nat.lt_succ_self _) (.inr hx) (.inr hy))
        have hb1 : b ≠ w4.heap.size := by omega
        have hb2 : b ≠ V1.heap.size := by omega
        clear hbw hw4 f5 htb
        generalize w4.heap.size = mb1 at *
        generalize V1.heap.size = mb2 at *
        obtain ⟨wo, hwo⟩ : ∃ wo, wo = w9 := ⟨_, rfl⟩
        go_loopw [39] (fun v39 wr => ∃ (i : Nat) (m1 n1 : Int → Option Int), v39 = .int .i64 (i : Int) ∧ i ≤ l.length ∧ Upto p who l m i m1 n1 ∧ AnM wr mb1 (p.length : Int) m1 ∧ AnM wr mb2 (p.length : Int) n1 ∧ IsCo wr tb (tb + 1) w.heap.size (w.heap.size + 1) (tb + 1 + 1) mb1 mb2 a who ∧ IsPool wr B a b v p ∧ Below w.heap.size w wr) (fun v _ => l.length - (intOf v).toNat)
        case atStart => exact ⟨0, _, _, rfl, Nat.zero_le _, Upto.start p who l m, HA1.out, HA2.out, HIC.out, HP9.out, HU9.out⟩
        case round =>
          clear HA1 HA2 HIC HP9 HU9
          obtain ⟨i, m1, n1, rfl, hi, hup, ha1, ha2, hic, hpw, hb⟩ := hrel
          have HUP := Lib.hid hup
          have HA1 := Lib.hid ha1
          have HA2 := Lib.hid ha2
          have HIC := Lib.hid hic
          have HPW := Lib.hid hpw
          have HB := Lib.hid hb
          clear hup ha1 ha2 hic hpw
          by_cases hlt : i < l.length
          · have hlt2 : i < m.length := by omega
            obtain ⟨lb, lo, rfl, ql⟩ := HLX.out (by omega)
            obtain ⟨nb, no, rfl, qm⟩ := HMX.out (by omega)
            have cl := bcellAt hb (ql i _ (ints_at l i hlt))
            have cm := bcellAt hb (qm i _ (ints_at m i hlt2))
            have QL := Lib.hid (ql i _ (ints_at l i hlt))
            have QM := Lib.hid (qm i _ (ints_at m i hlt2))
            have hi0 : (0 : Int) ≤ (i : Int) := by omega
            have hi1 : (i : Int) < (l.length : Int) := by omega
            have hi2 : (i : Int) < (m.length : Int) := by omega
            have HSP := Lib.hid (fun (m2 n2 : Int → Option Int) => HUP.out.step (m2 := m2) (n2 := n2) hlt hlt2)
            have HFL := Lib.hid (fun (m2 n2 : Int → Option Int) => HUP.out.fail (m2 := m2) (n2 := n2) hlt hlt2)
            have CC := Lib.hid (HCO.out (l[i]) (m[i]) (HNM.out.2.1 _ (List.getElem_mem hlt)) (HNM.out.2.2 _ (List.getElem_mem hlt2)))
            generalize l[i] = x at *
            generalize m[i] = y at *
            have cf : wr.cell? ⟨tb + 1 + 1, 0, none⟩ = some (.func (.func 99) #[] #[.pointer (some ⟨tb, 0, none⟩), .pointer (some ⟨tb + 1, 0, none⟩), .pointer (some ⟨w.heap.size, 0, none⟩), .pointer (some ⟨w.heap.size + 1, 0, none⟩), .pointer (some ⟨tb + 1 + 1, 0, none⟩)]) := cellB HIC.out.co rfl
            have HCC := Lib.hid (fun (V : World) (hV : Below wr.heap.size wr V) => CC.out V m1 n1 (Nat.le_trans HB.out.size hV.size) (HPW.out.below hV) (HIC.out.hold (fun T => Hold.below hV)) HUP.out.cor (HA1.out.below hV) (HA2.out.below hV))
            have HKP : Hid (∀ V : World, Below w.heap.size wr V → (∀ T, Hold T wr V) → V.cell? ⟨tb + 1 + 1, 0, none⟩ = some (.func (.func 99) #[] #[.pointer (some ⟨tb, 0, none⟩), .pointer (some ⟨tb + 1, 0, none⟩), .pointer (some ⟨w.heap.size, 0, none⟩), .pointer (some ⟨w.heap.size + 1, 0, none⟩), .pointer (some ⟨tb + 1 + 1, 0, none⟩)]) ∧ V.cell? ⟨lb, lo + i, none⟩ = some (.int .i64 x) ∧ V.cell? ⟨nb, no + i, none⟩ = some (.int .i64 y)) := Lib.hid fun V h1 h2 => ⟨cellB (h2 _ _ _ HIC.out.co) rfl, bcellAt (HB.out.trans h1) QL.out, bcellAt (HB.out.trans h1) QM.out⟩
            have HBS : Hid (w.heap.size ≤ wr.heap.size) := Lib.hid HB.out.size
            clear ql qm hb CC
            go_upto_region 9 with fail
            go_region_held3 (fun w' => w'.cell? ⟨tb + 1 + 1, 0, none⟩ = some (.func (.func 99) #[] #[.pointer (some ⟨tb, 0, none⟩), .pointer (some ⟨tb + 1, 0, none⟩), .pointer (some ⟨w.heap.size, 0, none⟩), .pointer (some ⟨w.heap.size + 1, 0, none⟩), .pointer (some ⟨tb + 1 + 1, 0, none⟩)]) ∧ w'.cell? ⟨lb, lo + i, none⟩ = some (.int .i64 x) ∧ w'.cell? ⟨nb, no + i, none⟩ = some (.int .i64 y)) ((first | exact HKP.out _ ((bdn _ _).mono HBS.out) (fun T => Hold.below (bdn _ _)) | exact HKP.out _ ((bd _).mono HBS.out) (fun T => Hold.below (bd _)) | exact HKP.out _ ((Below.mono (by first | exact bdn _ _ | exact bd _ | exact Below.refl _ _) HBS.out).trans g8.below) (fun T => (Hold.below (by first | exact bdn _ _ | exact bd _ | exact Below.refl _ _)).trans (g8.hold T))))
              (((with_reducible refine (HCC.out _ (by first | exact bdn _ _ | exact bd _ | exact Below.refl _ _)).mono ?_); rintro e V8 ⟨r1, m2, n2, rfl, a8, b8, r8, g8⟩))
            have hg8 : CoG wr w.heap.size mb1 mb2 V8 := (CoG.of HBS.out (by first | exact bdn _ _ | exact bd _ | exact Below.refl _ _)).trans g8
            have HM18 := Lib.hid a8
            have HM28 := Lib.hid b8
            have HR8 := Lib.hid r8
            have HI8 := Lib.hid (HIC.out.hold hg8.hold)
            have HP8 := Lib.hid (hg8.pool HPW.out hb1 hb2)
            have HB8 := Lib.hid (HB.out.trans hg8.below)
            clear a8 b8 r8 g8 hg8 cf cl cm HCC HKP
            cases r1 with
            | false =>
              go_wp2_with fail
              go_returns
              exact ⟨false, rfl, ⟨fun e => (by cases e), fun e => absurd e (HFL.out _ _ HR8.out)⟩, HB8.out⟩
            | true =>
              go_wp2_with fail
              go_roundw
              case rel => exact ⟨i + 1, m2, n2, by go_num, by omega, HSP.out _ _ HR8.out, HM18.out, HM28.out, HI8.out, HP8.out, HB8.out⟩
              case measure => simp [intOf] <;> omega
          · obtain rfl : i = l.length := by omega
            have HF : Hid (AlikeP p who l m) := Lib.hid (HUP.out.done HNM.out.1 HNM.out.2.1 HNM.out.2.2 hlen)
            clear hlt hb
            go_wp2_with fail
            go_returns
            exact ⟨true, rfl, ⟨fun _ => HF.out, fun _ => rfl⟩, HB.out⟩
      · have hne : ((l.length : Int) == (m.length : Int)) = false := by
          rw [beq_eq_false_iff_ne]; intro e; exact hlen (by omega)
        have hne4 : ((l.length : Int) != (m.length : Int)) = true := by simp [bne, hne]
        have HF : Hid (¬ AlikeP p who l m) := Lib.hid fun h => hlen h.2.2.2.1
        clear hlen hne
        go_wp2_with fail
        go_returns
        exact ⟨false, rfl, ⟨fun e => (by cases e), fun e => absurd e HF.out⟩, HU4.out⟩
    · have hne : (rm == 0) = false := ebF hr1
      have HF : Hid (¬ AlikeP p who l m) := Lib.hid fun h => hr1 (by rw [HRM.out]; exact rfs_zero.2 ⟨h.1, h.2.2.1⟩)
      go_wp2_with fail
      go_returns
      exact ⟨false, rfl, ⟨fun e => (by cases e), fun e => absurd e HF.out⟩, HU4.out⟩
  · have hne : (rl == 0) = false := ebF hr0
    have HF : Hid (¬ AlikeP p who l m) := Lib.hid fun h => hr0 (by rw [HRL.out]; exact rfs_zero.2 ⟨h.1, h.2.1⟩)
    go_wp2_with fail
    go_returns
    exact ⟨false, rfl, ⟨fun e => (by cases e), fun e => absurd e HF.out⟩, HU3.out⟩
end Go.Proofs.YtgaklaajbepfaaaGreatDoor
