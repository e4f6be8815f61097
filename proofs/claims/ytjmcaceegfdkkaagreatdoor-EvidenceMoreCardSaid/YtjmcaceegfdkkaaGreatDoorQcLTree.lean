/-
  Trees of letters in memory: deals, what is told, what is signed.
-/
import Derived.Deep.DeepCutAuto
import Derived.Test.YtjmcaceegfdkkaaGreatDoorQcLBld
import Derived.Test.YtjmcaceegfdkkaaGreatDoorQcTChain
namespace Go.Proofs.YtjmcaceegfdkkaaGreatDoor
open Go.RowKit Go.Maps
set_option linter.unusedVariables false
theorem TP.out {w0 w : World} {E : Nat → Prop} {x : Tr} {e : Ending} {w' : World} (h : TP w0 E w x e w') {k f t n : Int} {s : ByteArray} (hx : x.1 = ⟨k, f, t, n, s, 0, 0⟩) : ∃ a m c, e = .returned (.agg #[.int .i64 k, .int .i64 f, .int .i64 t, .int .u64 n, .string s, .slice a m c]) ∧ IsK w' (NewE w0 E w') (.slice a m c) x.2 ∧ Below w.heap.size w w' := by
 obtain ⟨v, rfl, hk, hb⟩ := h
 obtain ⟨a, c, rfl, _⟩ := hk.shape
 exact ⟨a, _, c, by rw [hx]; rfl, hk, hb⟩
set_option maxRecDepth 100000 in
set_option maxHeartbeats 6400000 in
theorem deal_any (c : Int) (s : ByteArray) {w0 : World} {E : Nat → Prop} (w : World) (hB : w0.heap.size ≤ w.heap.size) (hE : ∀ b, w.heap.size ≤ b → E b) : Calls Tryz.prog 150 #[.int .u64 c, .string s] w (TP w0 E w (dealT c s)) := by
 have b0 := bZ w (.cells #[.int .i64 0, .int .i64 0, .int .i64 0, .int .u64 0, .string ⟨#[]⟩, .slice none 0 0] TrT)
 have h0 := heap_alloc_new w (.cells #[.int .i64 0, .int .i64 0, .int .i64 0, .int .u64 0, .string ⟨#[]⟩, .slice none 0 0] TrT)
 have HB0 := Lib.hid b0
 have HH0 := Lib.hid h0
 have HBB := Lib.hid hB
 have HEE := Lib.hid hE
 clear b0 h0 hB hE
 go_enter Tryz.func150, Tryz.ntmps150
 go_wp2_with fail
 generalize (w.alloc (.cells #[.int .i64 0, .int .i64 0, .int .i64 0, .int .u64 0, .string ⟨#[]⟩, .slice none 0 0] TrT)) = wz at *
 have HZW := Lib.hid (show w.heap.size + 1 ≤ wz.heap.size from by have := (Array.getElem?_eq_some_iff.1 HH0.out).1; omega)
 refine (data_any dealS w0 (fun b => E b ∧ b ≠ w.heap.size) wz).mono ?_
 rintro e w1 ⟨v1, rfl, k1, u1⟩
 have HU1 := Lib.hid (bmore HB0.out u1)
 have HL1 := Lib.hid u1
 have HZ1 := Lib.hid (Hold.below u1 _ _ HH0.out)
 have HK1 := Lib.hid k1
 clear u1 k1 HH0
 go_wp2_with fail
 refine (number_any c w0 (fun b => E b ∧ b ≠ w.heap.size) w1).mono ?_
 rintro e w2 ⟨v2, rfl, k2, u2⟩
 have HU2 := Lib.hid (bmore HU1.out u2)
 have HL2 := Lib.hid (bmore HL1.out u2)
 have HZ2 := Lib.hid (Hold.below u2 _ _ HZ1.out)
 have HK12 := Lib.hid (HK1.out.newE u2)
 have HK2 := Lib.hid k2
 clear u2 k2 HK1 HZ1
 go_wp2_with fail
 refine (data_any s w0 (fun b => E b ∧ b ≠ w.heap.size) w2).mono ?_
 rintro e w3 ⟨v3, rfl, k3, u3⟩
 have HU3 := Lib.hid (bmore HU2.out u3)
 have HL3 := Lib.hid (bmore HL2.out u3)
 have HZ3 := Lib.hid (Hold.below u3 _ _ HZ2.out)
 have HK13 := Lib.hid (HK12.out.newE u3)
 have HK23 := Lib.hid (HK2.out.newE u3)
 have HK3 := Lib.hid k3
 clear u3 k3 HK12 HK2 HZ2
 go_wp2_with fail
 refine (pair_any (x := numT c) (y := dataT s) (Nat.le_trans HBB.out HU3.out.size) (fun b hb => ⟨HEE.out b (Nat.le_trans (Nat.le_trans (Nat.le_succ _) HZW.out) (Nat.le_trans HL3.out.size hb)), by have := HZW.out; have := HL3.out.size; omega⟩) HK23.out HK3.out).mono ?_
 rintro e w4 ⟨v4, rfl, k4, u4⟩
 have HU4 := Lib.hid (bmore HU3.out u4)
 have HL4 := Lib.hid (bmore HL3.out u4)
 have HZ4 := Lib.hid (Hold.below u4 _ _ HZ3.out)
 have HK14 := Lib.hid (HK13.out.newE u4)
 have HK4 := Lib.hid k4
 clear u4 k4 HK13 HK23 HK3 HZ3
 go_wp2_with fail
 refine (pair_any (x := dataT dealS) (y := pairT (numT c) (dataT s)) (Nat.le_trans HBB.out HU4.out.size) (fun b hb => ⟨HEE.out b (Nat.le_trans (Nat.le_trans (Nat.le_succ _) HZW.out) (Nat.le_trans HL4.out.size hb)), by have := HZW.out; have := HL4.out.size; omega⟩) HK14.out HK4.out).mono ?_
 intro e w5 h5
 obtain ⟨va, vn, vc, rfl, k5, u5⟩ := h5.out rfl
 have HU5 := Lib.hid (bmore HU4.out u5)
 have HZ5 := Lib.hid (Hold.below u5 _ _ HZ4.out)
 have HK5 := Lib.hid k5
 have HL5 := Lib.hid (bmore HL4.out u5)
 clear u5 k5 h5 HK14 HK4 HZ4
 obtain ⟨z0, z1, z2, z3, z4, z5⟩ := cs6 HZ5.out rfl rfl rfl rfl rfl rfl
 obtain ⟨zf0, zf1, zf2, zf3, zf4, zf5⟩ := fz6 HZ5.out
 go_wp2_with fail
 have hs6 := set6_at HZ5.out (.int .i64 4) (.int .i64 0) (.int .i64 0) (.int .u64 0) (.string emptyS) (.slice va vn vc)
 have hw6 := set6_below (b := w.heap.size) HU5.out (Nat.le_refl _) (.int .i64 4) (.int .i64 0) (.int .i64 0) (.int .u64 0) (.string emptyS) (.slice va vn vc)
 have ho6 := fun (b' : Nat) (hne : b' ≠ w.heap.size) => set6_other (w := w5) hne (.int .i64 4) (.int .i64 0) (.int .i64 0) (.int .u64 0) (.string emptyS) (.slice va vn vc)
 rw [show set6 w5 w.heap.size (.int .i64 4) (.int .i64 0) (.int .i64 0) (.int .u64 0) (.string emptyS) (.slice va vn vc) = (((((w5.setCell ⟨w.heap.size, 0, none⟩ (.int .i64 4)).setCell ⟨w.heap.size, 1, none⟩ (.int .i64 0)).setCell ⟨w.heap.size, 2, none⟩ (.int .i64 0)).setCell ⟨w.heap.size, 3, none⟩ (.int .u64 0)).setCell ⟨w.heap.size, 4, none⟩ (.string emptyS)).setCell ⟨w.heap.size, 5, none⟩ (.slice va vn vc) from rfl] at hs6 hw6 ho6
 have HW6 := Lib.hid hw6
 clear hw6
 generalize ((((((w5.setCell ⟨w.heap.size, 0, none⟩ (.int .i64 4)).setCell ⟨w.heap.size, 1, none⟩ (.int .i64 0)).setCell ⟨w.heap.size, 2, none⟩ (.int .i64 0)).setCell ⟨w.heap.size, 3, none⟩ (.int .u64 0)).setCell ⟨w.heap.size, 4, none⟩ (.string emptyS)).setCell ⟨w.heap.size, 5, none⟩ (.slice va vn vc)) = w99 at *
 obtain ⟨q0, q1, q2, q3, q4, q5⟩ := cs6 hs6 rfl rfl rfl rfl rfl rfl
 refine bodyPost_ret (v := .agg #[.int .i64 4, .int .i64 0, .int .i64 0, .int .u64 0, .string emptyS, .slice va vn vc]) (by simp [results, Tryz.results150, go_sem, q0, q1, q2, q3, q4, q5]) rfl ?_
 have hkf := HK5.out.keep (G' := NewE w0 E w99) (fun b hg hl => by
  have he := ho6 b hg.2.2
  refine ⟨⟨⟨hg.1.1, ?_⟩, hg.2.1⟩, he⟩
  obtain ⟨cs, hc⟩ := hg.1.2
  exact ⟨cs, by rw [he]; exact hc⟩)
 exact ⟨_, rfl, hkf, HW6.out⟩
set_option maxRecDepth 100000 in
set_option maxHeartbeats 6400000 in
theorem told_any {w : World} (hl : LaidK w) {K : Nat} (hK : K < 8) {lf lc : Int} {ls : ByteArray} {lx : Bool} {x : Tr} {vx : Value} {w0 : World} {E : Nat → Prop} (hB : w0.heap.size ≤ w.heap.size) (hE : ∀ b, w.heap.size ≤ b → E b) (hx : IsK w (NewE w0 E w) vx x.2) : Calls Tryz.prog 153 #[.agg #[.int .i64 (K : Int), .int .i64 lf, .int .u64 lc, .string ls, .bool lx], .agg (treeA x.1 vx)] w (TP w0 E w (pairT (dataT (kdD K)) x)) := by
 obtain ⟨⟨k1, f1, t1, n1, s1, xa, xb⟩, kx⟩ := x
 obtain ⟨a1, c1, rfl, _⟩ := hx.shape
 have HX := Lib.hid hx
 have HBB := Lib.hid hB
 have HEE := Lib.hid hE
 have HLK := Lib.hid hl
 clear hx hB hl hE
 have hK0 : (0 : Int) ≤ (K : Int) := by omega
 have hK1 : (K : Int) < 8 := by omega
 simp only [treeA] at *
 have b1 := bZ w (.cells #[.int .i64 (K : Int), .int .i64 lf, .int .u64 lc, .string ls, .bool lx] LtT)
 have h1 := heap_alloc_new w (.cells #[.int .i64 (K : Int), .int .i64 lf, .int .u64 lc, .string ls, .bool lx] LtT)
 have b2 := bZ (w.alloc (.cells #[.int .i64 (K : Int), .int .i64 lf, .int .u64 lc, .string ls, .bool lx] LtT)) (.cells #[.int .i64 k1, .int .i64 f1, .int .i64 t1, .int .u64 n1, .string s1, .slice a1 kx.len c1] TrT)
 have h2 := heap_alloc_new (w.alloc (.cells #[.int .i64 (K : Int), .int .i64 lf, .int .u64 lc, .string ls, .bool lx] LtT)) (.cells #[.int .i64 k1, .int .i64 f1, .int .i64 t1, .int .u64 n1, .string s1, .slice a1 kx.len c1] TrT)
 have b3 := bZ ((w.alloc (.cells #[.int .i64 (K : Int), .int .i64 lf, .int .u64 lc, .string ls, .bool lx] LtT)).alloc (.cells #[.int .i64 k1, .int .i64 f1, .int .i64 t1, .int .u64 n1, .string s1, .slice a1 kx.len c1] TrT)) (.cells #[.int .i64 0, .int .i64 0, .int .i64 0, .int .u64 0, .string ⟨#[]⟩, .slice none 0 0] TrT)
 have h3 := heap_alloc_new ((w.alloc (.cells #[.int .i64 (K : Int), .int .i64 lf, .int .u64 lc, .string ls, .bool lx] LtT)).alloc (.cells #[.int .i64 k1, .int .i64 f1, .int .i64 t1, .int .u64 n1, .string s1, .slice a1 kx.len c1] TrT)) (.cells #[.int .i64 0, .int .i64 0, .int .i64 0, .int .u64 0, .string ⟨#[]⟩, .slice none 0 0] TrT)
 have e1 := Hold.below (bmore b2 b3) _ _ h1
 have e2 := Hold.below b3 _ _ h2
 simp only [World.size_alloc] at e2 h3
 have HB3 := Lib.hid (bmore (bmore b1 b2) b3)
 clear h1 h2 b1 b2 b3
 go_enter Tryz.func153, Tryz.ntmps153
 go_upto_region 1 with fail
 generalize ((w.alloc (.cells #[.int .i64 (K : Int), .int .i64 lf, .int .u64 lc, .string ls, .bool lx] LtT)).alloc (.cells #[.int .i64 k1, .int .i64 f1, .int .i64 t1, .int .u64 n1, .string s1, .slice a1 kx.len c1] TrT)).alloc (.cells #[.int .i64 0, .int .i64 0, .int .i64 0, .int .u64 0, .string ⟨#[]⟩, .slice none 0 0] TrT) = w3 at *
 obtain ⟨y0, y1, y2, y3, y4, y5, y6⟩ := (HLK.out.below HB3.out).at hK
 clear y0 y2 y3 y4 y5 y6
 have HZW := Lib.hid (show w.heap.size + 3 ≤ w3.heap.size from by have := (Array.getElem?_eq_some_iff.1 h3).1; omega)
 have HE1 := Lib.hid e1
 have HE2 := Lib.hid e2
 have HE3 := Lib.hid h3
 have HDD := Lib.hid (fun (W : World) => data_any (kdD K) w0 (fun b => E b ∧ b ≠ w.heap.size + 1 + 1) W)
 have HPP := Lib.hid (fun (W : World) (hb : Below w3.heap.size w3 W) (vd : Value) (kd : IsK W (NewE w0 (fun b => E b ∧ b ≠ w.heap.size + 1 + 1) W) vd (dataT (kdD K)).2) => (show Calls Tryz.prog 154 #[.agg (treeA (dataT (kdD K)).1 vd), .agg #[.int .i64 k1, .int .i64 f1, .int .i64 t1, .int .u64 n1, .string s1, .slice a1 kx.len c1]] W (TP w0 (fun b => E b ∧ b ≠ w.heap.size + 1 + 1) W (pairT (dataT (kdD K)) (⟨k1, f1, t1, n1, s1, xa, xb⟩, kx))) from pair_any (x := dataT (kdD K)) (y := (⟨k1, f1, t1, n1, s1, xa, xb⟩, kx)) (w0 := w0) (w := W) (Nat.le_trans HBB.out (Nat.le_trans HB3.out.size hb.size)) (fun b h => ⟨HEE.out b (Nat.le_trans HB3.out.size (Nat.le_trans hb.size h)), by have := HZW.out; have := hb.size; omega⟩) kd (((HX.out.keep (G' := NewE w0 (fun b => E b ∧ b ≠ w.heap.size + 1 + 1) w3) (fun b hg hl => ⟨⟨⟨hg.1.1, by obtain ⟨cs, hc⟩ := hg.1.2; exact ⟨cs, Hold.below HB3.out _ _ hc⟩⟩, hg.2, by omega⟩, HB3.out.block b hl⟩))).newE hb)))
 have HKP := Lib.hid (fun (V : World) (hb : Below w3.heap.size w3 V) => (show V.cell? ⟨w.heap.size, 0, none⟩ = some (.int .i64 (K : Int)) ∧ V.cell? ⟨0, K * 7 + 1, none⟩ = some (.string (kdD K)) ∧ V.cell? ⟨w.heap.size + 1, 0, none⟩ = some (.int .i64 k1) ∧ V.cell? ⟨w.heap.size + 1, 1, none⟩ = some (.int .i64 f1) ∧ V.cell? ⟨w.heap.size + 1, 2, none⟩ = some (.int .i64 t1) ∧ V.cell? ⟨w.heap.size + 1, 3, none⟩ = some (.int .u64 n1) ∧ V.cell? ⟨w.heap.size + 1, 4, none⟩ = some (.string s1) ∧ V.cell? ⟨w.heap.size + 1, 5, none⟩ = some (.slice a1 kx.len c1) from ⟨cellB (j := 0) (Hold.below hb _ _ HE1.out) rfl, bcellAt hb y1, cellB (j := 0) (Hold.below hb _ _ HE2.out) rfl, cellB (j := 1) (Hold.below hb _ _ HE2.out) rfl, cellB (j := 2) (Hold.below hb _ _ HE2.out) rfl, cellB (j := 3) (Hold.below hb _ _ HE2.out) rfl, cellB (j := 4) (Hold.below hb _ _ HE2.out) rfl, cellB (j := 5) (Hold.below hb _ _ HE2.out) rfl⟩))
 have HG := Lib.hid (show 0 < w.heap.size from World.block_lt_of_cell? w _ (HLK.out _ _ (kindsL_at hK).1))
 have HST := Lib.hid (fun (V : World) (v0 v1 v2 v3 v4 v5 : Value) (h : V.cell? ⟨w.heap.size, 0, none⟩ = some (.int .i64 (K : Int)) ∧ V.cell? ⟨0, K * 7 + 1, none⟩ = some (.string (kdD K)) ∧ V.cell? ⟨w.heap.size + 1, 0, none⟩ = some (.int .i64 k1) ∧ V.cell? ⟨w.heap.size + 1, 1, none⟩ = some (.int .i64 f1) ∧ V.cell? ⟨w.heap.size + 1, 2, none⟩ = some (.int .i64 t1) ∧ V.cell? ⟨w.heap.size + 1, 3, none⟩ = some (.int .u64 n1) ∧ V.cell? ⟨w.heap.size + 1, 4, none⟩ = some (.string s1) ∧ V.cell? ⟨w.heap.size + 1, 5, none⟩ = some (.slice a1 kx.len c1)) => (show ((((((V.setCell ⟨(w.heap.size + 1 + 1), 0, none⟩ (v0)).setCell ⟨(w.heap.size + 1 + 1), 1, none⟩ (v1)).setCell ⟨(w.heap.size + 1 + 1), 2, none⟩ (v2)).setCell ⟨(w.heap.size + 1 + 1), 3, none⟩ (v3)).setCell ⟨(w.heap.size + 1 + 1), 4, none⟩ (v4)).setCell ⟨(w.heap.size + 1 + 1), 5, none⟩ (v5)).cell? ⟨w.heap.size, 0, none⟩ = some (.int .i64 (K : Int)) ∧ ((((((V.setCell ⟨(w.heap.size + 1 + 1), 0, none⟩ (v0)).setCell ⟨(w.heap.size + 1 + 1), 1, none⟩ (v1)).setCell ⟨(w.heap.size + 1 + 1), 2, none⟩ (v2)).setCell ⟨(w.heap.size + 1 + 1), 3, none⟩ (v3)).setCell ⟨(w.heap.size + 1 + 1), 4, none⟩ (v4)).setCell ⟨(w.heap.size + 1 + 1), 5, none⟩ (v5)).cell? ⟨0, K * 7 + 1, none⟩ = some (.string (kdD K)) ∧ ((((((V.setCell ⟨(w.heap.size + 1 + 1), 0, none⟩ (v0)).setCell ⟨(w.heap.size + 1 + 1), 1, none⟩ (v1)).setCell ⟨(w.heap.size + 1 + 1), 2, none⟩ (v2)).setCell ⟨(w.heap.size + 1 + 1), 3, none⟩ (v3)).setCell ⟨(w.heap.size + 1 + 1), 4, none⟩ (v4)).setCell ⟨(w.heap.size + 1 + 1), 5, none⟩ (v5)).cell? ⟨w.heap.size + 1, 0, none⟩ = some (.int .i64 k1) ∧ ((((((V.setCell ⟨(w.heap.size + 1 + 1), 0, none⟩ (v0)).setCell ⟨(w.heap.size + 1 + 1), 1, none⟩ (v1)).setCell ⟨(w.heap.size + 1 + 1), 2, none⟩ (v2)).setCell ⟨(w.heap.size + 1 + 1), 3, none⟩ (v3)).setCell ⟨(w.heap.size + 1 + 1), 4, none⟩ (v4)).setCell ⟨(w.heap.size + 1 + 1), 5, none⟩ (v5)).cell? ⟨w.heap.size + 1, 1, none⟩ = some (.int .i64 f1) ∧ ((((((V.setCell ⟨(w.heap.size + 1 + 1), 0, none⟩ (v0)).setCell ⟨(w.heap.size + 1 + 1), 1, none⟩ (v1)).setCell ⟨(w.heap.size + 1 + 1), 2, none⟩ (v2)).setCell ⟨(w.heap.size + 1 + 1), 3, none⟩ (v3)).setCell ⟨(w.heap.size + 1 + 1), 4, none⟩ (v4)).setCell ⟨(w.heap.size + 1 + 1), 5, none⟩ (v5)).cell? ⟨w.heap.size + 1, 2, none⟩ = some (.int .i64 t1) ∧ ((((((V.setCell ⟨(w.heap.size + 1 + 1), 0, none⟩ (v0)).setCell ⟨(w.heap.size + 1 + 1), 1, none⟩ (v1)).setCell ⟨(w.heap.size + 1 + 1), 2, none⟩ (v2)).setCell ⟨(w.heap.size + 1 + 1), 3, none⟩ (v3)).setCell ⟨(w.heap.size + 1 + 1), 4, none⟩ (v4)).setCell ⟨(w.heap.size + 1 + 1), 5, none⟩ (v5)).cell? ⟨w.heap.size + 1, 3, none⟩ = some (.int .u64 n1) ∧ ((((((V.setCell ⟨(w.heap.size + 1 + 1), 0, none⟩ (v0)).setCell ⟨(w.heap.size + 1 + 1), 1, none⟩ (v1)).setCell ⟨(w.heap.size + 1 + 1), 2, none⟩ (v2)).setCell ⟨(w.heap.size + 1 + 1), 3, none⟩ (v3)).setCell ⟨(w.heap.size + 1 + 1), 4, none⟩ (v4)).setCell ⟨(w.heap.size + 1 + 1), 5, none⟩ (v5)).cell? ⟨w.heap.size + 1, 4, none⟩ = some (.string s1) ∧ ((((((V.setCell ⟨(w.heap.size + 1 + 1), 0, none⟩ (v0)).setCell ⟨(w.heap.size + 1 + 1), 1, none⟩ (v1)).setCell ⟨(w.heap.size + 1 + 1), 2, none⟩ (v2)).setCell ⟨(w.heap.size + 1 + 1), 3, none⟩ (v3)).setCell ⟨(w.heap.size + 1 + 1), 4, none⟩ (v4)).setCell ⟨(w.heap.size + 1 + 1), 5, none⟩ (v5)).cell? ⟨w.heap.size + 1, 5, none⟩ = some (.slice a1 kx.len c1) from by
  obtain ⟨s0, s1, s2, s3, s4, s5, s6, s7⟩ := h
  have hg := HG.out
  have q : ∀ (b o : Nat), b ≠ w.heap.size + 1 + 1 → (set6 V (w.heap.size + 1 + 1) v0 v1 v2 v3 v4 v5).cell? ⟨b, o, none⟩ = V.cell? ⟨b, o, none⟩ := fun b o h => cell_of_heap (set6_other h _ _ _ _ _ _) o
  unfold set6 at q
  rw [q _ _ (by omega), q _ _ (by omega), q _ _ (by omega), q _ _ (by omega), q _ _ (by omega), q _ _ (by omega), q _ _ (by omega), q _ _ (by omega)]
  exact ⟨s0, s1, s2, s3, s4, s5, s6, s7⟩))
 have b0 := bd w3
 go_wp2_with fail
 refine lex_start [0, 1, 2, 3, 4, 6, 5, 7, 8] (S := fun V => V.cell? ⟨w.heap.size, 0, none⟩ = some (.int .i64 (K : Int)) ∧ V.cell? ⟨0, K * 7 + 1, none⟩ = some (.string (kdD K)) ∧ V.cell? ⟨w.heap.size + 1, 0, none⟩ = some (.int .i64 k1) ∧ V.cell? ⟨w.heap.size + 1, 1, none⟩ = some (.int .i64 f1) ∧ V.cell? ⟨w.heap.size + 1, 2, none⟩ = some (.int .i64 t1) ∧ V.cell? ⟨w.heap.size + 1, 3, none⟩ = some (.int .u64 n1) ∧ V.cell? ⟨w.heap.size + 1, 4, none⟩ = some (.string s1) ∧ V.cell? ⟨w.heap.size + 1, 5, none⟩ = some (.slice a1 kx.len c1)) (by kernel_rfl) (HKP.out _ b0) (fun hS => ?_)
 clear hS
 simp only [inOrder, List.filterMap, List.getElem?_cons_succ, List.getElem?_cons_zero]
 refine lex_take (i := 0) (v := ?_) rfl (by kernel_rfl) (by kernel_rfl) (by kernel_rfl) (by rfl) (HKP.out _ b0) ?_ ?_
 rotate_left
 ·((intro W hW; obtain ⟨s0, s1, s2, s3, s4, s5, s6, s7⟩ := hW; go_simp) <;> with_reducible rfl)
 simp only [Act.put, List.setIfInBounds_toArray, List.set_cons_zero, List.set_cons_succ]
 refine lex_take (i := 1) (v := ?_) rfl (by kernel_rfl) (by kernel_rfl) (by kernel_rfl) (by rfl) (HKP.out _ b0) ?_ ?_
 rotate_left
 ·((intro W hW; obtain ⟨s0, s1, s2, s3, s4, s5, s6, s7⟩ := hW; go_simp) <;> with_reducible rfl)
 simp only [Act.put, List.setIfInBounds_toArray, List.set_cons_zero, List.set_cons_succ]
 refine lex_take (i := 2) (v := ?_) rfl (by kernel_rfl) (by kernel_rfl) (by kernel_rfl) (by rfl) (HKP.out _ b0) ?_ ?_
 rotate_left
 ·((intro W hW; obtain ⟨s0, s1, s2, s3, s4, s5, s6, s7⟩ := hW; go_simp) <;> with_reducible rfl)
 simp only [Act.put, List.setIfInBounds_toArray, List.set_cons_zero, List.set_cons_succ]
 refine lex_take (i := 3) (v := ?_) rfl (by kernel_rfl) (by kernel_rfl) (by kernel_rfl) (by rfl) (HKP.out _ b0) ?_ ?_
 rotate_left
 ·((intro W hW; obtain ⟨s0, s1, s2, s3, s4, s5, s6, s7⟩ := hW; go_simp) <;> with_reducible rfl)
 simp only [Act.put, List.setIfInBounds_toArray, List.set_cons_zero, List.set_cons_succ]
 refine lex_take (i := 4) (v := ?_) rfl (by kernel_rfl) (by kernel_rfl) (by kernel_rfl) (by rfl) (HKP.out _ b0) ?_ ?_
 rotate_left
 ·((intro W hW; obtain ⟨s0, s1, s2, s3, s4, s5, s6, s7⟩ := hW; go_simp) <;> with_reducible rfl)
 simp only [Act.put, List.setIfInBounds_toArray, List.set_cons_zero, List.set_cons_succ]
 refine lex_take (i := 6) (v := ?_) rfl (by kernel_rfl) (by kernel_rfl) (by kernel_rfl) (by rfl) (HKP.out _ b0) ?_ ?_
 rotate_left
 ·((intro W hW; obtain ⟨s0, s1, s2, s3, s4, s5, s6, s7⟩ := hW; go_simp) <;> with_reducible rfl)
 simp only [Act.put, List.setIfInBounds_toArray, List.set_cons_zero, List.set_cons_succ]
 refine lex_do (i := 5) rfl (by kernel_rfl) (by rfl) (fun K hK => ?_)
 go_simp
 refine (HDD.out _).mono ?_
 rintro e w5 ⟨v5, rfl, k5, u5⟩
 have b5 := bmore b0 u5
 refine hK _ _ ⟨HKP.out _ b5, ?_⟩
 clear hK K
 (try simp only [Act.put, List.setIfInBounds_toArray, List.set_cons_zero, List.set_cons_succ])
 refine lex_do (i := 7) rfl (by kernel_rfl) (by rfl) (fun K hK => ?_)
 go_simp
 refine (HPP.out _ b5 _ k5).mono ?_
 intro e w6 h6
 obtain ⟨va, vn, vc, rfl, k6, u6⟩ := h6.out rfl
 have b6 := bmore b5 u6
 refine hK _ _ ⟨HKP.out _ b6, ?_⟩
 clear hK K h6
 (try simp only [Act.put, List.setIfInBounds_toArray, List.set_cons_zero, List.set_cons_succ])
 have HZ6 := Lib.hid (Hold.below b6 _ _ HE3.out)
 have HB6 := Lib.hid (bmore HB3.out b6)
 have HK6 := Lib.hid k6
 have HS6 := Lib.hid (HKP.out _ b6)
 clear k5 u5 k6 u6 b0 b5 b6
 obtain ⟨z0, z1, z2, z3, z4, z5⟩ := cs6 HZ6.out rfl rfl rfl rfl rfl rfl
 obtain ⟨zf0, zf1, zf2, zf3, zf4, zf5⟩ := fz6 HZ6.out
 refine lex_do (i := 8) rfl (by kernel_rfl) (by rfl) (fun K hK => ?_)
 go_simp
 refine hK _ _ ⟨HST.out _ _ _ _ _ _ _ HS6.out, ?_⟩
 clear hK K
 refine lex_done (by kernel_rfl) ?_
 go_wp2_with fail
 have hs6 := set6_at HZ6.out (.int .i64 4) (.int .i64 0) (.int .i64 0) (.int .u64 0) (.string emptyS) (.slice va vn vc)
 have hw6 := set6_below (b := (w.heap.size + 1 + 1)) HB6.out (by omega) (.int .i64 4) (.int .i64 0) (.int .i64 0) (.int .u64 0) (.string emptyS) (.slice va vn vc)
 have ho6 := fun (b' : Nat) (hne : b' ≠ (w.heap.size + 1 + 1)) => set6_other (w := w6) hne (.int .i64 4) (.int .i64 0) (.int .i64 0) (.int .u64 0) (.string emptyS) (.slice va vn vc)
 rw [show set6 w6 (w.heap.size + 1 + 1) (.int .i64 4) (.int .i64 0) (.int .i64 0) (.int .u64 0) (.string emptyS) (.slice va vn vc) = (((((w6.setCell ⟨(w.heap.size + 1 + 1), 0, none⟩ (.int .i64 4)).setCell ⟨(w.heap.size + 1 + 1), 1, none⟩ (.int .i64 0)).setCell ⟨(w.heap.size + 1 + 1), 2, none⟩ (.int .i64 0)).setCell ⟨(w.heap.size + 1 + 1), 3, none⟩ (.int .u64 0)).setCell ⟨(w.heap.size + 1 + 1), 4, none⟩ (.string emptyS)).setCell ⟨(w.heap.size + 1 + 1), 5, none⟩ (.slice va vn vc) from rfl] at hs6 hw6 ho6
 have HW6 := Lib.hid hw6
 clear hw6
 generalize ((((((w6.setCell ⟨(w.heap.size + 1 + 1), 0, none⟩ (.int .i64 4)).setCell ⟨(w.heap.size + 1 + 1), 1, none⟩ (.int .i64 0)).setCell ⟨(w.heap.size + 1 + 1), 2, none⟩ (.int .i64 0)).setCell ⟨(w.heap.size + 1 + 1), 3, none⟩ (.int .u64 0)).setCell ⟨(w.heap.size + 1 + 1), 4, none⟩ (.string emptyS)).setCell ⟨(w.heap.size + 1 + 1), 5, none⟩ (.slice va vn vc)) = w99 at *
 obtain ⟨q0, q1, q2, q3, q4, q5⟩ := cs6 hs6 rfl rfl rfl rfl rfl rfl
 refine bodyPost_ret (v := .agg #[.int .i64 4, .int .i64 0, .int .i64 0, .int .u64 0, .string emptyS, .slice va vn vc]) (by simp [results, Tryz.results153, go_sem, q0, q1, q2, q3, q4, q5]) rfl ?_
 have hkf := HK6.out.keep (G' := NewE w0 E w99) (fun b hg hl => by
  have he := ho6 b hg.2.2
  refine ⟨⟨⟨hg.1.1, ?_⟩, hg.2.1⟩, he⟩
  obtain ⟨cs, hc⟩ := hg.1.2
  exact ⟨cs, by rw [he]; exact hc⟩)
 exact ⟨_, rfl, hkf, HW6.out⟩
set_option maxRecDepth 100000 in
set_option maxHeartbeats 6400000 in
theorem signed_any {w : World} (hl : LaidK w) {K : Nat} (hK : K < 8) {lf lc : Int} {ls : ByteArray} {lx : Bool} {x : Tr} {vx : Value} {w0 : World} {E : Nat → Prop} (hB : w0.heap.size ≤ w.heap.size) (hE : ∀ b, w.heap.size ≤ b → E b) (hx : IsK w (NewE w0 E w) vx x.2) (ha : x.1.a = 0 ∧ x.1.b = 0) : Calls Tryz.prog 152 #[.agg #[.int .i64 (K : Int), .int .i64 lf, .int .u64 lc, .string ls, .bool lx], .agg (treeA x.1 vx)] w (TP w0 E w (if kdBy K = -4 then x else signT (if kdBy K = -3 then lf else kdBy K) x)) := by
 obtain ⟨⟨k1, f1, t1, n1, s1, xa, xb⟩, kx⟩ := x
 obtain ⟨a1, c1, rfl, _⟩ := hx.shape
 obtain ⟨rfl, rfl⟩ := ha
 have HX := Lib.hid hx
 have HBB := Lib.hid hB
 have HEE := Lib.hid hE
 have HLK := Lib.hid hl
 clear hx hB hl hE
 have hK0 : (0 : Int) ≤ (K : Int) := by omega
 have hK1 : (K : Int) < 8 := by omega
 obtain ⟨tr, htr⟩ : ∃ tr, tr = (if kdBy K = -4 then ((⟨k1, f1, t1, n1, s1, 0, 0⟩, kx) : Tr) else signT (if kdBy K = -3 then lf else kdBy K) (⟨k1, f1, t1, n1, s1, 0, 0⟩, kx)) := ⟨_, rfl⟩
 rw [← htr]
 have HTR := Lib.hid htr
 clear htr
 simp only [treeA] at *
 have b1 := bZ w (.cells #[.int .i64 (K : Int), .int .i64 lf, .int .u64 lc, .string ls, .bool lx] LtT)
 have h1 := heap_alloc_new w (.cells #[.int .i64 (K : Int), .int .i64 lf, .int .u64 lc, .string ls, .bool lx] LtT)
 have b2 := bZ (w.alloc (.cells #[.int .i64 (K : Int), .int .i64 lf, .int .u64 lc, .string ls, .bool lx] LtT)) (.cells #[.int .i64 k1, .int .i64 f1, .int .i64 t1, .int .u64 n1, .string s1, .slice a1 kx.len c1] TrT)
 have h2 := heap_alloc_new (w.alloc (.cells #[.int .i64 (K : Int), .int .i64 lf, .int .u64 lc, .string ls, .bool lx] LtT)) (.cells #[.int .i64 k1, .int .i64 f1, .int .i64 t1, .int .u64 n1, .string s1, .slice a1 kx.len c1] TrT)
 have b3 := bZ ((w.alloc (.cells #[.int .i64 (K : Int), .int .i64 lf, .int .u64 lc, .string ls, .bool lx] LtT)).alloc (.cells #[.int .i64 k1, .int .i64 f1, .int .i64 t1, .int .u64 n1, .string s1, .slice a1 kx.len c1] TrT)) (.cells #[.int .i64 0, .int .i64 0, .int .i64 0, .int .u64 0, .string ⟨#[]⟩, .slice none 0 0] TrT)
 have h3 := heap_alloc_new ((w.alloc (.cells #[.int .i64 (K : Int), .int .i64 lf, .int .u64 lc, .string ls, .bool lx] LtT)).alloc (.cells #[.int .i64 k1, .int .i64 f1, .int .i64 t1, .int .u64 n1, .string s1, .slice a1 kx.len c1] TrT)) (.cells #[.int .i64 0, .int .i64 0, .int .i64 0, .int .u64 0, .string ⟨#[]⟩, .slice none 0 0] TrT)
 have e1 := Hold.below (bmore b2 b3) _ _ h1
 have e2 := Hold.below b3 _ _ h2
 simp only [World.size_alloc] at e2 h3
 have HB3 := Lib.hid (bmore (bmore b1 b2) b3)
 clear h1 h2 b1 b2 b3
 go_enter Tryz.func152, Tryz.ntmps152
 go_upto_region 1 with fail
 generalize ((w.alloc (.cells #[.int .i64 (K : Int), .int .i64 lf, .int .u64 lc, .string ls, .bool lx] LtT)).alloc (.cells #[.int .i64 k1, .int .i64 f1, .int .i64 t1, .int .u64 n1, .string s1, .slice a1 kx.len c1] TrT)).alloc (.cells #[.int .i64 0, .int .i64 0, .int .i64 0, .int .u64 0, .string ⟨#[]⟩, .slice none 0 0] TrT) = w3 at *
 obtain ⟨y0, y1, y2, y3, y4, y5, y6⟩ := (HLK.out.below HB3.out).at hK
 clear y0 y1 y3 y4 y5 y6
 generalize kdBy K = by' at *
 have HE1 := Lib.hid e1
 have HE2 := Lib.hid e2
 have HE3 := Lib.hid h3
 have HZW := Lib.hid (show w.heap.size + 3 ≤ w3.heap.size from by have := (Array.getElem?_eq_some_iff.1 h3).1; omega)
 have HKP := Lib.hid (fun (V : World) (hb : Below w3.heap.size w3 V) => (show V.cell? ⟨w.heap.size, 0, none⟩ = some (.int .i64 (K : Int)) ∧ V.cell? ⟨0, K * 7 + 2, none⟩ = some (.int .i64 by') ∧ V.cell? ⟨w.heap.size + 1, 0, none⟩ = some (.int .i64 k1) ∧ V.cell? ⟨w.heap.size + 1, 1, none⟩ = some (.int .i64 f1) ∧ V.cell? ⟨w.heap.size + 1, 2, none⟩ = some (.int .i64 t1) ∧ V.cell? ⟨w.heap.size + 1, 3, none⟩ = some (.int .u64 n1) ∧ V.cell? ⟨w.heap.size + 1, 4, none⟩ = some (.string s1) ∧ V.cell? ⟨w.heap.size + 1, 5, none⟩ = some (.slice a1 kx.len c1) from ⟨cellB (j := 0) (Hold.below hb _ _ HE1.out) rfl, bcellAt hb y2, cellB (j := 0) (Hold.below hb _ _ HE2.out) rfl, cellB (j := 1) (Hold.below hb _ _ HE2.out) rfl, cellB (j := 2) (Hold.below hb _ _ HE2.out) rfl, cellB (j := 3) (Hold.below hb _ _ HE2.out) rfl, cellB (j := 4) (Hold.below hb _ _ HE2.out) rfl, cellB (j := 5) (Hold.below hb _ _ HE2.out) rfl⟩))
 have HG := Lib.hid (show 0 < w.heap.size from World.block_lt_of_cell? w _ (HLK.out _ _ (kindsL_at hK).1))
 have HST := Lib.hid (fun (V : World) (bx : Nat) (hbx : w.heap.size + 3 ≤ bx) (v0 v1 v2 v3 v4 v5 : Value) (h : V.cell? ⟨w.heap.size, 0, none⟩ = some (.int .i64 (K : Int)) ∧ V.cell? ⟨0, K * 7 + 2, none⟩ = some (.int .i64 by') ∧ V.cell? ⟨w.heap.size + 1, 0, none⟩ = some (.int .i64 k1) ∧ V.cell? ⟨w.heap.size + 1, 1, none⟩ = some (.int .i64 f1) ∧ V.cell? ⟨w.heap.size + 1, 2, none⟩ = some (.int .i64 t1) ∧ V.cell? ⟨w.heap.size + 1, 3, none⟩ = some (.int .u64 n1) ∧ V.cell? ⟨w.heap.size + 1, 4, none⟩ = some (.string s1) ∧ V.cell? ⟨w.heap.size + 1, 5, none⟩ = some (.slice a1 kx.len c1)) => (show ((((((V.setCell ⟨bx, 0, none⟩ (v0)).setCell ⟨bx, 1, none⟩ (v1)).setCell ⟨bx, 2, none⟩ (v2)).setCell ⟨bx, 3, none⟩ (v3)).setCell ⟨bx, 4, none⟩ (v4)).setCell ⟨bx, 5, none⟩ (v5)).cell? ⟨w.heap.size, 0, none⟩ = some (.int .i64 (K : Int)) ∧ ((((((V.setCell ⟨bx, 0, none⟩ (v0)).setCell ⟨bx, 1, none⟩ (v1)).setCell ⟨bx, 2, none⟩ (v2)).setCell ⟨bx, 3, none⟩ (v3)).setCell ⟨bx, 4, none⟩ (v4)).setCell ⟨bx, 5, none⟩ (v5)).cell? ⟨0, K * 7 + 2, none⟩ = some (.int .i64 by') ∧ ((((((V.setCell ⟨bx, 0, none⟩ (v0)).setCell ⟨bx, 1, none⟩ (v1)).setCell ⟨bx, 2, none⟩ (v2)).setCell ⟨bx, 3, none⟩ (v3)).setCell ⟨bx, 4, none⟩ (v4)).setCell ⟨bx, 5, none⟩ (v5)).cell? ⟨w.heap.size + 1, 0, none⟩ = some (.int .i64 k1) ∧ ((((((V.setCell ⟨bx, 0, none⟩ (v0)).setCell ⟨bx, 1, none⟩ (v1)).setCell ⟨bx, 2, none⟩ (v2)).setCell ⟨bx, 3, none⟩ (v3)).setCell ⟨bx, 4, none⟩ (v4)).setCell ⟨bx, 5, none⟩ (v5)).cell? ⟨w.heap.size + 1, 1, none⟩ = some (.int .i64 f1) ∧ ((((((V.setCell ⟨bx, 0, none⟩ (v0)).setCell ⟨bx, 1, none⟩ (v1)).setCell ⟨bx, 2, none⟩ (v2)).setCell ⟨bx, 3, none⟩ (v3)).setCell ⟨bx, 4, none⟩ (v4)).setCell ⟨bx, 5, none⟩ (v5)).cell? ⟨w.heap.size + 1, 2, none⟩ = some (.int .i64 t1) ∧ ((((((V.setCell ⟨bx, 0, none⟩ (v0)).setCell ⟨bx, 1, none⟩ (v1)).setCell ⟨bx, 2, none⟩ (v2)).setCell ⟨bx, 3, none⟩ (v3)).setCell ⟨bx, 4, none⟩ (v4)).setCell ⟨bx, 5, none⟩ (v5)).cell? ⟨w.heap.size + 1, 3, none⟩ = some (.int .u64 n1) ∧ ((((((V.setCell ⟨bx, 0, none⟩ (v0)).setCell ⟨bx, 1, none⟩ (v1)).setCell ⟨bx, 2, none⟩ (v2)).setCell ⟨bx, 3, none⟩ (v3)).setCell ⟨bx, 4, none⟩ (v4)).setCell ⟨bx, 5, none⟩ (v5)).cell? ⟨w.heap.size + 1, 4, none⟩ = some (.string s1) ∧ ((((((V.setCell ⟨bx, 0, none⟩ (v0)).setCell ⟨bx, 1, none⟩ (v1)).setCell ⟨bx, 2, none⟩ (v2)).setCell ⟨bx, 3, none⟩ (v3)).setCell ⟨bx, 4, none⟩ (v4)).setCell ⟨bx, 5, none⟩ (v5)).cell? ⟨w.heap.size + 1, 5, none⟩ = some (.slice a1 kx.len c1) from by
  obtain ⟨s0, s1, s2, s3, s4, s5, s6, s7⟩ := h
  have hg := HG.out
  have q : ∀ (b o : Nat), b ≠ bx → (set6 V bx v0 v1 v2 v3 v4 v5).cell? ⟨b, o, none⟩ = V.cell? ⟨b, o, none⟩ := fun b o h => cell_of_heap (set6_other h _ _ _ _ _ _) o
  unfold set6 at q
  rw [q _ _ (by omega), q _ _ (by omega), q _ _ (by omega), q _ _ (by omega), q _ _ (by omega), q _ _ (by omega), q _ _ (by omega), q _ _ (by omega)]
  exact ⟨s0, s1, s2, s3, s4, s5, s6, s7⟩))
 clear e1 e2 h3 y2
 have b0 := bd w3
 refine lex_start [0, 1, 2, 3, 4, 5, 6, 8, 7, 9] (S := fun V => V.cell? ⟨w.heap.size, 0, none⟩ = some (.int .i64 (K : Int)) ∧ V.cell? ⟨0, K * 7 + 2, none⟩ = some (.int .i64 by') ∧ V.cell? ⟨w.heap.size + 1, 0, none⟩ = some (.int .i64 k1) ∧ V.cell? ⟨w.heap.size + 1, 1, none⟩ = some (.int .i64 f1) ∧ V.cell? ⟨w.heap.size + 1, 2, none⟩ = some (.int .i64 t1) ∧ V.cell? ⟨w.heap.size + 1, 3, none⟩ = some (.int .u64 n1) ∧ V.cell? ⟨w.heap.size + 1, 4, none⟩ = some (.string s1) ∧ V.cell? ⟨w.heap.size + 1, 5, none⟩ = some (.slice a1 kx.len c1)) (by kernel_rfl) (HKP.out _ b0) (fun hS => ?_)
 clear hS
 simp only [inOrder, List.filterMap, List.getElem?_cons_succ, List.getElem?_cons_zero]
 refine lex_take (i := 0) (v := ?_) rfl (by kernel_rfl) (by kernel_rfl) (by kernel_rfl) (by rfl) (HKP.out _ b0) ?_ ?_
 rotate_left
 ·((intro W hW; obtain ⟨s0, s1, s2, s3, s4, s5, s6, s7⟩ := hW; go_simp) <;> with_reducible rfl)
 simp only [Act.put, List.setIfInBounds_toArray, List.set_cons_zero, List.set_cons_succ]
 refine lex_take (i := 1) (v := ?_) rfl (by kernel_rfl) (by kernel_rfl) (by kernel_rfl) (by rfl) (HKP.out _ b0) ?_ ?_
 rotate_left
 ·((intro W hW; obtain ⟨s0, s1, s2, s3, s4, s5, s6, s7⟩ := hW; go_simp) <;> with_reducible rfl)
 simp only [Act.put, List.setIfInBounds_toArray, List.set_cons_zero, List.set_cons_succ]
 refine lex_take (i := 2) (v := ?_) rfl (by kernel_rfl) (by kernel_rfl) (by kernel_rfl) (by rfl) (HKP.out _ b0) ?_ ?_
 rotate_left
 ·((intro W hW; obtain ⟨s0, s1, s2, s3, s4, s5, s6, s7⟩ := hW; go_simp) <;> with_reducible rfl)
 simp only [Act.put, List.setIfInBounds_toArray, List.set_cons_zero, List.set_cons_succ]
 refine lex_take (i := 3) (v := ?_) rfl (by kernel_rfl) (by kernel_rfl) (by kernel_rfl) (by rfl) (HKP.out _ b0) ?_ ?_
 rotate_left
 ·((intro W hW; obtain ⟨s0, s1, s2, s3, s4, s5, s6, s7⟩ := hW; go_simp) <;> with_reducible rfl)
 simp only [Act.put, List.setIfInBounds_toArray, List.set_cons_zero, List.set_cons_succ]
 refine lex_take (i := 4) (v := ?_) rfl (by kernel_rfl) (by kernel_rfl) (by kernel_rfl) (by rfl) (HKP.out _ b0) ?_ ?_
 rotate_left
 ·((intro W hW; obtain ⟨s0, s1, s2, s3, s4, s5, s6, s7⟩ := hW; go_simp) <;> with_reducible rfl)
 simp only [Act.put, List.setIfInBounds_toArray, List.set_cons_zero, List.set_cons_succ]
 refine lex_take (i := 5) (v := ?_) rfl (by kernel_rfl) (by kernel_rfl) (by kernel_rfl) (by rfl) (HKP.out _ b0) ?_ ?_
 rotate_left
 ·((intro W hW; obtain ⟨s0, s1, s2, s3, s4, s5, s6, s7⟩ := hW; go_simp) <;> with_reducible rfl)
 simp only [Act.put, List.setIfInBounds_toArray, List.set_cons_zero, List.set_cons_succ]
 refine lex_two (i := 6) (j := 8) rfl rfl (by kernel_rfl) (by rfl) (by rfl) (fun KK hK => ?_) (fun KK hK => ?_)
 ·go_simp
  have b1 := bmore (bZ w3 (.cells #[.int .i64 k1, .int .i64 f1, .int .i64 t1, .int .u64 n1, .string s1, .slice a1 kx.len c1] TrT)) (bd _)
  refine hK _ _ ⟨HKP.out _ b1, ?_⟩
  clear hK KK
  (try simp only [Act.put, List.setIfInBounds_toArray, List.set_cons_zero, List.set_cons_succ])
  refine lex_reorder [7, 8, 9] ?_
  simp only [inOrder, List.filterMap, List.getElem?_cons_succ, List.getElem?_cons_zero]
  refine lex_take (i := 7) (v := ?_) rfl (by kernel_rfl) (by kernel_rfl) (by kernel_rfl) (by rfl) (HKP.out _ b1) ?_ ?_
  rotate_left
  ·((intro W hW; obtain ⟨s0, s1, s2, s3, s4, s5, s6, s7⟩ := hW; go_simp) <;> with_reducible rfl)
  simp only [Act.put, List.setIfInBounds_toArray, List.set_cons_zero, List.set_cons_succ]
  refine lex_do (i := 8) rfl (by kernel_rfl) (by rfl) (fun KK hK => ?_)
  go_simp
  have b2 : Below w3.heap.size w3 (((w3.alloc (.cells #[.int .i64 k1, .int .i64 f1, .int .i64 t1, .int .u64 n1, .string s1, .slice a1 kx.len c1] TrT)).alloc (.cells #[.int .i64 0, .int .i64 0, .int .i64 0, .int .u64 0, .string ⟨#[]⟩, .slice none 0 0] TrT)).drew) := bmore (bmore (bZ w3 (.cells #[.int .i64 k1, .int .i64 f1, .int .i64 t1, .int .u64 n1, .string s1, .slice a1 kx.len c1] TrT)) (bZ (w3.alloc (.cells #[.int .i64 k1, .int .i64 f1, .int .i64 t1, .int .u64 n1, .string s1, .slice a1 kx.len c1] TrT)) (.cells #[.int .i64 0, .int .i64 0, .int .i64 0, .int .u64 0, .string ⟨#[]⟩, .slice none 0 0] TrT))) (bd _)
  have g1 := Hold.below (bmore (bZ (w3.alloc (.cells #[.int .i64 k1, .int .i64 f1, .int .i64 t1, .int .u64 n1, .string s1, .slice a1 kx.len c1] TrT)) (.cells #[.int .i64 0, .int .i64 0, .int .i64 0, .int .u64 0, .string ⟨#[]⟩, .slice none 0 0] TrT)) (bd _)) _ _ (heap_alloc_new w3 (.cells #[.int .i64 k1, .int .i64 f1, .int .i64 t1, .int .u64 n1, .string s1, .slice a1 kx.len c1] TrT))
  have g2 := Hold.below (bd ((w3.alloc (.cells #[.int .i64 k1, .int .i64 f1, .int .i64 t1, .int .u64 n1, .string s1, .slice a1 kx.len c1] TrT)).alloc (.cells #[.int .i64 0, .int .i64 0, .int .i64 0, .int .u64 0, .string ⟨#[]⟩, .slice none 0 0] TrT))) _ _ (heap_alloc_new (w3.alloc (.cells #[.int .i64 k1, .int .i64 f1, .int .i64 t1, .int .u64 n1, .string s1, .slice a1 kx.len c1] TrT)) (.cells #[.int .i64 0, .int .i64 0, .int .i64 0, .int .u64 0, .string ⟨#[]⟩, .slice none 0 0] TrT))
  simp only [World.size_alloc] at g2
  refine hK _ _ ⟨HKP.out _ b2, ?_⟩
  clear hK KK b1
  (try simp only [Act.put, List.setIfInBounds_toArray, List.set_cons_zero, List.set_cons_succ])
  generalize (((w3.alloc (.cells #[.int .i64 k1, .int .i64 f1, .int .i64 t1, .int .u64 n1, .string s1, .slice a1 kx.len c1] TrT)).alloc (.cells #[.int .i64 0, .int .i64 0, .int .i64 0, .int .u64 0, .string ⟨#[]⟩, .slice none 0 0] TrT)).drew) = w5 at *
  obtain ⟨z0, z1, z2, z3, z4, z5⟩ := cs6 g2 rfl rfl rfl rfl rfl rfl
  obtain ⟨zf0, zf1, zf2, zf3, zf4, zf5⟩ := fz6 g2
  refine lex_do (i := 9) rfl (by kernel_rfl) (by rfl) (fun KK hK => ?_)
  go_simp
  refine hK _ _ ⟨HST.out _ (w3.heap.size + 1) (by have := HZW.out; omega) _ _ _ _ _ _ (HKP.out _ b2), ?_⟩
  clear hK KK
  refine lex_done (by kernel_rfl) ?_
  clear z0 z1 z2 z3 z4 z5 zf0 zf1 zf2 zf3 zf4 zf5
  have hs7 := set6_at g2 (.int .i64 7) (.int .i64 by') (.int .i64 0) (.int .u64 0) (.string ⟨#[]⟩) (.slice (some ⟨w3.heap.size, 0, none⟩) 1 1)
  have hw7 := set6_below (b := (w3.heap.size + 1)) (bmore HB3.out b2) (by have := HZW.out; omega) (.int .i64 7) (.int .i64 by') (.int .i64 0) (.int .u64 0) (.string ⟨#[]⟩) (.slice (some ⟨w3.heap.size, 0, none⟩) 1 1)
  have ho7 := fun (b' : Nat) (hne : b' ≠ (w3.heap.size + 1)) => set6_other (w := w5) hne (.int .i64 7) (.int .i64 by') (.int .i64 0) (.int .u64 0) (.string ⟨#[]⟩) (.slice (some ⟨w3.heap.size, 0, none⟩) 1 1)
  rw [show set6 w5 (w3.heap.size + 1) (.int .i64 7) (.int .i64 by') (.int .i64 0) (.int .u64 0) (.string ⟨#[]⟩) (.slice (some ⟨w3.heap.size, 0, none⟩) 1 1) = (((((w5.setCell ⟨w3.heap.size + 1, 0, none⟩ (.int .i64 7)).setCell ⟨w3.heap.size + 1, 1, none⟩ (.int .i64 by')).setCell ⟨w3.heap.size + 1, 2, none⟩ (.int .i64 0)).setCell ⟨w3.heap.size + 1, 3, none⟩ (.int .u64 0)).setCell ⟨w3.heap.size + 1, 4, none⟩ (.string ⟨#[]⟩)).setCell ⟨w3.heap.size + 1, 5, none⟩ (.slice (some ⟨w3.heap.size, 0, none⟩) 1 1) from rfl] at hs7 hw7 ho7
  have HW7 := Lib.hid hw7
  have HS7 := Lib.hid ((ho7 w3.heap.size (by omega)).trans g1)
  have HR6 := Lib.hid ((ho7 (w.heap.size + 1 + 1) (by have := HZW.out; omega)).trans (Hold.below b2 _ _ HE3.out))
  have hx7 := (ho7 (w.heap.size + 1) (by have := HZW.out; omega)).trans (Hold.below b2 _ _ HE2.out)
  have hl7 := (ho7 w.heap.size (by have := HZW.out; omega)).trans (Hold.below b2 _ _ HE1.out)
  clear hw7 ho7 g1 g2 b2 HKP HST
  generalize ((((((w5.setCell ⟨w3.heap.size + 1, 0, none⟩ (.int .i64 7)).setCell ⟨w3.heap.size + 1, 1, none⟩ (.int .i64 by')).setCell ⟨w3.heap.size + 1, 2, none⟩ (.int .i64 0)).setCell ⟨w3.heap.size + 1, 3, none⟩ (.int .u64 0)).setCell ⟨w3.heap.size + 1, 4, none⟩ (.string ⟨#[]⟩)).setCell ⟨w3.heap.size + 1, 5, none⟩ (.slice (some ⟨w3.heap.size, 0, none⟩) 1 1)) = w7 at *
  obtain ⟨p0, p1, p2, p3, p4, p5⟩ := cs6 hs7 rfl rfl rfl rfl rfl rfl
  obtain ⟨pf0, pf1, pf2, pf3, pf4, pf5⟩ := fz6 hs7
  obtain ⟨x0, x1, x2, x3, x4, x5⟩ := cs6 hx7 rfl rfl rfl rfl rfl rfl
  have l1 := cellB (j := 1) hl7 rfl
  have nn1 : ¬ (w3.heap.size + 1) = w.heap.size + 1 + 1 := by have := HZW.out; omega
  have nn2 : ¬ w.heap.size + 1 + 1 = (w3.heap.size + 1) := by have := HZW.out; omega
  have HSS7 := Lib.hid hs7
  clear hs7 hx7 hl7
  by_cases hb4 : by' = -4
  case pos =>
   have hq4 : (by' == -4) = true := by simpa using hb4
   have HB4 := Lib.hid hb4
   clear hb4
   obtain ⟨z0, z1, z2, z3, z4, z5⟩ := cs6 HR6.out rfl rfl rfl rfl rfl rfl
   obtain ⟨zf0, zf1, zf2, zf3, zf4, zf5⟩ := fz6 HR6.out
   go_wp2_with fail
   have hs6 := set6_at HR6.out (.int .i64 k1) (.int .i64 f1) (.int .i64 t1) (.int .u64 n1) (.string s1) (.slice a1 kx.len c1)
   have hw6 := set6_below (b := (w.heap.size + 1 + 1)) HW7.out (by omega) (.int .i64 k1) (.int .i64 f1) (.int .i64 t1) (.int .u64 n1) (.string s1) (.slice a1 kx.len c1)
   have ho6 := fun (b' : Nat) (hne : b' ≠ (w.heap.size + 1 + 1)) => set6_other (w := w7) hne (.int .i64 k1) (.int .i64 f1) (.int .i64 t1) (.int .u64 n1) (.string s1) (.slice a1 kx.len c1)
   rw [show set6 w7 (w.heap.size + 1 + 1) (.int .i64 k1) (.int .i64 f1) (.int .i64 t1) (.int .u64 n1) (.string s1) (.slice a1 kx.len c1) = (((((w7.setCell ⟨(w.heap.size + 1 + 1), 0, none⟩ (.int .i64 k1)).setCell ⟨(w.heap.size + 1 + 1), 1, none⟩ (.int .i64 f1)).setCell ⟨(w.heap.size + 1 + 1), 2, none⟩ (.int .i64 t1)).setCell ⟨(w.heap.size + 1 + 1), 3, none⟩ (.int .u64 n1)).setCell ⟨(w.heap.size + 1 + 1), 4, none⟩ (.string s1)).setCell ⟨(w.heap.size + 1 + 1), 5, none⟩ (.slice a1 kx.len c1) from rfl] at hs6 hw6 ho6
   have HW6 := Lib.hid hw6
   clear hw6
   generalize ((((((w7.setCell ⟨(w.heap.size + 1 + 1), 0, none⟩ (.int .i64 k1)).setCell ⟨(w.heap.size + 1 + 1), 1, none⟩ (.int .i64 f1)).setCell ⟨(w.heap.size + 1 + 1), 2, none⟩ (.int .i64 t1)).setCell ⟨(w.heap.size + 1 + 1), 3, none⟩ (.int .u64 n1)).setCell ⟨(w.heap.size + 1 + 1), 4, none⟩ (.string s1)).setCell ⟨(w.heap.size + 1 + 1), 5, none⟩ (.slice a1 kx.len c1)) = w99 at *
   obtain ⟨q0, q1, q2, q3, q4, q5⟩ := cs6 hs6 rfl rfl rfl rfl rfl rfl
   refine bodyPost_ret (v := .agg #[.int .i64 k1, .int .i64 f1, .int .i64 t1, .int .u64 n1, .string s1, .slice a1 kx.len c1]) (by simp [results, Tryz.results152, go_sem, q0, q1, q2, q3, q4, q5]) rfl ?_
   have htr2 := HTR.out.trans (if_pos HB4.out)
   rw [htr2]
   exact ⟨_, rfl, HX.out.newE HW6.out, HW6.out⟩
  have hq4 : (by' == -4) = false := by simpa using hb4
  have HB4 := Lib.hid hb4
  clear hb4
  by_cases hb3 : by' = -3
  case pos =>
   have hq3 : (by' == -3) = true := by simpa using hb3
   have HB3' := Lib.hid hb3
   clear hb3
   have hs8 := setCellB (j := 1) (u := .int .i64 lf) HSS7.out
   have HW8 := Lib.hid (HW7.out.setCell (p := ⟨(w3.heap.size + 1), 1, none⟩) (show w.heap.size ≤ (w3.heap.size + 1) by have := HZW.out; omega) (.int .i64 lf))
   have HR8 := Lib.hid ((heap_oth (b := (w3.heap.size + 1)) (j := 1) (u := .int .i64 lf) (by have := HZW.out; omega)).trans HR6.out)
   have HS8 := Lib.hid ((heap_oth (b := (w3.heap.size + 1)) (j := 1) (u := .int .i64 lf) (by omega)).trans HS7.out)
   go_upto_region 7 with fail
   generalize (w7.setCell ⟨w3.heap.size + 1, 1, none⟩ (.int .i64 lf)) = w8 at *
   replace hs8 : w8.heap[(w3.heap.size + 1)]? = some (Obj.cells #[.int .i64 7, .int .i64 lf, .int .i64 0, .int .u64 0, .string ⟨#[]⟩, .slice (some ⟨w3.heap.size, 0, none⟩) 1 1] TrT) := hs8
   clear p0 p1 p2 p3 p4 p5 pf0 pf1 pf2 pf3 pf4 pf5 x0 x1 x2 x3 x4 x5 l1
   obtain ⟨r0, r1, r2, r3, r4, r5⟩ := cs6 hs8 rfl rfl rfl rfl rfl rfl
   obtain ⟨z0, z1, z2, z3, z4, z5⟩ := cs6 HR8.out rfl rfl rfl rfl rfl rfl
   obtain ⟨zf0, zf1, zf2, zf3, zf4, zf5⟩ := fz6 HR8.out
   go_wp2_with fail
   have hs6 := set6_at HR8.out (.int .i64 7) (.int .i64 lf) (.int .i64 0) (.int .u64 0) (.string ⟨#[]⟩) (.slice (some ⟨w3.heap.size, 0, none⟩) 1 1)
   have hw6 := set6_below (b := (w.heap.size + 1 + 1)) HW8.out (by omega) (.int .i64 7) (.int .i64 lf) (.int .i64 0) (.int .u64 0) (.string ⟨#[]⟩) (.slice (some ⟨w3.heap.size, 0, none⟩) 1 1)
   have ho6 := fun (b' : Nat) (hne : b' ≠ (w.heap.size + 1 + 1)) => set6_other (w := w8) hne (.int .i64 7) (.int .i64 lf) (.int .i64 0) (.int .u64 0) (.string ⟨#[]⟩) (.slice (some ⟨w3.heap.size, 0, none⟩) 1 1)
   rw [show set6 w8 (w.heap.size + 1 + 1) (.int .i64 7) (.int .i64 lf) (.int .i64 0) (.int .u64 0) (.string ⟨#[]⟩) (.slice (some ⟨w3.heap.size, 0, none⟩) 1 1) = (((((w8.setCell ⟨(w.heap.size + 1 + 1), 0, none⟩ (.int .i64 7)).setCell ⟨(w.heap.size + 1 + 1), 1, none⟩ (.int .i64 lf)).setCell ⟨(w.heap.size + 1 + 1), 2, none⟩ (.int .i64 0)).setCell ⟨(w.heap.size + 1 + 1), 3, none⟩ (.int .u64 0)).setCell ⟨(w.heap.size + 1 + 1), 4, none⟩ (.string ⟨#[]⟩)).setCell ⟨(w.heap.size + 1 + 1), 5, none⟩ (.slice (some ⟨w3.heap.size, 0, none⟩) 1 1) from rfl] at hs6 hw6 ho6
   have HW6 := Lib.hid hw6
   clear hw6
   generalize ((((((w8.setCell ⟨(w.heap.size + 1 + 1), 0, none⟩ (.int .i64 7)).setCell ⟨(w.heap.size + 1 + 1), 1, none⟩ (.int .i64 lf)).setCell ⟨(w.heap.size + 1 + 1), 2, none⟩ (.int .i64 0)).setCell ⟨(w.heap.size + 1 + 1), 3, none⟩ (.int .u64 0)).setCell ⟨(w.heap.size + 1 + 1), 4, none⟩ (.string ⟨#[]⟩)).setCell ⟨(w.heap.size + 1 + 1), 5, none⟩ (.slice (some ⟨w3.heap.size, 0, none⟩) 1 1)) = w99 at *
   obtain ⟨q0, q1, q2, q3, q4, q5⟩ := cs6 hs6 rfl rfl rfl rfl rfl rfl
   refine bodyPost_ret (v := .agg #[.int .i64 7, .int .i64 lf, .int .i64 0, .int .u64 0, .string ⟨#[]⟩, .slice (some ⟨w3.heap.size, 0, none⟩) 1 1]) (by simp [results, Tryz.results152, go_sem, q0, q1, q2, q3, q4, q5]) rfl ?_
   have htr2 := HTR.out.trans ((if_neg HB4.out).trans (by rw [if_pos HB3'.out]))
   rw [htr2]
   have hsb : w99.heap[w3.heap.size]? = some (Obj.cells #[.int .i64 k1, .int .i64 f1, .int .i64 t1, .int .u64 n1, .string s1, .slice a1 kx.len c1] TrT) := (ho6 _ (by have := HZW.out; omega)).trans HS8.out
   refine ⟨.slice (some ⟨w3.heap.size, 0, none⟩) 1 1, rfl, ⟨_, _, rfl, by simp [signT, one, Fo.len], by decide, fun _ => ⟨w3.heap.size, 0, rfl, ⟨⟨by have := HBB.out; have := HZW.out; omega, _, hsb⟩, HEE.out _ (by have := HZW.out; omega)⟩,
    AtF.mk (v := .slice a1 kx.len c1) (cellB (j := 0) hsb rfl) (cellB (j := 1) hsb rfl) (cellB (j := 2) hsb rfl) (cellB (j := 3) hsb rfl) (cellB (j := 4) hsb rfl) (cellB (j := 5) hsb rfl) (HX.out.newE HW6.out) trivial⟩⟩, HW6.out⟩
  have hq3 : (by' == -3) = false := by simpa using hb3
  have HB3' := Lib.hid hb3
  clear hb3
  obtain ⟨z0, z1, z2, z3, z4, z5⟩ := cs6 HR6.out rfl rfl rfl rfl rfl rfl
  obtain ⟨zf0, zf1, zf2, zf3, zf4, zf5⟩ := fz6 HR6.out
  go_wp2_with fail
  have hs6 := set6_at HR6.out (.int .i64 7) (.int .i64 by') (.int .i64 0) (.int .u64 0) (.string ⟨#[]⟩) (.slice (some ⟨w3.heap.size, 0, none⟩) 1 1)
  have hw6 := set6_below (b := (w.heap.size + 1 + 1)) HW7.out (by omega) (.int .i64 7) (.int .i64 by') (.int .i64 0) (.int .u64 0) (.string ⟨#[]⟩) (.slice (some ⟨w3.heap.size, 0, none⟩) 1 1)
  have ho6 := fun (b' : Nat) (hne : b' ≠ (w.heap.size + 1 + 1)) => set6_other (w := w7) hne (.int .i64 7) (.int .i64 by') (.int .i64 0) (.int .u64 0) (.string ⟨#[]⟩) (.slice (some ⟨w3.heap.size, 0, none⟩) 1 1)
  rw [show set6 w7 (w.heap.size + 1 + 1) (.int .i64 7) (.int .i64 by') (.int .i64 0) (.int .u64 0) (.string ⟨#[]⟩) (.slice (some ⟨w3.heap.size, 0, none⟩) 1 1) = (((((w7.setCell ⟨(w.heap.size + 1 + 1), 0, none⟩ (.int .i64 7)).setCell ⟨(w.heap.size + 1 + 1), 1, none⟩ (.int .i64 by')).setCell ⟨(w.heap.size + 1 + 1), 2, none⟩ (.int .i64 0)).setCell ⟨(w.heap.size + 1 + 1), 3, none⟩ (.int .u64 0)).setCell ⟨(w.heap.size + 1 + 1), 4, none⟩ (.string ⟨#[]⟩)).setCell ⟨(w.heap.size + 1 + 1), 5, none⟩ (.slice (some ⟨w3.heap.size, 0, none⟩) 1 1) from rfl] at hs6 hw6 ho6
  have HW6 := Lib.hid hw6
  clear hw6
  generalize ((((((w7.setCell ⟨(w.heap.size + 1 + 1), 0, none⟩ (.int .i64 7)).setCell ⟨(w.heap.size + 1 + 1), 1, none⟩ (.int .i64 by')).setCell ⟨(w.heap.size + 1 + 1), 2, none⟩ (.int .i64 0)).setCell ⟨(w.heap.size + 1 + 1), 3, none⟩ (.int .u64 0)).setCell ⟨(w.heap.size + 1 + 1), 4, none⟩ (.string ⟨#[]⟩)).setCell ⟨(w.heap.size + 1 + 1), 5, none⟩ (.slice (some ⟨w3.heap.size, 0, none⟩) 1 1)) = w99 at *
  obtain ⟨q0, q1, q2, q3, q4, q5⟩ := cs6 hs6 rfl rfl rfl rfl rfl rfl
  refine bodyPost_ret (v := .agg #[.int .i64 7, .int .i64 by', .int .i64 0, .int .u64 0, .string ⟨#[]⟩, .slice (some ⟨w3.heap.size, 0, none⟩) 1 1]) (by simp [results, Tryz.results152, go_sem, q0, q1, q2, q3, q4, q5]) rfl ?_
  have htr2 := HTR.out.trans ((if_neg HB4.out).trans (by rw [if_neg HB3'.out]))
  rw [htr2]
  have hsb : w99.heap[w3.heap.size]? = some (Obj.cells #[.int .i64 k1, .int .i64 f1, .int .i64 t1, .int .u64 n1, .string s1, .slice a1 kx.len c1] TrT) := (ho6 _ (by have := HZW.out; omega)).trans HS7.out
  refine ⟨.slice (some ⟨w3.heap.size, 0, none⟩) 1 1, rfl, ⟨_, _, rfl, by simp [signT, one, Fo.len], by decide, fun _ => ⟨w3.heap.size, 0, rfl, ⟨⟨by have := HBB.out; have := HZW.out; omega, _, hsb⟩, HEE.out _ (by have := HZW.out; omega)⟩,
   AtF.mk (v := .slice a1 kx.len c1) (cellB (j := 0) hsb rfl) (cellB (j := 1) hsb rfl) (cellB (j := 2) hsb rfl) (cellB (j := 3) hsb rfl) (cellB (j := 4) hsb rfl) (cellB (j := 5) hsb rfl) (HX.out.newE HW6.out) trivial⟩⟩, HW6.out⟩
 ·go_simp
  have b1 := bmore (bZ w3 (.cells #[.int .i64 0, .int .i64 0, .int .i64 0, .int .u64 0, .string ⟨#[]⟩, .slice none 0 0] TrT)) (bd _)
  refine hK _ _ ⟨HKP.out _ b1, ?_⟩
  clear hK KK
  (try simp only [Act.put, List.setIfInBounds_toArray, List.set_cons_zero, List.set_cons_succ])
  refine lex_reorder [6, 7, 9] ?_
  simp only [inOrder, List.filterMap, List.getElem?_cons_succ, List.getElem?_cons_zero]
  refine lex_do (i := 6) rfl (by kernel_rfl) (by rfl) (fun KK hK => ?_)
  go_simp
  have b2 : Below w3.heap.size w3 (((w3.alloc (.cells #[.int .i64 0, .int .i64 0, .int .i64 0, .int .u64 0, .string ⟨#[]⟩, .slice none 0 0] TrT)).alloc (.cells #[.int .i64 k1, .int .i64 f1, .int .i64 t1, .int .u64 n1, .string s1, .slice a1 kx.len c1] TrT)).drew) := bmore (bmore (bZ w3 (.cells #[.int .i64 0, .int .i64 0, .int .i64 0, .int .u64 0, .string ⟨#[]⟩, .slice none 0 0] TrT)) (bZ (w3.alloc (.cells #[.int .i64 0, .int .i64 0, .int .i64 0, .int .u64 0, .string ⟨#[]⟩, .slice none 0 0] TrT)) (.cells #[.int .i64 k1, .int .i64 f1, .int .i64 t1, .int .u64 n1, .string s1, .slice a1 kx.len c1] TrT))) (bd _)
  have g1 := Hold.below (bmore (bZ (w3.alloc (.cells #[.int .i64 0, .int .i64 0, .int .i64 0, .int .u64 0, .string ⟨#[]⟩, .slice none 0 0] TrT)) (.cells #[.int .i64 k1, .int .i64 f1, .int .i64 t1, .int .u64 n1, .string s1, .slice a1 kx.len c1] TrT)) (bd _)) _ _ (heap_alloc_new w3 (.cells #[.int .i64 0, .int .i64 0, .int .i64 0, .int .u64 0, .string ⟨#[]⟩, .slice none 0 0] TrT))
  have g2 := Hold.below (bd ((w3.alloc (.cells #[.int .i64 0, .int .i64 0, .int .i64 0, .int .u64 0, .string ⟨#[]⟩, .slice none 0 0] TrT)).alloc (.cells #[.int .i64 k1, .int .i64 f1, .int .i64 t1, .int .u64 n1, .string s1, .slice a1 kx.len c1] TrT))) _ _ (heap_alloc_new (w3.alloc (.cells #[.int .i64 0, .int .i64 0, .int .i64 0, .int .u64 0, .string ⟨#[]⟩, .slice none 0 0] TrT)) (.cells #[.int .i64 k1, .int .i64 f1, .int .i64 t1, .int .u64 n1, .string s1, .slice a1 kx.len c1] TrT))
  simp only [World.size_alloc] at g2
  refine hK _ _ ⟨HKP.out _ b2, ?_⟩
  clear hK KK b1
  (try simp only [Act.put, List.setIfInBounds_toArray, List.set_cons_zero, List.set_cons_succ])
  generalize (((w3.alloc (.cells #[.int .i64 0, .int .i64 0, .int .i64 0, .int .u64 0, .string ⟨#[]⟩, .slice none 0 0] TrT)).alloc (.cells #[.int .i64 k1, .int .i64 f1, .int .i64 t1, .int .u64 n1, .string s1, .slice a1 kx.len c1] TrT)).drew) = w5 at *
  refine lex_take (i := 7) (v := ?_) rfl (by kernel_rfl) (by kernel_rfl) (by kernel_rfl) (by rfl) (HKP.out _ b2) ?_ ?_
  rotate_left
  ·((intro W hW; obtain ⟨s0, s1, s2, s3, s4, s5, s6, s7⟩ := hW; go_simp) <;> with_reducible rfl)
  simp only [Act.put, List.setIfInBounds_toArray, List.set_cons_zero, List.set_cons_succ]
  obtain ⟨z0, z1, z2, z3, z4, z5⟩ := cs6 g1 rfl rfl rfl rfl rfl rfl
  obtain ⟨zf0, zf1, zf2, zf3, zf4, zf5⟩ := fz6 g1
  refine lex_do (i := 9) rfl (by kernel_rfl) (by rfl) (fun KK hK => ?_)
  go_simp
  refine hK _ _ ⟨HST.out _ w3.heap.size (by have := HZW.out; omega) _ _ _ _ _ _ (HKP.out _ b2), ?_⟩
  clear hK KK
  refine lex_done (by kernel_rfl) ?_
  clear z0 z1 z2 z3 z4 z5 zf0 zf1 zf2 zf3 zf4 zf5
  have hs7 := set6_at g1 (.int .i64 7) (.int .i64 by') (.int .i64 0) (.int .u64 0) (.string ⟨#[]⟩) (.slice (some ⟨w3.heap.size + 1, 0, none⟩) 1 1)
  have hw7 := set6_below (b := w3.heap.size) (bmore HB3.out b2) (by have := HZW.out; omega) (.int .i64 7) (.int .i64 by') (.int .i64 0) (.int .u64 0) (.string ⟨#[]⟩) (.slice (some ⟨w3.heap.size + 1, 0, none⟩) 1 1)
  have ho7 := fun (b' : Nat) (hne : b' ≠ w3.heap.size) => set6_other (w := w5) hne (.int .i64 7) (.int .i64 by') (.int .i64 0) (.int .u64 0) (.string ⟨#[]⟩) (.slice (some ⟨w3.heap.size + 1, 0, none⟩) 1 1)
  rw [show set6 w5 w3.heap.size (.int .i64 7) (.int .i64 by') (.int .i64 0) (.int .u64 0) (.string ⟨#[]⟩) (.slice (some ⟨w3.heap.size + 1, 0, none⟩) 1 1) = (((((w5.setCell ⟨w3.heap.size, 0, none⟩ (.int .i64 7)).setCell ⟨w3.heap.size, 1, none⟩ (.int .i64 by')).setCell ⟨w3.heap.size, 2, none⟩ (.int .i64 0)).setCell ⟨w3.heap.size, 3, none⟩ (.int .u64 0)).setCell ⟨w3.heap.size, 4, none⟩ (.string ⟨#[]⟩)).setCell ⟨w3.heap.size, 5, none⟩ (.slice (some ⟨w3.heap.size + 1, 0, none⟩) 1 1) from rfl] at hs7 hw7 ho7
  have HW7 := Lib.hid hw7
  have HS7 := Lib.hid ((ho7 (w3.heap.size + 1) (by omega)).trans g2)
  have HR6 := Lib.hid ((ho7 (w.heap.size + 1 + 1) (by have := HZW.out; omega)).trans (Hold.below b2 _ _ HE3.out))
  have hx7 := (ho7 (w.heap.size + 1) (by have := HZW.out; omega)).trans (Hold.below b2 _ _ HE2.out)
  have hl7 := (ho7 w.heap.size (by have := HZW.out; omega)).trans (Hold.below b2 _ _ HE1.out)
  clear hw7 ho7 g1 g2 b2 HKP HST
  generalize ((((((w5.setCell ⟨w3.heap.size, 0, none⟩ (.int .i64 7)).setCell ⟨w3.heap.size, 1, none⟩ (.int .i64 by')).setCell ⟨w3.heap.size, 2, none⟩ (.int .i64 0)).setCell ⟨w3.heap.size, 3, none⟩ (.int .u64 0)).setCell ⟨w3.heap.size, 4, none⟩ (.string ⟨#[]⟩)).setCell ⟨w3.heap.size, 5, none⟩ (.slice (some ⟨w3.heap.size + 1, 0, none⟩) 1 1)) = w7 at *
  obtain ⟨p0, p1, p2, p3, p4, p5⟩ := cs6 hs7 rfl rfl rfl rfl rfl rfl
  obtain ⟨pf0, pf1, pf2, pf3, pf4, pf5⟩ := fz6 hs7
  obtain ⟨x0, x1, x2, x3, x4, x5⟩ := cs6 hx7 rfl rfl rfl rfl rfl rfl
  have l1 := cellB (j := 1) hl7 rfl
  have nn1 : ¬ w3.heap.size = w.heap.size + 1 + 1 := by have := HZW.out; omega
  have nn2 : ¬ w.heap.size + 1 + 1 = w3.heap.size := by have := HZW.out; omega
  have HSS7 := Lib.hid hs7
  clear hs7 hx7 hl7
  by_cases hb4 : by' = -4
  case pos =>
   have hq4 : (by' == -4) = true := by simpa using hb4
   have HB4 := Lib.hid hb4
   clear hb4
   obtain ⟨z0, z1, z2, z3, z4, z5⟩ := cs6 HR6.out rfl rfl rfl rfl rfl rfl
   obtain ⟨zf0, zf1, zf2, zf3, zf4, zf5⟩ := fz6 HR6.out
   go_wp2_with fail
   have hs6 := set6_at HR6.out (.int .i64 k1) (.int .i64 f1) (.int .i64 t1) (.int .u64 n1) (.string s1) (.slice a1 kx.len c1)
   have hw6 := set6_below (b := (w.heap.size + 1 + 1)) HW7.out (by omega) (.int .i64 k1) (.int .i64 f1) (.int .i64 t1) (.int .u64 n1) (.string s1) (.slice a1 kx.len c1)
   have ho6 := fun (b' : Nat) (hne : b' ≠ (w.heap.size + 1 + 1)) => set6_other (w := w7) hne (.int .i64 k1) (.int .i64 f1) (.int .i64 t1) (.int .u64 n1) (.string s1) (.slice a1 kx.len c1)
   rw [show set6 w7 (w.heap.size + 1 + 1) (.int .i64 k1) (.int .i64 f1) (.int .i64 t1) (.int .u64 n1) (.string s1) (.slice a1 kx.len c1) = (((((w7.setCell ⟨(w.heap.size + 1 + 1), 0, none⟩ (.int .i64 k1)).setCell ⟨(w.heap.size + 1 + 1), 1, none⟩ (.int .i64 f1)).setCell ⟨(w.heap.size + 1 + 1), 2, none⟩ (.int .i64 t1)).setCell ⟨(w.heap.size + 1 + 1), 3, none⟩ (.int .u64 n1)).setCell ⟨(w.heap.size + 1 + 1), 4, none⟩ (.string s1)).setCell ⟨(w.heap.size + 1 + 1), 5, none⟩ (.slice a1 kx.len c1) from rfl] at hs6 hw6 ho6
   have HW6 := Lib.hid hw6
   clear hw6
   generalize ((((((w7.setCell ⟨(w.heap.size + 1 + 1), 0, none⟩ (.int .i64 k1)).setCell ⟨(w.heap.size + 1 + 1), 1, none⟩ (.int .i64 f1)).setCell ⟨(w.heap.size + 1 + 1), 2, none⟩ (.int .i64 t1)).setCell ⟨(w.heap.size + 1 + 1), 3, none⟩ (.int .u64 n1)).setCell ⟨(w.heap.size + 1 + 1), 4, none⟩ (.string s1)).setCell ⟨(w.heap.size + 1 + 1), 5, none⟩ (.slice a1 kx.len c1)) = w99 at *
   obtain ⟨q0, q1, q2, q3, q4, q5⟩ := cs6 hs6 rfl rfl rfl rfl rfl rfl
   refine bodyPost_ret (v := .agg #[.int .i64 k1, .int .i64 f1, .int .i64 t1, .int .u64 n1, .string s1, .slice a1 kx.len c1]) (by simp [results, Tryz.results152, go_sem, q0, q1, q2, q3, q4, q5]) rfl ?_
   have htr2 := HTR.out.trans (if_pos HB4.out)
   rw [htr2]
   exact ⟨_, rfl, HX.out.newE HW6.out, HW6.out⟩
  have hq4 : (by' == -4) = false := by simpa using hb4
  have HB4 := Lib.hid hb4
  clear hb4
  by_cases hb3 : by' = -3
  case pos =>
   have hq3 : (by' == -3) = true := by simpa using hb3
   have HB3' := Lib.hid hb3
   clear hb3
   have hs8 := setCellB (j := 1) (u := .int .i64 lf) HSS7.out
   have HW8 := Lib.hid (HW7.out.setCell (p := ⟨w3.heap.size, 1, none⟩) (show w.heap.size ≤ w3.heap.size by have := HZW.out; omega) (.int .i64 lf))
   have HR8 := Lib.hid ((heap_oth (b := w3.heap.size) (j := 1) (u := .int .i64 lf) (by have := HZW.out; omega)).trans HR6.out)
   have HS8 := Lib.hid ((heap_oth (b := w3.heap.size) (j := 1) (u := .int .i64 lf) (by omega)).trans HS7.out)
   go_upto_region 7 with fail
   generalize (w7.setCell ⟨w3.heap.size, 1, none⟩ (.int .i64 lf)) = w8 at *
   replace hs8 : w8.heap[w3.heap.size]? = some (Obj.cells #[.int .i64 7, .int .i64 lf, .int .i64 0, .int .u64 0, .string ⟨#[]⟩, .slice (some ⟨w3.heap.size + 1, 0, none⟩) 1 1] TrT) := hs8
   clear p0 p1 p2 p3 p4 p5 pf0 pf1 pf2 pf3 pf4 pf5 x0 x1 x2 x3 x4 x5 l1
   obtain ⟨r0, r1, r2, r3, r4, r5⟩ := cs6 hs8 rfl rfl rfl rfl rfl rfl
   obtain ⟨z0, z1, z2, z3, z4, z5⟩ := cs6 HR8.out rfl rfl rfl rfl rfl rfl
   obtain ⟨zf0, zf1, zf2, zf3, zf4, zf5⟩ := fz6 HR8.out
   go_wp2_with fail
   have hs6 := set6_at HR8.out (.int .i64 7) (.int .i64 lf) (.int .i64 0) (.int .u64 0) (.string ⟨#[]⟩) (.slice (some ⟨w3.heap.size + 1, 0, none⟩) 1 1)
   have hw6 := set6_below (b := (w.heap.size + 1 + 1)) HW8.out (by omega) (.int .i64 7) (.int .i64 lf) (.int .i64 0) (.int .u64 0) (.string ⟨#[]⟩) (.slice (some ⟨w3.heap.size + 1, 0, none⟩) 1 1)
   have ho6 := fun (b' : Nat) (hne : b' ≠ (w.heap.size + 1 + 1)) => set6_other (w := w8) hne (.int .i64 7) (.int .i64 lf) (.int .i64 0) (.int .u64 0) (.string ⟨#[]⟩) (.slice (some ⟨w3.heap.size + 1, 0, none⟩) 1 1)
   rw [show set6 w8 (w.heap.size + 1 + 1) (.int .i64 7) (.int .i64 lf) (.int .i64 0) (.int .u64 0) (.string ⟨#[]⟩) (.slice (some ⟨w3.heap.size + 1, 0, none⟩) 1 1) = (((((w8.setCell ⟨(w.heap.size + 1 + 1), 0, none⟩ (.int .i64 7)).setCell ⟨(w.heap.size + 1 + 1), 1, none⟩ (.int .i64 lf)).setCell ⟨(w.heap.size + 1 + 1), 2, none⟩ (.int .i64 0)).setCell ⟨(w.heap.size + 1 + 1), 3, none⟩ (.int .u64 0)).setCell ⟨(w.heap.size + 1 + 1), 4, none⟩ (.string ⟨#[]⟩)).setCell ⟨(w.heap.size + 1 + 1), 5, none⟩ (.slice (some ⟨w3.heap.size + 1, 0, none⟩) 1 1) from rfl] at hs6 hw6 ho6
   have HW6 := Lib.hid hw6
   clear hw6
   generalize ((((((w8.setCell ⟨(w.heap.size + 1 + 1), 0, none⟩ (.int .i64 7)).setCell ⟨(w.heap.size + 1 + 1), 1, none⟩ (.int .i64 lf)).setCell ⟨(w.heap.size + 1 + 1), 2, none⟩ (.int .i64 0)).setCell ⟨(w.heap.size + 1 + 1), 3, none⟩ (.int .u64 0)).setCell ⟨(w.heap.size + 1 + 1), 4, none⟩ (.string ⟨#[]⟩)).setCell ⟨(w.heap.size + 1 + 1), 5, none⟩ (.slice (some ⟨w3.heap.size + 1, 0, none⟩) 1 1)) = w99 at *
   obtain ⟨q0, q1, q2, q3, q4, q5⟩ := cs6 hs6 rfl rfl rfl rfl rfl rfl
   refine bodyPost_ret (v := .agg #[.int .i64 7, .int .i64 lf, .int .i64 0, .int .u64 0, .string ⟨#[]⟩, .slice (some ⟨w3.heap.size + 1, 0, none⟩) 1 1]) (by simp [results, Tryz.results152, go_sem, q0, q1, q2, q3, q4, q5]) rfl ?_
   have htr2 := HTR.out.trans ((if_neg HB4.out).trans (by rw [if_pos HB3'.out]))
   rw [htr2]
   have hsb : w99.heap[(w3.heap.size + 1)]? = some (Obj.cells #[.int .i64 k1, .int .i64 f1, .int .i64 t1, .int .u64 n1, .string s1, .slice a1 kx.len c1] TrT) := (ho6 _ (by have := HZW.out; omega)).trans HS8.out
   refine ⟨.slice (some ⟨(w3.heap.size + 1), 0, none⟩) 1 1, rfl, ⟨_, _, rfl, by simp [signT, one, Fo.len], by decide, fun _ => ⟨(w3.heap.size + 1), 0, rfl, ⟨⟨by have := HBB.out; have := HZW.out; omega, _, hsb⟩, HEE.out _ (by have := HZW.out; omega)⟩,
    AtF.mk (v := .slice a1 kx.len c1) (cellB (j := 0) hsb rfl) (cellB (j := 1) hsb rfl) (cellB (j := 2) hsb rfl) (cellB (j := 3) hsb rfl) (cellB (j := 4) hsb rfl) (cellB (j := 5) hsb rfl) (HX.out.newE HW6.out) trivial⟩⟩, HW6.out⟩
  have hq3 : (by' == -3) = false := by simpa using hb3
  have HB3' := Lib.hid hb3
  clear hb3
  obtain ⟨z0, z1, z2, z3, z4, z5⟩ := cs6 HR6.out rfl rfl rfl rfl rfl rfl
  obtain ⟨zf0, zf1, zf2, zf3, zf4, zf5⟩ := fz6 HR6.out
  go_wp2_with fail
  have hs6 := set6_at HR6.out (.int .i64 7) (.int .i64 by') (.int .i64 0) (.int .u64 0) (.string ⟨#[]⟩) (.slice (some ⟨w3.heap.size + 1, 0, none⟩) 1 1)
  have hw6 := set6_below (b := (w.heap.size + 1 + 1)) HW7.out (by omega) (.int .i64 7) (.int .i64 by') (.int .i64 0) (.int .u64 0) (.string ⟨#[]⟩) (.slice (some ⟨w3.heap.size + 1, 0, none⟩) 1 1)
  have ho6 := fun (b' : Nat) (hne : b' ≠ (w.heap.size + 1 + 1)) => set6_other (w := w7) hne (.int .i64 7) (.int .i64 by') (.int .i64 0) (.int .u64 0) (.string ⟨#[]⟩) (.slice (some ⟨w3.heap.size + 1, 0, none⟩) 1 1)
  rw [show set6 w7 (w.heap.size + 1 + 1) (.int .i64 7) (.int .i64 by') (.int .i64 0) (.int .u64 0) (.string ⟨#[]⟩) (.slice (some ⟨w3.heap.size + 1, 0, none⟩) 1 1) = (((((w7.setCell ⟨(w.heap.size + 1 + 1), 0, none⟩ (.int .i64 7)).setCell ⟨(w.heap.size + 1 + 1), 1, none⟩ (.int .i64 by')).setCell ⟨(w.heap.size + 1 + 1), 2, none⟩ (.int .i64 0)).setCell ⟨(w.heap.size + 1 + 1), 3, none⟩ (.int .u64 0)).setCell ⟨(w.heap.size + 1 + 1), 4, none⟩ (.string ⟨#[]⟩)).setCell ⟨(w.heap.size + 1 + 1), 5, none⟩ (.slice (some ⟨w3.heap.size + 1, 0, none⟩) 1 1) from rfl] at hs6 hw6 ho6
  have HW6 := Lib.hid hw6
  clear hw6
  generalize ((((((w7.setCell ⟨(w.heap.size + 1 + 1), 0, none⟩ (.int .i64 7)).setCell ⟨(w.heap.size + 1 + 1), 1, none⟩ (.int .i64 by')).setCell ⟨(w.heap.size + 1 + 1), 2, none⟩ (.int .i64 0)).setCell ⟨(w.heap.size + 1 + 1), 3, none⟩ (.int .u64 0)).setCell ⟨(w.heap.size + 1 + 1), 4, none⟩ (.string ⟨#[]⟩)).setCell ⟨(w.heap.size + 1 + 1), 5, none⟩ (.slice (some ⟨w3.heap.size + 1, 0, none⟩) 1 1)) = w99 at *
  obtain ⟨q0, q1, q2, q3, q4, q5⟩ := cs6 hs6 rfl rfl rfl rfl rfl rfl
  refine bodyPost_ret (v := .agg #[.int .i64 7, .int .i64 by', .int .i64 0, .int .u64 0, .string ⟨#[]⟩, .slice (some ⟨w3.heap.size + 1, 0, none⟩) 1 1]) (by simp [results, Tryz.results152, go_sem, q0, q1, q2, q3, q4, q5]) rfl ?_
  have htr2 := HTR.out.trans ((if_neg HB4.out).trans (by rw [if_neg HB3'.out]))
  rw [htr2]
  have hsb : w99.heap[(w3.heap.size + 1)]? = some (Obj.cells #[.int .i64 k1, .int .i64 f1, .int .i64 t1, .int .u64 n1, .string s1, .slice a1 kx.len c1] TrT) := (ho6 _ (by have := HZW.out; omega)).trans HS7.out
  refine ⟨.slice (some ⟨(w3.heap.size + 1), 0, none⟩) 1 1, rfl, ⟨_, _, rfl, by simp [signT, one, Fo.len], by decide, fun _ => ⟨(w3.heap.size + 1), 0, rfl, ⟨⟨by have := HBB.out; have := HZW.out; omega, _, hsb⟩, HEE.out _ (by have := HZW.out; omega)⟩,
   AtF.mk (v := .slice a1 kx.len c1) (cellB (j := 0) hsb rfl) (cellB (j := 1) hsb rfl) (cellB (j := 2) hsb rfl) (cellB (j := 3) hsb rfl) (cellB (j := 4) hsb rfl) (cellB (j := 5) hsb rfl) (HX.out.newE HW6.out) trivial⟩⟩, HW6.out⟩
end Go.Proofs.YtjmcaceegfdkkaaGreatDoor
