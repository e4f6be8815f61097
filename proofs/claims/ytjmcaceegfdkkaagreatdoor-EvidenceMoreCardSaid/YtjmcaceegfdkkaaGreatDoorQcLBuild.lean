/-
  Trees of letters in memory: the tree of a letter.
-/
import Derived.Test.YtjmcaceegfdkkaaGreatDoorQcLTree
namespace Go.Proofs.YtjmcaceegfdkkaaGreatDoor
open Go.RowKit Go.Maps
set_option linter.unusedVariables false

def SKB (lb dbk : Nat) (K lf lc : Int) (ls : ByteArray) (lx : Bool) (da : Option Addr) (dn dc : Nat) (V : World) : Prop := V.cell? ⟨lb, 0, none⟩ = some (.int .i64 K) ∧ V.cell? ⟨lb, 1, none⟩ = some (.int .i64 lf) ∧ V.cell? ⟨lb, 2, none⟩ = some (.int .u64 lc) ∧ V.cell? ⟨lb, 3, none⟩ = some (.string ls) ∧ V.cell? ⟨lb, 4, none⟩ = some (.bool lx) ∧ V.cell? ⟨dbk, 0, none⟩ = some (.int .i64 4) ∧ V.cell? ⟨dbk, 1, none⟩ = some (.int .i64 0) ∧ V.cell? ⟨dbk, 2, none⟩ = some (.int .i64 0) ∧ V.cell? ⟨dbk, 3, none⟩ = some (.int .u64 0) ∧ V.cell? ⟨dbk, 4, none⟩ = some (.string emptyS) ∧ V.cell? ⟨dbk, 5, none⟩ = some (.slice da dn dc)
set_option maxRecDepth 100000 in
set_option maxHeartbeats 6400000 in
theorem tree_1 {w : World} (hl : LaidK w) {lf lc : Int} {ls : ByteArray} {lx : Bool} {w0 : World} {E : Nat → Prop} (hB : w0.heap.size ≤ w.heap.size) (hE : ∀ b, w.heap.size ≤ b → E b) (hf : lf = 0 ∨ lf = 1) : Calls Tryz.prog 114 #[.agg #[.int .i64 1, .int .i64 lf, .int .u64 lc, .string ls, .bool lx]] w (TP w0 E w (letT ⟨1, lf, lc, ls, lx⟩ true true)) := by
 obtain ⟨tr, htr⟩ : ∃ tr, tr = letT ⟨1, lf, lc, ls, lx⟩ true true := ⟨_, rfl⟩
 rw [← htr]
 have HTR := Lib.hid htr
 have HBB := Lib.hid hB
 have HEE := Lib.hid hE
 have HLK := Lib.hid hl
 have HF := Lib.hid hf
 clear htr hB hE hl hf
 have b1 := bZ w (.cells #[.int .i64 1, .int .i64 lf, .int .u64 lc, .string ls, .bool lx] LtT)
 have h1 := heap_alloc_new w (.cells #[.int .i64 1, .int .i64 lf, .int .u64 lc, .string ls, .bool lx] LtT)
 have b2 := bZ (w.alloc (.cells #[.int .i64 1, .int .i64 lf, .int .u64 lc, .string ls, .bool lx] LtT)) (.cells #[.int .i64 0, .int .i64 0, .int .i64 0, .int .u64 0, .string ⟨#[]⟩, .slice none 0 0] TrT)
 have h2 := heap_alloc_new (w.alloc (.cells #[.int .i64 1, .int .i64 lf, .int .u64 lc, .string ls, .bool lx] LtT)) (.cells #[.int .i64 0, .int .i64 0, .int .i64 0, .int .u64 0, .string ⟨#[]⟩, .slice none 0 0] TrT)
 have e1 := Hold.below b2 _ _ h1
 simp only [World.size_alloc] at h2
 have HB2 := Lib.hid (bmore b1 b2)
 have HL2 := Lib.hid e1
 have HR2 := Lib.hid h2
 clear b1 h1 b2 h2 e1
 obtain ⟨l0, l1, l2, l3, l4⟩ := cs5 HL2.out rfl rfl rfl rfl rfl
 go_enter Tryz.func114, Tryz.ntmps114
 go_wp2_with fail
 generalize ((w.alloc (.cells #[.int .i64 1, .int .i64 lf, .int .u64 lc, .string ls, .bool lx] LtT)).alloc (.cells #[.int .i64 0, .int .i64 0, .int .i64 0, .int .u64 0, .string ⟨#[]⟩, .slice none 0 0] TrT)) = w2 at *
 have HZW := Lib.hid (show w.heap.size + 2 ≤ w2.heap.size from by have := (Array.getElem?_eq_some_iff.1 HR2.out).1; omega)
 refine (deal_any lc ls w2 (w0 := w0) (E := (fun b => E b ∧ b ≠ w.heap.size + 1)) (Nat.le_trans HBB.out HB2.out.size) (fun b h => ⟨HEE.out b (Nat.le_trans HB2.out.size h), by have := HZW.out; omega⟩)).mono ?_
 intro e w3 h3
 obtain ⟨da, dn, dc, rfl, k3, u3⟩ := h3.out rfl
 have b4 := bmore u3 (bZ w3 (.cells #[.int .i64 4, .int .i64 0, .int .i64 0, .int .u64 0, .string emptyS, .slice da dn dc] TrT))
 have h4 := heap_alloc_new w3 (.cells #[.int .i64 4, .int .i64 0, .int .i64 0, .int .u64 0, .string emptyS, .slice da dn dc] TrT)
 have HB4 := Lib.hid (bmore HB2.out b4)
 have HL4 := Lib.hid (Hold.below b4 _ _ HL2.out)
 have HR4 := Lib.hid (Hold.below b4 _ _ HR2.out)
 have HD4 := Lib.hid h4
 have HK4 := Lib.hid (k3.newE (bZ w3 (.cells #[.int .i64 4, .int .i64 0, .int .i64 0, .int .u64 0, .string emptyS, .slice da dn dc] TrT)))
 have HZ4 := Lib.hid (show w.heap.size + 2 ≤ w3.heap.size from Nat.le_trans HZW.out u3.size)
 have HS4 := Lib.hid (show w2.heap.size ≤ (w3.alloc (.cells #[.int .i64 4, .int .i64 0, .int .i64 0, .int .u64 0, .string emptyS, .slice da dn dc] TrT)).heap.size from b4.size)
 clear h3 k3 u3 b4 h4 HL2 HR2 l0 l1 l2 l3 l4
 obtain ⟨l0, l1, l2, l3, l4⟩ := cs5 HL4.out rfl rfl rfl rfl rfl
 obtain ⟨d0, d1, d2, d3, d4, d5⟩ := cs6 HD4.out rfl rfl rfl rfl rfl rfl
 obtain ⟨z0, z1, z2, z3, z4, z5⟩ := cs6 HR4.out rfl rfl rfl rfl rfl rfl
 obtain ⟨zf0, zf1, zf2, zf3, zf4, zf5⟩ := fz6 HR4.out
 have nn1 : ¬ w3.heap.size = w.heap.size + 1 := by have := HZ4.out; omega
 have nn2 : ¬ w.heap.size + 1 = w3.heap.size := by have := HZ4.out; omega
 go_upto_region 4 with fail
 generalize (w3.alloc (.cells #[.int .i64 4, .int .i64 0, .int .i64 0, .int .u64 0, .string emptyS, .slice da dn dc] TrT)) = w4 at *
 generalize w3.heap.size = dbk at *
 have HPR := Lib.hid (fun (who : Int) (hw : who = 0 ∨ who = 1) => (show Calls Tryz.prog 151 #[.int .i64 who, .agg #[.int .i64 4, .int .i64 0, .int .i64 0, .int .u64 0, .string emptyS, .slice da dn dc], .bool lx] w4 (TP w0 (fun b => E b ∧ b ≠ w.heap.size + 1) w4 (promT who (dealT lc ls) lx)) from promise_any (x := dealT lc ls) (Nat.le_trans HBB.out HB4.out.size) (fun b h => ⟨HEE.out b (Nat.le_trans HB4.out.size h), by have := HS4.out; have := HZW.out; omega⟩) HK4.out hw lx))
 go_wp2_with fail
 refine (HPR.out lf HF.out).mono ?_
 intro e w5 h5
 cases lx with
 | false =>
  obtain ⟨va, vn, vc, rfl, k5, u5⟩ := h5.out (k := 8) rfl
  have HB5 := Lib.hid (bmore HB4.out u5)
  have HR5 := Lib.hid (Hold.below u5 _ _ HR4.out)
  have HK5 := Lib.hid k5
  clear u5 k5 h5 z0 z1 z2 z3 z4 z5 zf0 zf1 zf2 zf3 zf4 zf5
  obtain ⟨z0, z1, z2, z3, z4, z5⟩ := cs6 HR5.out rfl rfl rfl rfl rfl rfl
  obtain ⟨zf0, zf1, zf2, zf3, zf4, zf5⟩ := fz6 HR5.out
  go_wp2_with fail
  have hs6 := set6_at HR5.out (.int .i64 8) (.int .i64 lf) (.int .i64 (1 - lf)) (.int .u64 0) (.string emptyS) (.slice va vn vc)
  have hw6 := set6_below (b := (w.heap.size + 1)) HB5.out (Nat.le_succ _) (.int .i64 8) (.int .i64 lf) (.int .i64 (1 - lf)) (.int .u64 0) (.string emptyS) (.slice va vn vc)
  have ho6 := fun (b' : Nat) (hne : b' ≠ (w.heap.size + 1)) => set6_other (w := w5) hne (.int .i64 8) (.int .i64 lf) (.int .i64 (1 - lf)) (.int .u64 0) (.string emptyS) (.slice va vn vc)
  rw [show set6 w5 (w.heap.size + 1) (.int .i64 8) (.int .i64 lf) (.int .i64 (1 - lf)) (.int .u64 0) (.string emptyS) (.slice va vn vc) = (((((w5.setCell ⟨(w.heap.size + 1), 0, none⟩ (.int .i64 8)).setCell ⟨(w.heap.size + 1), 1, none⟩ (.int .i64 lf)).setCell ⟨(w.heap.size + 1), 2, none⟩ (.int .i64 (1 - lf))).setCell ⟨(w.heap.size + 1), 3, none⟩ (.int .u64 0)).setCell ⟨(w.heap.size + 1), 4, none⟩ (.string emptyS)).setCell ⟨(w.heap.size + 1), 5, none⟩ (.slice va vn vc) from rfl] at hs6 hw6 ho6
  have HW6 := Lib.hid hw6
  clear hw6
  generalize ((((((w5.setCell ⟨(w.heap.size + 1), 0, none⟩ (.int .i64 8)).setCell ⟨(w.heap.size + 1), 1, none⟩ (.int .i64 lf)).setCell ⟨(w.heap.size + 1), 2, none⟩ (.int .i64 (1 - lf))).setCell ⟨(w.heap.size + 1), 3, none⟩ (.int .u64 0)).setCell ⟨(w.heap.size + 1), 4, none⟩ (.string emptyS)).setCell ⟨(w.heap.size + 1), 5, none⟩ (.slice va vn vc)) = w99 at *
  obtain ⟨q0, q1, q2, q3, q4, q5⟩ := cs6 hs6 rfl rfl rfl rfl rfl rfl
  refine bodyPost_ret (v := .agg #[.int .i64 8, .int .i64 lf, .int .i64 (1 - lf), .int .u64 0, .string emptyS, .slice va vn vc]) (by simp [results, Tryz.results114, go_sem, q0, q1, q2, q3, q4, q5]) rfl ?_
  have hkf := HK5.out.keep (G' := NewE w0 E w99) (fun b hg hl => by
   have he := ho6 b hg.2.2
   refine ⟨⟨⟨hg.1.1, ?_⟩, hg.2.1⟩, he⟩
   obtain ⟨cs, hc⟩ := hg.1.2
   exact ⟨cs, by rw [he]; exact hc⟩)
  have htr := HTR.out.trans rfl
  rw [htr]
  exact ⟨_, rfl, hkf, HW6.out⟩
 | true =>
  obtain ⟨va, vn, vc, rfl, k5, u5⟩ := h5.out (k := 9) rfl
  have HB5 := Lib.hid (bmore HB4.out u5)
  have HR5 := Lib.hid (Hold.below u5 _ _ HR4.out)
  have HK5 := Lib.hid k5
  clear u5 k5 h5 z0 z1 z2 z3 z4 z5 zf0 zf1 zf2 zf3 zf4 zf5
  obtain ⟨z0, z1, z2, z3, z4, z5⟩ := cs6 HR5.out rfl rfl rfl rfl rfl rfl
  obtain ⟨zf0, zf1, zf2, zf3, zf4, zf5⟩ := fz6 HR5.out
  go_wp2_with fail
  have hs6 := set6_at HR5.out (.int .i64 9) (.int .i64 lf) (.int .i64 (1 - lf)) (.int .u64 0) (.string emptyS) (.slice va vn vc)
  have hw6 := set6_below (b := (w.heap.size + 1)) HB5.out (Nat.le_succ _) (.int .i64 9) (.int .i64 lf) (.int .i64 (1 - lf)) (.int .u64 0) (.string emptyS) (.slice va vn vc)
  have ho6 := fun (b' : Nat) (hne : b' ≠ (w.heap.size + 1)) => set6_other (w := w5) hne (.int .i64 9) (.int .i64 lf) (.int .i64 (1 - lf)) (.int .u64 0) (.string emptyS) (.slice va vn vc)
  rw [show set6 w5 (w.heap.size + 1) (.int .i64 9) (.int .i64 lf) (.int .i64 (1 - lf)) (.int .u64 0) (.string emptyS) (.slice va vn vc) = (((((w5.setCell ⟨(w.heap.size + 1), 0, none⟩ (.int .i64 9)).setCell ⟨(w.heap.size + 1), 1, none⟩ (.int .i64 lf)).setCell ⟨(w.heap.size + 1), 2, none⟩ (.int .i64 (1 - lf))).setCell ⟨(w.heap.size + 1), 3, none⟩ (.int .u64 0)).setCell ⟨(w.heap.size + 1), 4, none⟩ (.string emptyS)).setCell ⟨(w.heap.size + 1), 5, none⟩ (.slice va vn vc) from rfl] at hs6 hw6 ho6
  have HW6 := Lib.hid hw6
  clear hw6
  generalize ((((((w5.setCell ⟨(w.heap.size + 1), 0, none⟩ (.int .i64 9)).setCell ⟨(w.heap.size + 1), 1, none⟩ (.int .i64 lf)).setCell ⟨(w.heap.size + 1), 2, none⟩ (.int .i64 (1 - lf))).setCell ⟨(w.heap.size + 1), 3, none⟩ (.int .u64 0)).setCell ⟨(w.heap.size + 1), 4, none⟩ (.string emptyS)).setCell ⟨(w.heap.size + 1), 5, none⟩ (.slice va vn vc)) = w99 at *
  obtain ⟨q0, q1, q2, q3, q4, q5⟩ := cs6 hs6 rfl rfl rfl rfl rfl rfl
  refine bodyPost_ret (v := .agg #[.int .i64 9, .int .i64 lf, .int .i64 (1 - lf), .int .u64 0, .string emptyS, .slice va vn vc]) (by simp [results, Tryz.results114, go_sem, q0, q1, q2, q3, q4, q5]) rfl ?_
  have hkf := HK5.out.keep (G' := NewE w0 E w99) (fun b hg hl => by
   have he := ho6 b hg.2.2
   refine ⟨⟨⟨hg.1.1, ?_⟩, hg.2.1⟩, he⟩
   obtain ⟨cs, hc⟩ := hg.1.2
   exact ⟨cs, by rw [he]; exact hc⟩)
  have htr := HTR.out.trans rfl
  rw [htr]
  exact ⟨_, rfl, hkf, HW6.out⟩
set_option maxRecDepth 100000 in
set_option maxHeartbeats 6400000 in
theorem tree_2 {w : World} (hl : LaidK w) {lf lc : Int} {ls : ByteArray} {lx : Bool} {w0 : World} {E : Nat → Prop} (hB : w0.heap.size ≤ w.heap.size) (hE : ∀ b, w.heap.size ≤ b → E b) (hf : lf = 0 ∨ lf = 1) : Calls Tryz.prog 114 #[.agg #[.int .i64 2, .int .i64 lf, .int .u64 lc, .string ls, .bool lx]] w (TP w0 E w (letT ⟨2, lf, lc, ls, lx⟩ true true)) := by
 obtain ⟨tr, htr⟩ : ∃ tr, tr = letT ⟨2, lf, lc, ls, lx⟩ true true := ⟨_, rfl⟩
 rw [← htr]
 have HTR := Lib.hid htr
 have HBB := Lib.hid hB
 have HEE := Lib.hid hE
 have HLK := Lib.hid hl
 have HF := Lib.hid hf
 clear htr hB hE hl hf
 have b1 := bZ w (.cells #[.int .i64 2, .int .i64 lf, .int .u64 lc, .string ls, .bool lx] LtT)
 have h1 := heap_alloc_new w (.cells #[.int .i64 2, .int .i64 lf, .int .u64 lc, .string ls, .bool lx] LtT)
 have b2 := bZ (w.alloc (.cells #[.int .i64 2, .int .i64 lf, .int .u64 lc, .string ls, .bool lx] LtT)) (.cells #[.int .i64 0, .int .i64 0, .int .i64 0, .int .u64 0, .string ⟨#[]⟩, .slice none 0 0] TrT)
 have h2 := heap_alloc_new (w.alloc (.cells #[.int .i64 2, .int .i64 lf, .int .u64 lc, .string ls, .bool lx] LtT)) (.cells #[.int .i64 0, .int .i64 0, .int .i64 0, .int .u64 0, .string ⟨#[]⟩, .slice none 0 0] TrT)
 have e1 := Hold.below b2 _ _ h1
 simp only [World.size_alloc] at h2
 have HB2 := Lib.hid (bmore b1 b2)
 have HL2 := Lib.hid e1
 have HR2 := Lib.hid h2
 clear b1 h1 b2 h2 e1
 obtain ⟨l0, l1, l2, l3, l4⟩ := cs5 HL2.out rfl rfl rfl rfl rfl
 go_enter Tryz.func114, Tryz.ntmps114
 go_wp2_with fail
 generalize ((w.alloc (.cells #[.int .i64 2, .int .i64 lf, .int .u64 lc, .string ls, .bool lx] LtT)).alloc (.cells #[.int .i64 0, .int .i64 0, .int .i64 0, .int .u64 0, .string ⟨#[]⟩, .slice none 0 0] TrT)) = w2 at *
 have HZW := Lib.hid (show w.heap.size + 2 ≤ w2.heap.size from by have := (Array.getElem?_eq_some_iff.1 HR2.out).1; omega)
 refine (deal_any lc ls w2 (w0 := w0) (E := (fun b => E b ∧ b ≠ w.heap.size + 1)) (Nat.le_trans HBB.out HB2.out.size) (fun b h => ⟨HEE.out b (Nat.le_trans HB2.out.size h), by have := HZW.out; omega⟩)).mono ?_
 intro e w3 h3
 obtain ⟨da, dn, dc, rfl, k3, u3⟩ := h3.out rfl
 have b4 := bmore u3 (bZ w3 (.cells #[.int .i64 4, .int .i64 0, .int .i64 0, .int .u64 0, .string emptyS, .slice da dn dc] TrT))
 have h4 := heap_alloc_new w3 (.cells #[.int .i64 4, .int .i64 0, .int .i64 0, .int .u64 0, .string emptyS, .slice da dn dc] TrT)
 have HB4 := Lib.hid (bmore HB2.out b4)
 have HL4 := Lib.hid (Hold.below b4 _ _ HL2.out)
 have HR4 := Lib.hid (Hold.below b4 _ _ HR2.out)
 have HD4 := Lib.hid h4
 have HK4 := Lib.hid (k3.newE (bZ w3 (.cells #[.int .i64 4, .int .i64 0, .int .i64 0, .int .u64 0, .string emptyS, .slice da dn dc] TrT)))
 have HZ4 := Lib.hid (show w.heap.size + 2 ≤ w3.heap.size from Nat.le_trans HZW.out u3.size)
 have HS4 := Lib.hid (show w2.heap.size ≤ (w3.alloc (.cells #[.int .i64 4, .int .i64 0, .int .i64 0, .int .u64 0, .string emptyS, .slice da dn dc] TrT)).heap.size from b4.size)
 clear h3 k3 u3 b4 h4 HL2 HR2 l0 l1 l2 l3 l4
 obtain ⟨l0, l1, l2, l3, l4⟩ := cs5 HL4.out rfl rfl rfl rfl rfl
 obtain ⟨d0, d1, d2, d3, d4, d5⟩ := cs6 HD4.out rfl rfl rfl rfl rfl rfl
 obtain ⟨z0, z1, z2, z3, z4, z5⟩ := cs6 HR4.out rfl rfl rfl rfl rfl rfl
 obtain ⟨zf0, zf1, zf2, zf3, zf4, zf5⟩ := fz6 HR4.out
 have nn1 : ¬ w3.heap.size = w.heap.size + 1 := by have := HZ4.out; omega
 have nn2 : ¬ w.heap.size + 1 = w3.heap.size := by have := HZ4.out; omega
 go_upto_region 6 with fail
 generalize (w3.alloc (.cells #[.int .i64 4, .int .i64 0, .int .i64 0, .int .u64 0, .string emptyS, .slice da dn dc] TrT)) = w4 at *
 generalize w3.heap.size = dbk at *
 have HSG := Lib.hid (show Calls Tryz.prog 152 #[.agg #[.int .i64 2, .int .i64 lf, .int .u64 lc, .string ls, .bool lx], .agg #[.int .i64 4, .int .i64 0, .int .i64 0, .int .u64 0, .string emptyS, .slice da dn dc]] w4 (TP w0 (fun b => E b ∧ b ≠ w.heap.size + 1) w4 (signT lf (dealT lc ls))) from signed_any (K := 2) (x := dealT lc ls) (HLK.out.below HB4.out) (by omega) (Nat.le_trans HBB.out HB4.out.size) (fun b h => ⟨HEE.out b (Nat.le_trans HB4.out.size h), by have := HS4.out; have := HZW.out; omega⟩) HK4.out ⟨rfl, rfl⟩)
 go_wp2_with fail
 refine HSG.out.mono ?_
 intro e w5 h5
 obtain ⟨va, vn, vc, rfl, k5, u5⟩ := h5.out rfl
 have HB5 := Lib.hid (bmore HB4.out u5)
 have HR5 := Lib.hid (Hold.below u5 _ _ HR4.out)
 have HK5 := Lib.hid k5
 clear u5 k5 h5 z0 z1 z2 z3 z4 z5 zf0 zf1 zf2 zf3 zf4 zf5
 obtain ⟨z0, z1, z2, z3, z4, z5⟩ := cs6 HR5.out rfl rfl rfl rfl rfl rfl
 obtain ⟨zf0, zf1, zf2, zf3, zf4, zf5⟩ := fz6 HR5.out
 go_wp2_with fail
 have hs6 := set6_at HR5.out (.int .i64 7) (.int .i64 lf) (.int .i64 0) (.int .u64 0) (.string emptyS) (.slice va vn vc)
 have hw6 := set6_below (b := (w.heap.size + 1)) HB5.out (Nat.le_succ _) (.int .i64 7) (.int .i64 lf) (.int .i64 0) (.int .u64 0) (.string emptyS) (.slice va vn vc)
 have ho6 := fun (b' : Nat) (hne : b' ≠ (w.heap.size + 1)) => set6_other (w := w5) hne (.int .i64 7) (.int .i64 lf) (.int .i64 0) (.int .u64 0) (.string emptyS) (.slice va vn vc)
 rw [show set6 w5 (w.heap.size + 1) (.int .i64 7) (.int .i64 lf) (.int .i64 0) (.int .u64 0) (.string emptyS) (.slice va vn vc) = (((((w5.setCell ⟨(w.heap.size + 1), 0, none⟩ (.int .i64 7)).setCell ⟨(w.heap.size + 1), 1, none⟩ (.int .i64 lf)).setCell ⟨(w.heap.size + 1), 2, none⟩ (.int .i64 0)).setCell ⟨(w.heap.size + 1), 3, none⟩ (.int .u64 0)).setCell ⟨(w.heap.size + 1), 4, none⟩ (.string emptyS)).setCell ⟨(w.heap.size + 1), 5, none⟩ (.slice va vn vc) from rfl] at hs6 hw6 ho6
 have HW6 := Lib.hid hw6
 clear hw6
 generalize ((((((w5.setCell ⟨(w.heap.size + 1), 0, none⟩ (.int .i64 7)).setCell ⟨(w.heap.size + 1), 1, none⟩ (.int .i64 lf)).setCell ⟨(w.heap.size + 1), 2, none⟩ (.int .i64 0)).setCell ⟨(w.heap.size + 1), 3, none⟩ (.int .u64 0)).setCell ⟨(w.heap.size + 1), 4, none⟩ (.string emptyS)).setCell ⟨(w.heap.size + 1), 5, none⟩ (.slice va vn vc)) = w99 at *
 obtain ⟨q0, q1, q2, q3, q4, q5⟩ := cs6 hs6 rfl rfl rfl rfl rfl rfl
 refine bodyPost_ret (v := .agg #[.int .i64 7, .int .i64 lf, .int .i64 0, .int .u64 0, .string emptyS, .slice va vn vc]) (by simp [results, Tryz.results114, go_sem, q0, q1, q2, q3, q4, q5]) rfl ?_
 have hkf := HK5.out.keep (G' := NewE w0 E w99) (fun b hg hl => by
  have he := ho6 b hg.2.2
  refine ⟨⟨⟨hg.1.1, ?_⟩, hg.2.1⟩, he⟩
  obtain ⟨cs, hc⟩ := hg.1.2
  exact ⟨cs, by rw [he]; exact hc⟩)
 have htr := HTR.out.trans rfl
 rw [htr]
 exact ⟨_, rfl, hkf, HW6.out⟩
set_option maxRecDepth 100000 in
set_option maxHeartbeats 6400000 in
theorem tree_6 {w : World} (hl : LaidK w) {lf lc : Int} {ls : ByteArray} {lx : Bool} {w0 : World} {E : Nat → Prop} (hB : w0.heap.size ≤ w.heap.size) (hE : ∀ b, w.heap.size ≤ b → E b) (hf : lf = 0 ∨ lf = 1) : Calls Tryz.prog 114 #[.agg #[.int .i64 6, .int .i64 lf, .int .u64 lc, .string ls, .bool lx]] w (TP w0 E w (letT ⟨6, lf, lc, ls, lx⟩ true true)) := by
 obtain ⟨tr, htr⟩ : ∃ tr, tr = letT ⟨6, lf, lc, ls, lx⟩ true true := ⟨_, rfl⟩
 rw [← htr]
 have HTR := Lib.hid htr
 have HBB := Lib.hid hB
 have HEE := Lib.hid hE
 have HLK := Lib.hid hl
 have HF := Lib.hid hf
 clear htr hB hE hl hf
 have b1 := bZ w (.cells #[.int .i64 6, .int .i64 lf, .int .u64 lc, .string ls, .bool lx] LtT)
 have h1 := heap_alloc_new w (.cells #[.int .i64 6, .int .i64 lf, .int .u64 lc, .string ls, .bool lx] LtT)
 have b2 := bZ (w.alloc (.cells #[.int .i64 6, .int .i64 lf, .int .u64 lc, .string ls, .bool lx] LtT)) (.cells #[.int .i64 0, .int .i64 0, .int .i64 0, .int .u64 0, .string ⟨#[]⟩, .slice none 0 0] TrT)
 have h2 := heap_alloc_new (w.alloc (.cells #[.int .i64 6, .int .i64 lf, .int .u64 lc, .string ls, .bool lx] LtT)) (.cells #[.int .i64 0, .int .i64 0, .int .i64 0, .int .u64 0, .string ⟨#[]⟩, .slice none 0 0] TrT)
 have e1 := Hold.below b2 _ _ h1
 simp only [World.size_alloc] at h2
 have HB2 := Lib.hid (bmore b1 b2)
 have HL2 := Lib.hid e1
 have HR2 := Lib.hid h2
 clear b1 h1 b2 h2 e1
 obtain ⟨l0, l1, l2, l3, l4⟩ := cs5 HL2.out rfl rfl rfl rfl rfl
 go_enter Tryz.func114, Tryz.ntmps114
 go_wp2_with fail
 generalize ((w.alloc (.cells #[.int .i64 6, .int .i64 lf, .int .u64 lc, .string ls, .bool lx] LtT)).alloc (.cells #[.int .i64 0, .int .i64 0, .int .i64 0, .int .u64 0, .string ⟨#[]⟩, .slice none 0 0] TrT)) = w2 at *
 have HZW := Lib.hid (show w.heap.size + 2 ≤ w2.heap.size from by have := (Array.getElem?_eq_some_iff.1 HR2.out).1; omega)
 refine (deal_any lc ls w2 (w0 := w0) (E := (fun b => E b ∧ b ≠ w.heap.size + 1)) (Nat.le_trans HBB.out HB2.out.size) (fun b h => ⟨HEE.out b (Nat.le_trans HB2.out.size h), by have := HZW.out; omega⟩)).mono ?_
 intro e w3 h3
 obtain ⟨da, dn, dc, rfl, k3, u3⟩ := h3.out rfl
 have b4 := bmore u3 (bZ w3 (.cells #[.int .i64 4, .int .i64 0, .int .i64 0, .int .u64 0, .string emptyS, .slice da dn dc] TrT))
 have h4 := heap_alloc_new w3 (.cells #[.int .i64 4, .int .i64 0, .int .i64 0, .int .u64 0, .string emptyS, .slice da dn dc] TrT)
 have HB4 := Lib.hid (bmore HB2.out b4)
 have HL4 := Lib.hid (Hold.below b4 _ _ HL2.out)
 have HR4 := Lib.hid (Hold.below b4 _ _ HR2.out)
 have HD4 := Lib.hid h4
 have HK4 := Lib.hid (k3.newE (bZ w3 (.cells #[.int .i64 4, .int .i64 0, .int .i64 0, .int .u64 0, .string emptyS, .slice da dn dc] TrT)))
 have HZ4 := Lib.hid (show w.heap.size + 2 ≤ w3.heap.size from Nat.le_trans HZW.out u3.size)
 have HS4 := Lib.hid (show w2.heap.size ≤ (w3.alloc (.cells #[.int .i64 4, .int .i64 0, .int .i64 0, .int .u64 0, .string emptyS, .slice da dn dc] TrT)).heap.size from b4.size)
 clear h3 k3 u3 b4 h4 HL2 HR2 l0 l1 l2 l3 l4
 obtain ⟨l0, l1, l2, l3, l4⟩ := cs5 HL4.out rfl rfl rfl rfl rfl
 obtain ⟨d0, d1, d2, d3, d4, d5⟩ := cs6 HD4.out rfl rfl rfl rfl rfl rfl
 obtain ⟨z0, z1, z2, z3, z4, z5⟩ := cs6 HR4.out rfl rfl rfl rfl rfl rfl
 obtain ⟨zf0, zf1, zf2, zf3, zf4, zf5⟩ := fz6 HR4.out
 have nn1 : ¬ w3.heap.size = w.heap.size + 1 := by have := HZ4.out; omega
 have nn2 : ¬ w.heap.size + 1 = w3.heap.size := by have := HZ4.out; omega
 go_upto_region 10 with fail
 generalize (w3.alloc (.cells #[.int .i64 4, .int .i64 0, .int .i64 0, .int .u64 0, .string emptyS, .slice da dn dc] TrT)) = w4 at *
 generalize w3.heap.size = dbk at *
 have HKP := Lib.hid (fun (V : World) (hb : Below w4.heap.size w4 V) => (show SKB w.heap.size dbk 6 lf lc ls lx da dn dc V from ⟨cellB (j := 0) (Hold.below hb _ _ HL4.out) rfl, cellB (j := 1) (Hold.below hb _ _ HL4.out) rfl, cellB (j := 2) (Hold.below hb _ _ HL4.out) rfl, cellB (j := 3) (Hold.below hb _ _ HL4.out) rfl, cellB (j := 4) (Hold.below hb _ _ HL4.out) rfl, cellB (j := 0) (Hold.below hb _ _ HD4.out) rfl, cellB (j := 1) (Hold.below hb _ _ HD4.out) rfl, cellB (j := 2) (Hold.below hb _ _ HD4.out) rfl, cellB (j := 3) (Hold.below hb _ _ HD4.out) rfl, cellB (j := 4) (Hold.below hb _ _ HD4.out) rfl, cellB (j := 5) (Hold.below hb _ _ HD4.out) rfl⟩))
 have HST := Lib.hid (fun (V : World) (v0 v1 v2 v3 v4 v5 : Value) (h : SKB w.heap.size dbk 6 lf lc ls lx da dn dc V) => (show SKB w.heap.size dbk 6 lf lc ls lx da dn dc (set6 V (w.heap.size + 1) v0 v1 v2 v3 v4 v5) from by
  obtain ⟨s0, s1, s2, s3, s4, s5, s6, s7, s8, s9, s10⟩ := h
  have hn := HZ4.out
  have q : ∀ (b o : Nat), b ≠ w.heap.size + 1 → (set6 V (w.heap.size + 1) v0 v1 v2 v3 v4 v5).cell? ⟨b, o, none⟩ = V.cell? ⟨b, o, none⟩ := fun b o h => cell_of_heap (set6_other h _ _ _ _ _ _) o
  have q1 := fun o => q w.heap.size o (by omega)
  have q2 := fun o => q dbk o (by omega)
  exact ⟨(q1 _).trans s0, (q1 _).trans s1, (q1 _).trans s2, (q1 _).trans s3, (q1 _).trans s4, (q2 _).trans s5, (q2 _).trans s6, (q2 _).trans s7, (q2 _).trans s8, (q2 _).trans s9, (q2 _).trans s10⟩))
 have HTO := Lib.hid (fun (W : World) (hb : Below w4.heap.size w4 W) (va : Option Addr) (vn vc : Nat) (k : IsK W (NewE w0 (fun b => E b ∧ b ≠ w.heap.size + 1) W) (.slice va vn vc) (dealT lc ls).2) => (show Calls Tryz.prog 153 #[.agg #[.int .i64 6, .int .i64 lf, .int .u64 lc, .string ls, .bool lx], .agg #[.int .i64 4, .int .i64 0, .int .i64 0, .int .u64 0, .string emptyS, .slice va vn vc]] W (TP w0 (fun b => E b ∧ b ≠ w.heap.size + 1) W (pairT (dataT (kdD 6)) (dealT lc ls))) from told_any (K := 6) (x := dealT lc ls) (HLK.out.below (bmore HB4.out hb)) (by omega) (Nat.le_trans HBB.out (Nat.le_trans HB4.out.size hb.size)) (fun b h => ⟨HEE.out b (Nat.le_trans HB4.out.size (Nat.le_trans hb.size h)), by have := HS4.out; have := HZW.out; have := hb.size; omega⟩) k))
 have HSG := Lib.hid (fun (W : World) (hb : Below w4.heap.size w4 W) (va : Option Addr) (vn vc : Nat) (k : IsK W (NewE w0 (fun b => E b ∧ b ≠ w.heap.size + 1) W) (.slice va vn vc) (pairT (dataT (kdD 6)) (dealT lc ls)).2) => (show Calls Tryz.prog 152 #[.agg #[.int .i64 6, .int .i64 lf, .int .u64 lc, .string ls, .bool lx], .agg #[.int .i64 4, .int .i64 0, .int .i64 0, .int .u64 0, .string emptyS, .slice va vn vc]] W (TP w0 (fun b => E b ∧ b ≠ w.heap.size + 1) W (signT 2 (pairT (dataT insteadS) (dealT lc ls)))) from signed_any (K := 6) (x := pairT (dataT (kdD 6)) (dealT lc ls)) (HLK.out.below (bmore HB4.out hb)) (by omega) (Nat.le_trans HBB.out (Nat.le_trans HB4.out.size hb.size)) (fun b h => ⟨HEE.out b (Nat.le_trans HB4.out.size (Nat.le_trans hb.size h)), by have := HS4.out; have := HZW.out; have := hb.size; omega⟩) k ⟨rfl, rfl⟩))
 have b0 := bd w4
 go_wp2_with fail
 refine lex_start [0, 1, 2, 3, 4, 5] (S := fun V => SKB w.heap.size dbk 6 lf lc ls lx da dn dc V) (by kernel_rfl) (HKP.out _ b0) (fun hS => ?_)
 clear hS
 simp only [inOrder, List.filterMap, List.getElem?_cons_succ, List.getElem?_cons_zero]
 refine lex_take (i := 0) (v := ?_) rfl (by kernel_rfl) (by kernel_rfl) (by kernel_rfl) (by rfl) (HKP.out _ b0) ?_ ?_
 rotate_left
 ·((intro W hW; obtain ⟨s0, s1, s2, s3, s4, s5, s6, s7, s8, s9, s10⟩ := hW; go_simp) <;> with_reducible rfl)
 simp only [Act.put, List.setIfInBounds_toArray, List.set_cons_zero, List.set_cons_succ]
 refine lex_take (i := 1) (v := ?_) rfl (by kernel_rfl) (by kernel_rfl) (by kernel_rfl) (by rfl) (HKP.out _ b0) ?_ ?_
 rotate_left
 ·((intro W hW; obtain ⟨s0, s1, s2, s3, s4, s5, s6, s7, s8, s9, s10⟩ := hW; go_simp) <;> with_reducible rfl)
 simp only [Act.put, List.setIfInBounds_toArray, List.set_cons_zero, List.set_cons_succ]
 refine lex_take (i := 2) (v := ?_) rfl (by kernel_rfl) (by kernel_rfl) (by kernel_rfl) (by rfl) (HKP.out _ b0) ?_ ?_
 rotate_left
 ·((intro W hW; obtain ⟨s0, s1, s2, s3, s4, s5, s6, s7, s8, s9, s10⟩ := hW; go_simp) <;> with_reducible rfl)
 simp only [Act.put, List.setIfInBounds_toArray, List.set_cons_zero, List.set_cons_succ]
 refine lex_do (i := 3) rfl (by kernel_rfl) (by rfl) (fun KK hK => ?_)
 go_simp
 refine (HTO.out _ b0 _ _ _ (HK4.out.newE b0)).mono ?_
 intro e w5 h5
 obtain ⟨a5, n5, c5, rfl, k5, u5⟩ := h5.out rfl
 have b5 := bmore b0 u5
 refine hK _ _ ⟨HKP.out _ b5, ?_⟩
 clear hK KK
 (try simp only [Act.put, List.setIfInBounds_toArray, List.set_cons_zero, List.set_cons_succ])
 refine lex_do (i := 4) rfl (by kernel_rfl) (by rfl) (fun KK hK => ?_)
 go_simp
 refine (HSG.out _ b5 _ _ _ k5).mono ?_
 intro e w6 h6
 obtain ⟨a6, n6, c6, rfl, k6, u6⟩ := h6.out rfl
 have b6 := bmore b5 u6
 refine hK _ _ ⟨HKP.out _ b6, ?_⟩
 clear hK KK
 (try simp only [Act.put, List.setIfInBounds_toArray, List.set_cons_zero, List.set_cons_succ])
 have HBq := Lib.hid (bmore HB4.out b6)
 have HRq := Lib.hid (Hold.below b6 _ _ HR4.out)
 have HKq := Lib.hid k6
 have HSq := Lib.hid (HKP.out _ b6)
 clear z0 z1 z2 z3 z4 z5 zf0 zf1 zf2 zf3 zf4 zf5
 obtain ⟨z0, z1, z2, z3, z4, z5⟩ := cs6 HRq.out rfl rfl rfl rfl rfl rfl
 obtain ⟨zf0, zf1, zf2, zf3, zf4, zf5⟩ := fz6 HRq.out
 refine lex_do (i := 5) rfl (by kernel_rfl) (by rfl) (fun KK hK => ?_)
 go_simp
 refine hK _ _ ⟨HST.out _ _ _ _ _ _ _ HSq.out, ?_⟩
 clear hK KK
 refine lex_done (by kernel_rfl) ?_
 go_wp2_with fail
 have hs6 := set6_at HRq.out (.int .i64 7) (.int .i64 2) (.int .i64 0) (.int .u64 0) (.string emptyS) (.slice a6 n6 c6)
 have hw6 := set6_below (b := (w.heap.size + 1)) HBq.out (Nat.le_succ _) (.int .i64 7) (.int .i64 2) (.int .i64 0) (.int .u64 0) (.string emptyS) (.slice a6 n6 c6)
 have ho6 := fun (b' : Nat) (hne : b' ≠ (w.heap.size + 1)) => set6_other (w := w6) hne (.int .i64 7) (.int .i64 2) (.int .i64 0) (.int .u64 0) (.string emptyS) (.slice a6 n6 c6)
 rw [show set6 w6 (w.heap.size + 1) (.int .i64 7) (.int .i64 2) (.int .i64 0) (.int .u64 0) (.string emptyS) (.slice a6 n6 c6) = (((((w6.setCell ⟨(w.heap.size + 1), 0, none⟩ (.int .i64 7)).setCell ⟨(w.heap.size + 1), 1, none⟩ (.int .i64 2)).setCell ⟨(w.heap.size + 1), 2, none⟩ (.int .i64 0)).setCell ⟨(w.heap.size + 1), 3, none⟩ (.int .u64 0)).setCell ⟨(w.heap.size + 1), 4, none⟩ (.string emptyS)).setCell ⟨(w.heap.size + 1), 5, none⟩ (.slice a6 n6 c6) from rfl] at hs6 hw6 ho6
 have HW6 := Lib.hid hw6
 clear hw6
 generalize ((((((w6.setCell ⟨(w.heap.size + 1), 0, none⟩ (.int .i64 7)).setCell ⟨(w.heap.size + 1), 1, none⟩ (.int .i64 2)).setCell ⟨(w.heap.size + 1), 2, none⟩ (.int .i64 0)).setCell ⟨(w.heap.size + 1), 3, none⟩ (.int .u64 0)).setCell ⟨(w.heap.size + 1), 4, none⟩ (.string emptyS)).setCell ⟨(w.heap.size + 1), 5, none⟩ (.slice a6 n6 c6)) = w99 at *
 obtain ⟨q0, q1, q2, q3, q4, q5⟩ := cs6 hs6 rfl rfl rfl rfl rfl rfl
 refine bodyPost_ret (v := .agg #[.int .i64 7, .int .i64 2, .int .i64 0, .int .u64 0, .string emptyS, .slice a6 n6 c6]) (by simp [results, Tryz.results114, go_sem, q0, q1, q2, q3, q4, q5]) rfl ?_
 have hkf := HKq.out.keep (G' := NewE w0 E w99) (fun b hg hl => by
  have he := ho6 b hg.2.2
  refine ⟨⟨⟨hg.1.1, ?_⟩, hg.2.1⟩, he⟩
  obtain ⟨cs, hc⟩ := hg.1.2
  exact ⟨cs, by rw [he]; exact hc⟩)
 have htr := HTR.out.trans rfl
 rw [htr]
 exact ⟨_, rfl, hkf, HW6.out⟩
set_option maxRecDepth 100000 in
set_option maxHeartbeats 6400000 in
theorem tree_3 {w : World} (hl : LaidK w) {lf lc : Int} {ls : ByteArray} {lx : Bool} {w0 : World} {E : Nat → Prop} (hB : w0.heap.size ≤ w.heap.size) (hE : ∀ b, w.heap.size ≤ b → E b) (hf : lf = 0 ∨ lf = 1) : Calls Tryz.prog 114 #[.agg #[.int .i64 3, .int .i64 lf, .int .u64 lc, .string ls, .bool lx]] w (TP w0 E w (letT ⟨3, lf, lc, ls, lx⟩ true true)) := by
 obtain ⟨tr, htr⟩ : ∃ tr, tr = letT ⟨3, lf, lc, ls, lx⟩ true true := ⟨_, rfl⟩
 rw [← htr]
 have HTR := Lib.hid htr
 have HBB := Lib.hid hB
 have HEE := Lib.hid hE
 have HLK := Lib.hid hl
 have HF := Lib.hid hf
 clear htr hB hE hl hf
 have b1 := bZ w (.cells #[.int .i64 3, .int .i64 lf, .int .u64 lc, .string ls, .bool lx] LtT)
 have h1 := heap_alloc_new w (.cells #[.int .i64 3, .int .i64 lf, .int .u64 lc, .string ls, .bool lx] LtT)
 have b2 := bZ (w.alloc (.cells #[.int .i64 3, .int .i64 lf, .int .u64 lc, .string ls, .bool lx] LtT)) (.cells #[.int .i64 0, .int .i64 0, .int .i64 0, .int .u64 0, .string ⟨#[]⟩, .slice none 0 0] TrT)
 have h2 := heap_alloc_new (w.alloc (.cells #[.int .i64 3, .int .i64 lf, .int .u64 lc, .string ls, .bool lx] LtT)) (.cells #[.int .i64 0, .int .i64 0, .int .i64 0, .int .u64 0, .string ⟨#[]⟩, .slice none 0 0] TrT)
 have e1 := Hold.below b2 _ _ h1
 simp only [World.size_alloc] at h2
 have HB2 := Lib.hid (bmore b1 b2)
 have HL2 := Lib.hid e1
 have HR2 := Lib.hid h2
 clear b1 h1 b2 h2 e1
 obtain ⟨l0, l1, l2, l3, l4⟩ := cs5 HL2.out rfl rfl rfl rfl rfl
 go_enter Tryz.func114, Tryz.ntmps114
 go_wp2_with fail
 generalize ((w.alloc (.cells #[.int .i64 3, .int .i64 lf, .int .u64 lc, .string ls, .bool lx] LtT)).alloc (.cells #[.int .i64 0, .int .i64 0, .int .i64 0, .int .u64 0, .string ⟨#[]⟩, .slice none 0 0] TrT)) = w2 at *
 have HZW := Lib.hid (show w.heap.size + 2 ≤ w2.heap.size from by have := (Array.getElem?_eq_some_iff.1 HR2.out).1; omega)
 refine (deal_any lc ls w2 (w0 := w0) (E := (fun b => E b ∧ b ≠ w.heap.size + 1)) (Nat.le_trans HBB.out HB2.out.size) (fun b h => ⟨HEE.out b (Nat.le_trans HB2.out.size h), by have := HZW.out; omega⟩)).mono ?_
 intro e w3 h3
 obtain ⟨da, dn, dc, rfl, k3, u3⟩ := h3.out rfl
 have b4 := bmore u3 (bZ w3 (.cells #[.int .i64 4, .int .i64 0, .int .i64 0, .int .u64 0, .string emptyS, .slice da dn dc] TrT))
 have h4 := heap_alloc_new w3 (.cells #[.int .i64 4, .int .i64 0, .int .i64 0, .int .u64 0, .string emptyS, .slice da dn dc] TrT)
 have HB4 := Lib.hid (bmore HB2.out b4)
 have HL4 := Lib.hid (Hold.below b4 _ _ HL2.out)
 have HR4 := Lib.hid (Hold.below b4 _ _ HR2.out)
 have HD4 := Lib.hid h4
 have HK4 := Lib.hid (k3.newE (bZ w3 (.cells #[.int .i64 4, .int .i64 0, .int .i64 0, .int .u64 0, .string emptyS, .slice da dn dc] TrT)))
 have HZ4 := Lib.hid (show w.heap.size + 2 ≤ w3.heap.size from Nat.le_trans HZW.out u3.size)
 have HS4 := Lib.hid (show w2.heap.size ≤ (w3.alloc (.cells #[.int .i64 4, .int .i64 0, .int .i64 0, .int .u64 0, .string emptyS, .slice da dn dc] TrT)).heap.size from b4.size)
 clear h3 k3 u3 b4 h4 HL2 HR2 l0 l1 l2 l3 l4
 obtain ⟨l0, l1, l2, l3, l4⟩ := cs5 HL4.out rfl rfl rfl rfl rfl
 obtain ⟨d0, d1, d2, d3, d4, d5⟩ := cs6 HD4.out rfl rfl rfl rfl rfl rfl
 obtain ⟨z0, z1, z2, z3, z4, z5⟩ := cs6 HR4.out rfl rfl rfl rfl rfl rfl
 obtain ⟨zf0, zf1, zf2, zf3, zf4, zf5⟩ := fz6 HR4.out
 have nn1 : ¬ w3.heap.size = w.heap.size + 1 := by have := HZ4.out; omega
 have nn2 : ¬ w.heap.size + 1 = w3.heap.size := by have := HZ4.out; omega
 go_upto_region 11 with fail
 generalize (w3.alloc (.cells #[.int .i64 4, .int .i64 0, .int .i64 0, .int .u64 0, .string emptyS, .slice da dn dc] TrT)) = w4 at *
 generalize w3.heap.size = dbk at *
 have HKP := Lib.hid (fun (V : World) (hb : Below w4.heap.size w4 V) => (show SKB w.heap.size dbk 3 lf lc ls lx da dn dc V from ⟨cellB (j := 0) (Hold.below hb _ _ HL4.out) rfl, cellB (j := 1) (Hold.below hb _ _ HL4.out) rfl, cellB (j := 2) (Hold.below hb _ _ HL4.out) rfl, cellB (j := 3) (Hold.below hb _ _ HL4.out) rfl, cellB (j := 4) (Hold.below hb _ _ HL4.out) rfl, cellB (j := 0) (Hold.below hb _ _ HD4.out) rfl, cellB (j := 1) (Hold.below hb _ _ HD4.out) rfl, cellB (j := 2) (Hold.below hb _ _ HD4.out) rfl, cellB (j := 3) (Hold.below hb _ _ HD4.out) rfl, cellB (j := 4) (Hold.below hb _ _ HD4.out) rfl, cellB (j := 5) (Hold.below hb _ _ HD4.out) rfl⟩))
 have HST := Lib.hid (fun (V : World) (v0 v1 v2 v3 v4 v5 : Value) (h : SKB w.heap.size dbk 3 lf lc ls lx da dn dc V) => (show SKB w.heap.size dbk 3 lf lc ls lx da dn dc (set6 V (w.heap.size + 1) v0 v1 v2 v3 v4 v5) from by
  obtain ⟨s0, s1, s2, s3, s4, s5, s6, s7, s8, s9, s10⟩ := h
  have hn := HZ4.out
  have q : ∀ (b o : Nat), b ≠ w.heap.size + 1 → (set6 V (w.heap.size + 1) v0 v1 v2 v3 v4 v5).cell? ⟨b, o, none⟩ = V.cell? ⟨b, o, none⟩ := fun b o h => cell_of_heap (set6_other h _ _ _ _ _ _) o
  have q1 := fun o => q w.heap.size o (by omega)
  have q2 := fun o => q dbk o (by omega)
  exact ⟨(q1 _).trans s0, (q1 _).trans s1, (q1 _).trans s2, (q1 _).trans s3, (q1 _).trans s4, (q2 _).trans s5, (q2 _).trans s6, (q2 _).trans s7, (q2 _).trans s8, (q2 _).trans s9, (q2 _).trans s10⟩))
 have HNU := Lib.hid (fun (W : World) (hb : Below w4.heap.size w4 W) => number_any lc w0 (fun b => E b ∧ b ≠ w.heap.size + 1) W)
 have HTO := Lib.hid (fun (W : World) (hb : Below w4.heap.size w4 W) (va : Option Addr) (vn vc : Nat) (k : IsK W (NewE w0 (fun b => E b ∧ b ≠ w.heap.size + 1) W) (.slice va vn vc) (numT lc).2) => (show Calls Tryz.prog 153 #[.agg #[.int .i64 3, .int .i64 lf, .int .u64 lc, .string ls, .bool lx], .agg #[.int .i64 2, .int .i64 0, .int .i64 0, .int .u64 lc, .string emptyS, .slice va vn vc]] W (TP w0 (fun b => E b ∧ b ≠ w.heap.size + 1) W (pairT (dataT (kdD 3)) (numT lc))) from told_any (K := 3) (x := numT lc) (HLK.out.below (bmore HB4.out hb)) (by omega) (Nat.le_trans HBB.out (Nat.le_trans HB4.out.size hb.size)) (fun b h => ⟨HEE.out b (Nat.le_trans HB4.out.size (Nat.le_trans hb.size h)), by have := HS4.out; have := HZW.out; have := hb.size; omega⟩) k))
 have HSG := Lib.hid (fun (W : World) (hb : Below w4.heap.size w4 W) (va : Option Addr) (vn vc : Nat) (k : IsK W (NewE w0 (fun b => E b ∧ b ≠ w.heap.size + 1) W) (.slice va vn vc) (pairT (dataT (kdD 3)) (numT lc)).2) => (show Calls Tryz.prog 152 #[.agg #[.int .i64 3, .int .i64 lf, .int .u64 lc, .string ls, .bool lx], .agg #[.int .i64 4, .int .i64 0, .int .i64 0, .int .u64 0, .string emptyS, .slice va vn vc]] W (TP w0 (fun b => E b ∧ b ≠ w.heap.size + 1) W (signT 0 (pairT (dataT abortS) (numT lc)))) from signed_any (K := 3) (x := pairT (dataT (kdD 3)) (numT lc)) (HLK.out.below (bmore HB4.out hb)) (by omega) (Nat.le_trans HBB.out (Nat.le_trans HB4.out.size hb.size)) (fun b h => ⟨HEE.out b (Nat.le_trans HB4.out.size (Nat.le_trans hb.size h)), by have := HS4.out; have := HZW.out; have := hb.size; omega⟩) k ⟨rfl, rfl⟩))
 have b0 := bd w4
 go_wp2_with fail
 refine lex_start [0, 1, 2, 3, 4, 5, 6, 7] (S := fun V => SKB w.heap.size dbk 3 lf lc ls lx da dn dc V) (by kernel_rfl) (HKP.out _ b0) (fun hS => ?_)
 clear hS
 simp only [inOrder, List.filterMap, List.getElem?_cons_succ, List.getElem?_cons_zero]
 refine lex_take (i := 0) (v := ?_) rfl (by kernel_rfl) (by kernel_rfl) (by kernel_rfl) (by rfl) (HKP.out _ b0) ?_ ?_
 rotate_left
 ·((intro W hW; obtain ⟨s0, s1, s2, s3, s4, s5, s6, s7, s8, s9, s10⟩ := hW; go_simp) <;> with_reducible rfl)
 simp only [Act.put, List.setIfInBounds_toArray, List.set_cons_zero, List.set_cons_succ]
 refine lex_take (i := 1) (v := ?_) rfl (by kernel_rfl) (by kernel_rfl) (by kernel_rfl) (by rfl) (HKP.out _ b0) ?_ ?_
 rotate_left
 ·((intro W hW; obtain ⟨s0, s1, s2, s3, s4, s5, s6, s7, s8, s9, s10⟩ := hW; go_simp) <;> with_reducible rfl)
 simp only [Act.put, List.setIfInBounds_toArray, List.set_cons_zero, List.set_cons_succ]
 refine lex_take (i := 2) (v := ?_) rfl (by kernel_rfl) (by kernel_rfl) (by kernel_rfl) (by rfl) (HKP.out _ b0) ?_ ?_
 rotate_left
 ·((intro W hW; obtain ⟨s0, s1, s2, s3, s4, s5, s6, s7, s8, s9, s10⟩ := hW; go_simp) <;> with_reducible rfl)
 simp only [Act.put, List.setIfInBounds_toArray, List.set_cons_zero, List.set_cons_succ]
 refine lex_take (i := 3) (v := ?_) rfl (by kernel_rfl) (by kernel_rfl) (by kernel_rfl) (by rfl) (HKP.out _ b0) ?_ ?_
 rotate_left
 ·((intro W hW; obtain ⟨s0, s1, s2, s3, s4, s5, s6, s7, s8, s9, s10⟩ := hW; go_simp) <;> with_reducible rfl)
 simp only [Act.put, List.setIfInBounds_toArray, List.set_cons_zero, List.set_cons_succ]
 refine lex_do (i := 4) rfl (by kernel_rfl) (by rfl) (fun KK hK => ?_)
 go_simp
 refine (HNU.out _ b0).mono ?_
 intro e w5 h5
 obtain ⟨a5, n5, c5, rfl, k5, u5⟩ := h5.out rfl
 have b5 := bmore b0 u5
 refine hK _ _ ⟨HKP.out _ b5, ?_⟩
 clear hK KK
 (try simp only [Act.put, List.setIfInBounds_toArray, List.set_cons_zero, List.set_cons_succ])
 refine lex_do (i := 5) rfl (by kernel_rfl) (by rfl) (fun KK hK => ?_)
 go_simp
 refine (HTO.out _ b5 _ _ _ k5).mono ?_
 intro e w6 h6
 obtain ⟨a6, n6, c6, rfl, k6, u6⟩ := h6.out rfl
 have b6 := bmore b5 u6
 refine hK _ _ ⟨HKP.out _ b6, ?_⟩
 clear hK KK
 (try simp only [Act.put, List.setIfInBounds_toArray, List.set_cons_zero, List.set_cons_succ])
 refine lex_do (i := 6) rfl (by kernel_rfl) (by rfl) (fun KK hK => ?_)
 go_simp
 refine (HSG.out _ b6 _ _ _ k6).mono ?_
 intro e w7 h7
 obtain ⟨a7, n7, c7, rfl, k7, u7⟩ := h7.out rfl
 have b7 := bmore b6 u7
 refine hK _ _ ⟨HKP.out _ b7, ?_⟩
 clear hK KK
 (try simp only [Act.put, List.setIfInBounds_toArray, List.set_cons_zero, List.set_cons_succ])
 have HBq := Lib.hid (bmore HB4.out b7)
 have HRq := Lib.hid (Hold.below b7 _ _ HR4.out)
 have HKq := Lib.hid k7
 have HSq := Lib.hid (HKP.out _ b7)
 clear z0 z1 z2 z3 z4 z5 zf0 zf1 zf2 zf3 zf4 zf5
 obtain ⟨z0, z1, z2, z3, z4, z5⟩ := cs6 HRq.out rfl rfl rfl rfl rfl rfl
 obtain ⟨zf0, zf1, zf2, zf3, zf4, zf5⟩ := fz6 HRq.out
 refine lex_do (i := 7) rfl (by kernel_rfl) (by rfl) (fun KK hK => ?_)
 go_simp
 refine hK _ _ ⟨HST.out _ _ _ _ _ _ _ HSq.out, ?_⟩
 clear hK KK
 refine lex_done (by kernel_rfl) ?_
 go_wp2_with fail
 have hs6 := set6_at HRq.out (.int .i64 7) (.int .i64 0) (.int .i64 0) (.int .u64 0) (.string emptyS) (.slice a7 n7 c7)
 have hw6 := set6_below (b := (w.heap.size + 1)) HBq.out (Nat.le_succ _) (.int .i64 7) (.int .i64 0) (.int .i64 0) (.int .u64 0) (.string emptyS) (.slice a7 n7 c7)
 have ho6 := fun (b' : Nat) (hne : b' ≠ (w.heap.size + 1)) => set6_other (w := w7) hne (.int .i64 7) (.int .i64 0) (.int .i64 0) (.int .u64 0) (.string emptyS) (.slice a7 n7 c7)
 rw [show set6 w7 (w.heap.size + 1) (.int .i64 7) (.int .i64 0) (.int .i64 0) (.int .u64 0) (.string emptyS) (.slice a7 n7 c7) = (((((w7.setCell ⟨(w.heap.size + 1), 0, none⟩ (.int .i64 7)).setCell ⟨(w.heap.size + 1), 1, none⟩ (.int .i64 0)).setCell ⟨(w.heap.size + 1), 2, none⟩ (.int .i64 0)).setCell ⟨(w.heap.size + 1), 3, none⟩ (.int .u64 0)).setCell ⟨(w.heap.size + 1), 4, none⟩ (.string emptyS)).setCell ⟨(w.heap.size + 1), 5, none⟩ (.slice a7 n7 c7) from rfl] at hs6 hw6 ho6
 have HW6 := Lib.hid hw6
 clear hw6
 generalize ((((((w7.setCell ⟨(w.heap.size + 1), 0, none⟩ (.int .i64 7)).setCell ⟨(w.heap.size + 1), 1, none⟩ (.int .i64 0)).setCell ⟨(w.heap.size + 1), 2, none⟩ (.int .i64 0)).setCell ⟨(w.heap.size + 1), 3, none⟩ (.int .u64 0)).setCell ⟨(w.heap.size + 1), 4, none⟩ (.string emptyS)).setCell ⟨(w.heap.size + 1), 5, none⟩ (.slice a7 n7 c7)) = w99 at *
 obtain ⟨q0, q1, q2, q3, q4, q5⟩ := cs6 hs6 rfl rfl rfl rfl rfl rfl
 refine bodyPost_ret (v := .agg #[.int .i64 7, .int .i64 0, .int .i64 0, .int .u64 0, .string emptyS, .slice a7 n7 c7]) (by simp [results, Tryz.results114, go_sem, q0, q1, q2, q3, q4, q5]) rfl ?_
 have hkf := HKq.out.keep (G' := NewE w0 E w99) (fun b hg hl => by
  have he := ho6 b hg.2.2
  refine ⟨⟨⟨hg.1.1, ?_⟩, hg.2.1⟩, he⟩
  obtain ⟨cs, hc⟩ := hg.1.2
  exact ⟨cs, by rw [he]; exact hc⟩)
 have htr := HTR.out.trans rfl
 rw [htr]
 exact ⟨_, rfl, hkf, HW6.out⟩
set_option maxRecDepth 100000 in
set_option maxHeartbeats 6400000 in
theorem tree_5 {w : World} (hl : LaidK w) {lf lc : Int} {ls : ByteArray} {lx : Bool} {w0 : World} {E : Nat → Prop} (hB : w0.heap.size ≤ w.heap.size) (hE : ∀ b, w.heap.size ≤ b → E b) (hf : lf = 0 ∨ lf = 1) : Calls Tryz.prog 114 #[.agg #[.int .i64 5, .int .i64 lf, .int .u64 lc, .string ls, .bool lx]] w (TP w0 E w (letT ⟨5, lf, lc, ls, lx⟩ true true)) := by
 obtain ⟨tr, htr⟩ : ∃ tr, tr = letT ⟨5, lf, lc, ls, lx⟩ true true := ⟨_, rfl⟩
 rw [← htr]
 have HTR := Lib.hid htr
 have HBB := Lib.hid hB
 have HEE := Lib.hid hE
 have HLK := Lib.hid hl
 have HF := Lib.hid hf
 clear htr hB hE hl hf
 have b1 := bZ w (.cells #[.int .i64 5, .int .i64 lf, .int .u64 lc, .string ls, .bool lx] LtT)
 have h1 := heap_alloc_new w (.cells #[.int .i64 5, .int .i64 lf, .int .u64 lc, .string ls, .bool lx] LtT)
 have b2 := bZ (w.alloc (.cells #[.int .i64 5, .int .i64 lf, .int .u64 lc, .string ls, .bool lx] LtT)) (.cells #[.int .i64 0, .int .i64 0, .int .i64 0, .int .u64 0, .string ⟨#[]⟩, .slice none 0 0] TrT)
 have h2 := heap_alloc_new (w.alloc (.cells #[.int .i64 5, .int .i64 lf, .int .u64 lc, .string ls, .bool lx] LtT)) (.cells #[.int .i64 0, .int .i64 0, .int .i64 0, .int .u64 0, .string ⟨#[]⟩, .slice none 0 0] TrT)
 have e1 := Hold.below b2 _ _ h1
 simp only [World.size_alloc] at h2
 have HB2 := Lib.hid (bmore b1 b2)
 have HL2 := Lib.hid e1
 have HR2 := Lib.hid h2
 clear b1 h1 b2 h2 e1
 obtain ⟨l0, l1, l2, l3, l4⟩ := cs5 HL2.out rfl rfl rfl rfl rfl
 go_enter Tryz.func114, Tryz.ntmps114
 go_wp2_with fail
 generalize ((w.alloc (.cells #[.int .i64 5, .int .i64 lf, .int .u64 lc, .string ls, .bool lx] LtT)).alloc (.cells #[.int .i64 0, .int .i64 0, .int .i64 0, .int .u64 0, .string ⟨#[]⟩, .slice none 0 0] TrT)) = w2 at *
 have HZW := Lib.hid (show w.heap.size + 2 ≤ w2.heap.size from by have := (Array.getElem?_eq_some_iff.1 HR2.out).1; omega)
 refine (deal_any lc ls w2 (w0 := w0) (E := (fun b => E b ∧ b ≠ w.heap.size + 1)) (Nat.le_trans HBB.out HB2.out.size) (fun b h => ⟨HEE.out b (Nat.le_trans HB2.out.size h), by have := HZW.out; omega⟩)).mono ?_
 intro e w3 h3
 obtain ⟨da, dn, dc, rfl, k3, u3⟩ := h3.out rfl
 have b4 := bmore u3 (bZ w3 (.cells #[.int .i64 4, .int .i64 0, .int .i64 0, .int .u64 0, .string emptyS, .slice da dn dc] TrT))
 have h4 := heap_alloc_new w3 (.cells #[.int .i64 4, .int .i64 0, .int .i64 0, .int .u64 0, .string emptyS, .slice da dn dc] TrT)
 have HB4 := Lib.hid (bmore HB2.out b4)
 have HL4 := Lib.hid (Hold.below b4 _ _ HL2.out)
 have HR4 := Lib.hid (Hold.below b4 _ _ HR2.out)
 have HD4 := Lib.hid h4
 have HK4 := Lib.hid (k3.newE (bZ w3 (.cells #[.int .i64 4, .int .i64 0, .int .i64 0, .int .u64 0, .string emptyS, .slice da dn dc] TrT)))
 have HZ4 := Lib.hid (show w.heap.size + 2 ≤ w3.heap.size from Nat.le_trans HZW.out u3.size)
 have HS4 := Lib.hid (show w2.heap.size ≤ (w3.alloc (.cells #[.int .i64 4, .int .i64 0, .int .i64 0, .int .u64 0, .string emptyS, .slice da dn dc] TrT)).heap.size from b4.size)
 clear h3 k3 u3 b4 h4 HL2 HR2 l0 l1 l2 l3 l4
 obtain ⟨l0, l1, l2, l3, l4⟩ := cs5 HL4.out rfl rfl rfl rfl rfl
 obtain ⟨d0, d1, d2, d3, d4, d5⟩ := cs6 HD4.out rfl rfl rfl rfl rfl rfl
 obtain ⟨z0, z1, z2, z3, z4, z5⟩ := cs6 HR4.out rfl rfl rfl rfl rfl rfl
 obtain ⟨zf0, zf1, zf2, zf3, zf4, zf5⟩ := fz6 HR4.out
 have nn1 : ¬ w3.heap.size = w.heap.size + 1 := by have := HZ4.out; omega
 have nn2 : ¬ w.heap.size + 1 = w3.heap.size := by have := HZ4.out; omega
 go_upto_region 11 with fail
 generalize (w3.alloc (.cells #[.int .i64 4, .int .i64 0, .int .i64 0, .int .u64 0, .string emptyS, .slice da dn dc] TrT)) = w4 at *
 generalize w3.heap.size = dbk at *
 have HKP := Lib.hid (fun (V : World) (hb : Below w4.heap.size w4 V) => (show SKB w.heap.size dbk 5 lf lc ls lx da dn dc V from ⟨cellB (j := 0) (Hold.below hb _ _ HL4.out) rfl, cellB (j := 1) (Hold.below hb _ _ HL4.out) rfl, cellB (j := 2) (Hold.below hb _ _ HL4.out) rfl, cellB (j := 3) (Hold.below hb _ _ HL4.out) rfl, cellB (j := 4) (Hold.below hb _ _ HL4.out) rfl, cellB (j := 0) (Hold.below hb _ _ HD4.out) rfl, cellB (j := 1) (Hold.below hb _ _ HD4.out) rfl, cellB (j := 2) (Hold.below hb _ _ HD4.out) rfl, cellB (j := 3) (Hold.below hb _ _ HD4.out) rfl, cellB (j := 4) (Hold.below hb _ _ HD4.out) rfl, cellB (j := 5) (Hold.below hb _ _ HD4.out) rfl⟩))
 have HST := Lib.hid (fun (V : World) (v0 v1 v2 v3 v4 v5 : Value) (h : SKB w.heap.size dbk 5 lf lc ls lx da dn dc V) => (show SKB w.heap.size dbk 5 lf lc ls lx da dn dc (set6 V (w.heap.size + 1) v0 v1 v2 v3 v4 v5) from by
  obtain ⟨s0, s1, s2, s3, s4, s5, s6, s7, s8, s9, s10⟩ := h
  have hn := HZ4.out
  have q : ∀ (b o : Nat), b ≠ w.heap.size + 1 → (set6 V (w.heap.size + 1) v0 v1 v2 v3 v4 v5).cell? ⟨b, o, none⟩ = V.cell? ⟨b, o, none⟩ := fun b o h => cell_of_heap (set6_other h _ _ _ _ _ _) o
  have q1 := fun o => q w.heap.size o (by omega)
  have q2 := fun o => q dbk o (by omega)
  exact ⟨(q1 _).trans s0, (q1 _).trans s1, (q1 _).trans s2, (q1 _).trans s3, (q1 _).trans s4, (q2 _).trans s5, (q2 _).trans s6, (q2 _).trans s7, (q2 _).trans s8, (q2 _).trans s9, (q2 _).trans s10⟩))
 have HNU := Lib.hid (fun (W : World) (hb : Below w4.heap.size w4 W) => number_any lc w0 (fun b => E b ∧ b ≠ w.heap.size + 1) W)
 have HTO := Lib.hid (fun (W : World) (hb : Below w4.heap.size w4 W) (va : Option Addr) (vn vc : Nat) (k : IsK W (NewE w0 (fun b => E b ∧ b ≠ w.heap.size + 1) W) (.slice va vn vc) (numT lc).2) => (show Calls Tryz.prog 153 #[.agg #[.int .i64 5, .int .i64 lf, .int .u64 lc, .string ls, .bool lx], .agg #[.int .i64 2, .int .i64 0, .int .i64 0, .int .u64 lc, .string emptyS, .slice va vn vc]] W (TP w0 (fun b => E b ∧ b ≠ w.heap.size + 1) W (pairT (dataT (kdD 5)) (numT lc))) from told_any (K := 5) (x := numT lc) (HLK.out.below (bmore HB4.out hb)) (by omega) (Nat.le_trans HBB.out (Nat.le_trans HB4.out.size hb.size)) (fun b h => ⟨HEE.out b (Nat.le_trans HB4.out.size (Nat.le_trans hb.size h)), by have := HS4.out; have := HZW.out; have := hb.size; omega⟩) k))
 have HSG := Lib.hid (fun (W : World) (hb : Below w4.heap.size w4 W) (va : Option Addr) (vn vc : Nat) (k : IsK W (NewE w0 (fun b => E b ∧ b ≠ w.heap.size + 1) W) (.slice va vn vc) (pairT (dataT (kdD 5)) (numT lc)).2) => (show Calls Tryz.prog 152 #[.agg #[.int .i64 5, .int .i64 lf, .int .u64 lc, .string ls, .bool lx], .agg #[.int .i64 4, .int .i64 0, .int .i64 0, .int .u64 0, .string emptyS, .slice va vn vc]] W (TP w0 (fun b => E b ∧ b ≠ w.heap.size + 1) W (signT 2 (pairT (dataT abortedS) (numT lc)))) from signed_any (K := 5) (x := pairT (dataT (kdD 5)) (numT lc)) (HLK.out.below (bmore HB4.out hb)) (by omega) (Nat.le_trans HBB.out (Nat.le_trans HB4.out.size hb.size)) (fun b h => ⟨HEE.out b (Nat.le_trans HB4.out.size (Nat.le_trans hb.size h)), by have := HS4.out; have := HZW.out; have := hb.size; omega⟩) k ⟨rfl, rfl⟩))
 have b0 := bd w4
 go_wp2_with fail
 refine lex_start [0, 1, 2, 3, 4, 5, 6, 7] (S := fun V => SKB w.heap.size dbk 5 lf lc ls lx da dn dc V) (by kernel_rfl) (HKP.out _ b0) (fun hS => ?_)
 clear hS
 simp only [inOrder, List.filterMap, List.getElem?_cons_succ, List.getElem?_cons_zero]
 refine lex_take (i := 0) (v := ?_) rfl (by kernel_rfl) (by kernel_rfl) (by kernel_rfl) (by rfl) (HKP.out _ b0) ?_ ?_
 rotate_left
 ·((intro W hW; obtain ⟨s0, s1, s2, s3, s4, s5, s6, s7, s8, s9, s10⟩ := hW; go_simp) <;> with_reducible rfl)
 simp only [Act.put, List.setIfInBounds_toArray, List.set_cons_zero, List.set_cons_succ]
 refine lex_take (i := 1) (v := ?_) rfl (by kernel_rfl) (by kernel_rfl) (by kernel_rfl) (by rfl) (HKP.out _ b0) ?_ ?_
 rotate_left
 ·((intro W hW; obtain ⟨s0, s1, s2, s3, s4, s5, s6, s7, s8, s9, s10⟩ := hW; go_simp) <;> with_reducible rfl)
 simp only [Act.put, List.setIfInBounds_toArray, List.set_cons_zero, List.set_cons_succ]
 refine lex_take (i := 2) (v := ?_) rfl (by kernel_rfl) (by kernel_rfl) (by kernel_rfl) (by rfl) (HKP.out _ b0) ?_ ?_
 rotate_left
 ·((intro W hW; obtain ⟨s0, s1, s2, s3, s4, s5, s6, s7, s8, s9, s10⟩ := hW; go_simp) <;> with_reducible rfl)
 simp only [Act.put, List.setIfInBounds_toArray, List.set_cons_zero, List.set_cons_succ]
 refine lex_take (i := 3) (v := ?_) rfl (by kernel_rfl) (by kernel_rfl) (by kernel_rfl) (by rfl) (HKP.out _ b0) ?_ ?_
 rotate_left
 ·((intro W hW; obtain ⟨s0, s1, s2, s3, s4, s5, s6, s7, s8, s9, s10⟩ := hW; go_simp) <;> with_reducible rfl)
 simp only [Act.put, List.setIfInBounds_toArray, List.set_cons_zero, List.set_cons_succ]
 refine lex_do (i := 4) rfl (by kernel_rfl) (by rfl) (fun KK hK => ?_)
 go_simp
 refine (HNU.out _ b0).mono ?_
 intro e w5 h5
 obtain ⟨a5, n5, c5, rfl, k5, u5⟩ := h5.out rfl
 have b5 := bmore b0 u5
 refine hK _ _ ⟨HKP.out _ b5, ?_⟩
 clear hK KK
 (try simp only [Act.put, List.setIfInBounds_toArray, List.set_cons_zero, List.set_cons_succ])
 refine lex_do (i := 5) rfl (by kernel_rfl) (by rfl) (fun KK hK => ?_)
 go_simp
 refine (HTO.out _ b5 _ _ _ k5).mono ?_
 intro e w6 h6
 obtain ⟨a6, n6, c6, rfl, k6, u6⟩ := h6.out rfl
 have b6 := bmore b5 u6
 refine hK _ _ ⟨HKP.out _ b6, ?_⟩
 clear hK KK
 (try simp only [Act.put, List.setIfInBounds_toArray, List.set_cons_zero, List.set_cons_succ])
 refine lex_do (i := 6) rfl (by kernel_rfl) (by rfl) (fun KK hK => ?_)
 go_simp
 refine (HSG.out _ b6 _ _ _ k6).mono ?_
 intro e w7 h7
 obtain ⟨a7, n7, c7, rfl, k7, u7⟩ := h7.out rfl
 have b7 := bmore b6 u7
 refine hK _ _ ⟨HKP.out _ b7, ?_⟩
 clear hK KK
 (try simp only [Act.put, List.setIfInBounds_toArray, List.set_cons_zero, List.set_cons_succ])
 have HBq := Lib.hid (bmore HB4.out b7)
 have HRq := Lib.hid (Hold.below b7 _ _ HR4.out)
 have HKq := Lib.hid k7
 have HSq := Lib.hid (HKP.out _ b7)
 clear z0 z1 z2 z3 z4 z5 zf0 zf1 zf2 zf3 zf4 zf5
 obtain ⟨z0, z1, z2, z3, z4, z5⟩ := cs6 HRq.out rfl rfl rfl rfl rfl rfl
 obtain ⟨zf0, zf1, zf2, zf3, zf4, zf5⟩ := fz6 HRq.out
 refine lex_do (i := 7) rfl (by kernel_rfl) (by rfl) (fun KK hK => ?_)
 go_simp
 refine hK _ _ ⟨HST.out _ _ _ _ _ _ _ HSq.out, ?_⟩
 clear hK KK
 refine lex_done (by kernel_rfl) ?_
 go_wp2_with fail
 have hs6 := set6_at HRq.out (.int .i64 7) (.int .i64 2) (.int .i64 0) (.int .u64 0) (.string emptyS) (.slice a7 n7 c7)
 have hw6 := set6_below (b := (w.heap.size + 1)) HBq.out (Nat.le_succ _) (.int .i64 7) (.int .i64 2) (.int .i64 0) (.int .u64 0) (.string emptyS) (.slice a7 n7 c7)
 have ho6 := fun (b' : Nat) (hne : b' ≠ (w.heap.size + 1)) => set6_other (w := w7) hne (.int .i64 7) (.int .i64 2) (.int .i64 0) (.int .u64 0) (.string emptyS) (.slice a7 n7 c7)
 rw [show set6 w7 (w.heap.size + 1) (.int .i64 7) (.int .i64 2) (.int .i64 0) (.int .u64 0) (.string emptyS) (.slice a7 n7 c7) = (((((w7.setCell ⟨(w.heap.size + 1), 0, none⟩ (.int .i64 7)).setCell ⟨(w.heap.size + 1), 1, none⟩ (.int .i64 2)).setCell ⟨(w.heap.size + 1), 2, none⟩ (.int .i64 0)).setCell ⟨(w.heap.size + 1), 3, none⟩ (.int .u64 0)).setCell ⟨(w.heap.size + 1), 4, none⟩ (.string emptyS)).setCell ⟨(w.heap.size + 1), 5, none⟩ (.slice a7 n7 c7) from rfl] at hs6 hw6 ho6
 have HW6 := Lib.hid hw6
 clear hw6
 generalize ((((((w7.setCell ⟨(w.heap.size + 1), 0, none⟩ (.int .i64 7)).setCell ⟨(w.heap.size + 1), 1, none⟩ (.int .i64 2)).setCell ⟨(w.heap.size + 1), 2, none⟩ (.int .i64 0)).setCell ⟨(w.heap.size + 1), 3, none⟩ (.int .u64 0)).setCell ⟨(w.heap.size + 1), 4, none⟩ (.string emptyS)).setCell ⟨(w.heap.size + 1), 5, none⟩ (.slice a7 n7 c7)) = w99 at *
 obtain ⟨q0, q1, q2, q3, q4, q5⟩ := cs6 hs6 rfl rfl rfl rfl rfl rfl
 refine bodyPost_ret (v := .agg #[.int .i64 7, .int .i64 2, .int .i64 0, .int .u64 0, .string emptyS, .slice a7 n7 c7]) (by simp [results, Tryz.results114, go_sem, q0, q1, q2, q3, q4, q5]) rfl ?_
 have hkf := HKq.out.keep (G' := NewE w0 E w99) (fun b hg hl => by
  have he := ho6 b hg.2.2
  refine ⟨⟨⟨hg.1.1, ?_⟩, hg.2.1⟩, he⟩
  obtain ⟨cs, hc⟩ := hg.1.2
  exact ⟨cs, by rw [he]; exact hc⟩)
 have htr := HTR.out.trans rfl
 rw [htr]
 exact ⟨_, rfl, hkf, HW6.out⟩
set_option maxRecDepth 100000 in
set_option maxHeartbeats 6400000 in
theorem tree_7 {w : World} (hl : LaidK w) {lf lc : Int} {ls : ByteArray} {lx : Bool} {w0 : World} {E : Nat → Prop} (hB : w0.heap.size ≤ w.heap.size) (hE : ∀ b, w.heap.size ≤ b → E b) (hf : lf = 0 ∨ lf = 1) : Calls Tryz.prog 114 #[.agg #[.int .i64 7, .int .i64 lf, .int .u64 lc, .string ls, .bool lx]] w (TP w0 E w (letT ⟨7, lf, lc, ls, lx⟩ true true)) := by
 obtain ⟨tr, htr⟩ : ∃ tr, tr = letT ⟨7, lf, lc, ls, lx⟩ true true := ⟨_, rfl⟩
 rw [← htr]
 have HTR := Lib.hid htr
 have HBB := Lib.hid hB
 have HEE := Lib.hid hE
 have HLK := Lib.hid hl
 have HF := Lib.hid hf
 clear htr hB hE hl hf
 have b1 := bZ w (.cells #[.int .i64 7, .int .i64 lf, .int .u64 lc, .string ls, .bool lx] LtT)
 have h1 := heap_alloc_new w (.cells #[.int .i64 7, .int .i64 lf, .int .u64 lc, .string ls, .bool lx] LtT)
 have b2 := bZ (w.alloc (.cells #[.int .i64 7, .int .i64 lf, .int .u64 lc, .string ls, .bool lx] LtT)) (.cells #[.int .i64 0, .int .i64 0, .int .i64 0, .int .u64 0, .string ⟨#[]⟩, .slice none 0 0] TrT)
 have h2 := heap_alloc_new (w.alloc (.cells #[.int .i64 7, .int .i64 lf, .int .u64 lc, .string ls, .bool lx] LtT)) (.cells #[.int .i64 0, .int .i64 0, .int .i64 0, .int .u64 0, .string ⟨#[]⟩, .slice none 0 0] TrT)
 have e1 := Hold.below b2 _ _ h1
 simp only [World.size_alloc] at h2
 have HB2 := Lib.hid (bmore b1 b2)
 have HL2 := Lib.hid e1
 have HR2 := Lib.hid h2
 clear b1 h1 b2 h2 e1
 obtain ⟨l0, l1, l2, l3, l4⟩ := cs5 HL2.out rfl rfl rfl rfl rfl
 go_enter Tryz.func114, Tryz.ntmps114
 go_wp2_with fail
 generalize ((w.alloc (.cells #[.int .i64 7, .int .i64 lf, .int .u64 lc, .string ls, .bool lx] LtT)).alloc (.cells #[.int .i64 0, .int .i64 0, .int .i64 0, .int .u64 0, .string ⟨#[]⟩, .slice none 0 0] TrT)) = w2 at *
 have HZW := Lib.hid (show w.heap.size + 2 ≤ w2.heap.size from by have := (Array.getElem?_eq_some_iff.1 HR2.out).1; omega)
 refine (deal_any lc ls w2 (w0 := w0) (E := (fun b => E b ∧ b ≠ w.heap.size + 1)) (Nat.le_trans HBB.out HB2.out.size) (fun b h => ⟨HEE.out b (Nat.le_trans HB2.out.size h), by have := HZW.out; omega⟩)).mono ?_
 intro e w3 h3
 obtain ⟨da, dn, dc, rfl, k3, u3⟩ := h3.out rfl
 have b4 := bmore u3 (bZ w3 (.cells #[.int .i64 4, .int .i64 0, .int .i64 0, .int .u64 0, .string emptyS, .slice da dn dc] TrT))
 have h4 := heap_alloc_new w3 (.cells #[.int .i64 4, .int .i64 0, .int .i64 0, .int .u64 0, .string emptyS, .slice da dn dc] TrT)
 have HB4 := Lib.hid (bmore HB2.out b4)
 have HL4 := Lib.hid (Hold.below b4 _ _ HL2.out)
 have HR4 := Lib.hid (Hold.below b4 _ _ HR2.out)
 have HD4 := Lib.hid h4
 have HK4 := Lib.hid (k3.newE (bZ w3 (.cells #[.int .i64 4, .int .i64 0, .int .i64 0, .int .u64 0, .string emptyS, .slice da dn dc] TrT)))
 have HZ4 := Lib.hid (show w.heap.size + 2 ≤ w3.heap.size from Nat.le_trans HZW.out u3.size)
 have HS4 := Lib.hid (show w2.heap.size ≤ (w3.alloc (.cells #[.int .i64 4, .int .i64 0, .int .i64 0, .int .u64 0, .string emptyS, .slice da dn dc] TrT)).heap.size from b4.size)
 clear h3 k3 u3 b4 h4 HL2 HR2 l0 l1 l2 l3 l4
 obtain ⟨l0, l1, l2, l3, l4⟩ := cs5 HL4.out rfl rfl rfl rfl rfl
 obtain ⟨d0, d1, d2, d3, d4, d5⟩ := cs6 HD4.out rfl rfl rfl rfl rfl rfl
 obtain ⟨z0, z1, z2, z3, z4, z5⟩ := cs6 HR4.out rfl rfl rfl rfl rfl rfl
 obtain ⟨zf0, zf1, zf2, zf3, zf4, zf5⟩ := fz6 HR4.out
 have nn1 : ¬ w3.heap.size = w.heap.size + 1 := by have := HZ4.out; omega
 have nn2 : ¬ w.heap.size + 1 = w3.heap.size := by have := HZ4.out; omega
 go_upto_region 11 with fail
 generalize (w3.alloc (.cells #[.int .i64 4, .int .i64 0, .int .i64 0, .int .u64 0, .string emptyS, .slice da dn dc] TrT)) = w4 at *
 generalize w3.heap.size = dbk at *
 have HKP := Lib.hid (fun (V : World) (hb : Below w4.heap.size w4 V) => (show SKB w.heap.size dbk 7 lf lc ls lx da dn dc V from ⟨cellB (j := 0) (Hold.below hb _ _ HL4.out) rfl, cellB (j := 1) (Hold.below hb _ _ HL4.out) rfl, cellB (j := 2) (Hold.below hb _ _ HL4.out) rfl, cellB (j := 3) (Hold.below hb _ _ HL4.out) rfl, cellB (j := 4) (Hold.below hb _ _ HL4.out) rfl, cellB (j := 0) (Hold.below hb _ _ HD4.out) rfl, cellB (j := 1) (Hold.below hb _ _ HD4.out) rfl, cellB (j := 2) (Hold.below hb _ _ HD4.out) rfl, cellB (j := 3) (Hold.below hb _ _ HD4.out) rfl, cellB (j := 4) (Hold.below hb _ _ HD4.out) rfl, cellB (j := 5) (Hold.below hb _ _ HD4.out) rfl⟩))
 have HST := Lib.hid (fun (V : World) (v0 v1 v2 v3 v4 v5 : Value) (h : SKB w.heap.size dbk 7 lf lc ls lx da dn dc V) => (show SKB w.heap.size dbk 7 lf lc ls lx da dn dc (set6 V (w.heap.size + 1) v0 v1 v2 v3 v4 v5) from by
  obtain ⟨s0, s1, s2, s3, s4, s5, s6, s7, s8, s9, s10⟩ := h
  have hn := HZ4.out
  have q : ∀ (b o : Nat), b ≠ w.heap.size + 1 → (set6 V (w.heap.size + 1) v0 v1 v2 v3 v4 v5).cell? ⟨b, o, none⟩ = V.cell? ⟨b, o, none⟩ := fun b o h => cell_of_heap (set6_other h _ _ _ _ _ _) o
  have q1 := fun o => q w.heap.size o (by omega)
  have q2 := fun o => q dbk o (by omega)
  exact ⟨(q1 _).trans s0, (q1 _).trans s1, (q1 _).trans s2, (q1 _).trans s3, (q1 _).trans s4, (q2 _).trans s5, (q2 _).trans s6, (q2 _).trans s7, (q2 _).trans s8, (q2 _).trans s9, (q2 _).trans s10⟩))
 have HNU := Lib.hid (fun (W : World) (hb : Below w4.heap.size w4 W) => number_any lc w0 (fun b => E b ∧ b ≠ w.heap.size + 1) W)
 have HTO := Lib.hid (fun (W : World) (hb : Below w4.heap.size w4 W) (va : Option Addr) (vn vc : Nat) (k : IsK W (NewE w0 (fun b => E b ∧ b ≠ w.heap.size + 1) W) (.slice va vn vc) (numT lc).2) => (show Calls Tryz.prog 153 #[.agg #[.int .i64 7, .int .i64 lf, .int .u64 lc, .string ls, .bool lx], .agg #[.int .i64 2, .int .i64 0, .int .i64 0, .int .u64 lc, .string emptyS, .slice va vn vc]] W (TP w0 (fun b => E b ∧ b ≠ w.heap.size + 1) W (pairT (dataT (kdD 7)) (numT lc))) from told_any (K := 7) (x := numT lc) (HLK.out.below (bmore HB4.out hb)) (by omega) (Nat.le_trans HBB.out (Nat.le_trans HB4.out.size hb.size)) (fun b h => ⟨HEE.out b (Nat.le_trans HB4.out.size (Nat.le_trans hb.size h)), by have := HS4.out; have := HZW.out; have := hb.size; omega⟩) k))
 have HSG := Lib.hid (fun (W : World) (hb : Below w4.heap.size w4 W) (va : Option Addr) (vn vc : Nat) (k : IsK W (NewE w0 (fun b => E b ∧ b ≠ w.heap.size + 1) W) (.slice va vn vc) (pairT (dataT (kdD 7)) (numT lc)).2) => (show Calls Tryz.prog 152 #[.agg #[.int .i64 7, .int .i64 lf, .int .u64 lc, .string ls, .bool lx], .agg #[.int .i64 4, .int .i64 0, .int .i64 0, .int .u64 0, .string emptyS, .slice va vn vc]] W (TP w0 (fun b => E b ∧ b ≠ w.heap.size + 1) W (pairT (dataT fullS) (numT lc))) from signed_any (K := 7) (x := pairT (dataT (kdD 7)) (numT lc)) (HLK.out.below (bmore HB4.out hb)) (by omega) (Nat.le_trans HBB.out (Nat.le_trans HB4.out.size hb.size)) (fun b h => ⟨HEE.out b (Nat.le_trans HB4.out.size (Nat.le_trans hb.size h)), by have := HS4.out; have := HZW.out; have := hb.size; omega⟩) k ⟨rfl, rfl⟩))
 have b0 := bd w4
 go_wp2_with fail
 refine lex_start [0, 1, 2, 3, 4, 5, 6, 7] (S := fun V => SKB w.heap.size dbk 7 lf lc ls lx da dn dc V) (by kernel_rfl) (HKP.out _ b0) (fun hS => ?_)
 clear hS
 simp only [inOrder, List.filterMap, List.getElem?_cons_succ, List.getElem?_cons_zero]
 refine lex_take (i := 0) (v := ?_) rfl (by kernel_rfl) (by kernel_rfl) (by kernel_rfl) (by rfl) (HKP.out _ b0) ?_ ?_
 rotate_left
 ·((intro W hW; obtain ⟨s0, s1, s2, s3, s4, s5, s6, s7, s8, s9, s10⟩ := hW; go_simp) <;> with_reducible rfl)
 simp only [Act.put, List.setIfInBounds_toArray, List.set_cons_zero, List.set_cons_succ]
 refine lex_take (i := 1) (v := ?_) rfl (by kernel_rfl) (by kernel_rfl) (by kernel_rfl) (by rfl) (HKP.out _ b0) ?_ ?_
 rotate_left
 ·((intro W hW; obtain ⟨s0, s1, s2, s3, s4, s5, s6, s7, s8, s9, s10⟩ := hW; go_simp) <;> with_reducible rfl)
 simp only [Act.put, List.setIfInBounds_toArray, List.set_cons_zero, List.set_cons_succ]
 refine lex_take (i := 2) (v := ?_) rfl (by kernel_rfl) (by kernel_rfl) (by kernel_rfl) (by rfl) (HKP.out _ b0) ?_ ?_
 rotate_left
 ·((intro W hW; obtain ⟨s0, s1, s2, s3, s4, s5, s6, s7, s8, s9, s10⟩ := hW; go_simp) <;> with_reducible rfl)
 simp only [Act.put, List.setIfInBounds_toArray, List.set_cons_zero, List.set_cons_succ]
 refine lex_take (i := 3) (v := ?_) rfl (by kernel_rfl) (by kernel_rfl) (by kernel_rfl) (by rfl) (HKP.out _ b0) ?_ ?_
 rotate_left
 ·((intro W hW; obtain ⟨s0, s1, s2, s3, s4, s5, s6, s7, s8, s9, s10⟩ := hW; go_simp) <;> with_reducible rfl)
 simp only [Act.put, List.setIfInBounds_toArray, List.set_cons_zero, List.set_cons_succ]
 refine lex_do (i := 4) rfl (by kernel_rfl) (by rfl) (fun KK hK => ?_)
 go_simp
 refine (HNU.out _ b0).mono ?_
 intro e w5 h5
 obtain ⟨a5, n5, c5, rfl, k5, u5⟩ := h5.out rfl
 have b5 := bmore b0 u5
 refine hK _ _ ⟨HKP.out _ b5, ?_⟩
 clear hK KK
 (try simp only [Act.put, List.setIfInBounds_toArray, List.set_cons_zero, List.set_cons_succ])
 refine lex_do (i := 5) rfl (by kernel_rfl) (by rfl) (fun KK hK => ?_)
 go_simp
 refine (HTO.out _ b5 _ _ _ k5).mono ?_
 intro e w6 h6
 obtain ⟨a6, n6, c6, rfl, k6, u6⟩ := h6.out rfl
 have b6 := bmore b5 u6
 refine hK _ _ ⟨HKP.out _ b6, ?_⟩
 clear hK KK
 (try simp only [Act.put, List.setIfInBounds_toArray, List.set_cons_zero, List.set_cons_succ])
 refine lex_do (i := 6) rfl (by kernel_rfl) (by rfl) (fun KK hK => ?_)
 go_simp
 refine (HSG.out _ b6 _ _ _ k6).mono ?_
 intro e w7 h7
 obtain ⟨a7, n7, c7, rfl, k7, u7⟩ := h7.out rfl
 have b7 := bmore b6 u7
 refine hK _ _ ⟨HKP.out _ b7, ?_⟩
 clear hK KK
 (try simp only [Act.put, List.setIfInBounds_toArray, List.set_cons_zero, List.set_cons_succ])
 have HBq := Lib.hid (bmore HB4.out b7)
 have HRq := Lib.hid (Hold.below b7 _ _ HR4.out)
 have HKq := Lib.hid k7
 have HSq := Lib.hid (HKP.out _ b7)
 clear z0 z1 z2 z3 z4 z5 zf0 zf1 zf2 zf3 zf4 zf5
 obtain ⟨z0, z1, z2, z3, z4, z5⟩ := cs6 HRq.out rfl rfl rfl rfl rfl rfl
 obtain ⟨zf0, zf1, zf2, zf3, zf4, zf5⟩ := fz6 HRq.out
 refine lex_do (i := 7) rfl (by kernel_rfl) (by rfl) (fun KK hK => ?_)
 go_simp
 refine hK _ _ ⟨HST.out _ _ _ _ _ _ _ HSq.out, ?_⟩
 clear hK KK
 refine lex_done (by kernel_rfl) ?_
 go_wp2_with fail
 have hs6 := set6_at HRq.out (.int .i64 4) (.int .i64 0) (.int .i64 0) (.int .u64 0) (.string emptyS) (.slice a7 n7 c7)
 have hw6 := set6_below (b := (w.heap.size + 1)) HBq.out (Nat.le_succ _) (.int .i64 4) (.int .i64 0) (.int .i64 0) (.int .u64 0) (.string emptyS) (.slice a7 n7 c7)
 have ho6 := fun (b' : Nat) (hne : b' ≠ (w.heap.size + 1)) => set6_other (w := w7) hne (.int .i64 4) (.int .i64 0) (.int .i64 0) (.int .u64 0) (.string emptyS) (.slice a7 n7 c7)
 rw [show set6 w7 (w.heap.size + 1) (.int .i64 4) (.int .i64 0) (.int .i64 0) (.int .u64 0) (.string emptyS) (.slice a7 n7 c7) = (((((w7.setCell ⟨(w.heap.size + 1), 0, none⟩ (.int .i64 4)).setCell ⟨(w.heap.size + 1), 1, none⟩ (.int .i64 0)).setCell ⟨(w.heap.size + 1), 2, none⟩ (.int .i64 0)).setCell ⟨(w.heap.size + 1), 3, none⟩ (.int .u64 0)).setCell ⟨(w.heap.size + 1), 4, none⟩ (.string emptyS)).setCell ⟨(w.heap.size + 1), 5, none⟩ (.slice a7 n7 c7) from rfl] at hs6 hw6 ho6
 have HW6 := Lib.hid hw6
 clear hw6
 generalize ((((((w7.setCell ⟨(w.heap.size + 1), 0, none⟩ (.int .i64 4)).setCell ⟨(w.heap.size + 1), 1, none⟩ (.int .i64 0)).setCell ⟨(w.heap.size + 1), 2, none⟩ (.int .i64 0)).setCell ⟨(w.heap.size + 1), 3, none⟩ (.int .u64 0)).setCell ⟨(w.heap.size + 1), 4, none⟩ (.string emptyS)).setCell ⟨(w.heap.size + 1), 5, none⟩ (.slice a7 n7 c7)) = w99 at *
 obtain ⟨q0, q1, q2, q3, q4, q5⟩ := cs6 hs6 rfl rfl rfl rfl rfl rfl
 refine bodyPost_ret (v := .agg #[.int .i64 4, .int .i64 0, .int .i64 0, .int .u64 0, .string emptyS, .slice a7 n7 c7]) (by simp [results, Tryz.results114, go_sem, q0, q1, q2, q3, q4, q5]) rfl ?_
 have hkf := HKq.out.keep (G' := NewE w0 E w99) (fun b hg hl => by
  have he := ho6 b hg.2.2
  refine ⟨⟨⟨hg.1.1, ?_⟩, hg.2.1⟩, he⟩
  obtain ⟨cs, hc⟩ := hg.1.2
  exact ⟨cs, by rw [he]; exact hc⟩)
 have htr := HTR.out.trans rfl
 rw [htr]
 exact ⟨_, rfl, hkf, HW6.out⟩
set_option maxRecDepth 100000 in
set_option maxHeartbeats 6400000 in
theorem tree_4 {w : World} (hl : LaidK w) {lf lc : Int} {ls : ByteArray} {lx : Bool} {w0 : World} {E : Nat → Prop} (hB : w0.heap.size ≤ w.heap.size) (hE : ∀ b, w.heap.size ≤ b → E b) (hf : lf = 0 ∨ lf = 1) : Calls Tryz.prog 114 #[.agg #[.int .i64 4, .int .i64 lf, .int .u64 lc, .string ls, .bool lx]] w (TP w0 E w (letT ⟨4, lf, lc, ls, lx⟩ true true)) := by
 obtain ⟨tr, htr⟩ : ∃ tr, tr = letT ⟨4, lf, lc, ls, lx⟩ true true := ⟨_, rfl⟩
 rw [← htr]
 have HTR := Lib.hid htr
 have HBB := Lib.hid hB
 have HEE := Lib.hid hE
 have HLK := Lib.hid hl
 have HF := Lib.hid hf
 clear htr hB hE hl hf
 have b1 := bZ w (.cells #[.int .i64 4, .int .i64 lf, .int .u64 lc, .string ls, .bool lx] LtT)
 have h1 := heap_alloc_new w (.cells #[.int .i64 4, .int .i64 lf, .int .u64 lc, .string ls, .bool lx] LtT)
 have b2 := bZ (w.alloc (.cells #[.int .i64 4, .int .i64 lf, .int .u64 lc, .string ls, .bool lx] LtT)) (.cells #[.int .i64 0, .int .i64 0, .int .i64 0, .int .u64 0, .string ⟨#[]⟩, .slice none 0 0] TrT)
 have h2 := heap_alloc_new (w.alloc (.cells #[.int .i64 4, .int .i64 lf, .int .u64 lc, .string ls, .bool lx] LtT)) (.cells #[.int .i64 0, .int .i64 0, .int .i64 0, .int .u64 0, .string ⟨#[]⟩, .slice none 0 0] TrT)
 have e1 := Hold.below b2 _ _ h1
 simp only [World.size_alloc] at h2
 have HB2 := Lib.hid (bmore b1 b2)
 have HL2 := Lib.hid e1
 have HR2 := Lib.hid h2
 clear b1 h1 b2 h2 e1
 obtain ⟨l0, l1, l2, l3, l4⟩ := cs5 HL2.out rfl rfl rfl rfl rfl
 go_enter Tryz.func114, Tryz.ntmps114
 go_wp2_with fail
 generalize ((w.alloc (.cells #[.int .i64 4, .int .i64 lf, .int .u64 lc, .string ls, .bool lx] LtT)).alloc (.cells #[.int .i64 0, .int .i64 0, .int .i64 0, .int .u64 0, .string ⟨#[]⟩, .slice none 0 0] TrT)) = w2 at *
 have HZW := Lib.hid (show w.heap.size + 2 ≤ w2.heap.size from by have := (Array.getElem?_eq_some_iff.1 HR2.out).1; omega)
 refine (deal_any lc ls w2 (w0 := w0) (E := (fun b => E b ∧ b ≠ w.heap.size + 1)) (Nat.le_trans HBB.out HB2.out.size) (fun b h => ⟨HEE.out b (Nat.le_trans HB2.out.size h), by have := HZW.out; omega⟩)).mono ?_
 intro e w3 h3
 obtain ⟨da, dn, dc, rfl, k3, u3⟩ := h3.out rfl
 have b4 := bmore u3 (bZ w3 (.cells #[.int .i64 4, .int .i64 0, .int .i64 0, .int .u64 0, .string emptyS, .slice da dn dc] TrT))
 have h4 := heap_alloc_new w3 (.cells #[.int .i64 4, .int .i64 0, .int .i64 0, .int .u64 0, .string emptyS, .slice da dn dc] TrT)
 have HB4 := Lib.hid (bmore HB2.out b4)
 have HL4 := Lib.hid (Hold.below b4 _ _ HL2.out)
 have HR4 := Lib.hid (Hold.below b4 _ _ HR2.out)
 have HD4 := Lib.hid h4
 have HK4 := Lib.hid (k3.newE (bZ w3 (.cells #[.int .i64 4, .int .i64 0, .int .i64 0, .int .u64 0, .string emptyS, .slice da dn dc] TrT)))
 have HZ4 := Lib.hid (show w.heap.size + 2 ≤ w3.heap.size from Nat.le_trans HZW.out u3.size)
 have HS4 := Lib.hid (show w2.heap.size ≤ (w3.alloc (.cells #[.int .i64 4, .int .i64 0, .int .i64 0, .int .u64 0, .string emptyS, .slice da dn dc] TrT)).heap.size from b4.size)
 clear h3 k3 u3 b4 h4 HL2 HR2 l0 l1 l2 l3 l4
 obtain ⟨l0, l1, l2, l3, l4⟩ := cs5 HL4.out rfl rfl rfl rfl rfl
 obtain ⟨d0, d1, d2, d3, d4, d5⟩ := cs6 HD4.out rfl rfl rfl rfl rfl rfl
 obtain ⟨z0, z1, z2, z3, z4, z5⟩ := cs6 HR4.out rfl rfl rfl rfl rfl rfl
 obtain ⟨zf0, zf1, zf2, zf3, zf4, zf5⟩ := fz6 HR4.out
 have nn1 : ¬ w3.heap.size = w.heap.size + 1 := by have := HZ4.out; omega
 have nn2 : ¬ w.heap.size + 1 = w3.heap.size := by have := HZ4.out; omega
 cases lx with
 | false =>
  go_upto_region 8 with fail
  generalize (w3.alloc (.cells #[.int .i64 4, .int .i64 0, .int .i64 0, .int .u64 0, .string emptyS, .slice da dn dc] TrT)) = w4 at *
  generalize w3.heap.size = dbk at *
  have HKP := Lib.hid (fun (V : World) (hb : Below w4.heap.size w4 V) => (show SKB w.heap.size dbk 4 lf lc ls false da dn dc V from ⟨cellB (j := 0) (Hold.below hb _ _ HL4.out) rfl, cellB (j := 1) (Hold.below hb _ _ HL4.out) rfl, cellB (j := 2) (Hold.below hb _ _ HL4.out) rfl, cellB (j := 3) (Hold.below hb _ _ HL4.out) rfl, cellB (j := 4) (Hold.below hb _ _ HL4.out) rfl, cellB (j := 0) (Hold.below hb _ _ HD4.out) rfl, cellB (j := 1) (Hold.below hb _ _ HD4.out) rfl, cellB (j := 2) (Hold.below hb _ _ HD4.out) rfl, cellB (j := 3) (Hold.below hb _ _ HD4.out) rfl, cellB (j := 4) (Hold.below hb _ _ HD4.out) rfl, cellB (j := 5) (Hold.below hb _ _ HD4.out) rfl⟩))
  have HST := Lib.hid (fun (V : World) (v0 v1 v2 v3 v4 v5 : Value) (h : SKB w.heap.size dbk 4 lf lc ls false da dn dc V) => (show SKB w.heap.size dbk 4 lf lc ls false da dn dc (set6 V (w.heap.size + 1) v0 v1 v2 v3 v4 v5) from by
   obtain ⟨s0, s1, s2, s3, s4, s5, s6, s7, s8, s9, s10⟩ := h
   have hn := HZ4.out
   have q : ∀ (b o : Nat), b ≠ w.heap.size + 1 → (set6 V (w.heap.size + 1) v0 v1 v2 v3 v4 v5).cell? ⟨b, o, none⟩ = V.cell? ⟨b, o, none⟩ := fun b o h => cell_of_heap (set6_other h _ _ _ _ _ _) o
   have q1 := fun o => q w.heap.size o (by omega)
   have q2 := fun o => q dbk o (by omega)
   exact ⟨(q1 _).trans s0, (q1 _).trans s1, (q1 _).trans s2, (q1 _).trans s3, (q1 _).trans s4, (q2 _).trans s5, (q2 _).trans s6, (q2 _).trans s7, (q2 _).trans s8, (q2 _).trans s9, (q2 _).trans s10⟩))
  have HP0 := Lib.hid (fun (W : World) (hb : Below w4.heap.size w4 W) => (show Calls Tryz.prog 151 #[.int .i64 0, .agg #[.int .i64 4, .int .i64 0, .int .i64 0, .int .u64 0, .string emptyS, .slice da dn dc], .bool false] W (TP w0 (fun b => E b ∧ b ≠ w.heap.size + 1) W (promT 0 (dealT lc ls) false)) from promise_any (x := dealT lc ls) (Nat.le_trans HBB.out (Nat.le_trans HB4.out.size hb.size)) (fun b h => ⟨HEE.out b (Nat.le_trans HB4.out.size (Nat.le_trans hb.size h)), by have := HS4.out; have := HZW.out; have := hb.size; omega⟩) (HK4.out.newE hb) (by omega) false))
  have HP1 := Lib.hid (fun (W : World) (hb : Below w4.heap.size w4 W) => (show Calls Tryz.prog 151 #[.int .i64 1, .agg #[.int .i64 4, .int .i64 0, .int .i64 0, .int .u64 0, .string emptyS, .slice da dn dc], .bool false] W (TP w0 (fun b => E b ∧ b ≠ w.heap.size + 1) W (promT 1 (dealT lc ls) false)) from promise_any (x := dealT lc ls) (Nat.le_trans HBB.out (Nat.le_trans HB4.out.size hb.size)) (fun b h => ⟨HEE.out b (Nat.le_trans HB4.out.size (Nat.le_trans hb.size h)), by have := HS4.out; have := HZW.out; have := hb.size; omega⟩) (HK4.out.newE hb) (by omega) false))
  have HPA := Lib.hid (fun (W : World) (hb : Below w4.heap.size w4 W) (va : Option Addr) (vn vc : Nat) (vb : Option Addr) (vm vd : Nat) (k : IsK W (NewE w0 (fun b => E b ∧ b ≠ w.heap.size + 1) W) (.slice va vn vc) (promT 0 (dealT lc ls) false).2) (k' : IsK W (NewE w0 (fun b => E b ∧ b ≠ w.heap.size + 1) W) (.slice vb vm vd) (promT 1 (dealT lc ls) false).2) => (show Calls Tryz.prog 154 #[.agg #[.int .i64 8, .int .i64 0, .int .i64 1, .int .u64 0, .string emptyS, .slice va vn vc], .agg #[.int .i64 8, .int .i64 1, .int .i64 0, .int .u64 0, .string emptyS, .slice vb vm vd]] W (TP w0 (fun b => E b ∧ b ≠ w.heap.size + 1) W (pairT (promT 0 (dealT lc ls) false) (promT 1 (dealT lc ls) false))) from pair_any (x := promT 0 (dealT lc ls) false) (y := promT 1 (dealT lc ls) false) (Nat.le_trans HBB.out (Nat.le_trans HB4.out.size hb.size)) (fun b h => ⟨HEE.out b (Nat.le_trans HB4.out.size (Nat.le_trans hb.size h)), by have := HS4.out; have := HZW.out; have := hb.size; omega⟩) k k'))
  have HTO := Lib.hid (fun (W : World) (hb : Below w4.heap.size w4 W) (va : Option Addr) (vn vc : Nat) (k : IsK W (NewE w0 (fun b => E b ∧ b ≠ w.heap.size + 1) W) (.slice va vn vc) (pairT (promT 0 (dealT lc ls) false) (promT 1 (dealT lc ls) false)).2) => (show Calls Tryz.prog 153 #[.agg #[.int .i64 4, .int .i64 lf, .int .u64 lc, .string ls, .bool false], .agg #[.int .i64 4, .int .i64 0, .int .i64 0, .int .u64 0, .string emptyS, .slice va vn vc]] W (TP w0 (fun b => E b ∧ b ≠ w.heap.size + 1) W (pairT (dataT (kdD 4)) (pairT (promT 0 (dealT lc ls) false) (promT 1 (dealT lc ls) false)))) from told_any (K := 4) (x := pairT (promT 0 (dealT lc ls) false) (promT 1 (dealT lc ls) false)) (HLK.out.below (bmore HB4.out hb)) (by omega) (Nat.le_trans HBB.out (Nat.le_trans HB4.out.size hb.size)) (fun b h => ⟨HEE.out b (Nat.le_trans HB4.out.size (Nat.le_trans hb.size h)), by have := HS4.out; have := HZW.out; have := hb.size; omega⟩) k))
  have HSG := Lib.hid (fun (W : World) (hb : Below w4.heap.size w4 W) (va : Option Addr) (vn vc : Nat) (k : IsK W (NewE w0 (fun b => E b ∧ b ≠ w.heap.size + 1) W) (.slice va vn vc) (pairT (dataT (kdD 4)) (pairT (promT 0 (dealT lc ls) false) (promT 1 (dealT lc ls) false))).2) => (show Calls Tryz.prog 152 #[.agg #[.int .i64 4, .int .i64 lf, .int .u64 lc, .string ls, .bool false], .agg #[.int .i64 4, .int .i64 0, .int .i64 0, .int .u64 0, .string emptyS, .slice va vn vc]] W (TP w0 (fun b => E b ∧ b ≠ w.heap.size + 1) W (signT lf (pairT (dataT resolveS) (pairT (promT 0 (dealT lc ls) false) (promT 1 (dealT lc ls) false))))) from signed_any (K := 4) (x := pairT (dataT (kdD 4)) (pairT (promT 0 (dealT lc ls) false) (promT 1 (dealT lc ls) false))) (HLK.out.below (bmore HB4.out hb)) (by omega) (Nat.le_trans HBB.out (Nat.le_trans HB4.out.size hb.size)) (fun b h => ⟨HEE.out b (Nat.le_trans HB4.out.size (Nat.le_trans hb.size h)), by have := HS4.out; have := HZW.out; have := hb.size; omega⟩) k ⟨rfl, rfl⟩))
  have b0 := bd w4
  go_wp2_with fail
  refine lex_start [0, 1, 2, 3, 4, 6, 7, 8, 5, 9, 10, 11, 12, 13] (S := fun V => SKB w.heap.size dbk 4 lf lc ls false da dn dc V) (by kernel_rfl) (HKP.out _ b0) (fun hS => ?_)
  clear hS
  simp only [inOrder, List.filterMap, List.getElem?_cons_succ, List.getElem?_cons_zero]
  refine lex_take (i := 0) (v := ?_) rfl (by kernel_rfl) (by kernel_rfl) (by kernel_rfl) (by rfl) (HKP.out _ b0) ?_ ?_
  rotate_left
  ·((intro W hW; obtain ⟨s0, s1, s2, s3, s4, s5, s6, s7, s8, s9, s10⟩ := hW; go_simp) <;> with_reducible rfl)
  simp only [Act.put, List.setIfInBounds_toArray, List.set_cons_zero, List.set_cons_succ]
  refine lex_take (i := 1) (v := ?_) rfl (by kernel_rfl) (by kernel_rfl) (by kernel_rfl) (by rfl) (HKP.out _ b0) ?_ ?_
  rotate_left
  ·((intro W hW; obtain ⟨s0, s1, s2, s3, s4, s5, s6, s7, s8, s9, s10⟩ := hW; go_simp) <;> with_reducible rfl)
  simp only [Act.put, List.setIfInBounds_toArray, List.set_cons_zero, List.set_cons_succ]
  refine lex_take (i := 2) (v := ?_) rfl (by kernel_rfl) (by kernel_rfl) (by kernel_rfl) (by rfl) (HKP.out _ b0) ?_ ?_
  rotate_left
  ·((intro W hW; obtain ⟨s0, s1, s2, s3, s4, s5, s6, s7, s8, s9, s10⟩ := hW; go_simp) <;> with_reducible rfl)
  simp only [Act.put, List.setIfInBounds_toArray, List.set_cons_zero, List.set_cons_succ]
  refine lex_take (i := 3) (v := ?_) rfl (by kernel_rfl) (by kernel_rfl) (by kernel_rfl) (by rfl) (HKP.out _ b0) ?_ ?_
  rotate_left
  ·((intro W hW; obtain ⟨s0, s1, s2, s3, s4, s5, s6, s7, s8, s9, s10⟩ := hW; go_simp) <;> with_reducible rfl)
  simp only [Act.put, List.setIfInBounds_toArray, List.set_cons_zero, List.set_cons_succ]
  refine lex_take (i := 4) (v := ?_) rfl (by kernel_rfl) (by kernel_rfl) (by kernel_rfl) (by rfl) (HKP.out _ b0) ?_ ?_
  rotate_left
  ·((intro W hW; obtain ⟨s0, s1, s2, s3, s4, s5, s6, s7, s8, s9, s10⟩ := hW; go_simp) <;> with_reducible rfl)
  simp only [Act.put, List.setIfInBounds_toArray, List.set_cons_zero, List.set_cons_succ]
  refine lex_take (i := 6) (v := ?_) rfl (by kernel_rfl) (by kernel_rfl) (by kernel_rfl) (by rfl) (HKP.out _ b0) ?_ ?_
  rotate_left
  ·((intro W hW; obtain ⟨s0, s1, s2, s3, s4, s5, s6, s7, s8, s9, s10⟩ := hW; go_simp) <;> with_reducible rfl)
  simp only [Act.put, List.setIfInBounds_toArray, List.set_cons_zero, List.set_cons_succ]
  refine lex_take (i := 7) (v := ?_) rfl (by kernel_rfl) (by kernel_rfl) (by kernel_rfl) (by rfl) (HKP.out _ b0) ?_ ?_
  rotate_left
  ·((intro W hW; obtain ⟨s0, s1, s2, s3, s4, s5, s6, s7, s8, s9, s10⟩ := hW; go_simp) <;> with_reducible rfl)
  simp only [Act.put, List.setIfInBounds_toArray, List.set_cons_zero, List.set_cons_succ]
  refine lex_take (i := 8) (v := ?_) rfl (by kernel_rfl) (by kernel_rfl) (by kernel_rfl) (by rfl) (HKP.out _ b0) ?_ ?_
  rotate_left
  ·((intro W hW; obtain ⟨s0, s1, s2, s3, s4, s5, s6, s7, s8, s9, s10⟩ := hW; go_simp) <;> with_reducible rfl)
  simp only [Act.put, List.setIfInBounds_toArray, List.set_cons_zero, List.set_cons_succ]
  refine lex_do (i := 5) rfl (by kernel_rfl) (by rfl) (fun KK hK => ?_)
  go_simp
  refine (HP0.out _ b0).mono ?_
  intro e w5 h5
  obtain ⟨a5, n5, c5, rfl, k5, u5⟩ := h5.out (k := 8) rfl
  have b5 := bmore b0 u5
  refine hK _ _ ⟨HKP.out _ b5, ?_⟩
  clear hK KK
  (try simp only [Act.put, List.setIfInBounds_toArray, List.set_cons_zero, List.set_cons_succ])
  refine lex_do (i := 9) rfl (by kernel_rfl) (by rfl) (fun KK hK => ?_)
  go_simp
  refine (HP1.out _ b5).mono ?_
  intro e w6 h6
  obtain ⟨a6, n6, c6, rfl, k6, u6⟩ := h6.out (k := 8) rfl
  have b6 := bmore b5 u6
  refine hK _ _ ⟨HKP.out _ b6, ?_⟩
  clear hK KK
  (try simp only [Act.put, List.setIfInBounds_toArray, List.set_cons_zero, List.set_cons_succ])
  refine lex_do (i := 10) rfl (by kernel_rfl) (by rfl) (fun KK hK => ?_)
  go_simp
  refine (HPA.out _ b6 _ _ _ _ _ _ (k5.newE u6) k6).mono ?_
  intro e w7 h7
  obtain ⟨a7, n7, c7, rfl, k7, u7⟩ := h7.out rfl
  have b7 := bmore b6 u7
  refine hK _ _ ⟨HKP.out _ b7, ?_⟩
  clear hK KK
  (try simp only [Act.put, List.setIfInBounds_toArray, List.set_cons_zero, List.set_cons_succ])
  refine lex_do (i := 11) rfl (by kernel_rfl) (by rfl) (fun KK hK => ?_)
  go_simp
  refine (HTO.out _ b7 _ _ _ k7).mono ?_
  intro e w8 h8
  obtain ⟨a8, n8, c8, rfl, k8, u8⟩ := h8.out rfl
  have b8 := bmore b7 u8
  refine hK _ _ ⟨HKP.out _ b8, ?_⟩
  clear hK KK
  (try simp only [Act.put, List.setIfInBounds_toArray, List.set_cons_zero, List.set_cons_succ])
  refine lex_do (i := 12) rfl (by kernel_rfl) (by rfl) (fun KK hK => ?_)
  go_simp
  refine (HSG.out _ b8 _ _ _ k8).mono ?_
  intro e w9 h9
  obtain ⟨a9, n9, c9, rfl, k9, u9⟩ := h9.out rfl
  have b9 := bmore b8 u9
  refine hK _ _ ⟨HKP.out _ b9, ?_⟩
  clear hK KK
  (try simp only [Act.put, List.setIfInBounds_toArray, List.set_cons_zero, List.set_cons_succ])
  have HBq := Lib.hid (bmore HB4.out b9)
  have HRq := Lib.hid (Hold.below b9 _ _ HR4.out)
  have HKq := Lib.hid k9
  have HSq := Lib.hid (HKP.out _ b9)
  clear z0 z1 z2 z3 z4 z5 zf0 zf1 zf2 zf3 zf4 zf5
  obtain ⟨z0, z1, z2, z3, z4, z5⟩ := cs6 HRq.out rfl rfl rfl rfl rfl rfl
  obtain ⟨zf0, zf1, zf2, zf3, zf4, zf5⟩ := fz6 HRq.out
  refine lex_do (i := 13) rfl (by kernel_rfl) (by rfl) (fun KK hK => ?_)
  go_simp
  refine hK _ _ ⟨HST.out _ _ _ _ _ _ _ HSq.out, ?_⟩
  clear hK KK
  refine lex_done (by kernel_rfl) ?_
  go_wp2_with fail
  have hs6 := set6_at HRq.out (.int .i64 7) (.int .i64 lf) (.int .i64 0) (.int .u64 0) (.string emptyS) (.slice a9 n9 c9)
  have hw6 := set6_below (b := (w.heap.size + 1)) HBq.out (Nat.le_succ _) (.int .i64 7) (.int .i64 lf) (.int .i64 0) (.int .u64 0) (.string emptyS) (.slice a9 n9 c9)
  have ho6 := fun (b' : Nat) (hne : b' ≠ (w.heap.size + 1)) => set6_other (w := w9) hne (.int .i64 7) (.int .i64 lf) (.int .i64 0) (.int .u64 0) (.string emptyS) (.slice a9 n9 c9)
  rw [show set6 w9 (w.heap.size + 1) (.int .i64 7) (.int .i64 lf) (.int .i64 0) (.int .u64 0) (.string emptyS) (.slice a9 n9 c9) = (((((w9.setCell ⟨(w.heap.size + 1), 0, none⟩ (.int .i64 7)).setCell ⟨(w.heap.size + 1), 1, none⟩ (.int .i64 lf)).setCell ⟨(w.heap.size + 1), 2, none⟩ (.int .i64 0)).setCell ⟨(w.heap.size + 1), 3, none⟩ (.int .u64 0)).setCell ⟨(w.heap.size + 1), 4, none⟩ (.string emptyS)).setCell ⟨(w.heap.size + 1), 5, none⟩ (.slice a9 n9 c9) from rfl] at hs6 hw6 ho6
  have HW6 := Lib.hid hw6
  clear hw6
  generalize ((((((w9.setCell ⟨(w.heap.size + 1), 0, none⟩ (.int .i64 7)).setCell ⟨(w.heap.size + 1), 1, none⟩ (.int .i64 lf)).setCell ⟨(w.heap.size + 1), 2, none⟩ (.int .i64 0)).setCell ⟨(w.heap.size + 1), 3, none⟩ (.int .u64 0)).setCell ⟨(w.heap.size + 1), 4, none⟩ (.string emptyS)).setCell ⟨(w.heap.size + 1), 5, none⟩ (.slice a9 n9 c9)) = w99 at *
  obtain ⟨q0, q1, q2, q3, q4, q5⟩ := cs6 hs6 rfl rfl rfl rfl rfl rfl
  refine bodyPost_ret (v := .agg #[.int .i64 7, .int .i64 lf, .int .i64 0, .int .u64 0, .string emptyS, .slice a9 n9 c9]) (by simp [results, Tryz.results114, go_sem, q0, q1, q2, q3, q4, q5]) rfl ?_
  have hkf := HKq.out.keep (G' := NewE w0 E w99) (fun b hg hl => by
   have he := ho6 b hg.2.2
   refine ⟨⟨⟨hg.1.1, ?_⟩, hg.2.1⟩, he⟩
   obtain ⟨cs, hc⟩ := hg.1.2
   exact ⟨cs, by rw [he]; exact hc⟩)
  have htr := HTR.out.trans rfl
  rw [htr]
  exact ⟨_, rfl, hkf, HW6.out⟩
 | true =>
  go_upto_region 8 with fail
  generalize (w3.alloc (.cells #[.int .i64 4, .int .i64 0, .int .i64 0, .int .u64 0, .string emptyS, .slice da dn dc] TrT)) = w4 at *
  generalize w3.heap.size = dbk at *
  have HKP := Lib.hid (fun (V : World) (hb : Below w4.heap.size w4 V) => (show SKB w.heap.size dbk 4 lf lc ls true da dn dc V from ⟨cellB (j := 0) (Hold.below hb _ _ HL4.out) rfl, cellB (j := 1) (Hold.below hb _ _ HL4.out) rfl, cellB (j := 2) (Hold.below hb _ _ HL4.out) rfl, cellB (j := 3) (Hold.below hb _ _ HL4.out) rfl, cellB (j := 4) (Hold.below hb _ _ HL4.out) rfl, cellB (j := 0) (Hold.below hb _ _ HD4.out) rfl, cellB (j := 1) (Hold.below hb _ _ HD4.out) rfl, cellB (j := 2) (Hold.below hb _ _ HD4.out) rfl, cellB (j := 3) (Hold.below hb _ _ HD4.out) rfl, cellB (j := 4) (Hold.below hb _ _ HD4.out) rfl, cellB (j := 5) (Hold.below hb _ _ HD4.out) rfl⟩))
  have HST := Lib.hid (fun (V : World) (v0 v1 v2 v3 v4 v5 : Value) (h : SKB w.heap.size dbk 4 lf lc ls true da dn dc V) => (show SKB w.heap.size dbk 4 lf lc ls true da dn dc (set6 V (w.heap.size + 1) v0 v1 v2 v3 v4 v5) from by
   obtain ⟨s0, s1, s2, s3, s4, s5, s6, s7, s8, s9, s10⟩ := h
   have hn := HZ4.out
   have q : ∀ (b o : Nat), b ≠ w.heap.size + 1 → (set6 V (w.heap.size + 1) v0 v1 v2 v3 v4 v5).cell? ⟨b, o, none⟩ = V.cell? ⟨b, o, none⟩ := fun b o h => cell_of_heap (set6_other h _ _ _ _ _ _) o
   have q1 := fun o => q w.heap.size o (by omega)
   have q2 := fun o => q dbk o (by omega)
   exact ⟨(q1 _).trans s0, (q1 _).trans s1, (q1 _).trans s2, (q1 _).trans s3, (q1 _).trans s4, (q2 _).trans s5, (q2 _).trans s6, (q2 _).trans s7, (q2 _).trans s8, (q2 _).trans s9, (q2 _).trans s10⟩))
  have HP0 := Lib.hid (fun (W : World) (hb : Below w4.heap.size w4 W) => (show Calls Tryz.prog 151 #[.int .i64 0, .agg #[.int .i64 4, .int .i64 0, .int .i64 0, .int .u64 0, .string emptyS, .slice da dn dc], .bool true] W (TP w0 (fun b => E b ∧ b ≠ w.heap.size + 1) W (promT 0 (dealT lc ls) true)) from promise_any (x := dealT lc ls) (Nat.le_trans HBB.out (Nat.le_trans HB4.out.size hb.size)) (fun b h => ⟨HEE.out b (Nat.le_trans HB4.out.size (Nat.le_trans hb.size h)), by have := HS4.out; have := HZW.out; have := hb.size; omega⟩) (HK4.out.newE hb) (by omega) true))
  have HP1 := Lib.hid (fun (W : World) (hb : Below w4.heap.size w4 W) => (show Calls Tryz.prog 151 #[.int .i64 1, .agg #[.int .i64 4, .int .i64 0, .int .i64 0, .int .u64 0, .string emptyS, .slice da dn dc], .bool true] W (TP w0 (fun b => E b ∧ b ≠ w.heap.size + 1) W (promT 1 (dealT lc ls) true)) from promise_any (x := dealT lc ls) (Nat.le_trans HBB.out (Nat.le_trans HB4.out.size hb.size)) (fun b h => ⟨HEE.out b (Nat.le_trans HB4.out.size (Nat.le_trans hb.size h)), by have := HS4.out; have := HZW.out; have := hb.size; omega⟩) (HK4.out.newE hb) (by omega) true))
  have HPA := Lib.hid (fun (W : World) (hb : Below w4.heap.size w4 W) (va : Option Addr) (vn vc : Nat) (vb : Option Addr) (vm vd : Nat) (k : IsK W (NewE w0 (fun b => E b ∧ b ≠ w.heap.size + 1) W) (.slice va vn vc) (promT 0 (dealT lc ls) true).2) (k' : IsK W (NewE w0 (fun b => E b ∧ b ≠ w.heap.size + 1) W) (.slice vb vm vd) (promT 1 (dealT lc ls) true).2) => (show Calls Tryz.prog 154 #[.agg #[.int .i64 9, .int .i64 0, .int .i64 1, .int .u64 0, .string emptyS, .slice va vn vc], .agg #[.int .i64 9, .int .i64 1, .int .i64 0, .int .u64 0, .string emptyS, .slice vb vm vd]] W (TP w0 (fun b => E b ∧ b ≠ w.heap.size + 1) W (pairT (promT 0 (dealT lc ls) true) (promT 1 (dealT lc ls) true))) from pair_any (x := promT 0 (dealT lc ls) true) (y := promT 1 (dealT lc ls) true) (Nat.le_trans HBB.out (Nat.le_trans HB4.out.size hb.size)) (fun b h => ⟨HEE.out b (Nat.le_trans HB4.out.size (Nat.le_trans hb.size h)), by have := HS4.out; have := HZW.out; have := hb.size; omega⟩) k k'))
  have HTO := Lib.hid (fun (W : World) (hb : Below w4.heap.size w4 W) (va : Option Addr) (vn vc : Nat) (k : IsK W (NewE w0 (fun b => E b ∧ b ≠ w.heap.size + 1) W) (.slice va vn vc) (pairT (promT 0 (dealT lc ls) true) (promT 1 (dealT lc ls) true)).2) => (show Calls Tryz.prog 153 #[.agg #[.int .i64 4, .int .i64 lf, .int .u64 lc, .string ls, .bool true], .agg #[.int .i64 4, .int .i64 0, .int .i64 0, .int .u64 0, .string emptyS, .slice va vn vc]] W (TP w0 (fun b => E b ∧ b ≠ w.heap.size + 1) W (pairT (dataT (kdD 4)) (pairT (promT 0 (dealT lc ls) true) (promT 1 (dealT lc ls) true)))) from told_any (K := 4) (x := pairT (promT 0 (dealT lc ls) true) (promT 1 (dealT lc ls) true)) (HLK.out.below (bmore HB4.out hb)) (by omega) (Nat.le_trans HBB.out (Nat.le_trans HB4.out.size hb.size)) (fun b h => ⟨HEE.out b (Nat.le_trans HB4.out.size (Nat.le_trans hb.size h)), by have := HS4.out; have := HZW.out; have := hb.size; omega⟩) k))
  have HSG := Lib.hid (fun (W : World) (hb : Below w4.heap.size w4 W) (va : Option Addr) (vn vc : Nat) (k : IsK W (NewE w0 (fun b => E b ∧ b ≠ w.heap.size + 1) W) (.slice va vn vc) (pairT (dataT (kdD 4)) (pairT (promT 0 (dealT lc ls) true) (promT 1 (dealT lc ls) true))).2) => (show Calls Tryz.prog 152 #[.agg #[.int .i64 4, .int .i64 lf, .int .u64 lc, .string ls, .bool true], .agg #[.int .i64 4, .int .i64 0, .int .i64 0, .int .u64 0, .string emptyS, .slice va vn vc]] W (TP w0 (fun b => E b ∧ b ≠ w.heap.size + 1) W (signT lf (pairT (dataT resolveS) (pairT (promT 0 (dealT lc ls) true) (promT 1 (dealT lc ls) true))))) from signed_any (K := 4) (x := pairT (dataT (kdD 4)) (pairT (promT 0 (dealT lc ls) true) (promT 1 (dealT lc ls) true))) (HLK.out.below (bmore HB4.out hb)) (by omega) (Nat.le_trans HBB.out (Nat.le_trans HB4.out.size hb.size)) (fun b h => ⟨HEE.out b (Nat.le_trans HB4.out.size (Nat.le_trans hb.size h)), by have := HS4.out; have := HZW.out; have := hb.size; omega⟩) k ⟨rfl, rfl⟩))
  have b0 := bd w4
  go_wp2_with fail
  refine lex_start [0, 1, 2, 3, 4, 6, 7, 8, 5, 9, 10, 11, 12, 13] (S := fun V => SKB w.heap.size dbk 4 lf lc ls true da dn dc V) (by kernel_rfl) (HKP.out _ b0) (fun hS => ?_)
  clear hS
  simp only [inOrder, List.filterMap, List.getElem?_cons_succ, List.getElem?_cons_zero]
  refine lex_take (i := 0) (v := ?_) rfl (by kernel_rfl) (by kernel_rfl) (by kernel_rfl) (by rfl) (HKP.out _ b0) ?_ ?_
  rotate_left
  ·((intro W hW; obtain ⟨s0, s1, s2, s3, s4, s5, s6, s7, s8, s9, s10⟩ := hW; go_simp) <;> with_reducible rfl)
  simp only [Act.put, List.setIfInBounds_toArray, List.set_cons_zero, List.set_cons_succ]
  refine lex_take (i := 1) (v := ?_) rfl (by kernel_rfl) (by kernel_rfl) (by kernel_rfl) (by rfl) (HKP.out _ b0) ?_ ?_
  rotate_left
  ·((intro W hW; obtain ⟨s0, s1, s2, s3, s4, s5, s6, s7, s8, s9, s10⟩ := hW; go_simp) <;> with_reducible rfl)
  simp only [Act.put, List.setIfInBounds_toArray, List.set_cons_zero, List.set_cons_succ]
  refine lex_take (i := 2) (v := ?_) rfl (by kernel_rfl) (by kernel_rfl) (by kernel_rfl) (by rfl) (HKP.out _ b0) ?_ ?_
  rotate_left
  ·((intro W hW; obtain ⟨s0, s1, s2, s3, s4, s5, s6, s7, s8, s9, s10⟩ := hW; go_simp) <;> with_reducible rfl)
  simp only [Act.put, List.setIfInBounds_toArray, List.set_cons_zero, List.set_cons_succ]
  refine lex_take (i := 3) (v := ?_) rfl (by kernel_rfl) (by kernel_rfl) (by kernel_rfl) (by rfl) (HKP.out _ b0) ?_ ?_
  rotate_left
  ·((intro W hW; obtain ⟨s0, s1, s2, s3, s4, s5, s6, s7, s8, s9, s10⟩ := hW; go_simp) <;> with_reducible rfl)
  simp only [Act.put, List.setIfInBounds_toArray, List.set_cons_zero, List.set_cons_succ]
  refine lex_take (i := 4) (v := ?_) rfl (by kernel_rfl) (by kernel_rfl) (by kernel_rfl) (by rfl) (HKP.out _ b0) ?_ ?_
  rotate_left
  ·((intro W hW; obtain ⟨s0, s1, s2, s3, s4, s5, s6, s7, s8, s9, s10⟩ := hW; go_simp) <;> with_reducible rfl)
  simp only [Act.put, List.setIfInBounds_toArray, List.set_cons_zero, List.set_cons_succ]
  refine lex_take (i := 6) (v := ?_) rfl (by kernel_rfl) (by kernel_rfl) (by kernel_rfl) (by rfl) (HKP.out _ b0) ?_ ?_
  rotate_left
  ·((intro W hW; obtain ⟨s0, s1, s2, s3, s4, s5, s6, s7, s8, s9, s10⟩ := hW; go_simp) <;> with_reducible rfl)
  simp only [Act.put, List.setIfInBounds_toArray, List.set_cons_zero, List.set_cons_succ]
  refine lex_take (i := 7) (v := ?_) rfl (by kernel_rfl) (by kernel_rfl) (by kernel_rfl) (by rfl) (HKP.out _ b0) ?_ ?_
  rotate_left
  ·((intro W hW; obtain ⟨s0, s1, s2, s3, s4, s5, s6, s7, s8, s9, s10⟩ := hW; go_simp) <;> with_reducible rfl)
  simp only [Act.put, List.setIfInBounds_toArray, List.set_cons_zero, List.set_cons_succ]
  refine lex_take (i := 8) (v := ?_) rfl (by kernel_rfl) (by kernel_rfl) (by kernel_rfl) (by rfl) (HKP.out _ b0) ?_ ?_
  rotate_left
  ·((intro W hW; obtain ⟨s0, s1, s2, s3, s4, s5, s6, s7, s8, s9, s10⟩ := hW; go_simp) <;> with_reducible rfl)
  simp only [Act.put, List.setIfInBounds_toArray, List.set_cons_zero, List.set_cons_succ]
  refine lex_do (i := 5) rfl (by kernel_rfl) (by rfl) (fun KK hK => ?_)
  go_simp
  refine (HP0.out _ b0).mono ?_
  intro e w5 h5
  obtain ⟨a5, n5, c5, rfl, k5, u5⟩ := h5.out (k := 9) rfl
  have b5 := bmore b0 u5
  refine hK _ _ ⟨HKP.out _ b5, ?_⟩
  clear hK KK
  (try simp only [Act.put, List.setIfInBounds_toArray, List.set_cons_zero, List.set_cons_succ])
  refine lex_do (i := 9) rfl (by kernel_rfl) (by rfl) (fun KK hK => ?_)
  go_simp
  refine (HP1.out _ b5).mono ?_
  intro e w6 h6
  obtain ⟨a6, n6, c6, rfl, k6, u6⟩ := h6.out (k := 9) rfl
  have b6 := bmore b5 u6
  refine hK _ _ ⟨HKP.out _ b6, ?_⟩
  clear hK KK
  (try simp only [Act.put, List.setIfInBounds_toArray, List.set_cons_zero, List.set_cons_succ])
  refine lex_do (i := 10) rfl (by kernel_rfl) (by rfl) (fun KK hK => ?_)
  go_simp
  refine (HPA.out _ b6 _ _ _ _ _ _ (k5.newE u6) k6).mono ?_
  intro e w7 h7
  obtain ⟨a7, n7, c7, rfl, k7, u7⟩ := h7.out rfl
  have b7 := bmore b6 u7
  refine hK _ _ ⟨HKP.out _ b7, ?_⟩
  clear hK KK
  (try simp only [Act.put, List.setIfInBounds_toArray, List.set_cons_zero, List.set_cons_succ])
  refine lex_do (i := 11) rfl (by kernel_rfl) (by rfl) (fun KK hK => ?_)
  go_simp
  refine (HTO.out _ b7 _ _ _ k7).mono ?_
  intro e w8 h8
  obtain ⟨a8, n8, c8, rfl, k8, u8⟩ := h8.out rfl
  have b8 := bmore b7 u8
  refine hK _ _ ⟨HKP.out _ b8, ?_⟩
  clear hK KK
  (try simp only [Act.put, List.setIfInBounds_toArray, List.set_cons_zero, List.set_cons_succ])
  refine lex_do (i := 12) rfl (by kernel_rfl) (by rfl) (fun KK hK => ?_)
  go_simp
  refine (HSG.out _ b8 _ _ _ k8).mono ?_
  intro e w9 h9
  obtain ⟨a9, n9, c9, rfl, k9, u9⟩ := h9.out rfl
  have b9 := bmore b8 u9
  refine hK _ _ ⟨HKP.out _ b9, ?_⟩
  clear hK KK
  (try simp only [Act.put, List.setIfInBounds_toArray, List.set_cons_zero, List.set_cons_succ])
  have HBq := Lib.hid (bmore HB4.out b9)
  have HRq := Lib.hid (Hold.below b9 _ _ HR4.out)
  have HKq := Lib.hid k9
  have HSq := Lib.hid (HKP.out _ b9)
  clear z0 z1 z2 z3 z4 z5 zf0 zf1 zf2 zf3 zf4 zf5
  obtain ⟨z0, z1, z2, z3, z4, z5⟩ := cs6 HRq.out rfl rfl rfl rfl rfl rfl
  obtain ⟨zf0, zf1, zf2, zf3, zf4, zf5⟩ := fz6 HRq.out
  refine lex_do (i := 13) rfl (by kernel_rfl) (by rfl) (fun KK hK => ?_)
  go_simp
  refine hK _ _ ⟨HST.out _ _ _ _ _ _ _ HSq.out, ?_⟩
  clear hK KK
  refine lex_done (by kernel_rfl) ?_
  go_wp2_with fail
  have hs6 := set6_at HRq.out (.int .i64 7) (.int .i64 lf) (.int .i64 0) (.int .u64 0) (.string emptyS) (.slice a9 n9 c9)
  have hw6 := set6_below (b := (w.heap.size + 1)) HBq.out (Nat.le_succ _) (.int .i64 7) (.int .i64 lf) (.int .i64 0) (.int .u64 0) (.string emptyS) (.slice a9 n9 c9)
  have ho6 := fun (b' : Nat) (hne : b' ≠ (w.heap.size + 1)) => set6_other (w := w9) hne (.int .i64 7) (.int .i64 lf) (.int .i64 0) (.int .u64 0) (.string emptyS) (.slice a9 n9 c9)
  rw [show set6 w9 (w.heap.size + 1) (.int .i64 7) (.int .i64 lf) (.int .i64 0) (.int .u64 0) (.string emptyS) (.slice a9 n9 c9) = (((((w9.setCell ⟨(w.heap.size + 1), 0, none⟩ (.int .i64 7)).setCell ⟨(w.heap.size + 1), 1, none⟩ (.int .i64 lf)).setCell ⟨(w.heap.size + 1), 2, none⟩ (.int .i64 0)).setCell ⟨(w.heap.size + 1), 3, none⟩ (.int .u64 0)).setCell ⟨(w.heap.size + 1), 4, none⟩ (.string emptyS)).setCell ⟨(w.heap.size + 1), 5, none⟩ (.slice a9 n9 c9) from rfl] at hs6 hw6 ho6
  have HW6 := Lib.hid hw6
  clear hw6
  generalize ((((((w9.setCell ⟨(w.heap.size + 1), 0, none⟩ (.int .i64 7)).setCell ⟨(w.heap.size + 1), 1, none⟩ (.int .i64 lf)).setCell ⟨(w.heap.size + 1), 2, none⟩ (.int .i64 0)).setCell ⟨(w.heap.size + 1), 3, none⟩ (.int .u64 0)).setCell ⟨(w.heap.size + 1), 4, none⟩ (.string emptyS)).setCell ⟨(w.heap.size + 1), 5, none⟩ (.slice a9 n9 c9)) = w99 at *
  obtain ⟨q0, q1, q2, q3, q4, q5⟩ := cs6 hs6 rfl rfl rfl rfl rfl rfl
  refine bodyPost_ret (v := .agg #[.int .i64 7, .int .i64 lf, .int .i64 0, .int .u64 0, .string emptyS, .slice a9 n9 c9]) (by simp [results, Tryz.results114, go_sem, q0, q1, q2, q3, q4, q5]) rfl ?_
  have hkf := HKq.out.keep (G' := NewE w0 E w99) (fun b hg hl => by
   have he := ho6 b hg.2.2
   refine ⟨⟨⟨hg.1.1, ?_⟩, hg.2.1⟩, he⟩
   obtain ⟨cs, hc⟩ := hg.1.2
   exact ⟨cs, by rw [he]; exact hc⟩)
  have htr := HTR.out.trans rfl
  rw [htr]
  exact ⟨_, rfl, hkf, HW6.out⟩
end Go.Proofs.YtjmcaceegfdkkaaGreatDoor
