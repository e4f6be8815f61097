/-
  A heap in memory: a thing that sinks.
-/
import Derived.Test.YtmbaedldikobcaaKHeapC
namespace Go.Proofs.Ytmbaedldikobcaa
open Go.RowKit
set_option linter.unusedVariables false

set_option maxRecDepth 100000 in
set_option maxHeartbeats 4000000 in
theorem sink_any {f : Int → Int} {fl : Nat} (hF : Less f fl) {w : World} {B hb g n cap : Nat} {t : Int} (h0 : w.heap[hb]? = some (Obj.cells #[.func (.func fl) #[] #[], .slice (some ⟨g, 0, none⟩) n cap, .int .i64 t] HeT))
    {L : List Hp} (hL : Laid3 w g cap L) (hln : L.length = n) (hks : KeysIn L) (hne : hb ≠ g) (hB : B ≤ g) (hz : n < 1000000) (hR : SinkOk f (atH L) n 0) :
    Calls Try.prog 106 #[.pointer (some ⟨hb, 0, none⟩), .int .i64 0] w fun e w' => e = .returned (.tuple #[]) ∧ Grw B g w w' ∧ ∃ L', L'.Perm L ∧ HeapOk f (atH L') n ∧ Laid3 w' g cap L' := by
  have HF := Lib.hid hF
  have HL := Lib.hid hL
  have HR := Lib.hid hR
  have HKS := Lib.hid hks
  have HLN := Lib.hid hln
  have HNE := Lib.hid hne
  have HBG := Lib.hid hB
  have H0 := Lib.hid h0
  have HGS : Hid (g < w.heap.size ∧ hb < w.heap.size) := Lib.hid ⟨by obtain ⟨cur, h1, _⟩ := hL; exact (Array.getElem?_eq_some_iff.1 h1).1, (Array.getElem?_eq_some_iff.1 h0).1⟩
  have HCH := Lib.hid (child_any hF h0 hL hln hks (i := 0) (by omega))
  have HZ := Lib.hid hz
  clear hF hL hR hks hln hne hB h0 hz
  go_enter Try.func106, Try.ntmps106
  go_wp2_with fail
  refine HCH.out.mono ?_
  rintro e wv ⟨rfl, uv⟩
  have HUV := Lib.hid uv
  clear uv
  go_wp2_with fail
  go_loopw [1, 4] (fun v1 v4 wr => ∃ (i : Nat) (L' : List Hp), v1 = .int .i64 (i : Int) ∧ v4 = .int .i64 ((fch f (atH L') n i : Nat) : Int) ∧ (i = 0 ∨ i < n) ∧ L'.Perm L ∧ SinkOk f (atH L') n i ∧ Laid3 wr g cap L' ∧ Grw B g w wr) (fun v1 _ _ => n - (intOf v1).toNat)
  case atStart => exact ⟨0, L, rfl, rfl, .inl rfl, List.Perm.refl _, HR.out, HL.out.hold (Hold.below HUV.out), Grw.of (Nat.le_trans HBG.out (Nat.le_of_lt HGS.out.1)) HUV.out⟩
  case round =>
    obtain ⟨i, L', rfl, rfl, hin, hpm, hri, hla, hgr⟩ := hrel
    have HPM := Lib.hid hpm
    have HRI := Lib.hid hri
    have HLA := Lib.hid hla
    have HGR := Lib.hid hgr
    have HIN := Lib.hid hin
    have HLN' : Hid (L'.length = n) := Lib.hid (hpm.length_eq.trans HLN.out)
    have HKS' : Hid (KeysIn L') := Lib.hid fun x hx => HKS.out x (hpm.mem_iff.1 hx)
    clear HR HL
    have hB0 : Hid (wr.heap[hb]? = some (Obj.cells #[.func (.func fl) #[] #[], .slice (some ⟨g, 0, none⟩) n cap, .int .i64 t] HeT)) := Lib.hid ((hgr.block hb HGS.out.2 HNE.out).trans H0.out)
    have z1 := cellB (j := 1) hB0.out rfl
    clear hpm hri hla hgr hin
    by_cases hcn : fch f (atH L') n i < n
    · have hpi : i < fch f (atH L') n i := fch_pos
      have hx := HLA.out.at3 (atH_some (show i < L'.length by rw [HLN'.out]; omega))
      have hy := HLA.out.at3 (atH_some (show fch f (atH L') n i < L'.length by rw [HLN'.out]; exact hcn))
      have kx : InI (atH L' i).key := HKS'.out _ (List.mem_of_getElem? (atH_some (show i < L'.length by rw [HLN'.out]; omega)))
      have ky : InI (atH L' (fch f (atH L') n i)).key := HKS'.out _ (List.mem_of_getElem? (atH_some (show fch f (atH L') n i < L'.length by rw [HLN'.out]; exact hcn)))
      have HPP : Hid (par (fch f (atH L') n i) = i) := Lib.hid fch_par
      have HLS := Lib.hid (fch_least (f := f) (g := atH L') (n := n) (i := i))
      have HIN' : Hid (i < n) := Lib.hid (by omega)
      have hin' := HIN'.out
      generalize hfc : fch f (atH L') n i = pi at *
      have HPI := Lib.hid hpi
      have HCN := Lib.hid hcn
      have hcn' := hcn
      have j0' : (0 : Int) ≤ (pi : Int) := by omega
      have j1' : (pi : Int) < (n : Int) := by omega
      have i0' : (0 : Int) ≤ (i : Int) := by omega
      have i1' : (i : Int) < (n : Int) := by omega
      clear hfc hpi hcn HIN
      have HIN := HIN'
      clear HIN'
      by_cases ha : Ahd f (atH L' pi) (atH L' i)
      · have HA := Lib.hid ha
        have HC := Lib.hid (ahead_yes HF.out hB0.out hcn' hin' hy hx ky kx ha)
        clear kx ky hin' hcn'
        generalize hex : atH L' i = ex at *
        generalize hey : atH L' pi = ey at *
        have HX := Lib.hid hx
        have HY := Lib.hid hy
        have HEX := Lib.hid hex
        have HEY := Lib.hid hey
        obtain ⟨xk, xn, xt⟩ := ex
        obtain ⟨yk, yn, yt⟩ := ey
        clear ha hx hy hex hey
        go_wp2_with fail
        clear z1
        refine HC.out.mono ?_
        rintro e w2 ⟨rfl, u2⟩
        have HU2 := Lib.hid u2
        have z1 := bcellAt u2 (cellB (j := 1) hB0.out rfl)
        have x0 := bcellAt u2 HX.out.1
        have x1 := bcellAt u2 HX.out.2.1
        have x2 := bcellAt u2 HX.out.2.2
        have y0 := bcellAt u2 HY.out.1
        have y1 := bcellAt u2 HY.out.2.1
        have y2 := bcellAt u2 HY.out.2.2
        clear u2
        simp only at x0 x1 x2 y0 y1 y2
        go_wp2_with fail
        have HLD : Hid (Laid3 w2.drew g cap L') := Lib.hid ((HLA.out.hold (Hold.below HU2.out)).hold (Hold.below (bd _)))
        have HGD : Hid (Grw B g w w2.drew) := Lib.hid ((HGR.out.trans (Grw.of (Nat.le_trans HBG.out (Nat.le_trans (Nat.le_of_lt HGS.out.1) HGR.out.below.size)) HU2.out)).trans (Grw.of (Nat.le_trans HBG.out (Nat.le_trans (Nat.le_of_lt HGS.out.1) (Nat.le_trans HGR.out.below.size HU2.out.size))) (bd _)))
        have hS : (fun b W => W.cell? ⟨hb, 1, none⟩ = some (.slice (some ⟨g, 0, none⟩) n cap) ∧ (b = false → W.cell? ⟨g, i * 3, none⟩ = some (.int .i64 xk) ∧ W.cell? ⟨g, i * 3 + 1, none⟩ = some (.int .i64 xn) ∧ W.cell? ⟨g, i * 3 + 2, none⟩ = some (.int .i64 xt) ∧ W.cell? ⟨g, pi * 3, none⟩ = some (.int .i64 yk) ∧ W.cell? ⟨g, pi * 3 + 1, none⟩ = some (.int .i64 yn) ∧ W.cell? ⟨g, pi * 3 + 2, none⟩ = some (.int .i64 yt))) false w2.drew := ⟨bcellAt (bd _) z1, fun _ => ⟨bcellAt (bd _) x0, bcellAt (bd _) x1, bcellAt (bd _) x2, bcellAt (bd _) y0, bcellAt (bd _) y1, bcellAt (bd _) y2⟩⟩
        refine lext_start [0, 1, 2, 3, 4, 5, 6, 7, 8, 9, 10, 11, 12, 13, 14, 15, 16, 17, 18, 19, 20, 21, 22, 23, 24, 25, 26, 27] 25 27 (F := (fun b W => W.cell? ⟨hb, 1, none⟩ = some (.slice (some ⟨g, 0, none⟩) n cap) ∧ (b = false → W.cell? ⟨g, i * 3, none⟩ = some (.int .i64 xk) ∧ W.cell? ⟨g, i * 3 + 1, none⟩ = some (.int .i64 xn) ∧ W.cell? ⟨g, i * 3 + 2, none⟩ = some (.int .i64 xt) ∧ W.cell? ⟨g, pi * 3, none⟩ = some (.int .i64 yk) ∧ W.cell? ⟨g, pi * 3 + 1, none⟩ = some (.int .i64 yn) ∧ W.cell? ⟨g, pi * 3 + 2, none⟩ = some (.int .i64 yt)))) (by kernel_rfl) ?_
        simp only [inOrder, List.filterMap, List.getElem?_cons_succ, List.getElem?_cons_zero]
        clear z1 x0 x1 x2 y0 y1 y2
        generalize w2.drew = V at *
        refine lext_take (i := 0) (v := ?_) rfl (by decide) (by decide) (by kernel_rfl) (by kernel_rfl) (by kernel_rfl) (by kernel_rfl) (by kernel_rfl) (by kernel_rfl) (by rfl) hS ?_ ?_
        rotate_left
        · ((intro W hW; obtain ⟨k0, hk⟩ := hW; obtain ⟨k1, k2, k3, k4, k5, k6⟩ := hk rfl; go_simp) <;> with_reducible rfl)
        simp only [Act.put, List.setIfInBounds_toArray, List.set_cons_zero, List.set_cons_succ]
        refine lext_take (i := 1) (v := ?_) rfl (by decide) (by decide) (by kernel_rfl) (by kernel_rfl) (by kernel_rfl) (by kernel_rfl) (by kernel_rfl) (by kernel_rfl) (by rfl) hS ?_ ?_
        rotate_left
        · ((intro W hW; obtain ⟨k0, hk⟩ := hW; obtain ⟨k1, k2, k3, k4, k5, k6⟩ := hk rfl; go_simp) <;> with_reducible rfl)
        simp only [Act.put, List.setIfInBounds_toArray, List.set_cons_zero, List.set_cons_succ]
        refine lext_take (i := 2) (v := ?_) rfl (by decide) (by decide) (by kernel_rfl) (by kernel_rfl) (by kernel_rfl) (by kernel_rfl) (by kernel_rfl) (by kernel_rfl) (by rfl) hS ?_ ?_
        rotate_left
        · ((intro W hW; obtain ⟨k0, hk⟩ := hW; obtain ⟨k1, k2, k3, k4, k5, k6⟩ := hk rfl; go_simp) <;> with_reducible rfl)
        simp only [Act.put, List.setIfInBounds_toArray, List.set_cons_zero, List.set_cons_succ]
        refine lext_take (i := 3) (v := ?_) rfl (by decide) (by decide) (by kernel_rfl) (by kernel_rfl) (by kernel_rfl) (by kernel_rfl) (by kernel_rfl) (by kernel_rfl) (by rfl) hS ?_ ?_
        rotate_left
        · ((intro W hW; obtain ⟨k0, hk⟩ := hW; obtain ⟨k1, k2, k3, k4, k5, k6⟩ := hk rfl; go_simp) <;> with_reducible rfl)
        simp only [Act.put, List.setIfInBounds_toArray, List.set_cons_zero, List.set_cons_succ]
        refine lext_take (i := 4) (v := ?_) rfl (by decide) (by decide) (by kernel_rfl) (by kernel_rfl) (by kernel_rfl) (by kernel_rfl) (by kernel_rfl) (by kernel_rfl) (by rfl) hS ?_ ?_
        rotate_left
        · ((intro W hW; obtain ⟨k0, hk⟩ := hW; obtain ⟨k1, k2, k3, k4, k5, k6⟩ := hk rfl; go_simp) <;> with_reducible rfl)
        simp only [Act.put, List.setIfInBounds_toArray, List.set_cons_zero, List.set_cons_succ]
        refine lext_late (i := 5) (v := ?_) (b := false) rfl (by decide) (by decide) (by kernel_rfl) (by kernel_rfl) (by kernel_rfl) (by kernel_rfl) (by kernel_rfl) (fun W h => ⟨h.1, fun e => by cases e⟩) (by rfl) hS ?_ ?_
        rotate_left
        · ((intro W hW; obtain ⟨k0, _⟩ := hW; go_simp) <;> with_reducible rfl)
        simp only [Act.put, List.setIfInBounds_toArray, List.set_cons_zero, List.set_cons_succ]
        refine lext_late (i := 6) (v := ?_) (b := false) rfl (by decide) (by decide) (by kernel_rfl) (by kernel_rfl) (by kernel_rfl) (by kernel_rfl) (by kernel_rfl) (fun W h => ⟨h.1, fun e => by cases e⟩) (by rfl) hS ?_ ?_
        rotate_left
        · ((intro W hW; obtain ⟨k0, _⟩ := hW; go_simp) <;> with_reducible rfl)
        simp only [Act.put, List.setIfInBounds_toArray, List.set_cons_zero, List.set_cons_succ]
        refine lext_late (i := 7) (v := ?_) (b := false) rfl (by decide) (by decide) (by kernel_rfl) (by kernel_rfl) (by kernel_rfl) (by kernel_rfl) (by kernel_rfl) (fun W h => ⟨h.1, fun e => by cases e⟩) (by rfl) hS ?_ ?_
        rotate_left
        · ((intro W hW; obtain ⟨k0, _⟩ := hW; go_simp) <;> with_reducible rfl)
        simp only [Act.put, List.setIfInBounds_toArray, List.set_cons_zero, List.set_cons_succ]
        refine lext_take (i := 8) (v := ?_) rfl (by decide) (by decide) (by kernel_rfl) (by kernel_rfl) (by kernel_rfl) (by kernel_rfl) (by kernel_rfl) (by kernel_rfl) (by rfl) hS ?_ ?_
        rotate_left
        · ((intro W hW; obtain ⟨k0, hk⟩ := hW; obtain ⟨k1, k2, k3, k4, k5, k6⟩ := hk rfl; go_simp) <;> with_reducible rfl)
        simp only [Act.put, List.setIfInBounds_toArray, List.set_cons_zero, List.set_cons_succ]
        refine lext_late (i := 9) (v := ?_) (b := false) rfl (by decide) (by decide) (by kernel_rfl) (by kernel_rfl) (by kernel_rfl) (by kernel_rfl) (by kernel_rfl) (fun W h => ⟨h.1, fun e => by cases e⟩) (by rfl) hS ?_ ?_
        rotate_left
        · ((intro W hW; obtain ⟨k0, _⟩ := hW; go_simp) <;> with_reducible rfl)
        simp only [Act.put, List.setIfInBounds_toArray, List.set_cons_zero, List.set_cons_succ]
        refine lext_take (i := 10) (v := ?_) rfl (by decide) (by decide) (by kernel_rfl) (by kernel_rfl) (by kernel_rfl) (by kernel_rfl) (by kernel_rfl) (by kernel_rfl) (by rfl) hS ?_ ?_
        rotate_left
        · ((intro W hW; obtain ⟨k0, hk⟩ := hW; obtain ⟨k1, k2, k3, k4, k5, k6⟩ := hk rfl; go_simp) <;> with_reducible rfl)
        simp only [Act.put, List.setIfInBounds_toArray, List.set_cons_zero, List.set_cons_succ]
        refine lext_take (i := 11) (v := ?_) rfl (by decide) (by decide) (by kernel_rfl) (by kernel_rfl) (by kernel_rfl) (by kernel_rfl) (by kernel_rfl) (by kernel_rfl) (by rfl) hS ?_ ?_
        rotate_left
        · ((intro W hW; obtain ⟨k0, hk⟩ := hW; obtain ⟨k1, k2, k3, k4, k5, k6⟩ := hk rfl; go_simp) <;> with_reducible rfl)
        simp only [Act.put, List.setIfInBounds_toArray, List.set_cons_zero, List.set_cons_succ]
        refine lext_take (i := 12) (v := ?_) rfl (by decide) (by decide) (by kernel_rfl) (by kernel_rfl) (by kernel_rfl) (by kernel_rfl) (by kernel_rfl) (by kernel_rfl) (by rfl) hS ?_ ?_
        rotate_left
        · ((intro W hW; obtain ⟨k0, hk⟩ := hW; obtain ⟨k1, k2, k3, k4, k5, k6⟩ := hk rfl; go_simp) <;> with_reducible rfl)
        simp only [Act.put, List.setIfInBounds_toArray, List.set_cons_zero, List.set_cons_succ]
        refine lext_take (i := 13) (v := ?_) rfl (by decide) (by decide) (by kernel_rfl) (by kernel_rfl) (by kernel_rfl) (by kernel_rfl) (by kernel_rfl) (by kernel_rfl) (by rfl) hS ?_ ?_
        rotate_left
        · ((intro W hW; obtain ⟨k0, hk⟩ := hW; obtain ⟨k1, k2, k3, k4, k5, k6⟩ := hk rfl; go_simp) <;> with_reducible rfl)
        simp only [Act.put, List.setIfInBounds_toArray, List.set_cons_zero, List.set_cons_succ]
        refine lext_take (i := 14) (v := ?_) rfl (by decide) (by decide) (by kernel_rfl) (by kernel_rfl) (by kernel_rfl) (by kernel_rfl) (by kernel_rfl) (by kernel_rfl) (by rfl) hS ?_ ?_
        rotate_left
        · ((intro W hW; obtain ⟨k0, hk⟩ := hW; obtain ⟨k1, k2, k3, k4, k5, k6⟩ := hk rfl; go_simp) <;> with_reducible rfl)
        simp only [Act.put, List.setIfInBounds_toArray, List.set_cons_zero, List.set_cons_succ]
        refine lext_take (i := 15) (v := ?_) rfl (by decide) (by decide) (by kernel_rfl) (by kernel_rfl) (by kernel_rfl) (by kernel_rfl) (by kernel_rfl) (by kernel_rfl) (by rfl) hS ?_ ?_
        rotate_left
        · ((intro W hW; obtain ⟨k0, hk⟩ := hW; obtain ⟨k1, k2, k3, k4, k5, k6⟩ := hk rfl; go_simp) <;> with_reducible rfl)
        simp only [Act.put, List.setIfInBounds_toArray, List.set_cons_zero, List.set_cons_succ]
        refine lext_take (i := 16) (v := ?_) rfl (by decide) (by decide) (by kernel_rfl) (by kernel_rfl) (by kernel_rfl) (by kernel_rfl) (by kernel_rfl) (by kernel_rfl) (by rfl) hS ?_ ?_
        rotate_left
        · ((intro W hW; obtain ⟨k0, hk⟩ := hW; obtain ⟨k1, k2, k3, k4, k5, k6⟩ := hk rfl; go_simp) <;> with_reducible rfl)
        simp only [Act.put, List.setIfInBounds_toArray, List.set_cons_zero, List.set_cons_succ]
        refine lext_late (i := 17) (v := ?_) (b := false) rfl (by decide) (by decide) (by kernel_rfl) (by kernel_rfl) (by kernel_rfl) (by kernel_rfl) (by kernel_rfl) (fun W h => ⟨h.1, fun e => by cases e⟩) (by rfl) hS ?_ ?_
        rotate_left
        · ((intro W hW; obtain ⟨k0, _⟩ := hW; go_simp) <;> with_reducible rfl)
        simp only [Act.put, List.setIfInBounds_toArray, List.set_cons_zero, List.set_cons_succ]
        refine lext_late (i := 18) (v := ?_) (b := false) rfl (by decide) (by decide) (by kernel_rfl) (by kernel_rfl) (by kernel_rfl) (by kernel_rfl) (by kernel_rfl) (fun W h => ⟨h.1, fun e => by cases e⟩) (by rfl) hS ?_ ?_
        rotate_left
        · ((intro W hW; obtain ⟨k0, _⟩ := hW; go_simp) <;> with_reducible rfl)
        simp only [Act.put, List.setIfInBounds_toArray, List.set_cons_zero, List.set_cons_succ]
        refine lext_late (i := 19) (v := ?_) (b := false) rfl (by decide) (by decide) (by kernel_rfl) (by kernel_rfl) (by kernel_rfl) (by kernel_rfl) (by kernel_rfl) (fun W h => ⟨h.1, fun e => by cases e⟩) (by rfl) hS ?_ ?_
        rotate_left
        · ((intro W hW; obtain ⟨k0, _⟩ := hW; go_simp) <;> with_reducible rfl)
        simp only [Act.put, List.setIfInBounds_toArray, List.set_cons_zero, List.set_cons_succ]
        refine lext_take (i := 20) (v := ?_) rfl (by decide) (by decide) (by kernel_rfl) (by kernel_rfl) (by kernel_rfl) (by kernel_rfl) (by kernel_rfl) (by kernel_rfl) (by rfl) hS ?_ ?_
        rotate_left
        · ((intro W hW; obtain ⟨k0, hk⟩ := hW; obtain ⟨k1, k2, k3, k4, k5, k6⟩ := hk rfl; go_simp) <;> with_reducible rfl)
        simp only [Act.put, List.setIfInBounds_toArray, List.set_cons_zero, List.set_cons_succ]
        refine lext_late (i := 21) (v := ?_) (b := false) rfl (by decide) (by decide) (by kernel_rfl) (by kernel_rfl) (by kernel_rfl) (by kernel_rfl) (by kernel_rfl) (fun W h => ⟨h.1, fun e => by cases e⟩) (by rfl) hS ?_ ?_
        rotate_left
        · ((intro W hW; obtain ⟨k0, _⟩ := hW; go_simp) <;> with_reducible rfl)
        simp only [Act.put, List.setIfInBounds_toArray, List.set_cons_zero, List.set_cons_succ]
        refine lext_late (i := 22) (v := ?_) (b := false) rfl (by decide) (by decide) (by kernel_rfl) (by kernel_rfl) (by kernel_rfl) (by kernel_rfl) (by kernel_rfl) (fun W h => ⟨h.1, fun e => by cases e⟩) (by rfl) hS ?_ ?_
        rotate_left
        · ((intro W hW; obtain ⟨k0, _⟩ := hW; go_simp) <;> with_reducible rfl)
        simp only [Act.put, List.setIfInBounds_toArray, List.set_cons_zero, List.set_cons_succ]
        refine lext_take (i := 23) (v := ?_) rfl (by decide) (by decide) (by kernel_rfl) (by kernel_rfl) (by kernel_rfl) (by kernel_rfl) (by kernel_rfl) (by kernel_rfl) (by rfl) hS ?_ ?_
        rotate_left
        · ((intro W hW; obtain ⟨k0, hk⟩ := hW; obtain ⟨k1, k2, k3, k4, k5, k6⟩ := hk rfl; go_simp) <;> with_reducible rfl)
        simp only [Act.put, List.setIfInBounds_toArray, List.set_cons_zero, List.set_cons_succ]
        refine lext_take (i := 24) (v := ?_) rfl (by decide) (by decide) (by kernel_rfl) (by kernel_rfl) (by kernel_rfl) (by kernel_rfl) (by kernel_rfl) (by kernel_rfl) (by rfl) hS ?_ ?_
        rotate_left
        · ((intro W hW; obtain ⟨k0, hk⟩ := hW; obtain ⟨k1, k2, k3, k4, k5, k6⟩ := hk rfl; go_simp) <;> with_reducible rfl)
        simp only [Act.put, List.setIfInBounds_toArray, List.set_cons_zero, List.set_cons_succ]
        refine lext_do (i := 25) (b := true) rfl (by kernel_rfl) (by kernel_rfl) (by rfl) (fun K hK => ?_)
        obtain ⟨s0, hs⟩ := hS
        obtain ⟨s1, s2, s3, s4, s5, s6⟩ := hs rfl
        clear hs s4 s5 s6
        have f1 := HLD.out.frz (i * 3)
        have f2 := HLD.out.frz (i * 3 + 1)
        have f3 := HLD.out.frz (i * 3 + 2)
        go_simp
        have hl1 := HLD.out.set ⟨yk, yn, yt⟩ (show i < L'.length by rw [HLN'.out]; exact HIN.out)
        have hg1 := HGD.out.trans (Grw.set3 V HBG.out (i * 3) (.int .i64 yk) (.int .i64 yn) (.int .i64 yt))
        have s0' : (((V.setCell ⟨g, i * 3, none⟩ (.int .i64 yk)).setCell ⟨g, i * 3 + 1, none⟩ (.int .i64 yn)).setCell ⟨g, i * 3 + 2, none⟩ (.int .i64 yt)).cell? ⟨hb, 1, none⟩ = some (.slice (some ⟨g, 0, none⟩) n cap) := cellB (((hg1.block hb HGS.out.2 HNE.out)).trans H0.out) rfl
        simp only at hl1
        generalize (((V.setCell ⟨g, i * 3, none⟩ (.int .i64 yk)).setCell ⟨g, i * 3 + 1, none⟩ (.int .i64 yn)).setCell ⟨g, i * 3 + 2, none⟩ (.int .i64 yt)) = V3 at *
        have HL1 := Lib.hid hl1
        have HG1 := Lib.hid hg1
        clear hl1 hg1 s0 s1 s2 s3 f1 f2 f3
        refine hK _ _ ⟨fun _ => ⟨s0', fun e => by cases e⟩, ?_⟩
        clear hK K
        have hS : (fun b W => W.cell? ⟨hb, 1, none⟩ = some (.slice (some ⟨g, 0, none⟩) n cap) ∧ (b = false → W.cell? ⟨g, i * 3, none⟩ = some (.int .i64 xk) ∧ W.cell? ⟨g, i * 3 + 1, none⟩ = some (.int .i64 xn) ∧ W.cell? ⟨g, i * 3 + 2, none⟩ = some (.int .i64 xt) ∧ W.cell? ⟨g, pi * 3, none⟩ = some (.int .i64 yk) ∧ W.cell? ⟨g, pi * 3 + 1, none⟩ = some (.int .i64 yn) ∧ W.cell? ⟨g, pi * 3 + 2, none⟩ = some (.int .i64 yt))) true V3 := ⟨s0', fun e => by cases e⟩
        clear s0'
        refine lext_late (i := 26) (v := ?_) (b := true) rfl (by decide) (by decide) (by kernel_rfl) (by kernel_rfl) (by kernel_rfl) (by kernel_rfl) (by kernel_rfl) (fun W h => ⟨h.1, fun e => by cases e⟩) (by rfl) hS ?_ ?_
        rotate_left
        · ((intro W hW; obtain ⟨k0, _⟩ := hW; go_simp) <;> with_reducible rfl)
        simp only [Act.put, List.setIfInBounds_toArray, List.set_cons_zero, List.set_cons_succ]
        refine lext_do (i := 27) (b := true) rfl (by kernel_rfl) (by kernel_rfl) (by rfl) (fun K hK => ?_)
        have hyL : Hid ((L'.set i ⟨yk, yn, yt⟩)[pi]? = some ⟨yk, yn, yt⟩) := Lib.hid (by rw [List.getElem?_set_ne (by have := HPI.out; omega), atH_some (show pi < L'.length by rw [HLN'.out]; exact HCN.out), HEY.out])
        obtain ⟨s4, s5, s6⟩ := HL1.out.at3 hyL.out
        simp only at s4 s5 s6
        have f1 := HL1.out.frz (pi * 3)
        have f2 := HL1.out.frz (pi * 3 + 1)
        have f3 := HL1.out.frz (pi * 3 + 2)
        clear hS
        go_simp
        have hl2 := HL1.out.set ⟨xk, xn, xt⟩ (show pi < (L'.set i ⟨yk, yn, yt⟩).length by rw [List.length_set, HLN'.out]; exact HCN.out)
        have hg2 := HG1.out.trans (Grw.set3 V3 HBG.out (pi * 3) (.int .i64 xk) (.int .i64 xn) (.int .i64 xt))
        simp only at hl2
        generalize (((V3.setCell ⟨g, pi * 3, none⟩ (.int .i64 xk)).setCell ⟨g, pi * 3 + 1, none⟩ (.int .i64 xn)).setCell ⟨g, pi * 3 + 2, none⟩ (.int .i64 xt)) = V4 at *
        have HL2 := Lib.hid hl2
        have HG2 := Lib.hid hg2
        clear hl2 hg2 s4 s5 s6 f1 f2 f3
        refine hK _ _ ⟨fun e => absurd rfl e, ?_⟩
        clear hK K
        refine lext_done (by kernel_rfl) ?_
        have hin2 : i < L'.length := by rw [HLN'.out]; exact HIN.out
        have hpn2 : pi < L'.length := by rw [HLN'.out]; exact HCN.out
        have hl4 : Laid3 V4 g cap (swapL L' i pi) := by
          unfold swapL
          rw [HEX.out, HEY.out]
          exact HL2.out
        have hpm4 : (swapL L' i pi).Perm L := (swapL_perm hin2 hpn2).trans HPM.out
        have hr4 : SinkOk f (atH (swapL L' i pi)) n pi := by
          rw [atH_swapL hin2 hpn2]
          exact HRI.out.step (by have := HPI.out; omega) HCN.out HPP.out (fun j a b c => by rw [HEY.out]; exact HLS.out j a b c) (by rw [HEX.out, HEY.out]; exact HA.out)
        have hn4 : (swapL L' i pi).length = n := (swapL_len _ _ _).trans HLN'.out
        have HM := Lib.hid hpm4
        have HN4 := Lib.hid hn4
        have HR4 := Lib.hid hr4
        have HL4 := Lib.hid hl4
        clear hin2 hpn2 hl4 hpm4 hr4 hn4
        generalize swapL L' i pi = L4 at *
        have HC4 := Lib.hid (child_any HF.out ((HG2.out.block hb HGS.out.2 HNE.out).trans H0.out) HL4.out HN4.out (fun x hx => HKS.out x (HM.out.mem_iff.1 hx)) (i := pi) (by have := HZ.out; have := HCN.out; omega))
        go_wp2_with fail
        refine HC4.out.mono ?_
        rintro e w5 ⟨rfl, u5⟩
        have HU5 := Lib.hid u5
        clear u5
        go_wp2_with fail
        go_round
        case rel => exact ⟨pi, L4, rfl, rfl, .inr HCN.out, HM.out, HR4.out, HL4.out.hold (Hold.below HU5.out), HG2.out.trans (Grw.of (Nat.le_trans HBG.out (Nat.le_trans (Nat.le_of_lt HGS.out.1) HG2.out.below.size)) HU5.out)⟩
        case measure => simp [intOf]; have := HPI.out; have := HCN.out; omega
      · have HC := Lib.hid (ahead_no HF.out hB0.out hcn' hin' hy hx ky kx ha)
        have HA := Lib.hid ha
        clear ha kx ky hin' hcn' hx hy
        go_wp2_with fail
        refine HC.out.mono ?_
        rintro e w2 ⟨rfl, u2⟩
        have HU2 := Lib.hid u2
        clear u2
        go_wp2_with fail
        go_returns
        exact ⟨rfl, HGR.out.trans (Grw.of (Nat.le_trans HBG.out (Nat.le_trans (Nat.le_of_lt HGS.out.1) HGR.out.below.size)) HU2.out), L', HPM.out, HRI.out.done (fun j j0 jn jp => nahd_trans HA.out (HLS.out j j0 jn jp)), HLA.out.hold (Hold.below HU2.out)⟩
    · have hc2 : ¬ ((fch f (atH L') n i : Nat) : Int) < (n : Int) := by omega
      have HNO := Lib.hid (fch_none hcn)
      clear hcn
      generalize fch f (atH L') n i = pi at *
      go_wp2_with fail
      go_returns
      exact ⟨rfl, HGR.out, L', HPM.out, HRI.out.done (fun j j0 jn jp => absurd jp (fun e => HNO.out j j0 jn e)), HLA.out⟩
end Go.Proofs.Ytmbaedldikobcaa
