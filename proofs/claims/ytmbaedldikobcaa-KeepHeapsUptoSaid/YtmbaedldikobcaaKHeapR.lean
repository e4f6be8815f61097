/-
  A heap in memory: a thing that rises.
-/
import Derived.Test.YtmbaedldikobcaaKHeapM
import Derived.Test.YtmbaedldikobcaaKLexT
namespace Go.Proofs.Ytmbaedldikobcaa
open Go.RowKit
set_option linter.unusedVariables false

/-- In block g (of the heap's things) lies the list L. -/
def Laid3 (w : World) (g cap : Nat) (L : List Hp) : Prop := ∃ cur, w.heap[g]? = some (Obj.cells cur PuT) ∧ cur.size = cap * 3 ∧ L.length ≤ cap ∧ ∀ k x, L[k]? = some x → cur[k * 3]? = some (.int .i64 x.key) ∧ cur[k * 3 + 1]? = some (.int .i64 x.num) ∧ cur[k * 3 + 2]? = some (.int .i64 x.turn)
theorem Laid3.at3 {w : World} {g cap k : Nat} {L : List Hp} {x : Hp} (h : Laid3 w g cap L) (hx : L[k]? = some x) : At3 w g k x := by
  obtain ⟨cur, h1, _, _, h4⟩ := h
  obtain ⟨p1, p2, p3⟩ := h4 k x hx
  exact ⟨cellB h1 p1, cellB h1 p2, cellB h1 p3⟩
theorem Laid3.frz {w : World} {g cap : Nat} {L : List Hp} (h : Laid3 w g cap L) (o : Nat) : w.frozen? ⟨g, o, none⟩ = false := by
  obtain ⟨cur, h1, _⟩ := h
  simp [World.frozen?, h1]
theorem Laid3.hold {w w' : World} {g cap : Nat} {L : List Hp} (h : Laid3 w g cap L) (hh : Hold PuT w w') : Laid3 w' g cap L := by
  obtain ⟨cur, h1, h2⟩ := h
  exact ⟨cur, hh _ _ h1, h2⟩
theorem Laid3.set {w : World} {g cap k : Nat} {L : List Hp} (h : Laid3 w g cap L) (x : Hp) (hk : k < L.length) :
    Laid3 (((w.setCell ⟨g, k * 3, none⟩ (.int .i64 x.key)).setCell ⟨g, k * 3 + 1, none⟩ (.int .i64 x.num)).setCell ⟨g, k * 3 + 2, none⟩ (.int .i64 x.turn)) g cap (L.set k x) := by
  obtain ⟨cur, h1, h2, h3, h4⟩ := h
  refine ⟨_, setCellB (setCellB (setCellB h1)), by simp [h2], by simpa using h3, fun j y hj => ?_⟩
  by_cases e : j = k
  · subst e
    rw [List.getElem?_set_self (by omega)] at hj
    obtain rfl : x = y := by simpa using hj
    refine ⟨?_, ?_, ?_⟩
    · rw [Array.getElem?_setIfInBounds_ne (by omega), Array.getElem?_setIfInBounds_ne (by omega), Array.getElem?_setIfInBounds_self_of_lt (by omega)]
    · rw [Array.getElem?_setIfInBounds_ne (by omega), Array.getElem?_setIfInBounds_self_of_lt (by simp; omega)]
    · rw [Array.getElem?_setIfInBounds_self_of_lt (by simp; omega)]
  · rw [List.getElem?_set_ne (by omega)] at hj
    obtain ⟨p1, p2, p3⟩ := h4 j y hj
    refine ⟨?_, ?_, ?_⟩ <;> (rw [Array.getElem?_setIfInBounds_ne (by omega), Array.getElem?_setIfInBounds_ne (by omega), Array.getElem?_setIfInBounds_ne (by omega)]; assumption)
/-- Of the old blocks only g has changed, and only from B on. -/
structure Grw (B g : Nat) (w w' : World) : Prop where
  below : Below B w w'
  block : ∀ k, k < w.heap.size → k ≠ g → w'.heap[k]? = w.heap[k]?
theorem Grw.refl (B g : Nat) (w : World) : Grw B g w w := ⟨Below.refl _ _, fun _ _ _ => rfl⟩
theorem Grw.trans {B g : Nat} {a b c : World} (h : Grw B g a b) (k : Grw B g b c) : Grw B g a c :=
  ⟨h.below.trans k.below, fun j hj hn => (k.block j (Nat.lt_of_lt_of_le hj h.below.size) hn).trans (h.block j hj hn)⟩
theorem Grw.of {B g : Nat} {w w' : World} (hB : B ≤ w.heap.size) (h : Below w.heap.size w w') : Grw B g w w' := ⟨h.mono hB, fun j hj _ => h.block j hj⟩
theorem Grw.set {B g : Nat} (w : World) (hg : B ≤ g) (o : Nat) (u : Value) : Grw B g w (w.setCell ⟨g, o, none⟩ u) :=
  ⟨(Below.refl B w).setCell (p := ⟨g, o, none⟩) hg u, fun j _ hn => Below.heap_setCell _ _ _ _ hn⟩
theorem Grw.set3 {B g : Nat} (w : World) (hg : B ≤ g) (o : Nat) (x y z : Value) : Grw B g w (((w.setCell ⟨g, o, none⟩ x).setCell ⟨g, o + 1, none⟩ y).setCell ⟨g, o + 2, none⟩ z) :=
  ((Grw.set w hg _ _).trans (Grw.set _ hg _ _)).trans (Grw.set _ hg _ _)
theorem par_int (i : Nat) : ((i : Int) - 1).tdiv 2 = ((par i : Nat) : Int) := by
  unfold par
  rcases i with _ | i
  · rfl
  · rw [show (((i + 1 : Nat) : Int) - 1) = (i : Int) by omega, Int.tdiv_eq_ediv_of_nonneg (by omega)]
    simp
/-- Each thing's number is one that an int holds. -/
def KeysIn (L : List Hp) : Prop := ∀ x ∈ L, InI x.key
theorem atH_some {L : List Hp} {i : Nat} (h : i < L.length) : L[i]? = some (atH L i) := by rw [atH_eq h]; simp [h]

theorem ahead_yes {f : Int → Int} {fl : Nat} (hF : Less f fl) {w : World} {hb g n cap : Nat} {t : Int} (h0 : w.heap[hb]? = some (Obj.cells #[.func (.func fl) #[] #[], .slice (some ⟨g, 0, none⟩) n cap, .int .i64 t] HeT))
    {i j : Nat} (hi : i < n) (hj : j < n) {x y : Hp} (hx : At3 w g i x) (hy : At3 w g j y) (ix : InI x.key) (iy : InI y.key) (ha : Ahd f x y) :
    Calls Try.prog 141 #[.pointer (some ⟨hb, 0, none⟩), .int .i64 (i : Int), .int .i64 (j : Int)] w fun e w' => e = .returned (.bool true) ∧ Below w.heap.size w w' :=
  (ahead_any hF h0 hi hj hx hy ix iy).mono fun e w' h => ⟨by rw [h.1, decide_eq_true ha], h.2⟩
theorem ahead_no {f : Int → Int} {fl : Nat} (hF : Less f fl) {w : World} {hb g n cap : Nat} {t : Int} (h0 : w.heap[hb]? = some (Obj.cells #[.func (.func fl) #[] #[], .slice (some ⟨g, 0, none⟩) n cap, .int .i64 t] HeT))
    {i j : Nat} (hi : i < n) (hj : j < n) {x y : Hp} (hx : At3 w g i x) (hy : At3 w g j y) (ix : InI x.key) (iy : InI y.key) (ha : ¬ Ahd f x y) :
    Calls Try.prog 141 #[.pointer (some ⟨hb, 0, none⟩), .int .i64 (i : Int), .int .i64 (j : Int)] w fun e w' => e = .returned (.bool false) ∧ Below w.heap.size w w' :=
  (ahead_any hF h0 hi hj hx hy ix iy).mono fun e w' h => ⟨by rw [h.1, decide_eq_false ha], h.2⟩
set_option maxRecDepth 100000 in
set_option maxHeartbeats 4000000 in
theorem rise_any {f : Int → Int} {fl : Nat} (hF : Less f fl) {w : World} {B hb g n cap : Nat} {t : Int} (h0 : w.heap[hb]? = some (Obj.cells #[.func (.func fl) #[] #[], .slice (some ⟨g, 0, none⟩) n cap, .int .i64 t] HeT))
    {L : List Hp} (hL : Laid3 w g cap L) (hln : L.length = n) (hks : KeysIn L) (hne : hb ≠ g) (hB : B ≤ g) {i0 : Nat} (hi0 : i0 < n) (hz : n < 1000000) (hR : RiseOk f (atH L) n i0) :
    Calls Try.prog 107 #[.pointer (some ⟨hb, 0, none⟩), .int .i64 (i0 : Int)] w fun e w' => e = .returned (.tuple #[]) ∧ Grw B g w w' ∧ ∃ L', L'.Perm L ∧ HeapOk f (atH L') n ∧ Laid3 w' g cap L' := by
  have HF := Lib.hid hF
  have HL := Lib.hid hL
  have HR := Lib.hid hR
  have HKS := Lib.hid hks
  have HLN := Lib.hid hln
  have HNE := Lib.hid hne
  have HBG := Lib.hid hB
  have H0 := Lib.hid h0
  have HGS : Hid (g < w.heap.size ∧ hb < w.heap.size) := Lib.hid ⟨by obtain ⟨cur, h1, _⟩ := hL; exact (Array.getElem?_eq_some_iff.1 h1).1, (Array.getElem?_eq_some_iff.1 h0).1⟩
  have hp0 := par_int i0
  have hi1 : (i0 : Int) < 1000000 := by omega
  have HI0 := Lib.hid hi0
  have HZ := Lib.hid hz
  clear hF hL hR hks hln hne hB h0 hi0 hz
  go_enter Try.func107, Try.ntmps107
  go_wp2_with fail
  go_loopw [1, 4] (fun v1 v4 wr => ∃ (i : Nat) (L' : List Hp), v1 = .int .i64 (i : Int) ∧ v4 = .int .i64 ((par i : Nat) : Int) ∧ i < n ∧ L'.Perm L ∧ RiseOk f (atH L') n i ∧ Laid3 wr g cap L' ∧ Grw B g w wr) (fun v1 _ _ => (intOf v1).toNat)
  case atStart => exact ⟨i0, L, rfl, rfl, HI0.out, List.Perm.refl _, HR.out, HL.out, Grw.refl _ _ _⟩
  case round =>
    obtain ⟨i, L', rfl, rfl, hin, hpm, hri, hla, hgr⟩ := hrel
    have HPM := Lib.hid hpm
    have HRI := Lib.hid hri
    have HLA := Lib.hid hla
    have HGR := Lib.hid hgr
    have HLN' : Hid (L'.length = n) := Lib.hid (hpm.length_eq.trans HLN.out)
    clear hp0 hi1 HR HL
    have hB0 : Hid (wr.heap[hb]? = some (Obj.cells #[.func (.func fl) #[] #[], .slice (some ⟨g, 0, none⟩) n cap, .int .i64 t] HeT)) := Lib.hid ((hgr.block hb HGS.out.2 HNE.out).trans H0.out)
    clear hpm hri hla hgr
    by_cases hi : i = 0
    · subst hi
      go_wp2_with fail
      go_returns
      exact ⟨rfl, HGR.out, L', HPM.out, HRI.out.done (.inl rfl), HLA.out⟩
    · have hpi : par i < i := by unfold par; omega
      have hx := HLA.out.at3 (atH_some (show i < L'.length by rw [HLN'.out]; exact hin))
      have hy := HLA.out.at3 (atH_some (show par i < L'.length by rw [HLN'.out]; omega))
      have kx : InI (atH L' i).key := HKS.out _ (HPM.out.mem_iff.1 (List.mem_of_getElem? (atH_some (show i < L'.length by rw [HLN'.out]; exact hin))))
      have ky : InI (atH L' (par i)).key := HKS.out _ (HPM.out.mem_iff.1 (List.mem_of_getElem? (atH_some (show par i < L'.length by rw [HLN'.out]; omega))))
      have h1 : (0 : Int) < (i : Int) := by omega
      have HIN := Lib.hid hin
      have HPI := Lib.hid hpi
      have HII := Lib.hid hi
      have hin' := hin
      have hpn : par i < n := by omega
      have j0' : (0 : Int) ≤ ((par i : Nat) : Int) := by omega
      have j1' : ((par i : Nat) : Int) < (n : Int) := by omega
      have i0' : (0 : Int) ≤ (i : Int) := by omega
      have i1' : (i : Int) < (n : Int) := by omega
      generalize hpar : par i = pi at *
      have HPAR := Lib.hid hpar
      clear hpar hin hpi hi
      by_cases ha : Ahd f (atH L' i) (atH L' (pi))
      · have HA := Lib.hid ha
        have HC := Lib.hid (ahead_yes HF.out hB0.out hin' hpn hx hy kx ky ha)
        clear kx ky hin' hpn
        generalize hex : atH L' i = ex at *
        generalize hey : atH L' pi = ey at *
        have HX := Lib.hid hx
        have HY := Lib.hid hy
        have HEX := Lib.hid hex
        have HEY := Lib.hid hey
        obtain ⟨xk, xn, xt⟩ := ex
        obtain ⟨yk, yn, yt⟩ := ey
        clear ha hx hy hex hey
        go_wp2_with fail
        refine HC.out.mono ?_
        rintro e w2 ⟨rfl, u2⟩
        have HU2 := Lib.hid u2
        have z1 := bcellAt u2 (cellB (j := 1) hB0.out rfl)
        have x0 := bcellAt u2 HX.out.1
        have x1 := bcellAt u2 HX.out.2.1
        have x2 := bcellAt u2 HX.out.2.2
        have y0 := bcellAt u2 HY.out.1
        have y1 := bcellAt u2 HY.out.2.1
        have y2 := bcellAt u2 HY.out.2.2
        clear u2
        simp only at x0 x1 x2 y0 y1 y2
        go_wp2_with fail
        have HLD : Hid (Laid3 w2.drew g cap L') := Lib.hid ((HLA.out.hold (Hold.below HU2.out)).hold (Hold.below (bd _)))
        have HGD : Hid (Grw B g w w2.drew) := Lib.hid ((HGR.out.trans (Grw.of (Nat.le_trans HBG.out (Nat.le_trans (Nat.le_of_lt HGS.out.1) HGR.out.below.size)) HU2.out)).trans (Grw.of (Nat.le_trans HBG.out (Nat.le_trans (Nat.le_of_lt HGS.out.1) (Nat.le_trans HGR.out.below.size HU2.out.size))) (bd _)))
        have hS : (fun b W => W.cell? ⟨hb, 1, none⟩ = some (.slice (some ⟨g, 0, none⟩) n cap) ∧ (b = false → W.cell? ⟨g, i * 3, none⟩ = some (.int .i64 xk) ∧ W.cell? ⟨g, i * 3 + 1, none⟩ = some (.int .i64 xn) ∧ W.cell? ⟨g, i * 3 + 2, none⟩ = some (.int .i64 xt) ∧ W.cell? ⟨g, pi * 3, none⟩ = some (.int .i64 yk) ∧ W.cell? ⟨g, pi * 3 + 1, none⟩ = some (.int .i64 yn) ∧ W.cell? ⟨g, pi * 3 + 2, none⟩ = some (.int .i64 yt))) false w2.drew := ⟨bcellAt (bd _) z1, fun _ => ⟨bcellAt (bd _) x0, bcellAt (bd _) x1, bcellAt (bd _) x2, bcellAt (bd _) y0, bcellAt (bd _) y1, bcellAt (bd _) y2⟩⟩
        refine lext_start [0, 1, 2, 3, 4, 5, 6, 7, 8, 9, 10, 11, 12, 13, 14, 15, 16, 17, 18, 19, 20, 21, 22, 23, 24, 25, 26, 27] 25 27 (F := (fun b W => W.cell? ⟨hb, 1, none⟩ = some (.slice (some ⟨g, 0, none⟩) n cap) ∧ (b = false → W.cell? ⟨g, i * 3, none⟩ = some (.int .i64 xk) ∧ W.cell? ⟨g, i * 3 + 1, none⟩ = some (.int .i64 xn) ∧ W.cell? ⟨g, i * 3 + 2, none⟩ = some (.int .i64 xt) ∧ W.cell? ⟨g, pi * 3, none⟩ = some (.int .i64 yk) ∧ W.cell? ⟨g, pi * 3 + 1, none⟩ = some (.int .i64 yn) ∧ W.cell? ⟨g, pi * 3 + 2, none⟩ = some (.int .i64 yt)))) (by kernel_rfl) ?_
        simp only [inOrder, List.filterMap, List.getElem?_cons_succ, List.getElem?_cons_zero]
        clear z1 x0 x1 x2 y0 y1 y2
        generalize w2.drew = V at *
        refine lext_take (i := 0) (v := ?_) rfl (by decide) (by decide) (by kernel_rfl) (by kernel_rfl) (by kernel_rfl) (by kernel_rfl) (by kernel_rfl) (by kernel_rfl) (by rfl) hS ?_ ?_
        rotate_left
        · ((intro W hW; obtain ⟨k0, hk⟩ := hW; obtain ⟨k1, k2, k3, k4, k5, k6⟩ := hk rfl; go_simp) <;> with_reducible rfl)
        simp only [Act.put, List.setIfInBounds_toArray, List.set_cons_zero, List.set_cons_succ]
        refine lext_take (i := 1) (v := ?_) rfl (by decide) (by decide) (by kernel_rfl) (by kernel_rfl) (by kernel_rfl) (by kernel_rfl) (by kernel_rfl) (by kernel_rfl) (by rfl) hS ?_ ?_
        rotate_left
        · ((intro W hW; obtain ⟨k0, hk⟩ := hW; obtain ⟨k1, k2, k3, k4, k5, k6⟩ := hk rfl; go_simp) <;> with_reducible rfl)
        simp only [Act.put, List.setIfInBounds_toArray, List.set_cons_zero, List.set_cons_succ]
        refine lext_take (i := 2) (v := ?_) rfl (by decide) (by decide) (by kernel_rfl) (by kernel_rfl) (by kernel_rfl) (by kernel_rfl) (by kernel_rfl) (by kernel_rfl) (by rfl) hS ?_ ?_
        rotate_left
        · ((intro W hW; obtain ⟨k0, hk⟩ := hW; obtain ⟨k1, k2, k3, k4, k5, k6⟩ := hk rfl; go_simp) <;> with_reducible rfl)
        simp only [Act.put, List.setIfInBounds_toArray, List.set_cons_zero, List.set_cons_succ]
        refine lext_take (i := 3) (v := ?_) rfl (by decide) (by decide) (by kernel_rfl) (by kernel_rfl) (by kernel_rfl) (by kernel_rfl) (by kernel_rfl) (by kernel_rfl) (by rfl) hS ?_ ?_
        rotate_left
        · ((intro W hW; obtain ⟨k0, hk⟩ := hW; obtain ⟨k1, k2, k3, k4, k5, k6⟩ := hk rfl; go_simp) <;> with_reducible rfl)
        simp only [Act.put, List.setIfInBounds_toArray, List.set_cons_zero, List.set_cons_succ]
        refine lext_take (i := 4) (v := ?_) rfl (by decide) (by decide) (by kernel_rfl) (by kernel_rfl) (by kernel_rfl) (by kernel_rfl) (by kernel_rfl) (by kernel_rfl) (by rfl) hS ?_ ?_
        rotate_left
        · ((intro W hW; obtain ⟨k0, hk⟩ := hW; obtain ⟨k1, k2, k3, k4, k5, k6⟩ := hk rfl; go_simp) <;> with_reducible rfl)
        simp only [Act.put, List.setIfInBounds_toArray, List.set_cons_zero, List.set_cons_succ]
        refine lext_late (i := 5) (v := ?_) (b := false) rfl (by decide) (by decide) (by kernel_rfl) (by kernel_rfl) (by kernel_rfl) (by kernel_rfl) (by kernel_rfl) (fun W h => ⟨h.1, fun e => by cases e⟩) (by rfl) hS ?_ ?_
        rotate_left
        · ((intro W hW; obtain ⟨k0, _⟩ := hW; go_simp) <;> with_reducible rfl)
        simp only [Act.put, List.setIfInBounds_toArray, List.set_cons_zero, List.set_cons_succ]
        refine lext_late (i := 6) (v := ?_) (b := false) rfl (by decide) (by decide) (by kernel_rfl) (by kernel_rfl) (by kernel_rfl) (by kernel_rfl) (by kernel_rfl) (fun W h => ⟨h.1, fun e => by cases e⟩) (by rfl) hS ?_ ?_
        rotate_left
        · ((intro W hW; obtain ⟨k0, _⟩ := hW; go_simp) <;> with_reducible rfl)
        simp only [Act.put, List.setIfInBounds_toArray, List.set_cons_zero, List.set_cons_succ]
        refine lext_late (i := 7) (v := ?_) (b := false) rfl (by decide) (by decide) (by kernel_rfl) (by kernel_rfl) (by kernel_rfl) (by kernel_rfl) (by kernel_rfl) (fun W h => ⟨h.1, fun e => by cases e⟩) (by rfl) hS ?_ ?_
        rotate_left
        · ((intro W hW; obtain ⟨k0, _⟩ := hW; go_simp) <;> with_reducible rfl)
        simp only [Act.put, List.setIfInBounds_toArray, List.set_cons_zero, List.set_cons_succ]
        refine lext_take (i := 8) (v := ?_) rfl (by decide) (by decide) (by kernel_rfl) (by kernel_rfl) (by kernel_rfl) (by kernel_rfl) (by kernel_rfl) (by kernel_rfl) (by rfl) hS ?_ ?_
        rotate_left
        · ((intro W hW; obtain ⟨k0, hk⟩ := hW; obtain ⟨k1, k2, k3, k4, k5, k6⟩ := hk rfl; go_simp) <;> with_reducible rfl)
        simp only [Act.put, List.setIfInBounds_toArray, List.set_cons_zero, List.set_cons_succ]
        refine lext_late (i := 9) (v := ?_) (b := false) rfl (by decide) (by decide) (by kernel_rfl) (by kernel_rfl) (by kernel_rfl) (by kernel_rfl) (by kernel_rfl) (fun W h => ⟨h.1, fun e => by cases e⟩) (by rfl) hS ?_ ?_
        rotate_left
        · ((intro W hW; obtain ⟨k0, _⟩ := hW; go_simp) <;> with_reducible rfl)
        simp only [Act.put, List.setIfInBounds_toArray, List.set_cons_zero, List.set_cons_succ]
        refine lext_take (i := 10) (v := ?_) rfl (by decide) (by decide) (by kernel_rfl) (by kernel_rfl) (by kernel_rfl) (by kernel_rfl) (by kernel_rfl) (by kernel_rfl) (by rfl) hS ?_ ?_
        rotate_left
        · ((intro W hW; obtain ⟨k0, hk⟩ := hW; obtain ⟨k1, k2, k3, k4, k5, k6⟩ := hk rfl; go_simp) <;> with_reducible rfl)
        simp only [Act.put, List.setIfInBounds_toArray, List.set_cons_zero, List.set_cons_succ]
        refine lext_take (i := 11) (v := ?_) rfl (by decide) (by decide) (by kernel_rfl) (by kernel_rfl) (by kernel_rfl) (by kernel_rfl) (by kernel_rfl) (by kernel_rfl) (by rfl) hS ?_ ?_
        rotate_left
        · ((intro W hW; obtain ⟨k0, hk⟩ := hW; obtain ⟨k1, k2, k3, k4, k5, k6⟩ := hk rfl; go_simp) <;> with_reducible rfl)
        simp only [Act.put, List.setIfInBounds_toArray, List.set_cons_zero, List.set_cons_succ]
        refine lext_take (i := 12) (v := ?_) rfl (by decide) (by decide) (by kernel_rfl) (by kernel_rfl) (by kernel_rfl) (by kernel_rfl) (by kernel_rfl) (by kernel_rfl) (by rfl) hS ?_ ?_
        rotate_left
        · ((intro W hW; obtain ⟨k0, hk⟩ := hW; obtain ⟨k1, k2, k3, k4, k5, k6⟩ := hk rfl; go_simp) <;> with_reducible rfl)
        simp only [Act.put, List.setIfInBounds_toArray, List.set_cons_zero, List.set_cons_succ]
        refine lext_take (i := 13) (v := ?_) rfl (by decide) (by decide) (by kernel_rfl) (by kernel_rfl) (by kernel_rfl) (by kernel_rfl) (by kernel_rfl) (by kernel_rfl) (by rfl) hS ?_ ?_
        rotate_left
        · ((intro W hW; obtain ⟨k0, hk⟩ := hW; obtain ⟨k1, k2, k3, k4, k5, k6⟩ := hk rfl; go_simp) <;> with_reducible rfl)
        simp only [Act.put, List.setIfInBounds_toArray, List.set_cons_zero, List.set_cons_succ]
        refine lext_take (i := 14) (v := ?_) rfl (by decide) (by decide) (by kernel_rfl) (by kernel_rfl) (by kernel_rfl) (by kernel_rfl) (by kernel_rfl) (by kernel_rfl) (by rfl) hS ?_ ?_
        rotate_left
        · ((intro W hW; obtain ⟨k0, hk⟩ := hW; obtain ⟨k1, k2, k3, k4, k5, k6⟩ := hk rfl; go_simp) <;> with_reducible rfl)
        simp only [Act.put, List.setIfInBounds_toArray, List.set_cons_zero, List.set_cons_succ]
        refine lext_take (i := 15) (v := ?_) rfl (by decide) (by decide) (by kernel_rfl) (by kernel_rfl) (by kernel_rfl) (by kernel_rfl) (by kernel_rfl) (by kernel_rfl) (by rfl) hS ?_ ?_
        rotate_left
        · ((intro W hW; obtain ⟨k0, hk⟩ := hW; obtain ⟨k1, k2, k3, k4, k5, k6⟩ := hk rfl; go_simp) <;> with_reducible rfl)
        simp only [Act.put, List.setIfInBounds_toArray, List.set_cons_zero, List.set_cons_succ]
        refine lext_take (i := 16) (v := ?_) rfl (by decide) (by decide) (by kernel_rfl) (by kernel_rfl) (by kernel_rfl) (by kernel_rfl) (by kernel_rfl) (by kernel_rfl) (by rfl) hS ?_ ?_
        rotate_left
        · ((intro W hW; obtain ⟨k0, hk⟩ := hW; obtain ⟨k1, k2, k3, k4, k5, k6⟩ := hk rfl; go_simp) <;> with_reducible rfl)
        simp only [Act.put, List.setIfInBounds_toArray, List.set_cons_zero, List.set_cons_succ]
        refine lext_late (i := 17) (v := ?_) (b := false) rfl (by decide) (by decide) (by kernel_rfl) (by kernel_rfl) (by kernel_rfl) (by kernel_rfl) (by kernel_rfl) (fun W h => ⟨h.1, fun e => by cases e⟩) (by rfl) hS ?_ ?_
        rotate_left
        · ((intro W hW; obtain ⟨k0, _⟩ := hW; go_simp) <;> with_reducible rfl)
        simp only [Act.put, List.setIfInBounds_toArray, List.set_cons_zero, List.set_cons_succ]
        refine lext_late (i := 18) (v := ?_) (b := false) rfl (by decide) (by decide) (by kernel_rfl) (by kernel_rfl) (by kernel_rfl) (by kernel_rfl) (by kernel_rfl) (fun W h => ⟨h.1, fun e => by cases e⟩) (by rfl) hS ?_ ?_
        rotate_left
        · ((intro W hW; obtain ⟨k0, _⟩ := hW; go_simp) <;> with_reducible rfl)
        simp only [Act.put, List.setIfInBounds_toArray, List.set_cons_zero, List.set_cons_succ]
        refine lext_late (i := 19) (v := ?_) (b := false) rfl (by decide) (by decide) (by kernel_rfl) (by kernel_rfl) (by kernel_rfl) (by kernel_rfl) (by kernel_rfl) (fun W h => ⟨h.1, fun e => by cases e⟩) (by rfl) hS ?_ ?_
        rotate_left
        · ((intro W hW; obtain ⟨k0, _⟩ := hW; go_simp) <;> with_reducible rfl)
        simp only [Act.put, List.setIfInBounds_toArray, List.set_cons_zero, List.set_cons_succ]
        refine lext_take (i := 20) (v := ?_) rfl (by decide) (by decide) (by kernel_rfl) (by kernel_rfl) (by kernel_rfl) (by kernel_rfl) (by kernel_rfl) (by kernel_rfl) (by rfl) hS ?_ ?_
        rotate_left
        · ((intro W hW; obtain ⟨k0, hk⟩ := hW; obtain ⟨k1, k2, k3, k4, k5, k6⟩ := hk rfl; go_simp) <;> with_reducible rfl)
        simp only [Act.put, List.setIfInBounds_toArray, List.set_cons_zero, List.set_cons_succ]
        refine lext_late (i := 21) (v := ?_) (b := false) rfl (by decide) (by decide) (by kernel_rfl) (by kernel_rfl) (by kernel_rfl) (by kernel_rfl) (by kernel_rfl) (fun W h => ⟨h.1, fun e => by cases e⟩) (by rfl) hS ?_ ?_
        rotate_left
        · ((intro W hW; obtain ⟨k0, _⟩ := hW; go_simp) <;> with_reducible rfl)
        simp only [Act.put, List.setIfInBounds_toArray, List.set_cons_zero, List.set_cons_succ]
        refine lext_late (i := 22) (v := ?_) (b := false) rfl (by decide) (by decide) (by kernel_rfl) (by kernel_rfl) (by kernel_rfl) (by kernel_rfl) (by kernel_rfl) (fun W h => ⟨h.1, fun e => by cases e⟩) (by rfl) hS ?_ ?_
        rotate_left
        · ((intro W hW; obtain ⟨k0, _⟩ := hW; go_simp) <;> with_reducible rfl)
        simp only [Act.put, List.setIfInBounds_toArray, List.set_cons_zero, List.set_cons_succ]
        refine lext_take (i := 23) (v := ?_) rfl (by decide) (by decide) (by kernel_rfl) (by kernel_rfl) (by kernel_rfl) (by kernel_rfl) (by kernel_rfl) (by kernel_rfl) (by rfl) hS ?_ ?_
        rotate_left
        · ((intro W hW; obtain ⟨k0, hk⟩ := hW; obtain ⟨k1, k2, k3, k4, k5, k6⟩ := hk rfl; go_simp) <;> with_reducible rfl)
        simp only [Act.put, List.setIfInBounds_toArray, List.set_cons_zero, List.set_cons_succ]
        refine lext_take (i := 24) (v := ?_) rfl (by decide) (by decide) (by kernel_rfl) (by kernel_rfl) (by kernel_rfl) (by kernel_rfl) (by kernel_rfl) (by kernel_rfl) (by rfl) hS ?_ ?_
        rotate_left
        · ((intro W hW; obtain ⟨k0, hk⟩ := hW; obtain ⟨k1, k2, k3, k4, k5, k6⟩ := hk rfl; go_simp) <;> with_reducible rfl)
        simp only [Act.put, List.setIfInBounds_toArray, List.set_cons_zero, List.set_cons_succ]
        refine lext_do (i := 25) (b := true) rfl (by kernel_rfl) (by kernel_rfl) (by rfl) (fun K hK => ?_)
        obtain ⟨s0, hs⟩ := hS
        obtain ⟨s1, s2, s3, s4, s5, s6⟩ := hs rfl
        clear hs s4 s5 s6
        have f1 := HLD.out.frz (i * 3)
        have f2 := HLD.out.frz (i * 3 + 1)
        have f3 := HLD.out.frz (i * 3 + 2)
        go_simp
        have hl1 := HLD.out.set ⟨yk, yn, yt⟩ (show i < L'.length by rw [HLN'.out]; exact HIN.out)
        have hg1 := HGD.out.trans (Grw.set3 V HBG.out (i * 3) (.int .i64 yk) (.int .i64 yn) (.int .i64 yt))
        have s0' : (((V.setCell ⟨g, i * 3, none⟩ (.int .i64 yk)).setCell ⟨g, i * 3 + 1, none⟩ (.int .i64 yn)).setCell ⟨g, i * 3 + 2, none⟩ (.int .i64 yt)).cell? ⟨hb, 1, none⟩ = some (.slice (some ⟨g, 0, none⟩) n cap) := cellB (((hg1.block hb HGS.out.2 HNE.out)).trans H0.out) rfl
        simp only at hl1
        generalize (((V.setCell ⟨g, i * 3, none⟩ (.int .i64 yk)).setCell ⟨g, i * 3 + 1, none⟩ (.int .i64 yn)).setCell ⟨g, i * 3 + 2, none⟩ (.int .i64 yt)) = V3 at *
        have HL1 := Lib.hid hl1
        have HG1 := Lib.hid hg1
        clear hl1 hg1 s0 s1 s2 s3 f1 f2 f3
        refine hK _ _ ⟨fun _ => ⟨s0', fun e => by cases e⟩, ?_⟩
        clear hK K
        have hS : (fun b W => W.cell? ⟨hb, 1, none⟩ = some (.slice (some ⟨g, 0, none⟩) n cap) ∧ (b = false → W.cell? ⟨g, i * 3, none⟩ = some (.int .i64 xk) ∧ W.cell? ⟨g, i * 3 + 1, none⟩ = some (.int .i64 xn) ∧ W.cell? ⟨g, i * 3 + 2, none⟩ = some (.int .i64 xt) ∧ W.cell? ⟨g, pi * 3, none⟩ = some (.int .i64 yk) ∧ W.cell? ⟨g, pi * 3 + 1, none⟩ = some (.int .i64 yn) ∧ W.cell? ⟨g, pi * 3 + 2, none⟩ = some (.int .i64 yt))) true V3 := ⟨s0', fun e => by cases e⟩
        clear s0'
        refine lext_late (i := 26) (v := ?_) (b := true) rfl (by decide) (by decide) (by kernel_rfl) (by kernel_rfl) (by kernel_rfl) (by kernel_rfl) (by kernel_rfl) (fun W h => ⟨h.1, fun e => by cases e⟩) (by rfl) hS ?_ ?_
        rotate_left
        · ((intro W hW; obtain ⟨k0, _⟩ := hW; go_simp) <;> with_reducible rfl)
        simp only [Act.put, List.setIfInBounds_toArray, List.set_cons_zero, List.set_cons_succ]
        refine lext_do (i := 27) (b := true) rfl (by kernel_rfl) (by kernel_rfl) (by rfl) (fun K hK => ?_)
        have hyL : Hid ((L'.set i ⟨yk, yn, yt⟩)[pi]? = some ⟨yk, yn, yt⟩) := Lib.hid (by rw [List.getElem?_set_ne (by have := HPI.out; omega), atH_some (show pi < L'.length by rw [HLN'.out]; have := HPI.out; have := HIN.out; omega), HEY.out])
        obtain ⟨s4, s5, s6⟩ := HL1.out.at3 hyL.out
        simp only at s4 s5 s6
        have f1 := HL1.out.frz (pi * 3)
        have f2 := HL1.out.frz (pi * 3 + 1)
        have f3 := HL1.out.frz (pi * 3 + 2)
        clear hS
        go_simp
        have hl2 := HL1.out.set ⟨xk, xn, xt⟩ (show pi < (L'.set i ⟨yk, yn, yt⟩).length by rw [List.length_set, HLN'.out]; have := HPI.out; have := HIN.out; omega)
        have hg2 := HG1.out.trans (Grw.set3 V3 HBG.out (pi * 3) (.int .i64 xk) (.int .i64 xn) (.int .i64 xt))
        simp only at hl2
        generalize (((V3.setCell ⟨g, pi * 3, none⟩ (.int .i64 xk)).setCell ⟨g, pi * 3 + 1, none⟩ (.int .i64 xn)).setCell ⟨g, pi * 3 + 2, none⟩ (.int .i64 xt)) = V4 at *
        have HL2 := Lib.hid hl2
        have HG2 := Lib.hid hg2
        clear hl2 hg2 s4 s5 s6 f1 f2 f3
        refine hK _ _ ⟨fun e => absurd rfl e, ?_⟩
        clear hK K
        refine lext_done (by kernel_rfl) ?_
        have hp1 := par_int pi
        go_wp2_with fail
        have hn1 : (pi : Int) < 1000000 := by have := HZ.out; have := HIN.out; have := HPI.out; omega
        have hw1 : wrap64 ((pi : Int) - 1) = (pi : Int) - 1 := by unfold wrap64; omega
        have hw2 : wrap64 ((wrap64 ((pi : Int) - 1)).tdiv 2) = ((par pi : Nat) : Int) := by rw [hw1, hp1]; unfold wrap64 par; omega
        have hin2 : i < L'.length := by rw [HLN'.out]; exact HIN.out
        have hpn2 : pi < L'.length := by rw [HLN'.out]; have := HPI.out; have := HIN.out; omega
        go_round
        case rel =>
          refine ⟨pi, swapL L' i pi, rfl, by rw [hw2], by have := HPI.out; have := HIN.out; omega, (swapL_perm hin2 hpn2).trans HPM.out, ?_, ?_, HG2.out⟩
          · rw [atH_swapL hin2 hpn2, ← HPAR.out]
            exact HRI.out.step (by omega) HIN.out (by rw [HPAR.out, HEX.out, HEY.out]; exact HA.out)
          · unfold swapL
            rw [HEX.out, HEY.out]
            exact HL2.out
        case measure => simp [intOf]; have := HPI.out; omega
      · have HC := Lib.hid (ahead_no HF.out hB0.out hin' hpn hx hy kx ky ha)
        have HA := Lib.hid ha
        clear ha kx ky hin' hpn hx hy
        go_wp2_with fail
        refine HC.out.mono ?_
        rintro e w2 ⟨rfl, u2⟩
        have HU2 := Lib.hid u2
        clear u2
        go_wp2_with fail
        go_returns
        exact ⟨rfl, HGR.out.trans (Grw.of (Nat.le_trans HBG.out (Nat.le_trans (Nat.le_of_lt HGS.out.1) HGR.out.below.size)) HU2.out), L', HPM.out, HRI.out.done (.inr (by rw [HPAR.out]; exact HA.out)), HLA.out.hold (Hold.below HU2.out)⟩
end Go.Proofs.Ytmbaedldikobcaa
