/-
  The document's New, out, Drop, Hold, Tick, Deliver.
-/
import Derived.Test.YtgnmieobgdbafaaNRs
namespace Go.Proofs.Ytgnmieobgdbafaa
open Go.RowKit
set_option linter.unusedVariables false
theorem rnew_is (w : World) : IsM (w.alloc (.cells #[.slice none 0 0, .slice none 0 0, .int .i64 0, .bool false, .bool false, .bool false, .bool false, .bool false, .bool false, .bool false, .bool false, .bool false, .int .i64 0, .int .i64 0, .int .i64 0, .int .i64 0, .int .i64 0, .int .i64 0, .int .i64 0, .int .i64 0, .int .i64 0, .int .i64 0, .int .i64 0, .int .i64 0, .int .i64 0, .int .i64 0, .int .i64 0, .int .i64 0, .int .i64 0, .int .i64 0] RNT)) w.heap.size w.heap.size (.slice none 0 0) (.slice none 0 0) newNt := by
  refine ⟨⟨_, heap_alloc_new _ _, ?_⟩, World.ownsRow_nil _ _ _ 5, World.ownsRow_nil _ _ _ 5, fun k hk => (by cases hk), Nat.le_refl _⟩
  refine ⟨rfl, rfl, rfl, rfl, fun k hk => ?_⟩
  match k, hk with
  | 0, _ => exact ⟨rfl, rfl, rfl⟩
  | 1, _ => exact ⟨rfl, rfl, rfl⟩
  | 2, _ => exact ⟨rfl, rfl, rfl⟩
  | 3, _ => exact ⟨rfl, rfl, rfl⟩
  | 4, _ => exact ⟨rfl, rfl, rfl⟩
  | 5, _ => exact ⟨rfl, rfl, rfl⟩
  | 6, _ => exact ⟨rfl, rfl, rfl⟩
  | 7, _ => exact ⟨rfl, rfl, rfl⟩
  | 8, _ => exact ⟨rfl, rfl, rfl⟩
set_option maxRecDepth 20000 in
theorem rnew_any (w : World) : Calls Try.prog 11 #[] w fun e w' => e = .returned (.pointer (some ⟨w.heap.size, 0, none⟩)) ∧ IsM w' w.heap.size w.heap.size (.slice none 0 0) (.slice none 0 0) newNt ∧ Below w.heap.size w w' := by
  go_enter Try.func11, Try.ntmps11
  go_wp2_with fail
  go_returns
  exact ⟨rfl, rnew_is w, (Below.refl _ _).alloc (Nat.le_refl _) _⟩
set_option maxRecDepth 100000 in
set_option maxHeartbeats 3200000 in
theorem rout_any {w : World} {B a : Nat} {F H : Value} {x : Nt} (h : IsM w B a F H x) (hB : B ≤ w.heap.size) (k : Nat) (p : Pk) (hk : x.fl[k]? = some p) (hl : x.fl.length ≤ 5000) :
    Calls Try.prog 52 #[.pointer (some ⟨a, 0, none⟩), .int .i64 (k : Int)] w fun e w' => e = .returned p.val ∧ WentM B a F H { x with fl := outP x.fl k } w w' := by
  have hkl := (List.getElem?_eq_some_iff.1 hk).1
  obtain ⟨gg, gc, rfl⟩ := own_slice h.rowF (by omega)
  have hla := (laid_of_own (h.rowF)).1
  have hcap : x.fl.length ≤ gc := by obtain ⟨_, _, _, q, _⟩ := hla; exact q
  have b0 : Below w.heap.size w (w.alloc (.cells zC PkT)) := (Below.refl _ _).alloc (Nat.le_refl _) _
  have b1 : Below w.heap.size w ((w.alloc (.cells zC PkT)).alloc (.cells (pkCells p) PkT)) := b0.alloc (by simp) _
  have hsz : ((w.alloc (.cells zC PkT)).alloc (.cells (pkCells p) PkT)).heap.size = w.heap.size + 2 := by simp
  have z0 : ((w.alloc (.cells zC PkT)).alloc (.cells (pkCells p) PkT)).heap[w.heap.size]? = some (.cells zC PkT) := by
    rw [((Below.refl _ _).alloc (Nat.le_refl _) _ : Below (w.alloc (.cells zC PkT)).heap.size (w.alloc (.cells zC PkT)) _).block _ (by simp)]; exact heap_alloc_new _ _
  have z1 : ((w.alloc (.cells zC PkT)).alloc (.cells (pkCells p) PkT)).heap[w.heap.size + 1]? = some (.cells (pkCells p) PkT) := by
    have e : w.heap.size + 1 = (w.alloc (.cells zC PkT)).heap.size := by simp
    rw [e]; exact heap_alloc_new _ _
  have c1 := bcellAt b0 h.c0.2.1
  obtain ⟨t0, t1, t2, t3, t4⟩ := (hla.below b0).at5 hk
  have HX := Lib.hid (h.below b1)
  have H0 := Lib.hid h
  have HLA := Lib.hid (hla.below b1)
  have HGL := Lib.hid hla.lt
  have B1 := Lib.hid b1
  have Z0 := Lib.hid z0
  have Z1 := Lib.hid z1
  have HSZ := Lib.hid hsz
  have HL := Lib.hid hl
  have HKL := Lib.hid hkl
  have HCAP := Lib.hid hcap
  have HBB := Lib.hid (Nat.le_trans hB b1.size)
  have i0 : (0 : Int) ≤ (k : Int) := by omega
  have i1 : (k : Int) < (x.fl.length : Int) := by omega
  clear h b0 b1 z0 z1 hsz hl hcap hla hk hkl hB
  go_enter Try.func52, Try.ntmps52
  go_wp2_with fail
  clear c1 t0 t1 t2 t3 t4 i0 i1
  generalize ((w.alloc (.cells zC PkT)).alloc (.cells (pkCells p) PkT)) = W at *
  have KK : Hid (∀ V : World, Below W.heap.size W V → V.cell? ⟨a, 0, none⟩ = some (.slice (some ⟨gg, 0, none⟩) x.fl.length gc)) := Lib.hid (fun V hV => (HX.out.below hV).c0.2.1)
  have hw1 : IntKind.i64.wrap ((k : Int) + 1) = ((k + 1 : Nat) : Int) := by rw [show (k : Int) + 1 = ((k + 1 : Nat) : Int) by omega]; exact IntWalk.i64_in _ (by have := HL.out; have := HKL.out; omega)
  have s1 := fun V => run_takeP (g := gg) (cap := gc) (n := x.fl.length) (k := k) (by have := HKL.out; omega) HCAP.out V
  have s2 := fun V => run_dropP (g := gg) (cap := gc) (n := x.fl.length) (k := k + 1) (by have := HKL.out; omega) HCAP.out V
  have kd := KK.out W.drew (bd W)
  have j0 : (0 : Int) ≤ (k : Int) + 1 := by omega
  have j1 : k ≤ x.fl.length := by have := HKL.out; omega
  have j2 : k + 1 ≤ x.fl.length := by have := HKL.out; omega
  have j3 : (k : Int) ≤ (x.fl.length : Int) := by omega
  have j4 : (k : Int) + 1 ≤ (x.fl.length : Int) := by omega
  have j5 : (0 : Int) ≤ (k : Int) := by omega
  refine lq_start [0, 2, 3, 4, 5, 6, 7, 9, 10, 11, 12, 13, 14, 15, 1, 8, 16, 17, 18, 19] 19 (S := fun V => V.cell? ⟨a, 0, none⟩ = some (.slice (some ⟨gg, 0, none⟩) x.fl.length gc)) (by kernel_rfl) ?_
  simp only [inOrder, List.filterMap, List.getElem?_cons_succ, List.getElem?_cons_zero]
  iterate 14 (refine lq_take rfl (by kernel_rfl) (by rfl) kd (by (intro V s0; go_simp) <;> with_reducible rfl) ?_); simp only [Act.put, List.setIfInBounds_toArray, List.set_cons_zero, List.set_cons_succ]
  refine lq_do rfl (by kernel_rfl) (by rfl) (fun K hK => ?_)
  go_simp
  have b3 : Below W.heap.size W (W.alloc (.cells #[] PkT)).drew := balN W _
  have O3 := Lib.hid (show (W.alloc (.cells #[] PkT)).drew.ownsRow W.heap.size PkT 5 (.slice (some ⟨W.heap.size, 0, none⟩) 0 0) ([] : List Pk).length (pks []) from own_newP (Nat.le_refl _))
  have B3 := Lib.hid b3
  have L3 := Lib.hid (HLA.out.below b3)
  generalize (W.alloc (.cells #[] PkT)).drew = W3 at *
  refine hK _ _ ⟨fun _ => KK.out _ B3.out, ?_⟩
  clear hK K s1 s2 kd b3
  try simp only [Act.put, List.setIfInBounds_toArray, List.set_cons_zero, List.set_cons_succ]
  have HTL : Hid ((x.fl.take k).length = k) := Lib.hid (by simp; omega)
  refine lq_do rfl (by kernel_rfl) (by rfl) (fun K hK => ?_)
  refine wp_apps (.tmp 14) (.tmp 20) rfl W.heap.size _ [] rfl O3.out _ (x.fl.take k) rfl (by
    rw [HTL.out]
    exact ⟨by rw [pks_len, HTL.out], .inr ⟨gg, 0, gc, rfl, L3.out.lt, by have := HCAP.out; omega, (laid_of_own (H0.out.rowF)).2.2.1, fun j u hj => by
      rw [Nat.zero_add]
      refine L3.out.cells ?_
      have e : pks x.fl = pks (x.fl.take k) ++ pks (x.fl.drop k) := by rw [← pks_append, List.take_append_drop]
      rw [e, List.getElem?_append_left (List.getElem?_eq_some_iff.1 hj).1]; exact hj⟩⟩) (by rw [HTL.out]; have := HL.out; show 0 + k ≤ _; omega) B3.out.size ?_
  intro v4 w4 o4 g4 at4
  have B4 := Lib.hid (B3.out.grown g4 B3.out.size (fun j hj => (own_from O3.out hj).1))
  have O4 : Hid (w4.ownsRow W.heap.size PkT 5 v4 (x.fl.take k).length (pks (x.fl.take k))) := Lib.hid (by simpa using o4)
  have L4 := Lib.hid (HLA.out.below B4.out)
  refine hK _ _ ⟨fun _ => KK.out _ B4.out, ?_⟩
  clear hK K o4 g4 at4
  try simp only [Act.put, List.setIfInBounds_toArray, List.set_cons_zero, List.set_cons_succ]
  have HDL : Hid ((x.fl.drop (k + 1)).length = x.fl.length - (k + 1)) := Lib.hid (by simp)
  refine lq_do rfl (by kernel_rfl) (by rfl) (fun K hK => ?_)
  refine wp_apps (.tmp 21) (.tmp 28) rfl W.heap.size _ (x.fl.take k) rfl O4.out _ (x.fl.drop (k + 1)) rfl (by
    rw [HDL.out]
    refine ⟨by rw [pks_len, HDL.out], .inr ⟨gg, if gc = k + 1 then 0 else (k + 1) * 5, gc - (k + 1), (by show Value.slice _ _ _ = _; split <;> rfl), L4.out.lt, by have := HCAP.out; omega, by have := (laid_of_own (H0.out.rowF)).2.2.1; omega, fun j u hj => ?_⟩⟩
    have hj2 := (List.getElem?_eq_some_iff.1 hj).1
    rw [pks_len, HDL.out] at hj2
    rw [if_neg (by have := HCAP.out; omega)]
    refine L4.out.cells ?_
    have e : pks x.fl = pks (x.fl.take (k + 1)) ++ pks (x.fl.drop (k + 1)) := by rw [← pks_append, List.take_append_drop]
    have e2 : (pks (x.fl.take (k + 1))).length = (k + 1) * 5 := by rw [pks_len]; simp; omega
    rw [e, List.getElem?_append_right (by omega), e2, Nat.add_sub_cancel_left]; exact hj) (by rw [HTL.out, HDL.out]; have := HL.out; omega) B4.out.size ?_
  intro v5 w5 o5 g5 at5
  have B5 := Lib.hid (B4.out.grown g5 B4.out.size (fun j hj => (own_from O4.out hj).1))
  have hO5 : w5.ownsRow W.heap.size PkT 5 v5 (outP x.fl k).length (pks (outP x.fl k)) := o5
  obtain ⟨va, vc, rfl⟩ := slice_of hO5
  have O5 := Lib.hid hO5
  refine hK _ _ ⟨fun _ => KK.out _ B5.out, ?_⟩
  clear hK K o5 g5 at5 hO5
  try simp only [Act.put, List.setIfInBounds_toArray, List.set_cons_zero, List.set_cons_succ]
  have I5 := Lib.hid (HX.out.below B5.out)
  iterate 2 (refine lq_take rfl (by kernel_rfl) (by rfl) (KK.out _ B5.out) (by (intro V s0; go_simp) <;> with_reducible rfl) ?_); simp only [Act.put, List.setIfInBounds_toArray, List.set_cons_zero, List.set_cons_succ]
  have ca := I5.out.c0.2.1
  have fa := I5.out.frz 0
  refine lq_do rfl (by kernel_rfl) (by rfl) (fun K hK => ?_)
  go_simp
  refine hK _ _ ⟨fun e => absurd rfl e, ?_⟩
  clear hK K ca fa
  refine lq_done (by kernel_rfl) ?_
  have H6 := Lib.hid (HX.out.newF (w' := w5) (L := outP x.fl k) (v := .slice va (outP x.fl k).length vc) (touch_of_below B5.out _) (own_mono O5.out HBB.out) (fun j hj => .inr (own_from O5.out hj).1))
  have T6 := Lib.hid ((touch_of_below B5.out (fun j => j = a)).trans (touch_set w5 a 0 (.slice va (outP x.fl k).length vc) (fun j => j = a) rfl))
  have OF6 := Lib.hid (fun j (hj : (Value.slice va (outP x.fl k).length vc).ownBlock = some j) => (own_from O5.out hj).1)
  generalize (w5.setCell ⟨a, 0, none⟩ (.slice va (outP x.fl k).length vc)) = W6 at *
  have zb := (T6.out.block w.heap.size (Nat.lt_of_lt_of_eq (show w.heap.size < w.heap.size + 2 by omega) HSZ.out.symm) (fun e => by have := H0.out.lt; omega)).trans Z0.out
  have zp := (T6.out.block (w.heap.size + 1) (Nat.lt_of_lt_of_eq (show w.heap.size + 1 < w.heap.size + 2 by omega) HSZ.out.symm) (fun e => by have := H0.out.lt; omega)).trans Z1.out
  obtain ⟨p0, p1, p2, p3, p4⟩ := pk5 zp
  obtain ⟨n0, n1, n2, n3, n4⟩ := pk5 (p := zeroP) zb
  obtain ⟨f0, f1, f2, f3, f4⟩ := frz5 zb
  have HZ := Lib.hid (setB_is (q := zeroP) (p := p) zb)
  have TZ := Lib.hid (setB_touch W6 w.heap.size p)
  clear zb zp
  generalize (if gc = k + 1 then some (⟨gg, 0, none⟩ : Addr) else some ⟨gg, (k + 1) * 5, none⟩) = dd
  go_wp2_with fail
  rw [show (((((W6.setCell ⟨w.heap.size, 0, none⟩ (.int .i64 p.id)).setCell ⟨w.heap.size, 1, none⟩ (.int .i64 (p.fr : Int))).setCell ⟨w.heap.size, 2, none⟩ (.int .i64 (p.tt : Int))).setCell ⟨w.heap.size, 3, none⟩ (.string p.bd)).setCell ⟨w.heap.size, 4, none⟩ (.int .i64 p.hl)) = setB W6 w.heap.size p from rfl]
  generalize setB W6 w.heap.size p = W7 at *
  clear n0 n1 n2 n3 n4 p0 p1 p2 p3 p4 f0 f1 f2 f3 f4
  obtain ⟨n0, n1, n2, n3, n4⟩ := pk5 HZ.out
  refine bodyPost_ret (v := p.val) (by simp [results, Try.results52, go_sem, n0, n1, n2, n3, n4]) rfl ⟨rfl, _, H, H6.out.keep TZ.out (fun j hj e => ?_), ?_, fun j hj => ?_⟩
  · subst e
    rcases hj with hj | hj | hj
    · have := H0.out.lt; omega
    · have := OF6.out _ hj; have := HSZ.out; omega
    · have := (H0.out.own_lt (.inr (.inr hj))).2; omega
  · exact ((touch_of_below B1.out _).step T6.out (fun j hj => .inl (.inl hj))).step TZ.out (fun j hj => .inr (by omega))
  · rcases hj with hj | hj | hj
    · exact .inl (.inl hj)
    · exact .inr (by have := OF6.out _ hj; have := HSZ.out; omega)
    · exact .inl (.inr (.inr hj))
set_option maxRecDepth 100000 in
set_option maxHeartbeats 3200000 in
theorem rdrop_any {w : World} {B a : Nat} {F H : Value} {x : Nt} (h : IsM w B a F H x) (hB : B ≤ w.heap.size) (hl : x.fl.length ≤ 5000) (i : Int) :
    Calls Try.prog 30 #[.pointer (some ⟨a, 0, none⟩), .int .i64 i] w fun e w' => e = .returned (.int .i64 (dropP x i).2) ∧ WentM B a F H (dropP x i).1 w w' := by
  have hh := rplace_any h i
  rcases hg : getP x.fl i with _ | p
  · rw [show dropP x i = (x, 7) by unfold dropP; rw [hg]]
    rw [hg] at hh
    have H0 := Lib.hid h
    clear h hg
    go_enter Try.func30, Try.ntmps30
    go_wp2_with fail
    refine hh.mono ?_
    rintro e w1 ⟨rfl, rfl⟩
    go_wp2_with fail
    go_returns
    exact ⟨rfl, WentM.same H0.out (Below.refl _ _)⟩
  · rw [show dropP x i = ({ x with fl := outP x.fl i.toNat }, 0) by unfold dropP; rw [hg]]
    rw [hg] at hh
    obtain ⟨k, rfl, hk, hkl, hkn⟩ := getP_some hg
    rw [hkn]
    have htk := rout_any h hB k p hk hl
    clear h hg hk hB
    go_enter Try.func30, Try.ntmps30
    go_wp2_with fail
    refine hh.mono ?_
    rintro e w1 ⟨rfl, rfl⟩
    go_wp2_with fail
    refine htk.mono ?_
    rintro e w3 ⟨rfl, h3⟩
    have H3 := Lib.hid h3
    clear h3 htk hh
    go_wp2_with fail
    go_returns
    exact ⟨rfl, H3.out⟩
set_option maxRecDepth 100000 in
set_option maxHeartbeats 3200000 in
theorem rhold_any {w : World} {B a : Nat} {F H : Value} {x : Nt} (h : IsM w B a F H x) (i t : Int) :
    Calls Try.prog 33 #[.pointer (some ⟨a, 0, none⟩), .int .i64 i, .int .i64 t] w fun e w' => e = .returned (.int .i64 (holdP x i t).2) ∧ WentM B a F H (holdP x i t).1 w w' := by
  have hh := rplace_any h i
  have H0 := Lib.hid h
  rcases hg : getP x.fl i with _ | p
  · rw [holdP_no hg]
    rw [hg] at hh
    clear h hg
    go_enter Try.func33, Try.ntmps33
    go_wp2_with fail
    refine hh.mono ?_
    rintro e w1 ⟨rfl, rfl⟩
    go_wp2_with fail
    go_returns
    exact ⟨rfl, WentM.same H0.out (Below.refl _ _)⟩
  rw [hg] at hh
  by_cases h0 : t < 0
  · rw [holdP_arg hg (.inl h0)]
    clear h hg
    go_enter Try.func33, Try.ntmps33
    go_wp2_with fail
    refine hh.mono ?_
    rintro e w1 ⟨rfl, rfl⟩
    go_wp2_with fail
    go_returns
    exact ⟨rfl, WentM.same H0.out (Below.refl _ _)⟩
  by_cases h1 : 1000 < t
  · rw [holdP_arg hg (.inr h1)]
    clear h hg
    go_enter Try.func33, Try.ntmps33
    go_wp2_with fail
    refine hh.mono ?_
    rintro e w1 ⟨rfl, rfl⟩
    go_wp2_with fail
    go_returns
    exact ⟨rfl, WentM.same H0.out (Below.refl _ _)⟩
  rw [holdP_ok hg (by omega)]
  obtain ⟨k, rfl, hk, hkl, hkn⟩ := getP_some hg
  rw [hkn]
  obtain ⟨gg, gc, rfl⟩ := own_slice h.rowF (by omega)
  have c1 := h.c0.2.1
  have hla := (laid_of_own (h.rowF)).1
  obtain ⟨t0, t1, t2, t3, t4⟩ := hla.at5 hk
  have f4 := hla.frz (k * 5 + 4)
  have HLA := Lib.hid (hla.setH hk t)
  have i0 : (0 : Int) ≤ (k : Int) := by omega
  have i1 : (k : Int) < (x.fl.length : Int) := by omega
  clear h hg hk hla
  go_enter Try.func33, Try.ntmps33
  go_wp2_with fail
  refine hh.mono ?_
  rintro e w1 ⟨rfl, rfl⟩
  go_wp2_with fail
  go_returns
  have ts := touch_set w gg (k * 5 + 4) (.int .i64 t) (fun j => j = gg) rfl
  exact ⟨rfl, _, H, H0.out.wroteF ts HLA.out (by simp), ts.mono (fun j _ hj => .inr (.inl (by rw [hj]; rfl))), fun j hj => .inl hj⟩
set_option maxRecDepth 100000 in
set_option maxHeartbeats 3200000 in
theorem rtick_any {w : World} {B a : Nat} {F H : Value} {x : Nt} (h : IsM w B a F H x) (hl : x.fl.length ≤ 5000) (hn : ∀ p ∈ x.fl, 0 ≤ p.hl ∧ p.hl ≤ 1000) :
    Calls Try.prog 34 #[.pointer (some ⟨a, 0, none⟩)] w fun e w' => e = .returned (.tuple #[]) ∧ WentM B a F H (tickP x) w w' := by
  have H0 := Lib.hid h
  have HL := Lib.hid hl
  have HN := Lib.hid hn
  obtain ⟨fa, fc, rfl⟩ := slice_of h.rowF
  clear h hl hn
  go_enter Try.func34, Try.ntmps34
  go_wp2_with fail
  go_loopw [2] (fun v wr => ∃ k : Nat, v = .int .i64 (k : Int) ∧ k ≤ x.fl.length ∧ IsM wr B a (.slice fa x.fl.length fc) H { x with fl := (x.fl.take k).map tick1 ++ x.fl.drop k } ∧ Touch (OwnN a (.slice fa x.fl.length fc) H) w wr) (fun v _ => x.fl.length - (intOf v).toNat)
  case atStart => exact ⟨0, rfl, Nat.zero_le _, by simpa using H0.out, Touch.refl _ _⟩
  case round =>
    obtain ⟨k, rfl, hk, hI, hT⟩ := hrel
    have HI := Lib.hid hI
    have HT := Lib.hid hT
    have c1' := hI.c0.2.1
    clear hI hT
    by_cases hlt : k < x.fl.length
    · obtain ⟨p, hp⟩ : ∃ p, x.fl[k]? = some p := ⟨_, List.getElem?_eq_getElem hlt⟩
      have hk2 := (tick_at x.fl k hk).trans hp
      obtain ⟨gg, gc, hg⟩ := own_slice HI.out.rowF (by rw [tick_len]; omega)
      have hg2 : fa = some ⟨gg, 0, none⟩ := by
        have := hg; simp only [Value.slice.injEq] at this; exact this.1
      subst hg2
      have ho2 : wr.ownsRow B PkT 5 (.slice (some ⟨gg, 0, none⟩) x.fl.length fc) ((x.fl.take k).map tick1 ++ x.fl.drop k).length (pks ((x.fl.take k).map tick1 ++ x.fl.drop k)) := HI.out.rowF
      have hla := (laid_of_own (ho2)).1
      obtain ⟨_, _, _, _, t4⟩ := hla.at5 hk2
      have f4 := hla.frz (k * 5 + 4)
      have hb := HN.out p (List.mem_of_getElem? hp)
      have HLA := Lib.hid (hla.setH hk2 (if 0 < p.hl then p.hl - 1 else 0))
      have HLB := Lib.hid hla
      have HK2 := Lib.hid hk2
      have HS := Lib.hid (tick_step x.fl k p hp)
      have i0 : (0 : Int) ≤ (k : Int) := by omega
      have i1 : (k : Int) < (x.fl.length : Int) := by omega
      have hw1 : IntKind.i64.wrap (p.hl - 1) = p.hl - 1 := IntWalk.i64_in _ (by omega)
      have hw2 : IntKind.i64.wrap ((k : Int) + 1) = (k : Int) + 1 := IntWalk.i64_in _ (by have := HL.out; omega)
      have hp1 : decide ((k : Int) < (x.fl.length : Int)) = true := by simpa using hlt
      have HLT := Lib.hid hlt
      have HB0 := Lib.hid hb
      clear hla ho2 hg hp hk2 hlt hk hb
      by_cases hpos : 0 < p.hl
      · have hpd : decide (0 < p.hl) = true := by simpa using hpos
        have HM := Lib.hid (show tick1 p = { p with hl := p.hl - 1 } from by unfold tick1; rw [if_pos hpos])
        have HLA2 : Hid (LaidP (wr.setCell ⟨gg, k * 5 + 4, none⟩ (.int .i64 (p.hl - 1))) gg fc (((x.fl.take k).map tick1 ++ x.fl.drop k).set k { p with hl := p.hl - 1 })) := Lib.hid (by have := HLA.out; rw [if_pos hpos] at this; exact this)
        clear hpos
        go_wp2_with fail
        have tq : Touch (fun j => j = gg) wr (wr.setCell ⟨gg, k * 5 + 4, none⟩ (.int .i64 (p.hl - 1))) := touch_set wr gg _ _ (fun j => j = gg) rfl
        have H5 := Lib.hid (HI.out.wroteF (n := x.fl.length) tq HLA2.out (by rw [List.length_set, tick_len]))
        have T5 := Lib.hid (HT.out.trans (tq.mono (fun j _ hj => (.inr (.inl (by rw [hj]; rfl)) : OwnN a (.slice (some ⟨gg, 0, none⟩) x.fl.length fc) H j))))
        clear tq t4 f4 c1'
        generalize (wr.setCell ⟨gg, k * 5 + 4, none⟩ (.int .i64 (p.hl - 1))) = wn at *
        go_roundw
        case rel =>
          refine ⟨k + 1, by simp, HLT.out, ?_, T5.out⟩
          have := H5.out
          rw [← HM.out, HS.out] at this
          exact this
        case measure => have := HLT.out; simp [intOf]; omega
      · have hpd : decide (0 < p.hl) = false := by simpa using hpos
        have HM : Hid (tick1 p = p) := Lib.hid (by unfold tick1; rw [if_neg hpos, show (0 : Int) = p.hl by have := HB0.out; omega])
        clear hpos
        go_wp2_with fail
        go_roundw
        case rel =>
          refine ⟨k + 1, by simp, HLT.out, ?_, HT.out⟩
          have hs := HS.out
          rw [HM.out] at hs
          have he : ((x.fl.take k).map tick1 ++ x.fl.drop k).set k p = (x.fl.take k).map tick1 ++ x.fl.drop k := by
            apply List.ext_getElem?
            intro j
            by_cases hj : j = k
            · subst hj; rw [List.getElem?_set_self (List.getElem?_eq_some_iff.1 HK2.out).1, HK2.out]
            · rw [List.getElem?_set_ne (fun e => hj e.symm)]
          rw [← hs, he]
          exact HI.out
        case measure => have := HLT.out; simp [intOf]; omega
    · obtain rfl : k = x.fl.length := by omega
      have hp1 : decide ((x.fl.length : Int) < (x.fl.length : Int)) = false := by simp
      clear hlt hk
      go_wp2_with fail
      go_end0
      have := HI.out
      simp only [List.take_length, List.drop_length, List.append_nil] at this
      exact ⟨rfl, _, H, this, HT.out, fun j hj => .inl hj⟩
end Go.Proofs.Ytgnmieobgdbafaa
