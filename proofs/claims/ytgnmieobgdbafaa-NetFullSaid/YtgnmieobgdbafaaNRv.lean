/-
  The document's Move. (Written by gen_nrv.py.)
-/
import Derived.Test.YtgnmieobgdbafaaNRe
namespace Go.Proofs.Ytgnmieobgdbafaa
open Go.RowKit
set_option linter.unusedVariables false
section
variable {P : Program} {ops : Array Oper} {Q : Exit → Act → World → Prop} {md : Region.Mode} {S : World → Prop}
theorem li_two {i j : Nat} {is : List Nat} {oi oj : Oper} {os : List Oper} {fuel : Nat} {listed : Array Bool} {a : Act} {w : World}
    (hi : ops[i]? = some oi) (hj : ops[j]? = some oj) (hr : Region.ready md ops listed = [i, j]) (hwi : Region.wanted oi (yielded ops a.tmps) = true) (hwj : Region.wanted oj (yielded ops a.tmps) = true)
    (h1 : ∀ K : Act → World → Prop, (∀ a' w', S w' ∧ LexI P md ops Q S (j :: is) (oj :: os) fuel (listed.setIfInBounds i true) a' w' → K a' w') → Oper.wp P oi a w K Q)
    (h2 : ∀ K : Act → World → Prop, (∀ a' w', S w' ∧ LexI P md ops Q S (i :: is) (oi :: os) fuel (listed.setIfInBounds j true) a' w' → K a' w') → Oper.wp P oj a w K Q) : LexI P md ops Q S (i :: j :: is) (oi :: oj :: os) (fuel + 1) listed a w := by
  refine wpAnyH_all hr (by simp) fun q hq => ?_
  simp only [List.mem_cons, List.mem_nil_iff, or_false] at hq
  rcases hq with rfl | rfl
  · unfold wpOp
    simp only [hi, hwi, if_true]
    exact .inl (h1 _ fun a' w' h => h)
  · unfold wpOp
    simp only [hj, hwj, if_true]
    exact .inl (h2 _ fun a' w' h => h)
/-- The operations that are still to come, shown in another order. -/
theorem li_swap {i j : Nat} {is : List Nat} {oi oj : Oper} {os : List Oper} {fuel : Nat} {listed : Array Bool} {a : Act} {w : World} (h : LexI P md ops Q S (j :: i :: is) (oj :: oi :: os) fuel listed a w) : LexI P md ops Q S (i :: j :: is) (oi :: oj :: os) fuel listed a w := h
end
theorem own_take {w : World} {B : Nat} {v : Value} {L : List Pk} (h : w.ownsRow B PkT 5 v L.length (pks L)) {k : Nat} (hk : k ≤ L.length) : ∃ v', Row w 5 v' (L.take k).length (pks (L.take k)) ∧ ∀ W : World, (Instr.slice SlP v none (some (.int .i64 (k : Int))) none).run Try.prog W = .ok v' W := by
  have hkl : (L.take k).length = k := by simp; omega
  rcases h.2 with ⟨rfl, h0⟩ | ⟨g, cap, cur, rfl, hb, hg, hle, hm, hc, ht⟩
  · obtain rfl : k = 0 := by omega
    refine ⟨.slice none 0 0, ⟨by rw [pks_len], .inl ⟨rfl, by simp⟩⟩, fun W => ?_⟩
    rw [run_slice_h W _ _ _ _ undP _ _ (by omega) (by omega), elemP, runSizeP]
    simp [sliced]
  · have hla : LaidP w g cap L := ⟨cur, hg, hc, hle, ht⟩
    refine ⟨.slice (some ⟨g, 0, none⟩) k cap, ?_, fun W => run_takeP hk hle W⟩
    rw [hkl]
    refine ⟨by rw [pks_len, hkl], .inr ⟨g, 0, cap, rfl, hla.lt, by omega, hm, fun j u hj => ?_⟩⟩
    rw [Nat.zero_add]
    refine hla.cells ?_
    have e : pks L = pks (L.take k) ++ pks (L.drop k) := by rw [← pks_append, List.take_append_drop]
    rw [e, List.getElem?_append_left (List.getElem?_eq_some_iff.1 hj).1]; exact hj
theorem own_drop {w : World} {B : Nat} {v : Value} {L : List Pk} (h : w.ownsRow B PkT 5 v L.length (pks L)) {k : Nat} (hk : k ≤ L.length) : ∃ v', Row w 5 v' (L.drop k).length (pks (L.drop k)) ∧ ∀ W : World, (Instr.slice SlP v (some (.int .i64 (k : Int))) none none).run Try.prog W = .ok v' W := by
  have hkl : (L.drop k).length = L.length - k := by simp
  rcases h.2 with ⟨rfl, h0⟩ | ⟨g, cap, cur, rfl, hb, hg, hle, hm, hc, ht⟩
  · obtain rfl : k = 0 := by omega
    refine ⟨.slice none 0 0, ⟨by rw [pks_len], .inl ⟨rfl, by simp; exact List.eq_nil_of_length_eq_zero h0⟩⟩, fun W => ?_⟩
    rw [run_slice_l W _ _ _ _ undP _ _ (by omega) (by omega), elemP, runSizeP]
    simp [sliced]
  · have hla : LaidP w g cap L := ⟨cur, hg, hc, hle, ht⟩
    refine ⟨_, ?_, fun W => run_dropP hk hle W⟩
    rw [hkl]
    refine ⟨by rw [pks_len, hkl], .inr ⟨g, if cap = k then 0 else k * 5, cap - k, (by split <;> rfl), hla.lt, by omega, by omega, fun j u hj => ?_⟩⟩
    have hj2 := (List.getElem?_eq_some_iff.1 hj).1
    rw [pks_len, hkl] at hj2
    rw [if_neg (by omega)]
    refine hla.cells ?_
    have e : pks L = pks (L.take k) ++ pks (L.drop k) := by rw [← pks_append, List.take_append_drop]
    have e2 : (pks (L.take k)).length = k * 5 := by rw [pks_len]; simp; omega
    rw [e, List.getElem?_append_right (by omega), e2, Nat.add_sub_cancel_left]; exact hj
set_option maxRecDepth 100000 in
set_option maxHeartbeats 3200000 in
theorem rmov_ok {w : World} {B a : Nat} {F H : Value} {x : Nt} (h : IsM w B a F H x) (hB : B ≤ w.heap.size) (hl : x.fl.length ≤ 5000) (k m : Nat) (p : Pk) (hk : x.fl[k]? = some p) (hm : m < x.fl.length) :
    Calls Try.prog 32 #[.pointer (some ⟨a, 0, none⟩), .int .i64 (k : Int), .int .i64 (m : Int)] w fun e w' => e = .returned (.int .i64 0) ∧ WentM B a F H { x with fl := inP (outP x.fl k) m p } w w' := by
  have hh := rplace_any h (k : Int)
  rw [show (getP x.fl (k : Int)).isSome = true by rw [getP_at hk]; rfl] at hh
  have hh2 := rplace_any h (m : Int)
  rw [show (getP x.fl (m : Int)).isSome = true by rw [getP_at (List.getElem?_eq_getElem hm)]; rfl] at hh2
  have hkl := (List.getElem?_eq_some_iff.1 hk).1
  have htk := rout_any h hB k p hk hl
  have H0 := Lib.hid h
  have HBB := Lib.hid hB
  have HL := Lib.hid (show (outP x.fl k).length ≤ 5000 from Nat.le_trans (out_le _ _) hl)
  have HM := Lib.hid (show m ≤ (outP x.fl k).length by rw [out_len _ _ hkl]; omega)
  clear h hl hk hkl hB hm
  go_enter Try.func32, Try.ntmps32
  go_wp2_with fail
  refine hh.mono ?_
  rintro e w1 ⟨rfl, rfl⟩
  go_wp2_with fail
  refine hh2.mono ?_
  rintro e w1 ⟨rfl, rfl⟩
  go_wp2_with fail
  refine htk.mono ?_
  rintro e w3 ⟨rfl, F3, H3, i3, t3, o3⟩
  clear hh hh2 htk
  generalize hy : ({ x with fl := outP x.fl k } : Nt) = y at *
  have HY := Lib.hid (show y.fl = outP x.fl k by rw [← hy])
  have HYE := Lib.hid (show ({ x with fl := inP (outP x.fl k) m p } : Nt) = { y with fl := inP y.fl m p } by rw [← hy])
  clear hy
  rw [← HY.out] at HL HM
  have b4 : Below w3.heap.size w3 (w3.alloc (.cells (pkCells p) PkT)) := (Below.refl _ _).alloc (Nat.le_refl _) _
  have I4 := Lib.hid (i3.below b4)
  have Y4 := Lib.hid (show (w3.alloc (.cells (pkCells p) PkT)).heap[w3.heap.size]? = some (.cells (pkCells p) PkT) from heap_alloc_new _ _)
  have T4 := Lib.hid (t3.trans (touch_of_below b4 _))
  have O3 := Lib.hid o3
  have HB4 := Lib.hid (Nat.le_trans HBB.out T4.out.size)
  clear i3 t3 o3 b4
  go_upto_region 4 with fail
  generalize (w3.alloc (.cells (pkCells p) PkT)) = W4 at *
  have I5 := Lib.hid (I4.out.below (bd W4))
  have Y5 := Lib.hid (show W4.drew.heap[w3.heap.size]? = some (.cells (pkCells p) PkT) from Y4.out)
  have T5 := Lib.hid (T4.out.trans (touch_drew W4 _))
  have HB5 := Lib.hid (show B ≤ W4.drew.heap.size from HB4.out)
  obtain ⟨vt, ht, s1⟩ := own_take I5.out.rowF HM.out
  obtain ⟨vd, hd, s2⟩ := own_drop I5.out.rowF HM.out
  have HTK := Lib.hid ht
  have HDR := Lib.hid hd
  have HMT : Hid ((y.fl.take m).length = m) := Lib.hid (by have := HM.out; simp; omega)
  have HMD : Hid ((y.fl.drop m).length = y.fl.length - m) := Lib.hid (by simp)
  clear ht hd
  refine li_start [1, 2, 3, 4, 5, 6, 8, 0, 9, 7, 10, 11] (S := fun V => V.cell? ⟨a, 0, none⟩ = some F3 ∧ V.heap[w3.heap.size]? = some (.cells (pkCells p) PkT)) (by kernel_rfl) ⟨I5.out.c0.2.1, Y5.out⟩ ?_
  clear I4 Y4 T4 HB4
  generalize W4.drew = W0 at *
  simp only [inOrder, List.filterMap, List.getElem?_cons_succ, List.getElem?_cons_zero]
  have hS0 : W0.cell? ⟨a, 0, none⟩ = some F3 ∧ W0.heap[w3.heap.size]? = some (.cells (pkCells p) PkT) := ⟨I5.out.c0.2.1, Y5.out⟩
  iterate 7 (refine li_take rfl (by kernel_rfl) (by rfl) hS0 (by (rintro V ⟨q0, q1⟩; obtain ⟨r0, r1, r2, r3, r4⟩ := pk5 q1; go_simp) <;> with_reducible rfl) ?_); simp only [Act.put, List.setIfInBounds_toArray, List.set_cons_zero, List.set_cons_succ]
  have SS : Hid (∀ V, Below W0.heap.size W0 V → V.cell? ⟨a, 0, none⟩ = some F3 ∧ V.heap[w3.heap.size]? = some (.cells (pkCells p) PkT)) := Lib.hid (fun V hV => ⟨(I5.out.below hV).c0.2.1, (hV.block _ (Array.getElem?_eq_some_iff.1 Y5.out).1).trans Y5.out⟩)
  have B0 := Lib.hid (Below.refl W0.heap.size W0)
  obtain ⟨NB, hNB⟩ : ∃ NB, NB = W0.heap.size := ⟨_, rfl⟩
  have HNB := Lib.hid hNB
  have HNS := Lib.hid (show ∀ V, Below W0.heap.size W0 V → NB ≤ V.heap.size from fun V hV => by have := hV.size; omega)
  clear hNB
  clear hS0 s1

  refine li_two rfl rfl (by kernel_rfl) (by rfl) (by rfl) (fun K hK => ?_) (fun K hK => ?_)
  · go_simp
    have b3 : Below W0.heap.size W0 (W0.alloc (.cells #[] PkT)) := (Below.refl _ _).alloc (Nat.le_refl _) _
    have OA1 := Lib.hid (show (W0.alloc (.cells #[] PkT)).ownsRow NB PkT 5 (.slice (some ⟨W0.heap.size, 0, none⟩) 0 0) ([] : List Pk).length (pks []) from own_newP (HNS.out _ B0.out))
    have AT1 := Lib.hid (show W0.heap.size < (W0.alloc (.cells #[] PkT)).heap.size by simp)
    have B1 := Lib.hid (bmore B0.out b3)
    clear b3
    generalize (W0.alloc (.cells #[] PkT)) = W1 at *
    obtain ⟨gA, hgA⟩ : ∃ gA, gA = W0.heap.size := ⟨_, rfl⟩
    rw [← hgA] at OA1 AT1 ⊢
    refine hK _ _ ⟨SS.out _ B1.out, ?_⟩
    clear hK K hgA
    try simp only [Act.put, List.setIfInBounds_toArray, List.set_cons_zero, List.set_cons_succ]

    refine li_swap ?_
    refine li_two (i := 7) (j := 9) rfl rfl (by kernel_rfl) (by rfl) (by rfl) (fun K hK => ?_) (fun K hK => ?_)
    · refine wp_apps (.tmp 22) (.tmp 28) rfl NB (.slice (some ⟨gA, 0, none⟩) 0 0) [] rfl OA1.out _ (y.fl.take m) rfl (HTK.out.below B1.out) (by rw [HMT.out]; have := HL.out; have := HM.out; show 0 + m ≤ _; omega) (HNS.out _ B1.out) ?_
      intro v2 W2 o2 gr2 at2
      have B2 := Lib.hid (B1.out.grown gr2 B1.out.size (fun j hj => by have := (own_from OA1.out hj).1; have := HNB.out; omega))
      have OB2 : Hid (W2.ownsRow NB PkT 5 v2 (y.fl.take m).length (pks (y.fl.take m))) := Lib.hid (by simpa using o2)
      refine hK _ _ ⟨SS.out _ B2.out, ?_⟩
      clear hK K o2 gr2 at2
      try simp only [Act.put, List.setIfInBounds_toArray, List.set_cons_zero, List.set_cons_succ]
      refine li_do rfl (by kernel_rfl) (by rfl) (fun K hK => ?_)

      go_simp
      have b3 : Below W2.heap.size W2 (W2.alloc (.cells (pkCells p) PkT)) := (Below.refl _ _).alloc (Nat.le_refl _) _
      have P3 : Hid ((W2.alloc (.cells (pkCells p) PkT)).heap[W2.heap.size]? = some (.cells (pkCells p) PkT)) := Lib.hid (heap_alloc_new _ _)
      have B3 := Lib.hid (bmore B2.out b3)
      have OB3 := Lib.hid (own_keep OB2.out (touch_of_below b3 (fun _ => False)) (fun _ _ h => h))
      clear b3
      show K _ (W2.alloc (.cells (pkCells p) PkT))
      generalize (W2.alloc (.cells (pkCells p) PkT)) = W3 at *
      obtain ⟨g9, hg9⟩ : ∃ g9, g9 = W2.heap.size := ⟨_, rfl⟩
      rw [← hg9] at P3 ⊢
      refine hK _ _ ⟨SS.out _ B3.out, ?_⟩
      clear hK K hg9
      try simp only [Act.put, List.setIfInBounds_toArray, List.set_cons_zero, List.set_cons_succ]

      refine li_do rfl (by kernel_rfl) (by rfl) (fun K hK => ?_)
      refine wp_app1 (.tmp 29) (.tmp 31) rfl NB _ (y.fl.take m) rfl OB3.out g9 p rfl P3.out (by rw [HMT.out]; have := HL.out; have := HM.out; omega) (HNS.out _ B3.out) ?_
      intro v5 W5 o5 gr5 at5
      have B5 := Lib.hid (B3.out.grown gr5 B3.out.size (fun j hj => by have := (own_from OB3.out hj).1; have := HNB.out; omega))
      have OC5 := Lib.hid o5
      refine hK _ _ ⟨SS.out _ B5.out, ?_⟩
      clear hK K o5 gr5 at5
      try simp only [Act.put, List.setIfInBounds_toArray, List.set_cons_zero, List.set_cons_succ]
      refine li_take rfl (by kernel_rfl) (by rfl) (SS.out _ B5.out) (by (rintro V ⟨q0, q1⟩; go_simp) <;> with_reducible rfl) ?_
      simp only [Act.put, List.setIfInBounds_toArray, List.set_cons_zero, List.set_cons_succ]
      refine li_done (by kernel_rfl) ?_
      have c5 := (SS.out _ B5.out).1
      have HLN : Hid ((y.fl.take m ++ [p]).length + (y.fl.drop m).length ≤ 1000000) := Lib.hid (by have := HL.out; simp; omega)
      go_wp2_with (at_builtin; refine wpList_apps rfl _ _ rfl NB _ (y.fl.take m ++ [p]) rfl OC5.out _ (y.fl.drop m) rfl (HDR.out.below B5.out) HLN.out (HNS.out _ B5.out) ?_)
      intro v6 W6 o6 gr6 at6
      have B6 := Lib.hid (B5.out.grown gr6 B5.out.size (fun j hj => by have := (own_from OC5.out hj).1; have := HNB.out; omega))
      have hO6 : W6.ownsRow NB PkT 5 v6 (inP y.fl m p).length (pks (inP y.fl m p)) := by
        have e : (inP y.fl m p).length = min m y.fl.length + (y.fl.length - m + 1) := by unfold inP; simp
        rw [e]; exact o6
      obtain ⟨va, vc, rfl⟩ := slice_of hO6
      have O6 := Lib.hid hO6
      have I6 := Lib.hid (I5.out.newF (w' := W6) (L := inP y.fl m p) (v := .slice va (inP y.fl m p).length vc) (touch_of_below B6.out _) (own_mono hO6 (by have := HB5.out; have := HNB.out; omega)) (fun j hj => .inr (by have := (own_from O6.out hj).1; have := HNB.out; omega)))
      have c6 := (SS.out _ B6.out).1
      have f6 := (I5.out.below B6.out).frz 0
      have T6 := Lib.hid ((T5.out.trans (touch_of_below B6.out _)).step (touch_set W6 a 0 (.slice va (inP y.fl m p).length vc) (fun j => j = a) rfl) (fun j hj => .inl (.inl hj)))
      clear o6 gr6 at6 hO6 c5 s2
      go_wp2_with fail
      go_returns
      refine ⟨rfl, _, _, (by rw [HYE.out]; exact I6.out), T6.out, fun j hj => ?_⟩
      rcases hj with hj | hj | hj
      · exact .inl (.inl hj)
      · exact .inr (by have := T5.out.size; have := (own_from O6.out hj).1; have := HNB.out; omega)
      · exact O3.out j (.inr (.inr hj))

    · go_simp
      have b3 : Below W1.heap.size W1 (W1.alloc (.cells (pkCells p) PkT)) := (Below.refl _ _).alloc (Nat.le_refl _) _
      have P2 : Hid ((W1.alloc (.cells (pkCells p) PkT)).heap[W1.heap.size]? = some (.cells (pkCells p) PkT)) := Lib.hid (heap_alloc_new _ _)
      have B2 := Lib.hid (bmore B1.out b3)
      have OA2 := Lib.hid (own_keep OA1.out (touch_of_below b3 (fun _ => False)) (fun _ _ h => h))
      have AT2 := Lib.hid (Nat.lt_of_lt_of_le AT1.out b3.size)
      have NE2 := Lib.hid (show W1.heap.size ≠ gA from fun e => by have := AT1.out; omega)
      clear b3
      show K _ (W1.alloc (.cells (pkCells p) PkT))
      generalize (W1.alloc (.cells (pkCells p) PkT)) = W2 at *
      obtain ⟨g9, hg9⟩ : ∃ g9, g9 = W1.heap.size := ⟨_, rfl⟩
      rw [← hg9] at P2 ⊢
      rw [← hg9] at NE2
      refine hK _ _ ⟨SS.out _ B2.out, ?_⟩
      clear hK K hg9
      try simp only [Act.put, List.setIfInBounds_toArray, List.set_cons_zero, List.set_cons_succ]
      refine li_do rfl (by kernel_rfl) (by rfl) (fun K hK => ?_)

      refine wp_apps (.tmp 22) (.tmp 28) rfl NB (.slice (some ⟨gA, 0, none⟩) 0 0) [] rfl OA2.out _ (y.fl.take m) rfl (HTK.out.below B2.out) (by rw [HMT.out]; have := HL.out; have := HM.out; show 0 + m ≤ _; omega) (HNS.out _ B2.out) ?_
      intro v3 W3 o3 gr3 at3
      have B3 := Lib.hid (B2.out.grown gr3 B2.out.size (fun j hj => by have := (own_from OA2.out hj).1; have := HNB.out; omega))
      have OB3 : Hid (W3.ownsRow NB PkT 5 v3 (y.fl.take m).length (pks (y.fl.take m))) := Lib.hid (by simpa using o3)
      have P3 := Lib.hid ((gr3.block g9 (Array.getElem?_eq_some_iff.1 P2.out).1 (fun e => NE2.out (by simpa [Value.ownBlock] using e))).trans P2.out)
      refine hK _ _ ⟨SS.out _ B3.out, ?_⟩
      clear hK K o3 gr3 at3
      try simp only [Act.put, List.setIfInBounds_toArray, List.set_cons_zero, List.set_cons_succ]

      refine li_do rfl (by kernel_rfl) (by rfl) (fun K hK => ?_)
      refine wp_app1 (.tmp 29) (.tmp 31) rfl NB _ (y.fl.take m) rfl OB3.out g9 p rfl P3.out (by rw [HMT.out]; have := HL.out; have := HM.out; omega) (HNS.out _ B3.out) ?_
      intro v5 W5 o5 gr5 at5
      have B5 := Lib.hid (B3.out.grown gr5 B3.out.size (fun j hj => by have := (own_from OB3.out hj).1; have := HNB.out; omega))
      have OC5 := Lib.hid o5
      refine hK _ _ ⟨SS.out _ B5.out, ?_⟩
      clear hK K o5 gr5 at5
      try simp only [Act.put, List.setIfInBounds_toArray, List.set_cons_zero, List.set_cons_succ]
      refine li_take rfl (by kernel_rfl) (by rfl) (SS.out _ B5.out) (by (rintro V ⟨q0, q1⟩; go_simp) <;> with_reducible rfl) ?_
      simp only [Act.put, List.setIfInBounds_toArray, List.set_cons_zero, List.set_cons_succ]
      refine li_done (by kernel_rfl) ?_
      have c5 := (SS.out _ B5.out).1
      have HLN : Hid ((y.fl.take m ++ [p]).length + (y.fl.drop m).length ≤ 1000000) := Lib.hid (by have := HL.out; simp; omega)
      go_wp2_with (at_builtin; refine wpList_apps rfl _ _ rfl NB _ (y.fl.take m ++ [p]) rfl OC5.out _ (y.fl.drop m) rfl (HDR.out.below B5.out) HLN.out (HNS.out _ B5.out) ?_)
      intro v6 W6 o6 gr6 at6
      have B6 := Lib.hid (B5.out.grown gr6 B5.out.size (fun j hj => by have := (own_from OC5.out hj).1; have := HNB.out; omega))
      have hO6 : W6.ownsRow NB PkT 5 v6 (inP y.fl m p).length (pks (inP y.fl m p)) := by
        have e : (inP y.fl m p).length = min m y.fl.length + (y.fl.length - m + 1) := by unfold inP; simp
        rw [e]; exact o6
      obtain ⟨va, vc, rfl⟩ := slice_of hO6
      have O6 := Lib.hid hO6
      have I6 := Lib.hid (I5.out.newF (w' := W6) (L := inP y.fl m p) (v := .slice va (inP y.fl m p).length vc) (touch_of_below B6.out _) (own_mono hO6 (by have := HB5.out; have := HNB.out; omega)) (fun j hj => .inr (by have := (own_from O6.out hj).1; have := HNB.out; omega)))
      have c6 := (SS.out _ B6.out).1
      have f6 := (I5.out.below B6.out).frz 0
      have T6 := Lib.hid ((T5.out.trans (touch_of_below B6.out _)).step (touch_set W6 a 0 (.slice va (inP y.fl m p).length vc) (fun j => j = a) rfl) (fun j hj => .inl (.inl hj)))
      clear o6 gr6 at6 hO6 c5 s2
      go_wp2_with fail
      go_returns
      refine ⟨rfl, _, _, (by rw [HYE.out]; exact I6.out), T6.out, fun j hj => ?_⟩
      rcases hj with hj | hj | hj
      · exact .inl (.inl hj)
      · exact .inr (by have := T5.out.size; have := (own_from O6.out hj).1; have := HNB.out; omega)
      · exact O3.out j (.inr (.inr hj))

  · go_simp
    have b3 : Below W0.heap.size W0 (W0.alloc (.cells (pkCells p) PkT)) := (Below.refl _ _).alloc (Nat.le_refl _) _
    have P1 : Hid ((W0.alloc (.cells (pkCells p) PkT)).heap[W0.heap.size]? = some (.cells (pkCells p) PkT)) := Lib.hid (heap_alloc_new _ _)
    have B1 := Lib.hid (bmore B0.out b3)
    clear b3
    show K _ (W0.alloc (.cells (pkCells p) PkT))
    generalize (W0.alloc (.cells (pkCells p) PkT)) = W1 at *
    obtain ⟨g9, hg9⟩ : ∃ g9, g9 = W0.heap.size := ⟨_, rfl⟩
    rw [← hg9] at P1 ⊢
    refine hK _ _ ⟨SS.out _ B1.out, ?_⟩
    clear hK K hg9
    try simp only [Act.put, List.setIfInBounds_toArray, List.set_cons_zero, List.set_cons_succ]
    refine li_do rfl (by kernel_rfl) (by rfl) (fun K hK => ?_)

    go_simp
    have b3 : Below W1.heap.size W1 (W1.alloc (.cells #[] PkT)) := (Below.refl _ _).alloc (Nat.le_refl _) _
    have OA2 := Lib.hid (show (W1.alloc (.cells #[] PkT)).ownsRow NB PkT 5 (.slice (some ⟨W1.heap.size, 0, none⟩) 0 0) ([] : List Pk).length (pks []) from own_newP (HNS.out _ B1.out))
    have AT2 := Lib.hid (show W1.heap.size < (W1.alloc (.cells #[] PkT)).heap.size by simp)
    have B2 := Lib.hid (bmore B1.out b3)
    have P2 := Lib.hid ((b3.block _ (Array.getElem?_eq_some_iff.1 P1.out).1).trans P1.out)
    have NE2 := Lib.hid (show g9 ≠ W1.heap.size from fun e => by have := (Array.getElem?_eq_some_iff.1 P1.out).1; omega)
    clear b3
    generalize (W1.alloc (.cells #[] PkT)) = W2 at *
    obtain ⟨gA, hgA⟩ : ∃ gA, gA = W1.heap.size := ⟨_, rfl⟩
    rw [← hgA] at OA2 AT2 ⊢
    rw [← hgA] at NE2
    refine hK _ _ ⟨SS.out _ B2.out, ?_⟩
    clear hK K hgA
    try simp only [Act.put, List.setIfInBounds_toArray, List.set_cons_zero, List.set_cons_succ]
    refine li_do rfl (by kernel_rfl) (by rfl) (fun K hK => ?_)

    refine wp_apps (.tmp 22) (.tmp 28) rfl NB (.slice (some ⟨gA, 0, none⟩) 0 0) [] rfl OA2.out _ (y.fl.take m) rfl (HTK.out.below B2.out) (by rw [HMT.out]; have := HL.out; have := HM.out; show 0 + m ≤ _; omega) (HNS.out _ B2.out) ?_
    intro v3 W3 o3 gr3 at3
    have B3 := Lib.hid (B2.out.grown gr3 B2.out.size (fun j hj => by have := (own_from OA2.out hj).1; have := HNB.out; omega))
    have OB3 : Hid (W3.ownsRow NB PkT 5 v3 (y.fl.take m).length (pks (y.fl.take m))) := Lib.hid (by simpa using o3)
    have P3 := Lib.hid ((gr3.block g9 (Array.getElem?_eq_some_iff.1 P2.out).1 (fun e => NE2.out (by simpa [Value.ownBlock] using e))).trans P2.out)
    refine hK _ _ ⟨SS.out _ B3.out, ?_⟩
    clear hK K o3 gr3 at3
    try simp only [Act.put, List.setIfInBounds_toArray, List.set_cons_zero, List.set_cons_succ]

    refine li_do rfl (by kernel_rfl) (by rfl) (fun K hK => ?_)
    refine wp_app1 (.tmp 29) (.tmp 31) rfl NB _ (y.fl.take m) rfl OB3.out g9 p rfl P3.out (by rw [HMT.out]; have := HL.out; have := HM.out; omega) (HNS.out _ B3.out) ?_
    intro v5 W5 o5 gr5 at5
    have B5 := Lib.hid (B3.out.grown gr5 B3.out.size (fun j hj => by have := (own_from OB3.out hj).1; have := HNB.out; omega))
    have OC5 := Lib.hid o5
    refine hK _ _ ⟨SS.out _ B5.out, ?_⟩
    clear hK K o5 gr5 at5
    try simp only [Act.put, List.setIfInBounds_toArray, List.set_cons_zero, List.set_cons_succ]
    refine li_take rfl (by kernel_rfl) (by rfl) (SS.out _ B5.out) (by (rintro V ⟨q0, q1⟩; go_simp) <;> with_reducible rfl) ?_
    simp only [Act.put, List.setIfInBounds_toArray, List.set_cons_zero, List.set_cons_succ]
    refine li_done (by kernel_rfl) ?_
    have c5 := (SS.out _ B5.out).1
    have HLN : Hid ((y.fl.take m ++ [p]).length + (y.fl.drop m).length ≤ 1000000) := Lib.hid (by have := HL.out; simp; omega)
    go_wp2_with (at_builtin; refine wpList_apps rfl _ _ rfl NB _ (y.fl.take m ++ [p]) rfl OC5.out _ (y.fl.drop m) rfl (HDR.out.below B5.out) HLN.out (HNS.out _ B5.out) ?_)
    intro v6 W6 o6 gr6 at6
    have B6 := Lib.hid (B5.out.grown gr6 B5.out.size (fun j hj => by have := (own_from OC5.out hj).1; have := HNB.out; omega))
    have hO6 : W6.ownsRow NB PkT 5 v6 (inP y.fl m p).length (pks (inP y.fl m p)) := by
      have e : (inP y.fl m p).length = min m y.fl.length + (y.fl.length - m + 1) := by unfold inP; simp
      rw [e]; exact o6
    obtain ⟨va, vc, rfl⟩ := slice_of hO6
    have O6 := Lib.hid hO6
    have I6 := Lib.hid (I5.out.newF (w' := W6) (L := inP y.fl m p) (v := .slice va (inP y.fl m p).length vc) (touch_of_below B6.out _) (own_mono hO6 (by have := HB5.out; have := HNB.out; omega)) (fun j hj => .inr (by have := (own_from O6.out hj).1; have := HNB.out; omega)))
    have c6 := (SS.out _ B6.out).1
    have f6 := (I5.out.below B6.out).frz 0
    have T6 := Lib.hid ((T5.out.trans (touch_of_below B6.out _)).step (touch_set W6 a 0 (.slice va (inP y.fl m p).length vc) (fun j => j = a) rfl) (fun j hj => .inl (.inl hj)))
    clear o6 gr6 at6 hO6 c5 s2
    go_wp2_with fail
    go_returns
    refine ⟨rfl, _, _, (by rw [HYE.out]; exact I6.out), T6.out, fun j hj => ?_⟩
    rcases hj with hj | hj | hj
    · exact .inl (.inl hj)
    · exact .inr (by have := T5.out.size; have := (own_from O6.out hj).1; have := HNB.out; omega)
    · exact O3.out j (.inr (.inr hj))
theorem rmove_any {w : World} {B a : Nat} {F H : Value} {x : Nt} (h : IsM w B a F H x) (hB : B ≤ w.heap.size) (hl : x.fl.length ≤ 5000) (i t : Int) :
    Calls Try.prog 32 #[.pointer (some ⟨a, 0, none⟩), .int .i64 i, .int .i64 t] w fun e w' => e = .returned (.int .i64 (movP x i t).2) ∧ WentM B a F H (movP x i t).1 w w' := by
  have hh := rplace_any h i
  have hh2 := rplace_any h t
  rcases hg : getP x.fl i with _ | p
  · rw [movP_no (.inl hg)]
    rw [hg] at hh
    have H0 := Lib.hid h
    clear h hg hh2
    go_enter Try.func32, Try.ntmps32
    go_wp2_with fail
    refine hh.mono ?_
    rintro e w1 ⟨rfl, rfl⟩
    go_wp2_with fail
    go_returns
    exact ⟨rfl, WentM.same H0.out (Below.refl _ _)⟩
  rw [hg] at hh
  rcases hg2 : getP x.fl t with _ | q
  · rw [movP_no (.inr hg2)]
    rw [hg2] at hh2
    have H0 := Lib.hid h
    clear h hg hg2
    go_enter Try.func32, Try.ntmps32
    go_wp2_with fail
    refine hh.mono ?_
    rintro e w1 ⟨rfl, rfl⟩
    go_wp2_with fail
    refine hh2.mono ?_
    rintro e w1 ⟨rfl, rfl⟩
    go_wp2_with fail
    go_returns
    exact ⟨rfl, WentM.same H0.out (Below.refl _ _)⟩
  rw [movP_ok hg hg2]
  obtain ⟨k, rfl, hk, hkl, hkn⟩ := getP_some hg
  obtain ⟨m, rfl, hm, hml, hmn⟩ := getP_some hg2
  rw [hkn, hmn]
  exact rmov_ok h hB hl k m p hk hml
end Go.Proofs.Ytgnmieobgdbafaa
