/-
  The walk of KeepMaps.
-/
import Derived.Test.YtafghmhhmpfefaaKMapsP
import Derived.Test.YtafghmhhmpfefaaKChain
import Derived.Test.YtafghmhhmpfefaaKNumP
namespace Go.Proofs.Ytafghmhhmpfefaa
open Go.RowKit
set_option linter.unusedVariables false

theorem maps_long {w : World} {v : Value} {l : List KAct} (h : Row w 3 v l.length (kacs l)) (hm : l.length ≤ maxLen) (hl : 80 < l.length) :
    Calls Try.prog 3 #[v] w fun e w' => e = .returned (.bool true) ∧ Below w.heap.size w w' := by
  have H := Lib.hid h
  obtain ⟨aa, ca, rfl⟩ := h.shape
  clear h
  go_enter Try.func3, Try.ntmps3
  go_wp2_with fail
  refine (long_long H.out hm hl).mono ?_
  rintro e w1 ⟨rfl, rfl⟩
  go_wp2_with fail
  refine (live_any _).mono ?_
  rintro e w1 ⟨rfl, u1⟩
  have HU := Lib.hid u1
  clear u1
  go_wp2_with fail
  go_returns
  exact ⟨rfl, HU.out⟩

def mapC (n : Nat) : Array Value := madeCells (Value.pointer none).cells (n * 1)
def slC (n : Nat) : Array Value := madeCells (Value.slice none 0 0).cells (n * 1)
theorem mapC_eq (n : Nat) : mapC n = (List.replicate n (Value.pointer none)).toArray := by
  unfold mapC
  rw [Nat.mul_one]
  apply Array.toList_inj.1
  rw [show (Value.pointer none).cells = #[Value.pointer none] from rfl, toList_madeCells_one]
theorem slC_eq (n : Nat) : slC n = (List.replicate n (Value.slice none 0 0)).toArray := by
  unfold slC
  rw [Nat.mul_one]
  apply Array.toList_inj.1
  rw [show (Value.slice none 0 0).cells = #[Value.slice none 0 0] from rfl, toList_madeCells_one]
theorem rowMap : (Try.prog.info? MapS).map (fun i => (i.zero, i.size, i.bytes)) = some (some (.agg #[.pointer none]), 1, 8) := by kernel_rfl
theorem rowSl : (Try.prog.info? SlE).map (fun i => (i.zero, i.size, i.bytes)) = some (some (.slice none 0 0), 1, 24) := by kernel_rfl

set_option maxRecDepth 100000 in
set_option maxHeartbeats 12800000 in
theorem maps_walk {w : World} {v : Value} {l : List KAct} (h : Row w 3 v l.length (kacs l)) (hok : ∀ y ∈ l, KActOk y) (hl : l.length ≤ 80) :
    Calls Try.prog 3 #[v] w fun e w' => e = .returned (.bool true) ∧ Below w.heap.size w w' := by
  have H := Lib.hid h
  obtain ⟨aa, ca, rfl, xa⟩ := h.at2
  have XA := Lib.hid xa
  have HOK := Lib.hid hok
  obtain ⟨i0, hi, hz0, hz1, hz2⟩ := info_parts rowMap
  have hmk : ∀ W : World, (Instr.makeSlice 25 (.int .i64 ((l.length : Int) + 1)) (.int .i64 ((l.length : Int) + 1))).run Try.prog W = .ok (.slice (some ⟨W.heap.size, 0, none⟩) (l.length + 1) (l.length + 1)) (W.alloc (.cells (mapC (l.length + 1)) MapS)) := fun W => by
    have := run_make (P := Try.prog) W 25 MapS i0 (.agg #[.pointer none]) Try.underlying25 hi hz0 .i64 .i64 (l.length + 1) (l.length + 1) (by omega) (Int.le_refl _) (by rw [hz2]; omega) (by omega)
    rw [hz1] at this
    simpa [mapC, Value.cells] using this
  clear hi hz0 hz1 hz2
  obtain ⟨i1, hi, hz0, hz1, hz2⟩ := info_parts rowSl
  have hmk2 : ∀ W : World, (Instr.makeSlice 26 (.int .i64 ((l.length : Int) + 1)) (.int .i64 ((l.length : Int) + 1))).run Try.prog W = .ok (.slice (some ⟨W.heap.size, 0, none⟩) (l.length + 1) (l.length + 1)) (W.alloc (.cells (slC (l.length + 1)) SlE)) := fun W => by
    have := run_make (P := Try.prog) W 26 SlE i1 (.slice none 0 0) Try.underlying26 hi hz0 .i64 .i64 (l.length + 1) (l.length + 1) (by omega) (Int.le_refl _) (by rw [hz2]; omega) (by omega)
    rw [hz1] at this
    simpa [slC] using this
  clear hi hz0 hz1 hz2
  have hlen : (l.length : Int) ≤ 80 := by omega
  clear h xa hok
  go_enter Try.func3, Try.ntmps3
  go_wp2_with fail
  refine (long_any H.out hl).mono ?_
  rintro e w1 ⟨rfl | rfl, rfl⟩
  · go_wp2_with fail
    refine (live_any _).mono ?_
    rintro e w1 ⟨rfl, u1⟩
    have HU := Lib.hid u1
    clear u1
    go_wp2_with fail
    go_returns
    exact ⟨rfl, HU.out⟩
  · go_wp2_with fail
    generalize hW0 : (w.alloc (.cells (mapC (l.length + 1)) MapS)).alloc (.cells (slC (l.length + 1)) SlE) = W0
    have b0 : Below w.heap.size w W0 := hW0 ▸ ((Below.refl _ _).alloc (Nat.le_refl _) _).alloc (by simp) _
    have hk0 : KM W0 w.heap.size w.heap.size (w.heap.size + 1) (List.replicate (l.length + 1) (Value.pointer none)).toArray (List.replicate (l.length + 1) (Value.slice none 0 0)).toArray 0 (l.length + 1) := by
      subst hW0
      refine KM.made ?_ ?_ (Nat.le_refl _) (by omega) (by omega)
      · rw [← mapC_eq, (((Below.refl _ _).alloc (Nat.le_refl _) (.cells (slC (l.length + 1)) SlE) : Below (w.alloc (.cells (mapC (l.length + 1)) MapS)).heap.size (w.alloc (.cells (mapC (l.length + 1)) MapS)) _)).block _ (by simp)]
        exact heap_alloc_new _ _
      · rw [← slC_eq]
        have e : w.heap.size + 1 = (w.alloc (.cells (mapC (l.length + 1)) MapS)).heap.size := by simp
        rw [e]; exact heap_alloc_new _ _
    clear hW0 hmk hmk2
    have HB0 := Lib.hid b0
    have HK0 := Lib.hid hk0
    clear b0 hk0
    go_loopw [5] (fun i wr => ∃ (n : Nat) (cm cl : Array Value), i = .int .i64 (n : Int) ∧ n ≤ l.length ∧ Below w.heap.size w wr ∧ KM wr w.heap.size w.heap.size (w.heap.size + 1) cm cl n (l.length + 1)) (fun i _ => l.length - (intOf i).toNat)
    case atStart => exact ⟨0, _, _, rfl, Nat.zero_le _, HB0.out, HK0.out⟩
    case round =>
      obtain ⟨n, cm, cl, rfl, hn, hb, hk⟩ := hrel
      clear HB0 HK0
      by_cases hlt : n < l.length
      · obtain ⟨b1, o1, rfl, q1⟩ := XA.out (by omega)
        obtain ⟨⟨k0, k1⟩, hks, n0, n1⟩ := HOK.out (l[n]) (List.getElem_mem hlt)
        have q2 := kacs_at l n hlt
        have c0 := bcellAt hb (q1 _ _ q2.1)
        have c1 := bcellAt hb (q1 _ _ q2.2.1)
        have c2 := bcellAt hb (q1 _ _ q2.2.2)
        rw [← Nat.add_assoc] at c1 c2
        clear q1 q2 XA HOK
        generalize l[n] = y at *
        obtain ⟨kd, ky, nm⟩ := y
        simp only at k0 k1 hks n0 n1 c0 c1 c2
        have bA : Below wr.heap.size wr (wr.alloc (.cells #[.int .i64 kd, .string ky, .int .i64 nm] 28)) := (Below.refl _ _).alloc (Nat.le_refl _) _
        have hBX : (wr.alloc (.cells #[.int .i64 kd, .string ky, .int .i64 nm] 28)).heap[wr.heap.size]? = some (Obj.cells #[.int .i64 kd, .string ky, .int .i64 nm] 28) := heap_alloc_new _ _
        have z0 : (wr.alloc (.cells #[.int .i64 kd, .string ky, .int .i64 nm] 28)).cell? ⟨wr.heap.size, 0, none⟩ = some (.int .i64 kd) := cellB hBX rfl
        have z1 : (wr.alloc (.cells #[.int .i64 kd, .string ky, .int .i64 nm] 28)).cell? ⟨wr.heap.size, 1, none⟩ = some (.string ky) := cellB hBX rfl
        have z2 : (wr.alloc (.cells #[.int .i64 kd, .string ky, .int .i64 nm] 28)).cell? ⟨wr.heap.size, 2, none⟩ = some (.int .i64 nm) := cellB hBX rfl
        have hkA := hk.below bA
        have HB := Lib.hid (hb.trans (bA.mono hb.size))
        have HK := Lib.hid hkA
        have HBB := Lib.hid hBX
        have HNE := Lib.hid hk.ne
        have hn0 : (0 : Int) ≤ (n : Int) := by omega
        have hn1 : (n : Int) < (l.length : Int) := by omega
        have hn2 : (n : Int) ≤ 80 := by omega
        clear hk hb hBX hkA bA
        by_cases hk1 : kd = 1
        · as_aux_lemma =>
          subst hk1
          clear k0 k1
          go_wp2_with fail
          generalize (wr.alloc (.cells #[.int .i64 1, .string ky, .int .i64 nm] 28)) = V at *
          generalize wr.heap.size = BX at *
          obtain ⟨q, v, t, e1, e2, hT, hO, hsr, hbl, htz⟩ := HK.out.each n (by omega)
          obtain ⟨va, vc, rfl⟩ := (row_of_own hO).shape
          have zq : V.cell? ⟨w.heap.size, n, none⟩ = some (.pointer q) := cellB HK.out.mb e1
          have htl : t.toL.length = t.size := Tr.size_toL t
          have htz2 : t.size ≤ 80 := by omega
          have HEQ := Lib.hid (show rdrop t.toL ky = (Tr.del t ky).toL from by rw [Tr.toL_del _ _ hsr, rdrop_ldrop _ _ hsr])
          have HNS := Lib.hid (show Srt (Tr.del t ky).toL from by rw [Tr.toL_del _ _ hsr]; exact hsr.ldrop _)
          have HNB := Lib.hid (show Tr.Bal (Tr.del t ky) from Tr.bal_del t ky hbl)
          have hnz : (Tr.del t ky).size ≤ n + 1 := by have := Tr.size_del_le t ky; omega
          have HT := Lib.hid hT
          have HO := Lib.hid hO
          have HE2 := Lib.hid e2
          have HTL := Lib.hid htl
          clear hT hO hsr hbl e1 e2 c0 c1 c2 htl
          have i1 : (n : Int) < (l.length : Int) + 1 := by omega
          have i2 : IntKind.i64.wrap ((n : Int) + 1) = (n : Int) + 1 := IntWalk.i64_in _ (by omega)
          have i3 : (0 : Int) ≤ (n : Int) + 1 := by omega
          have i4 : (n : Int) + 1 < (l.length : Int) + 1 := by omega
          have i5 : ((n : Int) + 1).toNat = n + 1 := by omega
          refine lex_start [0, 1, 2, 3, 4, 5, 6, 7, 8, 9, 10, 11] (S := fun W => W.cell? ⟨w.heap.size, n, none⟩ = some (.pointer q) ∧ W.cell? ⟨BX, 1, none⟩ = some (.string ky)) (by kernel_rfl) ⟨bcellAt (bd _) zq, bcellAt (bd _) z1⟩ (fun hS => ?_)
          simp only [inOrder, List.filterMap, List.getElem?_cons_succ, List.getElem?_cons_zero]
          refine lex_take (i := 0) (v := ?_) rfl (by kernel_rfl) (by kernel_rfl) (by kernel_rfl) (by rfl) hS ?_ ?_
          rotate_left
          · ((intro W hW; obtain ⟨k0, k1⟩ := hW; go_simp) <;> with_reducible rfl)
          simp only [Act.put, List.setIfInBounds_toArray, List.set_cons_zero, List.set_cons_succ]
          refine lex_take (i := 1) (v := ?_) rfl (by kernel_rfl) (by kernel_rfl) (by kernel_rfl) (by rfl) hS ?_ ?_
          rotate_left
          · ((intro W hW; obtain ⟨k0, k1⟩ := hW; go_simp) <;> with_reducible rfl)
          simp only [Act.put, List.setIfInBounds_toArray, List.set_cons_zero, List.set_cons_succ]
          refine lex_take (i := 2) (v := ?_) rfl (by kernel_rfl) (by kernel_rfl) (by kernel_rfl) (by rfl) hS ?_ ?_
          rotate_left
          · ((intro W hW; obtain ⟨k0, k1⟩ := hW; go_simp) <;> with_reducible rfl)
          simp only [Act.put, List.setIfInBounds_toArray, List.set_cons_zero, List.set_cons_succ]
          refine lex_take (i := 3) (v := ?_) rfl (by kernel_rfl) (by kernel_rfl) (by kernel_rfl) (by rfl) hS ?_ ?_
          rotate_left
          · ((intro W hW; obtain ⟨k0, k1⟩ := hW; go_simp) <;> with_reducible rfl)
          simp only [Act.put, List.setIfInBounds_toArray, List.set_cons_zero, List.set_cons_succ]
          refine lex_take (i := 4) (v := ?_) rfl (by kernel_rfl) (by kernel_rfl) (by kernel_rfl) (by rfl) hS ?_ ?_
          rotate_left
          · ((intro W hW; obtain ⟨k0, k1⟩ := hW; go_simp) <;> with_reducible rfl)
          simp only [Act.put, List.setIfInBounds_toArray, List.set_cons_zero, List.set_cons_succ]
          refine lex_take (i := 5) (v := ?_) rfl (by kernel_rfl) (by kernel_rfl) (by kernel_rfl) (by rfl) hS ?_ ?_
          rotate_left
          · ((intro W hW; obtain ⟨k0, k1⟩ := hW; go_simp) <;> with_reducible rfl)
          simp only [Act.put, List.setIfInBounds_toArray, List.set_cons_zero, List.set_cons_succ]
          refine lex_take (i := 6) (v := ?_) rfl (by kernel_rfl) (by kernel_rfl) (by kernel_rfl) (by rfl) hS ?_ ?_
          rotate_left
          · ((intro W hW; obtain ⟨k0, k1⟩ := hW; go_simp) <;> with_reducible rfl)
          simp only [Act.put, List.setIfInBounds_toArray, List.set_cons_zero, List.set_cons_succ]
          refine lex_take (i := 7) (v := ?_) rfl (by kernel_rfl) (by kernel_rfl) (by kernel_rfl) (by rfl) hS ?_ ?_
          rotate_left
          · ((intro W hW; obtain ⟨k0, k1⟩ := hW; go_simp) <;> with_reducible rfl)
          simp only [Act.put, List.setIfInBounds_toArray, List.set_cons_zero, List.set_cons_succ]
          refine lex_take (i := 8) (v := ?_) rfl (by kernel_rfl) (by kernel_rfl) (by kernel_rfl) (by rfl) hS ?_ ?_
          rotate_left
          · ((intro W hW; obtain ⟨k0, k1⟩ := hW; go_simp) <;> with_reducible rfl)
          simp only [Act.put, List.setIfInBounds_toArray, List.set_cons_zero, List.set_cons_succ]
          refine lex_call (i := 9) rfl (by kernel_rfl) (by rfl) ?_ _ (mdropS ky (HT.out.below (bd _)) (by omega)) ?_
          · go_simp
          rintro e u1 ⟨q2, rfl, t2, b2⟩
          have bb := bmore (bd V) b2
          have hm1 := Hold.below bb _ _ HK.out.mb
          have hl1 := Hold.below bb _ _ HK.out.lb
          have x1 : u1.cell? ⟨w.heap.size, n + 1, none⟩ = some (.pointer none) := cellB hm1 (HK.out.free (n + 1) (by omega) (by omega)).1
          have x2 : u1.frozen? ⟨w.heap.size, n + 1, none⟩ = false := frozenB hm1
          have hS1 : u1.cell? ⟨w.heap.size, n, none⟩ = some (.pointer q) ∧ u1.cell? ⟨BX, 1, none⟩ = some (.string ky) := ⟨bcellAt bb zq, bcellAt bb z1⟩
          refine ⟨_, rfl, fun W => W.cell? ⟨w.heap.size, n, none⟩ = some (.pointer q) ∧ W.cell? ⟨BX, 1, none⟩ = some (.string ky), fun W h => h, hS1, ?_⟩
          simp only [Act.put, List.setIfInBounds_toArray, List.set_cons_zero, List.set_cons_succ]
          refine lex_take (i := 10) (v := ?_) rfl (by kernel_rfl) (by kernel_rfl) (by kernel_rfl) (by rfl) hS1 ?_ ?_
          rotate_left
          · ((intro W hW; obtain ⟨k0, k1⟩ := hW; go_simp) <;> with_reducible rfl)
          simp only [Act.put, List.setIfInBounds_toArray, List.set_cons_zero, List.set_cons_succ]
          refine lex_do (i := 11) rfl (by kernel_rfl) (by rfl) (fun K hK => ?_)
          go_simp
          have hm2 := setCellB (j := n + 1) (u := .pointer q2) hm1
          have hl2 : (u1.setCell ⟨w.heap.size, n + 1, none⟩ (.pointer q2)).heap[w.heap.size + 1]? = some (Obj.cells cl SlE) := by rw [Below.heap_setCell _ _ _ _ (fun e => HNE.out e.symm)]; exact hl1
          have hb2 := Hold.setCell (T := 28) (o := n + 1) (v := .pointer q2) hm1 (by decide) _ _ (Hold.below bb _ _ HBB.out)
          have y1 : (u1.setCell ⟨w.heap.size, n + 1, none⟩ (.pointer q2)).cell? ⟨BX, 1, none⟩ = some (.string ky) := cellB hb2 rfl
          have y2 : (u1.setCell ⟨w.heap.size, n + 1, none⟩ (.pointer q2)).cell? ⟨BX, 2, none⟩ = some (.int .i64 nm) := cellB hb2 rfl
          have yq : (u1.setCell ⟨w.heap.size, n + 1, none⟩ (.pointer q2)).cell? ⟨w.heap.size + 1, n, none⟩ = some (.slice va t.toL.length vc) := cellB hl2 HE2.out
          have s0 : (u1.setCell ⟨w.heap.size, n + 1, none⟩ (.pointer q2)).cell? ⟨w.heap.size, n, none⟩ = some (.pointer q) := by
            rw [World.cell?_setCell_other _ _ _ _ (fun e => by simp only [Addr.mk.injEq] at e; omega)]; exact hS1.1
          have HT2 := Lib.hid (t2.hold (Hold.setCell (o := n + 1) (v := .pointer q2) hm1 (by decide)))
          have HHT := Lib.hid (fun (p : Option Addr) (t' : Tr ByteArray Int) (h : IsTS V (.pointer p) t') => (h.below bb).hold (Hold.setCell (o := n + 1) (v := .pointer q2) hm1 (by decide)))
          have HHO := Lib.hid (fun (v : Value) (k : Nat) (xs : List Value) (h : V.ownsRow w.heap.size EntR 2 v k xs) => own_hold (own_hold h (Hold.below bb)) (Hold.setCell (o := n + 1) (v := .pointer q2) hm1 (by decide)))
          have HO2 := Lib.hid (HHO.out _ _ _ HO.out)
          have HBW := Lib.hid ((HB.out.trans (bb.mono HB.out.size)).setCell (p := ⟨w.heap.size, n + 1, none⟩) (Nat.le_refl _) (.pointer q2))
          have HBB2 := Lib.hid hb2
          have HM2 := Lib.hid hm2
          have HL2 := Lib.hid hl2
          refine hK _ _ ⟨⟨s0, y1⟩, ?_⟩
          clear hK K
          refine lex_done (by kernel_rfl) ?_
          clear hS hS1 s0 hm1 hl1 hm2 hl2 hb2 x1 x2 bb b2 t2 zq z0 z1 z2
          generalize (u1.setCell ⟨w.heap.size, n + 1, none⟩ (.pointer q2)) = V2 at *
          go_wp2_with fail
          refine lex_start [0, 1, 2, 3, 4, 5, 6, 7, 8, 9, 10, 11] (S := fun W => W.cell? ⟨w.heap.size + 1, n, none⟩ = some (.slice va t.toL.length vc) ∧ W.cell? ⟨BX, 1, none⟩ = some (.string ky)) (by kernel_rfl) ⟨bcellAt (bd _) yq, bcellAt (bd _) y1⟩ (fun hS => ?_)
          simp only [inOrder, List.filterMap, List.getElem?_cons_succ, List.getElem?_cons_zero]
          refine lex_take (i := 0) (v := ?_) rfl (by kernel_rfl) (by kernel_rfl) (by kernel_rfl) (by rfl) hS ?_ ?_
          rotate_left
          · ((intro W hW; obtain ⟨k0, k1⟩ := hW; go_simp) <;> with_reducible rfl)
          simp only [Act.put, List.setIfInBounds_toArray, List.set_cons_zero, List.set_cons_succ]
          refine lex_take (i := 1) (v := ?_) rfl (by kernel_rfl) (by kernel_rfl) (by kernel_rfl) (by rfl) hS ?_ ?_
          rotate_left
          · ((intro W hW; obtain ⟨k0, k1⟩ := hW; go_simp) <;> with_reducible rfl)
          simp only [Act.put, List.setIfInBounds_toArray, List.set_cons_zero, List.set_cons_succ]
          refine lex_take (i := 2) (v := ?_) rfl (by kernel_rfl) (by kernel_rfl) (by kernel_rfl) (by rfl) hS ?_ ?_
          rotate_left
          · ((intro W hW; obtain ⟨k0, k1⟩ := hW; go_simp) <;> with_reducible rfl)
          simp only [Act.put, List.setIfInBounds_toArray, List.set_cons_zero, List.set_cons_succ]
          refine lex_take (i := 3) (v := ?_) rfl (by kernel_rfl) (by kernel_rfl) (by kernel_rfl) (by rfl) hS ?_ ?_
          rotate_left
          · ((intro W hW; obtain ⟨k0, k1⟩ := hW; go_simp) <;> with_reducible rfl)
          simp only [Act.put, List.setIfInBounds_toArray, List.set_cons_zero, List.set_cons_succ]
          refine lex_take (i := 4) (v := ?_) rfl (by kernel_rfl) (by kernel_rfl) (by kernel_rfl) (by rfl) hS ?_ ?_
          rotate_left
          · ((intro W hW; obtain ⟨k0, k1⟩ := hW; go_simp) <;> with_reducible rfl)
          simp only [Act.put, List.setIfInBounds_toArray, List.set_cons_zero, List.set_cons_succ]
          refine lex_take (i := 5) (v := ?_) rfl (by kernel_rfl) (by kernel_rfl) (by kernel_rfl) (by rfl) hS ?_ ?_
          rotate_left
          · ((intro W hW; obtain ⟨k0, k1⟩ := hW; go_simp) <;> with_reducible rfl)
          simp only [Act.put, List.setIfInBounds_toArray, List.set_cons_zero, List.set_cons_succ]
          refine lex_take (i := 6) (v := ?_) rfl (by kernel_rfl) (by kernel_rfl) (by kernel_rfl) (by rfl) hS ?_ ?_
          rotate_left
          · ((intro W hW; obtain ⟨k0, k1⟩ := hW; go_simp) <;> with_reducible rfl)
          simp only [Act.put, List.setIfInBounds_toArray, List.set_cons_zero, List.set_cons_succ]
          refine lex_take (i := 7) (v := ?_) rfl (by kernel_rfl) (by kernel_rfl) (by kernel_rfl) (by rfl) hS ?_ ?_
          rotate_left
          · ((intro W hW; obtain ⟨k0, k1⟩ := hW; go_simp) <;> with_reducible rfl)
          simp only [Act.put, List.setIfInBounds_toArray, List.set_cons_zero, List.set_cons_succ]
          refine lex_take (i := 8) (v := ?_) rfl (by kernel_rfl) (by kernel_rfl) (by kernel_rfl) (by rfl) hS ?_ ?_
          rotate_left
          · ((intro W hW; obtain ⟨k0, k1⟩ := hW; go_simp) <;> with_reducible rfl)
          simp only [Act.put, List.setIfInBounds_toArray, List.set_cons_zero, List.set_cons_succ]
          have htl := HTL.out
          refine lex_call (i := 9) rfl (by kernel_rfl) (by rfl) ?_ _ (rdrop_any ky ((row_of_own HO2.out).below (bd _)) (by omega)) ?_
          · go_simp
          rintro e u2 ⟨u3, rfl, o3, b3⟩
          rw [HEQ.out] at o3
          obtain ⟨sa, sc, rfl⟩ := (row_of_own o3).shape
          have bb := bmore (bd V2) b3
          have hm1 := Hold.below bb _ _ HM2.out
          have hl1 := Hold.below bb _ _ HL2.out
          have x1 : u2.cell? ⟨w.heap.size + 1, n + 1, none⟩ = some (.slice none 0 0) := cellB hl1 (HK.out.free (n + 1) (by omega) (by omega)).2
          have x2 : u2.frozen? ⟨w.heap.size + 1, n + 1, none⟩ = false := frozenB hl1
          have hS1 : u2.cell? ⟨w.heap.size + 1, n, none⟩ = some (.slice va t.toL.length vc) ∧ u2.cell? ⟨BX, 1, none⟩ = some (.string ky) := ⟨bcellAt bb yq, bcellAt bb y1⟩
          refine ⟨_, rfl, fun W => W.cell? ⟨w.heap.size + 1, n, none⟩ = some (.slice va t.toL.length vc) ∧ W.cell? ⟨BX, 1, none⟩ = some (.string ky), fun W h => h, hS1, ?_⟩
          simp only [Act.put, List.setIfInBounds_toArray, List.set_cons_zero, List.set_cons_succ]
          refine lex_take (i := 10) (v := ?_) rfl (by kernel_rfl) (by kernel_rfl) (by kernel_rfl) (by rfl) hS1 ?_ ?_
          rotate_left
          · ((intro W hW; obtain ⟨k0, k1⟩ := hW; go_simp) <;> with_reducible rfl)
          simp only [Act.put, List.setIfInBounds_toArray, List.set_cons_zero, List.set_cons_succ]
          refine lex_do (i := 11) rfl (by kernel_rfl) (by rfl) (fun K hK => ?_)
          go_simp
          generalize hnt : (Tr.del t ky) = nt at *
          have hl2 := setCellB (j := n + 1) (u := .slice sa nt.toL.length sc) hl1
          have hm2 : (u2.setCell ⟨w.heap.size + 1, n + 1, none⟩ (.slice sa nt.toL.length sc)).heap[w.heap.size]? = some (Obj.cells (cm.setIfInBounds (n + 1) (.pointer q2)) MapS) := by rw [Below.heap_setCell _ _ _ _ HNE.out]; exact hm1
          have hb2 := Hold.setCell (T := 28) (o := n + 1) (v := .slice sa nt.toL.length sc) hl1 (by decide) _ _ (Hold.below bb _ _ HBB2.out)
          have z1 : (u2.setCell ⟨w.heap.size + 1, n + 1, none⟩ (.slice sa nt.toL.length sc)).cell? ⟨BX, 1, none⟩ = some (.string ky) := cellB hb2 rfl
          have z2 : (u2.setCell ⟨w.heap.size + 1, n + 1, none⟩ (.slice sa nt.toL.length sc)).cell? ⟨BX, 2, none⟩ = some (.int .i64 nm) := cellB hb2 rfl
          have s0 : (u2.setCell ⟨w.heap.size + 1, n + 1, none⟩ (.slice sa nt.toL.length sc)).cell? ⟨w.heap.size + 1, n, none⟩ = some (.slice va t.toL.length vc) := by
            rw [World.cell?_setCell_other _ _ _ _ (fun e => by simp only [Addr.mk.injEq] at e; omega)]; exact hS1.1
          have zm : (u2.setCell ⟨w.heap.size + 1, n + 1, none⟩ (.slice sa nt.toL.length sc)).cell? ⟨w.heap.size, n + 1, none⟩ = some (.pointer q2) := cellB hm2 (set_at HK.out.ms (by omega))
          have zl : (u2.setCell ⟨w.heap.size + 1, n + 1, none⟩ (.slice sa nt.toL.length sc)).cell? ⟨w.heap.size + 1, n + 1, none⟩ = some (.slice sa nt.toL.length sc) := cellB hl2 (set_at HK.out.ls (by omega))
          have hT3 := (HT2.out.below bb).hold (Hold.setCell (o := n + 1) (v := .slice sa nt.toL.length sc) hl1 (by decide))
          have hO3 := own_hold (own_base o3 (show w.heap.size ≤ V2.drew.heap.size from HBW.out.size)) (Hold.setCell (o := n + 1) (v := .slice sa nt.toL.length sc) hl1 (by decide))
          have hkn := HK.out.next hm2 hl2 (by omega) hT3 hO3 HNS.out HNB.out hnz (fun j _ q' v' t' h1 h2 => ⟨((HHT.out _ _ h1).below bb).hold (Hold.setCell (o := n + 1) (v := .slice sa nt.toL.length sc) hl1 (by decide)), own_hold (own_hold (HHO.out _ _ _ h2) (Hold.below bb)) (Hold.setCell (o := n + 1) (v := .slice sa nt.toL.length sc) hl1 (by decide))⟩)
          have HKN := Lib.hid hkn
          have HT3 := Lib.hid hT3
          have HR3 := Lib.hid (row_of_own hO3)
          have HBX3 := Lib.hid ((HBW.out.trans (bb.mono HBW.out.size)).setCell (p := ⟨w.heap.size + 1, n + 1, none⟩) (by simp) (.slice sa nt.toL.length sc))
          refine hK _ _ ⟨⟨s0, z1⟩, ?_⟩
          clear hK K
          refine lex_done (by kernel_rfl) ?_
          clear hS hS1 s0 hm1 hl1 hm2 hl2 hb2 x1 x2 bb b3 o3 hT3 hO3 hkn y1 y2 yq
          generalize (u2.setCell ⟨w.heap.size + 1, n + 1, none⟩ (.slice sa nt.toL.length sc)) = V3 at *
          clear HM2 HL2 HT2 HO2 HHT HHO HBW HBB2 HK HT HO HE2 HTL htl HEQ
          go_wp2_with fail
          go_still_tail 14, (by kernel_rfl)
          change wpList _ _ _ _ _ V3.drew
          go_wp2_with fail
          refine (tells_any (HT3.out.below (bd _)) (HR3.out.below (bd _)) (by omega) HNS.out HNB.out ⟨n0, n1⟩).mono ?_
          rintro e u5 ⟨rfl, b5⟩
          have HKE := Lib.hid (HKN.out.below (bmore (bd V3) b5))
          have HBE := Lib.hid (HBX3.out.trans ((bmore (bd V3) b5).mono HBX3.out.size))
          clear b5 zm zl z1 z2
          go_wp2_with fail
          go_roundw
          case rel => exact ⟨n + 1, _, _, by go_num, by omega, HBE.out, HKE.out⟩
          case measure => simp [intOf]; omega
        · have e1 : ((kd : Int) == 1) = false := by simp [hk1]
          clear hk1
          by_cases hk2 : 10 ≤ kd
          · obtain ⟨f, hf⟩ := Int.eq_ofNat_of_zero_le (show 0 ≤ kd - 10 by omega)
            obtain rfl : kd = (f : Int) + 10 := by omega
            clear hf k0
            by_cases hk3 : f < n
            · as_aux_lemma =>
              have g2 : (f : Int) < (n : Int) := by omega
              have g3 : (0 : Int) ≤ (f : Int) := by omega
              have g4 : (f : Int) ≤ 80 := by omega
              clear k1
              go_wp2_with fail
              generalize (wr.alloc (.cells #[.int .i64 ((f : Int) + 10), .string ky, .int .i64 nm] 28)) = V at *
              generalize wr.heap.size = BX at *
              obtain ⟨q, v, t, e1, e2, hT, hO, hsr, hbl, htz⟩ := HK.out.each f (by omega)
              obtain ⟨va, vc, rfl⟩ := (row_of_own hO).shape
              have zq : V.cell? ⟨w.heap.size, f, none⟩ = some (.pointer q) := cellB HK.out.mb e1
              have htl : t.toL.length = t.size := Tr.size_toL t
              have htz2 : t.size ≤ 80 := by omega
              have HEQ := Lib.hid (show rput t.toL ky nm = (Tr.put t ky nm).toL from by rw [Tr.toL_put _ _ _ hsr, rput_lput _ _ _ hsr])
              have HNS := Lib.hid (show Srt (Tr.put t ky nm).toL from by rw [Tr.toL_put _ _ _ hsr]; exact hsr.lput _ _)
              have HNB := Lib.hid (show Tr.Bal (Tr.put t ky nm) from (Tr.bal_put t ky nm hbl).1)
              have hnz : (Tr.put t ky nm).size ≤ n + 1 := by have := Tr.size_put_le t ky nm; omega
              have HT := Lib.hid hT
              have HO := Lib.hid hO
              have HE2 := Lib.hid e2
              have HTL := Lib.hid htl
              clear hT hO hsr hbl e1 e2 c0 c1 c2 htl
              have i1 : (f : Int) < (l.length : Int) + 1 := by omega
              have i2 : IntKind.i64.wrap ((n : Int) + 1) = (n : Int) + 1 := IntWalk.i64_in _ (by omega)
              have i3 : (0 : Int) ≤ (n : Int) + 1 := by omega
              have i4 : (n : Int) + 1 < (l.length : Int) + 1 := by omega
              have i5 : ((n : Int) + 1).toNat = n + 1 := by omega
              refine lex_start [0, 1, 2, 3, 4, 5, 6, 7, 8, 9, 10, 11, 12, 13] (S := fun W => W.cell? ⟨w.heap.size, f, none⟩ = some (.pointer q) ∧ W.cell? ⟨BX, 1, none⟩ = some (.string ky) ∧ W.cell? ⟨BX, 2, none⟩ = some (.int .i64 nm)) (by kernel_rfl) ⟨bcellAt (bd _) zq, bcellAt (bd _) z1, bcellAt (bd _) z2⟩ (fun hS => ?_)
              simp only [inOrder, List.filterMap, List.getElem?_cons_succ, List.getElem?_cons_zero]
              refine lex_take (i := 0) (v := ?_) rfl (by kernel_rfl) (by kernel_rfl) (by kernel_rfl) (by rfl) hS ?_ ?_
              rotate_left
              · ((intro W hW; obtain ⟨k0, k1, k2⟩ := hW; go_simp) <;> with_reducible rfl)
              simp only [Act.put, List.setIfInBounds_toArray, List.set_cons_zero, List.set_cons_succ]
              refine lex_take (i := 1) (v := ?_) rfl (by kernel_rfl) (by kernel_rfl) (by kernel_rfl) (by rfl) hS ?_ ?_
              rotate_left
              · ((intro W hW; obtain ⟨k0, k1, k2⟩ := hW; go_simp) <;> with_reducible rfl)
              simp only [Act.put, List.setIfInBounds_toArray, List.set_cons_zero, List.set_cons_succ]
              refine lex_take (i := 2) (v := ?_) rfl (by kernel_rfl) (by kernel_rfl) (by kernel_rfl) (by rfl) hS ?_ ?_
              rotate_left
              · ((intro W hW; obtain ⟨k0, k1, k2⟩ := hW; go_simp) <;> with_reducible rfl)
              simp only [Act.put, List.setIfInBounds_toArray, List.set_cons_zero, List.set_cons_succ]
              refine lex_take (i := 3) (v := ?_) rfl (by kernel_rfl) (by kernel_rfl) (by kernel_rfl) (by rfl) hS ?_ ?_
              rotate_left
              · ((intro W hW; obtain ⟨k0, k1, k2⟩ := hW; go_simp) <;> with_reducible rfl)
              simp only [Act.put, List.setIfInBounds_toArray, List.set_cons_zero, List.set_cons_succ]
              refine lex_take (i := 4) (v := ?_) rfl (by kernel_rfl) (by kernel_rfl) (by kernel_rfl) (by rfl) hS ?_ ?_
              rotate_left
              · ((intro W hW; obtain ⟨k0, k1, k2⟩ := hW; go_simp) <;> with_reducible rfl)
              simp only [Act.put, List.setIfInBounds_toArray, List.set_cons_zero, List.set_cons_succ]
              refine lex_take (i := 5) (v := ?_) rfl (by kernel_rfl) (by kernel_rfl) (by kernel_rfl) (by rfl) hS ?_ ?_
              rotate_left
              · ((intro W hW; obtain ⟨k0, k1, k2⟩ := hW; go_simp) <;> with_reducible rfl)
              simp only [Act.put, List.setIfInBounds_toArray, List.set_cons_zero, List.set_cons_succ]
              refine lex_take (i := 6) (v := ?_) rfl (by kernel_rfl) (by kernel_rfl) (by kernel_rfl) (by rfl) hS ?_ ?_
              rotate_left
              · ((intro W hW; obtain ⟨k0, k1, k2⟩ := hW; go_simp) <;> with_reducible rfl)
              simp only [Act.put, List.setIfInBounds_toArray, List.set_cons_zero, List.set_cons_succ]
              refine lex_take (i := 7) (v := ?_) rfl (by kernel_rfl) (by kernel_rfl) (by kernel_rfl) (by rfl) hS ?_ ?_
              rotate_left
              · ((intro W hW; obtain ⟨k0, k1, k2⟩ := hW; go_simp) <;> with_reducible rfl)
              simp only [Act.put, List.setIfInBounds_toArray, List.set_cons_zero, List.set_cons_succ]
              refine lex_take (i := 8) (v := ?_) rfl (by kernel_rfl) (by kernel_rfl) (by kernel_rfl) (by rfl) hS ?_ ?_
              rotate_left
              · ((intro W hW; obtain ⟨k0, k1, k2⟩ := hW; go_simp) <;> with_reducible rfl)
              simp only [Act.put, List.setIfInBounds_toArray, List.set_cons_zero, List.set_cons_succ]
              refine lex_take (i := 9) (v := ?_) rfl (by kernel_rfl) (by kernel_rfl) (by kernel_rfl) (by rfl) hS ?_ ?_
              rotate_left
              · ((intro W hW; obtain ⟨k0, k1, k2⟩ := hW; go_simp) <;> with_reducible rfl)
              simp only [Act.put, List.setIfInBounds_toArray, List.set_cons_zero, List.set_cons_succ]
              refine lex_take (i := 10) (v := ?_) rfl (by kernel_rfl) (by kernel_rfl) (by kernel_rfl) (by rfl) hS ?_ ?_
              rotate_left
              · ((intro W hW; obtain ⟨k0, k1, k2⟩ := hW; go_simp) <;> with_reducible rfl)
              simp only [Act.put, List.setIfInBounds_toArray, List.set_cons_zero, List.set_cons_succ]
              refine lex_call (i := 11) rfl (by kernel_rfl) (by rfl) ?_ _ (mputS ky nm (HT.out.below (bd _)) (by omega)) ?_
              · go_simp
              rintro e u1 ⟨q2, rfl, t2, b2⟩
              have bb := bmore (bd V) b2
              have hm1 := Hold.below bb _ _ HK.out.mb
              have hl1 := Hold.below bb _ _ HK.out.lb
              have x1 : u1.cell? ⟨w.heap.size, n + 1, none⟩ = some (.pointer none) := cellB hm1 (HK.out.free (n + 1) (by omega) (by omega)).1
              have x2 : u1.frozen? ⟨w.heap.size, n + 1, none⟩ = false := frozenB hm1
              have hS1 : u1.cell? ⟨w.heap.size, f, none⟩ = some (.pointer q) ∧ u1.cell? ⟨BX, 1, none⟩ = some (.string ky) ∧ u1.cell? ⟨BX, 2, none⟩ = some (.int .i64 nm) := ⟨bcellAt bb zq, bcellAt bb z1, bcellAt bb z2⟩
              refine ⟨_, rfl, fun W => W.cell? ⟨w.heap.size, f, none⟩ = some (.pointer q) ∧ W.cell? ⟨BX, 1, none⟩ = some (.string ky) ∧ W.cell? ⟨BX, 2, none⟩ = some (.int .i64 nm), fun W h => h, hS1, ?_⟩
              simp only [Act.put, List.setIfInBounds_toArray, List.set_cons_zero, List.set_cons_succ]
              refine lex_take (i := 12) (v := ?_) rfl (by kernel_rfl) (by kernel_rfl) (by kernel_rfl) (by rfl) hS1 ?_ ?_
              rotate_left
              · ((intro W hW; obtain ⟨k0, k1, k2⟩ := hW; go_simp) <;> with_reducible rfl)
              simp only [Act.put, List.setIfInBounds_toArray, List.set_cons_zero, List.set_cons_succ]
              refine lex_do (i := 13) rfl (by kernel_rfl) (by rfl) (fun K hK => ?_)
              go_simp
              have hm2 := setCellB (j := n + 1) (u := .pointer q2) hm1
              have hl2 : (u1.setCell ⟨w.heap.size, n + 1, none⟩ (.pointer q2)).heap[w.heap.size + 1]? = some (Obj.cells cl SlE) := by rw [Below.heap_setCell _ _ _ _ (fun e => HNE.out e.symm)]; exact hl1
              have hb2 := Hold.setCell (T := 28) (o := n + 1) (v := .pointer q2) hm1 (by decide) _ _ (Hold.below bb _ _ HBB.out)
              have y1 : (u1.setCell ⟨w.heap.size, n + 1, none⟩ (.pointer q2)).cell? ⟨BX, 1, none⟩ = some (.string ky) := cellB hb2 rfl
              have y2 : (u1.setCell ⟨w.heap.size, n + 1, none⟩ (.pointer q2)).cell? ⟨BX, 2, none⟩ = some (.int .i64 nm) := cellB hb2 rfl
              have yq : (u1.setCell ⟨w.heap.size, n + 1, none⟩ (.pointer q2)).cell? ⟨w.heap.size + 1, f, none⟩ = some (.slice va t.toL.length vc) := cellB hl2 HE2.out
              have s0 : (u1.setCell ⟨w.heap.size, n + 1, none⟩ (.pointer q2)).cell? ⟨w.heap.size, f, none⟩ = some (.pointer q) := by
                rw [World.cell?_setCell_other _ _ _ _ (fun e => by simp only [Addr.mk.injEq] at e; omega)]; exact hS1.1
              have HT2 := Lib.hid (t2.hold (Hold.setCell (o := n + 1) (v := .pointer q2) hm1 (by decide)))
              have HHT := Lib.hid (fun (p : Option Addr) (t' : Tr ByteArray Int) (h : IsTS V (.pointer p) t') => (h.below bb).hold (Hold.setCell (o := n + 1) (v := .pointer q2) hm1 (by decide)))
              have HHO := Lib.hid (fun (v : Value) (k : Nat) (xs : List Value) (h : V.ownsRow w.heap.size EntR 2 v k xs) => own_hold (own_hold h (Hold.below bb)) (Hold.setCell (o := n + 1) (v := .pointer q2) hm1 (by decide)))
              have HO2 := Lib.hid (HHO.out _ _ _ HO.out)
              have HBW := Lib.hid ((HB.out.trans (bb.mono HB.out.size)).setCell (p := ⟨w.heap.size, n + 1, none⟩) (Nat.le_refl _) (.pointer q2))
              have HBB2 := Lib.hid hb2
              have HM2 := Lib.hid hm2
              have HL2 := Lib.hid hl2
              refine hK _ _ ⟨⟨s0, y1, y2⟩, ?_⟩
              clear hK K
              refine lex_done (by kernel_rfl) ?_
              clear hS hS1 s0 hm1 hl1 hm2 hl2 hb2 x1 x2 bb b2 t2 zq z0 z1 z2
              generalize (u1.setCell ⟨w.heap.size, n + 1, none⟩ (.pointer q2)) = V2 at *
              go_wp2_with fail
              refine lex_start [0, 1, 2, 3, 4, 5, 6, 7, 8, 9, 10, 11, 12, 13] (S := fun W => W.cell? ⟨w.heap.size + 1, f, none⟩ = some (.slice va t.toL.length vc) ∧ W.cell? ⟨BX, 1, none⟩ = some (.string ky) ∧ W.cell? ⟨BX, 2, none⟩ = some (.int .i64 nm)) (by kernel_rfl) ⟨bcellAt (bd _) yq, bcellAt (bd _) y1, bcellAt (bd _) y2⟩ (fun hS => ?_)
              simp only [inOrder, List.filterMap, List.getElem?_cons_succ, List.getElem?_cons_zero]
              refine lex_take (i := 0) (v := ?_) rfl (by kernel_rfl) (by kernel_rfl) (by kernel_rfl) (by rfl) hS ?_ ?_
              rotate_left
              · ((intro W hW; obtain ⟨k0, k1, k2⟩ := hW; go_simp) <;> with_reducible rfl)
              simp only [Act.put, List.setIfInBounds_toArray, List.set_cons_zero, List.set_cons_succ]
              refine lex_take (i := 1) (v := ?_) rfl (by kernel_rfl) (by kernel_rfl) (by kernel_rfl) (by rfl) hS ?_ ?_
              rotate_left
              · ((intro W hW; obtain ⟨k0, k1, k2⟩ := hW; go_simp) <;> with_reducible rfl)
              simp only [Act.put, List.setIfInBounds_toArray, List.set_cons_zero, List.set_cons_succ]
              refine lex_take (i := 2) (v := ?_) rfl (by kernel_rfl) (by kernel_rfl) (by kernel_rfl) (by rfl) hS ?_ ?_
              rotate_left
              · ((intro W hW; obtain ⟨k0, k1, k2⟩ := hW; go_simp) <;> with_reducible rfl)
              simp only [Act.put, List.setIfInBounds_toArray, List.set_cons_zero, List.set_cons_succ]
              refine lex_take (i := 3) (v := ?_) rfl (by kernel_rfl) (by kernel_rfl) (by kernel_rfl) (by rfl) hS ?_ ?_
              rotate_left
              · ((intro W hW; obtain ⟨k0, k1, k2⟩ := hW; go_simp) <;> with_reducible rfl)
              simp only [Act.put, List.setIfInBounds_toArray, List.set_cons_zero, List.set_cons_succ]
              refine lex_take (i := 4) (v := ?_) rfl (by kernel_rfl) (by kernel_rfl) (by kernel_rfl) (by rfl) hS ?_ ?_
              rotate_left
              · ((intro W hW; obtain ⟨k0, k1, k2⟩ := hW; go_simp) <;> with_reducible rfl)
              simp only [Act.put, List.setIfInBounds_toArray, List.set_cons_zero, List.set_cons_succ]
              refine lex_take (i := 5) (v := ?_) rfl (by kernel_rfl) (by kernel_rfl) (by kernel_rfl) (by rfl) hS ?_ ?_
              rotate_left
              · ((intro W hW; obtain ⟨k0, k1, k2⟩ := hW; go_simp) <;> with_reducible rfl)
              simp only [Act.put, List.setIfInBounds_toArray, List.set_cons_zero, List.set_cons_succ]
              refine lex_take (i := 6) (v := ?_) rfl (by kernel_rfl) (by kernel_rfl) (by kernel_rfl) (by rfl) hS ?_ ?_
              rotate_left
              · ((intro W hW; obtain ⟨k0, k1, k2⟩ := hW; go_simp) <;> with_reducible rfl)
              simp only [Act.put, List.setIfInBounds_toArray, List.set_cons_zero, List.set_cons_succ]
              refine lex_take (i := 7) (v := ?_) rfl (by kernel_rfl) (by kernel_rfl) (by kernel_rfl) (by rfl) hS ?_ ?_
              rotate_left
              · ((intro W hW; obtain ⟨k0, k1, k2⟩ := hW; go_simp) <;> with_reducible rfl)
              simp only [Act.put, List.setIfInBounds_toArray, List.set_cons_zero, List.set_cons_succ]
              refine lex_take (i := 8) (v := ?_) rfl (by kernel_rfl) (by kernel_rfl) (by kernel_rfl) (by rfl) hS ?_ ?_
              rotate_left
              · ((intro W hW; obtain ⟨k0, k1, k2⟩ := hW; go_simp) <;> with_reducible rfl)
              simp only [Act.put, List.setIfInBounds_toArray, List.set_cons_zero, List.set_cons_succ]
              refine lex_take (i := 9) (v := ?_) rfl (by kernel_rfl) (by kernel_rfl) (by kernel_rfl) (by rfl) hS ?_ ?_
              rotate_left
              · ((intro W hW; obtain ⟨k0, k1, k2⟩ := hW; go_simp) <;> with_reducible rfl)
              simp only [Act.put, List.setIfInBounds_toArray, List.set_cons_zero, List.set_cons_succ]
              refine lex_take (i := 10) (v := ?_) rfl (by kernel_rfl) (by kernel_rfl) (by kernel_rfl) (by rfl) hS ?_ ?_
              rotate_left
              · ((intro W hW; obtain ⟨k0, k1, k2⟩ := hW; go_simp) <;> with_reducible rfl)
              simp only [Act.put, List.setIfInBounds_toArray, List.set_cons_zero, List.set_cons_succ]
              have htl := HTL.out
              refine lex_call (i := 11) rfl (by kernel_rfl) (by rfl) ?_ _ (rput_any ky nm ((row_of_own HO2.out).below (bd _)) (by omega)) ?_
              · go_simp
              rintro e u2 ⟨u3, rfl, o3, b3⟩
              rw [HEQ.out] at o3
              obtain ⟨sa, sc, rfl⟩ := (row_of_own o3).shape
              have bb := bmore (bd V2) b3
              have hm1 := Hold.below bb _ _ HM2.out
              have hl1 := Hold.below bb _ _ HL2.out
              have x1 : u2.cell? ⟨w.heap.size + 1, n + 1, none⟩ = some (.slice none 0 0) := cellB hl1 (HK.out.free (n + 1) (by omega) (by omega)).2
              have x2 : u2.frozen? ⟨w.heap.size + 1, n + 1, none⟩ = false := frozenB hl1
              have hS1 : u2.cell? ⟨w.heap.size + 1, f, none⟩ = some (.slice va t.toL.length vc) ∧ u2.cell? ⟨BX, 1, none⟩ = some (.string ky) ∧ u2.cell? ⟨BX, 2, none⟩ = some (.int .i64 nm) := ⟨bcellAt bb yq, bcellAt bb y1, bcellAt bb y2⟩
              refine ⟨_, rfl, fun W => W.cell? ⟨w.heap.size + 1, f, none⟩ = some (.slice va t.toL.length vc) ∧ W.cell? ⟨BX, 1, none⟩ = some (.string ky) ∧ W.cell? ⟨BX, 2, none⟩ = some (.int .i64 nm), fun W h => h, hS1, ?_⟩
              simp only [Act.put, List.setIfInBounds_toArray, List.set_cons_zero, List.set_cons_succ]
              refine lex_take (i := 12) (v := ?_) rfl (by kernel_rfl) (by kernel_rfl) (by kernel_rfl) (by rfl) hS1 ?_ ?_
              rotate_left
              · ((intro W hW; obtain ⟨k0, k1, k2⟩ := hW; go_simp) <;> with_reducible rfl)
              simp only [Act.put, List.setIfInBounds_toArray, List.set_cons_zero, List.set_cons_succ]
              refine lex_do (i := 13) rfl (by kernel_rfl) (by rfl) (fun K hK => ?_)
              go_simp
              generalize hnt : (Tr.put t ky nm) = nt at *
              have hl2 := setCellB (j := n + 1) (u := .slice sa nt.toL.length sc) hl1
              have hm2 : (u2.setCell ⟨w.heap.size + 1, n + 1, none⟩ (.slice sa nt.toL.length sc)).heap[w.heap.size]? = some (Obj.cells (cm.setIfInBounds (n + 1) (.pointer q2)) MapS) := by rw [Below.heap_setCell _ _ _ _ HNE.out]; exact hm1
              have hb2 := Hold.setCell (T := 28) (o := n + 1) (v := .slice sa nt.toL.length sc) hl1 (by decide) _ _ (Hold.below bb _ _ HBB2.out)
              have z1 : (u2.setCell ⟨w.heap.size + 1, n + 1, none⟩ (.slice sa nt.toL.length sc)).cell? ⟨BX, 1, none⟩ = some (.string ky) := cellB hb2 rfl
              have z2 : (u2.setCell ⟨w.heap.size + 1, n + 1, none⟩ (.slice sa nt.toL.length sc)).cell? ⟨BX, 2, none⟩ = some (.int .i64 nm) := cellB hb2 rfl
              have s0 : (u2.setCell ⟨w.heap.size + 1, n + 1, none⟩ (.slice sa nt.toL.length sc)).cell? ⟨w.heap.size + 1, f, none⟩ = some (.slice va t.toL.length vc) := by
                rw [World.cell?_setCell_other _ _ _ _ (fun e => by simp only [Addr.mk.injEq] at e; omega)]; exact hS1.1
              have zm : (u2.setCell ⟨w.heap.size + 1, n + 1, none⟩ (.slice sa nt.toL.length sc)).cell? ⟨w.heap.size, n + 1, none⟩ = some (.pointer q2) := cellB hm2 (set_at HK.out.ms (by omega))
              have zl : (u2.setCell ⟨w.heap.size + 1, n + 1, none⟩ (.slice sa nt.toL.length sc)).cell? ⟨w.heap.size + 1, n + 1, none⟩ = some (.slice sa nt.toL.length sc) := cellB hl2 (set_at HK.out.ls (by omega))
              have hT3 := (HT2.out.below bb).hold (Hold.setCell (o := n + 1) (v := .slice sa nt.toL.length sc) hl1 (by decide))
              have hO3 := own_hold (own_base o3 (show w.heap.size ≤ V2.drew.heap.size from HBW.out.size)) (Hold.setCell (o := n + 1) (v := .slice sa nt.toL.length sc) hl1 (by decide))
              have hkn := HK.out.next hm2 hl2 (by omega) hT3 hO3 HNS.out HNB.out hnz (fun j _ q' v' t' h1 h2 => ⟨((HHT.out _ _ h1).below bb).hold (Hold.setCell (o := n + 1) (v := .slice sa nt.toL.length sc) hl1 (by decide)), own_hold (own_hold (HHO.out _ _ _ h2) (Hold.below bb)) (Hold.setCell (o := n + 1) (v := .slice sa nt.toL.length sc) hl1 (by decide))⟩)
              have HKN := Lib.hid hkn
              have HT3 := Lib.hid hT3
              have HR3 := Lib.hid (row_of_own hO3)
              have HBX3 := Lib.hid ((HBW.out.trans (bb.mono HBW.out.size)).setCell (p := ⟨w.heap.size + 1, n + 1, none⟩) (by simp) (.slice sa nt.toL.length sc))
              refine hK _ _ ⟨⟨s0, z1, z2⟩, ?_⟩
              clear hK K
              refine lex_done (by kernel_rfl) ?_
              clear hS hS1 s0 hm1 hl1 hm2 hl2 hb2 x1 x2 bb b3 o3 hT3 hO3 hkn y1 y2 yq
              generalize (u2.setCell ⟨w.heap.size + 1, n + 1, none⟩ (.slice sa nt.toL.length sc)) = V3 at *
              clear HM2 HL2 HT2 HO2 HHT HHO HBW HBB2 HK HT HO HE2 HTL htl HEQ
              go_wp2_with fail
              go_still_tail 14, (by kernel_rfl)
              change wpList _ _ _ _ _ V3.drew
              go_wp2_with fail
              refine (tells_any (HT3.out.below (bd _)) (HR3.out.below (bd _)) (by omega) HNS.out HNB.out ⟨n0, n1⟩).mono ?_
              rintro e u5 ⟨rfl, b5⟩
              have HKE := Lib.hid (HKN.out.below (bmore (bd V3) b5))
              have HBE := Lib.hid (HBX3.out.trans ((bmore (bd V3) b5).mono HBX3.out.size))
              clear b5 zm zl z1 z2
              go_wp2_with fail
              go_roundw
              case rel => exact ⟨n + 1, _, _, by go_num, by omega, HBE.out, HKE.out⟩
              case measure => simp [intOf]; omega
            · as_aux_lemma =>
              have g2 : decide (f < n) = false := by simp; omega
              have g3 : (0 : Int) ≤ (f : Int) := by omega
              have g4 : (f : Int) ≤ 9223372036854775797 := by omega
              clear hk3 k1
              go_wp2_with fail
              generalize (wr.alloc (.cells #[.int .i64 ((f : Int) + 10), .string ky, .int .i64 nm] 28)) = V at *
              generalize wr.heap.size = BX at *
              obtain ⟨q, v, t, e1, e2, hT, hO, hsr, hbl, htz⟩ := HK.out.each n (by omega)
              obtain ⟨va, vc, rfl⟩ := (row_of_own hO).shape
              have zq : V.cell? ⟨w.heap.size, n, none⟩ = some (.pointer q) := cellB HK.out.mb e1
              have htl : t.toL.length = t.size := Tr.size_toL t
              have htz2 : t.size ≤ 80 := by omega
              have HEQ := Lib.hid (show rput t.toL ky nm = (Tr.put t ky nm).toL from by rw [Tr.toL_put _ _ _ hsr, rput_lput _ _ _ hsr])
              have HNS := Lib.hid (show Srt (Tr.put t ky nm).toL from by rw [Tr.toL_put _ _ _ hsr]; exact hsr.lput _ _)
              have HNB := Lib.hid (show Tr.Bal (Tr.put t ky nm) from (Tr.bal_put t ky nm hbl).1)
              have hnz : (Tr.put t ky nm).size ≤ n + 1 := by have := Tr.size_put_le t ky nm; omega
              have HT := Lib.hid hT
              have HO := Lib.hid hO
              have HE2 := Lib.hid e2
              have HTL := Lib.hid htl
              clear hT hO hsr hbl e1 e2 c0 c1 c2 htl
              have i1 : (n : Int) < (l.length : Int) + 1 := by omega
              have i2 : IntKind.i64.wrap ((n : Int) + 1) = (n : Int) + 1 := IntWalk.i64_in _ (by omega)
              have i3 : (0 : Int) ≤ (n : Int) + 1 := by omega
              have i4 : (n : Int) + 1 < (l.length : Int) + 1 := by omega
              have i5 : ((n : Int) + 1).toNat = n + 1 := by omega
              refine lex_start [0, 1, 2, 3, 4, 5, 6, 7, 8, 9, 10, 11, 12, 13] (S := fun W => W.cell? ⟨w.heap.size, n, none⟩ = some (.pointer q) ∧ W.cell? ⟨BX, 1, none⟩ = some (.string ky) ∧ W.cell? ⟨BX, 2, none⟩ = some (.int .i64 nm)) (by kernel_rfl) ⟨bcellAt (bd _) zq, bcellAt (bd _) z1, bcellAt (bd _) z2⟩ (fun hS => ?_)
              simp only [inOrder, List.filterMap, List.getElem?_cons_succ, List.getElem?_cons_zero]
              refine lex_take (i := 0) (v := ?_) rfl (by kernel_rfl) (by kernel_rfl) (by kernel_rfl) (by rfl) hS ?_ ?_
              rotate_left
              · ((intro W hW; obtain ⟨k0, k1, k2⟩ := hW; go_simp) <;> with_reducible rfl)
              simp only [Act.put, List.setIfInBounds_toArray, List.set_cons_zero, List.set_cons_succ]
              refine lex_take (i := 1) (v := ?_) rfl (by kernel_rfl) (by kernel_rfl) (by kernel_rfl) (by rfl) hS ?_ ?_
              rotate_left
              · ((intro W hW; obtain ⟨k0, k1, k2⟩ := hW; go_simp) <;> with_reducible rfl)
              simp only [Act.put, List.setIfInBounds_toArray, List.set_cons_zero, List.set_cons_succ]
              refine lex_take (i := 2) (v := ?_) rfl (by kernel_rfl) (by kernel_rfl) (by kernel_rfl) (by rfl) hS ?_ ?_
              rotate_left
              · ((intro W hW; obtain ⟨k0, k1, k2⟩ := hW; go_simp) <;> with_reducible rfl)
              simp only [Act.put, List.setIfInBounds_toArray, List.set_cons_zero, List.set_cons_succ]
              refine lex_take (i := 3) (v := ?_) rfl (by kernel_rfl) (by kernel_rfl) (by kernel_rfl) (by rfl) hS ?_ ?_
              rotate_left
              · ((intro W hW; obtain ⟨k0, k1, k2⟩ := hW; go_simp) <;> with_reducible rfl)
              simp only [Act.put, List.setIfInBounds_toArray, List.set_cons_zero, List.set_cons_succ]
              refine lex_take (i := 4) (v := ?_) rfl (by kernel_rfl) (by kernel_rfl) (by kernel_rfl) (by rfl) hS ?_ ?_
              rotate_left
              · ((intro W hW; obtain ⟨k0, k1, k2⟩ := hW; go_simp) <;> with_reducible rfl)
              simp only [Act.put, List.setIfInBounds_toArray, List.set_cons_zero, List.set_cons_succ]
              refine lex_take (i := 5) (v := ?_) rfl (by kernel_rfl) (by kernel_rfl) (by kernel_rfl) (by rfl) hS ?_ ?_
              rotate_left
              · ((intro W hW; obtain ⟨k0, k1, k2⟩ := hW; go_simp) <;> with_reducible rfl)
              simp only [Act.put, List.setIfInBounds_toArray, List.set_cons_zero, List.set_cons_succ]
              refine lex_take (i := 6) (v := ?_) rfl (by kernel_rfl) (by kernel_rfl) (by kernel_rfl) (by rfl) hS ?_ ?_
              rotate_left
              · ((intro W hW; obtain ⟨k0, k1, k2⟩ := hW; go_simp) <;> with_reducible rfl)
              simp only [Act.put, List.setIfInBounds_toArray, List.set_cons_zero, List.set_cons_succ]
              refine lex_take (i := 7) (v := ?_) rfl (by kernel_rfl) (by kernel_rfl) (by kernel_rfl) (by rfl) hS ?_ ?_
              rotate_left
              · ((intro W hW; obtain ⟨k0, k1, k2⟩ := hW; go_simp) <;> with_reducible rfl)
              simp only [Act.put, List.setIfInBounds_toArray, List.set_cons_zero, List.set_cons_succ]
              refine lex_take (i := 8) (v := ?_) rfl (by kernel_rfl) (by kernel_rfl) (by kernel_rfl) (by rfl) hS ?_ ?_
              rotate_left
              · ((intro W hW; obtain ⟨k0, k1, k2⟩ := hW; go_simp) <;> with_reducible rfl)
              simp only [Act.put, List.setIfInBounds_toArray, List.set_cons_zero, List.set_cons_succ]
              refine lex_take (i := 9) (v := ?_) rfl (by kernel_rfl) (by kernel_rfl) (by kernel_rfl) (by rfl) hS ?_ ?_
              rotate_left
              · ((intro W hW; obtain ⟨k0, k1, k2⟩ := hW; go_simp) <;> with_reducible rfl)
              simp only [Act.put, List.setIfInBounds_toArray, List.set_cons_zero, List.set_cons_succ]
              refine lex_take (i := 10) (v := ?_) rfl (by kernel_rfl) (by kernel_rfl) (by kernel_rfl) (by rfl) hS ?_ ?_
              rotate_left
              · ((intro W hW; obtain ⟨k0, k1, k2⟩ := hW; go_simp) <;> with_reducible rfl)
              simp only [Act.put, List.setIfInBounds_toArray, List.set_cons_zero, List.set_cons_succ]
              refine lex_call (i := 11) rfl (by kernel_rfl) (by rfl) ?_ _ (mputS ky nm (HT.out.below (bd _)) (by omega)) ?_
              · go_simp
              rintro e u1 ⟨q2, rfl, t2, b2⟩
              have bb := bmore (bd V) b2
              have hm1 := Hold.below bb _ _ HK.out.mb
              have hl1 := Hold.below bb _ _ HK.out.lb
              have x1 : u1.cell? ⟨w.heap.size, n + 1, none⟩ = some (.pointer none) := cellB hm1 (HK.out.free (n + 1) (by omega) (by omega)).1
              have x2 : u1.frozen? ⟨w.heap.size, n + 1, none⟩ = false := frozenB hm1
              have hS1 : u1.cell? ⟨w.heap.size, n, none⟩ = some (.pointer q) ∧ u1.cell? ⟨BX, 1, none⟩ = some (.string ky) ∧ u1.cell? ⟨BX, 2, none⟩ = some (.int .i64 nm) := ⟨bcellAt bb zq, bcellAt bb z1, bcellAt bb z2⟩
              refine ⟨_, rfl, fun W => W.cell? ⟨w.heap.size, n, none⟩ = some (.pointer q) ∧ W.cell? ⟨BX, 1, none⟩ = some (.string ky) ∧ W.cell? ⟨BX, 2, none⟩ = some (.int .i64 nm), fun W h => h, hS1, ?_⟩
              simp only [Act.put, List.setIfInBounds_toArray, List.set_cons_zero, List.set_cons_succ]
              refine lex_take (i := 12) (v := ?_) rfl (by kernel_rfl) (by kernel_rfl) (by kernel_rfl) (by rfl) hS1 ?_ ?_
              rotate_left
              · ((intro W hW; obtain ⟨k0, k1, k2⟩ := hW; go_simp) <;> with_reducible rfl)
              simp only [Act.put, List.setIfInBounds_toArray, List.set_cons_zero, List.set_cons_succ]
              refine lex_do (i := 13) rfl (by kernel_rfl) (by rfl) (fun K hK => ?_)
              go_simp
              have hm2 := setCellB (j := n + 1) (u := .pointer q2) hm1
              have hl2 : (u1.setCell ⟨w.heap.size, n + 1, none⟩ (.pointer q2)).heap[w.heap.size + 1]? = some (Obj.cells cl SlE) := by rw [Below.heap_setCell _ _ _ _ (fun e => HNE.out e.symm)]; exact hl1
              have hb2 := Hold.setCell (T := 28) (o := n + 1) (v := .pointer q2) hm1 (by decide) _ _ (Hold.below bb _ _ HBB.out)
              have y1 : (u1.setCell ⟨w.heap.size, n + 1, none⟩ (.pointer q2)).cell? ⟨BX, 1, none⟩ = some (.string ky) := cellB hb2 rfl
              have y2 : (u1.setCell ⟨w.heap.size, n + 1, none⟩ (.pointer q2)).cell? ⟨BX, 2, none⟩ = some (.int .i64 nm) := cellB hb2 rfl
              have yq : (u1.setCell ⟨w.heap.size, n + 1, none⟩ (.pointer q2)).cell? ⟨w.heap.size + 1, n, none⟩ = some (.slice va t.toL.length vc) := cellB hl2 HE2.out
              have s0 : (u1.setCell ⟨w.heap.size, n + 1, none⟩ (.pointer q2)).cell? ⟨w.heap.size, n, none⟩ = some (.pointer q) := by
                rw [World.cell?_setCell_other _ _ _ _ (fun e => by simp only [Addr.mk.injEq] at e; omega)]; exact hS1.1
              have HT2 := Lib.hid (t2.hold (Hold.setCell (o := n + 1) (v := .pointer q2) hm1 (by decide)))
              have HHT := Lib.hid (fun (p : Option Addr) (t' : Tr ByteArray Int) (h : IsTS V (.pointer p) t') => (h.below bb).hold (Hold.setCell (o := n + 1) (v := .pointer q2) hm1 (by decide)))
              have HHO := Lib.hid (fun (v : Value) (k : Nat) (xs : List Value) (h : V.ownsRow w.heap.size EntR 2 v k xs) => own_hold (own_hold h (Hold.below bb)) (Hold.setCell (o := n + 1) (v := .pointer q2) hm1 (by decide)))
              have HO2 := Lib.hid (HHO.out _ _ _ HO.out)
              have HBW := Lib.hid ((HB.out.trans (bb.mono HB.out.size)).setCell (p := ⟨w.heap.size, n + 1, none⟩) (Nat.le_refl _) (.pointer q2))
              have HBB2 := Lib.hid hb2
              have HM2 := Lib.hid hm2
              have HL2 := Lib.hid hl2
              refine hK _ _ ⟨⟨s0, y1, y2⟩, ?_⟩
              clear hK K
              refine lex_done (by kernel_rfl) ?_
              clear hS hS1 s0 hm1 hl1 hm2 hl2 hb2 x1 x2 bb b2 t2 zq z0 z1 z2
              generalize (u1.setCell ⟨w.heap.size, n + 1, none⟩ (.pointer q2)) = V2 at *
              go_wp2_with fail
              refine lex_start [0, 1, 2, 3, 4, 5, 6, 7, 8, 9, 10, 11, 12, 13] (S := fun W => W.cell? ⟨w.heap.size + 1, n, none⟩ = some (.slice va t.toL.length vc) ∧ W.cell? ⟨BX, 1, none⟩ = some (.string ky) ∧ W.cell? ⟨BX, 2, none⟩ = some (.int .i64 nm)) (by kernel_rfl) ⟨bcellAt (bd _) yq, bcellAt (bd _) y1, bcellAt (bd _) y2⟩ (fun hS => ?_)
              simp only [inOrder, List.filterMap, List.getElem?_cons_succ, List.getElem?_cons_zero]
              refine lex_take (i := 0) (v := ?_) rfl (by kernel_rfl) (by kernel_rfl) (by kernel_rfl) (by rfl) hS ?_ ?_
              rotate_left
              · ((intro W hW; obtain ⟨k0, k1, k2⟩ := hW; go_simp) <;> with_reducible rfl)
              simp only [Act.put, List.setIfInBounds_toArray, List.set_cons_zero, List.set_cons_succ]
              refine lex_take (i := 1) (v := ?_) rfl (by kernel_rfl) (by kernel_rfl) (by kernel_rfl) (by rfl) hS ?_ ?_
              rotate_left
              · ((intro W hW; obtain ⟨k0, k1, k2⟩ := hW; go_simp) <;> with_reducible rfl)
              simp only [Act.put, List.setIfInBounds_toArray, List.set_cons_zero, List.set_cons_succ]
              refine lex_take (i := 2) (v := ?_) rfl (by kernel_rfl) (by kernel_rfl) (by kernel_rfl) (by rfl) hS ?_ ?_
              rotate_left
              · ((intro W hW; obtain ⟨k0, k1, k2⟩ := hW; go_simp) <;> with_reducible rfl)
              simp only [Act.put, List.setIfInBounds_toArray, List.set_cons_zero, List.set_cons_succ]
              refine lex_take (i := 3) (v := ?_) rfl (by kernel_rfl) (by kernel_rfl) (by kernel_rfl) (by rfl) hS ?_ ?_
              rotate_left
              · ((intro W hW; obtain ⟨k0, k1, k2⟩ := hW; go_simp) <;> with_reducible rfl)
              simp only [Act.put, List.setIfInBounds_toArray, List.set_cons_zero, List.set_cons_succ]
              refine lex_take (i := 4) (v := ?_) rfl (by kernel_rfl) (by kernel_rfl) (by kernel_rfl) (by rfl) hS ?_ ?_
              rotate_left
              · ((intro W hW; obtain ⟨k0, k1, k2⟩ := hW; go_simp) <;> with_reducible rfl)
              simp only [Act.put, List.setIfInBounds_toArray, List.set_cons_zero, List.set_cons_succ]
              refine lex_take (i := 5) (v := ?_) rfl (by kernel_rfl) (by kernel_rfl) (by kernel_rfl) (by rfl) hS ?_ ?_
              rotate_left
              · ((intro W hW; obtain ⟨k0, k1, k2⟩ := hW; go_simp) <;> with_reducible rfl)
              simp only [Act.put, List.setIfInBounds_toArray, List.set_cons_zero, List.set_cons_succ]
              refine lex_take (i := 6) (v := ?_) rfl (by kernel_rfl) (by kernel_rfl) (by kernel_rfl) (by rfl) hS ?_ ?_
              rotate_left
              · ((intro W hW; obtain ⟨k0, k1, k2⟩ := hW; go_simp) <;> with_reducible rfl)
              simp only [Act.put, List.setIfInBounds_toArray, List.set_cons_zero, List.set_cons_succ]
              refine lex_take (i := 7) (v := ?_) rfl (by kernel_rfl) (by kernel_rfl) (by kernel_rfl) (by rfl) hS ?_ ?_
              rotate_left
              · ((intro W hW; obtain ⟨k0, k1, k2⟩ := hW; go_simp) <;> with_reducible rfl)
              simp only [Act.put, List.setIfInBounds_toArray, List.set_cons_zero, List.set_cons_succ]
              refine lex_take (i := 8) (v := ?_) rfl (by kernel_rfl) (by kernel_rfl) (by kernel_rfl) (by rfl) hS ?_ ?_
              rotate_left
              · ((intro W hW; obtain ⟨k0, k1, k2⟩ := hW; go_simp) <;> with_reducible rfl)
              simp only [Act.put, List.setIfInBounds_toArray, List.set_cons_zero, List.set_cons_succ]
              refine lex_take (i := 9) (v := ?_) rfl (by kernel_rfl) (by kernel_rfl) (by kernel_rfl) (by rfl) hS ?_ ?_
              rotate_left
              · ((intro W hW; obtain ⟨k0, k1, k2⟩ := hW; go_simp) <;> with_reducible rfl)
              simp only [Act.put, List.setIfInBounds_toArray, List.set_cons_zero, List.set_cons_succ]
              refine lex_take (i := 10) (v := ?_) rfl (by kernel_rfl) (by kernel_rfl) (by kernel_rfl) (by rfl) hS ?_ ?_
              rotate_left
              · ((intro W hW; obtain ⟨k0, k1, k2⟩ := hW; go_simp) <;> with_reducible rfl)
              simp only [Act.put, List.setIfInBounds_toArray, List.set_cons_zero, List.set_cons_succ]
              have htl := HTL.out
              refine lex_call (i := 11) rfl (by kernel_rfl) (by rfl) ?_ _ (rput_any ky nm ((row_of_own HO2.out).below (bd _)) (by omega)) ?_
              · go_simp
              rintro e u2 ⟨u3, rfl, o3, b3⟩
              rw [HEQ.out] at o3
              obtain ⟨sa, sc, rfl⟩ := (row_of_own o3).shape
              have bb := bmore (bd V2) b3
              have hm1 := Hold.below bb _ _ HM2.out
              have hl1 := Hold.below bb _ _ HL2.out
              have x1 : u2.cell? ⟨w.heap.size + 1, n + 1, none⟩ = some (.slice none 0 0) := cellB hl1 (HK.out.free (n + 1) (by omega) (by omega)).2
              have x2 : u2.frozen? ⟨w.heap.size + 1, n + 1, none⟩ = false := frozenB hl1
              have hS1 : u2.cell? ⟨w.heap.size + 1, n, none⟩ = some (.slice va t.toL.length vc) ∧ u2.cell? ⟨BX, 1, none⟩ = some (.string ky) ∧ u2.cell? ⟨BX, 2, none⟩ = some (.int .i64 nm) := ⟨bcellAt bb yq, bcellAt bb y1, bcellAt bb y2⟩
              refine ⟨_, rfl, fun W => W.cell? ⟨w.heap.size + 1, n, none⟩ = some (.slice va t.toL.length vc) ∧ W.cell? ⟨BX, 1, none⟩ = some (.string ky) ∧ W.cell? ⟨BX, 2, none⟩ = some (.int .i64 nm), fun W h => h, hS1, ?_⟩
              simp only [Act.put, List.setIfInBounds_toArray, List.set_cons_zero, List.set_cons_succ]
              refine lex_take (i := 12) (v := ?_) rfl (by kernel_rfl) (by kernel_rfl) (by kernel_rfl) (by rfl) hS1 ?_ ?_
              rotate_left
              · ((intro W hW; obtain ⟨k0, k1, k2⟩ := hW; go_simp) <;> with_reducible rfl)
              simp only [Act.put, List.setIfInBounds_toArray, List.set_cons_zero, List.set_cons_succ]
              refine lex_do (i := 13) rfl (by kernel_rfl) (by rfl) (fun K hK => ?_)
              go_simp
              generalize hnt : (Tr.put t ky nm) = nt at *
              have hl2 := setCellB (j := n + 1) (u := .slice sa nt.toL.length sc) hl1
              have hm2 : (u2.setCell ⟨w.heap.size + 1, n + 1, none⟩ (.slice sa nt.toL.length sc)).heap[w.heap.size]? = some (Obj.cells (cm.setIfInBounds (n + 1) (.pointer q2)) MapS) := by rw [Below.heap_setCell _ _ _ _ HNE.out]; exact hm1
              have hb2 := Hold.setCell (T := 28) (o := n + 1) (v := .slice sa nt.toL.length sc) hl1 (by decide) _ _ (Hold.below bb _ _ HBB2.out)
              have z1 : (u2.setCell ⟨w.heap.size + 1, n + 1, none⟩ (.slice sa nt.toL.length sc)).cell? ⟨BX, 1, none⟩ = some (.string ky) := cellB hb2 rfl
              have z2 : (u2.setCell ⟨w.heap.size + 1, n + 1, none⟩ (.slice sa nt.toL.length sc)).cell? ⟨BX, 2, none⟩ = some (.int .i64 nm) := cellB hb2 rfl
              have s0 : (u2.setCell ⟨w.heap.size + 1, n + 1, none⟩ (.slice sa nt.toL.length sc)).cell? ⟨w.heap.size + 1, n, none⟩ = some (.slice va t.toL.length vc) := by
                rw [World.cell?_setCell_other _ _ _ _ (fun e => by simp only [Addr.mk.injEq] at e; omega)]; exact hS1.1
              have zm : (u2.setCell ⟨w.heap.size + 1, n + 1, none⟩ (.slice sa nt.toL.length sc)).cell? ⟨w.heap.size, n + 1, none⟩ = some (.pointer q2) := cellB hm2 (set_at HK.out.ms (by omega))
              have zl : (u2.setCell ⟨w.heap.size + 1, n + 1, none⟩ (.slice sa nt.toL.length sc)).cell? ⟨w.heap.size + 1, n + 1, none⟩ = some (.slice sa nt.toL.length sc) := cellB hl2 (set_at HK.out.ls (by omega))
              have hT3 := (HT2.out.below bb).hold (Hold.setCell (o := n + 1) (v := .slice sa nt.toL.length sc) hl1 (by decide))
              have hO3 := own_hold (own_base o3 (show w.heap.size ≤ V2.drew.heap.size from HBW.out.size)) (Hold.setCell (o := n + 1) (v := .slice sa nt.toL.length sc) hl1 (by decide))
              have hkn := HK.out.next hm2 hl2 (by omega) hT3 hO3 HNS.out HNB.out hnz (fun j _ q' v' t' h1 h2 => ⟨((HHT.out _ _ h1).below bb).hold (Hold.setCell (o := n + 1) (v := .slice sa nt.toL.length sc) hl1 (by decide)), own_hold (own_hold (HHO.out _ _ _ h2) (Hold.below bb)) (Hold.setCell (o := n + 1) (v := .slice sa nt.toL.length sc) hl1 (by decide))⟩)
              have HKN := Lib.hid hkn
              have HT3 := Lib.hid hT3
              have HR3 := Lib.hid (row_of_own hO3)
              have HBX3 := Lib.hid ((HBW.out.trans (bb.mono HBW.out.size)).setCell (p := ⟨w.heap.size + 1, n + 1, none⟩) (by simp) (.slice sa nt.toL.length sc))
              refine hK _ _ ⟨⟨s0, z1, z2⟩, ?_⟩
              clear hK K
              refine lex_done (by kernel_rfl) ?_
              clear hS hS1 s0 hm1 hl1 hm2 hl2 hb2 x1 x2 bb b3 o3 hT3 hO3 hkn y1 y2 yq
              generalize (u2.setCell ⟨w.heap.size + 1, n + 1, none⟩ (.slice sa nt.toL.length sc)) = V3 at *
              clear HM2 HL2 HT2 HO2 HHT HHO HBW HBB2 HK HT HO HE2 HTL htl HEQ
              go_wp2_with fail
              go_still_tail 14, (by kernel_rfl)
              change wpList _ _ _ _ _ V3.drew
              go_wp2_with fail
              refine (tells_any (HT3.out.below (bd _)) (HR3.out.below (bd _)) (by omega) HNS.out HNB.out ⟨n0, n1⟩).mono ?_
              rintro e u5 ⟨rfl, b5⟩
              have HKE := Lib.hid (HKN.out.below (bmore (bd V3) b5))
              have HBE := Lib.hid (HBX3.out.trans ((bmore (bd V3) b5).mono HBX3.out.size))
              clear b5 zm zl z1 z2
              go_wp2_with fail
              go_roundw
              case rel => exact ⟨n + 1, _, _, by go_num, by omega, HBE.out, HKE.out⟩
              case measure => simp [intOf]; omega
          · as_aux_lemma =>
            have g2 : decide (10 ≤ kd) = false := by simpa using hk2
            clear hk2
            go_wp2_with fail
            generalize (wr.alloc (.cells #[.int .i64 kd, .string ky, .int .i64 nm] 28)) = V at *
            generalize wr.heap.size = BX at *
            obtain ⟨q, v, t, e1, e2, hT, hO, hsr, hbl, htz⟩ := HK.out.each n (by omega)
            obtain ⟨va, vc, rfl⟩ := (row_of_own hO).shape
            have zq : V.cell? ⟨w.heap.size, n, none⟩ = some (.pointer q) := cellB HK.out.mb e1
            have htl : t.toL.length = t.size := Tr.size_toL t
            have htz2 : t.size ≤ 80 := by omega
            have HEQ := Lib.hid (show rput t.toL ky nm = (Tr.put t ky nm).toL from by rw [Tr.toL_put _ _ _ hsr, rput_lput _ _ _ hsr])
            have HNS := Lib.hid (show Srt (Tr.put t ky nm).toL from by rw [Tr.toL_put _ _ _ hsr]; exact hsr.lput _ _)
            have HNB := Lib.hid (show Tr.Bal (Tr.put t ky nm) from (Tr.bal_put t ky nm hbl).1)
            have hnz : (Tr.put t ky nm).size ≤ n + 1 := by have := Tr.size_put_le t ky nm; omega
            have HT := Lib.hid hT
            have HO := Lib.hid hO
            have HE2 := Lib.hid e2
            have HTL := Lib.hid htl
            clear hT hO hsr hbl e1 e2 c0 c1 c2 htl
            have i1 : (n : Int) < (l.length : Int) + 1 := by omega
            have i2 : IntKind.i64.wrap ((n : Int) + 1) = (n : Int) + 1 := IntWalk.i64_in _ (by omega)
            have i3 : (0 : Int) ≤ (n : Int) + 1 := by omega
            have i4 : (n : Int) + 1 < (l.length : Int) + 1 := by omega
            have i5 : ((n : Int) + 1).toNat = n + 1 := by omega
            refine lex_start [0, 1, 2, 3, 4, 5, 6, 7, 8, 9, 10, 11, 12, 13] (S := fun W => W.cell? ⟨w.heap.size, n, none⟩ = some (.pointer q) ∧ W.cell? ⟨BX, 1, none⟩ = some (.string ky) ∧ W.cell? ⟨BX, 2, none⟩ = some (.int .i64 nm)) (by kernel_rfl) ⟨bcellAt (bd _) zq, bcellAt (bd _) z1, bcellAt (bd _) z2⟩ (fun hS => ?_)
            simp only [inOrder, List.filterMap, List.getElem?_cons_succ, List.getElem?_cons_zero]
            refine lex_take (i := 0) (v := ?_) rfl (by kernel_rfl) (by kernel_rfl) (by kernel_rfl) (by rfl) hS ?_ ?_
            rotate_left
            · ((intro W hW; obtain ⟨k0, k1, k2⟩ := hW; go_simp) <;> with_reducible rfl)
            simp only [Act.put, List.setIfInBounds_toArray, List.set_cons_zero, List.set_cons_succ]
            refine lex_take (i := 1) (v := ?_) rfl (by kernel_rfl) (by kernel_rfl) (by kernel_rfl) (by rfl) hS ?_ ?_
            rotate_left
            · ((intro W hW; obtain ⟨k0, k1, k2⟩ := hW; go_simp) <;> with_reducible rfl)
            simp only [Act.put, List.setIfInBounds_toArray, List.set_cons_zero, List.set_cons_succ]
            refine lex_take (i := 2) (v := ?_) rfl (by kernel_rfl) (by kernel_rfl) (by kernel_rfl) (by rfl) hS ?_ ?_
            rotate_left
            · ((intro W hW; obtain ⟨k0, k1, k2⟩ := hW; go_simp) <;> with_reducible rfl)
            simp only [Act.put, List.setIfInBounds_toArray, List.set_cons_zero, List.set_cons_succ]
            refine lex_take (i := 3) (v := ?_) rfl (by kernel_rfl) (by kernel_rfl) (by kernel_rfl) (by rfl) hS ?_ ?_
            rotate_left
            · ((intro W hW; obtain ⟨k0, k1, k2⟩ := hW; go_simp) <;> with_reducible rfl)
            simp only [Act.put, List.setIfInBounds_toArray, List.set_cons_zero, List.set_cons_succ]
            refine lex_take (i := 4) (v := ?_) rfl (by kernel_rfl) (by kernel_rfl) (by kernel_rfl) (by rfl) hS ?_ ?_
            rotate_left
            · ((intro W hW; obtain ⟨k0, k1, k2⟩ := hW; go_simp) <;> with_reducible rfl)
            simp only [Act.put, List.setIfInBounds_toArray, List.set_cons_zero, List.set_cons_succ]
            refine lex_take (i := 5) (v := ?_) rfl (by kernel_rfl) (by kernel_rfl) (by kernel_rfl) (by rfl) hS ?_ ?_
            rotate_left
            · ((intro W hW; obtain ⟨k0, k1, k2⟩ := hW; go_simp) <;> with_reducible rfl)
            simp only [Act.put, List.setIfInBounds_toArray, List.set_cons_zero, List.set_cons_succ]
            refine lex_take (i := 6) (v := ?_) rfl (by kernel_rfl) (by kernel_rfl) (by kernel_rfl) (by rfl) hS ?_ ?_
            rotate_left
            · ((intro W hW; obtain ⟨k0, k1, k2⟩ := hW; go_simp) <;> with_reducible rfl)
            simp only [Act.put, List.setIfInBounds_toArray, List.set_cons_zero, List.set_cons_succ]
            refine lex_take (i := 7) (v := ?_) rfl (by kernel_rfl) (by kernel_rfl) (by kernel_rfl) (by rfl) hS ?_ ?_
            rotate_left
            · ((intro W hW; obtain ⟨k0, k1, k2⟩ := hW; go_simp) <;> with_reducible rfl)
            simp only [Act.put, List.setIfInBounds_toArray, List.set_cons_zero, List.set_cons_succ]
            refine lex_take (i := 8) (v := ?_) rfl (by kernel_rfl) (by kernel_rfl) (by kernel_rfl) (by rfl) hS ?_ ?_
            rotate_left
            · ((intro W hW; obtain ⟨k0, k1, k2⟩ := hW; go_simp) <;> with_reducible rfl)
            simp only [Act.put, List.setIfInBounds_toArray, List.set_cons_zero, List.set_cons_succ]
            refine lex_take (i := 9) (v := ?_) rfl (by kernel_rfl) (by kernel_rfl) (by kernel_rfl) (by rfl) hS ?_ ?_
            rotate_left
            · ((intro W hW; obtain ⟨k0, k1, k2⟩ := hW; go_simp) <;> with_reducible rfl)
            simp only [Act.put, List.setIfInBounds_toArray, List.set_cons_zero, List.set_cons_succ]
            refine lex_take (i := 10) (v := ?_) rfl (by kernel_rfl) (by kernel_rfl) (by kernel_rfl) (by rfl) hS ?_ ?_
            rotate_left
            · ((intro W hW; obtain ⟨k0, k1, k2⟩ := hW; go_simp) <;> with_reducible rfl)
            simp only [Act.put, List.setIfInBounds_toArray, List.set_cons_zero, List.set_cons_succ]
            refine lex_call (i := 11) rfl (by kernel_rfl) (by rfl) ?_ _ (mputS ky nm (HT.out.below (bd _)) (by omega)) ?_
            · go_simp
            rintro e u1 ⟨q2, rfl, t2, b2⟩
            have bb := bmore (bd V) b2
            have hm1 := Hold.below bb _ _ HK.out.mb
            have hl1 := Hold.below bb _ _ HK.out.lb
            have x1 : u1.cell? ⟨w.heap.size, n + 1, none⟩ = some (.pointer none) := cellB hm1 (HK.out.free (n + 1) (by omega) (by omega)).1
            have x2 : u1.frozen? ⟨w.heap.size, n + 1, none⟩ = false := frozenB hm1
            have hS1 : u1.cell? ⟨w.heap.size, n, none⟩ = some (.pointer q) ∧ u1.cell? ⟨BX, 1, none⟩ = some (.string ky) ∧ u1.cell? ⟨BX, 2, none⟩ = some (.int .i64 nm) := ⟨bcellAt bb zq, bcellAt bb z1, bcellAt bb z2⟩
            refine ⟨_, rfl, fun W => W.cell? ⟨w.heap.size, n, none⟩ = some (.pointer q) ∧ W.cell? ⟨BX, 1, none⟩ = some (.string ky) ∧ W.cell? ⟨BX, 2, none⟩ = some (.int .i64 nm), fun W h => h, hS1, ?_⟩
            simp only [Act.put, List.setIfInBounds_toArray, List.set_cons_zero, List.set_cons_succ]
            refine lex_take (i := 12) (v := ?_) rfl (by kernel_rfl) (by kernel_rfl) (by kernel_rfl) (by rfl) hS1 ?_ ?_
            rotate_left
            · ((intro W hW; obtain ⟨k0, k1, k2⟩ := hW; go_simp) <;> with_reducible rfl)
            simp only [Act.put, List.setIfInBounds_toArray, List.set_cons_zero, List.set_cons_succ]
            refine lex_do (i := 13) rfl (by kernel_rfl) (by rfl) (fun K hK => ?_)
            go_simp
            have hm2 := setCellB (j := n + 1) (u := .pointer q2) hm1
            have hl2 : (u1.setCell ⟨w.heap.size, n + 1, none⟩ (.pointer q2)).heap[w.heap.size + 1]? = some (Obj.cells cl SlE) := by rw [Below.heap_setCell _ _ _ _ (fun e => HNE.out e.symm)]; exact hl1
            have hb2 := Hold.setCell (T := 28) (o := n + 1) (v := .pointer q2) hm1 (by decide) _ _ (Hold.below bb _ _ HBB.out)
            have y1 : (u1.setCell ⟨w.heap.size, n + 1, none⟩ (.pointer q2)).cell? ⟨BX, 1, none⟩ = some (.string ky) := cellB hb2 rfl
            have y2 : (u1.setCell ⟨w.heap.size, n + 1, none⟩ (.pointer q2)).cell? ⟨BX, 2, none⟩ = some (.int .i64 nm) := cellB hb2 rfl
            have yq : (u1.setCell ⟨w.heap.size, n + 1, none⟩ (.pointer q2)).cell? ⟨w.heap.size + 1, n, none⟩ = some (.slice va t.toL.length vc) := cellB hl2 HE2.out
            have s0 : (u1.setCell ⟨w.heap.size, n + 1, none⟩ (.pointer q2)).cell? ⟨w.heap.size, n, none⟩ = some (.pointer q) := by
              rw [World.cell?_setCell_other _ _ _ _ (fun e => by simp only [Addr.mk.injEq] at e; omega)]; exact hS1.1
            have HT2 := Lib.hid (t2.hold (Hold.setCell (o := n + 1) (v := .pointer q2) hm1 (by decide)))
            have HHT := Lib.hid (fun (p : Option Addr) (t' : Tr ByteArray Int) (h : IsTS V (.pointer p) t') => (h.below bb).hold (Hold.setCell (o := n + 1) (v := .pointer q2) hm1 (by decide)))
            have HHO := Lib.hid (fun (v : Value) (k : Nat) (xs : List Value) (h : V.ownsRow w.heap.size EntR 2 v k xs) => own_hold (own_hold h (Hold.below bb)) (Hold.setCell (o := n + 1) (v := .pointer q2) hm1 (by decide)))
            have HO2 := Lib.hid (HHO.out _ _ _ HO.out)
            have HBW := Lib.hid ((HB.out.trans (bb.mono HB.out.size)).setCell (p := ⟨w.heap.size, n + 1, none⟩) (Nat.le_refl _) (.pointer q2))
            have HBB2 := Lib.hid hb2
            have HM2 := Lib.hid hm2
            have HL2 := Lib.hid hl2
            refine hK _ _ ⟨⟨s0, y1, y2⟩, ?_⟩
            clear hK K
            refine lex_done (by kernel_rfl) ?_
            clear hS hS1 s0 hm1 hl1 hm2 hl2 hb2 x1 x2 bb b2 t2 zq z0 z1 z2
            generalize (u1.setCell ⟨w.heap.size, n + 1, none⟩ (.pointer q2)) = V2 at *
            go_wp2_with fail
            refine lex_start [0, 1, 2, 3, 4, 5, 6, 7, 8, 9, 10, 11, 12, 13] (S := fun W => W.cell? ⟨w.heap.size + 1, n, none⟩ = some (.slice va t.toL.length vc) ∧ W.cell? ⟨BX, 1, none⟩ = some (.string ky) ∧ W.cell? ⟨BX, 2, none⟩ = some (.int .i64 nm)) (by kernel_rfl) ⟨bcellAt (bd _) yq, bcellAt (bd _) y1, bcellAt (bd _) y2⟩ (fun hS => ?_)
            simp only [inOrder, List.filterMap, List.getElem?_cons_succ, List.getElem?_cons_zero]
            refine lex_take (i := 0) (v := ?_) rfl (by kernel_rfl) (by kernel_rfl) (by kernel_rfl) (by rfl) hS ?_ ?_
            rotate_left
            · ((intro W hW; obtain ⟨k0, k1, k2⟩ := hW; go_simp) <;> with_reducible rfl)
            simp only [Act.put, List.setIfInBounds_toArray, List.set_cons_zero, List.set_cons_succ]
            refine lex_take (i := 1) (v := ?_) rfl (by kernel_rfl) (by kernel_rfl) (by kernel_rfl) (by rfl) hS ?_ ?_
            rotate_left
            · ((intro W hW; obtain ⟨k0, k1, k2⟩ := hW; go_simp) <;> with_reducible rfl)
            simp only [Act.put, List.setIfInBounds_toArray, List.set_cons_zero, List.set_cons_succ]
            refine lex_take (i := 2) (v := ?_) rfl (by kernel_rfl) (by kernel_rfl) (by kernel_rfl) (by rfl) hS ?_ ?_
            rotate_left
            · ((intro W hW; obtain ⟨k0, k1, k2⟩ := hW; go_simp) <;> with_reducible rfl)
            simp only [Act.put, List.setIfInBounds_toArray, List.set_cons_zero, List.set_cons_succ]
            refine lex_take (i := 3) (v := ?_) rfl (by kernel_rfl) (by kernel_rfl) (by kernel_rfl) (by rfl) hS ?_ ?_
            rotate_left
            · ((intro W hW; obtain ⟨k0, k1, k2⟩ := hW; go_simp) <;> with_reducible rfl)
            simp only [Act.put, List.setIfInBounds_toArray, List.set_cons_zero, List.set_cons_succ]
            refine lex_take (i := 4) (v := ?_) rfl (by kernel_rfl) (by kernel_rfl) (by kernel_rfl) (by rfl) hS ?_ ?_
            rotate_left
            · ((intro W hW; obtain ⟨k0, k1, k2⟩ := hW; go_simp) <;> with_reducible rfl)
            simp only [Act.put, List.setIfInBounds_toArray, List.set_cons_zero, List.set_cons_succ]
            refine lex_take (i := 5) (v := ?_) rfl (by kernel_rfl) (by kernel_rfl) (by kernel_rfl) (by rfl) hS ?_ ?_
            rotate_left
            · ((intro W hW; obtain ⟨k0, k1, k2⟩ := hW; go_simp) <;> with_reducible rfl)
            simp only [Act.put, List.setIfInBounds_toArray, List.set_cons_zero, List.set_cons_succ]
            refine lex_take (i := 6) (v := ?_) rfl (by kernel_rfl) (by kernel_rfl) (by kernel_rfl) (by rfl) hS ?_ ?_
            rotate_left
            · ((intro W hW; obtain ⟨k0, k1, k2⟩ := hW; go_simp) <;> with_reducible rfl)
            simp only [Act.put, List.setIfInBounds_toArray, List.set_cons_zero, List.set_cons_succ]
            refine lex_take (i := 7) (v := ?_) rfl (by kernel_rfl) (by kernel_rfl) (by kernel_rfl) (by rfl) hS ?_ ?_
            rotate_left
            · ((intro W hW; obtain ⟨k0, k1, k2⟩ := hW; go_simp) <;> with_reducible rfl)
            simp only [Act.put, List.setIfInBounds_toArray, List.set_cons_zero, List.set_cons_succ]
            refine lex_take (i := 8) (v := ?_) rfl (by kernel_rfl) (by kernel_rfl) (by kernel_rfl) (by rfl) hS ?_ ?_
            rotate_left
            · ((intro W hW; obtain ⟨k0, k1, k2⟩ := hW; go_simp) <;> with_reducible rfl)
            simp only [Act.put, List.setIfInBounds_toArray, List.set_cons_zero, List.set_cons_succ]
            refine lex_take (i := 9) (v := ?_) rfl (by kernel_rfl) (by kernel_rfl) (by kernel_rfl) (by rfl) hS ?_ ?_
            rotate_left
            · ((intro W hW; obtain ⟨k0, k1, k2⟩ := hW; go_simp) <;> with_reducible rfl)
            simp only [Act.put, List.setIfInBounds_toArray, List.set_cons_zero, List.set_cons_succ]
            refine lex_take (i := 10) (v := ?_) rfl (by kernel_rfl) (by kernel_rfl) (by kernel_rfl) (by rfl) hS ?_ ?_
            rotate_left
            · ((intro W hW; obtain ⟨k0, k1, k2⟩ := hW; go_simp) <;> with_reducible rfl)
            simp only [Act.put, List.setIfInBounds_toArray, List.set_cons_zero, List.set_cons_succ]
            have htl := HTL.out
            refine lex_call (i := 11) rfl (by kernel_rfl) (by rfl) ?_ _ (rput_any ky nm ((row_of_own HO2.out).below (bd _)) (by omega)) ?_
            · go_simp
            rintro e u2 ⟨u3, rfl, o3, b3⟩
            rw [HEQ.out] at o3
            obtain ⟨sa, sc, rfl⟩ := (row_of_own o3).shape
            have bb := bmore (bd V2) b3
            have hm1 := Hold.below bb _ _ HM2.out
            have hl1 := Hold.below bb _ _ HL2.out
            have x1 : u2.cell? ⟨w.heap.size + 1, n + 1, none⟩ = some (.slice none 0 0) := cellB hl1 (HK.out.free (n + 1) (by omega) (by omega)).2
            have x2 : u2.frozen? ⟨w.heap.size + 1, n + 1, none⟩ = false := frozenB hl1
            have hS1 : u2.cell? ⟨w.heap.size + 1, n, none⟩ = some (.slice va t.toL.length vc) ∧ u2.cell? ⟨BX, 1, none⟩ = some (.string ky) ∧ u2.cell? ⟨BX, 2, none⟩ = some (.int .i64 nm) := ⟨bcellAt bb yq, bcellAt bb y1, bcellAt bb y2⟩
            refine ⟨_, rfl, fun W => W.cell? ⟨w.heap.size + 1, n, none⟩ = some (.slice va t.toL.length vc) ∧ W.cell? ⟨BX, 1, none⟩ = some (.string ky) ∧ W.cell? ⟨BX, 2, none⟩ = some (.int .i64 nm), fun W h => h, hS1, ?_⟩
            simp only [Act.put, List.setIfInBounds_toArray, List.set_cons_zero, List.set_cons_succ]
            refine lex_take (i := 12) (v := ?_) rfl (by kernel_rfl) (by kernel_rfl) (by kernel_rfl) (by rfl) hS1 ?_ ?_
            rotate_left
            · ((intro W hW; obtain ⟨k0, k1, k2⟩ := hW; go_simp) <;> with_reducible rfl)
            simp only [Act.put, List.setIfInBounds_toArray, List.set_cons_zero, List.set_cons_succ]
            refine lex_do (i := 13) rfl (by kernel_rfl) (by rfl) (fun K hK => ?_)
            go_simp
            generalize hnt : (Tr.put t ky nm) = nt at *
            have hl2 := setCellB (j := n + 1) (u := .slice sa nt.toL.length sc) hl1
            have hm2 : (u2.setCell ⟨w.heap.size + 1, n + 1, none⟩ (.slice sa nt.toL.length sc)).heap[w.heap.size]? = some (Obj.cells (cm.setIfInBounds (n + 1) (.pointer q2)) MapS) := by rw [Below.heap_setCell _ _ _ _ HNE.out]; exact hm1
            have hb2 := Hold.setCell (T := 28) (o := n + 1) (v := .slice sa nt.toL.length sc) hl1 (by decide) _ _ (Hold.below bb _ _ HBB2.out)
            have z1 : (u2.setCell ⟨w.heap.size + 1, n + 1, none⟩ (.slice sa nt.toL.length sc)).cell? ⟨BX, 1, none⟩ = some (.string ky) := cellB hb2 rfl
            have z2 : (u2.setCell ⟨w.heap.size + 1, n + 1, none⟩ (.slice sa nt.toL.length sc)).cell? ⟨BX, 2, none⟩ = some (.int .i64 nm) := cellB hb2 rfl
            have s0 : (u2.setCell ⟨w.heap.size + 1, n + 1, none⟩ (.slice sa nt.toL.length sc)).cell? ⟨w.heap.size + 1, n, none⟩ = some (.slice va t.toL.length vc) := by
              rw [World.cell?_setCell_other _ _ _ _ (fun e => by simp only [Addr.mk.injEq] at e; omega)]; exact hS1.1
            have zm : (u2.setCell ⟨w.heap.size + 1, n + 1, none⟩ (.slice sa nt.toL.length sc)).cell? ⟨w.heap.size, n + 1, none⟩ = some (.pointer q2) := cellB hm2 (set_at HK.out.ms (by omega))
            have zl : (u2.setCell ⟨w.heap.size + 1, n + 1, none⟩ (.slice sa nt.toL.length sc)).cell? ⟨w.heap.size + 1, n + 1, none⟩ = some (.slice sa nt.toL.length sc) := cellB hl2 (set_at HK.out.ls (by omega))
            have hT3 := (HT2.out.below bb).hold (Hold.setCell (o := n + 1) (v := .slice sa nt.toL.length sc) hl1 (by decide))
            have hO3 := own_hold (own_base o3 (show w.heap.size ≤ V2.drew.heap.size from HBW.out.size)) (Hold.setCell (o := n + 1) (v := .slice sa nt.toL.length sc) hl1 (by decide))
            have hkn := HK.out.next hm2 hl2 (by omega) hT3 hO3 HNS.out HNB.out hnz (fun j _ q' v' t' h1 h2 => ⟨((HHT.out _ _ h1).below bb).hold (Hold.setCell (o := n + 1) (v := .slice sa nt.toL.length sc) hl1 (by decide)), own_hold (own_hold (HHO.out _ _ _ h2) (Hold.below bb)) (Hold.setCell (o := n + 1) (v := .slice sa nt.toL.length sc) hl1 (by decide))⟩)
            have HKN := Lib.hid hkn
            have HT3 := Lib.hid hT3
            have HR3 := Lib.hid (row_of_own hO3)
            have HBX3 := Lib.hid ((HBW.out.trans (bb.mono HBW.out.size)).setCell (p := ⟨w.heap.size + 1, n + 1, none⟩) (by simp) (.slice sa nt.toL.length sc))
            refine hK _ _ ⟨⟨s0, z1, z2⟩, ?_⟩
            clear hK K
            refine lex_done (by kernel_rfl) ?_
            clear hS hS1 s0 hm1 hl1 hm2 hl2 hb2 x1 x2 bb b3 o3 hT3 hO3 hkn y1 y2 yq
            generalize (u2.setCell ⟨w.heap.size + 1, n + 1, none⟩ (.slice sa nt.toL.length sc)) = V3 at *
            clear HM2 HL2 HT2 HO2 HHT HHO HBW HBB2 HK HT HO HE2 HTL htl HEQ
            go_wp2_with fail
            go_still_tail 14, (by kernel_rfl)
            change wpList _ _ _ _ _ V3.drew
            go_wp2_with fail
            refine (tells_any (HT3.out.below (bd _)) (HR3.out.below (bd _)) (by omega) HNS.out HNB.out ⟨n0, n1⟩).mono ?_
            rintro e u5 ⟨rfl, b5⟩
            have HKE := Lib.hid (HKN.out.below (bmore (bd V3) b5))
            have HBE := Lib.hid (HBX3.out.trans ((bmore (bd V3) b5).mono HBX3.out.size))
            clear b5 zm zl z1 z2
            go_wp2_with fail
            go_roundw
            case rel => exact ⟨n + 1, _, _, by go_num, by omega, HBE.out, HKE.out⟩
            case measure => simp [intOf]; omega
      · as_aux_lemma =>
        obtain rfl : n = l.length := by omega
        clear hlt XA HOK
        have HBN := Lib.hid hb
        have HKN := Lib.hid hk
        clear hb hk
        obtain ⟨wo, rfl⟩ : ∃ wo : World, wo = wr := ⟨_, rfl⟩
        go_wp2_with fail
        go_loopw [8] (fun i wr => ∃ n : Nat, i = .int .i64 (n : Int) ∧ n ≤ l.length + 1 ∧ Below wo.heap.size wo wr) (fun i _ => l.length + 1 - (intOf i).toNat)
        case atStart => exact ⟨0, rfl, by omega, Below.refl _ _⟩
        case round =>
          obtain ⟨j, rfl, hj, hb2⟩ := hrel
          have HB2 := Lib.hid (HBN.out.trans (hb2.mono HBN.out.size))
          have HBJ := Lib.hid hb2
          by_cases hjl : j ≤ l.length
          · have hkj := HKN.out.below hb2
            obtain ⟨q, v, t, e1, e2, hT, hO, hsr, hbl, htz⟩ := hkj.each j hjl
            obtain ⟨va, vc, rfl⟩ := (row_of_own hO).shape
            have zq : wr.cell? ⟨w.heap.size, j, none⟩ = some (.pointer q) := cellB hkj.mb e1
            have zl : wr.cell? ⟨w.heap.size + 1, j, none⟩ = some (.slice va t.toL.length vc) := cellB hkj.lb e2
            have HT := Lib.hid hT
            have HR := Lib.hid (row_of_own hO)
            have htl : t.toL.length = t.size := Tr.size_toL t
            have hne : ((t.size : Int) != (t.toL.length : Int)) = false := by simp; omega
            have hts : t.size < 100000 := by omega
            have htl2 : t.toL.length < 1000000 := by omega
            have j1 : (j : Int) < (l.length : Int) + 1 := by omega
            have j0 : (0 : Int) ≤ (j : Int) := by omega
            have j2 : (j : Int) ≤ (l.length : Int) := by omega
            clear hkj hT hO hsr hbl e1 e2 htl hb2
            go_wp2_with fail
            have hk : ∀ w' : World, Below wr.heap.size wr w' → w'.cell? ⟨w.heap.size, j, none⟩ = some (.pointer q) ∧ w'.cell? ⟨w.heap.size + 1, j, none⟩ = some (.slice va t.toL.length vc) ∧ Below wr.heap.size wr w' := fun w' hb => ⟨bcellAt hb zq, bcellAt hb zl, hb⟩
            have HK := Lib.hid hk
            clear hk
            go_region_held3 (fun w' => w'.cell? ⟨w.heap.size, j, none⟩ = some (.pointer q) ∧ w'.cell? ⟨w.heap.size + 1, j, none⟩ = some (.slice va t.toL.length vc) ∧ Below wr.heap.size wr w') ((refine HK.out _ ?_; first | exact bdd _ _ | exact bd _ | exact bdn _ _ | exact Below.refl _ _ | exact (bmore (by first | assumption | exact bdn _ _ | exact bd _ | exact Below.refl _ _) u1) | exact (bmore (bmore (by first | assumption | exact bdn _ _ | exact bd _ | exact Below.refl _ _) u1) u2) | exact (bmore (bmore (bmore (by first | assumption | exact bdn _ _ | exact bd _ | exact Below.refl _ _) u1) u2) u3)))
              ((first
                | ((with_reducible refine (mlenS (HT.out.below (by first | assumption | exact bdn _ _ | exact bd _ | exact Below.refl _ _))).mono ?_); rintro e w3 ⟨rfl, u1⟩)
                | ((with_reducible refine (callsIn_wide.1 (entries_in (HT.out.below (bmore (by first | assumption | exact bdn _ _ | exact bd _ | exact Below.refl _ _) u1)) hts)).mono ?_); rintro e w4 ⟨ve, rfl, o4, u2⟩; obtain ⟨ae, ce, rfl⟩ := (row_of_own o4).shape)
                | ((with_reducible refine (same_ents (row_of_own o4) (HR.out.below (bmore (bmore (by first | assumption | exact bdn _ _ | exact bd _ | exact Below.refl _ _) u1) u2)) htl2).mono ?_); rintro e w5 ⟨rfl, dd⟩; have u3 := dd.below)))
            have hb5 : Below wr.heap.size wr w5 := by first | exact bmore (bmore (bmore (bd _) u1) u2) u3 | exact bmore (bmore (bmore (bdn _ _) u1) u2) u3
            have HB5 := Lib.hid (bmore HBJ.out hb5)
            clear hb5 u1 u2 u3 HK zq zl o4 dd
            go_wp2_with fail
            go_roundw
            case rel => exact ⟨j + 1, by go_num, by omega, HB5.out⟩
            case measure => simp [intOf]; omega
          · obtain rfl : j = l.length + 1 := by omega
            have j2 : decide ((l.length : Int) + 1 ≤ (l.length : Int)) = false := by simp; omega
            go_wp2_with fail
            refine (live_any _).mono ?_
            rintro e w6 ⟨rfl, u6⟩
            have HU6 := Lib.hid (HB2.out.trans (u6.mono HB2.out.size))
            clear u6
            go_wp2_with fail
            go_returns
            exact ⟨rfl, HU6.out⟩
end Go.Proofs.Ytafghmhhmpfefaa
