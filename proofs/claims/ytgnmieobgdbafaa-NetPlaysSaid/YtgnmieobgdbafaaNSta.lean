/-
  The law's stands: both nets tell the same.
-/
import Derived.Test.YtgnmieobgdbafaaNDo
import Derived.LoopN
namespace Go.Proofs.Ytgnmieobgdbafaa
open Go.RowKit
set_option linter.unusedVariables false
def nineP : Pk := ⟨-9, 0, 0, ⟨#[]⟩, 0⟩
def setB' (w : World) (g o : Nat) (p : Pk) : World := ((((w.setCell ⟨g, o, none⟩ (.int .i64 p.id)).setCell ⟨g, o + 1, none⟩ (.int .i64 (p.fr : Int))).setCell ⟨g, o + 2, none⟩ (.int .i64 (p.tt : Int))).setCell ⟨g, o + 3, none⟩ (.string p.bd)).setCell ⟨g, o + 4, none⟩ (.int .i64 p.hl)
theorem own_nine {w : World} {B g n cap : Nat} {L : List Pk} (h : w.ownsRow B PkT 5 (.slice (some ⟨g, 0, none⟩) n cap) L.length (pks L)) (hn : L.length = n) {j : Nat} (hj : j < n) :
    ∃ L' : List Pk, L'.length = n ∧ (setB' w g (j * 5) nineP).ownsRow B PkT 5 (.slice (some ⟨g, 0, none⟩) n cap) L'.length (pks L') := by
  obtain ⟨hla, hB, hm, _⟩ := laid_of_own h
  refine ⟨L.set j nineP, by simpa using hn, ?_⟩
  have := own_of_laid (B := B) (hla.set (k := j) nineP (by omega)) hB hm
  rw [List.length_set, hn] at this ⊢
  exact this
set_option maxRecDepth 100000 in
set_option maxHeartbeats 6400000 in
theorem stands_any {w : World} {B a r : Nat} {F H L E : Value} {x : Nt} (h : Duo w B a r F H L E x) {k : Nat} (hbd : Bd k x) (hk : k ≤ 2000) :
    Calls Try.prog 13 #[.pointer (some ⟨a, 0, none⟩), .pointer (some ⟨r, 0, none⟩)] w fun e w' => e = .returned (.bool true) ∧ Below w.heap.size w w' := by
  have D0 := Lib.hid h
  have HFL := Lib.hid (show x.fl.length ≤ 2000 by have := hbd.fl; omega)
  have HHL := Lib.hid (show x.hd.length ≤ 2000 by have := hbd.hd; omega)
  have HPK := Lib.hid (show ∀ p ∈ x.fl, p.fr < 3 ∧ p.tt < 3 from fun p hp => ⟨(hbd.pk p hp).1, (hbd.pk p hp).2.1⟩)
  have hf := flying_any h.n (Nat.le_trans HFL.out (by decide))
  clear h hbd hk
  go_enter Try.func13, Try.ntmps13
  go_wp2_with fail
  refine hf.mono ?_
  rintro e w1 ⟨⟨vl, rfl, ol⟩, b1⟩
  have B1 := Lib.hid b1
  have OL1 := Lib.hid ol
  have hh := heard_any (D0.out.below b1).n (Nat.le_trans HHL.out (by decide))
  clear hf b1 ol
  go_wp2_with fail
  refine hh.mono ?_
  rintro e w2 ⟨⟨vm, rfl, om⟩, b2⟩
  have B2 := Lib.hid (bmore B1.out b2)
  have OL2 := Lib.hid (own_keep OL1.out (touch_of_below b2 (fun _ => False)) (fun _ _ h => h))
  have OM2 := Lib.hid (own_mono om B1.out.size)
  have NE := Lib.hid (show ∀ i, vl.ownBlock = some i → vm.ownBlock ≠ some i from fun i h1 h2 => by have := (own_from OL1.out h1).2; have := (own_from om h2).1; omega)
  have D2 := Lib.hid (D0.out.below B2.out)
  have s1 := D2.out.m.c0.2.1
  have s2 := D2.out.m.c0.2.2
  have hs1 := same15 (row_of_own OL2.out) (row_of_own D2.out.m.rowF) (by have := HFL.out; omega)
  clear hh b2 om
  go_wp2_with fail
  refine hs1.mono ?_
  rintro e w3 ⟨rfl, n3, rfl⟩
  have hs2 := same15 ((row_of_own OM2.out).below (bdn w2 n3)) ((row_of_own D2.out.m.rowH).below (bdn w2 n3)) (by have := HHL.out; omega)
  clear hs1
  go_wp2_with fail
  refine hs2.mono ?_
  rintro e w4 ⟨rfl, n4, rfl⟩
  clear hs2
  rw [World.drewN_drewN] at *
  have BN := Lib.hid (bmore B2.out (bdn w2 (n3 + n4)))
  have OL4 := Lib.hid (own_keep OL2.out (touch_of_below (bdn w2 (n3 + n4)) (fun _ => False)) (fun _ _ h => h))
  have OM4 := Lib.hid (own_keep OM2.out (touch_of_below (bdn w2 (n3 + n4)) (fun _ => False)) (fun _ _ h => h))
  have D4 := Lib.hid (D2.out.below (bdn w2 (n3 + n4)))
  generalize w2.drewN (n3 + n4) = W4 at *
  clear s1 s2
  have hr := ready_any D4.out.n (Nat.le_trans HFL.out (by decide)) HPK.out
  go_wp2_with fail
  refine hr.mono ?_
  rintro e w5 ⟨⟨v5, rfl, o5⟩, b5⟩
  have D5 := Lib.hid (D4.out.below b5)
  have BN5 := Lib.hid (bmore BN.out b5)
  have OL5 := Lib.hid (own_keep OL4.out (touch_of_below b5 (fun _ => False)) (fun _ _ h => h))
  have OM5 := Lib.hid (own_keep OM4.out (touch_of_below b5 (fun _ => False)) (fun _ _ h => h))
  have R5 := Lib.hid o5
  have hrr := rready_any D5.out.m (Nat.le_trans HFL.out (by decide)) HPK.out
  clear hr b5 o5
  go_wp2_with fail
  refine hrr.mono ?_
  rintro e w6 ⟨⟨v6, rfl, o6⟩, b6⟩
  have D6 := Lib.hid (D5.out.below b6)
  have BN6 := Lib.hid (bmore BN5.out b6)
  have OL6 := Lib.hid (own_keep OL5.out (touch_of_below b6 (fun _ => False)) (fun _ _ h => h))
  have OM6 := Lib.hid (own_keep OM5.out (touch_of_below b6 (fun _ => False)) (fun _ _ h => h))
  have hii := ints15 ((row_of_own R5.out).below b6) (row_of_own o6) (by have := readyP_len x x.fl 0; have := HFL.out; omega)
  clear hrr b6 o6
  go_wp2_with fail
  refine hii.mono ?_
  rintro e w7 ⟨rfl, n7, rfl⟩
  have bn7 : Below w6.heap.size w6 (w6.drewN n7) := bdn _ _
  have BN7 := Lib.hid (bmore BN6.out bn7)
  have OL7 := Lib.hid (own_keep OL6.out (touch_of_below bn7 (fun _ => False)) (fun _ _ h => h))
  have OM7 := Lib.hid (own_keep OM6.out (touch_of_below bn7 (fun _ => False)) (fun _ _ h => h))
  clear hii bn7
  generalize w6.drewN n7 = W7 at *
  obtain ⟨la, lc, rfl⟩ := slice_of OL7.out
  obtain ⟨ma, mc, rfl⟩ := slice_of OM7.out
  go_wp2_with fail
  go_loopw [7] (fun v wr => ∃ (j : Nat) (L' : List Pk), v = .int .i64 (j : Int) ∧ j ≤ x.fl.length ∧ L'.length = x.fl.length ∧ wr.ownsRow w.heap.size PkT 5 (.slice la x.fl.length lc) L'.length (pks L') ∧ wr.ownsRow w.heap.size PkT 5 (.slice ma x.hd.length mc) x.hd.length (pks x.hd) ∧ Below w.heap.size w wr) (fun v _ => x.fl.length - (intOf v).toNat)
  case atStart => exact ⟨0, _, rfl, Nat.zero_le _, rfl, OL7.out, OM7.out, BN7.out⟩
  case round =>
    obtain ⟨j, L', rfl, hj, hl', ho, hm', hb⟩ := hrel
    have HLL := Lib.hid hl'
    have HO := Lib.hid ho
    have HM := Lib.hid hm'
    have HB := Lib.hid hb
    clear ho hb hl' hm'
    by_cases hjl : j < x.fl.length
    · obtain ⟨gg, gc, hg⟩ := own_slice HO.out (by rw [HLL.out]; omega)
      have hg2 : la = some ⟨gg, 0, none⟩ := by
        have e2 := hg; simp only [Value.slice.injEq] at e2; exact e2.1
      subst hg2
      have hla := (laid_of_own (show wr.ownsRow w.heap.size PkT 5 (.slice (some ⟨gg, 0, none⟩) x.fl.length lc) L'.length (pks L') from HO.out)).1
      obtain ⟨p, hp⟩ : ∃ p, L'[j]? = some p := ⟨_, List.getElem?_eq_getElem (by rw [HLL.out]; exact hjl)⟩
      obtain ⟨t0, t1, t2, t3, t4⟩ := hla.at5 hp
      have f0 := hla.frz (j * 5)
      have f1 := hla.frz (j * 5 + 1)
      have f2 := hla.frz (j * 5 + 2)
      have f3 := hla.frz (j * 5 + 3)
      have f4 := hla.frz (j * 5 + 4)
      have HN := Lib.hid (own_nine (show wr.ownsRow w.heap.size PkT 5 (.slice (some ⟨gg, 0, none⟩) x.fl.length lc) L'.length (pks L') from HO.out) HLL.out hjl)
      have HGB := Lib.hid (own_from HO.out (k := gg) rfl).1
      have HJ := Lib.hid hjl
      have hj0 : (0 : Int) ≤ (j : Int) := by omega
      have hj1 : (j : Int) < (x.fl.length : Int) := by omega
      have hjd : decide ((j : Int) < (x.fl.length : Int)) = true := by simpa using hjl
      have hjw : IntKind.i64.wrap ((j : Int) + 1) = (j : Int) + 1 := IntWalk.i64_in _ (by have := HFL.out; have := HHL.out; omega)
      have TT := Lib.hid (touch5 wr gg (j * 5) nineP (fun i => i = gg) rfl)
      clear hla hp hg hjl hj
      go_wp2_with fail
      rw [show (((((wr.setCell ⟨gg, j * 5, none⟩ (.int .i64 (-9))).setCell ⟨gg, j * 5 + 1, none⟩ (.int .i64 0)).setCell ⟨gg, j * 5 + 2, none⟩ (.int .i64 0)).setCell ⟨gg, j * 5 + 3, none⟩ (.string ⟨#[]⟩)).setCell ⟨gg, j * 5 + 4, none⟩ (.int .i64 0)) = setB' wr gg (j * 5) nineP from rfl]
      have TT2 := Lib.hid (show Touch (fun i => i = gg) wr (setB' wr gg (j * 5) nineP) from TT.out)
      generalize setB' wr gg (j * 5) nineP = wn at *
      clear t0 t1 t2 t3 t4 f0 f1 f2 f3 f4
      go_roundw
      case rel =>
        obtain ⟨L2, hL2, hO2⟩ := HN.out
        exact ⟨j + 1, L2, by simp, HJ.out, hL2, hO2, own_keep HM.out TT2.out (fun i hi e => NE.out gg rfl (by rw [← e]; exact hi)), HB.out.trans (TT2.out.below HB.out.size (fun i hi => by have := HGB.out; omega))⟩
      case measure => have := HJ.out; simp [intOf]; omega
    · obtain rfl : j = x.fl.length := by omega
      have hjd : decide ((x.fl.length : Int) < (x.fl.length : Int)) = false := by simp
      clear hj hjl
      have HM1 := HM
      have HB1 := HB
      go_wp2_with fail
      clear hjd
      generalize wr = wp1 at *
      go_loopw [8] (fun v wr => ∃ (j : Nat) (L' : List Pk), v = .int .i64 (j : Int) ∧ j ≤ x.hd.length ∧ L'.length = x.hd.length ∧ wr.ownsRow w.heap.size PkT 5 (.slice ma x.hd.length mc) L'.length (pks L') ∧ Below w.heap.size w wr) (fun v _ => x.hd.length - (intOf v).toNat)
      case atStart => exact ⟨0, _, rfl, Nat.zero_le _, rfl, HM1.out, HB1.out⟩
      case round =>
        obtain ⟨j, L', rfl, hj, hl', ho, hb⟩ := hrel
        have HLL := Lib.hid hl'
        have HO := Lib.hid ho
        skip
        have HB := Lib.hid hb
        clear ho hb hl'
        by_cases hjl : j < x.hd.length
        · obtain ⟨gg, gc, hg⟩ := own_slice HO.out (by rw [HLL.out]; omega)
          have hg2 : ma = some ⟨gg, 0, none⟩ := by
            have e2 := hg; simp only [Value.slice.injEq] at e2; exact e2.1
          subst hg2
          have hla := (laid_of_own (show wr.ownsRow w.heap.size PkT 5 (.slice (some ⟨gg, 0, none⟩) x.hd.length mc) L'.length (pks L') from HO.out)).1
          obtain ⟨p, hp⟩ : ∃ p, L'[j]? = some p := ⟨_, List.getElem?_eq_getElem (by rw [HLL.out]; exact hjl)⟩
          obtain ⟨t0, t1, t2, t3, t4⟩ := hla.at5 hp
          have f0 := hla.frz (j * 5)
          have f1 := hla.frz (j * 5 + 1)
          have f2 := hla.frz (j * 5 + 2)
          have f3 := hla.frz (j * 5 + 3)
          have f4 := hla.frz (j * 5 + 4)
          have HN := Lib.hid (own_nine (show wr.ownsRow w.heap.size PkT 5 (.slice (some ⟨gg, 0, none⟩) x.hd.length mc) L'.length (pks L') from HO.out) HLL.out hjl)
          have HGB := Lib.hid (own_from HO.out (k := gg) rfl).1
          have HJ := Lib.hid hjl
          have hj0 : (0 : Int) ≤ (j : Int) := by omega
          have hj1 : (j : Int) < (x.hd.length : Int) := by omega
          have hjd : decide ((j : Int) < (x.hd.length : Int)) = true := by simpa using hjl
          have hjw : IntKind.i64.wrap ((j : Int) + 1) = (j : Int) + 1 := IntWalk.i64_in _ (by have := HFL.out; have := HHL.out; omega)
          have TT := Lib.hid (touch5 wr gg (j * 5) nineP (fun i => i = gg) rfl)
          clear hla hp hg hjl hj
          go_wp2_with fail
          rw [show (((((wr.setCell ⟨gg, j * 5, none⟩ (.int .i64 (-9))).setCell ⟨gg, j * 5 + 1, none⟩ (.int .i64 0)).setCell ⟨gg, j * 5 + 2, none⟩ (.int .i64 0)).setCell ⟨gg, j * 5 + 3, none⟩ (.string ⟨#[]⟩)).setCell ⟨gg, j * 5 + 4, none⟩ (.int .i64 0)) = setB' wr gg (j * 5) nineP from rfl]
          have TT2 := Lib.hid (show Touch (fun i => i = gg) wr (setB' wr gg (j * 5) nineP) from TT.out)
          generalize setB' wr gg (j * 5) nineP = wn at *
          clear t0 t1 t2 t3 t4 f0 f1 f2 f3 f4
          go_roundw
          case rel =>
            obtain ⟨L2, hL2, hO2⟩ := HN.out
            exact ⟨j + 1, L2, by simp, HJ.out, hL2, hO2, HB.out.trans (TT2.out.below HB.out.size (fun i hi => by have := HGB.out; omega))⟩
          case measure => have := HJ.out; simp [intOf]; omega
        · obtain rfl : j = x.hd.length := by omega
          have hjd : decide ((x.hd.length : Int) < (x.hd.length : Int)) = false := by simp
          clear hj hjl
          have HB2 := HB
          go_wp2_with fail
          clear hjd
          generalize wr = wp2 at *
          go_loopw [9] (fun v wr => ∃ (i : Int), v = .int .i64 i ∧ -1 ≤ i ∧ i ≤ 4 ∧ Below w.heap.size w wr) (fun v _ => (4 - intOf v).toNat)
          case atStart => exact ⟨-1, rfl, by omega, by omega, HB2.out⟩
          case round =>
            obtain ⟨i, rfl, hi0, hi1, hb⟩ := hrel
            have HB3 := Lib.hid hb
            have HI := Lib.hid (show -1 ≤ i ∧ i ≤ 4 from ⟨hi0, hi1⟩)
            clear hb hi0 hi1
            by_cases hi : i ≤ 3
            · have hid : decide (i ≤ 3) = true := by simpa using hi
              have HIL := Lib.hid hi
              clear hi
              go_wp2_with fail
              clear hid
              go_loopw [10] (fun v wr => ∃ (j : Int), v = .int .i64 j ∧ -1 ≤ j ∧ j ≤ 4 ∧ Below w.heap.size w wr) (fun v _ => (4 - intOf v).toNat)
              case atStart => exact ⟨-1, rfl, by omega, by omega, HB3.out⟩
              case round =>
                obtain ⟨j, rfl, hj0, hj1, hb⟩ := hrel
                have HB4 := Lib.hid hb
                have HJ := Lib.hid (show -1 ≤ j ∧ j ≤ 4 from ⟨hj0, hj1⟩)
                clear hj0 hj1
                by_cases hj : j ≤ 3
                · have hjd : decide (j ≤ 3) = true := by simpa using hj
                  have HJL := Lib.hid hj
                  have hjw : IntKind.i64.wrap (j + 1) = j + 1 := IntWalk.i64_in _ (by have := HJ.out; omega)
                  have D5 := Lib.hid (D0.out.below hb)
                  have hsn := sent_any D5.out.n i j
                  clear hj hb
                  go_wp2_with fail
                  refine hsn.mono ?_
                  rintro e v1 ⟨rfl, b1⟩
                  have D6 := Lib.hid (D5.out.below b1)
                  have HB5 := Lib.hid (bmore HB4.out b1)
                  clear hsn b1
                  go_wp2_with fail
                  refine (rsent_any D6.out.m i j).mono ?_
                  rintro e v2 ⟨rfl, rfl⟩
                  go_wp2_with fail
                  refine (came_any D6.out.n i j).mono ?_
                  rintro e v3 ⟨rfl, b3⟩
                  have D7 := Lib.hid (D6.out.below b3)
                  have HB6 := Lib.hid (bmore HB5.out b3)
                  clear b3
                  go_wp2_with fail
                  refine (rcame_any D7.out.m i j).mono ?_
                  rintro e v4 ⟨rfl, rfl⟩
                  go_wp2_with fail
                  go_roundw
                  case rel => exact ⟨j + 1, rfl, by have := HJ.out; omega, by have := HJL.out; omega, HB6.out⟩
                  case measure => have := HJ.out; have := HJL.out; simp [intOf]; omega
                · have hjd : decide (j ≤ 3) = false := by simpa using hj
                  have hiw : IntKind.i64.wrap (i + 1) = i + 1 := IntWalk.i64_in _ (by have := HI.out; omega)
                  clear hj hb
                  go_wp2_with fail
                  go_roundw
                  case rel => exact ⟨i + 1, rfl, by have := HI.out; omega, by have := HIL.out; omega, HB4.out⟩
                  case measure => have := HI.out; have := HIL.out; simp [intOf]; omega
            · have hid : decide (i ≤ 3) = false := by simpa using hi
              clear hi
              go_upto_region 21 with fail
              have D8 := Lib.hid (D0.out.below HB3.out)
              have SS := Lib.hid (show ∀ V, Below wr.heap.size wr V → V.cell? ⟨r, 0, none⟩ = some L ∧ V.cell? ⟨r, 1, none⟩ = some E from fun V hV => ⟨(D8.out.below hV).m.c0.2.1, (D8.out.below hV).m.c0.2.2⟩)
              have hS0 := SS.out _ (bd wr)
              refine li_start [0, 2, 3, 4, 5, 1, 6, 7, 8, 10, 11, 12, 13, 9, 14, 15, 16] (S := fun V => V.cell? ⟨r, 0, none⟩ = some L ∧ V.cell? ⟨r, 1, none⟩ = some E) (by kernel_rfl) hS0 ?_
              simp only [inOrder, List.filterMap, List.getElem?_cons_succ, List.getElem?_cons_zero]
              iterate 5 (refine li_take rfl (by kernel_rfl) (by rfl) hS0 (by (rintro V ⟨s0, s1⟩; go_simp) <;> with_reducible rfl) ?_); simp only [Act.put, List.setIfInBounds_toArray, List.set_cons_zero, List.set_cons_succ]
              refine li_do rfl (by kernel_rfl) (by rfl) (fun K hK => ?_)
              go_simp
              refine (flying_any (D8.out.below (bd wr)).n (Nat.le_trans HFL.out (by decide))).mono ?_
              rintro e V1 ⟨⟨v1, rfl, o1⟩, b1⟩
              have C1 := Lib.hid (bmore (bd wr) b1)
              have O1 := Lib.hid o1
              refine hK _ _ ⟨SS.out _ C1.out, ?_⟩
              clear hK K b1 o1 hS0
              try simp only [Act.put, List.setIfInBounds_toArray, List.set_cons_zero, List.set_cons_succ]
              refine li_do rfl (by kernel_rfl) (by rfl) (fun K hK => ?_)
              go_simp
              refine (same15 (row_of_own O1.out) (row_of_own (D8.out.below C1.out).m.rowF) (by have := HFL.out; omega)).mono ?_
              rintro e V2 ⟨rfl, q2, rfl⟩
              have C2 := Lib.hid (bmore C1.out (bdn V1 q2))
              refine hK _ _ ⟨SS.out _ C2.out, ?_⟩
              clear hK K
              generalize V1.drewN q2 = V2 at *
              try simp only [Act.put, List.setIfInBounds_toArray, List.set_cons_zero, List.set_cons_succ]
              have hS2 := SS.out _ C2.out
              iterate 6 (refine li_take rfl (by kernel_rfl) (by rfl) hS2 (by (rintro V ⟨s0, s1⟩; go_simp) <;> with_reducible rfl) ?_); simp only [Act.put, List.setIfInBounds_toArray, List.set_cons_zero, List.set_cons_succ]
              refine li_do rfl (by kernel_rfl) (by rfl) (fun K hK => ?_)
              go_simp
              refine (heard_any (D8.out.below C2.out).n (Nat.le_trans HHL.out (by decide))).mono ?_
              rintro e V3 ⟨⟨v3, rfl, o3⟩, b3⟩
              have C3 := Lib.hid (bmore C2.out b3)
              have O3 := Lib.hid o3
              refine hK _ _ ⟨SS.out _ C3.out, ?_⟩
              clear hK K b3 o3 hS2
              try simp only [Act.put, List.setIfInBounds_toArray, List.set_cons_zero, List.set_cons_succ]
              refine li_do rfl (by kernel_rfl) (by rfl) (fun K hK => ?_)
              go_simp
              refine (same15 (row_of_own O3.out) (row_of_own (D8.out.below C3.out).m.rowH) (by have := HHL.out; omega)).mono ?_
              rintro e V4 ⟨rfl, q4, rfl⟩
              have C4 := Lib.hid (bmore C3.out (bdn V3 q4))
              refine hK _ _ ⟨SS.out _ C4.out, ?_⟩
              clear hK K
              generalize V3.drewN q4 = V4 at *
              try simp only [Act.put, List.setIfInBounds_toArray, List.set_cons_zero, List.set_cons_succ]
              have hS4 := SS.out _ C4.out
              iterate 2 (refine li_take rfl (by kernel_rfl) (by rfl) hS4 (by (rintro V ⟨s0, s1⟩; go_simp) <;> with_reducible rfl) ?_); simp only [Act.put, List.setIfInBounds_toArray, List.set_cons_zero, List.set_cons_succ]
              refine li_done (by kernel_rfl) ?_
              clear hS4
              have BE := Lib.hid (bmore HB3.out C4.out)
              go_wp2_with fail
              go_returns
              exact ⟨rfl, BE.out⟩
end Go.Proofs.Ytgnmieobgdbafaa
