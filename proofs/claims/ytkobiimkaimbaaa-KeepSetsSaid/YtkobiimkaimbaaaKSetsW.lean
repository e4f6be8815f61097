/-
  The walk of KeepSets.
-/
import Derived.Test.YtkobiimkaimbaaaKSetsP
import Derived.Test.YtkobiimkaimbaaaKAddR
import Derived.Test.YtkobiimkaimbaaaKArgN
import Derived.Test.YtkobiimkaimbaaaKLive
import Derived.Laws.OwnMore
namespace Go.Proofs.Ytkobiimkaimbaaa
open Go.RowKit
set_option linter.unusedVariables false

theorem sets_long {w : World} {va vb : Value} {l m : List Int} {k : Int} (ha : Row w 1 va l.length (ints l)) (hb : Row w 1 vb m.length (ints m)) (hl : 80 < l.length ∨ 80 < m.length) :
    Calls Try.prog 6 #[va, vb, .int .i64 k] w fun e w' => e = .returned (.bool true) ∧ Below w.heap.size w w' := by
  obtain ⟨aa, ca, rfl⟩ := ha.shape
  obtain ⟨ab, cb, rfl⟩ := hb.shape
  clear ha hb
  have h1 : (80 : Int) < (l.length : Int) ∨ (80 : Int) < (m.length : Int) := by omega
  have HH := Lib.hid h1
  clear h1 hl
  by_cases h0 : (80 : Int) < (l.length : Int)
  · go_enter Try.func6, Try.ntmps6
    go_wp2_with fail
    refine (live_any _).mono ?_
    rintro e w1 ⟨rfl, u1⟩
    have HU := Lib.hid u1
    clear u1
    go_wp2_with fail
    go_returns
    exact ⟨rfl, HU.out⟩
  · have h2 : (80 : Int) < (m.length : Int) := HH.out.resolve_left h0
    go_enter Try.func6, Try.ntmps6
    go_wp2_with fail
    refine (live_any _).mono ?_
    rintro e w1 ⟨rfl, u1⟩
    have HU := Lib.hid u1
    clear u1
    go_wp2_with fail
    go_returns
    exact ⟨rfl, HU.out⟩

set_option maxRecDepth 100000 in
set_option maxHeartbeats 12800000 in
theorem sets_walk {w : World} {va vb : Value} {l m : List Int} {k : Int} (ha : Row w 1 va l.length (ints l)) (hb : Row w 1 vb m.length (ints m)) (hl : l.length ≤ 80) (hm : m.length ≤ 80) :
    Calls Try.prog 6 #[va, vb, .int .i64 k] w fun e w' => e = .returned (.bool true) ∧ Below w.heap.size w w' := by
  have HA := Lib.hid ha
  have HB := Lib.hid hb
  obtain ⟨aa, ca, rfl⟩ := ha.shape
  obtain ⟨ab, cb, rfl⟩ := hb.shape
  have HSL := Lib.hid (setOf_size l)
  have HSM := Lib.hid (setOf_size m)
  have h1 : ¬ (80 : Int) < (l.length : Int) := by omega
  have h2 : ¬ (80 : Int) < (m.length : Int) := by omega
  clear ha hb
  go_enter Try.func6, Try.ntmps6
  have HW := Lib.hid (Below.refl w.heap.size w)
  go_wp2_with (first | (at_builtin; go_loud (refine wpList_append_rq (by rfl) _ _ rfl w.heap.size _ [] rfl (World.ownsRow_made w #[] 0 (Nat.le_refl _) (by unfold maxLen; omega) rfl) _ l rfl (HA.out.below ((Below.refl _ _).alloc (Nat.le_refl _) _ : Below w.heap.size w (w.alloc (.cells #[] 3)))) (by simp; omega) (by simp) ?_; intro v1 w1 o1 g1; have u1 := (((Below.refl _ _).alloc (Nat.le_refl _) _ : Below w.heap.size w (w.alloc (.cells #[] 3)))).trans (grown_below g1 (by simp) (fun k e => by cases e; exact Nat.le_refl _)); rw [List.nil_append] at o1; obtain ⟨sa1, sc1, rfl⟩ := (row_of_own o1).shape; have O1 := Lib.hid o1; have C1 := Lib.hid u1; clear o1 g1 u1)))
  have D1 := C1
  have SZ1 := Lib.hid C1.out.size
  replace HA := Lib.hid (HA.out.below C1.out)
  replace HB := Lib.hid (HB.out.below C1.out)
  replace HW := Lib.hid (HW.out.trans (C1.out.mono HW.out.size))
  clear C1
  refine (setof_any (row_of_own O1.out) (by omega)).mono ?_
  rintro e w2 ⟨q1, rfl, t, u2⟩
  replace HA := Lib.hid (HA.out.below u2)
  replace HB := Lib.hid (HB.out.below u2)
  replace HW := Lib.hid (HW.out.trans (u2.mono HW.out.size))
  clear O1
  have HT1 := Lib.hid (t)
  clear u2
  clear t
  go_wp2_with (first | (at_builtin; go_loud (refine wpList_append_rq (by rfl) _ _ rfl w2.heap.size _ [] rfl (World.ownsRow_made w2 #[] 0 (Nat.le_refl _) (by unfold maxLen; omega) rfl) _ m rfl (HB.out.below ((Below.refl _ _).alloc (Nat.le_refl _) _ : Below w2.heap.size w2 (w2.alloc (.cells #[] 3)))) (by simp; omega) (by simp) ?_; intro v3 w3 o3 g3; have u3 := (((Below.refl _ _).alloc (Nat.le_refl _) _ : Below w2.heap.size w2 (w2.alloc (.cells #[] 3)))).trans (grown_below g3 (by simp) (fun k e => by cases e; exact Nat.le_refl _)); rw [List.nil_append] at o3; obtain ⟨sa3, sc3, rfl⟩ := (row_of_own o3).shape; have O3 := Lib.hid o3; have C3 := Lib.hid u3; clear o3 g3 u3)))
  have D3 := C3
  have SZ3 := Lib.hid C3.out.size
  replace HA := Lib.hid (HA.out.below C3.out)
  replace HB := Lib.hid (HB.out.below C3.out)
  replace HW := Lib.hid (HW.out.trans (C3.out.mono HW.out.size))
  replace HT1 := Lib.hid (HT1.out.below C3.out)
  clear C3
  refine (setof_any (row_of_own O3.out) (by omega)).mono ?_
  rintro e w4 ⟨q2, rfl, t, u4⟩
  replace HA := Lib.hid (HA.out.below u4)
  replace HB := Lib.hid (HB.out.below u4)
  replace HW := Lib.hid (HW.out.trans (u4.mono HW.out.size))
  replace HT1 := Lib.hid (HT1.out.below u4)
  clear O3
  have HT2 := Lib.hid (t)
  clear u4
  clear t
  go_wp2_with fail
  obtain ⟨bz, c7, c8⟩ := two_new w4 q1 q2
  replace HA := Lib.hid (HA.out.below bz)
  replace HB := Lib.hid (HB.out.below bz)
  replace HW := Lib.hid (HW.out.trans (bz.mono HW.out.size))
  replace HT1 := Lib.hid (HT1.out.below bz)
  replace HT2 := Lib.hid (HT2.out.below bz)
  clear bz
  generalize ((w4.alloc (.cells #[.pointer q1] 60)).alloc (.cells #[.pointer q2] 60)) = W0 at *
  generalize w4.heap.size = E at *
  have HLA : Hid ((rsetOf l).length ≤ 80) := Lib.hid (by have := rsetOf_len l l.length; rw [List.take_length] at this; omega)
  have HLB : Hid ((rsetOf m).length ≤ 80) := Lib.hid (by have := rsetOf_len m m.length; rw [List.take_length] at this; omega)
  refine (rsetof_any HA.out (by omega)).mono ?_
  rintro e w5 ⟨ua, rfl, o, u5⟩
  replace HA := Lib.hid (HA.out.below u5)
  replace HB := Lib.hid (HB.out.below u5)
  replace HW := Lib.hid (HW.out.trans (u5.mono HW.out.size))
  replace HT1 := Lib.hid (HT1.out.below u5)
  replace HT2 := Lib.hid (HT2.out.below u5)
  replace c7 := bcellAt u5 c7
  replace c8 := bcellAt u5 c8
  have RA := Lib.hid (row_of_own o)
  clear u5
  obtain ⟨sA, cA, rfl⟩ := (row_of_own o).shape
  clear o
  go_wp2_with fail
  refine (rsetof_any HB.out (by omega)).mono ?_
  rintro e w6 ⟨ub, rfl, o, u6⟩
  replace HA := Lib.hid (HA.out.below u6)
  replace HB := Lib.hid (HB.out.below u6)
  replace HW := Lib.hid (HW.out.trans (u6.mono HW.out.size))
  replace HT1 := Lib.hid (HT1.out.below u6)
  replace HT2 := Lib.hid (HT2.out.below u6)
  replace c7 := bcellAt u6 c7
  replace c8 := bcellAt u6 c8
  replace RA := Lib.hid (RA.out.below u6)
  clear HA
  clear HB
  have RB := Lib.hid (row_of_own o)
  clear u6
  obtain ⟨sB, cB, rfl⟩ := (row_of_own o).shape
  clear o
  go_wp2_with fail
  refine (ronly_any false RA.out RB.out (by have := HLA.out; omega) (by have := HLB.out; omega)).mono ?_
  rintro e w7 ⟨uo, rfl, o, u7⟩
  replace HW := Lib.hid (HW.out.trans (u7.mono HW.out.size))
  replace HT1 := Lib.hid (HT1.out.below u7)
  replace HT2 := Lib.hid (HT2.out.below u7)
  replace c7 := bcellAt u7 c7
  replace c8 := bcellAt u7 c8
  replace RA := Lib.hid (RA.out.below u7)
  replace RB := Lib.hid (RB.out.below u7)
  clear u7
  obtain ⟨sO, cO, rfl⟩ := (row_of_own o).shape
  clear o
  have HSA := Lib.hid (sets_size l)
  have HSH := Lib.hid (sets_has l k)
  have HSW := Lib.hid (sets_within l m)
  go_wp2_with fail
  refine (slen HT1.out).mono ?_
  rintro e w8 ⟨rfl, u8⟩
  replace HW := Lib.hid (HW.out.trans (u8.mono HW.out.size))
  replace HT1 := Lib.hid (HT1.out.below u8)
  replace HT2 := Lib.hid (HT2.out.below u8)
  replace c7 := bcellAt u8 c7
  replace c8 := bcellAt u8 c8
  replace RA := Lib.hid (RA.out.below u8)
  replace RB := Lib.hid (RB.out.below u8)
  clear u8
  rw [HSA.out]
  go_wp2_with fail
  refine (shas k HT1.out).mono ?_
  rintro e w9 ⟨rfl, u9⟩
  replace HW := Lib.hid (HW.out.trans (u9.mono HW.out.size))
  replace HT1 := Lib.hid (HT1.out.below u9)
  replace HT2 := Lib.hid (HT2.out.below u9)
  replace c7 := bcellAt u9 c7
  replace c8 := bcellAt u9 c8
  replace RA := Lib.hid (RA.out.below u9)
  replace RB := Lib.hid (RB.out.below u9)
  clear u9
  rw [HSH.out]
  go_wp2_with fail
  refine (rhas_any k RA.out (by have := HLA.out; omega)).mono ?_
  rintro e w' ⟨rfl, rfl⟩
  go_wp2_with fail
  refine (callsIn_wide.1 (swithin HT1.out HT2.out)).mono ?_
  rintro e w10 ⟨rfl, u10⟩
  replace HW := Lib.hid (HW.out.trans (u10.mono HW.out.size))
  replace HT1 := Lib.hid (HT1.out.below u10)
  replace HT2 := Lib.hid (HT2.out.below u10)
  replace c7 := bcellAt u10 c7
  replace c8 := bcellAt u10 c8
  replace RA := Lib.hid (RA.out.below u10)
  replace RB := Lib.hid (RB.out.below u10)
  clear u10
  rw [HSW.out]
  go_wp2_with fail
  have Q1 := Lib.hid (sets_add l k)
  have Q2 := Lib.hid (sets_drop l k)
  have Q3 := Lib.hid (sets_and l m)
  have Q4 := Lib.hid (sets_minus l m)
  have Q5 := Lib.hid (sets_or l m)
  have N3 := Lib.hid (Tr.size_common (setOf l) (setOf m))
  have N4 := Lib.hid (Tr.size_minus (setOf l) (setOf m))
  have N5 := Lib.hid (Tr.size_merge how1 (setOf l) (setOf m))
  have N1 := Lib.hid (Tr.size_put_le (setOf l) k ())
  have N2 := Lib.hid (Tr.size_del_le (setOf l) k)
  refine (sadd k HT1.out (by have := HSL.out; have := HSM.out; omega)).mono ?_
  rintro e w11 ⟨r, rfl, t, u11⟩
  replace HW := Lib.hid (HW.out.trans (u11.mono HW.out.size))
  replace HT1 := Lib.hid (HT1.out.below u11)
  replace HT2 := Lib.hid (HT2.out.below u11)
  replace c7 := bcellAt u11 c7
  replace c8 := bcellAt u11 c8
  replace RA := Lib.hid (RA.out.below u11)
  replace RB := Lib.hid (RB.out.below u11)
  have TX := Lib.hid (t)
  clear u11
  clear t
  go_wp2_with fail
  refine (slistK TX.out (by have := HSL.out; have := HSM.out; have := N1.out; have := N2.out; have := N3.out; have := N4.out; have := N5.out; omega)).mono ?_
  rintro e w12 ⟨vx, rfl, o, u12⟩
  replace HW := Lib.hid (HW.out.trans (u12.mono HW.out.size))
  replace HT1 := Lib.hid (HT1.out.below u12)
  replace HT2 := Lib.hid (HT2.out.below u12)
  replace c7 := bcellAt u12 c7
  replace c8 := bcellAt u12 c8
  replace RA := Lib.hid (RA.out.below u12)
  replace RB := Lib.hid (RB.out.below u12)
  replace TX := Lib.hid (TX.out.below u12)
  clear TX
  have RX := Lib.hid (row_of_own o)
  clear u12
  obtain ⟨sX, cX, rfl⟩ := (row_of_own o).shape
  clear o
  go_wp2_with fail
  refine (radd_any k RA.out (by have := HLA.out; have := HLB.out; omega)).mono ?_
  rintro e w13 ⟨vy, rfl, o, u13⟩
  replace HW := Lib.hid (HW.out.trans (u13.mono HW.out.size))
  replace HT1 := Lib.hid (HT1.out.below u13)
  replace HT2 := Lib.hid (HT2.out.below u13)
  replace c7 := bcellAt u13 c7
  replace c8 := bcellAt u13 c8
  replace RA := Lib.hid (RA.out.below u13)
  replace RB := Lib.hid (RB.out.below u13)
  replace RX := Lib.hid (RX.out.below u13)
  have RY := Lib.hid (row_of_own o)
  clear u13
  obtain ⟨sY, cY, rfl⟩ := (row_of_own o).shape
  clear o
  go_wp2_with fail
  refine (ints_same RX.out (row_eq RY.out Q1.out.symm) (by rw [keys_len]; exact Nat.lt_of_lt_of_le (by have := HSL.out; have := HSM.out; have := N1.out; have := N2.out; have := N3.out; have := N4.out; have := N5.out; omega) (by decide : 100000 ≤ 1000000))).mono ?_
  rintro e w14 ⟨rfl, hd⟩
  have u14 := hd.below
  clear RX RY hd
  replace HW := Lib.hid (HW.out.trans (u14.mono HW.out.size))
  replace HT1 := Lib.hid (HT1.out.below u14)
  replace HT2 := Lib.hid (HT2.out.below u14)
  replace c7 := bcellAt u14 c7
  replace c8 := bcellAt u14 c8
  replace RA := Lib.hid (RA.out.below u14)
  replace RB := Lib.hid (RB.out.below u14)
  clear u14
  go_wp2_with fail
  refine (sdrop k HT1.out (by have := HSL.out; have := HSM.out; omega)).mono ?_
  rintro e w15 ⟨r, rfl, t, u15⟩
  replace HW := Lib.hid (HW.out.trans (u15.mono HW.out.size))
  replace HT1 := Lib.hid (HT1.out.below u15)
  replace HT2 := Lib.hid (HT2.out.below u15)
  replace c7 := bcellAt u15 c7
  replace c8 := bcellAt u15 c8
  replace RA := Lib.hid (RA.out.below u15)
  replace RB := Lib.hid (RB.out.below u15)
  have TX := Lib.hid (t)
  clear u15
  clear t
  go_wp2_with fail
  refine (slistK TX.out (by have := HSL.out; have := HSM.out; have := N1.out; have := N2.out; have := N3.out; have := N4.out; have := N5.out; omega)).mono ?_
  rintro e w16 ⟨vx, rfl, o, u16⟩
  replace HW := Lib.hid (HW.out.trans (u16.mono HW.out.size))
  replace HT1 := Lib.hid (HT1.out.below u16)
  replace HT2 := Lib.hid (HT2.out.below u16)
  replace c7 := bcellAt u16 c7
  replace c8 := bcellAt u16 c8
  replace RA := Lib.hid (RA.out.below u16)
  replace RB := Lib.hid (RB.out.below u16)
  replace TX := Lib.hid (TX.out.below u16)
  clear TX
  have RX := Lib.hid (row_of_own o)
  clear u16
  obtain ⟨sX, cX, rfl⟩ := (row_of_own o).shape
  clear o
  go_wp2_with fail
  have bz : Below w16.heap.size w16 (w16.alloc (.cells #[.int .i64 k] 3)) := (Below.refl _ _).alloc (Nat.le_refl _) _
  have RK := Lib.hid (row_num (x := k) (cellB (j := 0) (heap_alloc_new w16 (Obj.cells #[.int .i64 k] 3)) rfl))
  replace HW := Lib.hid (HW.out.trans (bz.mono HW.out.size))
  replace HT1 := Lib.hid (HT1.out.below bz)
  replace HT2 := Lib.hid (HT2.out.below bz)
  replace c7 := bcellAt bz c7
  replace c8 := bcellAt bz c8
  replace RA := Lib.hid (RA.out.below bz)
  replace RB := Lib.hid (RB.out.below bz)
  replace RX := Lib.hid (RX.out.below bz)
  clear bz
  generalize (w16.alloc (.cells #[.int .i64 k] 3)) = WK at *
  generalize w16.heap.size = EK at *
  refine (ronly_any false RA.out RK.out (by have := HLA.out; have := HLB.out; omega) (by simp)).mono ?_
  rintro e w17 ⟨vy, rfl, o, u17⟩
  replace HW := Lib.hid (HW.out.trans (u17.mono HW.out.size))
  replace HT1 := Lib.hid (HT1.out.below u17)
  replace HT2 := Lib.hid (HT2.out.below u17)
  replace c7 := bcellAt u17 c7
  replace c8 := bcellAt u17 c8
  replace RA := Lib.hid (RA.out.below u17)
  replace RB := Lib.hid (RB.out.below u17)
  replace RX := Lib.hid (RX.out.below u17)
  have RY := Lib.hid (row_of_own o)
  clear u17
  obtain ⟨sY, cY, rfl⟩ := (row_of_own o).shape
  clear o
  go_wp2_with fail
  refine (ints_same RX.out (row_eq RY.out Q2.out.symm) (by rw [keys_len]; exact Nat.lt_of_lt_of_le (by have := HSL.out; have := HSM.out; have := N1.out; have := N2.out; have := N3.out; have := N4.out; have := N5.out; omega) (by decide : 100000 ≤ 1000000))).mono ?_
  rintro e w18 ⟨rfl, hd⟩
  have u18 := hd.below
  clear RX RY hd
  replace HW := Lib.hid (HW.out.trans (u18.mono HW.out.size))
  replace HT1 := Lib.hid (HT1.out.below u18)
  replace HT2 := Lib.hid (HT2.out.below u18)
  replace c7 := bcellAt u18 c7
  replace c8 := bcellAt u18 c8
  replace RA := Lib.hid (RA.out.below u18)
  replace RB := Lib.hid (RB.out.below u18)
  clear u18
  go_wp2_with fail
  refine (sand HT1.out HT2.out (by have := HSL.out; have := HSM.out; omega)).mono ?_
  rintro e w19 ⟨r, rfl, t, u19⟩
  replace HW := Lib.hid (HW.out.trans (u19.mono HW.out.size))
  replace HT1 := Lib.hid (HT1.out.below u19)
  replace HT2 := Lib.hid (HT2.out.below u19)
  replace c7 := bcellAt u19 c7
  replace c8 := bcellAt u19 c8
  replace RA := Lib.hid (RA.out.below u19)
  replace RB := Lib.hid (RB.out.below u19)
  have TX := Lib.hid (t)
  clear u19
  clear t
  go_wp2_with fail
  refine (slistK TX.out (by have := HSL.out; have := HSM.out; have := N1.out; have := N2.out; have := N3.out; have := N4.out; have := N5.out; omega)).mono ?_
  rintro e w20 ⟨vx, rfl, o, u20⟩
  replace HW := Lib.hid (HW.out.trans (u20.mono HW.out.size))
  replace HT1 := Lib.hid (HT1.out.below u20)
  replace HT2 := Lib.hid (HT2.out.below u20)
  replace c7 := bcellAt u20 c7
  replace c8 := bcellAt u20 c8
  replace RA := Lib.hid (RA.out.below u20)
  replace RB := Lib.hid (RB.out.below u20)
  replace TX := Lib.hid (TX.out.below u20)
  clear TX
  have RX := Lib.hid (row_of_own o)
  clear u20
  obtain ⟨sX, cX, rfl⟩ := (row_of_own o).shape
  clear o
  go_wp2_with fail
  refine (ronly_any true RA.out RB.out (by have := HLA.out; have := HLB.out; omega) (by have := HLA.out; have := HLB.out; omega)).mono ?_
  rintro e w21 ⟨vy, rfl, o, u21⟩
  replace HW := Lib.hid (HW.out.trans (u21.mono HW.out.size))
  replace HT1 := Lib.hid (HT1.out.below u21)
  replace HT2 := Lib.hid (HT2.out.below u21)
  replace c7 := bcellAt u21 c7
  replace c8 := bcellAt u21 c8
  replace RA := Lib.hid (RA.out.below u21)
  replace RB := Lib.hid (RB.out.below u21)
  replace RX := Lib.hid (RX.out.below u21)
  have RY := Lib.hid (row_of_own o)
  clear u21
  obtain ⟨sY, cY, rfl⟩ := (row_of_own o).shape
  clear o
  go_wp2_with fail
  refine (ints_same RX.out (row_eq RY.out Q3.out.symm) (by rw [keys_len]; exact Nat.lt_of_lt_of_le (by have := HSL.out; have := HSM.out; have := N1.out; have := N2.out; have := N3.out; have := N4.out; have := N5.out; omega) (by decide : 100000 ≤ 1000000))).mono ?_
  rintro e w22 ⟨rfl, hd⟩
  have u22 := hd.below
  clear RX RY hd
  replace HW := Lib.hid (HW.out.trans (u22.mono HW.out.size))
  replace HT1 := Lib.hid (HT1.out.below u22)
  replace HT2 := Lib.hid (HT2.out.below u22)
  replace c7 := bcellAt u22 c7
  replace c8 := bcellAt u22 c8
  replace RA := Lib.hid (RA.out.below u22)
  replace RB := Lib.hid (RB.out.below u22)
  clear u22
  go_wp2_with fail
  refine (sminus HT1.out HT2.out (by have := HSL.out; have := HSM.out; omega)).mono ?_
  rintro e w23 ⟨r, rfl, t, u23⟩
  replace HW := Lib.hid (HW.out.trans (u23.mono HW.out.size))
  replace HT1 := Lib.hid (HT1.out.below u23)
  replace HT2 := Lib.hid (HT2.out.below u23)
  replace c7 := bcellAt u23 c7
  replace c8 := bcellAt u23 c8
  replace RA := Lib.hid (RA.out.below u23)
  replace RB := Lib.hid (RB.out.below u23)
  have TX := Lib.hid (t)
  clear u23
  clear t
  go_wp2_with fail
  refine (slistK TX.out (by have := HSL.out; have := HSM.out; have := N1.out; have := N2.out; have := N3.out; have := N4.out; have := N5.out; omega)).mono ?_
  rintro e w24 ⟨vx, rfl, o, u24⟩
  replace HW := Lib.hid (HW.out.trans (u24.mono HW.out.size))
  replace HT1 := Lib.hid (HT1.out.below u24)
  replace HT2 := Lib.hid (HT2.out.below u24)
  replace c7 := bcellAt u24 c7
  replace c8 := bcellAt u24 c8
  replace RA := Lib.hid (RA.out.below u24)
  replace RB := Lib.hid (RB.out.below u24)
  replace TX := Lib.hid (TX.out.below u24)
  clear TX
  have RX := Lib.hid (row_of_own o)
  clear u24
  obtain ⟨sX, cX, rfl⟩ := (row_of_own o).shape
  clear o
  go_wp2_with fail
  refine (ronly_any false RA.out RB.out (by have := HLA.out; have := HLB.out; omega) (by have := HLA.out; have := HLB.out; omega)).mono ?_
  rintro e w25 ⟨vy, rfl, o, u25⟩
  replace HW := Lib.hid (HW.out.trans (u25.mono HW.out.size))
  replace HT1 := Lib.hid (HT1.out.below u25)
  replace HT2 := Lib.hid (HT2.out.below u25)
  replace c7 := bcellAt u25 c7
  replace c8 := bcellAt u25 c8
  replace RA := Lib.hid (RA.out.below u25)
  replace RB := Lib.hid (RB.out.below u25)
  replace RX := Lib.hid (RX.out.below u25)
  have RY := Lib.hid (row_of_own o)
  clear u25
  obtain ⟨sY, cY, rfl⟩ := (row_of_own o).shape
  clear o
  go_wp2_with fail
  refine (ints_same RX.out (row_eq RY.out Q4.out.symm) (by rw [keys_len]; exact Nat.lt_of_lt_of_le (by have := HSL.out; have := HSM.out; have := N1.out; have := N2.out; have := N3.out; have := N4.out; have := N5.out; omega) (by decide : 100000 ≤ 1000000))).mono ?_
  rintro e w26 ⟨rfl, hd⟩
  have u26 := hd.below
  clear RX RY hd
  replace HW := Lib.hid (HW.out.trans (u26.mono HW.out.size))
  replace HT1 := Lib.hid (HT1.out.below u26)
  replace HT2 := Lib.hid (HT2.out.below u26)
  replace c7 := bcellAt u26 c7
  replace c8 := bcellAt u26 c8
  replace RA := Lib.hid (RA.out.below u26)
  replace RB := Lib.hid (RB.out.below u26)
  clear u26
  go_wp2_with fail
  refine (sor HT1.out HT2.out (by have := HSL.out; have := HSM.out; omega)).mono ?_
  rintro e w27 ⟨r, rfl, t, u27⟩
  replace HW := Lib.hid (HW.out.trans (u27.mono HW.out.size))
  replace HT1 := Lib.hid (HT1.out.below u27)
  replace HT2 := Lib.hid (HT2.out.below u27)
  replace c7 := bcellAt u27 c7
  replace c8 := bcellAt u27 c8
  replace RA := Lib.hid (RA.out.below u27)
  replace RB := Lib.hid (RB.out.below u27)
  have TX := Lib.hid (t)
  clear u27
  clear t
  go_wp2_with fail
  refine (slistK TX.out (by have := HSL.out; have := HSM.out; have := N1.out; have := N2.out; have := N3.out; have := N4.out; have := N5.out; omega)).mono ?_
  rintro e w28 ⟨vx, rfl, o, u28⟩
  replace HW := Lib.hid (HW.out.trans (u28.mono HW.out.size))
  replace HT1 := Lib.hid (HT1.out.below u28)
  replace HT2 := Lib.hid (HT2.out.below u28)
  replace c7 := bcellAt u28 c7
  replace c8 := bcellAt u28 c8
  replace RA := Lib.hid (RA.out.below u28)
  replace RB := Lib.hid (RB.out.below u28)
  replace TX := Lib.hid (TX.out.below u28)
  clear TX
  have RX := Lib.hid (row_of_own o)
  clear u28
  obtain ⟨sX, cX, rfl⟩ := (row_of_own o).shape
  clear o
  obtain ⟨la, hla⟩ : ∃ la, la = rsetOf l ++ rsetOf m := ⟨_, rfl⟩
  have HLL := Lib.hid hla
  have HLN : Hid (la.length ≤ 160) := Lib.hid (by have := HLA.out; have := HLB.out; rw [hla, List.length_append]; omega)
  clear hla
  go_wp2_with (first | (at_builtin; refine wpList_append_rq (by rfl) _ _ rfl w28.heap.size _ [] rfl (World.ownsRow_made w28 #[] 0 (Nat.le_refl _) (by unfold maxLen; omega) rfl) _ (rsetOf l) rfl (RA.out.below ((Below.refl _ _).alloc (Nat.le_refl _) _ : Below w28.heap.size w28 (w28.alloc (.cells #[] 3)))) (by have := HLA.out; simp; omega) (by simp) ?_; intro v29 w29 o29 g29; have u29 := (((Below.refl _ _).alloc (Nat.le_refl _) _ : Below w28.heap.size w28 (w28.alloc (.cells #[] 3)))).trans (grown_below g29 (by simp) (fun k e => by cases e; exact Nat.le_refl _)); rw [List.nil_append] at o29; obtain ⟨sa29, sc29, rfl⟩ := (row_of_own o29).shape; have O29 := Lib.hid o29; have C29 := Lib.hid u29; have RB29 := Lib.hid (RB.out.below u29); clear o29 g29 u29) | (at_builtin; refine wpList_append_rq (by rfl) _ _ rfl w28.heap.size _ (rsetOf l) rfl O29.out _ (rsetOf m) rfl RB29.out (by have := HLA.out; have := HLB.out; omega) C29.out.size ?_; intro v30 w30 o30 g30; rw [← HLL.out] at o30; have u30 : Below w28.heap.size w29 w30 := grown_below g30 C29.out.size (fun k e => (own_type O29.out e).1); obtain ⟨sa30, sc30, rfl⟩ := (row_of_own o30).shape; have OO := Lib.hid (row_of_own o30); have C30 := Lib.hid u30; clear o30 g30 u30 O29 RB29))
  have uu : Below w28.heap.size w28 w30 := C29.out.trans C30.out
  replace HW := Lib.hid (HW.out.trans (uu.mono HW.out.size))
  replace HT1 := Lib.hid (HT1.out.below uu)
  replace HT2 := Lib.hid (HT2.out.below uu)
  replace c7 := bcellAt uu c7
  replace c8 := bcellAt uu c8
  replace RA := Lib.hid (RA.out.below uu)
  replace RB := Lib.hid (RB.out.below uu)
  replace RX := Lib.hid (RX.out.below uu)
  clear uu C30 C29
  refine (rsetof_any OO.out (by have := HLN.out; omega)).mono ?_
  rintro e w31 ⟨vy, rfl, o, u31⟩
  replace HW := Lib.hid (HW.out.trans (u31.mono HW.out.size))
  replace HT1 := Lib.hid (HT1.out.below u31)
  replace HT2 := Lib.hid (HT2.out.below u31)
  replace c7 := bcellAt u31 c7
  replace c8 := bcellAt u31 c8
  replace RA := Lib.hid (RA.out.below u31)
  replace RB := Lib.hid (RB.out.below u31)
  replace RX := Lib.hid (RX.out.below u31)
  have RY := Lib.hid (row_of_own o)
  clear u31
  obtain ⟨sY, cY, rfl⟩ := (row_of_own o).shape
  clear o
  go_wp2_with fail
  refine (ints_same RX.out (row_eq RY.out (by rw [HLL.out]; exact Q5.out.symm)) (by rw [keys_len]; exact Nat.lt_of_lt_of_le (by have := HSL.out; have := HSM.out; have := N1.out; have := N2.out; have := N3.out; have := N4.out; have := N5.out; omega) (by decide : 100000 ≤ 1000000))).mono ?_
  rintro e w32 ⟨rfl, hd⟩
  have u32 := hd.below
  clear RX RY hd OO
  replace HW := Lib.hid (HW.out.trans (u32.mono HW.out.size))
  replace HT1 := Lib.hid (HT1.out.below u32)
  replace HT2 := Lib.hid (HT2.out.below u32)
  replace c7 := bcellAt u32 c7
  replace c8 := bcellAt u32 c8
  replace RA := Lib.hid (RA.out.below u32)
  replace RB := Lib.hid (RB.out.below u32)
  clear u32
  go_wp2_with fail
  refine (slistK HT1.out (by have := HSL.out; have := HSM.out; have := N1.out; have := N2.out; have := N3.out; have := N4.out; have := N5.out; omega)).mono ?_
  rintro e w33 ⟨vo, rfl, oo, uu⟩
  obtain ⟨sO', cO', rfl⟩ := (row_of_own oo).shape
  have OUT := Lib.hid oo
  have UU := Lib.hid uu
  clear oo uu
  have c7b := c7
  have c8b := c8
  have HSK := Lib.hid (keys_len (setOf l))
  replace c7 := bcellAt UU.out c7
  replace c8 := bcellAt UU.out c8
  have hk80 : (setOf l).keys.length ≤ 80 := by have := HSK.out; have := HSL.out; omega
  go_wp2_with fail
  go_loopw [13] (fun i wr => ∃ (n : Nat) (xs : List Value), i = .int .i64 (n : Int) ∧ n ≤ (setOf l).keys.length ∧ wr.ownsRow w32.heap.size 3 1 (.slice sO' (setOf l).keys.length cO') (setOf l).keys.length xs ∧ Below w32.heap.size w32 wr) (fun i _ => (setOf l).keys.length - (intOf i).toNat)
  case atStart => exact ⟨0, _, rfl, Nat.zero_le _, OUT.out, UU.out⟩
  case round =>
    obtain ⟨n, xs, rfl, hn, ho, hb⟩ := hrel
    clear OUT UU c7 c8
    by_cases hlt : n < (setOf l).keys.length
    · have hn0 : (0 : Int) ≤ (n : Int) := by omega
      have hn1 : (n : Int) < ((setOf l).keys.length : Int) := by omega
      obtain ⟨g9, cap9, hv9⟩ : ∃ g9 cap9, Value.slice sO' (setOf l).keys.length cO' = Value.slice (some ⟨g9, 0, none⟩) (setOf l).keys.length cap9 := by
        rcases ho.2 with ⟨h0, hz⟩ | ⟨g9, cap9, cur, hv, _⟩
        · omega
        · exact ⟨g9, cap9, hv⟩
      simp only [Value.slice.injEq, true_and] at hv9
      obtain ⟨rfl, rfl⟩ := hv9
      have hx9 := World.ownsRow.cellAt ho n (by omega)
      have hl9 : n < xs.length := by have := ho.1; omega
      rw [List.getElem?_eq_getElem hl9] at hx9
      have hf9 := World.ownsRow.frozenAt ho n
      have HO := Lib.hid ho
      have HBB := Lib.hid hb
      generalize xs[n] = x9 at *
      clear ho hb
      go_wp2_with fail
      obtain ⟨hs1, hs2⟩ := World.ownsRow.stored HO.out n (.int .i64 (-77))
      have hs3 := HBB.out.setCell (p := ⟨g9, n, none⟩) (by exact (own_type HO.out rfl).1) (.int .i64 (-77))
      have HS1 := Lib.hid hs1
      have HS3 := Lib.hid hs3
      clear hs1 hs2 hs3
      go_roundw
      case rel => exact ⟨n + 1, _, by go_num, by omega, HS1.out, HS3.out⟩
      case measure => simp [intOf]; omega
    · obtain rfl : n = (setOf l).keys.length := by omega
      clear ho
      have HBB := Lib.hid hb
      clear hb
      have c7 := bcellAt HBB.out c7b
      have c8 := bcellAt HBB.out c8b
      replace HW := Lib.hid (HW.out.trans (HBB.out.mono HW.out.size))
      replace HT1 := Lib.hid (HT1.out.below HBB.out)
      replace HT2 := Lib.hid (HT2.out.below HBB.out)
      replace RA := Lib.hid (RA.out.below HBB.out)
      replace RB := Lib.hid (RB.out.below HBB.out)
      clear HBB c7b c8b
      go_wp2_with fail
      refine (slistK HT1.out (by have := HSL.out; have := HSM.out; have := N1.out; have := N2.out; have := N3.out; have := N4.out; have := N5.out; omega)).mono ?_
      rintro e w34 ⟨vx, rfl, o, u34⟩
      replace HW := Lib.hid (HW.out.trans (u34.mono HW.out.size))
      replace HT1 := Lib.hid (HT1.out.below u34)
      replace HT2 := Lib.hid (HT2.out.below u34)
      replace c7 := bcellAt u34 c7
      replace c8 := bcellAt u34 c8
      replace RA := Lib.hid (RA.out.below u34)
      replace RB := Lib.hid (RB.out.below u34)
      have RX := Lib.hid (row_of_own o)
      clear u34
      obtain ⟨sX, cX, rfl⟩ := (row_of_own o).shape
      clear o
      go_wp2_with fail
      refine (ints_same RX.out (row_eq RA.out (setOf_keys l).symm) (by rw [keys_len]; exact Nat.lt_of_lt_of_le (by have := HSL.out; have := HSM.out; have := N1.out; have := N2.out; have := N3.out; have := N4.out; have := N5.out; omega) (by decide : 100000 ≤ 1000000))).mono ?_
      rintro e w35 ⟨rfl, hd⟩
      have u35 := hd.below
      clear RX hd
      replace HW := Lib.hid (HW.out.trans (u35.mono HW.out.size))
      replace HT1 := Lib.hid (HT1.out.below u35)
      replace HT2 := Lib.hid (HT2.out.below u35)
      replace c7 := bcellAt u35 c7
      replace c8 := bcellAt u35 c8
      replace RA := Lib.hid (RA.out.below u35)
      replace RB := Lib.hid (RB.out.below u35)
      clear u35
      go_wp2_with fail
      refine (slistK HT2.out (by have := HSL.out; have := HSM.out; have := N1.out; have := N2.out; have := N3.out; have := N4.out; have := N5.out; omega)).mono ?_
      rintro e w36 ⟨vx, rfl, o, u36⟩
      replace HW := Lib.hid (HW.out.trans (u36.mono HW.out.size))
      replace HT1 := Lib.hid (HT1.out.below u36)
      replace HT2 := Lib.hid (HT2.out.below u36)
      replace c7 := bcellAt u36 c7
      replace c8 := bcellAt u36 c8
      replace RA := Lib.hid (RA.out.below u36)
      replace RB := Lib.hid (RB.out.below u36)
      have RX := Lib.hid (row_of_own o)
      clear u36
      obtain ⟨sX, cX, rfl⟩ := (row_of_own o).shape
      clear o
      go_wp2_with fail
      refine (ints_same RX.out (row_eq RB.out (setOf_keys m).symm) (by rw [keys_len]; exact Nat.lt_of_lt_of_le (by have := HSL.out; have := HSM.out; have := N1.out; have := N2.out; have := N3.out; have := N4.out; have := N5.out; omega) (by decide : 100000 ≤ 1000000))).mono ?_
      rintro e w37 ⟨rfl, hd⟩
      have u37 := hd.below
      clear RX hd
      replace HW := Lib.hid (HW.out.trans (u37.mono HW.out.size))
      replace HT1 := Lib.hid (HT1.out.below u37)
      replace HT2 := Lib.hid (HT2.out.below u37)
      replace c7 := bcellAt u37 c7
      replace c8 := bcellAt u37 c8
      replace RA := Lib.hid (RA.out.below u37)
      replace RB := Lib.hid (RB.out.below u37)
      clear u37
      go_wp2_with fail
      refine (live_any _).mono ?_
      rintro e w38 ⟨rfl, u38⟩
      replace HW := Lib.hid (HW.out.trans (u38.mono HW.out.size))
      replace HT1 := Lib.hid (HT1.out.below u38)
      replace HT2 := Lib.hid (HT2.out.below u38)
      replace c7 := bcellAt u38 c7
      replace c8 := bcellAt u38 c8
      replace RA := Lib.hid (RA.out.below u38)
      replace RB := Lib.hid (RB.out.below u38)
      clear u38
      go_wp2_with fail
      go_returns
      exact ⟨rfl, HW.out⟩

end Go.Proofs.Ytkobiimkaimbaaa
