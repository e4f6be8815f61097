/-
  The walk of KeepAlgebra.
-/
import Derived.Test.YtkobiimkaimbaaaKSetsP
import Derived.Test.YtkobiimkaimbaaaKAddR
import Derived.Test.YtkobiimkaimbaaaKArgN
import Derived.Test.YtkobiimkaimbaaaKLive
import Derived.Test.YtkobiimkaimbaaaKLexB
import Derived.Laws.OwnMore
namespace Go.Proofs.Ytkobiimkaimbaaa
open Go.RowKit
set_option linter.unusedVariables false

theorem alg_long {w : World} {va vb vc : Value} {l m n : List Int} (ha : Row w 1 va l.length (ints l)) (hb : Row w 1 vb m.length (ints m)) (hc : Row w 1 vc n.length (ints n)) (hl : 80 < l.length ∨ 80 < m.length ∨ 80 < n.length) :
    Calls Try.prog 7 #[va, vb, vc] w fun e w' => e = .returned (.bool true) ∧ Below w.heap.size w w' := by
  obtain ⟨aa, ca, rfl⟩ := ha.shape
  obtain ⟨ab, cb, rfl⟩ := hb.shape
  obtain ⟨ac, cc, rfl⟩ := hc.shape
  clear ha hb hc
  have HH := Lib.hid hl
  clear hl
  by_cases h0 : (80 : Int) < (l.length : Int)
  · clear HH
    go_enter Try.func7, Try.ntmps7
    go_wp2_with fail
    refine (live_any _).mono ?_
    rintro e w1 ⟨rfl, u1⟩
    have HU := Lib.hid u1
    clear u1
    go_wp2_with fail
    go_returns
    exact ⟨rfl, HU.out⟩
  · by_cases h2 : (80 : Int) < (m.length : Int)
    · clear HH
      go_enter Try.func7, Try.ntmps7
      go_wp2_with fail
      refine (live_any _).mono ?_
      rintro e w1 ⟨rfl, u1⟩
      have HU := Lib.hid u1
      clear u1
      go_wp2_with fail
      go_returns
      exact ⟨rfl, HU.out⟩
    · have h3 : (80 : Int) < (n.length : Int) := by have := HH.out; omega
      clear HH
      go_enter Try.func7, Try.ntmps7
      go_wp2_with fail
      refine (live_any _).mono ?_
      rintro e w1 ⟨rfl, u1⟩
      have HU := Lib.hid u1
      clear u1
      go_wp2_with fail
      go_returns
      exact ⟨rfl, HU.out⟩

set_option maxRecDepth 100000 in
set_option maxHeartbeats 12800000 in
theorem alg_walk {w : World} {va vb vc : Value} {l m n : List Int} (ha : Row w 1 va l.length (ints l)) (hb : Row w 1 vb m.length (ints m)) (hc : Row w 1 vc n.length (ints n)) (hl : l.length ≤ 80) (hm : m.length ≤ 80) (hn : n.length ≤ 80) :
    Calls Try.prog 7 #[va, vb, vc] w fun e w' => e = .returned (.bool true) ∧ Below w.heap.size w w' := by
  have HA := Lib.hid ha
  have HB := Lib.hid hb
  have HC := Lib.hid hc
  obtain ⟨aa, ca, rfl⟩ := ha.shape
  obtain ⟨ab, cb, rfl⟩ := hb.shape
  obtain ⟨ac, cc, rfl⟩ := hc.shape
  have NA : Hid ((setOf l).size ≤ 80) := Lib.hid (Nat.le_trans (setOf_size l) hl)
  have NB : Hid ((setOf m).size ≤ 80) := Lib.hid (Nat.le_trans (setOf_size m) hm)
  have NC : Hid ((setOf n).size ≤ 80) := Lib.hid (Nat.le_trans (setOf_size n) hn)
  have KA := Lib.hid (setOf_ok l)
  have KB := Lib.hid (setOf_ok m)
  have KC := Lib.hid (setOf_ok n)
  have h1 : ¬ (80 : Int) < (l.length : Int) := by omega
  have h2 : ¬ (80 : Int) < (m.length : Int) := by omega
  have h3 : ¬ (80 : Int) < (n.length : Int) := by omega
  clear ha hb hc
  go_enter Try.func7, Try.ntmps7
  have HW := Lib.hid (Below.refl w.heap.size w)
  go_wp2_with (first | (at_builtin; go_loud (refine wpList_append_rq (by rfl) _ _ rfl w.heap.size _ [] rfl (World.ownsRow_made w #[] 0 (Nat.le_refl _) (by unfold maxLen; omega) rfl) _ l rfl (HA.out.below ((Below.refl _ _).alloc (Nat.le_refl _) _ : Below w.heap.size w (w.alloc (.cells #[] 3)))) (by simp; omega) (by simp) ?_; intro v1 w1 o1 g1; have u1 := (((Below.refl _ _).alloc (Nat.le_refl _) _ : Below w.heap.size w (w.alloc (.cells #[] 3)))).trans (grown_below g1 (by simp) (fun k e => by cases e; exact Nat.le_refl _)); rw [List.nil_append] at o1; obtain ⟨sa1, sc1, rfl⟩ := (row_of_own o1).shape; have O1 := Lib.hid o1; have C1 := Lib.hid u1; clear o1 g1 u1)))
  have D1 := C1
  have SZ1 := Lib.hid C1.out.size
  replace HA := Lib.hid (HA.out.below C1.out)
  replace HB := Lib.hid (HB.out.below C1.out)
  replace HC := Lib.hid (HC.out.below C1.out)
  replace HW := Lib.hid (HW.out.trans (C1.out.mono HW.out.size))
  clear C1
  clear D1 SZ1
  refine (setof_any (row_of_own O1.out) (by omega)).mono ?_
  rintro e w2 ⟨q1, rfl, t, u2⟩
  replace HA := Lib.hid (HA.out.below u2)
  replace HB := Lib.hid (HB.out.below u2)
  replace HC := Lib.hid (HC.out.below u2)
  replace HW := Lib.hid (HW.out.trans (u2.mono HW.out.size))
  clear O1
  clear HA
  have TA := Lib.hid (t)
  clear u2
  clear t
  go_wp2_with (first | (at_builtin; go_loud (refine wpList_append_rq (by rfl) _ _ rfl w2.heap.size _ [] rfl (World.ownsRow_made w2 #[] 0 (Nat.le_refl _) (by unfold maxLen; omega) rfl) _ m rfl (HB.out.below ((Below.refl _ _).alloc (Nat.le_refl _) _ : Below w2.heap.size w2 (w2.alloc (.cells #[] 3)))) (by simp; omega) (by simp) ?_; intro v3 w3 o3 g3; have u3 := (((Below.refl _ _).alloc (Nat.le_refl _) _ : Below w2.heap.size w2 (w2.alloc (.cells #[] 3)))).trans (grown_below g3 (by simp) (fun k e => by cases e; exact Nat.le_refl _)); rw [List.nil_append] at o3; obtain ⟨sa3, sc3, rfl⟩ := (row_of_own o3).shape; have O3 := Lib.hid o3; have C3 := Lib.hid u3; clear o3 g3 u3)))
  have D3 := C3
  have SZ3 := Lib.hid C3.out.size
  replace HB := Lib.hid (HB.out.below C3.out)
  replace HC := Lib.hid (HC.out.below C3.out)
  replace HW := Lib.hid (HW.out.trans (C3.out.mono HW.out.size))
  replace TA := Lib.hid (TA.out.below C3.out)
  clear C3
  clear D3 SZ3
  refine (setof_any (row_of_own O3.out) (by omega)).mono ?_
  rintro e w4 ⟨q2, rfl, t, u4⟩
  replace HB := Lib.hid (HB.out.below u4)
  replace HC := Lib.hid (HC.out.below u4)
  replace HW := Lib.hid (HW.out.trans (u4.mono HW.out.size))
  replace TA := Lib.hid (TA.out.below u4)
  clear O3
  clear HB
  have TB := Lib.hid (t)
  clear u4
  clear t
  go_wp2_with (first | (at_builtin; go_loud (refine wpList_append_rq (by rfl) _ _ rfl w4.heap.size _ [] rfl (World.ownsRow_made w4 #[] 0 (Nat.le_refl _) (by unfold maxLen; omega) rfl) _ n rfl (HC.out.below ((Below.refl _ _).alloc (Nat.le_refl _) _ : Below w4.heap.size w4 (w4.alloc (.cells #[] 3)))) (by simp; omega) (by simp) ?_; intro v5 w5 o5 g5; have u5 := (((Below.refl _ _).alloc (Nat.le_refl _) _ : Below w4.heap.size w4 (w4.alloc (.cells #[] 3)))).trans (grown_below g5 (by simp) (fun k e => by cases e; exact Nat.le_refl _)); rw [List.nil_append] at o5; obtain ⟨sa5, sc5, rfl⟩ := (row_of_own o5).shape; have O5 := Lib.hid o5; have C5 := Lib.hid u5; clear o5 g5 u5)))
  have D5 := C5
  have SZ5 := Lib.hid C5.out.size
  replace HC := Lib.hid (HC.out.below C5.out)
  replace HW := Lib.hid (HW.out.trans (C5.out.mono HW.out.size))
  replace TA := Lib.hid (TA.out.below C5.out)
  replace TB := Lib.hid (TB.out.below C5.out)
  clear C5
  clear D5 SZ5
  refine (setof_any (row_of_own O5.out) (by omega)).mono ?_
  rintro e w6 ⟨q3, rfl, t, u6⟩
  replace HC := Lib.hid (HC.out.below u6)
  replace HW := Lib.hid (HW.out.trans (u6.mono HW.out.size))
  replace TA := Lib.hid (TA.out.below u6)
  replace TB := Lib.hid (TB.out.below u6)
  clear O5
  clear HC
  have TC := Lib.hid (t)
  clear u6
  clear t
  go_wp2_with fail
  obtain ⟨bz, c7, c8, c9⟩ := three_new w6 q1 q2 q3
  replace HW := Lib.hid (HW.out.trans (bz.mono HW.out.size))
  replace TA := Lib.hid (TA.out.below bz)
  replace TB := Lib.hid (TB.out.below bz)
  replace TC := Lib.hid (TC.out.below bz)
  clear bz
  generalize (((w6.alloc (.cells #[.pointer q1] 60)).alloc (.cells #[.pointer q2] 60)).alloc (.cells #[.pointer q3] 60)) = W0 at *
  generalize w6.heap.size = E at *
  generalize setOf l = A at *
  generalize setOf m = B at *
  generalize setOf n = C at *
  have bz := bd W0
  replace HW := Lib.hid (HW.out.trans (bz.mono HW.out.size))
  replace TA := Lib.hid (TA.out.below bz)
  replace TB := Lib.hid (TB.out.below bz)
  replace TC := Lib.hid (TC.out.below bz)
  replace c7 := bcellAt bz c7
  replace c8 := bcellAt bz c8
  replace c9 := bcellAt bz c9
  clear bz
  refine lexb_start 100 (S := fun X => X.cell? ⟨E, 0, none⟩ = some (.pointer q1) ∧ X.cell? ⟨E + 1, 0, none⟩ = some (.pointer q2) ∧ X.cell? ⟨E + 2, 0, none⟩ = some (.pointer q3)) rfl (by kernel_rfl) ⟨c7, c8, c9⟩ ?_
  generalize W0.drew = W1 at *
  as_aux_lemma =>
    refine lexb_take 0 (v := ?_) rfl (by as_aux_lemma => kernel_rfl) (by as_aux_lemma => kernel_rfl) (by as_aux_lemma => kernel_rfl) (by rfl) ⟨c7, c8, c9⟩ ?_ ?_
    rotate_left
    · ((intro X hX; obtain ⟨k0, k1, k2⟩ := hX; go_simp) <;> with_reducible rfl)
    simp only [Act.put, List.setIfInBounds_toArray, List.set_cons_zero, List.set_cons_succ]
    refine lexb_take 1 (v := ?_) rfl (by as_aux_lemma => kernel_rfl) (by as_aux_lemma => kernel_rfl) (by as_aux_lemma => kernel_rfl) (by rfl) ⟨c7, c8, c9⟩ ?_ ?_
    rotate_left
    · ((intro X hX; obtain ⟨k0, k1, k2⟩ := hX; go_simp) <;> with_reducible rfl)
    simp only [Act.put, List.setIfInBounds_toArray, List.set_cons_zero, List.set_cons_succ]
    refine lexb_take 3 (v := ?_) rfl (by as_aux_lemma => kernel_rfl) (by as_aux_lemma => kernel_rfl) (by as_aux_lemma => kernel_rfl) (by rfl) ⟨c7, c8, c9⟩ ?_ ?_
    rotate_left
    · ((intro X hX; obtain ⟨k0, k1, k2⟩ := hX; go_simp) <;> with_reducible rfl)
    simp only [Act.put, List.setIfInBounds_toArray, List.set_cons_zero, List.set_cons_succ]
    refine lexb_take 4 (v := ?_) rfl (by as_aux_lemma => kernel_rfl) (by as_aux_lemma => kernel_rfl) (by as_aux_lemma => kernel_rfl) (by rfl) ⟨c7, c8, c9⟩ ?_ ?_
    rotate_left
    · ((intro X hX; obtain ⟨k0, k1, k2⟩ := hX; go_simp) <;> with_reducible rfl)
    simp only [Act.put, List.setIfInBounds_toArray, List.set_cons_zero, List.set_cons_succ]
    refine lexb_call 2 rfl (by as_aux_lemma => kernel_rfl) (by rfl) ?_ _ (sor TA.out TB.out (by have := NA.out; have := NB.out; omega)) ?_
    · go_simp
    rintro e w7 ⟨r1, rfl, t, u7⟩
    replace HW := Lib.hid (HW.out.trans (u7.mono HW.out.size))
    replace TA := Lib.hid (TA.out.below u7)
    replace TB := Lib.hid (TB.out.below u7)
    replace TC := Lib.hid (TC.out.below u7)
    replace c7 := bcellAt u7 c7
    replace c8 := bcellAt u7 c8
    replace c9 := bcellAt u7 c9
    have X1 := Lib.hid (t)
    clear u7
    clear t
    have NX1 : Hid ((Tr.merge how1 (A) (B)).size ≤ 160) := Lib.hid (by have := Tr.size_merge how1 (A) (B); have := NA.out; have := NB.out; omega)
    refine ⟨_, rfl, fun X => X.cell? ⟨E, 0, none⟩ = some (.pointer q1) ∧ X.cell? ⟨E + 1, 0, none⟩ = some (.pointer q2) ∧ X.cell? ⟨E + 2, 0, none⟩ = some (.pointer q3), fun X h => h, ⟨c7, c8, c9⟩, ?_⟩
    simp only [Act.put, List.setIfInBounds_toArray, List.set_cons_zero, List.set_cons_succ]
    refine lexb_call 5 rfl (by as_aux_lemma => kernel_rfl) (by rfl) ?_ _ (sor TB.out TA.out (by have := NB.out; have := NA.out; omega)) ?_
    · go_simp
    rintro e w8 ⟨r2, rfl, t, u8⟩
    replace HW := Lib.hid (HW.out.trans (u8.mono HW.out.size))
    replace TA := Lib.hid (TA.out.below u8)
    replace TB := Lib.hid (TB.out.below u8)
    replace TC := Lib.hid (TC.out.below u8)
    replace c7 := bcellAt u8 c7
    replace c8 := bcellAt u8 c8
    replace c9 := bcellAt u8 c9
    replace X1 := Lib.hid (X1.out.below u8)
    have X2 := Lib.hid (t)
    clear u8
    clear t
    have NX2 : Hid ((Tr.merge how1 (B) (A)).size ≤ 160) := Lib.hid (by have := Tr.size_merge how1 (B) (A); have := NB.out; have := NA.out; omega)
    refine ⟨_, rfl, fun X => X.cell? ⟨E, 0, none⟩ = some (.pointer q1) ∧ X.cell? ⟨E + 1, 0, none⟩ = some (.pointer q2) ∧ X.cell? ⟨E + 2, 0, none⟩ = some (.pointer q3), fun X h => h, ⟨c7, c8, c9⟩, ?_⟩
    simp only [Act.put, List.setIfInBounds_toArray, List.set_cons_zero, List.set_cons_succ]
    refine lexb_call 6 rfl (by as_aux_lemma => kernel_rfl) (by rfl) ?_ _ (lsame X1.out X2.out (alg1 KA.out KB.out) (by have := NX1.out; omega)) ?_
    · go_simp
    rintro e w9 ⟨rfl, u9⟩
    replace HW := Lib.hid (HW.out.trans (u9.mono HW.out.size))
    replace TA := Lib.hid (TA.out.below u9)
    replace TB := Lib.hid (TB.out.below u9)
    replace TC := Lib.hid (TC.out.below u9)
    replace c7 := bcellAt u9 c7
    replace c8 := bcellAt u9 c8
    replace c9 := bcellAt u9 c9
    replace X1 := Lib.hid (X1.out.below u9)
    replace X2 := Lib.hid (X2.out.below u9)
    clear u9
    refine ⟨_, rfl, fun X => X.cell? ⟨E, 0, none⟩ = some (.pointer q1) ∧ X.cell? ⟨E + 1, 0, none⟩ = some (.pointer q2) ∧ X.cell? ⟨E + 2, 0, none⟩ = some (.pointer q3), fun X h => h, ⟨c7, c8, c9⟩, ?_⟩
    simp only [Act.put, List.setIfInBounds_toArray, List.set_cons_zero, List.set_cons_succ]
    clear X1 NX1
    clear X2 NX2
    refine lexb_take 7 (v := ?_) rfl (by as_aux_lemma => kernel_rfl) (by as_aux_lemma => kernel_rfl) (by as_aux_lemma => kernel_rfl) (by rfl) ⟨c7, c8, c9⟩ ?_ ?_
    rotate_left
    · ((intro X hX; obtain ⟨k0, k1, k2⟩ := hX; go_simp) <;> with_reducible rfl)
    simp only [Act.put, List.setIfInBounds_toArray, List.set_cons_zero, List.set_cons_succ]
    as_aux_lemma =>
      refine lexb_take 8 (v := ?_) rfl (by as_aux_lemma => kernel_rfl) (by as_aux_lemma => kernel_rfl) (by as_aux_lemma => kernel_rfl) (by rfl) ⟨c7, c8, c9⟩ ?_ ?_
      rotate_left
      · ((intro X hX; obtain ⟨k0, k1, k2⟩ := hX; go_simp) <;> with_reducible rfl)
      simp only [Act.put, List.setIfInBounds_toArray, List.set_cons_zero, List.set_cons_succ]
      refine lexb_take 9 (v := ?_) rfl (by as_aux_lemma => kernel_rfl) (by as_aux_lemma => kernel_rfl) (by as_aux_lemma => kernel_rfl) (by rfl) ⟨c7, c8, c9⟩ ?_ ?_
      rotate_left
      · ((intro X hX; obtain ⟨k0, k1, k2⟩ := hX; go_simp) <;> with_reducible rfl)
      simp only [Act.put, List.setIfInBounds_toArray, List.set_cons_zero, List.set_cons_succ]
      refine lexb_take 11 (v := ?_) rfl (by as_aux_lemma => kernel_rfl) (by as_aux_lemma => kernel_rfl) (by as_aux_lemma => kernel_rfl) (by rfl) ⟨c7, c8, c9⟩ ?_ ?_
      rotate_left
      · ((intro X hX; obtain ⟨k0, k1, k2⟩ := hX; go_simp) <;> with_reducible rfl)
      simp only [Act.put, List.setIfInBounds_toArray, List.set_cons_zero, List.set_cons_succ]
      refine lexb_take 12 (v := ?_) rfl (by as_aux_lemma => kernel_rfl) (by as_aux_lemma => kernel_rfl) (by as_aux_lemma => kernel_rfl) (by rfl) ⟨c7, c8, c9⟩ ?_ ?_
      rotate_left
      · ((intro X hX; obtain ⟨k0, k1, k2⟩ := hX; go_simp) <;> with_reducible rfl)
      simp only [Act.put, List.setIfInBounds_toArray, List.set_cons_zero, List.set_cons_succ]
      refine lexb_call 10 rfl (by as_aux_lemma => kernel_rfl) (by rfl) ?_ _ (sand TA.out TB.out (by have := NA.out; have := NB.out; omega)) ?_
      · go_simp
      rintro e w10 ⟨r3, rfl, t, u10⟩
      replace HW := Lib.hid (HW.out.trans (u10.mono HW.out.size))
      replace TA := Lib.hid (TA.out.below u10)
      replace TB := Lib.hid (TB.out.below u10)
      replace TC := Lib.hid (TC.out.below u10)
      replace c7 := bcellAt u10 c7
      replace c8 := bcellAt u10 c8
      replace c9 := bcellAt u10 c9
      have X3 := Lib.hid (t)
      clear u10
      clear t
      have NX3 : Hid ((Tr.common (A) (B)).size ≤ 80) := Lib.hid (by have := Tr.size_common (A) (B); have := NA.out; have := NB.out; omega)
      refine ⟨_, rfl, fun X => X.cell? ⟨E, 0, none⟩ = some (.pointer q1) ∧ X.cell? ⟨E + 1, 0, none⟩ = some (.pointer q2) ∧ X.cell? ⟨E + 2, 0, none⟩ = some (.pointer q3), fun X h => h, ⟨c7, c8, c9⟩, ?_⟩
      simp only [Act.put, List.setIfInBounds_toArray, List.set_cons_zero, List.set_cons_succ]
      refine lexb_call 13 rfl (by as_aux_lemma => kernel_rfl) (by rfl) ?_ _ (sand TB.out TA.out (by have := NB.out; have := NA.out; omega)) ?_
      · go_simp
      rintro e w11 ⟨r4, rfl, t, u11⟩
      replace HW := Lib.hid (HW.out.trans (u11.mono HW.out.size))
      replace TA := Lib.hid (TA.out.below u11)
      replace TB := Lib.hid (TB.out.below u11)
      replace TC := Lib.hid (TC.out.below u11)
      replace c7 := bcellAt u11 c7
      replace c8 := bcellAt u11 c8
      replace c9 := bcellAt u11 c9
      replace X3 := Lib.hid (X3.out.below u11)
      have X4 := Lib.hid (t)
      clear u11
      clear t
      have NX4 : Hid ((Tr.common (B) (A)).size ≤ 80) := Lib.hid (by have := Tr.size_common (B) (A); have := NB.out; have := NA.out; omega)
      refine ⟨_, rfl, fun X => X.cell? ⟨E, 0, none⟩ = some (.pointer q1) ∧ X.cell? ⟨E + 1, 0, none⟩ = some (.pointer q2) ∧ X.cell? ⟨E + 2, 0, none⟩ = some (.pointer q3), fun X h => h, ⟨c7, c8, c9⟩, ?_⟩
      simp only [Act.put, List.setIfInBounds_toArray, List.set_cons_zero, List.set_cons_succ]
      refine lexb_call 14 rfl (by as_aux_lemma => kernel_rfl) (by rfl) ?_ _ (lsame X3.out X4.out (alg2 KA.out KB.out) (by have := NX3.out; omega)) ?_
      · go_simp
      rintro e w12 ⟨rfl, u12⟩
      replace HW := Lib.hid (HW.out.trans (u12.mono HW.out.size))
      replace TA := Lib.hid (TA.out.below u12)
      replace TB := Lib.hid (TB.out.below u12)
      replace TC := Lib.hid (TC.out.below u12)
      replace c7 := bcellAt u12 c7
      replace c8 := bcellAt u12 c8
      replace c9 := bcellAt u12 c9
      replace X3 := Lib.hid (X3.out.below u12)
      replace X4 := Lib.hid (X4.out.below u12)
      clear u12
      refine ⟨_, rfl, fun X => X.cell? ⟨E, 0, none⟩ = some (.pointer q1) ∧ X.cell? ⟨E + 1, 0, none⟩ = some (.pointer q2) ∧ X.cell? ⟨E + 2, 0, none⟩ = some (.pointer q3), fun X h => h, ⟨c7, c8, c9⟩, ?_⟩
      simp only [Act.put, List.setIfInBounds_toArray, List.set_cons_zero, List.set_cons_succ]
      clear X3 NX3
      clear X4 NX4
      refine lexb_take 15 (v := ?_) rfl (by as_aux_lemma => kernel_rfl) (by as_aux_lemma => kernel_rfl) (by as_aux_lemma => kernel_rfl) (by rfl) ⟨c7, c8, c9⟩ ?_ ?_
      rotate_left
      · ((intro X hX; obtain ⟨k0, k1, k2⟩ := hX; go_simp) <;> with_reducible rfl)
      simp only [Act.put, List.setIfInBounds_toArray, List.set_cons_zero, List.set_cons_succ]
      as_aux_lemma =>
        refine lexb_take 16 (v := ?_) rfl (by as_aux_lemma => kernel_rfl) (by as_aux_lemma => kernel_rfl) (by as_aux_lemma => kernel_rfl) (by rfl) ⟨c7, c8, c9⟩ ?_ ?_
        rotate_left
        · ((intro X hX; obtain ⟨k0, k1, k2⟩ := hX; go_simp) <;> with_reducible rfl)
        simp only [Act.put, List.setIfInBounds_toArray, List.set_cons_zero, List.set_cons_succ]
        refine lexb_take 17 (v := ?_) rfl (by as_aux_lemma => kernel_rfl) (by as_aux_lemma => kernel_rfl) (by as_aux_lemma => kernel_rfl) (by rfl) ⟨c7, c8, c9⟩ ?_ ?_
        rotate_left
        · ((intro X hX; obtain ⟨k0, k1, k2⟩ := hX; go_simp) <;> with_reducible rfl)
        simp only [Act.put, List.setIfInBounds_toArray, List.set_cons_zero, List.set_cons_succ]
        refine lexb_take 18 (v := ?_) rfl (by as_aux_lemma => kernel_rfl) (by as_aux_lemma => kernel_rfl) (by as_aux_lemma => kernel_rfl) (by rfl) ⟨c7, c8, c9⟩ ?_ ?_
        rotate_left
        · ((intro X hX; obtain ⟨k0, k1, k2⟩ := hX; go_simp) <;> with_reducible rfl)
        simp only [Act.put, List.setIfInBounds_toArray, List.set_cons_zero, List.set_cons_succ]
        refine lexb_take 20 (v := ?_) rfl (by as_aux_lemma => kernel_rfl) (by as_aux_lemma => kernel_rfl) (by as_aux_lemma => kernel_rfl) (by rfl) ⟨c7, c8, c9⟩ ?_ ?_
        rotate_left
        · ((intro X hX; obtain ⟨k0, k1, k2⟩ := hX; go_simp) <;> with_reducible rfl)
        simp only [Act.put, List.setIfInBounds_toArray, List.set_cons_zero, List.set_cons_succ]
        refine lexb_take 22 (v := ?_) rfl (by as_aux_lemma => kernel_rfl) (by as_aux_lemma => kernel_rfl) (by as_aux_lemma => kernel_rfl) (by rfl) ⟨c7, c8, c9⟩ ?_ ?_
        rotate_left
        · ((intro X hX; obtain ⟨k0, k1, k2⟩ := hX; go_simp) <;> with_reducible rfl)
        simp only [Act.put, List.setIfInBounds_toArray, List.set_cons_zero, List.set_cons_succ]
        refine lexb_take 23 (v := ?_) rfl (by as_aux_lemma => kernel_rfl) (by as_aux_lemma => kernel_rfl) (by as_aux_lemma => kernel_rfl) (by rfl) ⟨c7, c8, c9⟩ ?_ ?_
        rotate_left
        · ((intro X hX; obtain ⟨k0, k1, k2⟩ := hX; go_simp) <;> with_reducible rfl)
        simp only [Act.put, List.setIfInBounds_toArray, List.set_cons_zero, List.set_cons_succ]
        refine lexb_take 24 (v := ?_) rfl (by as_aux_lemma => kernel_rfl) (by as_aux_lemma => kernel_rfl) (by as_aux_lemma => kernel_rfl) (by rfl) ⟨c7, c8, c9⟩ ?_ ?_
        rotate_left
        · ((intro X hX; obtain ⟨k0, k1, k2⟩ := hX; go_simp) <;> with_reducible rfl)
        simp only [Act.put, List.setIfInBounds_toArray, List.set_cons_zero, List.set_cons_succ]
        refine lexb_call 19 rfl (by as_aux_lemma => kernel_rfl) (by rfl) ?_ _ (sor TA.out TB.out (by have := NA.out; have := NB.out; omega)) ?_
        · go_simp
        rintro e w13 ⟨r5, rfl, t, u13⟩
        replace HW := Lib.hid (HW.out.trans (u13.mono HW.out.size))
        replace TA := Lib.hid (TA.out.below u13)
        replace TB := Lib.hid (TB.out.below u13)
        replace TC := Lib.hid (TC.out.below u13)
        replace c7 := bcellAt u13 c7
        replace c8 := bcellAt u13 c8
        replace c9 := bcellAt u13 c9
        have X5 := Lib.hid (t)
        clear u13
        clear t
        have NX5 : Hid ((Tr.merge how1 (A) (B)).size ≤ 160) := Lib.hid (by have := Tr.size_merge how1 (A) (B); have := NA.out; have := NB.out; omega)
        refine ⟨_, rfl, fun X => X.cell? ⟨E, 0, none⟩ = some (.pointer q1) ∧ X.cell? ⟨E + 1, 0, none⟩ = some (.pointer q2) ∧ X.cell? ⟨E + 2, 0, none⟩ = some (.pointer q3), fun X h => h, ⟨c7, c8, c9⟩, ?_⟩
        simp only [Act.put, List.setIfInBounds_toArray, List.set_cons_zero, List.set_cons_succ]
        as_aux_lemma =>
          refine lexb_call 21 rfl (by as_aux_lemma => kernel_rfl) (by rfl) ?_ _ (sor X5.out TC.out (by have := NX5.out; have := NC.out; omega)) ?_
          · go_simp
          rintro e w14 ⟨r6, rfl, t, u14⟩
          replace HW := Lib.hid (HW.out.trans (u14.mono HW.out.size))
          replace TA := Lib.hid (TA.out.below u14)
          replace TB := Lib.hid (TB.out.below u14)
          replace TC := Lib.hid (TC.out.below u14)
          replace c7 := bcellAt u14 c7
          replace c8 := bcellAt u14 c8
          replace c9 := bcellAt u14 c9
          replace X5 := Lib.hid (X5.out.below u14)
          have X6 := Lib.hid (t)
          clear u14
          clear t
          have NX6 : Hid ((Tr.merge how1 (Tr.merge how1 (A) (B)) (C)).size ≤ 240) := Lib.hid (by have := Tr.size_merge how1 (Tr.merge how1 (A) (B)) (C); have := NX5.out; have := NC.out; omega)
          refine ⟨_, rfl, fun X => X.cell? ⟨E, 0, none⟩ = some (.pointer q1) ∧ X.cell? ⟨E + 1, 0, none⟩ = some (.pointer q2) ∧ X.cell? ⟨E + 2, 0, none⟩ = some (.pointer q3), fun X h => h, ⟨c7, c8, c9⟩, ?_⟩
          simp only [Act.put, List.setIfInBounds_toArray, List.set_cons_zero, List.set_cons_succ]
          refine lexb_call 25 rfl (by as_aux_lemma => kernel_rfl) (by rfl) ?_ _ (sor TB.out TC.out (by have := NB.out; have := NC.out; omega)) ?_
          · go_simp
          rintro e w15 ⟨r7, rfl, t, u15⟩
          replace HW := Lib.hid (HW.out.trans (u15.mono HW.out.size))
          replace TA := Lib.hid (TA.out.below u15)
          replace TB := Lib.hid (TB.out.below u15)
          replace TC := Lib.hid (TC.out.below u15)
          replace c7 := bcellAt u15 c7
          replace c8 := bcellAt u15 c8
          replace c9 := bcellAt u15 c9
          replace X5 := Lib.hid (X5.out.below u15)
          replace X6 := Lib.hid (X6.out.below u15)
          have X7 := Lib.hid (t)
          clear u15
          clear t
          have NX7 : Hid ((Tr.merge how1 (B) (C)).size ≤ 160) := Lib.hid (by have := Tr.size_merge how1 (B) (C); have := NB.out; have := NC.out; omega)
          refine ⟨_, rfl, fun X => X.cell? ⟨E, 0, none⟩ = some (.pointer q1) ∧ X.cell? ⟨E + 1, 0, none⟩ = some (.pointer q2) ∧ X.cell? ⟨E + 2, 0, none⟩ = some (.pointer q3), fun X h => h, ⟨c7, c8, c9⟩, ?_⟩
          simp only [Act.put, List.setIfInBounds_toArray, List.set_cons_zero, List.set_cons_succ]
          refine lexb_call 26 rfl (by as_aux_lemma => kernel_rfl) (by rfl) ?_ _ (sor TA.out X7.out (by have := NA.out; have := NX7.out; omega)) ?_
          · go_simp
          rintro e w16 ⟨r8, rfl, t, u16⟩
          replace HW := Lib.hid (HW.out.trans (u16.mono HW.out.size))
          replace TA := Lib.hid (TA.out.below u16)
          replace TB := Lib.hid (TB.out.below u16)
          replace TC := Lib.hid (TC.out.below u16)
          replace c7 := bcellAt u16 c7
          replace c8 := bcellAt u16 c8
          replace c9 := bcellAt u16 c9
          replace X5 := Lib.hid (X5.out.below u16)
          replace X6 := Lib.hid (X6.out.below u16)
          replace X7 := Lib.hid (X7.out.below u16)
          have X8 := Lib.hid (t)
          clear u16
          clear t
          have NX8 : Hid ((Tr.merge how1 (A) (Tr.merge how1 (B) (C))).size ≤ 240) := Lib.hid (by have := Tr.size_merge how1 (A) (Tr.merge how1 (B) (C)); have := NA.out; have := NX7.out; omega)
          refine ⟨_, rfl, fun X => X.cell? ⟨E, 0, none⟩ = some (.pointer q1) ∧ X.cell? ⟨E + 1, 0, none⟩ = some (.pointer q2) ∧ X.cell? ⟨E + 2, 0, none⟩ = some (.pointer q3), fun X h => h, ⟨c7, c8, c9⟩, ?_⟩
          simp only [Act.put, List.setIfInBounds_toArray, List.set_cons_zero, List.set_cons_succ]
          refine lexb_call 27 rfl (by as_aux_lemma => kernel_rfl) (by rfl) ?_ _ (lsame X6.out X8.out (alg3 KA.out KB.out KC.out) (by have := NX6.out; omega)) ?_
          · go_simp
          rintro e w17 ⟨rfl, u17⟩
          replace HW := Lib.hid (HW.out.trans (u17.mono HW.out.size))
          replace TA := Lib.hid (TA.out.below u17)
          replace TB := Lib.hid (TB.out.below u17)
          replace TC := Lib.hid (TC.out.below u17)
          replace c7 := bcellAt u17 c7
          replace c8 := bcellAt u17 c8
          replace c9 := bcellAt u17 c9
          replace X5 := Lib.hid (X5.out.below u17)
          replace X6 := Lib.hid (X6.out.below u17)
          replace X7 := Lib.hid (X7.out.below u17)
          replace X8 := Lib.hid (X8.out.below u17)
          clear u17
          refine ⟨_, rfl, fun X => X.cell? ⟨E, 0, none⟩ = some (.pointer q1) ∧ X.cell? ⟨E + 1, 0, none⟩ = some (.pointer q2) ∧ X.cell? ⟨E + 2, 0, none⟩ = some (.pointer q3), fun X h => h, ⟨c7, c8, c9⟩, ?_⟩
          simp only [Act.put, List.setIfInBounds_toArray, List.set_cons_zero, List.set_cons_succ]
          clear X5 NX5
          clear X6 NX6
          clear X7 NX7
          clear X8 NX8
          refine lexb_take 28 (v := ?_) rfl (by as_aux_lemma => kernel_rfl) (by as_aux_lemma => kernel_rfl) (by as_aux_lemma => kernel_rfl) (by rfl) ⟨c7, c8, c9⟩ ?_ ?_
          rotate_left
          · ((intro X hX; obtain ⟨k0, k1, k2⟩ := hX; go_simp) <;> with_reducible rfl)
          simp only [Act.put, List.setIfInBounds_toArray, List.set_cons_zero, List.set_cons_succ]
          refine lexb_take 29 (v := ?_) rfl (by as_aux_lemma => kernel_rfl) (by as_aux_lemma => kernel_rfl) (by as_aux_lemma => kernel_rfl) (by rfl) ⟨c7, c8, c9⟩ ?_ ?_
          rotate_left
          · ((intro X hX; obtain ⟨k0, k1, k2⟩ := hX; go_simp) <;> with_reducible rfl)
          simp only [Act.put, List.setIfInBounds_toArray, List.set_cons_zero, List.set_cons_succ]
          refine lexb_take 30 (v := ?_) rfl (by as_aux_lemma => kernel_rfl) (by as_aux_lemma => kernel_rfl) (by as_aux_lemma => kernel_rfl) (by rfl) ⟨c7, c8, c9⟩ ?_ ?_
          rotate_left
          · ((intro X hX; obtain ⟨k0, k1, k2⟩ := hX; go_simp) <;> with_reducible rfl)
          simp only [Act.put, List.setIfInBounds_toArray, List.set_cons_zero, List.set_cons_succ]
          refine lexb_take 31 (v := ?_) rfl (by as_aux_lemma => kernel_rfl) (by as_aux_lemma => kernel_rfl) (by as_aux_lemma => kernel_rfl) (by rfl) ⟨c7, c8, c9⟩ ?_ ?_
          rotate_left
          · ((intro X hX; obtain ⟨k0, k1, k2⟩ := hX; go_simp) <;> with_reducible rfl)
          simp only [Act.put, List.setIfInBounds_toArray, List.set_cons_zero, List.set_cons_succ]
          as_aux_lemma =>
            refine lexb_take 33 (v := ?_) rfl (by as_aux_lemma => kernel_rfl) (by as_aux_lemma => kernel_rfl) (by as_aux_lemma => kernel_rfl) (by rfl) ⟨c7, c8, c9⟩ ?_ ?_
            rotate_left
            · ((intro X hX; obtain ⟨k0, k1, k2⟩ := hX; go_simp) <;> with_reducible rfl)
            simp only [Act.put, List.setIfInBounds_toArray, List.set_cons_zero, List.set_cons_succ]
            refine lexb_take 35 (v := ?_) rfl (by as_aux_lemma => kernel_rfl) (by as_aux_lemma => kernel_rfl) (by as_aux_lemma => kernel_rfl) (by rfl) ⟨c7, c8, c9⟩ ?_ ?_
            rotate_left
            · ((intro X hX; obtain ⟨k0, k1, k2⟩ := hX; go_simp) <;> with_reducible rfl)
            simp only [Act.put, List.setIfInBounds_toArray, List.set_cons_zero, List.set_cons_succ]
            refine lexb_take 36 (v := ?_) rfl (by as_aux_lemma => kernel_rfl) (by as_aux_lemma => kernel_rfl) (by as_aux_lemma => kernel_rfl) (by rfl) ⟨c7, c8, c9⟩ ?_ ?_
            rotate_left
            · ((intro X hX; obtain ⟨k0, k1, k2⟩ := hX; go_simp) <;> with_reducible rfl)
            simp only [Act.put, List.setIfInBounds_toArray, List.set_cons_zero, List.set_cons_succ]
            refine lexb_take 37 (v := ?_) rfl (by as_aux_lemma => kernel_rfl) (by as_aux_lemma => kernel_rfl) (by as_aux_lemma => kernel_rfl) (by rfl) ⟨c7, c8, c9⟩ ?_ ?_
            rotate_left
            · ((intro X hX; obtain ⟨k0, k1, k2⟩ := hX; go_simp) <;> with_reducible rfl)
            simp only [Act.put, List.setIfInBounds_toArray, List.set_cons_zero, List.set_cons_succ]
            refine lexb_call 32 rfl (by as_aux_lemma => kernel_rfl) (by rfl) ?_ _ (sand TA.out TB.out (by have := NA.out; have := NB.out; omega)) ?_
            · go_simp
            rintro e w18 ⟨r9, rfl, t, u18⟩
            replace HW := Lib.hid (HW.out.trans (u18.mono HW.out.size))
            replace TA := Lib.hid (TA.out.below u18)
            replace TB := Lib.hid (TB.out.below u18)
            replace TC := Lib.hid (TC.out.below u18)
            replace c7 := bcellAt u18 c7
            replace c8 := bcellAt u18 c8
            replace c9 := bcellAt u18 c9
            have X9 := Lib.hid (t)
            clear u18
            clear t
            have NX9 : Hid ((Tr.common (A) (B)).size ≤ 80) := Lib.hid (by have := Tr.size_common (A) (B); have := NA.out; have := NB.out; omega)
            refine ⟨_, rfl, fun X => X.cell? ⟨E, 0, none⟩ = some (.pointer q1) ∧ X.cell? ⟨E + 1, 0, none⟩ = some (.pointer q2) ∧ X.cell? ⟨E + 2, 0, none⟩ = some (.pointer q3), fun X h => h, ⟨c7, c8, c9⟩, ?_⟩
            simp only [Act.put, List.setIfInBounds_toArray, List.set_cons_zero, List.set_cons_succ]
            refine lexb_call 34 rfl (by as_aux_lemma => kernel_rfl) (by rfl) ?_ _ (sand X9.out TC.out (by have := NX9.out; have := NC.out; omega)) ?_
            · go_simp
            rintro e w19 ⟨r10, rfl, t, u19⟩
            replace HW := Lib.hid (HW.out.trans (u19.mono HW.out.size))
            replace TA := Lib.hid (TA.out.below u19)
            replace TB := Lib.hid (TB.out.below u19)
            replace TC := Lib.hid (TC.out.below u19)
            replace c7 := bcellAt u19 c7
            replace c8 := bcellAt u19 c8
            replace c9 := bcellAt u19 c9
            replace X9 := Lib.hid (X9.out.below u19)
            have X10 := Lib.hid (t)
            clear u19
            clear t
            have NX10 : Hid ((Tr.common (Tr.common (A) (B)) (C)).size ≤ 80) := Lib.hid (by have := Tr.size_common (Tr.common (A) (B)) (C); have := NX9.out; have := NC.out; omega)
            refine ⟨_, rfl, fun X => X.cell? ⟨E, 0, none⟩ = some (.pointer q1) ∧ X.cell? ⟨E + 1, 0, none⟩ = some (.pointer q2) ∧ X.cell? ⟨E + 2, 0, none⟩ = some (.pointer q3), fun X h => h, ⟨c7, c8, c9⟩, ?_⟩
            simp only [Act.put, List.setIfInBounds_toArray, List.set_cons_zero, List.set_cons_succ]
            refine lexb_call 38 rfl (by as_aux_lemma => kernel_rfl) (by rfl) ?_ _ (sand TB.out TC.out (by have := NB.out; have := NC.out; omega)) ?_
            · go_simp
            rintro e w20 ⟨r11, rfl, t, u20⟩
            replace HW := Lib.hid (HW.out.trans (u20.mono HW.out.size))
            replace TA := Lib.hid (TA.out.below u20)
            replace TB := Lib.hid (TB.out.below u20)
            replace TC := Lib.hid (TC.out.below u20)
            replace c7 := bcellAt u20 c7
            replace c8 := bcellAt u20 c8
            replace c9 := bcellAt u20 c9
            replace X9 := Lib.hid (X9.out.below u20)
            replace X10 := Lib.hid (X10.out.below u20)
            have X11 := Lib.hid (t)
            clear u20
            clear t
            have NX11 : Hid ((Tr.common (B) (C)).size ≤ 80) := Lib.hid (by have := Tr.size_common (B) (C); have := NB.out; have := NC.out; omega)
            refine ⟨_, rfl, fun X => X.cell? ⟨E, 0, none⟩ = some (.pointer q1) ∧ X.cell? ⟨E + 1, 0, none⟩ = some (.pointer q2) ∧ X.cell? ⟨E + 2, 0, none⟩ = some (.pointer q3), fun X h => h, ⟨c7, c8, c9⟩, ?_⟩
            simp only [Act.put, List.setIfInBounds_toArray, List.set_cons_zero, List.set_cons_succ]
            refine lexb_call 39 rfl (by as_aux_lemma => kernel_rfl) (by rfl) ?_ _ (sand TA.out X11.out (by have := NA.out; have := NX11.out; omega)) ?_
            · go_simp
            rintro e w21 ⟨r12, rfl, t, u21⟩
            replace HW := Lib.hid (HW.out.trans (u21.mono HW.out.size))
            replace TA := Lib.hid (TA.out.below u21)
            replace TB := Lib.hid (TB.out.below u21)
            replace TC := Lib.hid (TC.out.below u21)
            replace c7 := bcellAt u21 c7
            replace c8 := bcellAt u21 c8
            replace c9 := bcellAt u21 c9
            replace X9 := Lib.hid (X9.out.below u21)
            replace X10 := Lib.hid (X10.out.below u21)
            replace X11 := Lib.hid (X11.out.below u21)
            have X12 := Lib.hid (t)
            clear u21
            clear t
            have NX12 : Hid ((Tr.common (A) (Tr.common (B) (C))).size ≤ 80) := Lib.hid (by have := Tr.size_common (A) (Tr.common (B) (C)); have := NA.out; have := NX11.out; omega)
            refine ⟨_, rfl, fun X => X.cell? ⟨E, 0, none⟩ = some (.pointer q1) ∧ X.cell? ⟨E + 1, 0, none⟩ = some (.pointer q2) ∧ X.cell? ⟨E + 2, 0, none⟩ = some (.pointer q3), fun X h => h, ⟨c7, c8, c9⟩, ?_⟩
            simp only [Act.put, List.setIfInBounds_toArray, List.set_cons_zero, List.set_cons_succ]
            as_aux_lemma =>
              refine lexb_call 40 rfl (by as_aux_lemma => kernel_rfl) (by rfl) ?_ _ (lsame X10.out X12.out (alg4 KA.out KB.out KC.out) (by have := NX10.out; omega)) ?_
              · go_simp
              rintro e w22 ⟨rfl, u22⟩
              replace HW := Lib.hid (HW.out.trans (u22.mono HW.out.size))
              replace TA := Lib.hid (TA.out.below u22)
              replace TB := Lib.hid (TB.out.below u22)
              replace TC := Lib.hid (TC.out.below u22)
              replace c7 := bcellAt u22 c7
              replace c8 := bcellAt u22 c8
              replace c9 := bcellAt u22 c9
              replace X9 := Lib.hid (X9.out.below u22)
              replace X10 := Lib.hid (X10.out.below u22)
              replace X11 := Lib.hid (X11.out.below u22)
              replace X12 := Lib.hid (X12.out.below u22)
              clear u22
              refine ⟨_, rfl, fun X => X.cell? ⟨E, 0, none⟩ = some (.pointer q1) ∧ X.cell? ⟨E + 1, 0, none⟩ = some (.pointer q2) ∧ X.cell? ⟨E + 2, 0, none⟩ = some (.pointer q3), fun X h => h, ⟨c7, c8, c9⟩, ?_⟩
              simp only [Act.put, List.setIfInBounds_toArray, List.set_cons_zero, List.set_cons_succ]
              clear X9 NX9
              clear X10 NX10
              clear X11 NX11
              clear X12 NX12
              refine lexb_take 41 (v := ?_) rfl (by as_aux_lemma => kernel_rfl) (by as_aux_lemma => kernel_rfl) (by as_aux_lemma => kernel_rfl) (by rfl) ⟨c7, c8, c9⟩ ?_ ?_
              rotate_left
              · ((intro X hX; obtain ⟨k0, k1, k2⟩ := hX; go_simp) <;> with_reducible rfl)
              simp only [Act.put, List.setIfInBounds_toArray, List.set_cons_zero, List.set_cons_succ]
              refine lexb_take 42 (v := ?_) rfl (by as_aux_lemma => kernel_rfl) (by as_aux_lemma => kernel_rfl) (by as_aux_lemma => kernel_rfl) (by rfl) ⟨c7, c8, c9⟩ ?_ ?_
              rotate_left
              · ((intro X hX; obtain ⟨k0, k1, k2⟩ := hX; go_simp) <;> with_reducible rfl)
              simp only [Act.put, List.setIfInBounds_toArray, List.set_cons_zero, List.set_cons_succ]
              refine lexb_take 43 (v := ?_) rfl (by as_aux_lemma => kernel_rfl) (by as_aux_lemma => kernel_rfl) (by as_aux_lemma => kernel_rfl) (by rfl) ⟨c7, c8, c9⟩ ?_ ?_
              rotate_left
              · ((intro X hX; obtain ⟨k0, k1, k2⟩ := hX; go_simp) <;> with_reducible rfl)
              simp only [Act.put, List.setIfInBounds_toArray, List.set_cons_zero, List.set_cons_succ]
              refine lexb_take 44 (v := ?_) rfl (by as_aux_lemma => kernel_rfl) (by as_aux_lemma => kernel_rfl) (by as_aux_lemma => kernel_rfl) (by rfl) ⟨c7, c8, c9⟩ ?_ ?_
              rotate_left
              · ((intro X hX; obtain ⟨k0, k1, k2⟩ := hX; go_simp) <;> with_reducible rfl)
              simp only [Act.put, List.setIfInBounds_toArray, List.set_cons_zero, List.set_cons_succ]
              refine lexb_take 45 (v := ?_) rfl (by as_aux_lemma => kernel_rfl) (by as_aux_lemma => kernel_rfl) (by as_aux_lemma => kernel_rfl) (by rfl) ⟨c7, c8, c9⟩ ?_ ?_
              rotate_left
              · ((intro X hX; obtain ⟨k0, k1, k2⟩ := hX; go_simp) <;> with_reducible rfl)
              simp only [Act.put, List.setIfInBounds_toArray, List.set_cons_zero, List.set_cons_succ]
              refine lexb_take 48 (v := ?_) rfl (by as_aux_lemma => kernel_rfl) (by as_aux_lemma => kernel_rfl) (by as_aux_lemma => kernel_rfl) (by rfl) ⟨c7, c8, c9⟩ ?_ ?_
              rotate_left
              · ((intro X hX; obtain ⟨k0, k1, k2⟩ := hX; go_simp) <;> with_reducible rfl)
              simp only [Act.put, List.setIfInBounds_toArray, List.set_cons_zero, List.set_cons_succ]
              refine lexb_call 46 rfl (by as_aux_lemma => kernel_rfl) (by rfl) ?_ _ (sand TA.out TB.out (by have := NA.out; have := NB.out; omega)) ?_
              · go_simp
              rintro e w23 ⟨r13, rfl, t, u23⟩
              replace HW := Lib.hid (HW.out.trans (u23.mono HW.out.size))
              replace TA := Lib.hid (TA.out.below u23)
              replace TB := Lib.hid (TB.out.below u23)
              replace TC := Lib.hid (TC.out.below u23)
              replace c7 := bcellAt u23 c7
              replace c8 := bcellAt u23 c8
              replace c9 := bcellAt u23 c9
              have X13 := Lib.hid (t)
              clear u23
              clear t
              have NX13 : Hid ((Tr.common (A) (B)).size ≤ 80) := Lib.hid (by have := Tr.size_common (A) (B); have := NA.out; have := NB.out; omega)
              refine ⟨_, rfl, fun X => X.cell? ⟨E, 0, none⟩ = some (.pointer q1) ∧ X.cell? ⟨E + 1, 0, none⟩ = some (.pointer q2) ∧ X.cell? ⟨E + 2, 0, none⟩ = some (.pointer q3), fun X h => h, ⟨c7, c8, c9⟩, ?_⟩
              simp only [Act.put, List.setIfInBounds_toArray, List.set_cons_zero, List.set_cons_succ]
              as_aux_lemma =>
                refine lexb_call 47 rfl (by as_aux_lemma => kernel_rfl) (by rfl) ?_ _ (sor TA.out X13.out (by have := NA.out; have := NX13.out; omega)) ?_
                · go_simp
                rintro e w24 ⟨r14, rfl, t, u24⟩
                replace HW := Lib.hid (HW.out.trans (u24.mono HW.out.size))
                replace TA := Lib.hid (TA.out.below u24)
                replace TB := Lib.hid (TB.out.below u24)
                replace TC := Lib.hid (TC.out.below u24)
                replace c7 := bcellAt u24 c7
                replace c8 := bcellAt u24 c8
                replace c9 := bcellAt u24 c9
                replace X13 := Lib.hid (X13.out.below u24)
                have X14 := Lib.hid (t)
                clear u24
                clear t
                have NX14 : Hid ((Tr.merge how1 (A) (Tr.common (A) (B))).size ≤ 160) := Lib.hid (by have := Tr.size_merge how1 (A) (Tr.common (A) (B)); have := NA.out; have := NX13.out; omega)
                refine ⟨_, rfl, fun X => X.cell? ⟨E, 0, none⟩ = some (.pointer q1) ∧ X.cell? ⟨E + 1, 0, none⟩ = some (.pointer q2) ∧ X.cell? ⟨E + 2, 0, none⟩ = some (.pointer q3), fun X h => h, ⟨c7, c8, c9⟩, ?_⟩
                simp only [Act.put, List.setIfInBounds_toArray, List.set_cons_zero, List.set_cons_succ]
                refine lexb_call 49 rfl (by as_aux_lemma => kernel_rfl) (by rfl) ?_ _ (lsame X14.out TA.out (alg5 KA.out KB.out) (by have := NX14.out; omega)) ?_
                · go_simp
                rintro e w25 ⟨rfl, u25⟩
                replace HW := Lib.hid (HW.out.trans (u25.mono HW.out.size))
                replace TA := Lib.hid (TA.out.below u25)
                replace TB := Lib.hid (TB.out.below u25)
                replace TC := Lib.hid (TC.out.below u25)
                replace c7 := bcellAt u25 c7
                replace c8 := bcellAt u25 c8
                replace c9 := bcellAt u25 c9
                replace X13 := Lib.hid (X13.out.below u25)
                replace X14 := Lib.hid (X14.out.below u25)
                clear u25
                refine ⟨_, rfl, fun X => X.cell? ⟨E, 0, none⟩ = some (.pointer q1) ∧ X.cell? ⟨E + 1, 0, none⟩ = some (.pointer q2) ∧ X.cell? ⟨E + 2, 0, none⟩ = some (.pointer q3), fun X h => h, ⟨c7, c8, c9⟩, ?_⟩
                simp only [Act.put, List.setIfInBounds_toArray, List.set_cons_zero, List.set_cons_succ]
                clear X13 NX13
                clear X14 NX14
                refine lexb_take 50 (v := ?_) rfl (by as_aux_lemma => kernel_rfl) (by as_aux_lemma => kernel_rfl) (by as_aux_lemma => kernel_rfl) (by rfl) ⟨c7, c8, c9⟩ ?_ ?_
                rotate_left
                · ((intro X hX; obtain ⟨k0, k1, k2⟩ := hX; go_simp) <;> with_reducible rfl)
                simp only [Act.put, List.setIfInBounds_toArray, List.set_cons_zero, List.set_cons_succ]
                refine lexb_take 51 (v := ?_) rfl (by as_aux_lemma => kernel_rfl) (by as_aux_lemma => kernel_rfl) (by as_aux_lemma => kernel_rfl) (by rfl) ⟨c7, c8, c9⟩ ?_ ?_
                rotate_left
                · ((intro X hX; obtain ⟨k0, k1, k2⟩ := hX; go_simp) <;> with_reducible rfl)
                simp only [Act.put, List.setIfInBounds_toArray, List.set_cons_zero, List.set_cons_succ]
                refine lexb_take 52 (v := ?_) rfl (by as_aux_lemma => kernel_rfl) (by as_aux_lemma => kernel_rfl) (by as_aux_lemma => kernel_rfl) (by rfl) ⟨c7, c8, c9⟩ ?_ ?_
                rotate_left
                · ((intro X hX; obtain ⟨k0, k1, k2⟩ := hX; go_simp) <;> with_reducible rfl)
                simp only [Act.put, List.setIfInBounds_toArray, List.set_cons_zero, List.set_cons_succ]
                refine lexb_take 53 (v := ?_) rfl (by as_aux_lemma => kernel_rfl) (by as_aux_lemma => kernel_rfl) (by as_aux_lemma => kernel_rfl) (by rfl) ⟨c7, c8, c9⟩ ?_ ?_
                rotate_left
                · ((intro X hX; obtain ⟨k0, k1, k2⟩ := hX; go_simp) <;> with_reducible rfl)
                simp only [Act.put, List.setIfInBounds_toArray, List.set_cons_zero, List.set_cons_succ]
                refine lexb_take 54 (v := ?_) rfl (by as_aux_lemma => kernel_rfl) (by as_aux_lemma => kernel_rfl) (by as_aux_lemma => kernel_rfl) (by rfl) ⟨c7, c8, c9⟩ ?_ ?_
                rotate_left
                · ((intro X hX; obtain ⟨k0, k1, k2⟩ := hX; go_simp) <;> with_reducible rfl)
                simp only [Act.put, List.setIfInBounds_toArray, List.set_cons_zero, List.set_cons_succ]
                refine lexb_take 57 (v := ?_) rfl (by as_aux_lemma => kernel_rfl) (by as_aux_lemma => kernel_rfl) (by as_aux_lemma => kernel_rfl) (by rfl) ⟨c7, c8, c9⟩ ?_ ?_
                rotate_left
                · ((intro X hX; obtain ⟨k0, k1, k2⟩ := hX; go_simp) <;> with_reducible rfl)
                simp only [Act.put, List.setIfInBounds_toArray, List.set_cons_zero, List.set_cons_succ]
                as_aux_lemma =>
                  refine lexb_call 55 rfl (by as_aux_lemma => kernel_rfl) (by rfl) ?_ _ (sor TA.out TB.out (by have := NA.out; have := NB.out; omega)) ?_
                  · go_simp
                  rintro e w26 ⟨r15, rfl, t, u26⟩
                  replace HW := Lib.hid (HW.out.trans (u26.mono HW.out.size))
                  replace TA := Lib.hid (TA.out.below u26)
                  replace TB := Lib.hid (TB.out.below u26)
                  replace TC := Lib.hid (TC.out.below u26)
                  replace c7 := bcellAt u26 c7
                  replace c8 := bcellAt u26 c8
                  replace c9 := bcellAt u26 c9
                  have X15 := Lib.hid (t)
                  clear u26
                  clear t
                  have NX15 : Hid ((Tr.merge how1 (A) (B)).size ≤ 160) := Lib.hid (by have := Tr.size_merge how1 (A) (B); have := NA.out; have := NB.out; omega)
                  refine ⟨_, rfl, fun X => X.cell? ⟨E, 0, none⟩ = some (.pointer q1) ∧ X.cell? ⟨E + 1, 0, none⟩ = some (.pointer q2) ∧ X.cell? ⟨E + 2, 0, none⟩ = some (.pointer q3), fun X h => h, ⟨c7, c8, c9⟩, ?_⟩
                  simp only [Act.put, List.setIfInBounds_toArray, List.set_cons_zero, List.set_cons_succ]
                  refine lexb_call 56 rfl (by as_aux_lemma => kernel_rfl) (by rfl) ?_ _ (sand TA.out X15.out (by have := NA.out; have := NX15.out; omega)) ?_
                  · go_simp
                  rintro e w27 ⟨r16, rfl, t, u27⟩
                  replace HW := Lib.hid (HW.out.trans (u27.mono HW.out.size))
                  replace TA := Lib.hid (TA.out.below u27)
                  replace TB := Lib.hid (TB.out.below u27)
                  replace TC := Lib.hid (TC.out.below u27)
                  replace c7 := bcellAt u27 c7
                  replace c8 := bcellAt u27 c8
                  replace c9 := bcellAt u27 c9
                  replace X15 := Lib.hid (X15.out.below u27)
                  have X16 := Lib.hid (t)
                  clear u27
                  clear t
                  have NX16 : Hid ((Tr.common (A) (Tr.merge how1 (A) (B))).size ≤ 80) := Lib.hid (by have := Tr.size_common (A) (Tr.merge how1 (A) (B)); have := NA.out; have := NX15.out; omega)
                  refine ⟨_, rfl, fun X => X.cell? ⟨E, 0, none⟩ = some (.pointer q1) ∧ X.cell? ⟨E + 1, 0, none⟩ = some (.pointer q2) ∧ X.cell? ⟨E + 2, 0, none⟩ = some (.pointer q3), fun X h => h, ⟨c7, c8, c9⟩, ?_⟩
                  simp only [Act.put, List.setIfInBounds_toArray, List.set_cons_zero, List.set_cons_succ]
                  refine lexb_call 58 rfl (by as_aux_lemma => kernel_rfl) (by rfl) ?_ _ (lsame X16.out TA.out (alg6 KA.out KB.out) (by have := NX16.out; omega)) ?_
                  · go_simp
                  rintro e w28 ⟨rfl, u28⟩
                  replace HW := Lib.hid (HW.out.trans (u28.mono HW.out.size))
                  replace TA := Lib.hid (TA.out.below u28)
                  replace TB := Lib.hid (TB.out.below u28)
                  replace TC := Lib.hid (TC.out.below u28)
                  replace c7 := bcellAt u28 c7
                  replace c8 := bcellAt u28 c8
                  replace c9 := bcellAt u28 c9
                  replace X15 := Lib.hid (X15.out.below u28)
                  replace X16 := Lib.hid (X16.out.below u28)
                  clear u28
                  refine ⟨_, rfl, fun X => X.cell? ⟨E, 0, none⟩ = some (.pointer q1) ∧ X.cell? ⟨E + 1, 0, none⟩ = some (.pointer q2) ∧ X.cell? ⟨E + 2, 0, none⟩ = some (.pointer q3), fun X h => h, ⟨c7, c8, c9⟩, ?_⟩
                  simp only [Act.put, List.setIfInBounds_toArray, List.set_cons_zero, List.set_cons_succ]
                  clear X15 NX15
                  clear X16 NX16
                  refine lexb_take 59 (v := ?_) rfl (by as_aux_lemma => kernel_rfl) (by as_aux_lemma => kernel_rfl) (by as_aux_lemma => kernel_rfl) (by rfl) ⟨c7, c8, c9⟩ ?_ ?_
                  rotate_left
                  · ((intro X hX; obtain ⟨k0, k1, k2⟩ := hX; go_simp) <;> with_reducible rfl)
                  simp only [Act.put, List.setIfInBounds_toArray, List.set_cons_zero, List.set_cons_succ]
                  refine lexb_take 60 (v := ?_) rfl (by as_aux_lemma => kernel_rfl) (by as_aux_lemma => kernel_rfl) (by as_aux_lemma => kernel_rfl) (by rfl) ⟨c7, c8, c9⟩ ?_ ?_
                  rotate_left
                  · ((intro X hX; obtain ⟨k0, k1, k2⟩ := hX; go_simp) <;> with_reducible rfl)
                  simp only [Act.put, List.setIfInBounds_toArray, List.set_cons_zero, List.set_cons_succ]
                  refine lexb_take 61 (v := ?_) rfl (by as_aux_lemma => kernel_rfl) (by as_aux_lemma => kernel_rfl) (by as_aux_lemma => kernel_rfl) (by rfl) ⟨c7, c8, c9⟩ ?_ ?_
                  rotate_left
                  · ((intro X hX; obtain ⟨k0, k1, k2⟩ := hX; go_simp) <;> with_reducible rfl)
                  simp only [Act.put, List.setIfInBounds_toArray, List.set_cons_zero, List.set_cons_succ]
                  refine lexb_take 62 (v := ?_) rfl (by as_aux_lemma => kernel_rfl) (by as_aux_lemma => kernel_rfl) (by as_aux_lemma => kernel_rfl) (by rfl) ⟨c7, c8, c9⟩ ?_ ?_
                  rotate_left
                  · ((intro X hX; obtain ⟨k0, k1, k2⟩ := hX; go_simp) <;> with_reducible rfl)
                  simp only [Act.put, List.setIfInBounds_toArray, List.set_cons_zero, List.set_cons_succ]
                  refine lexb_take 64 (v := ?_) rfl (by as_aux_lemma => kernel_rfl) (by as_aux_lemma => kernel_rfl) (by as_aux_lemma => kernel_rfl) (by rfl) ⟨c7, c8, c9⟩ ?_ ?_
                  rotate_left
                  · ((intro X hX; obtain ⟨k0, k1, k2⟩ := hX; go_simp) <;> with_reducible rfl)
                  simp only [Act.put, List.setIfInBounds_toArray, List.set_cons_zero, List.set_cons_succ]
                  as_aux_lemma =>
                    refine lexb_take 65 (v := ?_) rfl (by as_aux_lemma => kernel_rfl) (by as_aux_lemma => kernel_rfl) (by as_aux_lemma => kernel_rfl) (by rfl) ⟨c7, c8, c9⟩ ?_ ?_
                    rotate_left
                    · ((intro X hX; obtain ⟨k0, k1, k2⟩ := hX; go_simp) <;> with_reducible rfl)
                    simp only [Act.put, List.setIfInBounds_toArray, List.set_cons_zero, List.set_cons_succ]
                    refine lexb_take 68 (v := ?_) rfl (by as_aux_lemma => kernel_rfl) (by as_aux_lemma => kernel_rfl) (by as_aux_lemma => kernel_rfl) (by rfl) ⟨c7, c8, c9⟩ ?_ ?_
                    rotate_left
                    · ((intro X hX; obtain ⟨k0, k1, k2⟩ := hX; go_simp) <;> with_reducible rfl)
                    simp only [Act.put, List.setIfInBounds_toArray, List.set_cons_zero, List.set_cons_succ]
                    refine lexb_call 63 rfl (by as_aux_lemma => kernel_rfl) (by rfl) ?_ _ (sminus TA.out TB.out (by have := NA.out; have := NB.out; omega)) ?_
                    · go_simp
                    rintro e w29 ⟨r17, rfl, t, u29⟩
                    replace HW := Lib.hid (HW.out.trans (u29.mono HW.out.size))
                    replace TA := Lib.hid (TA.out.below u29)
                    replace TB := Lib.hid (TB.out.below u29)
                    replace TC := Lib.hid (TC.out.below u29)
                    replace c7 := bcellAt u29 c7
                    replace c8 := bcellAt u29 c8
                    replace c9 := bcellAt u29 c9
                    have X17 := Lib.hid (t)
                    clear u29
                    clear t
                    have NX17 : Hid ((Tr.minus (A) (B)).size ≤ 80) := Lib.hid (by have := Tr.size_minus (A) (B); have := NA.out; have := NB.out; omega)
                    refine ⟨_, rfl, fun X => X.cell? ⟨E, 0, none⟩ = some (.pointer q1) ∧ X.cell? ⟨E + 1, 0, none⟩ = some (.pointer q2) ∧ X.cell? ⟨E + 2, 0, none⟩ = some (.pointer q3), fun X h => h, ⟨c7, c8, c9⟩, ?_⟩
                    simp only [Act.put, List.setIfInBounds_toArray, List.set_cons_zero, List.set_cons_succ]
                    refine lexb_call 66 rfl (by as_aux_lemma => kernel_rfl) (by rfl) ?_ _ (sand TA.out TB.out (by have := NA.out; have := NB.out; omega)) ?_
                    · go_simp
                    rintro e w30 ⟨r18, rfl, t, u30⟩
                    replace HW := Lib.hid (HW.out.trans (u30.mono HW.out.size))
                    replace TA := Lib.hid (TA.out.below u30)
                    replace TB := Lib.hid (TB.out.below u30)
                    replace TC := Lib.hid (TC.out.below u30)
                    replace c7 := bcellAt u30 c7
                    replace c8 := bcellAt u30 c8
                    replace c9 := bcellAt u30 c9
                    replace X17 := Lib.hid (X17.out.below u30)
                    have X18 := Lib.hid (t)
                    clear u30
                    clear t
                    have NX18 : Hid ((Tr.common (A) (B)).size ≤ 80) := Lib.hid (by have := Tr.size_common (A) (B); have := NA.out; have := NB.out; omega)
                    refine ⟨_, rfl, fun X => X.cell? ⟨E, 0, none⟩ = some (.pointer q1) ∧ X.cell? ⟨E + 1, 0, none⟩ = some (.pointer q2) ∧ X.cell? ⟨E + 2, 0, none⟩ = some (.pointer q3), fun X h => h, ⟨c7, c8, c9⟩, ?_⟩
                    simp only [Act.put, List.setIfInBounds_toArray, List.set_cons_zero, List.set_cons_succ]
                    refine lexb_call 67 rfl (by as_aux_lemma => kernel_rfl) (by rfl) ?_ _ (sor X17.out X18.out (by have := NX17.out; have := NX18.out; omega)) ?_
                    · go_simp
                    rintro e w31 ⟨r19, rfl, t, u31⟩
                    replace HW := Lib.hid (HW.out.trans (u31.mono HW.out.size))
                    replace TA := Lib.hid (TA.out.below u31)
                    replace TB := Lib.hid (TB.out.below u31)
                    replace TC := Lib.hid (TC.out.below u31)
                    replace c7 := bcellAt u31 c7
                    replace c8 := bcellAt u31 c8
                    replace c9 := bcellAt u31 c9
                    replace X17 := Lib.hid (X17.out.below u31)
                    replace X18 := Lib.hid (X18.out.below u31)
                    have X19 := Lib.hid (t)
                    clear u31
                    clear t
                    have NX19 : Hid ((Tr.merge how1 (Tr.minus (A) (B)) (Tr.common (A) (B))).size ≤ 160) := Lib.hid (by have := Tr.size_merge how1 (Tr.minus (A) (B)) (Tr.common (A) (B)); have := NX17.out; have := NX18.out; omega)
                    refine ⟨_, rfl, fun X => X.cell? ⟨E, 0, none⟩ = some (.pointer q1) ∧ X.cell? ⟨E + 1, 0, none⟩ = some (.pointer q2) ∧ X.cell? ⟨E + 2, 0, none⟩ = some (.pointer q3), fun X h => h, ⟨c7, c8, c9⟩, ?_⟩
                    simp only [Act.put, List.setIfInBounds_toArray, List.set_cons_zero, List.set_cons_succ]
                    refine lexb_call 69 rfl (by as_aux_lemma => kernel_rfl) (by rfl) ?_ _ (lsame X19.out TA.out (alg7 KA.out KB.out) (by have := NX19.out; omega)) ?_
                    · go_simp
                    rintro e w32 ⟨rfl, u32⟩
                    replace HW := Lib.hid (HW.out.trans (u32.mono HW.out.size))
                    replace TA := Lib.hid (TA.out.below u32)
                    replace TB := Lib.hid (TB.out.below u32)
                    replace TC := Lib.hid (TC.out.below u32)
                    replace c7 := bcellAt u32 c7
                    replace c8 := bcellAt u32 c8
                    replace c9 := bcellAt u32 c9
                    replace X17 := Lib.hid (X17.out.below u32)
                    replace X18 := Lib.hid (X18.out.below u32)
                    replace X19 := Lib.hid (X19.out.below u32)
                    clear u32
                    refine ⟨_, rfl, fun X => X.cell? ⟨E, 0, none⟩ = some (.pointer q1) ∧ X.cell? ⟨E + 1, 0, none⟩ = some (.pointer q2) ∧ X.cell? ⟨E + 2, 0, none⟩ = some (.pointer q3), fun X h => h, ⟨c7, c8, c9⟩, ?_⟩
                    simp only [Act.put, List.setIfInBounds_toArray, List.set_cons_zero, List.set_cons_succ]
                    clear X17 NX17
                    clear X18 NX18
                    clear X19 NX19
                    refine lexb_take 70 (v := ?_) rfl (by as_aux_lemma => kernel_rfl) (by as_aux_lemma => kernel_rfl) (by as_aux_lemma => kernel_rfl) (by rfl) ⟨c7, c8, c9⟩ ?_ ?_
                    rotate_left
                    · ((intro X hX; obtain ⟨k0, k1, k2⟩ := hX; go_simp) <;> with_reducible rfl)
                    simp only [Act.put, List.setIfInBounds_toArray, List.set_cons_zero, List.set_cons_succ]
                    refine lexb_take 71 (v := ?_) rfl (by as_aux_lemma => kernel_rfl) (by as_aux_lemma => kernel_rfl) (by as_aux_lemma => kernel_rfl) (by rfl) ⟨c7, c8, c9⟩ ?_ ?_
                    rotate_left
                    · ((intro X hX; obtain ⟨k0, k1, k2⟩ := hX; go_simp) <;> with_reducible rfl)
                    simp only [Act.put, List.setIfInBounds_toArray, List.set_cons_zero, List.set_cons_succ]
                    as_aux_lemma =>
                      refine lexb_take 72 (v := ?_) rfl (by as_aux_lemma => kernel_rfl) (by as_aux_lemma => kernel_rfl) (by as_aux_lemma => kernel_rfl) (by rfl) ⟨c7, c8, c9⟩ ?_ ?_
                      rotate_left
                      · ((intro X hX; obtain ⟨k0, k1, k2⟩ := hX; go_simp) <;> with_reducible rfl)
                      simp only [Act.put, List.setIfInBounds_toArray, List.set_cons_zero, List.set_cons_succ]
                      refine lexb_take 73 (v := ?_) rfl (by as_aux_lemma => kernel_rfl) (by as_aux_lemma => kernel_rfl) (by as_aux_lemma => kernel_rfl) (by rfl) ⟨c7, c8, c9⟩ ?_ ?_
                      rotate_left
                      · ((intro X hX; obtain ⟨k0, k1, k2⟩ := hX; go_simp) <;> with_reducible rfl)
                      simp only [Act.put, List.setIfInBounds_toArray, List.set_cons_zero, List.set_cons_succ]
                      refine lexb_take 75 (v := ?_) rfl (by as_aux_lemma => kernel_rfl) (by as_aux_lemma => kernel_rfl) (by as_aux_lemma => kernel_rfl) (by rfl) ⟨c7, c8, c9⟩ ?_ ?_
                      rotate_left
                      · ((intro X hX; obtain ⟨k0, k1, k2⟩ := hX; go_simp) <;> with_reducible rfl)
                      simp only [Act.put, List.setIfInBounds_toArray, List.set_cons_zero, List.set_cons_succ]
                      refine lexb_take 76 (v := ?_) rfl (by as_aux_lemma => kernel_rfl) (by as_aux_lemma => kernel_rfl) (by as_aux_lemma => kernel_rfl) (by rfl) ⟨c7, c8, c9⟩ ?_ ?_
                      rotate_left
                      · ((intro X hX; obtain ⟨k0, k1, k2⟩ := hX; go_simp) <;> with_reducible rfl)
                      simp only [Act.put, List.setIfInBounds_toArray, List.set_cons_zero, List.set_cons_succ]
                      refine lexb_call 74 rfl (by as_aux_lemma => kernel_rfl) (by rfl) ?_ _ (sminus TA.out TB.out (by have := NA.out; have := NB.out; omega)) ?_
                      · go_simp
                      rintro e w33 ⟨r20, rfl, t, u33⟩
                      replace HW := Lib.hid (HW.out.trans (u33.mono HW.out.size))
                      replace TA := Lib.hid (TA.out.below u33)
                      replace TB := Lib.hid (TB.out.below u33)
                      replace TC := Lib.hid (TC.out.below u33)
                      replace c7 := bcellAt u33 c7
                      replace c8 := bcellAt u33 c8
                      replace c9 := bcellAt u33 c9
                      have X20 := Lib.hid (t)
                      clear u33
                      clear t
                      have NX20 : Hid ((Tr.minus (A) (B)).size ≤ 80) := Lib.hid (by have := Tr.size_minus (A) (B); have := NA.out; have := NB.out; omega)
                      refine ⟨_, rfl, fun X => X.cell? ⟨E, 0, none⟩ = some (.pointer q1) ∧ X.cell? ⟨E + 1, 0, none⟩ = some (.pointer q2) ∧ X.cell? ⟨E + 2, 0, none⟩ = some (.pointer q3), fun X h => h, ⟨c7, c8, c9⟩, ?_⟩
                      simp only [Act.put, List.setIfInBounds_toArray, List.set_cons_zero, List.set_cons_succ]
                      refine lexb_call 77 rfl (by as_aux_lemma => kernel_rfl) (by rfl) ?_ _ (sand TA.out TB.out (by have := NA.out; have := NB.out; omega)) ?_
                      · go_simp
                      rintro e w34 ⟨r21, rfl, t, u34⟩
                      replace HW := Lib.hid (HW.out.trans (u34.mono HW.out.size))
                      replace TA := Lib.hid (TA.out.below u34)
                      replace TB := Lib.hid (TB.out.below u34)
                      replace TC := Lib.hid (TC.out.below u34)
                      replace c7 := bcellAt u34 c7
                      replace c8 := bcellAt u34 c8
                      replace c9 := bcellAt u34 c9
                      replace X20 := Lib.hid (X20.out.below u34)
                      have X21 := Lib.hid (t)
                      clear u34
                      clear t
                      have NX21 : Hid ((Tr.common (A) (B)).size ≤ 80) := Lib.hid (by have := Tr.size_common (A) (B); have := NA.out; have := NB.out; omega)
                      refine ⟨_, rfl, fun X => X.cell? ⟨E, 0, none⟩ = some (.pointer q1) ∧ X.cell? ⟨E + 1, 0, none⟩ = some (.pointer q2) ∧ X.cell? ⟨E + 2, 0, none⟩ = some (.pointer q3), fun X h => h, ⟨c7, c8, c9⟩, ?_⟩
                      simp only [Act.put, List.setIfInBounds_toArray, List.set_cons_zero, List.set_cons_succ]
                      refine lexb_call 78 rfl (by as_aux_lemma => kernel_rfl) (by rfl) ?_ _ (sand X20.out X21.out (by have := NX20.out; have := NX21.out; omega)) ?_
                      · go_simp
                      rintro e w35 ⟨r22, rfl, t, u35⟩
                      replace HW := Lib.hid (HW.out.trans (u35.mono HW.out.size))
                      replace TA := Lib.hid (TA.out.below u35)
                      replace TB := Lib.hid (TB.out.below u35)
                      replace TC := Lib.hid (TC.out.below u35)
                      replace c7 := bcellAt u35 c7
                      replace c8 := bcellAt u35 c8
                      replace c9 := bcellAt u35 c9
                      replace X20 := Lib.hid (X20.out.below u35)
                      replace X21 := Lib.hid (X21.out.below u35)
                      have X22 := Lib.hid (t)
                      clear u35
                      clear t
                      have NX22 : Hid ((Tr.common (Tr.minus (A) (B)) (Tr.common (A) (B))).size ≤ 80) := Lib.hid (by have := Tr.size_common (Tr.minus (A) (B)) (Tr.common (A) (B)); have := NX20.out; have := NX21.out; omega)
                      refine ⟨_, rfl, fun X => X.cell? ⟨E, 0, none⟩ = some (.pointer q1) ∧ X.cell? ⟨E + 1, 0, none⟩ = some (.pointer q2) ∧ X.cell? ⟨E + 2, 0, none⟩ = some (.pointer q3), fun X h => h, ⟨c7, c8, c9⟩, ?_⟩
                      simp only [Act.put, List.setIfInBounds_toArray, List.set_cons_zero, List.set_cons_succ]
                      refine lexb_call 79 rfl (by as_aux_lemma => kernel_rfl) (by rfl) ?_ _ (slen X22.out) ?_
                      · go_simp
                      rintro e w36 ⟨rfl, u36⟩
                      replace HW := Lib.hid (HW.out.trans (u36.mono HW.out.size))
                      replace TA := Lib.hid (TA.out.below u36)
                      replace TB := Lib.hid (TB.out.below u36)
                      replace TC := Lib.hid (TC.out.below u36)
                      replace c7 := bcellAt u36 c7
                      replace c8 := bcellAt u36 c8
                      replace c9 := bcellAt u36 c9
                      replace X20 := Lib.hid (X20.out.below u36)
                      replace X21 := Lib.hid (X21.out.below u36)
                      replace X22 := Lib.hid (X22.out.below u36)
                      clear u36
                      rw [alg8 KA.out KB.out]
                      refine ⟨_, rfl, fun X => X.cell? ⟨E, 0, none⟩ = some (.pointer q1) ∧ X.cell? ⟨E + 1, 0, none⟩ = some (.pointer q2) ∧ X.cell? ⟨E + 2, 0, none⟩ = some (.pointer q3), fun X h => h, ⟨c7, c8, c9⟩, ?_⟩
                      simp only [Act.put, List.setIfInBounds_toArray, List.set_cons_zero, List.set_cons_succ]
                      clear X20 NX20
                      clear X21 NX21
                      clear X22 NX22
                      as_aux_lemma =>
                        refine lexb_take 80 (v := ?_) rfl (by as_aux_lemma => kernel_rfl) (by as_aux_lemma => kernel_rfl) (by as_aux_lemma => kernel_rfl) (by rfl) ⟨c7, c8, c9⟩ ?_ ?_
                        rotate_left
                        · ((intro X hX; obtain ⟨k0, k1, k2⟩ := hX; go_simp) <;> with_reducible rfl)
                        simp only [Act.put, List.setIfInBounds_toArray, List.set_cons_zero, List.set_cons_succ]
                        refine lexb_take 81 (v := ?_) rfl (by as_aux_lemma => kernel_rfl) (by as_aux_lemma => kernel_rfl) (by as_aux_lemma => kernel_rfl) (by rfl) ⟨c7, c8, c9⟩ ?_ ?_
                        rotate_left
                        · ((intro X hX; obtain ⟨k0, k1, k2⟩ := hX; go_simp) <;> with_reducible rfl)
                        simp only [Act.put, List.setIfInBounds_toArray, List.set_cons_zero, List.set_cons_succ]
                        refine lexb_take 82 (v := ?_) rfl (by as_aux_lemma => kernel_rfl) (by as_aux_lemma => kernel_rfl) (by as_aux_lemma => kernel_rfl) (by rfl) ⟨c7, c8, c9⟩ ?_ ?_
                        rotate_left
                        · ((intro X hX; obtain ⟨k0, k1, k2⟩ := hX; go_simp) <;> with_reducible rfl)
                        simp only [Act.put, List.setIfInBounds_toArray, List.set_cons_zero, List.set_cons_succ]
                        refine lexb_take 83 (v := ?_) rfl (by as_aux_lemma => kernel_rfl) (by as_aux_lemma => kernel_rfl) (by as_aux_lemma => kernel_rfl) (by rfl) ⟨c7, c8, c9⟩ ?_ ?_
                        rotate_left
                        · ((intro X hX; obtain ⟨k0, k1, k2⟩ := hX; go_simp) <;> with_reducible rfl)
                        simp only [Act.put, List.setIfInBounds_toArray, List.set_cons_zero, List.set_cons_succ]
                        refine lexb_take 84 (v := ?_) rfl (by as_aux_lemma => kernel_rfl) (by as_aux_lemma => kernel_rfl) (by as_aux_lemma => kernel_rfl) (by rfl) ⟨c7, c8, c9⟩ ?_ ?_
                        rotate_left
                        · ((intro X hX; obtain ⟨k0, k1, k2⟩ := hX; go_simp) <;> with_reducible rfl)
                        simp only [Act.put, List.setIfInBounds_toArray, List.set_cons_zero, List.set_cons_succ]
                        refine lexb_take 86 (v := ?_) rfl (by as_aux_lemma => kernel_rfl) (by as_aux_lemma => kernel_rfl) (by as_aux_lemma => kernel_rfl) (by rfl) ⟨c7, c8, c9⟩ ?_ ?_
                        rotate_left
                        · ((intro X hX; obtain ⟨k0, k1, k2⟩ := hX; go_simp) <;> with_reducible rfl)
                        simp only [Act.put, List.setIfInBounds_toArray, List.set_cons_zero, List.set_cons_succ]
                        refine lexb_call 85 rfl (by as_aux_lemma => kernel_rfl) (by rfl) ?_ _ (sand TA.out TB.out (by have := NA.out; have := NB.out; omega)) ?_
                        · go_simp
                        rintro e w37 ⟨r23, rfl, t, u37⟩
                        replace HW := Lib.hid (HW.out.trans (u37.mono HW.out.size))
                        replace TA := Lib.hid (TA.out.below u37)
                        replace TB := Lib.hid (TB.out.below u37)
                        replace TC := Lib.hid (TC.out.below u37)
                        replace c7 := bcellAt u37 c7
                        replace c8 := bcellAt u37 c8
                        replace c9 := bcellAt u37 c9
                        have X23 := Lib.hid (t)
                        clear u37
                        clear t
                        have NX23 : Hid ((Tr.common (A) (B)).size ≤ 80) := Lib.hid (by have := Tr.size_common (A) (B); have := NA.out; have := NB.out; omega)
                        refine ⟨_, rfl, fun X => X.cell? ⟨E, 0, none⟩ = some (.pointer q1) ∧ X.cell? ⟨E + 1, 0, none⟩ = some (.pointer q2) ∧ X.cell? ⟨E + 2, 0, none⟩ = some (.pointer q3), fun X h => h, ⟨c7, c8, c9⟩, ?_⟩
                        simp only [Act.put, List.setIfInBounds_toArray, List.set_cons_zero, List.set_cons_succ]
                        refine lexb_call 87 rfl (by as_aux_lemma => kernel_rfl) (by rfl) ?_ _ (callsIn_wide.1 (swithin X23.out TA.out)) ?_
                        · go_simp
                        rintro e w38 ⟨rfl, u38⟩
                        replace HW := Lib.hid (HW.out.trans (u38.mono HW.out.size))
                        replace TA := Lib.hid (TA.out.below u38)
                        replace TB := Lib.hid (TB.out.below u38)
                        replace TC := Lib.hid (TC.out.below u38)
                        replace c7 := bcellAt u38 c7
                        replace c8 := bcellAt u38 c8
                        replace c9 := bcellAt u38 c9
                        replace X23 := Lib.hid (X23.out.below u38)
                        clear u38
                        rw [alg9 KA.out KB.out]
                        refine ⟨_, rfl, fun X => X.cell? ⟨E, 0, none⟩ = some (.pointer q1) ∧ X.cell? ⟨E + 1, 0, none⟩ = some (.pointer q2) ∧ X.cell? ⟨E + 2, 0, none⟩ = some (.pointer q3), fun X h => h, ⟨c7, c8, c9⟩, ?_⟩
                        simp only [Act.put, List.setIfInBounds_toArray, List.set_cons_zero, List.set_cons_succ]
                        clear X23 NX23
                        as_aux_lemma =>
                          refine lexb_take 88 (v := ?_) rfl (by as_aux_lemma => kernel_rfl) (by as_aux_lemma => kernel_rfl) (by as_aux_lemma => kernel_rfl) (by rfl) ⟨c7, c8, c9⟩ ?_ ?_
                          rotate_left
                          · ((intro X hX; obtain ⟨k0, k1, k2⟩ := hX; go_simp) <;> with_reducible rfl)
                          simp only [Act.put, List.setIfInBounds_toArray, List.set_cons_zero, List.set_cons_succ]
                          refine lexb_take 89 (v := ?_) rfl (by as_aux_lemma => kernel_rfl) (by as_aux_lemma => kernel_rfl) (by as_aux_lemma => kernel_rfl) (by rfl) ⟨c7, c8, c9⟩ ?_ ?_
                          rotate_left
                          · ((intro X hX; obtain ⟨k0, k1, k2⟩ := hX; go_simp) <;> with_reducible rfl)
                          simp only [Act.put, List.setIfInBounds_toArray, List.set_cons_zero, List.set_cons_succ]
                          refine lexb_take 90 (v := ?_) rfl (by as_aux_lemma => kernel_rfl) (by as_aux_lemma => kernel_rfl) (by as_aux_lemma => kernel_rfl) (by rfl) ⟨c7, c8, c9⟩ ?_ ?_
                          rotate_left
                          · ((intro X hX; obtain ⟨k0, k1, k2⟩ := hX; go_simp) <;> with_reducible rfl)
                          simp only [Act.put, List.setIfInBounds_toArray, List.set_cons_zero, List.set_cons_succ]
                          refine lexb_take 91 (v := ?_) rfl (by as_aux_lemma => kernel_rfl) (by as_aux_lemma => kernel_rfl) (by as_aux_lemma => kernel_rfl) (by rfl) ⟨c7, c8, c9⟩ ?_ ?_
                          rotate_left
                          · ((intro X hX; obtain ⟨k0, k1, k2⟩ := hX; go_simp) <;> with_reducible rfl)
                          simp only [Act.put, List.setIfInBounds_toArray, List.set_cons_zero, List.set_cons_succ]
                          refine lexb_take 92 (v := ?_) rfl (by as_aux_lemma => kernel_rfl) (by as_aux_lemma => kernel_rfl) (by as_aux_lemma => kernel_rfl) (by rfl) ⟨c7, c8, c9⟩ ?_ ?_
                          rotate_left
                          · ((intro X hX; obtain ⟨k0, k1, k2⟩ := hX; go_simp) <;> with_reducible rfl)
                          simp only [Act.put, List.setIfInBounds_toArray, List.set_cons_zero, List.set_cons_succ]
                          refine lexb_call 93 rfl (by as_aux_lemma => kernel_rfl) (by rfl) ?_ _ (sor TA.out TB.out (by have := NA.out; have := NB.out; omega)) ?_
                          · go_simp
                          rintro e w39 ⟨r24, rfl, t, u39⟩
                          replace HW := Lib.hid (HW.out.trans (u39.mono HW.out.size))
                          replace TA := Lib.hid (TA.out.below u39)
                          replace TB := Lib.hid (TB.out.below u39)
                          replace TC := Lib.hid (TC.out.below u39)
                          replace c7 := bcellAt u39 c7
                          replace c8 := bcellAt u39 c8
                          replace c9 := bcellAt u39 c9
                          have X24 := Lib.hid (t)
                          clear u39
                          clear t
                          have NX24 : Hid ((Tr.merge how1 (A) (B)).size ≤ 160) := Lib.hid (by have := Tr.size_merge how1 (A) (B); have := NA.out; have := NB.out; omega)
                          refine ⟨_, rfl, fun X => X.cell? ⟨E, 0, none⟩ = some (.pointer q1) ∧ X.cell? ⟨E + 1, 0, none⟩ = some (.pointer q2) ∧ X.cell? ⟨E + 2, 0, none⟩ = some (.pointer q3), fun X h => h, ⟨c7, c8, c9⟩, ?_⟩
                          simp only [Act.put, List.setIfInBounds_toArray, List.set_cons_zero, List.set_cons_succ]
                          refine lexb_call 94 rfl (by as_aux_lemma => kernel_rfl) (by rfl) ?_ _ (callsIn_wide.1 (swithin TA.out X24.out)) ?_
                          · go_simp
                          rintro e w40 ⟨rfl, u40⟩
                          replace HW := Lib.hid (HW.out.trans (u40.mono HW.out.size))
                          replace TA := Lib.hid (TA.out.below u40)
                          replace TB := Lib.hid (TB.out.below u40)
                          replace TC := Lib.hid (TC.out.below u40)
                          replace c7 := bcellAt u40 c7
                          replace c8 := bcellAt u40 c8
                          replace c9 := bcellAt u40 c9
                          replace X24 := Lib.hid (X24.out.below u40)
                          clear u40
                          rw [alg10 KA.out KB.out]
                          refine ⟨_, rfl, fun X => X.cell? ⟨E, 0, none⟩ = some (.pointer q1) ∧ X.cell? ⟨E + 1, 0, none⟩ = some (.pointer q2) ∧ X.cell? ⟨E + 2, 0, none⟩ = some (.pointer q3), fun X h => h, ⟨c7, c8, c9⟩, ?_⟩
                          simp only [Act.put, List.setIfInBounds_toArray, List.set_cons_zero, List.set_cons_succ]
                          clear X24 NX24
                          refine lexb_take 95 (v := ?_) rfl (by as_aux_lemma => kernel_rfl) (by as_aux_lemma => kernel_rfl) (by as_aux_lemma => kernel_rfl) (by rfl) ⟨c7, c8, c9⟩ ?_ ?_
                          rotate_left
                          · ((intro X hX; obtain ⟨k0, k1, k2⟩ := hX; go_simp) <;> with_reducible rfl)
                          simp only [Act.put, List.setIfInBounds_toArray, List.set_cons_zero, List.set_cons_succ]
                          as_aux_lemma =>
                            refine lexb_take 96 (v := ?_) rfl (by as_aux_lemma => kernel_rfl) (by as_aux_lemma => kernel_rfl) (by as_aux_lemma => kernel_rfl) (by rfl) ⟨c7, c8, c9⟩ ?_ ?_
                            rotate_left
                            · ((intro X hX; obtain ⟨k0, k1, k2⟩ := hX; go_simp) <;> with_reducible rfl)
                            simp only [Act.put, List.setIfInBounds_toArray, List.set_cons_zero, List.set_cons_succ]
                            refine lexb_call 97 rfl (by as_aux_lemma => kernel_rfl) (by rfl) ?_ _ (live_any _) ?_
                            · go_simp
                            rintro e w41 ⟨rfl, u41⟩
                            replace HW := Lib.hid (HW.out.trans (u41.mono HW.out.size))
                            replace TA := Lib.hid (TA.out.below u41)
                            replace TB := Lib.hid (TB.out.below u41)
                            replace TC := Lib.hid (TC.out.below u41)
                            replace c7 := bcellAt u41 c7
                            replace c8 := bcellAt u41 c8
                            replace c9 := bcellAt u41 c9
                            clear u41
                            refine ⟨_, rfl, fun X => X.cell? ⟨E, 0, none⟩ = some (.pointer q1) ∧ X.cell? ⟨E + 1, 0, none⟩ = some (.pointer q2) ∧ X.cell? ⟨E + 2, 0, none⟩ = some (.pointer q3), fun X h => h, ⟨c7, c8, c9⟩, ?_⟩
                            simp only [Act.put, List.setIfInBounds_toArray, List.set_cons_zero, List.set_cons_succ]
                            refine lexb_take 98 (v := ?_) rfl (by as_aux_lemma => kernel_rfl) (by as_aux_lemma => kernel_rfl) (by as_aux_lemma => kernel_rfl) (by rfl) ⟨c7, c8, c9⟩ ?_ ?_
                            rotate_left
                            · ((intro X hX; obtain ⟨k0, k1, k2⟩ := hX; go_simp) <;> with_reducible rfl)
                            simp only [Act.put, List.setIfInBounds_toArray, List.set_cons_zero, List.set_cons_succ]
                            refine lexb_do 99 rfl (by as_aux_lemma => kernel_rfl) (by rfl) (fun K hK => ?_)
                            go_simp
                            refine hK _ _ ⟨⟨c7, c8, c9⟩, ?_⟩
                            clear hK K
                            refine lex_done (by kernel_rfl) ?_
                            go_wp2_with fail
                            go_returns
                            exact ⟨rfl, HW.out⟩

end Go.Proofs.Ytkobiimkaimbaaa
