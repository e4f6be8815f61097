/-
  Check and Build in memory.
-/
import Derived.Test.YtjmcaceegfdkkaaGreatDoorQcLBuild
import Derived.Test.YtjmcaceegfdkkaaGreatDoorQcFCpm
namespace Go.Proofs.YtjmcaceegfdkkaaGreatDoor
open Go.RowKit Go.Maps
set_option linter.unusedVariables false
set_option maxRecDepth 100000 in
set_option maxHeartbeats 12800000 in
theorem check_any {w : World} (hl : LaidK w) (l : Lt) : Calls Tryz.prog 113 #[.agg (ltA l)] w fun e w' => e = .returned (.int .i64 (chkP l)) ∧ Below w.heap.size w w' := by
 obtain ⟨lk, lf, lc, ls, lx⟩ := l
 have HLK := Lib.hid hl
 clear hl
 obtain ⟨rr, hrr⟩ : ∃ rr, rr = chkP ⟨lk, lf, lc, ls, lx⟩ := ⟨_, rfl⟩
 rw [← hrr]
 unfold chkP at hrr
 simp only at hrr
 have HR := Lib.hid hrr
 clear hrr
 simp only [ltA]
 have b1 := bZ w (.cells #[.int .i64 lk, .int .i64 lf, .int .u64 lc, .string ls, .bool lx] LtT)
 have h1 := heap_alloc_new w (.cells #[.int .i64 lk, .int .i64 lf, .int .u64 lc, .string ls, .bool lx] LtT)
 have HB1 := Lib.hid b1
 have HH1 := Lib.hid h1
 clear b1 h1
 have l0 := cellB (j := 0) HH1.out rfl
 by_cases hk1 : lk < 1
 ·have HR2 := Lib.hid (HR.out.trans (if_pos (.inl hk1)))
  clear HR
  go_enter Tryz.func113, Tryz.ntmps113
  go_wp2_with fail
  go_returns
  exact ⟨by rw [HR2.out]; rfl, HB1.out⟩
 by_cases hk7 : 7 < lk
 ·have HR2 := Lib.hid (HR.out.trans (if_pos (.inr hk7)))
  have hk8 : 8 ≤ lk := by omega
  clear HR hk7
  go_enter Tryz.func113, Tryz.ntmps113
  go_wp2_with fail
  go_returns
  exact ⟨by rw [HR2.out]; rfl, HB1.out⟩
 obtain ⟨K, rfl⟩ : ∃ K : Nat, lk = (K : Int) := ⟨lk.toNat, by omega⟩
 have hK : K < 8 := by omega
 have HR1 := Lib.hid (HR.out.trans (if_neg (by omega)))
 clear HR
 have hK0 : (0 : Int) ≤ (K : Int) := by omega
 have hK1 : (K : Int) < 8 := by omega
 obtain ⟨y0, y1, y2, y3, y4, y5, y6⟩ := (HLK.out.below HB1.out).at hK
 have l1 := cellB (j := 1) HH1.out rfl
 have l3 := cellB (j := 3) HH1.out rfl
 have l4 := cellB (j := 4) HH1.out rfl
 have hkl : ¬ (K : Int) < 1 := hk1
 clear hk1 hk7
 have HK := Lib.hid hK
 clear hK
 generalize fromB (K : Int) = fb at *
 generalize textB (K : Int) = tb at *
 generalize fakeB (K : Int) = xb at *
 generalize kdW K = kw at *
 generalize kdD K = kd at *
 generalize kdBy K = kb at *
 generalize kdTo K = kt at *
 generalize hw1 : (w.alloc (.cells #[.int .i64 (K : Int), .int .i64 lf, .int .u64 lc, .string ls, .bool lx] LtT)) = w1 at *
 have b2 := bZ w1 (.cells #[.string kw, .string kd, .int .i64 kb, .int .i64 kt, .bool fb, .bool tb, .bool xb] KdT)
 have h2 := heap_alloc_new w1 (.cells #[.string kw, .string kd, .int .i64 kb, .int .i64 kt, .bool fb, .bool tb, .bool xb] KdT)
 have HB2 := Lib.hid (bmore HB1.out b2)
 have r4 := cellB (j := 4) h2 rfl
 have r5 := cellB (j := 5) h2 rfl
 have r6 := cellB (j := 6) h2 rfl
 have m1 := bcellAt b2 l1
 have m3 := bcellAt b2 l3
 have m4 := bcellAt b2 l4
 clear h2 b2
 by_cases hf0 : lf = 0
 case pos =>
  have f0 : (lf != 0) = false := by rw [hf0]; rfl
  have HF0 := Lib.hid hf0
  clear hf0
  by_cases ht : ls = emptyS
  case pos =>
   have htb : (ls.toList == []) = true := lit_yes ht (litL _)
   have htc : ls.toList.isEmpty = true := by rw [ht]; exact emptyL
   have HT := Lib.hid ht
   clear ht
   cases lx with
   | false =>
    by_cases hl : 64 < ls.size
    case pos =>
     have hlb : decide ((64 : Int) < (ls.size : Int)) = true := decide_eq_true (by omega)
     have HLL := Lib.hid hl
     clear hl
     go_enter Tryz.func113, Tryz.ntmps113
     go_upto_region 1 with fail
     (try rw [hw1])
     go_wp2_with fail
     go_returns
     exact ⟨by rw [HR1.out]; rw [if_neg (fun h => h.1 HF0.out), if_neg (fun h => h.1 HT.out), if_neg (fun h => by cases h.1), if_pos HLL.out]; rfl, HB2.out⟩
    have hlb : decide ((64 : Int) < (ls.size : Int)) = false := decide_eq_false (by omega)
    have HLL := Lib.hid hl
    clear hl
    go_enter Tryz.func113, Tryz.ntmps113
    go_upto_region 1 with fail
    (try rw [hw1])
    go_wp2_with fail
    go_returns
    exact ⟨by rw [HR1.out]; rw [if_neg (fun h => h.1 HF0.out), if_neg (fun h => h.1 HT.out), if_neg (fun h => by cases h.1), if_neg HLL.out]; rfl, HB2.out⟩
   | true =>
    cases xb with
    | false =>
     go_enter Tryz.func113, Tryz.ntmps113
     go_upto_region 1 with fail
     (try rw [hw1])
     go_wp2_with fail
     go_returns
     exact ⟨by rw [HR1.out]; rw [if_neg (fun h => h.1 HF0.out), if_neg (fun h => h.1 HT.out), if_pos ⟨by trivial, by trivial⟩]; rfl, HB2.out⟩
    | true =>
     by_cases hl : 64 < ls.size
     case pos =>
      have hlb : decide ((64 : Int) < (ls.size : Int)) = true := decide_eq_true (by omega)
      have HLL := Lib.hid hl
      clear hl
      go_enter Tryz.func113, Tryz.ntmps113
      go_upto_region 1 with fail
      (try rw [hw1])
      go_wp2_with fail
      go_returns
      exact ⟨by rw [HR1.out]; rw [if_neg (fun h => h.1 HF0.out), if_neg (fun h => h.1 HT.out), if_neg (fun h => by cases h.2), if_pos HLL.out]; rfl, HB2.out⟩
     have hlb : decide ((64 : Int) < (ls.size : Int)) = false := decide_eq_false (by omega)
     have HLL := Lib.hid hl
     clear hl
     go_enter Tryz.func113, Tryz.ntmps113
     go_upto_region 1 with fail
     (try rw [hw1])
     go_wp2_with fail
     go_returns
     exact ⟨by rw [HR1.out]; rw [if_neg (fun h => h.1 HF0.out), if_neg (fun h => h.1 HT.out), if_neg (fun h => by cases h.2), if_neg HLL.out]; rfl, HB2.out⟩
  have htb : (ls.toList == []) = false := lit_no ht (litL _)
  have htc : ls.toList.isEmpty = false := by
   cases h : ls.toList with
   | nil => rw [h] at htb; cases htb
   | cons _ _ => rfl
  have HT := Lib.hid ht
  clear ht
  cases tb with
  | false =>
   go_enter Tryz.func113, Tryz.ntmps113
   go_upto_region 1 with fail
   (try rw [hw1])
   go_wp2_with fail
   go_returns
   exact ⟨by rw [HR1.out]; rw [if_neg (fun h => h.1 HF0.out), if_pos ⟨HT.out, by trivial⟩]; rfl, HB2.out⟩
  | true =>
   cases lx with
   | false =>
    by_cases hl : 64 < ls.size
    case pos =>
     have hlb : decide ((64 : Int) < (ls.size : Int)) = true := decide_eq_true (by omega)
     have HLL := Lib.hid hl
     clear hl
     go_enter Tryz.func113, Tryz.ntmps113
     go_upto_region 1 with fail
     (try rw [hw1])
     go_wp2_with fail
     go_returns
     exact ⟨by rw [HR1.out]; rw [if_neg (fun h => h.1 HF0.out), if_neg (fun h => by cases h.2), if_neg (fun h => by cases h.1), if_pos HLL.out]; rfl, HB2.out⟩
    have hlb : decide ((64 : Int) < (ls.size : Int)) = false := decide_eq_false (by omega)
    have HLL := Lib.hid hl
    clear hl
    go_enter Tryz.func113, Tryz.ntmps113
    go_upto_region 1 with fail
    (try rw [hw1])
    go_wp2_with fail
    go_returns
    exact ⟨by rw [HR1.out]; rw [if_neg (fun h => h.1 HF0.out), if_neg (fun h => by cases h.2), if_neg (fun h => by cases h.1), if_neg HLL.out]; rfl, HB2.out⟩
   | true =>
    cases xb with
    | false =>
     go_enter Tryz.func113, Tryz.ntmps113
     go_upto_region 1 with fail
     (try rw [hw1])
     go_wp2_with fail
     go_returns
     exact ⟨by rw [HR1.out]; rw [if_neg (fun h => h.1 HF0.out), if_neg (fun h => by cases h.2), if_pos ⟨by trivial, by trivial⟩]; rfl, HB2.out⟩
    | true =>
     by_cases hl : 64 < ls.size
     case pos =>
      have hlb : decide ((64 : Int) < (ls.size : Int)) = true := decide_eq_true (by omega)
      have HLL := Lib.hid hl
      clear hl
      go_enter Tryz.func113, Tryz.ntmps113
      go_upto_region 1 with fail
      (try rw [hw1])
      go_wp2_with fail
      go_returns
      exact ⟨by rw [HR1.out]; rw [if_neg (fun h => h.1 HF0.out), if_neg (fun h => by cases h.2), if_neg (fun h => by cases h.2), if_pos HLL.out]; rfl, HB2.out⟩
     have hlb : decide ((64 : Int) < (ls.size : Int)) = false := decide_eq_false (by omega)
     have HLL := Lib.hid hl
     clear hl
     go_enter Tryz.func113, Tryz.ntmps113
     go_upto_region 1 with fail
     (try rw [hw1])
     go_wp2_with fail
     go_returns
     exact ⟨by rw [HR1.out]; rw [if_neg (fun h => h.1 HF0.out), if_neg (fun h => by cases h.2), if_neg (fun h => by cases h.2), if_neg HLL.out]; rfl, HB2.out⟩
 have f0 : (lf != 0) = true := by simpa using hf0
 have HF0 := Lib.hid hf0
 clear hf0
 by_cases hf1 : lf = 1
 case neg =>
  have f1 : (lf != 1) = true := by simpa using hf1
  have HF1 := Lib.hid hf1
  clear hf1
  go_enter Tryz.func113, Tryz.ntmps113
  go_upto_region 1 with fail
  (try rw [hw1])
  go_wp2_with fail
  go_returns
  exact ⟨by rw [HR1.out]; rw [if_pos ⟨HF0.out, .inl HF1.out⟩]; rfl, HB2.out⟩
 have f1 : (lf != 1) = false := by rw [hf1]; rfl
 have HF1 := Lib.hid hf1
 clear hf1
 cases fb with
 | false =>
  go_enter Tryz.func113, Tryz.ntmps113
  go_upto_region 1 with fail
  (try rw [hw1])
  go_wp2_with fail
  go_returns
  exact ⟨by rw [HR1.out]; rw [if_pos ⟨HF0.out, .inr (by trivial)⟩]; rfl, HB2.out⟩
 | true =>
  by_cases ht : ls = emptyS
  case pos =>
   have htb : (ls.toList == []) = true := lit_yes ht (litL _)
   have htc : ls.toList.isEmpty = true := by rw [ht]; exact emptyL
   have HT := Lib.hid ht
   clear ht
   cases lx with
   | false =>
    by_cases hl : 64 < ls.size
    case pos =>
     have hlb : decide ((64 : Int) < (ls.size : Int)) = true := decide_eq_true (by omega)
     have HLL := Lib.hid hl
     clear hl
     go_enter Tryz.func113, Tryz.ntmps113
     go_upto_region 1 with fail
     (try rw [hw1])
     go_wp2_with fail
     go_returns
     exact ⟨by rw [HR1.out]; rw [if_neg (fun h => h.2.elim (fun h2 => h2 HF1.out) (fun h2 => by cases h2)), if_neg (fun h => h.1 HT.out), if_neg (fun h => by cases h.1), if_pos HLL.out]; rfl, HB2.out⟩
    have hlb : decide ((64 : Int) < (ls.size : Int)) = false := decide_eq_false (by omega)
    have HLL := Lib.hid hl
    clear hl
    go_enter Tryz.func113, Tryz.ntmps113
    go_upto_region 1 with fail
    (try rw [hw1])
    go_wp2_with fail
    go_returns
    exact ⟨by rw [HR1.out]; rw [if_neg (fun h => h.2.elim (fun h2 => h2 HF1.out) (fun h2 => by cases h2)), if_neg (fun h => h.1 HT.out), if_neg (fun h => by cases h.1), if_neg HLL.out]; rfl, HB2.out⟩
   | true =>
    cases xb with
    | false =>
     go_enter Tryz.func113, Tryz.ntmps113
     go_upto_region 1 with fail
     (try rw [hw1])
     go_wp2_with fail
     go_returns
     exact ⟨by rw [HR1.out]; rw [if_neg (fun h => h.2.elim (fun h2 => h2 HF1.out) (fun h2 => by cases h2)), if_neg (fun h => h.1 HT.out), if_pos ⟨by trivial, by trivial⟩]; rfl, HB2.out⟩
    | true =>
     by_cases hl : 64 < ls.size
     case pos =>
      have hlb : decide ((64 : Int) < (ls.size : Int)) = true := decide_eq_true (by omega)
      have HLL := Lib.hid hl
      clear hl
      go_enter Tryz.func113, Tryz.ntmps113
      go_upto_region 1 with fail
      (try rw [hw1])
      go_wp2_with fail
      go_returns
      exact ⟨by rw [HR1.out]; rw [if_neg (fun h => h.2.elim (fun h2 => h2 HF1.out) (fun h2 => by cases h2)), if_neg (fun h => h.1 HT.out), if_neg (fun h => by cases h.2), if_pos HLL.out]; rfl, HB2.out⟩
     have hlb : decide ((64 : Int) < (ls.size : Int)) = false := decide_eq_false (by omega)
     have HLL := Lib.hid hl
     clear hl
     go_enter Tryz.func113, Tryz.ntmps113
     go_upto_region 1 with fail
     (try rw [hw1])
     go_wp2_with fail
     go_returns
     exact ⟨by rw [HR1.out]; rw [if_neg (fun h => h.2.elim (fun h2 => h2 HF1.out) (fun h2 => by cases h2)), if_neg (fun h => h.1 HT.out), if_neg (fun h => by cases h.2), if_neg HLL.out]; rfl, HB2.out⟩
  have htb : (ls.toList == []) = false := lit_no ht (litL _)
  have htc : ls.toList.isEmpty = false := by
   cases h : ls.toList with
   | nil => rw [h] at htb; cases htb
   | cons _ _ => rfl
  have HT := Lib.hid ht
  clear ht
  cases tb with
  | false =>
   go_enter Tryz.func113, Tryz.ntmps113
   go_upto_region 1 with fail
   (try rw [hw1])
   go_wp2_with fail
   go_returns
   exact ⟨by rw [HR1.out]; rw [if_neg (fun h => h.2.elim (fun h2 => h2 HF1.out) (fun h2 => by cases h2)), if_pos ⟨HT.out, by trivial⟩]; rfl, HB2.out⟩
  | true =>
   cases lx with
   | false =>
    by_cases hl : 64 < ls.size
    case pos =>
     have hlb : decide ((64 : Int) < (ls.size : Int)) = true := decide_eq_true (by omega)
     have HLL := Lib.hid hl
     clear hl
     go_enter Tryz.func113, Tryz.ntmps113
     go_upto_region 1 with fail
     (try rw [hw1])
     go_wp2_with fail
     go_returns
     exact ⟨by rw [HR1.out]; rw [if_neg (fun h => h.2.elim (fun h2 => h2 HF1.out) (fun h2 => by cases h2)), if_neg (fun h => by cases h.2), if_neg (fun h => by cases h.1), if_pos HLL.out]; rfl, HB2.out⟩
    have hlb : decide ((64 : Int) < (ls.size : Int)) = false := decide_eq_false (by omega)
    have HLL := Lib.hid hl
    clear hl
    go_enter Tryz.func113, Tryz.ntmps113
    go_upto_region 1 with fail
    (try rw [hw1])
    go_wp2_with fail
    go_returns
    exact ⟨by rw [HR1.out]; rw [if_neg (fun h => h.2.elim (fun h2 => h2 HF1.out) (fun h2 => by cases h2)), if_neg (fun h => by cases h.2), if_neg (fun h => by cases h.1), if_neg HLL.out]; rfl, HB2.out⟩
   | true =>
    cases xb with
    | false =>
     go_enter Tryz.func113, Tryz.ntmps113
     go_upto_region 1 with fail
     (try rw [hw1])
     go_wp2_with fail
     go_returns
     exact ⟨by rw [HR1.out]; rw [if_neg (fun h => h.2.elim (fun h2 => h2 HF1.out) (fun h2 => by cases h2)), if_neg (fun h => by cases h.2), if_pos ⟨by trivial, by trivial⟩]; rfl, HB2.out⟩
    | true =>
     by_cases hl : 64 < ls.size
     case pos =>
      have hlb : decide ((64 : Int) < (ls.size : Int)) = true := decide_eq_true (by omega)
      have HLL := Lib.hid hl
      clear hl
      go_enter Tryz.func113, Tryz.ntmps113
      go_upto_region 1 with fail
      (try rw [hw1])
      go_wp2_with fail
      go_returns
      exact ⟨by rw [HR1.out]; rw [if_neg (fun h => h.2.elim (fun h2 => h2 HF1.out) (fun h2 => by cases h2)), if_neg (fun h => by cases h.2), if_neg (fun h => by cases h.2), if_pos HLL.out]; rfl, HB2.out⟩
     have hlb : decide ((64 : Int) < (ls.size : Int)) = false := decide_eq_false (by omega)
     have HLL := Lib.hid hl
     clear hl
     go_enter Tryz.func113, Tryz.ntmps113
     go_upto_region 1 with fail
     (try rw [hw1])
     go_wp2_with fail
     go_returns
     exact ⟨by rw [HR1.out]; rw [if_neg (fun h => h.2.elim (fun h2 => h2 HF1.out) (fun h2 => by cases h2)), if_neg (fun h => by cases h.2), if_neg (fun h => by cases h.2), if_neg HLL.out]; rfl, HB2.out⟩
end Go.Proofs.YtjmcaceegfdkkaaGreatDoor
