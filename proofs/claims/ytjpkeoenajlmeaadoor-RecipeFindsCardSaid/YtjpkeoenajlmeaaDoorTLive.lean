/-
  The calls of each kind; New; the law's live.
-/
import Derived.Test.YtjpkeoenajlmeaaDoorTMake
namespace Go.Proofs.YtjpkeoenajlmeaaDoor
open Go.RowKit Go.Maps
set_option linter.unusedVariables false

theorem i64R_lit {n : Int} (h : -1000 ≤ n ∧ n ≤ 1000000) : i64R n := by unfold i64R; omega
theorem emptyS_le : emptyS.size ≤ maxLen := by decide
section
variable {w : World} {B a b : Nat} {v : Value} {p : Pl}
set_option maxRecDepth 100000 in
set_option maxHeartbeats 1600000 in
theorem pName (h : IsPool w B a b v p) (hl : Laid w) (n : Int) (hc : i64R n) : Calls Tryd.prog 26 #[.pointer (some ⟨a, 0, none⟩), .int .i64 n] w (MakePost w B a b v p ⟨1, n, 0, 0, emptyS, 0, 0⟩) := by
  have hm := pmake h hl (n := ⟨1, n, 0, 0, emptyS, 0, 0⟩) ⟨(i64R_lit (by simp)), hc, (i64R_lit (by simp)), (by simp), emptyS_le, (i64R_lit (by simp)), (i64R_lit (by simp))⟩
  have HM := Lib.hid hm
  clear h hl hm hc
  go_enter Tryd.func26, Tryd.ntmps26
  go_wp2_with fail
  refine HM.out.mono ?_
  rintro e w1 ⟨rfl, hg⟩
  have HG := Lib.hid hg
  clear hg
  go_wp2_with fail
  go_returns
  exact ⟨rfl, HG.out⟩
set_option maxRecDepth 100000 in
set_option maxHeartbeats 1600000 in
theorem pNum (h : IsPool w B a b v p) (hl : Laid w) (n : Int) (hc : 0 ≤ n ∧ n ≤ 18446744073709551615) : Calls Tryd.prog 89 #[.pointer (some ⟨a, 0, none⟩), .int .u64 n] w (MakePost w B a b v p ⟨2, 0, 0, n, emptyS, 0, 0⟩) := by
  have hm := pmake h hl (n := ⟨2, 0, 0, n, emptyS, 0, 0⟩) ⟨(i64R_lit (by simp)), (i64R_lit (by simp)), (i64R_lit (by simp)), hc, emptyS_le, (i64R_lit (by simp)), (i64R_lit (by simp))⟩
  have HM := Lib.hid hm
  clear h hl hm hc
  go_enter Tryd.func89, Tryd.ntmps89
  go_wp2_with fail
  refine HM.out.mono ?_
  rintro e w1 ⟨rfl, hg⟩
  have HG := Lib.hid hg
  clear hg
  go_wp2_with fail
  go_returns
  exact ⟨rfl, HG.out⟩
set_option maxRecDepth 100000 in
set_option maxHeartbeats 1600000 in
theorem pData (h : IsPool w B a b v p) (hl : Laid w) (s : ByteArray) (hc : s.size ≤ maxLen) : Calls Tryd.prog 27 #[.pointer (some ⟨a, 0, none⟩), .string s] w (MakePost w B a b v p ⟨3, 0, 0, 0, s, 0, 0⟩) := by
  have hm := pmake h hl (n := ⟨3, 0, 0, 0, s, 0, 0⟩) ⟨(i64R_lit (by simp)), (i64R_lit (by simp)), (i64R_lit (by simp)), (by simp), hc, (i64R_lit (by simp)), (i64R_lit (by simp))⟩
  have HM := Lib.hid hm
  clear h hl hm hc
  go_enter Tryd.func27, Tryd.ntmps27
  go_wp2_with fail
  refine HM.out.mono ?_
  rintro e w1 ⟨rfl, hg⟩
  have HG := Lib.hid hg
  clear hg
  go_wp2_with fail
  go_returns
  exact ⟨rfl, HG.out⟩
set_option maxRecDepth 100000 in
set_option maxHeartbeats 1600000 in
theorem pPair (h : IsPool w B a b v p) (hl : Laid w) (y z : Int) (hc : i64R y ∧ i64R z) : Calls Tryd.prog 28 #[.pointer (some ⟨a, 0, none⟩), .int .i64 y, .int .i64 z] w (MakePost w B a b v p ⟨4, 0, 0, 0, emptyS, y, z⟩) := by
  have hm := pmake h hl (n := ⟨4, 0, 0, 0, emptyS, y, z⟩) ⟨(i64R_lit (by simp)), (i64R_lit (by simp)), (i64R_lit (by simp)), (by simp), emptyS_le, hc.1, hc.2⟩
  have HM := Lib.hid hm
  clear h hl hm hc
  go_enter Tryd.func28, Tryd.ntmps28
  go_wp2_with fail
  refine HM.out.mono ?_
  rintro e w1 ⟨rfl, hg⟩
  have HG := Lib.hid hg
  clear hg
  go_wp2_with fail
  go_returns
  exact ⟨rfl, HG.out⟩
set_option maxRecDepth 100000 in
set_option maxHeartbeats 1600000 in
theorem pHash (h : IsPool w B a b v p) (hl : Laid w) (y : Int) (hc : i64R y) : Calls Tryd.prog 94 #[.pointer (some ⟨a, 0, none⟩), .int .i64 y] w (MakePost w B a b v p ⟨5, 0, 0, 0, emptyS, y, 0⟩) := by
  have hm := pmake h hl (n := ⟨5, 0, 0, 0, emptyS, y, 0⟩) ⟨(i64R_lit (by simp)), (i64R_lit (by simp)), (i64R_lit (by simp)), (by simp), emptyS_le, hc, (i64R_lit (by simp))⟩
  have HM := Lib.hid hm
  clear h hl hm hc
  go_enter Tryd.func94, Tryd.ntmps94
  go_wp2_with fail
  refine HM.out.mono ?_
  rintro e w1 ⟨rfl, hg⟩
  have HG := Lib.hid hg
  clear hg
  go_wp2_with fail
  go_returns
  exact ⟨rfl, HG.out⟩
set_option maxRecDepth 100000 in
set_option maxHeartbeats 1600000 in
theorem pSign (h : IsPool w B a b v p) (hl : Laid w) (n y : Int) (hc : i64R n ∧ i64R y) : Calls Tryd.prog 103 #[.pointer (some ⟨a, 0, none⟩), .int .i64 n, .int .i64 y] w (MakePost w B a b v p ⟨7, n, 0, 0, emptyS, y, 0⟩) := by
  have hm := pmake h hl (n := ⟨7, n, 0, 0, emptyS, y, 0⟩) ⟨(i64R_lit (by simp)), hc.1, (i64R_lit (by simp)), (by simp), emptyS_le, hc.2, (i64R_lit (by simp))⟩
  have HM := Lib.hid hm
  clear h hl hm hc
  go_enter Tryd.func103, Tryd.ntmps103
  go_wp2_with fail
  refine HM.out.mono ?_
  rintro e w1 ⟨rfl, hg⟩
  have HG := Lib.hid hg
  clear hg
  go_wp2_with fail
  go_returns
  exact ⟨rfl, HG.out⟩
set_option maxRecDepth 100000 in
set_option maxHeartbeats 1600000 in
theorem pProm (h : IsPool w B a b v p) (hl : Laid w) (n t y : Int) (hc : i64R n ∧ i64R t ∧ i64R y) : Calls Tryd.prog 105 #[.pointer (some ⟨a, 0, none⟩), .int .i64 n, .int .i64 t, .int .i64 y] w (MakePost w B a b v p ⟨8, n, t, 0, emptyS, y, 0⟩) := by
  have hm := pmake h hl (n := ⟨8, n, t, 0, emptyS, y, 0⟩) ⟨(i64R_lit (by simp)), hc.1, hc.2.1, (by simp), emptyS_le, hc.2.2, (i64R_lit (by simp))⟩
  have HM := Lib.hid hm
  clear h hl hm hc
  go_enter Tryd.func105, Tryd.ntmps105
  go_wp2_with fail
  refine HM.out.mono ?_
  rintro e w1 ⟨rfl, hg⟩
  have HG := Lib.hid hg
  clear hg
  go_wp2_with fail
  go_returns
  exact ⟨rfl, HG.out⟩
set_option maxRecDepth 100000 in
set_option maxHeartbeats 1600000 in
theorem pFake (h : IsPool w B a b v p) (hl : Laid w) (n t y : Int) (hc : i64R n ∧ i64R t ∧ i64R y) : Calls Tryd.prog 108 #[.pointer (some ⟨a, 0, none⟩), .int .i64 n, .int .i64 t, .int .i64 y] w (MakePost w B a b v p ⟨9, n, t, 0, emptyS, y, 0⟩) := by
  have hm := pmake h hl (n := ⟨9, n, t, 0, emptyS, y, 0⟩) ⟨(i64R_lit (by simp)), hc.1, hc.2.1, (by simp), emptyS_le, hc.2.2, (i64R_lit (by simp))⟩
  have HM := Lib.hid hm
  clear h hl hm hc
  go_enter Tryd.func108, Tryd.ntmps108
  go_wp2_with fail
  refine HM.out.mono ?_
  rintro e w1 ⟨rfl, hg⟩
  have HG := Lib.hid hg
  clear hg
  go_wp2_with fail
  go_returns
  exact ⟨rfl, HG.out⟩
end

set_option maxHeartbeats 800000 in
theorem pnew (w : World) : Calls Tryd.prog 7 #[] w fun e w' => e = .returned (.pointer (some ⟨w.heap.size + 1, 0, none⟩)) ∧ IsPool w' w.heap.size (w.heap.size + 1) w.heap.size (.slice none 0 0) [] ∧ Below w.heap.size w w' := by
  have hmm := @run_makeMap Tryd.prog
  go_enter Tryd.func7, Tryd.ntmps7
  go_wp2_with fail
  go_returns
  refine ⟨rfl, ⟨?_, by omega, Nat.le_refl _, World.ownsRow_nil _ _ _ 9, ⟨_, (World.ownsMap_made w _ _ _).alloc _, DictN.nil⟩, Ok.nil, fun m hm => by cases hm⟩, ((Below.refl _ _).alloc (Nat.le_refl _) _).alloc (by simp) _⟩
  have e : w.heap.size + 1 = (w.alloc (.map #[] 0)).heap.size := by simp
  rw [e]
  exact heap_alloc_new _ _

theorem num_any (n : Int) (w : World) : Calls Tryd.prog 14 #[.int .i64 n] w fun e w' => e = .returned (.int .i64 n) ∧ w = w' := by
  go_enter Tryd.func14, Tryd.ntmps14
  go_wp2_with fail
  go_returns
  exact ⟨rfl, rfl⟩
theorem num9_any (n : Int) (w : World) : Calls Tryd.prog 20 #[.int .i64 n] w fun e w' => e = .returned (.int .i64 n) ∧ w = w' := by
  go_enter Tryd.func20, Tryd.ntmps20
  go_wp2_with fail
  go_returns
  exact ⟨rfl, rfl⟩

def xS : ByteArray := ⟨#[120]⟩
def lp1 : Pl := [(⟨1, 0, 0, 0, emptyS, 0, 0⟩, 1, 1)]
def lp2 : Pl := [(⟨1, 0, 0, 0, emptyS, 0, 0⟩, 1, 1), (⟨3, 0, 0, 0, xS, 0, 0⟩, 1, 1)]
def lp3 : Pl := [(⟨1, 0, 0, 0, emptyS, 0, 0⟩, 1, 1), (⟨3, 0, 0, 0, xS, 0, 0⟩, 1, 1), (⟨4, 0, 0, 0, emptyS, 1, 2⟩, 3, 2)]
theorem live1 : mkP [] ⟨1, 0, 0, 0, emptyS, 0, 0⟩ = (1, 0, lp1) := by kernel_rfl
theorem live2 : mkP lp1 ⟨3, 0, 0, 0, xS, 0, 0⟩ = (2, 0, lp2) := by kernel_rfl
theorem live3 : mkP lp2 ⟨4, 0, 0, 0, emptyS, 1, 2⟩ = (3, 0, lp3) := by kernel_rfl
theorem live4 : mkP lp3 ⟨4, 0, 0, 0, emptyS, 1, 2⟩ = (3, 0, lp3) := by kernel_rfl
theorem live5 : mkP lp3 ⟨4, 0, 0, 0, emptyS, 3, 9⟩ = (0, 51, lp3) := by kernel_rfl
theorem live6 : szP lp3 3 = 3 := by kernel_rfl

theorem make_at {w : World} {B a b : Nat} {v : Value} {p : Pl} {n : Nd} {t e : Int} {q : Pl} (hm : mkP p n = (t, e, q)) {en : Ending} {w' : World} (h : MakePost w B a b v p n en w') :
    en = .returned (.tuple #[.int .i64 t, .int .i64 e]) ∧ Grew w B a b v q w' := by
  unfold MakePost at h
  rw [hm] at h
  exact h

set_option maxRecDepth 100000 in
set_option maxHeartbeats 6400000 in
theorem live_any {w : World} (hl : Laid w) : Calls Tryd.prog 6 #[] w fun e w' => e = .returned (.bool true) ∧ Below w.heap.size w w' := by
  have HL := Lib.hid hl
  clear hl
  go_enter Tryd.func6, Tryd.ntmps6
  go_wp2_with fail
  refine (pnew _).mono ?_
  rintro e w1 ⟨rfl, p1, u1⟩
  have P1 := Lib.hid p1
  have U1 := Lib.hid u1
  clear p1 u1
  go_wp2_with fail
  refine (pName P1.out (HL.out.below U1.out) 0 (i64R_lit (by simp))).mono ?_
  intro e w2 hm
  obtain ⟨rfl, g1, _, v2, p2, _⟩ := make_at live1 hm
  have P2 := Lib.hid p2
  have U2 := Lib.hid (U1.out.trans g1)
  clear hm g1 p2
  go_wp2_with fail
  refine (pData P2.out (HL.out.below U2.out) xS (by decide)).mono ?_
  intro e w3 hm
  obtain ⟨rfl, g1, _, v3, p3, _⟩ := make_at live2 hm
  have P3 := Lib.hid p3
  have U3 := Lib.hid (U2.out.trans g1)
  clear hm g1 p3
  go_wp2_with fail
  refine (pPair P3.out (HL.out.below U3.out) 1 2 ⟨i64R_lit (by simp), i64R_lit (by simp)⟩).mono ?_
  intro e w4 hm
  obtain ⟨rfl, g1, _, v4, p4, _⟩ := make_at live3 hm
  have P4 := Lib.hid p4
  have U4 := Lib.hid (U3.out.trans g1)
  clear hm g1 p4
  go_wp2_with fail
  refine (pPair P4.out (HL.out.below U4.out) 1 2 ⟨i64R_lit (by simp), i64R_lit (by simp)⟩).mono ?_
  intro e w5 hm
  obtain ⟨rfl, g1, _, v5, p5, _⟩ := make_at live4 hm
  have P5 := Lib.hid p5
  have U5 := Lib.hid (U4.out.trans g1)
  clear hm g1 p5
  go_wp2_with fail
  refine (pPair P5.out (HL.out.below U5.out) 3 9 ⟨i64R_lit (by simp), i64R_lit (by simp)⟩).mono ?_
  intro e w6 hm
  obtain ⟨rfl, g1, _, v6, p6, _⟩ := make_at live5 hm
  have P6 := Lib.hid p6
  have U6 := Lib.hid (U5.out.trans g1)
  clear hm g1 p6
  go_wp2_with fail
  refine (num_any _ _).mono ?_
  rintro e w' ⟨rfl, rfl⟩
  go_wp2_with fail
  refine (num_any _ _).mono ?_
  rintro e w' ⟨rfl, rfl⟩
  go_wp2_with fail
  refine (num_any _ _).mono ?_
  rintro e w' ⟨rfl, rfl⟩
  go_wp2_with fail
  refine (num_any _ _).mono ?_
  rintro e w' ⟨rfl, rfl⟩
  go_wp2_with fail
  refine (psize P6.out 3).mono ?_
  rintro e w7 ⟨rfl, u7⟩
  rw [live6]
  have P7 := Lib.hid (P6.out.below u7)
  have U7 := Lib.hid (bmore U6.out u7)
  clear u7
  go_wp2_with fail
  refine (plen P7.out).mono ?_
  rintro e w8 ⟨rfl, rfl⟩
  rw [show ((lp3.length : Nat) : Int) = 3 from rfl]
  go_wp2_with fail
  refine (num_any _ _).mono ?_
  rintro e w' ⟨rfl, rfl⟩
  go_wp2_with fail
  go_returns
  exact ⟨rfl, U7.out⟩
end Go.Proofs.YtjpkeoenajlmeaaDoor
