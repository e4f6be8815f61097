/-
  The calls of each kind; New; the law's live.
-/
import Derived.Test.YtlckneajppfmbaaGreatDoorTMake
namespace Go.Proofs.YtlckneajppfmbaaGreatDoor
open Go.RowKit Go.Maps
set_option linter.unusedVariables false

theorem i64R_lit {n : Int} (h : -1000 ≤ n ∧ n ≤ 1000000) : i64R n := by unfold i64R; omega
theorem emptyS_le : emptyS.size ≤ maxLen := by decide
section
variable {w : World} {B a b : Nat} {v : Value} {p : Pl}
set_option maxRecDepth 100000 in
set_option maxHeartbeats 1600000 in
theorem pName (h : IsPool w B a b v p) (hl : Laid w) (n : Int) (hc : i64R n) : Calls Tryz.prog 59 #[.pointer (some ⟨a, 0, none⟩), .int .i64 n] w (MakePost w B a b v p ⟨1, n, 0, 0, emptyS, 0, 0⟩) := by
  have hm := pmake h hl (n := ⟨1, n, 0, 0, emptyS, 0, 0⟩) ⟨(i64R_lit (by simp)), hc, (i64R_lit (by simp)), (by simp), emptyS_le, (i64R_lit (by simp)), (i64R_lit (by simp))⟩
  have HM := Lib.hid hm
  clear h hl hm hc
  go_enter Tryz.func59, Tryz.ntmps59
  go_wp2_with fail
  refine HM.out.mono ?_
  rintro e w1 ⟨rfl, hg⟩
  have HG := Lib.hid hg
  clear hg
  go_wp2_with fail
  go_returns
  exact ⟨rfl, HG.out⟩
set_option maxRecDepth 100000 in
set_option maxHeartbeats 1600000 in
theorem pNum (h : IsPool w B a b v p) (hl : Laid w) (n : Int) (hc : 0 ≤ n ∧ n ≤ 18446744073709551615) : Calls Tryz.prog 61 #[.pointer (some ⟨a, 0, none⟩), .int .u64 n] w (MakePost w B a b v p ⟨2, 0, 0, n, emptyS, 0, 0⟩) := by
  have hm := pmake h hl (n := ⟨2, 0, 0, n, emptyS, 0, 0⟩) ⟨(i64R_lit (by simp)), (i64R_lit (by simp)), (i64R_lit (by simp)), hc, emptyS_le, (i64R_lit (by simp)), (i64R_lit (by simp))⟩
  have HM := Lib.hid hm
  clear h hl hm hc
  go_enter Tryz.func61, Tryz.ntmps61
  go_wp2_with fail
  refine HM.out.mono ?_
  rintro e w1 ⟨rfl, hg⟩
  have HG := Lib.hid hg
  clear hg
  go_wp2_with fail
  go_returns
  exact ⟨rfl, HG.out⟩
set_option maxRecDepth 100000 in
set_option maxHeartbeats 1600000 in
theorem pData (h : IsPool w B a b v p) (hl : Laid w) (s : ByteArray) (hc : s.size ≤ maxLen) : Calls Tryz.prog 63 #[.pointer (some ⟨a, 0, none⟩), .string s] w (MakePost w B a b v p ⟨3, 0, 0, 0, s, 0, 0⟩) := by
  have hm := pmake h hl (n := ⟨3, 0, 0, 0, s, 0, 0⟩) ⟨(i64R_lit (by simp)), (i64R_lit (by simp)), (i64R_lit (by simp)), (by simp), hc, (i64R_lit (by simp)), (i64R_lit (by simp))⟩
  have HM := Lib.hid hm
  clear h hl hm hc
  go_enter Tryz.func63, Tryz.ntmps63
  go_wp2_with fail
  refine HM.out.mono ?_
  rintro e w1 ⟨rfl, hg⟩
  have HG := Lib.hid hg
  clear hg
  go_wp2_with fail
  go_returns
  exact ⟨rfl, HG.out⟩
set_option maxRecDepth 100000 in
set_option maxHeartbeats 1600000 in
theorem pPair (h : IsPool w B a b v p) (hl : Laid w) (y z : Int) (hc : i64R y ∧ i64R z) : Calls Tryz.prog 66 #[.pointer (some ⟨a, 0, none⟩), .int .i64 y, .int .i64 z] w (MakePost w B a b v p ⟨4, 0, 0, 0, emptyS, y, z⟩) := by
  have hm := pmake h hl (n := ⟨4, 0, 0, 0, emptyS, y, z⟩) ⟨(i64R_lit (by simp)), (i64R_lit (by simp)), (i64R_lit (by simp)), (by simp), emptyS_le, hc.1, hc.2⟩
  have HM := Lib.hid hm
  clear h hl hm hc
  go_enter Tryz.func66, Tryz.ntmps66
  go_wp2_with fail
  refine HM.out.mono ?_
  rintro e w1 ⟨rfl, hg⟩
  have HG := Lib.hid hg
  clear hg
  go_wp2_with fail
  go_returns
  exact ⟨rfl, HG.out⟩
set_option maxRecDepth 100000 in
set_option maxHeartbeats 1600000 in
theorem pHash (h : IsPool w B a b v p) (hl : Laid w) (y : Int) (hc : i64R y) : Calls Tryz.prog 68 #[.pointer (some ⟨a, 0, none⟩), .int .i64 y] w (MakePost w B a b v p ⟨5, 0, 0, 0, emptyS, y, 0⟩) := by
  have hm := pmake h hl (n := ⟨5, 0, 0, 0, emptyS, y, 0⟩) ⟨(i64R_lit (by simp)), (i64R_lit (by simp)), (i64R_lit (by simp)), (by simp), emptyS_le, hc, (i64R_lit (by simp))⟩
  have HM := Lib.hid hm
  clear h hl hm hc
  go_enter Tryz.func68, Tryz.ntmps68
  go_wp2_with fail
  refine HM.out.mono ?_
  rintro e w1 ⟨rfl, hg⟩
  have HG := Lib.hid hg
  clear hg
  go_wp2_with fail
  go_returns
  exact ⟨rfl, HG.out⟩
set_option maxRecDepth 100000 in
set_option maxHeartbeats 1600000 in
theorem pSign (h : IsPool w B a b v p) (hl : Laid w) (n y : Int) (hc : i64R n ∧ i64R y) : Calls Tryz.prog 77 #[.pointer (some ⟨a, 0, none⟩), .int .i64 n, .int .i64 y] w (MakePost w B a b v p ⟨7, n, 0, 0, emptyS, y, 0⟩) := by
  have hm := pmake h hl (n := ⟨7, n, 0, 0, emptyS, y, 0⟩) ⟨(i64R_lit (by simp)), hc.1, (i64R_lit (by simp)), (by simp), emptyS_le, hc.2, (i64R_lit (by simp))⟩
  have HM := Lib.hid hm
  clear h hl hm hc
  go_enter Tryz.func77, Tryz.ntmps77
  go_wp2_with fail
  refine HM.out.mono ?_
  rintro e w1 ⟨rfl, hg⟩
  have HG := Lib.hid hg
  clear hg
  go_wp2_with fail
  go_returns
  exact ⟨rfl, HG.out⟩
set_option maxRecDepth 100000 in
set_option maxHeartbeats 1600000 in
theorem pProm (h : IsPool w B a b v p) (hl : Laid w) (n t y : Int) (hc : i64R n ∧ i64R t ∧ i64R y) : Calls Tryz.prog 79 #[.pointer (some ⟨a, 0, none⟩), .int .i64 n, .int .i64 t, .int .i64 y] w (MakePost w B a b v p ⟨8, n, t, 0, emptyS, y, 0⟩) := by
  have hm := pmake h hl (n := ⟨8, n, t, 0, emptyS, y, 0⟩) ⟨(i64R_lit (by simp)), hc.1, hc.2.1, (by simp), emptyS_le, hc.2.2, (i64R_lit (by simp))⟩
  have HM := Lib.hid hm
  clear h hl hm hc
  go_enter Tryz.func79, Tryz.ntmps79
  go_wp2_with fail
  refine HM.out.mono ?_
  rintro e w1 ⟨rfl, hg⟩
  have HG := Lib.hid hg
  clear hg
  go_wp2_with fail
  go_returns
  exact ⟨rfl, HG.out⟩
set_option maxRecDepth 100000 in
set_option maxHeartbeats 1600000 in
theorem pFake (h : IsPool w B a b v p) (hl : Laid w) (n t y : Int) (hc : i64R n ∧ i64R t ∧ i64R y) : Calls Tryz.prog 82 #[.pointer (some ⟨a, 0, none⟩), .int .i64 n, .int .i64 t, .int .i64 y] w (MakePost w B a b v p ⟨9, n, t, 0, emptyS, y, 0⟩) := by
  have hm := pmake h hl (n := ⟨9, n, t, 0, emptyS, y, 0⟩) ⟨(i64R_lit (by simp)), hc.1, hc.2.1, (by simp), emptyS_le, hc.2.2, (i64R_lit (by simp))⟩
  have HM := Lib.hid hm
  clear h hl hm hc
  go_enter Tryz.func82, Tryz.ntmps82
  go_wp2_with fail
  refine HM.out.mono ?_
  rintro e w1 ⟨rfl, hg⟩
  have HG := Lib.hid hg
  clear hg
  go_wp2_with fail
  go_returns
  exact ⟨rfl, HG.out⟩
end

set_option maxHeartbeats 800000 in
theorem pnew (w : World) : Calls Tryz.prog 20 #[] w fun e w' => e = .returned (.pointer (some ⟨w.heap.size + 1, 0, none⟩)) ∧ IsPool w' w.heap.size (w.heap.size + 1) w.heap.size (.slice none 0 0) [] ∧ Below w.heap.size w w' := by
  have hmm := @run_makeMap Tryz.prog
  go_enter Tryz.func20, Tryz.ntmps20
  go_wp2_with fail
  go_returns
  refine ⟨rfl, ⟨?_, by omega, Nat.le_refl _, World.ownsRow_nil _ _ _ 9, ⟨_, (World.ownsMap_made w _ _ _).alloc _, DictN.nil⟩, Ok.nil, fun m hm => by cases hm⟩, ((Below.refl _ _).alloc (Nat.le_refl _) _).alloc (by simp) _⟩
  have e : w.heap.size + 1 = (w.alloc (.map #[] 0)).heap.size := by simp
  rw [e]
  exact heap_alloc_new _ _

theorem num9_any (n : Int) (w : World) : Calls Tryz.prog 12 #[.int .i64 n] w fun e w' => e = .returned (.int .i64 n) ∧ w = w' := by
  go_enter Tryz.func12, Tryz.ntmps12
  go_wp2_with fail
  go_returns
  exact ⟨rfl, rfl⟩

theorem make_at {w : World} {B a b : Nat} {v : Value} {p : Pl} {n : Nd} {t e : Int} {q : Pl} (hm : mkP p n = (t, e, q)) {en : Ending} {w' : World} (h : MakePost w B a b v p n en w') :
    en = .returned (.tuple #[.int .i64 t, .int .i64 e]) ∧ Grew w B a b v q w' := by
  unfold MakePost at h
  rw [hm] at h
  exact h

end Go.Proofs.YtlckneajppfmbaaGreatDoor
