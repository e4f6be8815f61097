/-
  Make: the program's own.
-/
import Derived.Test.YtjmcaceegfdkkaaGreatDoorQcTChain
namespace Go.Proofs.YtjmcaceegfdkkaaGreatDoor
open Go.RowKit Go.Maps
set_option linter.unusedVariables false
theorem bAl {w a : World} (h : Below w.heap.size w a) (o : Obj) : Below w.heap.size w (a.alloc o) := h.alloc h.size o
section
variable {w : World} {B a b : Nat} {v : Value} {p : Pl}
theorem Grew.same (h : IsPool w B a b v p) {w' : World} (hb : Below w.heap.size w w') : Grew w B a b v p w' :=
 ⟨hb.mono (Nat.le_trans h.ga (Nat.le_of_lt h.lt)), fun k hk _ _ _ => hb.block k hk, v, h.below hb, .inl rfl⟩
theorem Grew.after {w0 : World} {p' : Pl} {w' : World} (h : IsPool w B a b v p) (h0 : Below w.heap.size w w0) (hg : Grew w0 B a b v p' w') : Grew w B a b v p' w' := by
 obtain ⟨g1, g2, v', g3, g4⟩ := hg
 refine ⟨(h0.mono (Nat.le_trans h.ga (Nat.le_of_lt h.lt))).trans g1, fun k hk h1 h2 h3 => ?_, v', g3, ?_⟩
 ·rw [g2 k (Nat.lt_of_lt_of_le hk h0.size) h1 h2 h3, h0.block k hk]
 ·rcases g4 with e | ⟨g, e, hg⟩
  ·exact .inl e
  ·exact .inr ⟨g, e, Nat.le_trans h0.size hg⟩
theorem bRow {w a x : World} (h : Below w.heap.size w a) (hx : Below w.heap.size w x) (cs : Array Value) : Below w.heap.size w (a.setRow x.heap.size cs) :=
 ⟨h.os, h.tape, h.output, by have := h.size; simpa [World.setRow] using this, fun k hk => by rw [setRow_other _ _ _ _ (by have := hx.size; omega)]; exact h.block k hk⟩
theorem ref_zero {p : Pl} {n : Nd} (h : refP p n = 0) : errP p n = 0 ∧ p.length < 65536 := by
 unfold refP at h
 by_cases he : errP p n = 0
 ·have e1 : ¬ (errP p n ≠ 0) := fun h => h he
  rw [if_neg e1] at h
  split at h
  ·cases h
  ·exact ⟨he, by omega⟩
 ·rw [if_pos he] at h; exact absurd h he
theorem mkP_zero {p : Pl} {n : Nd} (h0 : numP p n = 0) (h : refP p n = 0) : mkP p n = ((p.length : Int) + 1, 0, addP p n) := by
 obtain ⟨he, hl⟩ := ref_zero h
 have e1 : ¬ (errP p n ≠ 0) := fun h => h he
 have e2 : ¬ (numP p n ≠ 0) := fun h => h h0
 have e3 : ¬ (65536 ≤ p.length) := by omega
 unfold mkP
 rw [if_neg e1, if_neg e2, if_neg e3]
theorem mkP_ref {p : Pl} {n : Nd} (h0 : numP p n = 0) (h : refP p n ≠ 0) : mkP p n = (0, refP p n, p) := by
 unfold mkP
 unfold refP at h ⊢
 by_cases he : errP p n = 0
 ·have e1 : ¬ (errP p n ≠ 0) := fun h => h he
  have e2 : ¬ (numP p n ≠ 0) := fun h => h h0
  rw [if_neg e1] at h
  rw [if_neg e1, if_neg e2, if_neg e1]
  split at h
  ·rename_i hl; rw [if_pos hl, if_pos hl]
  ·exact absurd rfl h
 ·rw [if_pos he, if_pos he]
theorem text_small {p : Pl} {n : Nd} (h : errP p n = 0) : n.text.size ≤ 64 := by
 unfold errP at h
 by_cases hs : shp n = 0
 ·unfold shp at hs
  by_cases hp : plainB n = false
  ·rw [if_pos hp] at hs; cases hs
  ·rw [if_neg hp] at hs
   split at hs
   ·cases hs
   ·split at hs
    ·cases hs
    ·omega
 ·rw [if_pos hs] at h; exact absurd h hs
def MakePost (w : World) (B a b : Nat) (v : Value) (p : Pl) (n : Nd) (e : Ending) (w' : World) : Prop :=
 e = .returned (.tuple #[.int .i64 (mkP p n).1, .int .i64 (mkP p n).2.1]) ∧ Grew w B a b v (mkP p n).2.2 w'
set_option maxRecDepth 100000 in
set_option maxHeartbeats 3200000 in
theorem make_yes (h : IsPool w B a b v p) {n : Nd} (hn : NdOk n) (h0 : numP p n ≠ 0) : Calls Tryz.prog 158 #[.pointer (some ⟨a, 0, none⟩), .agg (nodeA n)] w (MakePost w B a b v p n) := by
 have he := h.ok.err h0
 have hm : mkP p n = ((numP p n : Int), 0, p) := by unfold mkP; rw [if_neg (by rw [he]; simp), if_pos h0]
 have HM := Lib.hid hm
 have bA : Below w.heap.size w (w.alloc (.cells (nodeA n) NodeT)) := (Below.refl _ _).alloc (Nat.le_refl _) _
 have hb : (w.alloc (.cells (nodeA n) NodeT)).heap[w.heap.size]? = some (Obj.cells (nodeA n) NodeT) := heap_alloc_new _ _
 have H1 := h.below bA
 have c0 : (w.alloc (.cells (nodeA n) NodeT)).cell? ⟨a, 0, none⟩ = some (.map (some b)) := cellB H1.lay rfl
 have hrun : ∀ nq, (Instr.lookup MapNT (.map (some b)) (.agg (nodeA n)) true).run Tryz.prog ((w.alloc (.cells (nodeA n) NodeT)).drewN nq) = .ok (.tuple #[.int .i64 (numP p n : Int), .bool true]) ((w.alloc (.cells (nodeA n) NodeT)).drewN nq) := fun nq => by
  have := (H1.below (bdn _ nq)).find hn
  rwa [decide_eq_true h0] at this
 have H := Lib.hid h
 clear h hn h0 he hm H1
 obtain ⟨k, f, t, u, x, y, z⟩ := n
 simp only [nodeA] at *
 obtain ⟨z0, z1, z2, z3, z4, z5, z6⟩ := cs7 hb rfl rfl rfl rfl rfl rfl rfl
 have HA := Lib.hid bA
 clear hb bA
 go_enter Tryz.func158, Tryz.ntmps158
 go_wp2_with fail
 generalize (w.alloc (.cells #[.int .i64 k, .int .i64 f, .int .i64 t, .int .u64 u, .string x, .int .i64 y, .int .i64 z] NodeT)) = W at *
 go_quiet (fail)
 go_wp2_with fail
 go_returns
 exact ⟨by rw [HM.out]; rfl, by rw [HM.out]; exact Grew.same H.out (bmore HA.out (bdn _ _))⟩
set_option maxRecDepth 100000 in
set_option maxHeartbeats 12800000 in
theorem make_new (h : IsPool w B a b v p) (hl : Laid w) {n : Nd} (hn : NdOk n) (h0 : numP p n = 0) : Calls Tryz.prog 158 #[.pointer (some ⟨a, 0, none⟩), .agg (nodeA n)] w (MakePost w B a b v p n) := by
 have bA : Below w.heap.size w (w.alloc (.cells (nodeA n) NodeT)) := (Below.refl _ _).alloc (Nat.le_refl _) _
 have hb : (w.alloc (.cells (nodeA n) NodeT)).heap[w.heap.size]? = some (Obj.cells (nodeA n) NodeT) := heap_alloc_new _ _
 have H1 := h.below bA
 have c0 : (w.alloc (.cells (nodeA n) NodeT)).cell? ⟨a, 0, none⟩ = some (.map (some b)) := cellB H1.lay rfl
 have hrun : ∀ nq, (Instr.lookup MapNT (.map (some b)) (.agg (nodeA n)) true).run Tryz.prog ((w.alloc (.cells (nodeA n) NodeT)).drewN nq) = .ok (.tuple #[.int .i64 0, .bool false]) ((w.alloc (.cells (nodeA n) NodeT)).drewN nq) := fun nq => by
  have := (H1.below (bdn _ nq)).find hn
  rw [h0, decide_eq_false (by simp)] at this
  exact this
 have H := Lib.hid h
 have HL := Lib.hid hl
 have HNOK := Lib.hid hn
 have H0 := Lib.hid h0
 have hbd := h.ok.at_bounds
 clear h hn h0 H1 hl
 obtain ⟨k, f, t, u, x, y, z⟩ := n
 simp only [nodeA] at *
 have hy := hbd y
 have hz := hbd z
 have hS : szN p ⟨k, f, t, u, x, y, z⟩ = 1 + szP p y + szP p z := rfl
 have hD : dpN p ⟨k, f, t, u, x, y, z⟩ = 1 + max (dpP p y) (dpP p z) := rfl
 have ps := fun (W : World) (hW : IsPool W B a b v p) => psize hW y
 have ps' := fun (W : World) (hW : IsPool W B a b v p) => psize hW z
 have pd := fun (W : World) (hW : IsPool W B a b v p) => pdepth hW y
 have pd' := fun (W : World) (hW : IsPool W B a b v p) => pdepth hW z
 generalize szP p y = s1 at *
 generalize szP p z = s2 at *
 generalize dpP p y = d1 at *
 generalize dpP p z = d2 at *
 have PS := Lib.hid ps
 have PS' := Lib.hid ps'
 have PD := Lib.hid pd
 have PD' := Lib.hid pd'
 have HS := Lib.hid hS
 have HD := Lib.hid hD
 obtain ⟨⟨a1, a2⟩, a3, a4⟩ := hy
 obtain ⟨⟨b1, b2⟩, b3, b4⟩ := hz
 clear hbd ps ps' pd pd' hS hD
 obtain ⟨z0, z1, z2, z3, z4, z5, z6⟩ := cs7 hb rfl rfl rfl rfl rfl rfl rfl
 have HA := Lib.hid bA
 clear hb bA
 go_enter Tryz.func158, Tryz.ntmps158
 go_wp2_with fail
 generalize (w.alloc (.cells #[.int .i64 k, .int .i64 f, .int .i64 t, .int .u64 u, .string x, .int .i64 y, .int .i64 z] NodeT)) = W at *
 go_quiet (fail)
 go_wp2_with fail
 have hq : Below W.heap.size W (W.drewN nq) := bdn _ _
 have HA1 := Lib.hid (bmore HA.out hq)
 replace z0 := bcellAt hq z0
 replace z1 := bcellAt hq z1
 replace z2 := bcellAt hq z2
 replace z3 := bcellAt hq z3
 replace z4 := bcellAt hq z4
 replace z5 := bcellAt hq z5
 replace z6 := bcellAt hq z6
 clear hq c0 hrun
 generalize W.drewN nq = V at *
 have HP := Lib.hid (H.out.below HA1.out)
 have hk : ∀ w' : World, Below V.heap.size V w' → w'.cell? ⟨w.heap.size, 0, none⟩ = some (.int .i64 k) ∧ w'.cell? ⟨w.heap.size, 1, none⟩ = some (.int .i64 f) ∧ w'.cell? ⟨w.heap.size, 2, none⟩ = some (.int .i64 t) ∧ w'.cell? ⟨w.heap.size, 3, none⟩ = some (.int .u64 u) ∧ w'.cell? ⟨w.heap.size, 4, none⟩ = some (.string x) ∧ w'.cell? ⟨w.heap.size, 5, none⟩ = some (.int .i64 y) ∧ w'.cell? ⟨w.heap.size, 6, none⟩ = some (.int .i64 z) ∧ Below V.heap.size V w' := fun w' hb => ⟨bcellAt hb z0, bcellAt hb z1, bcellAt hb z2, bcellAt hb z3, bcellAt hb z4, bcellAt hb z5, bcellAt hb z6, hb⟩
 have HK := Lib.hid hk
 clear hk
 have i1 : IntKind.i64.wrap (1 + s1) = 1 + s1 := IntWalk.i64_in _ (by omega)
 have i2 : IntKind.i64.wrap (1 + s1 + s2) = 1 + s1 + s2 := IntWalk.i64_in _ (by omega)
 have i3 : IntKind.i64.wrap (1 + max d1 d2) = 1 + max d1 d2 := IntWalk.i64_in _ (by omega)
 refine lex_start [0, 1, 2, 3, 6, 7, 8, 11, 12, 13, 15, 16, 17, 4, 5, 9, 10, 14, 18, 19, 20, 21, 22, 23] (S := fun W => W.cell? ⟨w.heap.size, 0, none⟩ = some (.int .i64 k) ∧ W.cell? ⟨w.heap.size, 1, none⟩ = some (.int .i64 f) ∧ W.cell? ⟨w.heap.size, 2, none⟩ = some (.int .i64 t) ∧ W.cell? ⟨w.heap.size, 3, none⟩ = some (.int .u64 u) ∧ W.cell? ⟨w.heap.size, 4, none⟩ = some (.string x) ∧ W.cell? ⟨w.heap.size, 5, none⟩ = some (.int .i64 y) ∧ W.cell? ⟨w.heap.size, 6, none⟩ = some (.int .i64 z) ∧ Below V.heap.size V W) (by kernel_rfl) (HK.out _ (bd _)) (fun hS => ?_)
 simp only [inOrder, List.filterMap, List.getElem?_cons_succ, List.getElem?_cons_zero]
 have b0 := bd V
 refine lex_take (i := 0) (v := ?_) rfl (by kernel_rfl) (by kernel_rfl) (by kernel_rfl) (by rfl) (HK.out _ b0) ?_ ?_
 rotate_left
 ·((intro W hW; obtain ⟨k0, k1, k2, k3, k4, k5, k6, k7⟩ := hW; go_simp) <;> with_reducible rfl)
 simp only [Act.put, List.setIfInBounds_toArray, List.set_cons_zero, List.set_cons_succ]
 refine lex_take (i := 1) (v := ?_) rfl (by kernel_rfl) (by kernel_rfl) (by kernel_rfl) (by rfl) (HK.out _ b0) ?_ ?_
 rotate_left
 ·((intro W hW; obtain ⟨k0, k1, k2, k3, k4, k5, k6, k7⟩ := hW; go_simp) <;> with_reducible rfl)
 simp only [Act.put, List.setIfInBounds_toArray, List.set_cons_zero, List.set_cons_succ]
 refine lex_take (i := 2) (v := ?_) rfl (by kernel_rfl) (by kernel_rfl) (by kernel_rfl) (by rfl) (HK.out _ b0) ?_ ?_
 rotate_left
 ·((intro W hW; obtain ⟨k0, k1, k2, k3, k4, k5, k6, k7⟩ := hW; go_simp) <;> with_reducible rfl)
 simp only [Act.put, List.setIfInBounds_toArray, List.set_cons_zero, List.set_cons_succ]
 refine lex_take (i := 3) (v := ?_) rfl (by kernel_rfl) (by kernel_rfl) (by kernel_rfl) (by rfl) (HK.out _ b0) ?_ ?_
 rotate_left
 ·((intro W hW; obtain ⟨k0, k1, k2, k3, k4, k5, k6, k7⟩ := hW; go_simp) <;> with_reducible rfl)
 simp only [Act.put, List.setIfInBounds_toArray, List.set_cons_zero, List.set_cons_succ]
 refine lex_take (i := 6) (v := ?_) rfl (by kernel_rfl) (by kernel_rfl) (by kernel_rfl) (by rfl) (HK.out _ b0) ?_ ?_
 rotate_left
 ·((intro W hW; obtain ⟨k0, k1, k2, k3, k4, k5, k6, k7⟩ := hW; go_simp) <;> with_reducible rfl)
 simp only [Act.put, List.setIfInBounds_toArray, List.set_cons_zero, List.set_cons_succ]
 refine lex_take (i := 7) (v := ?_) rfl (by kernel_rfl) (by kernel_rfl) (by kernel_rfl) (by rfl) (HK.out _ b0) ?_ ?_
 rotate_left
 ·((intro W hW; obtain ⟨k0, k1, k2, k3, k4, k5, k6, k7⟩ := hW; go_simp) <;> with_reducible rfl)
 simp only [Act.put, List.setIfInBounds_toArray, List.set_cons_zero, List.set_cons_succ]
 refine lex_take (i := 8) (v := ?_) rfl (by kernel_rfl) (by kernel_rfl) (by kernel_rfl) (by rfl) (HK.out _ b0) ?_ ?_
 rotate_left
 ·((intro W hW; obtain ⟨k0, k1, k2, k3, k4, k5, k6, k7⟩ := hW; go_simp) <;> with_reducible rfl)
 simp only [Act.put, List.setIfInBounds_toArray, List.set_cons_zero, List.set_cons_succ]
 refine lex_take (i := 11) (v := ?_) rfl (by kernel_rfl) (by kernel_rfl) (by kernel_rfl) (by rfl) (HK.out _ b0) ?_ ?_
 rotate_left
 ·((intro W hW; obtain ⟨k0, k1, k2, k3, k4, k5, k6, k7⟩ := hW; go_simp) <;> with_reducible rfl)
 simp only [Act.put, List.setIfInBounds_toArray, List.set_cons_zero, List.set_cons_succ]
 refine lex_take (i := 12) (v := ?_) rfl (by kernel_rfl) (by kernel_rfl) (by kernel_rfl) (by rfl) (HK.out _ b0) ?_ ?_
 rotate_left
 ·((intro W hW; obtain ⟨k0, k1, k2, k3, k4, k5, k6, k7⟩ := hW; go_simp) <;> with_reducible rfl)
 simp only [Act.put, List.setIfInBounds_toArray, List.set_cons_zero, List.set_cons_succ]
 refine lex_take (i := 13) (v := ?_) rfl (by kernel_rfl) (by kernel_rfl) (by kernel_rfl) (by rfl) (HK.out _ b0) ?_ ?_
 rotate_left
 ·((intro W hW; obtain ⟨k0, k1, k2, k3, k4, k5, k6, k7⟩ := hW; go_simp) <;> with_reducible rfl)
 simp only [Act.put, List.setIfInBounds_toArray, List.set_cons_zero, List.set_cons_succ]
 refine lex_take (i := 15) (v := ?_) rfl (by kernel_rfl) (by kernel_rfl) (by kernel_rfl) (by rfl) (HK.out _ b0) ?_ ?_
 rotate_left
 ·((intro W hW; obtain ⟨k0, k1, k2, k3, k4, k5, k6, k7⟩ := hW; go_simp) <;> with_reducible rfl)
 simp only [Act.put, List.setIfInBounds_toArray, List.set_cons_zero, List.set_cons_succ]
 refine lex_take (i := 16) (v := ?_) rfl (by kernel_rfl) (by kernel_rfl) (by kernel_rfl) (by rfl) (HK.out _ b0) ?_ ?_
 rotate_left
 ·((intro W hW; obtain ⟨k0, k1, k2, k3, k4, k5, k6, k7⟩ := hW; go_simp) <;> with_reducible rfl)
 simp only [Act.put, List.setIfInBounds_toArray, List.set_cons_zero, List.set_cons_succ]
 refine lex_take (i := 17) (v := ?_) rfl (by kernel_rfl) (by kernel_rfl) (by kernel_rfl) (by rfl) (HK.out _ b0) ?_ ?_
 rotate_left
 ·((intro W hW; obtain ⟨k0, k1, k2, k3, k4, k5, k6, k7⟩ := hW; go_simp) <;> with_reducible rfl)
 simp only [Act.put, List.setIfInBounds_toArray, List.set_cons_zero, List.set_cons_succ]
 refine lex_reorder [4, 22, 5, 9, 10, 14, 18, 19, 20, 21, 23] ?_
 simp only [inOrder, List.filterMap, List.getElem?_cons_succ, List.getElem?_cons_zero]
 refine lex_two (i := 4) (j := 22) rfl rfl (by kernel_rfl) (by rfl) (by rfl) (fun K hK => ?_) (fun K hK => ?_)
 ·go_simp
  refine (PS.out _ (HP.out.below b0)).mono ?_
  rintro e w1 ⟨rfl, u1⟩
  have b1 := bmore b0 u1
  refine hK _ _ ⟨HK.out _ b1, ?_⟩
  clear hK K
  refine lex_reorder [5, 9, 10, 14, 18, 19, 20, 21, 22, 23] ?_
  simp only [inOrder, List.filterMap, List.getElem?_cons_succ, List.getElem?_cons_zero]
  refine lex_take (i := 5) (v := ?_) rfl (by kernel_rfl) (by kernel_rfl) (by kernel_rfl) (by rfl) (HK.out _ b1) ?_ ?_
  rotate_left
  ·((intro W hW; obtain ⟨k0, k1, k2, k3, k4, k5, k6, k7⟩ := hW; go_simp) <;> with_reducible rfl)
  simp only [Act.put, List.setIfInBounds_toArray, List.set_cons_zero, List.set_cons_succ]
  refine lex_reorder [9, 22, 10, 14, 18, 19, 20, 21, 23] ?_
  simp only [inOrder, List.filterMap, List.getElem?_cons_succ, List.getElem?_cons_zero]
  refine lex_two (i := 9) (j := 22) rfl rfl (by kernel_rfl) (by rfl) (by rfl) (fun K hK => ?_) (fun K hK => ?_)
  ·go_simp
   refine (PS'.out _ (HP.out.below b1)).mono ?_
   rintro e w2 ⟨rfl, u2⟩
   have b2 := bmore b1 u2
   refine hK _ _ ⟨HK.out _ b2, ?_⟩
   clear hK K
   refine lex_reorder [10, 14, 18, 19, 20, 21, 22, 23] ?_
   simp only [inOrder, List.filterMap, List.getElem?_cons_succ, List.getElem?_cons_zero]
   refine lex_take (i := 10) (v := ?_) rfl (by kernel_rfl) (by kernel_rfl) (by kernel_rfl) (by rfl) (HK.out _ b2) ?_ ?_
   rotate_left
   ·((intro W hW; obtain ⟨k0, k1, k2, k3, k4, k5, k6, k7⟩ := hW; go_simp) <;> with_reducible rfl)
   simp only [Act.put, List.setIfInBounds_toArray, List.set_cons_zero, List.set_cons_succ]
   refine lex_reorder [14, 22, 18, 19, 20, 21, 23] ?_
   simp only [inOrder, List.filterMap, List.getElem?_cons_succ, List.getElem?_cons_zero]
   refine lex_two (i := 14) (j := 22) rfl rfl (by kernel_rfl) (by rfl) (by rfl) (fun K hK => ?_) (fun K hK => ?_)
   ·go_simp
    refine (PD.out _ (HP.out.below b2)).mono ?_
    rintro e w3 ⟨rfl, u3⟩
    have b3 := bmore b2 u3
    refine hK _ _ ⟨HK.out _ b3, ?_⟩
    clear hK K
    refine lex_reorder [18, 22, 19, 20, 21, 23] ?_
    simp only [inOrder, List.filterMap, List.getElem?_cons_succ, List.getElem?_cons_zero]
    refine lex_two (i := 18) (j := 22) rfl rfl (by kernel_rfl) (by rfl) (by rfl) (fun K hK => ?_) (fun K hK => ?_)
    ·go_simp
     refine (PD'.out _ (HP.out.below b3)).mono ?_
     rintro e w4 ⟨rfl, u4⟩
     have b4 := bmore b3 u4
     refine hK _ _ ⟨HK.out _ b4, ?_⟩
     clear hK K
     refine lex_reorder [19, 20, 21, 22, 23] ?_
     simp only [inOrder, List.filterMap, List.getElem?_cons_succ, List.getElem?_cons_zero]
     refine lex_take (i := 19) (v := ?_) rfl (by kernel_rfl) (by kernel_rfl) (by kernel_rfl) (by rfl) (HK.out _ b4) ?_ ?_
     rotate_left
     ·((intro W hW; obtain ⟨k0, k1, k2, k3, k4, k5, k6, k7⟩ := hW; go_simp) <;> with_reducible rfl)
     simp only [Act.put, List.setIfInBounds_toArray, List.set_cons_zero, List.set_cons_succ]
     refine lex_take (i := 20) (v := ?_) rfl (by kernel_rfl) (by kernel_rfl) (by kernel_rfl) (by rfl) (HK.out _ b4) ?_ ?_
     rotate_left
     ·((intro W hW; obtain ⟨k0, k1, k2, k3, k4, k5, k6, k7⟩ := hW; go_simp) <;> with_reducible rfl)
     simp only [Act.put, List.setIfInBounds_toArray, List.set_cons_zero, List.set_cons_succ]
     refine lex_take (i := 21) (v := ?_) rfl (by kernel_rfl) (by kernel_rfl) (by kernel_rfl) (by rfl) (HK.out _ b4) ?_ ?_
     rotate_left
     ·((intro W hW; obtain ⟨k0, k1, k2, k3, k4, k5, k6, k7⟩ := hW; go_simp) <;> with_reducible rfl)
     simp only [Act.put, List.setIfInBounds_toArray, List.set_cons_zero, List.set_cons_succ]
     refine lex_reorder [22, 23] ?_
     simp only [inOrder, List.filterMap, List.getElem?_cons_succ, List.getElem?_cons_zero]
     refine lex_do (i := 22) rfl (by kernel_rfl) (by rfl) (fun K hK => ?_)
     go_simp
     refine hK _ _ ⟨HK.out _ (bAl b4 _), ?_⟩
     clear hK K
     refine lex_do (i := 23) rfl (by kernel_rfl) (by rfl) (fun K hK => ?_)
     go_simp
     refine hK _ _ ⟨HK.out _ (bAl b4 _), ?_⟩
     clear hK K
     refine lex_done (by kernel_rfl) ?_
     have hb8 : (w4.alloc (.cells #[.int .i64 k, .int .i64 f, .int .i64 t, .int .u64 u, .string x, .int .i64 y, .int .i64 z, .int .i64 (1 + s1 + s2), .int .i64 (1 + max d1 d2)] MadeT)).heap[w4.heap.size]? = some (Obj.cells #[.int .i64 k, .int .i64 f, .int .i64 t, .int .u64 u, .string x, .int .i64 y, .int .i64 z, .int .i64 (1 + s1 + s2), .int .i64 (1 + max d1 d2)] MadeT) := heap_alloc_new _ _
     have hbl : Below V.heap.size V (w4.alloc (.cells #[.int .i64 k, .int .i64 f, .int .i64 t, .int .u64 u, .string x, .int .i64 y, .int .i64 z, .int .i64 (1 + s1 + s2), .int .i64 (1 + max d1 d2)] MadeT)) := bAl b4 _
     clear z0 z1 z2 z3 z4 z5 z6 i1 i2 i3
     generalize (w4.alloc (.cells #[.int .i64 k, .int .i64 f, .int .i64 t, .int .u64 u, .string x, .int .i64 y, .int .i64 z, .int .i64 (1 + s1 + s2), .int .i64 (1 + max d1 d2)] MadeT)) = X at *
     have c0 : X.cell? ⟨w4.heap.size, 0, none⟩ = some (.int .i64 k) := cellB hb8 rfl
     have c1 : X.cell? ⟨w4.heap.size, 1, none⟩ = some (.int .i64 f) := cellB hb8 rfl
     have c2 : X.cell? ⟨w4.heap.size, 2, none⟩ = some (.int .i64 t) := cellB hb8 rfl
     have c3 : X.cell? ⟨w4.heap.size, 3, none⟩ = some (.int .u64 u) := cellB hb8 rfl
     have c4 : X.cell? ⟨w4.heap.size, 4, none⟩ = some (.string x) := cellB hb8 rfl
     have c5 : X.cell? ⟨w4.heap.size, 5, none⟩ = some (.int .i64 y) := cellB hb8 rfl
     have c6 : X.cell? ⟨w4.heap.size, 6, none⟩ = some (.int .i64 z) := cellB hb8 rfl
     have c7 : X.cell? ⟨w4.heap.size, 7, none⟩ = some (.int .i64 (1 + s1 + s2)) := cellB hb8 rfl
     have c8 : X.cell? ⟨w4.heap.size, 8, none⟩ = some (.int .i64 (1 + max d1 d2)) := cellB hb8 rfl
     have HX8 := Lib.hid hb8
     have HXL := Lib.hid hbl
     clear hb8 hbl
     generalize w4.heap.size = AD at *
     go_wp2_with fail
     refine (prefuse (HP.out.below HXL.out) (HL.out.below (bmore HA1.out HXL.out)) HNOK.out HS.out HD.out).mono ?_
     rintro e w6 ⟨rfl, u6⟩
     have hb6 := Hold.below u6 _ _ HX8.out
     have HU6 := Lib.hid (bmore HA1.out (bmore HXL.out u6))
     clear u6 c0 c1 c2 c3 c4 c5 c6 c7 c8
     have c0 : w6.cell? ⟨AD, 0, none⟩ = some (.int .i64 k) := cellB hb6 rfl
     have c1 : w6.cell? ⟨AD, 1, none⟩ = some (.int .i64 f) := cellB hb6 rfl
     have c2 : w6.cell? ⟨AD, 2, none⟩ = some (.int .i64 t) := cellB hb6 rfl
     have c3 : w6.cell? ⟨AD, 3, none⟩ = some (.int .u64 u) := cellB hb6 rfl
     have c4 : w6.cell? ⟨AD, 4, none⟩ = some (.string x) := cellB hb6 rfl
     have c5 : w6.cell? ⟨AD, 5, none⟩ = some (.int .i64 y) := cellB hb6 rfl
     have c6 : w6.cell? ⟨AD, 6, none⟩ = some (.int .i64 z) := cellB hb6 rfl
     have c7 : w6.cell? ⟨AD, 7, none⟩ = some (.int .i64 (1 + s1 + s2)) := cellB hb6 rfl
     have c8 : w6.cell? ⟨AD, 8, none⟩ = some (.int .i64 (1 + max d1 d2)) := cellB hb6 rfl
     clear hb6
     by_cases hr : refP p ⟨k, f, t, u, x, y, z⟩ = 0
     ·rw [hr]
      have HM := Lib.hid (mkP_zero H0.out hr)
      have hrr := ref_zero hr
      have HRR := Lib.hid hrr
      clear hr hrr
      go_wp2_with fail
      refine (padd (H.out.below HU6.out) HNOK.out HS.out HD.out HRR.out.1 H0.out HRR.out.2 (text_small HRR.out.1)).mono ?_
      rintro e w7 ⟨rfl, hg⟩
      have HG := Lib.hid hg
      clear hg
      go_wp2_with fail
      go_returns
      exact ⟨by rw [HM.out]; rfl, by rw [HM.out]; exact Grew.after H.out HU6.out HG.out⟩
     ·have HM := Lib.hid (mkP_ref H0.out hr)
      have r1 : (refP p ⟨k, f, t, u, x, y, z⟩ == 0) = false := by rw [beq_eq_false_iff_ne]; exact hr
      have r2 : (refP p ⟨k, f, t, u, x, y, z⟩ != 0) = true := by rw [bne_iff_ne]; exact hr
      clear hr
      go_wp2_with fail
      go_returns
      exact ⟨by rw [HM.out]; rfl, by rw [HM.out]; exact Grew.same H.out HU6.out⟩
    ·go_simp
     have q : (w3.alloc (.cells #[.int .i64 0, .int .i64 0, .int .i64 0, .int .u64 0, .string ⟨#[]⟩, .int .i64 0, .int .i64 0, .int .i64 0, .int .i64 0] MadeT)).heap[w3.heap.size]? = some (Obj.cells #[.int .i64 0, .int .i64 0, .int .i64 0, .int .u64 0, .string ⟨#[]⟩, .int .i64 0, .int .i64 0, .int .i64 0, .int .i64 0] MadeT) := heap_alloc_new _ _
     have ba := bAl b3 (.cells #[.int .i64 0, .int .i64 0, .int .i64 0, .int .u64 0, .string ⟨#[]⟩, .int .i64 0, .int .i64 0, .int .i64 0, .int .i64 0] MadeT)
     refine hK _ _ ⟨HK.out _ ba, ?_⟩
     clear hK K
     have bx : Below V.heap.size V w3 := b3
     refine lex_reorder [18, 19, 20, 21, 23] ?_
     simp only [inOrder, List.filterMap, List.getElem?_cons_succ, List.getElem?_cons_zero]
     refine lex_do (i := 18) rfl (by kernel_rfl) (by rfl) (fun K hK => ?_)
     go_simp
     refine (PD'.out _ (HP.out.below ba)).mono ?_
     rintro e w4 ⟨rfl, u4⟩
     have b4 := bmore ba u4
     have q := Hold.below u4 _ _ q
     refine hK _ _ ⟨HK.out _ b4, ?_⟩
     clear hK K
     refine lex_reorder [19, 20, 21, 23] ?_
     simp only [inOrder, List.filterMap, List.getElem?_cons_succ, List.getElem?_cons_zero]
     refine lex_take (i := 19) (v := ?_) rfl (by kernel_rfl) (by kernel_rfl) (by kernel_rfl) (by rfl) (HK.out _ b4) ?_ ?_
     rotate_left
     ·((intro W hW; obtain ⟨k0, k1, k2, k3, k4, k5, k6, k7⟩ := hW; go_simp) <;> with_reducible rfl)
     simp only [Act.put, List.setIfInBounds_toArray, List.set_cons_zero, List.set_cons_succ]
     refine lex_take (i := 20) (v := ?_) rfl (by kernel_rfl) (by kernel_rfl) (by kernel_rfl) (by rfl) (HK.out _ b4) ?_ ?_
     rotate_left
     ·((intro W hW; obtain ⟨k0, k1, k2, k3, k4, k5, k6, k7⟩ := hW; go_simp) <;> with_reducible rfl)
     simp only [Act.put, List.setIfInBounds_toArray, List.set_cons_zero, List.set_cons_succ]
     refine lex_take (i := 21) (v := ?_) rfl (by kernel_rfl) (by kernel_rfl) (by kernel_rfl) (by rfl) (HK.out _ b4) ?_ ?_
     rotate_left
     ·((intro W hW; obtain ⟨k0, k1, k2, k3, k4, k5, k6, k7⟩ := hW; go_simp) <;> with_reducible rfl)
     simp only [Act.put, List.setIfInBounds_toArray, List.set_cons_zero, List.set_cons_succ]
     have b5 : Below V.heap.size V (w4.setRow w3.heap.size #[.int .i64 k, .int .i64 f, .int .i64 t, .int .u64 u, .string x, .int .i64 y, .int .i64 z, .int .i64 (1 + s1 + s2), .int .i64 (1 + max d1 d2)]) := bRow b4 bx _
     refine lex_do (i := 23) rfl (by kernel_rfl) (by rfl) (fun K hK => ?_)
     refine wp_store_row MadeT _ _ rfl w3.heap.size #[.int .i64 k, .int .i64 f, .int .i64 t, .int .u64 u, .string x, .int .i64 y, .int .i64 z, .int .i64 (1 + s1 + s2), .int .i64 (1 + max d1 d2)] rfl rfl MadeT #[.int .i64 0, .int .i64 0, .int .i64 0, .int .u64 0, .string ⟨#[]⟩, .int .i64 0, .int .i64 0, .int .i64 0, .int .i64 0] q (by kernel_rfl) rfl (by simp [Value.oneCell']) ?_
     refine hK _ _ ⟨HK.out _ b5, ?_⟩
     clear hK K
     refine lex_done (by kernel_rfl) ?_
     have hb8 : (w4.setRow w3.heap.size #[.int .i64 k, .int .i64 f, .int .i64 t, .int .u64 u, .string x, .int .i64 y, .int .i64 z, .int .i64 (1 + s1 + s2), .int .i64 (1 + max d1 d2)]).heap[w3.heap.size]? = some (Obj.cells #[.int .i64 k, .int .i64 f, .int .i64 t, .int .u64 u, .string x, .int .i64 y, .int .i64 z, .int .i64 (1 + s1 + s2), .int .i64 (1 + max d1 d2)] MadeT) := setRow_heap _ _ _ _ _ _ q
     have hbl : Below V.heap.size V (w4.setRow w3.heap.size #[.int .i64 k, .int .i64 f, .int .i64 t, .int .u64 u, .string x, .int .i64 y, .int .i64 z, .int .i64 (1 + s1 + s2), .int .i64 (1 + max d1 d2)]) := b5
     clear z0 z1 z2 z3 z4 z5 z6 i1 i2 i3
     generalize (w4.setRow w3.heap.size #[.int .i64 k, .int .i64 f, .int .i64 t, .int .u64 u, .string x, .int .i64 y, .int .i64 z, .int .i64 (1 + s1 + s2), .int .i64 (1 + max d1 d2)]) = X at *
     have c0 : X.cell? ⟨w3.heap.size, 0, none⟩ = some (.int .i64 k) := cellB hb8 rfl
     have c1 : X.cell? ⟨w3.heap.size, 1, none⟩ = some (.int .i64 f) := cellB hb8 rfl
     have c2 : X.cell? ⟨w3.heap.size, 2, none⟩ = some (.int .i64 t) := cellB hb8 rfl
     have c3 : X.cell? ⟨w3.heap.size, 3, none⟩ = some (.int .u64 u) := cellB hb8 rfl
     have c4 : X.cell? ⟨w3.heap.size, 4, none⟩ = some (.string x) := cellB hb8 rfl
     have c5 : X.cell? ⟨w3.heap.size, 5, none⟩ = some (.int .i64 y) := cellB hb8 rfl
     have c6 : X.cell? ⟨w3.heap.size, 6, none⟩ = some (.int .i64 z) := cellB hb8 rfl
     have c7 : X.cell? ⟨w3.heap.size, 7, none⟩ = some (.int .i64 (1 + s1 + s2)) := cellB hb8 rfl
     have c8 : X.cell? ⟨w3.heap.size, 8, none⟩ = some (.int .i64 (1 + max d1 d2)) := cellB hb8 rfl
     have HX8 := Lib.hid hb8
     have HXL := Lib.hid hbl
     clear hb8 hbl
     generalize w3.heap.size = AD at *
     go_wp2_with fail
     refine (prefuse (HP.out.below HXL.out) (HL.out.below (bmore HA1.out HXL.out)) HNOK.out HS.out HD.out).mono ?_
     rintro e w6 ⟨rfl, u6⟩
     have hb6 := Hold.below u6 _ _ HX8.out
     have HU6 := Lib.hid (bmore HA1.out (bmore HXL.out u6))
     clear u6 c0 c1 c2 c3 c4 c5 c6 c7 c8
     have c0 : w6.cell? ⟨AD, 0, none⟩ = some (.int .i64 k) := cellB hb6 rfl
     have c1 : w6.cell? ⟨AD, 1, none⟩ = some (.int .i64 f) := cellB hb6 rfl
     have c2 : w6.cell? ⟨AD, 2, none⟩ = some (.int .i64 t) := cellB hb6 rfl
     have c3 : w6.cell? ⟨AD, 3, none⟩ = some (.int .u64 u) := cellB hb6 rfl
     have c4 : w6.cell? ⟨AD, 4, none⟩ = some (.string x) := cellB hb6 rfl
     have c5 : w6.cell? ⟨AD, 5, none⟩ = some (.int .i64 y) := cellB hb6 rfl
     have c6 : w6.cell? ⟨AD, 6, none⟩ = some (.int .i64 z) := cellB hb6 rfl
     have c7 : w6.cell? ⟨AD, 7, none⟩ = some (.int .i64 (1 + s1 + s2)) := cellB hb6 rfl
     have c8 : w6.cell? ⟨AD, 8, none⟩ = some (.int .i64 (1 + max d1 d2)) := cellB hb6 rfl
     clear hb6
     by_cases hr : refP p ⟨k, f, t, u, x, y, z⟩ = 0
     ·rw [hr]
      have HM := Lib.hid (mkP_zero H0.out hr)
      have hrr := ref_zero hr
      have HRR := Lib.hid hrr
      clear hr hrr
      go_wp2_with fail
      refine (padd (H.out.below HU6.out) HNOK.out HS.out HD.out HRR.out.1 H0.out HRR.out.2 (text_small HRR.out.1)).mono ?_
      rintro e w7 ⟨rfl, hg⟩
      have HG := Lib.hid hg
      clear hg
      go_wp2_with fail
      go_returns
      exact ⟨by rw [HM.out]; rfl, by rw [HM.out]; exact Grew.after H.out HU6.out HG.out⟩
     ·have HM := Lib.hid (mkP_ref H0.out hr)
      have r1 : (refP p ⟨k, f, t, u, x, y, z⟩ == 0) = false := by rw [beq_eq_false_iff_ne]; exact hr
      have r2 : (refP p ⟨k, f, t, u, x, y, z⟩ != 0) = true := by rw [bne_iff_ne]; exact hr
      clear hr
      go_wp2_with fail
      go_returns
      exact ⟨by rw [HM.out]; rfl, by rw [HM.out]; exact Grew.same H.out HU6.out⟩
   ·go_simp
    have q : (w2.alloc (.cells #[.int .i64 0, .int .i64 0, .int .i64 0, .int .u64 0, .string ⟨#[]⟩, .int .i64 0, .int .i64 0, .int .i64 0, .int .i64 0] MadeT)).heap[w2.heap.size]? = some (Obj.cells #[.int .i64 0, .int .i64 0, .int .i64 0, .int .u64 0, .string ⟨#[]⟩, .int .i64 0, .int .i64 0, .int .i64 0, .int .i64 0] MadeT) := heap_alloc_new _ _
    have ba := bAl b2 (.cells #[.int .i64 0, .int .i64 0, .int .i64 0, .int .u64 0, .string ⟨#[]⟩, .int .i64 0, .int .i64 0, .int .i64 0, .int .i64 0] MadeT)
    refine hK _ _ ⟨HK.out _ ba, ?_⟩
    clear hK K
    have bx : Below V.heap.size V w2 := b2
    refine lex_reorder [14, 18, 19, 20, 21, 23] ?_
    simp only [inOrder, List.filterMap, List.getElem?_cons_succ, List.getElem?_cons_zero]
    refine lex_do (i := 14) rfl (by kernel_rfl) (by rfl) (fun K hK => ?_)
    go_simp
    refine (PD.out _ (HP.out.below ba)).mono ?_
    rintro e w3 ⟨rfl, u3⟩
    have b3 := bmore ba u3
    have q := Hold.below u3 _ _ q
    refine hK _ _ ⟨HK.out _ b3, ?_⟩
    clear hK K
    refine lex_reorder [18, 19, 20, 21, 23] ?_
    simp only [inOrder, List.filterMap, List.getElem?_cons_succ, List.getElem?_cons_zero]
    refine lex_do (i := 18) rfl (by kernel_rfl) (by rfl) (fun K hK => ?_)
    go_simp
    refine (PD'.out _ (HP.out.below b3)).mono ?_
    rintro e w4 ⟨rfl, u4⟩
    have b4 := bmore b3 u4
    have q := Hold.below u4 _ _ q
    refine hK _ _ ⟨HK.out _ b4, ?_⟩
    clear hK K
    refine lex_reorder [19, 20, 21, 23] ?_
    simp only [inOrder, List.filterMap, List.getElem?_cons_succ, List.getElem?_cons_zero]
    refine lex_take (i := 19) (v := ?_) rfl (by kernel_rfl) (by kernel_rfl) (by kernel_rfl) (by rfl) (HK.out _ b4) ?_ ?_
    rotate_left
    ·((intro W hW; obtain ⟨k0, k1, k2, k3, k4, k5, k6, k7⟩ := hW; go_simp) <;> with_reducible rfl)
    simp only [Act.put, List.setIfInBounds_toArray, List.set_cons_zero, List.set_cons_succ]
    refine lex_take (i := 20) (v := ?_) rfl (by kernel_rfl) (by kernel_rfl) (by kernel_rfl) (by rfl) (HK.out _ b4) ?_ ?_
    rotate_left
    ·((intro W hW; obtain ⟨k0, k1, k2, k3, k4, k5, k6, k7⟩ := hW; go_simp) <;> with_reducible rfl)
    simp only [Act.put, List.setIfInBounds_toArray, List.set_cons_zero, List.set_cons_succ]
    refine lex_take (i := 21) (v := ?_) rfl (by kernel_rfl) (by kernel_rfl) (by kernel_rfl) (by rfl) (HK.out _ b4) ?_ ?_
    rotate_left
    ·((intro W hW; obtain ⟨k0, k1, k2, k3, k4, k5, k6, k7⟩ := hW; go_simp) <;> with_reducible rfl)
    simp only [Act.put, List.setIfInBounds_toArray, List.set_cons_zero, List.set_cons_succ]
    have b5 : Below V.heap.size V (w4.setRow w2.heap.size #[.int .i64 k, .int .i64 f, .int .i64 t, .int .u64 u, .string x, .int .i64 y, .int .i64 z, .int .i64 (1 + s1 + s2), .int .i64 (1 + max d1 d2)]) := bRow b4 bx _
    refine lex_do (i := 23) rfl (by kernel_rfl) (by rfl) (fun K hK => ?_)
    refine wp_store_row MadeT _ _ rfl w2.heap.size #[.int .i64 k, .int .i64 f, .int .i64 t, .int .u64 u, .string x, .int .i64 y, .int .i64 z, .int .i64 (1 + s1 + s2), .int .i64 (1 + max d1 d2)] rfl rfl MadeT #[.int .i64 0, .int .i64 0, .int .i64 0, .int .u64 0, .string ⟨#[]⟩, .int .i64 0, .int .i64 0, .int .i64 0, .int .i64 0] q (by kernel_rfl) rfl (by simp [Value.oneCell']) ?_
    refine hK _ _ ⟨HK.out _ b5, ?_⟩
    clear hK K
    refine lex_done (by kernel_rfl) ?_
    have hb8 : (w4.setRow w2.heap.size #[.int .i64 k, .int .i64 f, .int .i64 t, .int .u64 u, .string x, .int .i64 y, .int .i64 z, .int .i64 (1 + s1 + s2), .int .i64 (1 + max d1 d2)]).heap[w2.heap.size]? = some (Obj.cells #[.int .i64 k, .int .i64 f, .int .i64 t, .int .u64 u, .string x, .int .i64 y, .int .i64 z, .int .i64 (1 + s1 + s2), .int .i64 (1 + max d1 d2)] MadeT) := setRow_heap _ _ _ _ _ _ q
    have hbl : Below V.heap.size V (w4.setRow w2.heap.size #[.int .i64 k, .int .i64 f, .int .i64 t, .int .u64 u, .string x, .int .i64 y, .int .i64 z, .int .i64 (1 + s1 + s2), .int .i64 (1 + max d1 d2)]) := b5
    clear z0 z1 z2 z3 z4 z5 z6 i1 i2 i3
    generalize (w4.setRow w2.heap.size #[.int .i64 k, .int .i64 f, .int .i64 t, .int .u64 u, .string x, .int .i64 y, .int .i64 z, .int .i64 (1 + s1 + s2), .int .i64 (1 + max d1 d2)]) = X at *
    have c0 : X.cell? ⟨w2.heap.size, 0, none⟩ = some (.int .i64 k) := cellB hb8 rfl
    have c1 : X.cell? ⟨w2.heap.size, 1, none⟩ = some (.int .i64 f) := cellB hb8 rfl
    have c2 : X.cell? ⟨w2.heap.size, 2, none⟩ = some (.int .i64 t) := cellB hb8 rfl
    have c3 : X.cell? ⟨w2.heap.size, 3, none⟩ = some (.int .u64 u) := cellB hb8 rfl
    have c4 : X.cell? ⟨w2.heap.size, 4, none⟩ = some (.string x) := cellB hb8 rfl
    have c5 : X.cell? ⟨w2.heap.size, 5, none⟩ = some (.int .i64 y) := cellB hb8 rfl
    have c6 : X.cell? ⟨w2.heap.size, 6, none⟩ = some (.int .i64 z) := cellB hb8 rfl
    have c7 : X.cell? ⟨w2.heap.size, 7, none⟩ = some (.int .i64 (1 + s1 + s2)) := cellB hb8 rfl
    have c8 : X.cell? ⟨w2.heap.size, 8, none⟩ = some (.int .i64 (1 + max d1 d2)) := cellB hb8 rfl
    have HX8 := Lib.hid hb8
    have HXL := Lib.hid hbl
    clear hb8 hbl
    generalize w2.heap.size = AD at *
    go_wp2_with fail
    refine (prefuse (HP.out.below HXL.out) (HL.out.below (bmore HA1.out HXL.out)) HNOK.out HS.out HD.out).mono ?_
    rintro e w6 ⟨rfl, u6⟩
    have hb6 := Hold.below u6 _ _ HX8.out
    have HU6 := Lib.hid (bmore HA1.out (bmore HXL.out u6))
    clear u6 c0 c1 c2 c3 c4 c5 c6 c7 c8
    have c0 : w6.cell? ⟨AD, 0, none⟩ = some (.int .i64 k) := cellB hb6 rfl
    have c1 : w6.cell? ⟨AD, 1, none⟩ = some (.int .i64 f) := cellB hb6 rfl
    have c2 : w6.cell? ⟨AD, 2, none⟩ = some (.int .i64 t) := cellB hb6 rfl
    have c3 : w6.cell? ⟨AD, 3, none⟩ = some (.int .u64 u) := cellB hb6 rfl
    have c4 : w6.cell? ⟨AD, 4, none⟩ = some (.string x) := cellB hb6 rfl
    have c5 : w6.cell? ⟨AD, 5, none⟩ = some (.int .i64 y) := cellB hb6 rfl
    have c6 : w6.cell? ⟨AD, 6, none⟩ = some (.int .i64 z) := cellB hb6 rfl
    have c7 : w6.cell? ⟨AD, 7, none⟩ = some (.int .i64 (1 + s1 + s2)) := cellB hb6 rfl
    have c8 : w6.cell? ⟨AD, 8, none⟩ = some (.int .i64 (1 + max d1 d2)) := cellB hb6 rfl
    clear hb6
    by_cases hr : refP p ⟨k, f, t, u, x, y, z⟩ = 0
    ·rw [hr]
     have HM := Lib.hid (mkP_zero H0.out hr)
     have hrr := ref_zero hr
     have HRR := Lib.hid hrr
     clear hr hrr
     go_wp2_with fail
     refine (padd (H.out.below HU6.out) HNOK.out HS.out HD.out HRR.out.1 H0.out HRR.out.2 (text_small HRR.out.1)).mono ?_
     rintro e w7 ⟨rfl, hg⟩
     have HG := Lib.hid hg
     clear hg
     go_wp2_with fail
     go_returns
     exact ⟨by rw [HM.out]; rfl, by rw [HM.out]; exact Grew.after H.out HU6.out HG.out⟩
    ·have HM := Lib.hid (mkP_ref H0.out hr)
     have r1 : (refP p ⟨k, f, t, u, x, y, z⟩ == 0) = false := by rw [beq_eq_false_iff_ne]; exact hr
     have r2 : (refP p ⟨k, f, t, u, x, y, z⟩ != 0) = true := by rw [bne_iff_ne]; exact hr
     clear hr
     go_wp2_with fail
     go_returns
     exact ⟨by rw [HM.out]; rfl, by rw [HM.out]; exact Grew.same H.out HU6.out⟩
  ·go_simp
   have q : (w1.alloc (.cells #[.int .i64 0, .int .i64 0, .int .i64 0, .int .u64 0, .string ⟨#[]⟩, .int .i64 0, .int .i64 0, .int .i64 0, .int .i64 0] MadeT)).heap[w1.heap.size]? = some (Obj.cells #[.int .i64 0, .int .i64 0, .int .i64 0, .int .u64 0, .string ⟨#[]⟩, .int .i64 0, .int .i64 0, .int .i64 0, .int .i64 0] MadeT) := heap_alloc_new _ _
   have ba := bAl b1 (.cells #[.int .i64 0, .int .i64 0, .int .i64 0, .int .u64 0, .string ⟨#[]⟩, .int .i64 0, .int .i64 0, .int .i64 0, .int .i64 0] MadeT)
   refine hK _ _ ⟨HK.out _ ba, ?_⟩
   clear hK K
   have bx : Below V.heap.size V w1 := b1
   refine lex_reorder [9, 10, 14, 18, 19, 20, 21, 23] ?_
   simp only [inOrder, List.filterMap, List.getElem?_cons_succ, List.getElem?_cons_zero]
   refine lex_do (i := 9) rfl (by kernel_rfl) (by rfl) (fun K hK => ?_)
   go_simp
   refine (PS'.out _ (HP.out.below ba)).mono ?_
   rintro e w2 ⟨rfl, u2⟩
   have b2 := bmore ba u2
   have q := Hold.below u2 _ _ q
   refine hK _ _ ⟨HK.out _ b2, ?_⟩
   clear hK K
   refine lex_reorder [10, 14, 18, 19, 20, 21, 23] ?_
   simp only [inOrder, List.filterMap, List.getElem?_cons_succ, List.getElem?_cons_zero]
   refine lex_take (i := 10) (v := ?_) rfl (by kernel_rfl) (by kernel_rfl) (by kernel_rfl) (by rfl) (HK.out _ b2) ?_ ?_
   rotate_left
   ·((intro W hW; obtain ⟨k0, k1, k2, k3, k4, k5, k6, k7⟩ := hW; go_simp) <;> with_reducible rfl)
   simp only [Act.put, List.setIfInBounds_toArray, List.set_cons_zero, List.set_cons_succ]
   refine lex_reorder [14, 18, 19, 20, 21, 23] ?_
   simp only [inOrder, List.filterMap, List.getElem?_cons_succ, List.getElem?_cons_zero]
   refine lex_do (i := 14) rfl (by kernel_rfl) (by rfl) (fun K hK => ?_)
   go_simp
   refine (PD.out _ (HP.out.below b2)).mono ?_
   rintro e w3 ⟨rfl, u3⟩
   have b3 := bmore b2 u3
   have q := Hold.below u3 _ _ q
   refine hK _ _ ⟨HK.out _ b3, ?_⟩
   clear hK K
   refine lex_reorder [18, 19, 20, 21, 23] ?_
   simp only [inOrder, List.filterMap, List.getElem?_cons_succ, List.getElem?_cons_zero]
   refine lex_do (i := 18) rfl (by kernel_rfl) (by rfl) (fun K hK => ?_)
   go_simp
   refine (PD'.out _ (HP.out.below b3)).mono ?_
   rintro e w4 ⟨rfl, u4⟩
   have b4 := bmore b3 u4
   have q := Hold.below u4 _ _ q
   refine hK _ _ ⟨HK.out _ b4, ?_⟩
   clear hK K
   refine lex_reorder [19, 20, 21, 23] ?_
   simp only [inOrder, List.filterMap, List.getElem?_cons_succ, List.getElem?_cons_zero]
   refine lex_take (i := 19) (v := ?_) rfl (by kernel_rfl) (by kernel_rfl) (by kernel_rfl) (by rfl) (HK.out _ b4) ?_ ?_
   rotate_left
   ·((intro W hW; obtain ⟨k0, k1, k2, k3, k4, k5, k6, k7⟩ := hW; go_simp) <;> with_reducible rfl)
   simp only [Act.put, List.setIfInBounds_toArray, List.set_cons_zero, List.set_cons_succ]
   refine lex_take (i := 20) (v := ?_) rfl (by kernel_rfl) (by kernel_rfl) (by kernel_rfl) (by rfl) (HK.out _ b4) ?_ ?_
   rotate_left
   ·((intro W hW; obtain ⟨k0, k1, k2, k3, k4, k5, k6, k7⟩ := hW; go_simp) <;> with_reducible rfl)
   simp only [Act.put, List.setIfInBounds_toArray, List.set_cons_zero, List.set_cons_succ]
   refine lex_take (i := 21) (v := ?_) rfl (by kernel_rfl) (by kernel_rfl) (by kernel_rfl) (by rfl) (HK.out _ b4) ?_ ?_
   rotate_left
   ·((intro W hW; obtain ⟨k0, k1, k2, k3, k4, k5, k6, k7⟩ := hW; go_simp) <;> with_reducible rfl)
   simp only [Act.put, List.setIfInBounds_toArray, List.set_cons_zero, List.set_cons_succ]
   have b5 : Below V.heap.size V (w4.setRow w1.heap.size #[.int .i64 k, .int .i64 f, .int .i64 t, .int .u64 u, .string x, .int .i64 y, .int .i64 z, .int .i64 (1 + s1 + s2), .int .i64 (1 + max d1 d2)]) := bRow b4 bx _
   refine lex_do (i := 23) rfl (by kernel_rfl) (by rfl) (fun K hK => ?_)
   refine wp_store_row MadeT _ _ rfl w1.heap.size #[.int .i64 k, .int .i64 f, .int .i64 t, .int .u64 u, .string x, .int .i64 y, .int .i64 z, .int .i64 (1 + s1 + s2), .int .i64 (1 + max d1 d2)] rfl rfl MadeT #[.int .i64 0, .int .i64 0, .int .i64 0, .int .u64 0, .string ⟨#[]⟩, .int .i64 0, .int .i64 0, .int .i64 0, .int .i64 0] q (by kernel_rfl) rfl (by simp [Value.oneCell']) ?_
   refine hK _ _ ⟨HK.out _ b5, ?_⟩
   clear hK K
   refine lex_done (by kernel_rfl) ?_
   have hb8 : (w4.setRow w1.heap.size #[.int .i64 k, .int .i64 f, .int .i64 t, .int .u64 u, .string x, .int .i64 y, .int .i64 z, .int .i64 (1 + s1 + s2), .int .i64 (1 + max d1 d2)]).heap[w1.heap.size]? = some (Obj.cells #[.int .i64 k, .int .i64 f, .int .i64 t, .int .u64 u, .string x, .int .i64 y, .int .i64 z, .int .i64 (1 + s1 + s2), .int .i64 (1 + max d1 d2)] MadeT) := setRow_heap _ _ _ _ _ _ q
   have hbl : Below V.heap.size V (w4.setRow w1.heap.size #[.int .i64 k, .int .i64 f, .int .i64 t, .int .u64 u, .string x, .int .i64 y, .int .i64 z, .int .i64 (1 + s1 + s2), .int .i64 (1 + max d1 d2)]) := b5
   clear z0 z1 z2 z3 z4 z5 z6 i1 i2 i3
   generalize (w4.setRow w1.heap.size #[.int .i64 k, .int .i64 f, .int .i64 t, .int .u64 u, .string x, .int .i64 y, .int .i64 z, .int .i64 (1 + s1 + s2), .int .i64 (1 + max d1 d2)]) = X at *
   have c0 : X.cell? ⟨w1.heap.size, 0, none⟩ = some (.int .i64 k) := cellB hb8 rfl
   have c1 : X.cell? ⟨w1.heap.size, 1, none⟩ = some (.int .i64 f) := cellB hb8 rfl
   have c2 : X.cell? ⟨w1.heap.size, 2, none⟩ = some (.int .i64 t) := cellB hb8 rfl
   have c3 : X.cell? ⟨w1.heap.size, 3, none⟩ = some (.int .u64 u) := cellB hb8 rfl
   have c4 : X.cell? ⟨w1.heap.size, 4, none⟩ = some (.string x) := cellB hb8 rfl
   have c5 : X.cell? ⟨w1.heap.size, 5, none⟩ = some (.int .i64 y) := cellB hb8 rfl
   have c6 : X.cell? ⟨w1.heap.size, 6, none⟩ = some (.int .i64 z) := cellB hb8 rfl
   have c7 : X.cell? ⟨w1.heap.size, 7, none⟩ = some (.int .i64 (1 + s1 + s2)) := cellB hb8 rfl
   have c8 : X.cell? ⟨w1.heap.size, 8, none⟩ = some (.int .i64 (1 + max d1 d2)) := cellB hb8 rfl
   have HX8 := Lib.hid hb8
   have HXL := Lib.hid hbl
   clear hb8 hbl
   generalize w1.heap.size = AD at *
   go_wp2_with fail
   refine (prefuse (HP.out.below HXL.out) (HL.out.below (bmore HA1.out HXL.out)) HNOK.out HS.out HD.out).mono ?_
   rintro e w6 ⟨rfl, u6⟩
   have hb6 := Hold.below u6 _ _ HX8.out
   have HU6 := Lib.hid (bmore HA1.out (bmore HXL.out u6))
   clear u6 c0 c1 c2 c3 c4 c5 c6 c7 c8
   have c0 : w6.cell? ⟨AD, 0, none⟩ = some (.int .i64 k) := cellB hb6 rfl
   have c1 : w6.cell? ⟨AD, 1, none⟩ = some (.int .i64 f) := cellB hb6 rfl
   have c2 : w6.cell? ⟨AD, 2, none⟩ = some (.int .i64 t) := cellB hb6 rfl
   have c3 : w6.cell? ⟨AD, 3, none⟩ = some (.int .u64 u) := cellB hb6 rfl
   have c4 : w6.cell? ⟨AD, 4, none⟩ = some (.string x) := cellB hb6 rfl
   have c5 : w6.cell? ⟨AD, 5, none⟩ = some (.int .i64 y) := cellB hb6 rfl
   have c6 : w6.cell? ⟨AD, 6, none⟩ = some (.int .i64 z) := cellB hb6 rfl
   have c7 : w6.cell? ⟨AD, 7, none⟩ = some (.int .i64 (1 + s1 + s2)) := cellB hb6 rfl
   have c8 : w6.cell? ⟨AD, 8, none⟩ = some (.int .i64 (1 + max d1 d2)) := cellB hb6 rfl
   clear hb6
   by_cases hr : refP p ⟨k, f, t, u, x, y, z⟩ = 0
   ·rw [hr]
    have HM := Lib.hid (mkP_zero H0.out hr)
    have hrr := ref_zero hr
    have HRR := Lib.hid hrr
    clear hr hrr
    go_wp2_with fail
    refine (padd (H.out.below HU6.out) HNOK.out HS.out HD.out HRR.out.1 H0.out HRR.out.2 (text_small HRR.out.1)).mono ?_
    rintro e w7 ⟨rfl, hg⟩
    have HG := Lib.hid hg
    clear hg
    go_wp2_with fail
    go_returns
    exact ⟨by rw [HM.out]; rfl, by rw [HM.out]; exact Grew.after H.out HU6.out HG.out⟩
   ·have HM := Lib.hid (mkP_ref H0.out hr)
    have r1 : (refP p ⟨k, f, t, u, x, y, z⟩ == 0) = false := by rw [beq_eq_false_iff_ne]; exact hr
    have r2 : (refP p ⟨k, f, t, u, x, y, z⟩ != 0) = true := by rw [bne_iff_ne]; exact hr
    clear hr
    go_wp2_with fail
    go_returns
    exact ⟨by rw [HM.out]; rfl, by rw [HM.out]; exact Grew.same H.out HU6.out⟩
 ·go_simp
  have q : (V.drew.alloc (.cells #[.int .i64 0, .int .i64 0, .int .i64 0, .int .u64 0, .string ⟨#[]⟩, .int .i64 0, .int .i64 0, .int .i64 0, .int .i64 0] MadeT)).heap[V.drew.heap.size]? = some (Obj.cells #[.int .i64 0, .int .i64 0, .int .i64 0, .int .u64 0, .string ⟨#[]⟩, .int .i64 0, .int .i64 0, .int .i64 0, .int .i64 0] MadeT) := heap_alloc_new _ _
  have ba := bAl b0 (.cells #[.int .i64 0, .int .i64 0, .int .i64 0, .int .u64 0, .string ⟨#[]⟩, .int .i64 0, .int .i64 0, .int .i64 0, .int .i64 0] MadeT)
  refine hK _ _ ⟨HK.out _ ba, ?_⟩
  clear hK K
  have bx : Below V.heap.size V V := Below.refl _ _
  refine lex_reorder [4, 5, 9, 10, 14, 18, 19, 20, 21, 23] ?_
  simp only [inOrder, List.filterMap, List.getElem?_cons_succ, List.getElem?_cons_zero]
  refine lex_do (i := 4) rfl (by kernel_rfl) (by rfl) (fun K hK => ?_)
  go_simp
  refine (PS.out _ (HP.out.below ba)).mono ?_
  rintro e w1 ⟨rfl, u1⟩
  have b1 := bmore ba u1
  have q := Hold.below u1 _ _ q
  refine hK _ _ ⟨HK.out _ b1, ?_⟩
  clear hK K
  refine lex_reorder [5, 9, 10, 14, 18, 19, 20, 21, 23] ?_
  simp only [inOrder, List.filterMap, List.getElem?_cons_succ, List.getElem?_cons_zero]
  refine lex_take (i := 5) (v := ?_) rfl (by kernel_rfl) (by kernel_rfl) (by kernel_rfl) (by rfl) (HK.out _ b1) ?_ ?_
  rotate_left
  ·((intro W hW; obtain ⟨k0, k1, k2, k3, k4, k5, k6, k7⟩ := hW; go_simp) <;> with_reducible rfl)
  simp only [Act.put, List.setIfInBounds_toArray, List.set_cons_zero, List.set_cons_succ]
  refine lex_reorder [9, 10, 14, 18, 19, 20, 21, 23] ?_
  simp only [inOrder, List.filterMap, List.getElem?_cons_succ, List.getElem?_cons_zero]
  refine lex_do (i := 9) rfl (by kernel_rfl) (by rfl) (fun K hK => ?_)
  go_simp
  refine (PS'.out _ (HP.out.below b1)).mono ?_
  rintro e w2 ⟨rfl, u2⟩
  have b2 := bmore b1 u2
  have q := Hold.below u2 _ _ q
  refine hK _ _ ⟨HK.out _ b2, ?_⟩
  clear hK K
  refine lex_reorder [10, 14, 18, 19, 20, 21, 23] ?_
  simp only [inOrder, List.filterMap, List.getElem?_cons_succ, List.getElem?_cons_zero]
  refine lex_take (i := 10) (v := ?_) rfl (by kernel_rfl) (by kernel_rfl) (by kernel_rfl) (by rfl) (HK.out _ b2) ?_ ?_
  rotate_left
  ·((intro W hW; obtain ⟨k0, k1, k2, k3, k4, k5, k6, k7⟩ := hW; go_simp) <;> with_reducible rfl)
  simp only [Act.put, List.setIfInBounds_toArray, List.set_cons_zero, List.set_cons_succ]
  refine lex_reorder [14, 18, 19, 20, 21, 23] ?_
  simp only [inOrder, List.filterMap, List.getElem?_cons_succ, List.getElem?_cons_zero]
  refine lex_do (i := 14) rfl (by kernel_rfl) (by rfl) (fun K hK => ?_)
  go_simp
  refine (PD.out _ (HP.out.below b2)).mono ?_
  rintro e w3 ⟨rfl, u3⟩
  have b3 := bmore b2 u3
  have q := Hold.below u3 _ _ q
  refine hK _ _ ⟨HK.out _ b3, ?_⟩
  clear hK K
  refine lex_reorder [18, 19, 20, 21, 23] ?_
  simp only [inOrder, List.filterMap, List.getElem?_cons_succ, List.getElem?_cons_zero]
  refine lex_do (i := 18) rfl (by kernel_rfl) (by rfl) (fun K hK => ?_)
  go_simp
  refine (PD'.out _ (HP.out.below b3)).mono ?_
  rintro e w4 ⟨rfl, u4⟩
  have b4 := bmore b3 u4
  have q := Hold.below u4 _ _ q
  refine hK _ _ ⟨HK.out _ b4, ?_⟩
  clear hK K
  refine lex_reorder [19, 20, 21, 23] ?_
  simp only [inOrder, List.filterMap, List.getElem?_cons_succ, List.getElem?_cons_zero]
  refine lex_take (i := 19) (v := ?_) rfl (by kernel_rfl) (by kernel_rfl) (by kernel_rfl) (by rfl) (HK.out _ b4) ?_ ?_
  rotate_left
  ·((intro W hW; obtain ⟨k0, k1, k2, k3, k4, k5, k6, k7⟩ := hW; go_simp) <;> with_reducible rfl)
  simp only [Act.put, List.setIfInBounds_toArray, List.set_cons_zero, List.set_cons_succ]
  refine lex_take (i := 20) (v := ?_) rfl (by kernel_rfl) (by kernel_rfl) (by kernel_rfl) (by rfl) (HK.out _ b4) ?_ ?_
  rotate_left
  ·((intro W hW; obtain ⟨k0, k1, k2, k3, k4, k5, k6, k7⟩ := hW; go_simp) <;> with_reducible rfl)
  simp only [Act.put, List.setIfInBounds_toArray, List.set_cons_zero, List.set_cons_succ]
  refine lex_take (i := 21) (v := ?_) rfl (by kernel_rfl) (by kernel_rfl) (by kernel_rfl) (by rfl) (HK.out _ b4) ?_ ?_
  rotate_left
  ·((intro W hW; obtain ⟨k0, k1, k2, k3, k4, k5, k6, k7⟩ := hW; go_simp) <;> with_reducible rfl)
  simp only [Act.put, List.setIfInBounds_toArray, List.set_cons_zero, List.set_cons_succ]
  have b5 : Below V.heap.size V (w4.setRow V.heap.size #[.int .i64 k, .int .i64 f, .int .i64 t, .int .u64 u, .string x, .int .i64 y, .int .i64 z, .int .i64 (1 + s1 + s2), .int .i64 (1 + max d1 d2)]) := bRow b4 bx _
  refine lex_do (i := 23) rfl (by kernel_rfl) (by rfl) (fun K hK => ?_)
  refine wp_store_row MadeT _ _ rfl V.heap.size #[.int .i64 k, .int .i64 f, .int .i64 t, .int .u64 u, .string x, .int .i64 y, .int .i64 z, .int .i64 (1 + s1 + s2), .int .i64 (1 + max d1 d2)] rfl rfl MadeT #[.int .i64 0, .int .i64 0, .int .i64 0, .int .u64 0, .string ⟨#[]⟩, .int .i64 0, .int .i64 0, .int .i64 0, .int .i64 0] q (by kernel_rfl) rfl (by simp [Value.oneCell']) ?_
  refine hK _ _ ⟨HK.out _ b5, ?_⟩
  clear hK K
  refine lex_done (by kernel_rfl) ?_
  have hb8 : (w4.setRow V.heap.size #[.int .i64 k, .int .i64 f, .int .i64 t, .int .u64 u, .string x, .int .i64 y, .int .i64 z, .int .i64 (1 + s1 + s2), .int .i64 (1 + max d1 d2)]).heap[V.heap.size]? = some (Obj.cells #[.int .i64 k, .int .i64 f, .int .i64 t, .int .u64 u, .string x, .int .i64 y, .int .i64 z, .int .i64 (1 + s1 + s2), .int .i64 (1 + max d1 d2)] MadeT) := setRow_heap _ _ _ _ _ _ q
  have hbl : Below V.heap.size V (w4.setRow V.heap.size #[.int .i64 k, .int .i64 f, .int .i64 t, .int .u64 u, .string x, .int .i64 y, .int .i64 z, .int .i64 (1 + s1 + s2), .int .i64 (1 + max d1 d2)]) := b5
  clear z0 z1 z2 z3 z4 z5 z6 i1 i2 i3
  generalize (w4.setRow V.heap.size #[.int .i64 k, .int .i64 f, .int .i64 t, .int .u64 u, .string x, .int .i64 y, .int .i64 z, .int .i64 (1 + s1 + s2), .int .i64 (1 + max d1 d2)]) = X at *
  have c0 : X.cell? ⟨V.heap.size, 0, none⟩ = some (.int .i64 k) := cellB hb8 rfl
  have c1 : X.cell? ⟨V.heap.size, 1, none⟩ = some (.int .i64 f) := cellB hb8 rfl
  have c2 : X.cell? ⟨V.heap.size, 2, none⟩ = some (.int .i64 t) := cellB hb8 rfl
  have c3 : X.cell? ⟨V.heap.size, 3, none⟩ = some (.int .u64 u) := cellB hb8 rfl
  have c4 : X.cell? ⟨V.heap.size, 4, none⟩ = some (.string x) := cellB hb8 rfl
  have c5 : X.cell? ⟨V.heap.size, 5, none⟩ = some (.int .i64 y) := cellB hb8 rfl
  have c6 : X.cell? ⟨V.heap.size, 6, none⟩ = some (.int .i64 z) := cellB hb8 rfl
  have c7 : X.cell? ⟨V.heap.size, 7, none⟩ = some (.int .i64 (1 + s1 + s2)) := cellB hb8 rfl
  have c8 : X.cell? ⟨V.heap.size, 8, none⟩ = some (.int .i64 (1 + max d1 d2)) := cellB hb8 rfl
  have HX8 := Lib.hid hb8
  have HXL := Lib.hid hbl
  clear hb8 hbl
  skip
  go_wp2_with fail
  refine (prefuse (HP.out.below HXL.out) (HL.out.below (bmore HA1.out HXL.out)) HNOK.out HS.out HD.out).mono ?_
  rintro e w6 ⟨rfl, u6⟩
  have hb6 := Hold.below u6 _ _ HX8.out
  have HU6 := Lib.hid (bmore HA1.out (bmore HXL.out u6))
  clear u6 c0 c1 c2 c3 c4 c5 c6 c7 c8
  have c0 : w6.cell? ⟨V.heap.size, 0, none⟩ = some (.int .i64 k) := cellB hb6 rfl
  have c1 : w6.cell? ⟨V.heap.size, 1, none⟩ = some (.int .i64 f) := cellB hb6 rfl
  have c2 : w6.cell? ⟨V.heap.size, 2, none⟩ = some (.int .i64 t) := cellB hb6 rfl
  have c3 : w6.cell? ⟨V.heap.size, 3, none⟩ = some (.int .u64 u) := cellB hb6 rfl
  have c4 : w6.cell? ⟨V.heap.size, 4, none⟩ = some (.string x) := cellB hb6 rfl
  have c5 : w6.cell? ⟨V.heap.size, 5, none⟩ = some (.int .i64 y) := cellB hb6 rfl
  have c6 : w6.cell? ⟨V.heap.size, 6, none⟩ = some (.int .i64 z) := cellB hb6 rfl
  have c7 : w6.cell? ⟨V.heap.size, 7, none⟩ = some (.int .i64 (1 + s1 + s2)) := cellB hb6 rfl
  have c8 : w6.cell? ⟨V.heap.size, 8, none⟩ = some (.int .i64 (1 + max d1 d2)) := cellB hb6 rfl
  clear hb6
  by_cases hr : refP p ⟨k, f, t, u, x, y, z⟩ = 0
  ·rw [hr]
   have HM := Lib.hid (mkP_zero H0.out hr)
   have hrr := ref_zero hr
   have HRR := Lib.hid hrr
   clear hr hrr
   go_wp2_with fail
   refine (padd (H.out.below HU6.out) HNOK.out HS.out HD.out HRR.out.1 H0.out HRR.out.2 (text_small HRR.out.1)).mono ?_
   rintro e w7 ⟨rfl, hg⟩
   have HG := Lib.hid hg
   clear hg
   go_wp2_with fail
   go_returns
   exact ⟨by rw [HM.out]; rfl, by rw [HM.out]; exact Grew.after H.out HU6.out HG.out⟩
  ·have HM := Lib.hid (mkP_ref H0.out hr)
   have r1 : (refP p ⟨k, f, t, u, x, y, z⟩ == 0) = false := by rw [beq_eq_false_iff_ne]; exact hr
   have r2 : (refP p ⟨k, f, t, u, x, y, z⟩ != 0) = true := by rw [bne_iff_ne]; exact hr
   clear hr
   go_wp2_with fail
   go_returns
   exact ⟨by rw [HM.out]; rfl, by rw [HM.out]; exact Grew.same H.out HU6.out⟩
theorem pmake (h : IsPool w B a b v p) (hl : Laid w) {n : Nd} (hn : NdOk n) : Calls Tryz.prog 158 #[.pointer (some ⟨a, 0, none⟩), .agg (nodeA n)] w (MakePost w B a b v p n) := by
 by_cases h0 : numP p n = 0
 ·exact make_new h hl hn h0
 ·exact make_yes h hn h0
end
end Go.Proofs.YtjmcaceegfdkkaaGreatDoor
