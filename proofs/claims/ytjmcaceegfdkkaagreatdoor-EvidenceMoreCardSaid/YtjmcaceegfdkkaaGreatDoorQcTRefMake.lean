/-
  The document's own Make.
-/
import Derived.Test.YtjmcaceegfdkkaaGreatDoorQcTRefA
import Derived.Test.YtjmcaceegfdkkaaGreatDoorQcTClone
namespace Go.Proofs.YtjmcaceegfdkkaaGreatDoor
open Go.RowKit Go.Maps
set_option linter.unusedVariables false
theorem own_apart {w : World} {B n n' size size' : Nat} {T T' : TypeId} {v v' : Value} {xs xs' : List Value} (ho : w.ownsRow B T size v n xs) (ho' : w.ownsRow B T' size' v' n' xs') (hne : T ≠ T') : ∀ g, v.ownBlock = some g → v'.ownBlock ≠ some g := fun g hg hg' => by
 obtain ⟨_, cur, hc⟩ := own_type ho hg
 obtain ⟨_, cur', hc'⟩ := own_type ho' hg'
 rw [hc] at hc'
 simp only [Option.some.injEq, Obj.cells.injEq] at hc'
 exact hne hc'.2.1
theorem mkP_yes {p : Pl} {n : Nd} (he : errP p n = 0) (h0 : numP p n ≠ 0) : mkP p n = ((numP p n : Int), 0, p) := by
 have e1 : ¬ (errP p n ≠ 0) := fun h => h he
 unfold mkP
 rw [if_neg e1, if_pos h0]
theorem mkP_many {p : Pl} {n : Nd} (he : errP p n = 0) (h0 : numP p n = 0) (hl : 65536 ≤ p.length) : mkP p n = (0, 6, p) := by
 have e1 : ¬ (errP p n ≠ 0) := fun h => h he
 have e2 : ¬ (numP p n ≠ 0) := fun h => h h0
 unfold mkP
 rw [if_neg e1, if_neg e2, if_pos hl]
theorem mkP_new {p : Pl} {n : Nd} (he : errP p n = 0) (h0 : numP p n = 0) (hl : p.length < 65536) : mkP p n = ((p.length : Int) + 1, 0, addP p n) := by
 have e1 : ¬ (errP p n ≠ 0) := fun h => h he
 have e2 : ¬ (numP p n ≠ 0) := fun h => h h0
 unfold mkP
 rw [if_neg e1, if_neg e2, if_neg (show ¬ 65536 ≤ p.length by omega)]
theorem mkP_err {p : Pl} {n : Nd} {e : Int} (he : errP p n = e) (h : e ≠ 0) : mkP p n = (0, e, p) := by
 unfold mkP
 rw [he, if_pos h]
section
variable {w : World} {B a : Nat} {vl vs vd : Value} {p : Pl}
set_option maxRecDepth 100000 in
set_option maxHeartbeats 12800000 in
theorem rmake_shape (h : IsRef w B a vl vs vd p) {n : Nd} (hn : NdOk n) (hs : shp n ≠ 0) : Calls Tryz.prog 161 #[.pointer (some ⟨a, 0, none⟩), .agg (nodeA n)] w (RPost w B a vl vs vd p n) := by
 obtain ⟨i0, hi0, hz0, hz1, hz2⟩ := info_parts rowNode
 obtain ⟨j0, hj0, hy0, hy1, hy2⟩ := info_parts rowInt
 obtain ⟨lA, lC, rfl⟩ := (row_of_own h.rl).shape
 obtain ⟨sA, sC, rfl⟩ := (row_of_own h.rs).shape
 obtain ⟨dA, dC, rfl⟩ := (row_of_own h.rd).shape
 have bA : Below w.heap.size w (w.alloc (.cells (nodeA n) NodeT)) := (Below.refl _ _).alloc (Nat.le_refl _) _
 have hb : (w.alloc (.cells (nodeA n) NodeT)).heap[w.heap.size]? = some (Obj.cells (nodeA n) NodeT) := heap_alloc_new _ _
 have hsh := rshape n (w.alloc (.cells (nodeA n) NodeT)) hn.text
 have HBW := Lib.hid (show B ≤ w.heap.size from Nat.le_trans h.ga (Nat.le_of_lt h.lt))
 have hlen := h.ok.len
 have HI := Lib.hid h
 have HA := Lib.hid bA
 have HNOK := Lib.hid hn
 have hbd := h.ok.at_bounds
 have HM := Lib.hid (mkP_err (p := p) (n := n) (e := shp n) (by unfold errP; rw [if_pos hs]) hs)
 have r1 : (shp n == 0) = false := by rw [beq_eq_false_iff_ne]; exact hs
 have r2 : (shp n != 0) = true := by rw [bne_iff_ne]; exact hs
 have HSH := Lib.hid hsh
 clear hsh h bA hn hs hbd
 obtain ⟨k, f, q, u, s, y, z⟩ := n
 simp only [nodeA] at *
 have z0 : (w.alloc (.cells #[.int .i64 k, .int .i64 f, .int .i64 q, .int .u64 u, .string s, .int .i64 y, .int .i64 z] NodeT)).cell? ⟨w.heap.size, 0, none⟩ = some (.int .i64 k) := cellB hb rfl
 have z1 : (w.alloc (.cells #[.int .i64 k, .int .i64 f, .int .i64 q, .int .u64 u, .string s, .int .i64 y, .int .i64 z] NodeT)).cell? ⟨w.heap.size, 1, none⟩ = some (.int .i64 f) := cellB hb rfl
 have z2 : (w.alloc (.cells #[.int .i64 k, .int .i64 f, .int .i64 q, .int .u64 u, .string s, .int .i64 y, .int .i64 z] NodeT)).cell? ⟨w.heap.size, 2, none⟩ = some (.int .i64 q) := cellB hb rfl
 have z3 : (w.alloc (.cells #[.int .i64 k, .int .i64 f, .int .i64 q, .int .u64 u, .string s, .int .i64 y, .int .i64 z] NodeT)).cell? ⟨w.heap.size, 3, none⟩ = some (.int .u64 u) := cellB hb rfl
 have z4 : (w.alloc (.cells #[.int .i64 k, .int .i64 f, .int .i64 q, .int .u64 u, .string s, .int .i64 y, .int .i64 z] NodeT)).cell? ⟨w.heap.size, 4, none⟩ = some (.string s) := cellB hb rfl
 have z5 : (w.alloc (.cells #[.int .i64 k, .int .i64 f, .int .i64 q, .int .u64 u, .string s, .int .i64 y, .int .i64 z] NodeT)).cell? ⟨w.heap.size, 5, none⟩ = some (.int .i64 y) := cellB hb rfl
 have z6 : (w.alloc (.cells #[.int .i64 k, .int .i64 f, .int .i64 q, .int .u64 u, .string s, .int .i64 y, .int .i64 z] NodeT)).cell? ⟨w.heap.size, 6, none⟩ = some (.int .i64 z) := cellB hb rfl
 clear hb
 go_enter Tryz.func161, Tryz.ntmps161
 go_wp2_with fail
 refine HSH.out.mono ?_
 rintro e w1 ⟨rfl, u1⟩
 have HB1 := Lib.hid (bmore HA.out u1)
 clear u1 z0 z1 z2 z3 z4 z5 z6
 go_wp2_with fail
 go_returns
 exact ⟨by rw [HM.out]; rfl, by rw [HM.out]; exact RGrew.same HI.out HB1.out⟩
set_option maxRecDepth 100000 in
set_option maxHeartbeats 12800000 in
theorem rmake_kids0 (h : IsRef w B a vl vs vd p) {n : Nd} (hn : NdOk n) (hs : shp n = 0) (hj : kidsN n.kind = 0) : Calls Tryz.prog 161 #[.pointer (some ⟨a, 0, none⟩), .agg (nodeA n)] w (RPost w B a vl vs vd p n) := by
 obtain ⟨i0, hi0, hz0, hz1, hz2⟩ := info_parts rowNode
 obtain ⟨j0, hj0, hy0, hy1, hy2⟩ := info_parts rowInt
 obtain ⟨lA, lC, rfl⟩ := (row_of_own h.rl).shape
 obtain ⟨sA, sC, rfl⟩ := (row_of_own h.rs).shape
 obtain ⟨dA, dC, rfl⟩ := (row_of_own h.rd).shape
 have bA : Below w.heap.size w (w.alloc (.cells (nodeA n) NodeT)) := (Below.refl _ _).alloc (Nat.le_refl _) _
 have hb : (w.alloc (.cells (nodeA n) NodeT)).heap[w.heap.size]? = some (Obj.cells (nodeA n) NodeT) := heap_alloc_new _ _
 have hsh := rshape n (w.alloc (.cells (nodeA n) NodeT)) hn.text
 have HBW := Lib.hid (show B ≤ w.heap.size from Nat.le_trans h.ga (Nat.le_of_lt h.lt))
 have hlen := h.ok.len
 have HI := Lib.hid h
 have HA := Lib.hid bA
 have HNOK := Lib.hid hn
 have hbd := h.ok.at_bounds
 have HS0 := Lib.hid hs
 have HJ' := Lib.hid hj
 rw [hs] at hsh
 have hkd := rkids n.kind
 rw [hj] at hkd
 have HSH := Lib.hid hsh
 have HKD := Lib.hid hkd
 clear hsh h bA hn hs hj hkd
 obtain ⟨k, f, q, u, s, y, z⟩ := n
 simp only [nodeA] at *
 have z0 : (w.alloc (.cells #[.int .i64 k, .int .i64 f, .int .i64 q, .int .u64 u, .string s, .int .i64 y, .int .i64 z] NodeT)).cell? ⟨w.heap.size, 0, none⟩ = some (.int .i64 k) := cellB hb rfl
 have z1 : (w.alloc (.cells #[.int .i64 k, .int .i64 f, .int .i64 q, .int .u64 u, .string s, .int .i64 y, .int .i64 z] NodeT)).cell? ⟨w.heap.size, 1, none⟩ = some (.int .i64 f) := cellB hb rfl
 have z2 : (w.alloc (.cells #[.int .i64 k, .int .i64 f, .int .i64 q, .int .u64 u, .string s, .int .i64 y, .int .i64 z] NodeT)).cell? ⟨w.heap.size, 2, none⟩ = some (.int .i64 q) := cellB hb rfl
 have z3 : (w.alloc (.cells #[.int .i64 k, .int .i64 f, .int .i64 q, .int .u64 u, .string s, .int .i64 y, .int .i64 z] NodeT)).cell? ⟨w.heap.size, 3, none⟩ = some (.int .u64 u) := cellB hb rfl
 have z4 : (w.alloc (.cells #[.int .i64 k, .int .i64 f, .int .i64 q, .int .u64 u, .string s, .int .i64 y, .int .i64 z] NodeT)).cell? ⟨w.heap.size, 4, none⟩ = some (.string s) := cellB hb rfl
 have z5 : (w.alloc (.cells #[.int .i64 k, .int .i64 f, .int .i64 q, .int .u64 u, .string s, .int .i64 y, .int .i64 z] NodeT)).cell? ⟨w.heap.size, 5, none⟩ = some (.int .i64 y) := cellB hb rfl
 have z6 : (w.alloc (.cells #[.int .i64 k, .int .i64 f, .int .i64 q, .int .u64 u, .string s, .int .i64 y, .int .i64 z] NodeT)).cell? ⟨w.heap.size, 6, none⟩ = some (.int .i64 z) := cellB hb rfl
 clear hb
 have hy := hbd y
 have hz := hbd z
 have hS : szN p ⟨k, f, q, u, s, y, z⟩ = 1 + szP p y + szP p z := rfl
 have hD : dpN p ⟨k, f, q, u, s, y, z⟩ = 1 + max (dpP p y) (dpP p z) := rfl
 have ps := fun (W : World) (hW : IsRef W B a (.slice lA p.length lC) (.slice sA p.length sC) (.slice dA p.length dC) p) => rsize hW y
 have ps' := fun (W : World) (hW : IsRef W B a (.slice lA p.length lC) (.slice sA p.length sC) (.slice dA p.length dC) p) => rsize hW z
 have pd := fun (W : World) (hW : IsRef W B a (.slice lA p.length lC) (.slice sA p.length sC) (.slice dA p.length dC) p) => rdepth hW y
 have pd' := fun (W : World) (hW : IsRef W B a (.slice lA p.length lC) (.slice sA p.length sC) (.slice dA p.length dC) p) => rdepth hW z
 generalize szP p y = s1 at *
 generalize szP p z = s2 at *
 generalize dpP p y = d1 at *
 generalize dpP p z = d2 at *
 have PS := Lib.hid ps
 have PS' := Lib.hid ps'
 have PD := Lib.hid pd
 have PD' := Lib.hid pd'
 have HSS := Lib.hid hS
 have HDD := Lib.hid hD
 obtain ⟨⟨a1, a2⟩, a3, a4⟩ := hy
 obtain ⟨⟨b1, b2⟩, b3, b4⟩ := hz
 clear hbd ps ps' pd pd' hS hD
 have i1 : IntKind.i64.wrap (1 + s1) = 1 + s1 := IntWalk.i64_in _ (by omega)
 have i2 : IntKind.i64.wrap (1 + s1 + s2) = 1 + s1 + s2 := IntWalk.i64_in _ (by omega)
 have i3 : IntKind.i64.wrap (1 + max d1 d2) = 1 + max d1 d2 := IntWalk.i64_in _ (by omega)
 go_enter Tryz.func161, Tryz.ntmps161
 go_wp2_with fail
 generalize (w.alloc (.cells #[.int .i64 k, .int .i64 f, .int .i64 q, .int .u64 u, .string s, .int .i64 y, .int .i64 z] NodeT)) = W at *
 refine HSH.out.mono ?_
 rintro e w1 ⟨rfl, u1⟩
 have HI1 := Lib.hid (HI.out.below (bmore HA.out u1))
 have HB1 := Lib.hid (bmore HA.out u1)
 replace z0 := bcellAt u1 z0
 replace z1 := bcellAt u1 z1
 replace z2 := bcellAt u1 z2
 replace z3 := bcellAt u1 z3
 replace z4 := bcellAt u1 z4
 replace z5 := bcellAt u1 z5
 replace z6 := bcellAt u1 z6
 clear u1
 go_wp2_with fail
 refine (HKD.out _).mono ?_
 rintro e w' ⟨rfl, rfl⟩
 rw [show ((0 : Nat) : Int) = 0 from rfl]
 go_wp2_with fail
 go_quiet (first | with_reducible exact Calls.quiet_of_same (still_of (PS.out _ (HI1.out.below (bdn _ _)))) | with_reducible exact Calls.quiet_of_same (still_of (PS'.out _ (HI1.out.below (bdn _ _)))))
 go_wp2_with fail
 have hq : Below w1.heap.size w1 (w1.drewN nq) := bdn _ _
 have HI2 := Lib.hid (HI1.out.below hq)
 have HB2 := Lib.hid (bmore HB1.out hq)
 replace z0 := bcellAt hq z0
 replace z1 := bcellAt hq z1
 replace z2 := bcellAt hq z2
 replace z3 := bcellAt hq z3
 replace z4 := bcellAt hq z4
 replace z5 := bcellAt hq z5
 replace z6 := bcellAt hq z6
 clear hq
 generalize w1.drewN nq = w2 at *
 go_quiet (first | with_reducible exact Calls.quiet_of_same (still_of (PD.out _ (HI2.out.below (bdn _ _)))) | with_reducible exact Calls.quiet_of_same (still_of (PD'.out _ (HI2.out.below (bdn _ _)))))
 have hq : Below w2.heap.size w2 (w2.drewN nq) := bdn _ _
 have HI3 := Lib.hid (HI2.out.below hq)
 have HB3 := Lib.hid (bmore HB2.out hq)
 replace z0 := bcellAt hq z0
 replace z1 := bcellAt hq z1
 replace z2 := bcellAt hq z2
 replace z3 := bcellAt hq z3
 replace z4 := bcellAt hq z4
 replace z5 := bcellAt hq z5
 replace z6 := bcellAt hq z6
 clear hq
 generalize w2.drewN nq = w3 at *
 clear i1 i2 i3
 by_cases h1 : 4096 < (1 + s1 + s2)
 ·have HM := Lib.hid (mkP_err (p := p) (n := ⟨k, f, q, u, s, y, z⟩) (e := 52) (by simp [errP, HS0.out, kidsBad, HJ'.out, HSS.out, HDD.out, h1]) (by simp))
  go_wp2_with fail
  go_returns
  exact ⟨by rw [HM.out]; rfl, by rw [HM.out]; exact RGrew.same HI.out HB3.out⟩
 ·have h1' : decide (4096 < (1 + s1 + s2)) = false := decide_eq_false h1
  by_cases h2 : 64 < (1 + max d1 d2)
  ·have HM := Lib.hid (mkP_err (p := p) (n := ⟨k, f, q, u, s, y, z⟩) (e := 52) (by simp [errP, HS0.out, kidsBad, HJ'.out, HSS.out, HDD.out, h1, h2]) (by simp))
   clear h1
   go_wp2_with fail
   go_returns
   exact ⟨by rw [HM.out]; rfl, by rw [HM.out]; exact RGrew.same HI.out HB3.out⟩
  ·have h2' : decide (64 < (1 + max d1 d2)) = false := decide_eq_false h2
   have HE0 := Lib.hid (show errP p ⟨k, f, q, u, s, y, z⟩ = 0 from by simp [errP, HS0.out, kidsBad, HJ'.out, HSS.out, HDD.out, h1, h2])
   clear h1 h2
   go_wp2_with fail
   by_cases h0 : numP p ⟨k, f, q, u, s, y, z⟩ = 0
   ·refine (rhas_no HI3.out HNOK.out h0).mono ?_
    rintro e w4 ⟨rfl, u4⟩
    have HIV := Lib.hid (HI3.out.below u4)
    have HBV := Lib.hid (bmore HB3.out u4)
    replace z0 := bcellAt u4 z0
    replace z1 := bcellAt u4 z1
    replace z2 := bcellAt u4 z2
    replace z3 := bcellAt u4 z3
    replace z4 := bcellAt u4 z4
    replace z5 := bcellAt u4 z5
    replace z6 := bcellAt u4 z6
    clear u4
    generalize w4 = V at *
    have c0 : V.cell? ⟨a, 0, none⟩ = some (.slice lA p.length lC) := cellB HIV.out.lay rfl
    by_cases h3 : 65536 ≤ p.length
    ·have HM := Lib.hid (mkP_many HE0.out h0 h3)
     have h3' : (65536 : Int) ≤ (p.length : Int) := by omega
     clear h0
     go_wp2_with fail
     go_returns
     exact ⟨by rw [HM.out]; rfl, by rw [HM.out]; exact RGrew.same HI.out HBV.out⟩
    ·have HM := Lib.hid (mkP_new HE0.out h0 (by omega))
     have HOK := Lib.hid (Ok.add HIV.out.ok HE0.out h0 (by omega))
     have h3' : decide ((65536 : Int) ≤ (p.length : Int)) = false := by simp; omega
     clear h0
     go_wp2_with fail
     clear c0
     have hI := HIV.out
     have d0 : V.cell? ⟨a, 0, none⟩ = some (.slice lA p.length lC) := cellB hI.lay rfl
     have bB : Below V.heap.size V (V.alloc (.cells #[.int .i64 k, .int .i64 f, .int .i64 q, .int .u64 u, .string s, .int .i64 y, .int .i64 z] NodeT)) := (Below.refl _ _).alloc (Nat.le_refl _) _
     have d3 : (V.alloc (.cells #[.int .i64 k, .int .i64 f, .int .i64 q, .int .u64 u, .string s, .int .i64 y, .int .i64 z] NodeT)).cell? ⟨a, 0, none⟩ = some (.slice lA p.length lC) := bcellAt bB d0
     have haV : a < V.heap.size := hI.lt
     have hVA : Below V.heap.size V (V.drew.alloc (.cells #[.int .i64 k, .int .i64 f, .int .i64 q, .int .u64 u, .string s, .int .i64 y, .int .i64 z] NodeT)) := bmore (bd V) ((Below.refl _ _).alloc (Nat.le_refl _) _)
     have hap := hI.apart
     have hq : ∀ w', (V.drew.alloc (.cells #[.int .i64 k, .int .i64 f, .int .i64 q, .int .u64 u, .string s, .int .i64 y, .int .i64 z] NodeT)).grownBy w' (Value.slice lA p.length lC).ownBlock → w'.heap[a]? = some (Obj.cells #[.slice lA p.length lC, .slice sA p.length sC, .slice dA p.length dC] RPoolT) ∧ w'.cell? ⟨a, 0, none⟩ = some (.slice lA p.length lC) ∧ w'.frozen? ⟨a, 0, none⟩ = false := fun w' hg => by
      have e : w'.heap[a]? = some (Obj.cells #[.slice lA p.length lC, .slice sA p.length sC, .slice dA p.length dC] RPoolT) := by
       rw [hg.block a (Nat.lt_of_lt_of_le haV hVA.size) (fun e => (hap.1 a e.symm).1 rfl)]
       exact Hold.below hVA _ _ hI.lay
      exact ⟨e, cellB e rfl, frozenB e⟩
     have HQ := Lib.hid hq
     have HAP := Lib.hid hap
     have HVA := Lib.hid hVA
     have HROW := Lib.hid (own_hold hI.rl (Hold.below (bd V)))
     have hBV : B ≤ V.heap.size := Nat.le_trans hI.ga (Nat.le_of_lt haV)
     clear hI bB hVA hap hq
     go_region_law (
      (refine step_append_at rfl _ _ 40 rfl B NodeT i0 (.agg #[.int .i64 0, .int .i64 0, .int .i64 0, .int .u64 0, .string ⟨#[]⟩, .int .i64 0, .int .i64 0]) 7 64 Tryz.underlying40 hi0 hz0 hz1 hz2 rfl (by decide) _ p.length (nodes (nds p)) rfl (HROW.out.alloc _) ⟨V.heap.size, 0, none⟩ 1 1 [.int .i64 k, .int .i64 f, .int .i64 q, .int .u64 u, .string s, .int .i64 y, .int .i64 z] rfl (by decide) rfl (news7 V.drew _ _ _ _ _ _ _ _) (by simp [Value.oneCell']) (by unfold maxLen; omega) (by omega) (by simp; omega) ?_
       intro v' w' hown' hg hw
       obtain ⟨q0, q1, q2⟩ := HQ.out w' hg
       obtain ⟨sa, sc, rfl⟩ := (row_of_own hown').shape))
     all_goals
      have hg2 : (V.drew.alloc (.cells #[.int .i64 k, .int .i64 f, .int .i64 q, .int .u64 u, .string s, .int .i64 y, .int .i64 z] NodeT)).grownBy w' (Value.slice lA p.length lC).ownBlock := hg
      have l5 := setCellB (j := 0) (u := .slice sa (p.length + 1) sc) q0
      have rl5 := own_hold hown' (Hold.setCell (o := 0) (v := .slice sa (p.length + 1) sc) q0 (by decide))
      have rs5 := own_hold (own_other (own_hold HIV.out.rs (Hold.below HVA.out)) hg2 (fun g e => (HAP.out.1 g e).2.2.2.1)) (Hold.setCell (o := 0) (v := .slice sa (p.length + 1) sc) q0 (by decide))
      have rd5 := own_hold (own_other (own_hold HIV.out.rd (Hold.below HVA.out)) hg2 (fun g e => (HAP.out.1 g e).2.2.2.2)) (Hold.setCell (o := 0) (v := .slice sa (p.length + 1) sc) q0 (by decide))
      have hb1 : Below B w V := HBV.out.mono HBW.out
      have hb5 : Below B w (w'.setCell ⟨a, 0, none⟩ (.slice sa (p.length + 1) sc)) := ((hb1.trans (HVA.out.mono hBV)).trans (grown_below hg2 (Nat.le_trans hBV HVA.out.size) (fun k e => (HAP.out.1 k e).2.2.1))).setCell (p := ⟨a, 0, none⟩) HIV.out.ga _
      have fr5 : ∀ k, k < w.heap.size → k ≠ a → (Value.slice lA p.length lC).ownBlock ≠ some k → (w'.setCell ⟨a, 0, none⟩ (.slice sa (p.length + 1) sc)).heap[k]? = w.heap[k]? := fun k hk h1 h2 => by
       rw [Below.heap_setCell _ _ _ _ h1, hg2.block k (Nat.lt_of_lt_of_le (Nat.lt_of_lt_of_le hk HBV.out.size) HVA.out.size) (fun e => h2 e.symm), HVA.out.block k (Nat.lt_of_lt_of_le hk HBV.out.size), HBV.out.block k hk]
      have hs5 : V.heap.size ≤ (w'.setCell ⟨a, 0, none⟩ (.slice sa (p.length + 1) sc)).heap.size := by have := hg2.size; have := HVA.out.size; simp [World.setCell] at *; omega
      have HFR := Lib.hid (show (Value.slice sa (p.length + 1) sc).ownBlock = (Value.slice lA p.length lC).ownBlock ∨ ∃ g, (Value.slice sa (p.length + 1) sc).ownBlock = some g ∧ w.heap.size ≤ g from hw.imp id (fun e => ⟨_, e, Nat.le_trans HBV.out.size HVA.out.size⟩))
      have HL5 := Lib.hid l5
      have HRL5 := Lib.hid rl5
      have HRS5 := Lib.hid rs5
      have HRD5 := Lib.hid rd5
      have HB5 := Lib.hid hb5
      have HF5 := Lib.hid fr5
      clear hg2 hg hw hown' q0 q1 q2 l5 rl5 rs5 rd5 hb1 hb5 fr5 d0 d3 z0 z1 z2 z3 z4 z5 z6
      generalize (w'.setCell ⟨a, 0, none⟩ (.slice sa (p.length + 1) sc)) = W5 at *
      have e1 : W5.cell? ⟨a, 1, none⟩ = some (.slice sA p.length sC) := cellB HL5.out rfl
      have e2 : W5.cell? ⟨a, 2, none⟩ = some (.slice dA p.length dC) := cellB HL5.out rfl
      have hB5 : B ≤ W5.heap.size := Nat.le_trans hBV hs5
      have ha5 : a < W5.heap.size := Nat.lt_of_lt_of_le haV hs5
      have bC : Below W5.heap.size W5 (W5.alloc (.cells #[.int .i64 (1 + s1 + s2)] IntT)) := (Below.refl _ _).alloc (Nat.le_refl _) _
      have HBC := Lib.hid bC
      have HRS6 := Lib.hid (own_hold HRS5.out (Hold.below bC))
      have hq2 : ∀ w', (W5.alloc (.cells #[.int .i64 (1 + s1 + s2)] IntT)).grownBy w' (Value.slice sA p.length sC).ownBlock → w'.heap[a]? = some (Obj.cells #[.slice sa (p.length + 1) sc, .slice sA p.length sC, .slice dA p.length dC] RPoolT) ∧ w'.cell? ⟨a, 1, none⟩ = some (.slice sA p.length sC) ∧ w'.cell? ⟨a, 2, none⟩ = some (.slice dA p.length dC) ∧ w'.frozen? ⟨a, 1, none⟩ = false := fun w' hg => by
       have e : w'.heap[a]? = some (Obj.cells #[.slice sa (p.length + 1) sc, .slice sA p.length sC, .slice dA p.length dC] RPoolT) := by
        rw [hg.block a (Nat.lt_of_lt_of_le ha5 bC.size) (fun e => (HAP.out.2.1 a e.symm).1 rfl)]
        exact Hold.below bC _ _ HL5.out
       exact ⟨e, cellB e rfl, cellB e rfl, frozenB e⟩
      have HQ2 := Lib.hid hq2
      clear hq2 bC
      go_wp2_with (first
       | (at_builtin; refine wpList_append_at _ rfl _ _ 41 rfl B IntT j0 (.int .i64 0) 1 8 Tryz.underlying41 hj0 hy0 hy1 hy2 rfl (by decide) _ p.length (ints (dps p)) rfl HRD7.out ⟨w2'.heap.size, 0, none⟩ 1 1 [.int .i64 (1 + max d1 d2)] rfl (by decide) rfl (by rw [← hw6]; exact cell_one_new _ _ _) (by simp [Value.oneCell']) (by unfold maxLen; omega) (by omega) (by simp; omega) ?_
          intro v3 w3' hown3 hg3 hw3
          obtain ⟨ua, uc, rfl⟩ := (row_of_own hown3).shape
          obtain ⟨r0, r1, r2, r3⟩ := HQ3.out w3' hg3
          have HOWN3 := Lib.hid hown3
          have HG3 := Lib.hid hg3
          have HW3 := Lib.hid hw3
          have HR0 := Lib.hid r0
          clear hown3 hg3 hw3 r0)
       | (at_builtin; refine wpList_append_at _ rfl _ _ 41 rfl B IntT j0 (.int .i64 0) 1 8 Tryz.underlying41 hj0 hy0 hy1 hy2 rfl (by decide) _ p.length (ints (szs p)) rfl HRS6.out ⟨W5.heap.size, 0, none⟩ 1 1 [.int .i64 (1 + s1 + s2)] rfl (by decide) rfl (cell_one_new _ _ _) (by simp [Value.oneCell']) (by unfold maxLen; omega) (by omega) (by simp; omega) ?_
          intro v2 w2' hown2 hg2 hw2
          obtain ⟨ta, tc, rfl⟩ := (row_of_own hown2).shape
          obtain ⟨r0, r1, r2, r3⟩ := HQ2.out w2' hg2
          have HOWN2 := Lib.hid hown2
          have HG2 := Lib.hid hg2
          have HW2 := Lib.hid hw2
          have HR0 := Lib.hid r0
          clear hown2 hg2 hw2 r0
          have l6 := setCellB (j := 1) (u := .slice ta (p.length + 1) tc) HR0.out
          have rl6 := own_hold (own_other (own_hold HRL5.out (Hold.below HBC.out)) HG2.out (own_apart HRS5.out HRL5.out (by decide))) (Hold.setCell (o := 1) (v := .slice ta (p.length + 1) tc) HR0.out (by decide))
          have rs6 := own_hold HOWN2.out (Hold.setCell (o := 1) (v := .slice ta (p.length + 1) tc) HR0.out (by decide))
          have rd6 := own_hold (own_other (own_hold HRD5.out (Hold.below HBC.out)) HG2.out HIV.out.ap) (Hold.setCell (o := 1) (v := .slice ta (p.length + 1) tc) HR0.out (by decide))
          have hb6 : Below B w (w2'.setCell ⟨a, 1, none⟩ (.slice ta (p.length + 1) tc)) := ((HB5.out.trans (HBC.out.mono hB5)).trans (grown_below HG2.out (Nat.le_trans hB5 HBC.out.size) (fun k e => (HAP.out.2.1 k e).2.2.1))).setCell (p := ⟨a, 1, none⟩) HIV.out.ga _
          have fr6 : ∀ k, k < w.heap.size → k ≠ a → (Value.slice lA p.length lC).ownBlock ≠ some k → (Value.slice sA p.length sC).ownBlock ≠ some k → (w2'.setCell ⟨a, 1, none⟩ (.slice ta (p.length + 1) tc)).heap[k]? = w.heap[k]? := fun k hk h1 h2 h3 => by
           have hk5 : k < W5.heap.size := Nat.lt_of_lt_of_le (Nat.lt_of_lt_of_le hk HBV.out.size) hs5
           rw [Below.heap_setCell _ _ _ _ h1, HG2.out.block k (Nat.lt_of_lt_of_le hk5 HBC.out.size) (fun e => h3 e.symm), HBC.out.block k hk5, HF5.out k hk h1 h2]
          have hs6 : W5.heap.size ≤ (w2'.setCell ⟨a, 1, none⟩ (.slice ta (p.length + 1) tc)).heap.size := Nat.le_trans HBC.out.size (Nat.le_trans HG2.out.size (Nat.le_of_eq (by simp [World.setCell])))
          have hgs : ∀ g, (Value.slice ta (p.length + 1) tc).ownBlock = some g → g < (w2'.setCell ⟨a, 1, none⟩ (.slice ta (p.length + 1) tc)).heap.size := fun g e => by
           obtain ⟨_, cur, hc⟩ := own_type rs6 e
           exact (Array.getElem?_eq_some_iff.1 hc).1
          have hap6 : ∀ g, (Value.slice ta (p.length + 1) tc).ownBlock = some g → (Value.slice dA p.length dC).ownBlock ≠ some g := fun g e e' => by
           rcases HW2.out with h | h
           ·exact HIV.out.ap g (h.symm.trans e) e'
           ·have h1 := (HAP.out.2.2 g e').2.1
            rw [h] at e
            simp at e
            omega
          have HL6 := Lib.hid l6
          have HRL6 := Lib.hid rl6
          have HRS7 := Lib.hid rs6
          have HRD6 := Lib.hid rd6
          have HB6 := Lib.hid hb6
          have HF6 := Lib.hid fr6
          have HGS := Lib.hid hgs
          have HAP6 := Lib.hid hap6
          clear l6 rl6 rs6 rd6 hb6 fr6 hgs hap6 HOWN2 HG2 HW2 HR0 HQ2
          have hB6 : B ≤ (w2'.setCell ⟨a, 1, none⟩ (.slice ta (p.length + 1) tc)).heap.size := Nat.le_trans hB5 hs6
          have hw6 : (w2'.setCell ⟨a, 1, none⟩ (.slice ta (p.length + 1) tc)).heap.size = w2'.heap.size := by simp [World.setCell]
          have hB6' : B ≤ w2'.heap.size := by rw [← hw6]; exact hB6
          have ha6 : a < (w2'.setCell ⟨a, 1, none⟩ (.slice ta (p.length + 1) tc)).heap.size := Nat.lt_of_lt_of_le ha5 hs6
          have bD : Below (w2'.setCell ⟨a, 1, none⟩ (.slice ta (p.length + 1) tc)).heap.size (w2'.setCell ⟨a, 1, none⟩ (.slice ta (p.length + 1) tc)) ((w2'.setCell ⟨a, 1, none⟩ (.slice ta (p.length + 1) tc)).alloc (.cells #[.int .i64 (1 + max d1 d2)] IntT)) := (Below.refl _ _).alloc (Nat.le_refl _) _
          have HBD := Lib.hid bD
          have HRD7 := Lib.hid (own_hold HRD6.out (Hold.below bD))
          have hq3 : ∀ w', ((w2'.setCell ⟨a, 1, none⟩ (.slice ta (p.length + 1) tc)).alloc (.cells #[.int .i64 (1 + max d1 d2)] IntT)).grownBy w' (Value.slice dA p.length dC).ownBlock → w'.heap[a]? = some (Obj.cells #[.slice sa (p.length + 1) sc, .slice ta (p.length + 1) tc, .slice dA p.length dC] RPoolT) ∧ w'.cell? ⟨a, 2, none⟩ = some (.slice dA p.length dC) ∧ w'.cell? ⟨a, 0, none⟩ = some (.slice sa (p.length + 1) sc) ∧ w'.frozen? ⟨a, 2, none⟩ = false := fun w' hg => by
           have e : w'.heap[a]? = some (Obj.cells #[.slice sa (p.length + 1) sc, .slice ta (p.length + 1) tc, .slice dA p.length dC] RPoolT) := by
            rw [hg.block a (Nat.lt_of_lt_of_le ha6 bD.size) (fun e => (HAP.out.2.2 a e.symm).1 rfl)]
            exact Hold.below bD _ _ HL6.out
           exact ⟨e, cellB e rfl, cellB e rfl, frozenB e⟩
          have HQ3 := Lib.hid hq3
          clear hq3 bD))
      go_returns
      have l7 := setCellB (j := 2) (u := .slice ua (p.length + 1) uc) HR0.out
      have rl7 := own_hold (own_other (own_hold HRL6.out (Hold.below HBD.out)) HG3.out (own_apart HRD6.out HRL6.out (by decide))) (Hold.setCell (o := 2) (v := .slice ua (p.length + 1) uc) HR0.out (by decide))
      have rs7 := own_hold (own_other (own_hold HRS7.out (Hold.below HBD.out)) HG3.out (fun g e e' => HAP6.out g e' e)) (Hold.setCell (o := 2) (v := .slice ua (p.length + 1) uc) HR0.out (by decide))
      have rd7 := own_hold HOWN3.out (Hold.setCell (o := 2) (v := .slice ua (p.length + 1) uc) HR0.out (by decide))
      have hb7 : Below B w (w3'.setCell ⟨a, 2, none⟩ (.slice ua (p.length + 1) uc)) := ((HB6.out.trans (HBD.out.mono hB6)).trans (grown_below HG3.out (Nat.le_trans hB6 HBD.out.size) (fun k e => (HAP.out.2.2 k e).2.2))).setCell (p := ⟨a, 2, none⟩) HIV.out.ga _
      refine ⟨by rw [HM.out]; rfl, ?_⟩
      rw [HM.out]
      try dsimp only
      refine ⟨hb7, fun k hk h1 h2 h3 h4 => ?_, .slice sa (p.length + 1) sc, .slice ta (p.length + 1) tc, .slice ua (p.length + 1) uc, ⟨l7, HIV.out.ga, ?_, ?_, ?_, fun g e e' => ?_, HOK.out, fun m hm => ?_⟩, HFR.out⟩
      ·have hk6 : k < (w2'.setCell ⟨a, 1, none⟩ (.slice ta (p.length + 1) tc)).heap.size := Nat.lt_of_lt_of_le (Nat.lt_of_lt_of_le (Nat.lt_of_lt_of_le hk HBV.out.size) hs5) hs6
       rw [Below.heap_setCell _ _ _ _ h1, HG3.out.block k (Nat.lt_of_lt_of_le hk6 HBD.out.size) (fun e => h4 e.symm), HBD.out.block k hk6]
       exact HF6.out k hk h1 h2 h3
      ·rw [add_len, nds_add]; exact rl7
      ·rw [add_len, szs_add, HSS.out]; exact rs7
      ·rw [add_len, dps_add, HDD.out]; exact rd7
      ·rcases HW3.out with h | h
       ·exact HAP6.out g e (h.symm.trans e')
       ·have h1 := HGS.out g e
        rw [h] at e'
        simp at e'
        omega
      ·rcases List.mem_append.1 hm with h | h
       ·exact HIV.out.nok m h
       ·rw [List.mem_singleton] at h
        subst h
        exact HNOK.out
   ·have HM := Lib.hid (mkP_yes HE0.out h0)
    refine (rhas_yes HI3.out HNOK.out h0).mono ?_
    rintro e w4 ⟨rfl, u4⟩
    have HBV := Lib.hid (bmore HB3.out u4)
    clear u4 h0
    go_wp2_with fail
    go_returns
    exact ⟨by rw [HM.out]; rfl, by rw [HM.out]; exact RGrew.same HI.out HBV.out⟩
set_option maxRecDepth 100000 in
set_option maxHeartbeats 12800000 in
theorem rmake_kids1 (h : IsRef w B a vl vs vd p) {n : Nd} (hn : NdOk n) (hs : shp n = 0) (hj : kidsN n.kind = 1) : Calls Tryz.prog 161 #[.pointer (some ⟨a, 0, none⟩), .agg (nodeA n)] w (RPost w B a vl vs vd p n) := by
 obtain ⟨i0, hi0, hz0, hz1, hz2⟩ := info_parts rowNode
 obtain ⟨j0, hj0, hy0, hy1, hy2⟩ := info_parts rowInt
 obtain ⟨lA, lC, rfl⟩ := (row_of_own h.rl).shape
 obtain ⟨sA, sC, rfl⟩ := (row_of_own h.rs).shape
 obtain ⟨dA, dC, rfl⟩ := (row_of_own h.rd).shape
 have bA : Below w.heap.size w (w.alloc (.cells (nodeA n) NodeT)) := (Below.refl _ _).alloc (Nat.le_refl _) _
 have hb : (w.alloc (.cells (nodeA n) NodeT)).heap[w.heap.size]? = some (Obj.cells (nodeA n) NodeT) := heap_alloc_new _ _
 have hsh := rshape n (w.alloc (.cells (nodeA n) NodeT)) hn.text
 have HBW := Lib.hid (show B ≤ w.heap.size from Nat.le_trans h.ga (Nat.le_of_lt h.lt))
 have hlen := h.ok.len
 have HI := Lib.hid h
 have HA := Lib.hid bA
 have HNOK := Lib.hid hn
 have hbd := h.ok.at_bounds
 have HS0 := Lib.hid hs
 have HJ' := Lib.hid hj
 rw [hs] at hsh
 have hkd := rkids n.kind
 rw [hj] at hkd
 have HSH := Lib.hid hsh
 have HKD := Lib.hid hkd
 clear hsh h bA hn hs hj hkd
 obtain ⟨k, f, q, u, s, y, z⟩ := n
 simp only [nodeA] at *
 have z0 : (w.alloc (.cells #[.int .i64 k, .int .i64 f, .int .i64 q, .int .u64 u, .string s, .int .i64 y, .int .i64 z] NodeT)).cell? ⟨w.heap.size, 0, none⟩ = some (.int .i64 k) := cellB hb rfl
 have z1 : (w.alloc (.cells #[.int .i64 k, .int .i64 f, .int .i64 q, .int .u64 u, .string s, .int .i64 y, .int .i64 z] NodeT)).cell? ⟨w.heap.size, 1, none⟩ = some (.int .i64 f) := cellB hb rfl
 have z2 : (w.alloc (.cells #[.int .i64 k, .int .i64 f, .int .i64 q, .int .u64 u, .string s, .int .i64 y, .int .i64 z] NodeT)).cell? ⟨w.heap.size, 2, none⟩ = some (.int .i64 q) := cellB hb rfl
 have z3 : (w.alloc (.cells #[.int .i64 k, .int .i64 f, .int .i64 q, .int .u64 u, .string s, .int .i64 y, .int .i64 z] NodeT)).cell? ⟨w.heap.size, 3, none⟩ = some (.int .u64 u) := cellB hb rfl
 have z4 : (w.alloc (.cells #[.int .i64 k, .int .i64 f, .int .i64 q, .int .u64 u, .string s, .int .i64 y, .int .i64 z] NodeT)).cell? ⟨w.heap.size, 4, none⟩ = some (.string s) := cellB hb rfl
 have z5 : (w.alloc (.cells #[.int .i64 k, .int .i64 f, .int .i64 q, .int .u64 u, .string s, .int .i64 y, .int .i64 z] NodeT)).cell? ⟨w.heap.size, 5, none⟩ = some (.int .i64 y) := cellB hb rfl
 have z6 : (w.alloc (.cells #[.int .i64 k, .int .i64 f, .int .i64 q, .int .u64 u, .string s, .int .i64 y, .int .i64 z] NodeT)).cell? ⟨w.heap.size, 6, none⟩ = some (.int .i64 z) := cellB hb rfl
 clear hb
 have hy := hbd y
 have hz := hbd z
 have hS : szN p ⟨k, f, q, u, s, y, z⟩ = 1 + szP p y + szP p z := rfl
 have hD : dpN p ⟨k, f, q, u, s, y, z⟩ = 1 + max (dpP p y) (dpP p z) := rfl
 have ps := fun (W : World) (hW : IsRef W B a (.slice lA p.length lC) (.slice sA p.length sC) (.slice dA p.length dC) p) => rsize hW y
 have ps' := fun (W : World) (hW : IsRef W B a (.slice lA p.length lC) (.slice sA p.length sC) (.slice dA p.length dC) p) => rsize hW z
 have pd := fun (W : World) (hW : IsRef W B a (.slice lA p.length lC) (.slice sA p.length sC) (.slice dA p.length dC) p) => rdepth hW y
 have pd' := fun (W : World) (hW : IsRef W B a (.slice lA p.length lC) (.slice sA p.length sC) (.slice dA p.length dC) p) => rdepth hW z
 generalize szP p y = s1 at *
 generalize szP p z = s2 at *
 generalize dpP p y = d1 at *
 generalize dpP p z = d2 at *
 have PS := Lib.hid ps
 have PS' := Lib.hid ps'
 have PD := Lib.hid pd
 have PD' := Lib.hid pd'
 have HSS := Lib.hid hS
 have HDD := Lib.hid hD
 obtain ⟨⟨a1, a2⟩, a3, a4⟩ := hy
 obtain ⟨⟨b1, b2⟩, b3, b4⟩ := hz
 clear hbd ps ps' pd pd' hS hD
 have i1 : IntKind.i64.wrap (1 + s1) = 1 + s1 := IntWalk.i64_in _ (by omega)
 have i2 : IntKind.i64.wrap (1 + s1 + s2) = 1 + s1 + s2 := IntWalk.i64_in _ (by omega)
 have i3 : IntKind.i64.wrap (1 + max d1 d2) = 1 + max d1 d2 := IntWalk.i64_in _ (by omega)
 go_enter Tryz.func161, Tryz.ntmps161
 go_wp2_with fail
 generalize (w.alloc (.cells #[.int .i64 k, .int .i64 f, .int .i64 q, .int .u64 u, .string s, .int .i64 y, .int .i64 z] NodeT)) = W at *
 refine HSH.out.mono ?_
 rintro e w1 ⟨rfl, u1⟩
 have HI1 := Lib.hid (HI.out.below (bmore HA.out u1))
 have HB1 := Lib.hid (bmore HA.out u1)
 replace z0 := bcellAt u1 z0
 replace z1 := bcellAt u1 z1
 replace z2 := bcellAt u1 z2
 replace z3 := bcellAt u1 z3
 replace z4 := bcellAt u1 z4
 replace z5 := bcellAt u1 z5
 replace z6 := bcellAt u1 z6
 clear u1
 go_wp2_with fail
 refine (HKD.out _).mono ?_
 rintro e w' ⟨rfl, rfl⟩
 rw [show ((1 : Nat) : Int) = 1 from rfl]
 cases ha : inP p y
 ·have HIN := Lib.hid ha
  have HM := Lib.hid (mkP_err (p := p) (n := ⟨k, f, q, u, s, y, z⟩) (e := 51) (by simp [errP, HS0.out, kidsBad, HJ'.out, ha]) (by simp))
  clear ha
  go_wp2_with fail
  refine (rin_no HI1.out HIN.out).mono ?_
  rintro e w3 ⟨rfl, rfl⟩
  go_wp2_with fail
  go_returns
  exact ⟨by rw [HM.out]; rfl, by rw [HM.out]; exact RGrew.same HI.out HB1.out⟩
 ·have HIN := Lib.hid ha
  clear ha
  go_wp2_with fail
  refine (rin_yes HI1.out HIN.out).mono ?_
  rintro e w3 ⟨rfl, rfl⟩
  go_wp2_with fail
  go_quiet (first | with_reducible exact Calls.quiet_of_same (still_of (PS.out _ (HI1.out.below (bdn _ _)))) | with_reducible exact Calls.quiet_of_same (still_of (PS'.out _ (HI1.out.below (bdn _ _)))))
  go_wp2_with fail
  have hq : Below w1.heap.size w1 (w1.drewN nq) := bdn _ _
  have HI2 := Lib.hid (HI1.out.below hq)
  have HB2 := Lib.hid (bmore HB1.out hq)
  replace z0 := bcellAt hq z0
  replace z1 := bcellAt hq z1
  replace z2 := bcellAt hq z2
  replace z3 := bcellAt hq z3
  replace z4 := bcellAt hq z4
  replace z5 := bcellAt hq z5
  replace z6 := bcellAt hq z6
  clear hq
  generalize w1.drewN nq = w2 at *
  go_quiet (first | with_reducible exact Calls.quiet_of_same (still_of (PD.out _ (HI2.out.below (bdn _ _)))) | with_reducible exact Calls.quiet_of_same (still_of (PD'.out _ (HI2.out.below (bdn _ _)))))
  have hq : Below w2.heap.size w2 (w2.drewN nq) := bdn _ _
  have HI3 := Lib.hid (HI2.out.below hq)
  have HB3 := Lib.hid (bmore HB2.out hq)
  replace z0 := bcellAt hq z0
  replace z1 := bcellAt hq z1
  replace z2 := bcellAt hq z2
  replace z3 := bcellAt hq z3
  replace z4 := bcellAt hq z4
  replace z5 := bcellAt hq z5
  replace z6 := bcellAt hq z6
  clear hq
  generalize w2.drewN nq = w3 at *
  clear i1 i2 i3
  by_cases h1 : 4096 < (1 + s1 + s2)
  ·have HM := Lib.hid (mkP_err (p := p) (n := ⟨k, f, q, u, s, y, z⟩) (e := 52) (by simp [errP, HS0.out, kidsBad, HJ'.out, HIN.out, HSS.out, HDD.out, h1]) (by simp))
   go_wp2_with fail
   go_returns
   exact ⟨by rw [HM.out]; rfl, by rw [HM.out]; exact RGrew.same HI.out HB3.out⟩
  ·have h1' : decide (4096 < (1 + s1 + s2)) = false := decide_eq_false h1
   by_cases h2 : 64 < (1 + max d1 d2)
   ·have HM := Lib.hid (mkP_err (p := p) (n := ⟨k, f, q, u, s, y, z⟩) (e := 52) (by simp [errP, HS0.out, kidsBad, HJ'.out, HIN.out, HSS.out, HDD.out, h1, h2]) (by simp))
    clear h1
    go_wp2_with fail
    go_returns
    exact ⟨by rw [HM.out]; rfl, by rw [HM.out]; exact RGrew.same HI.out HB3.out⟩
   ·have h2' : decide (64 < (1 + max d1 d2)) = false := decide_eq_false h2
    have HE0 := Lib.hid (show errP p ⟨k, f, q, u, s, y, z⟩ = 0 from by simp [errP, HS0.out, kidsBad, HJ'.out, HIN.out, HSS.out, HDD.out, h1, h2])
    clear h1 h2
    go_wp2_with fail
    by_cases h0 : numP p ⟨k, f, q, u, s, y, z⟩ = 0
    ·refine (rhas_no HI3.out HNOK.out h0).mono ?_
     rintro e w4 ⟨rfl, u4⟩
     have HIV := Lib.hid (HI3.out.below u4)
     have HBV := Lib.hid (bmore HB3.out u4)
     replace z0 := bcellAt u4 z0
     replace z1 := bcellAt u4 z1
     replace z2 := bcellAt u4 z2
     replace z3 := bcellAt u4 z3
     replace z4 := bcellAt u4 z4
     replace z5 := bcellAt u4 z5
     replace z6 := bcellAt u4 z6
     clear u4
     generalize w4 = V at *
     have c0 : V.cell? ⟨a, 0, none⟩ = some (.slice lA p.length lC) := cellB HIV.out.lay rfl
     by_cases h3 : 65536 ≤ p.length
     ·have HM := Lib.hid (mkP_many HE0.out h0 h3)
      have h3' : (65536 : Int) ≤ (p.length : Int) := by omega
      clear h0
      go_wp2_with fail
      go_returns
      exact ⟨by rw [HM.out]; rfl, by rw [HM.out]; exact RGrew.same HI.out HBV.out⟩
     ·have HM := Lib.hid (mkP_new HE0.out h0 (by omega))
      have HOK := Lib.hid (Ok.add HIV.out.ok HE0.out h0 (by omega))
      have h3' : decide ((65536 : Int) ≤ (p.length : Int)) = false := by simp; omega
      clear h0
      go_wp2_with fail
      clear c0
      have hI := HIV.out
      have d0 : V.cell? ⟨a, 0, none⟩ = some (.slice lA p.length lC) := cellB hI.lay rfl
      have bB : Below V.heap.size V (V.alloc (.cells #[.int .i64 k, .int .i64 f, .int .i64 q, .int .u64 u, .string s, .int .i64 y, .int .i64 z] NodeT)) := (Below.refl _ _).alloc (Nat.le_refl _) _
      have d3 : (V.alloc (.cells #[.int .i64 k, .int .i64 f, .int .i64 q, .int .u64 u, .string s, .int .i64 y, .int .i64 z] NodeT)).cell? ⟨a, 0, none⟩ = some (.slice lA p.length lC) := bcellAt bB d0
      have haV : a < V.heap.size := hI.lt
      have hVA : Below V.heap.size V (V.drew.alloc (.cells #[.int .i64 k, .int .i64 f, .int .i64 q, .int .u64 u, .string s, .int .i64 y, .int .i64 z] NodeT)) := bmore (bd V) ((Below.refl _ _).alloc (Nat.le_refl _) _)
      have hap := hI.apart
      have hq : ∀ w', (V.drew.alloc (.cells #[.int .i64 k, .int .i64 f, .int .i64 q, .int .u64 u, .string s, .int .i64 y, .int .i64 z] NodeT)).grownBy w' (Value.slice lA p.length lC).ownBlock → w'.heap[a]? = some (Obj.cells #[.slice lA p.length lC, .slice sA p.length sC, .slice dA p.length dC] RPoolT) ∧ w'.cell? ⟨a, 0, none⟩ = some (.slice lA p.length lC) ∧ w'.frozen? ⟨a, 0, none⟩ = false := fun w' hg => by
       have e : w'.heap[a]? = some (Obj.cells #[.slice lA p.length lC, .slice sA p.length sC, .slice dA p.length dC] RPoolT) := by
        rw [hg.block a (Nat.lt_of_lt_of_le haV hVA.size) (fun e => (hap.1 a e.symm).1 rfl)]
        exact Hold.below hVA _ _ hI.lay
       exact ⟨e, cellB e rfl, frozenB e⟩
      have HQ := Lib.hid hq
      have HAP := Lib.hid hap
      have HVA := Lib.hid hVA
      have HROW := Lib.hid (own_hold hI.rl (Hold.below (bd V)))
      have hBV : B ≤ V.heap.size := Nat.le_trans hI.ga (Nat.le_of_lt haV)
      clear hI bB hVA hap hq
      go_region_law (
       (refine step_append_at rfl _ _ 40 rfl B NodeT i0 (.agg #[.int .i64 0, .int .i64 0, .int .i64 0, .int .u64 0, .string ⟨#[]⟩, .int .i64 0, .int .i64 0]) 7 64 Tryz.underlying40 hi0 hz0 hz1 hz2 rfl (by decide) _ p.length (nodes (nds p)) rfl (HROW.out.alloc _) ⟨V.heap.size, 0, none⟩ 1 1 [.int .i64 k, .int .i64 f, .int .i64 q, .int .u64 u, .string s, .int .i64 y, .int .i64 z] rfl (by decide) rfl (news7 V.drew _ _ _ _ _ _ _ _) (by simp [Value.oneCell']) (by unfold maxLen; omega) (by omega) (by simp; omega) ?_
        intro v' w' hown' hg hw
        obtain ⟨q0, q1, q2⟩ := HQ.out w' hg
        obtain ⟨sa, sc, rfl⟩ := (row_of_own hown').shape))
      all_goals
       have hg2 : (V.drew.alloc (.cells #[.int .i64 k, .int .i64 f, .int .i64 q, .int .u64 u, .string s, .int .i64 y, .int .i64 z] NodeT)).grownBy w' (Value.slice lA p.length lC).ownBlock := hg
       have l5 := setCellB (j := 0) (u := .slice sa (p.length + 1) sc) q0
       have rl5 := own_hold hown' (Hold.setCell (o := 0) (v := .slice sa (p.length + 1) sc) q0 (by decide))
       have rs5 := own_hold (own_other (own_hold HIV.out.rs (Hold.below HVA.out)) hg2 (fun g e => (HAP.out.1 g e).2.2.2.1)) (Hold.setCell (o := 0) (v := .slice sa (p.length + 1) sc) q0 (by decide))
       have rd5 := own_hold (own_other (own_hold HIV.out.rd (Hold.below HVA.out)) hg2 (fun g e => (HAP.out.1 g e).2.2.2.2)) (Hold.setCell (o := 0) (v := .slice sa (p.length + 1) sc) q0 (by decide))
       have hb1 : Below B w V := HBV.out.mono HBW.out
       have hb5 : Below B w (w'.setCell ⟨a, 0, none⟩ (.slice sa (p.length + 1) sc)) := ((hb1.trans (HVA.out.mono hBV)).trans (grown_below hg2 (Nat.le_trans hBV HVA.out.size) (fun k e => (HAP.out.1 k e).2.2.1))).setCell (p := ⟨a, 0, none⟩) HIV.out.ga _
       have fr5 : ∀ k, k < w.heap.size → k ≠ a → (Value.slice lA p.length lC).ownBlock ≠ some k → (w'.setCell ⟨a, 0, none⟩ (.slice sa (p.length + 1) sc)).heap[k]? = w.heap[k]? := fun k hk h1 h2 => by
        rw [Below.heap_setCell _ _ _ _ h1, hg2.block k (Nat.lt_of_lt_of_le (Nat.lt_of_lt_of_le hk HBV.out.size) HVA.out.size) (fun e => h2 e.symm), HVA.out.block k (Nat.lt_of_lt_of_le hk HBV.out.size), HBV.out.block k hk]
       have hs5 : V.heap.size ≤ (w'.setCell ⟨a, 0, none⟩ (.slice sa (p.length + 1) sc)).heap.size := by have := hg2.size; have := HVA.out.size; simp [World.setCell] at *; omega
       have HFR := Lib.hid (show (Value.slice sa (p.length + 1) sc).ownBlock = (Value.slice lA p.length lC).ownBlock ∨ ∃ g, (Value.slice sa (p.length + 1) sc).ownBlock = some g ∧ w.heap.size ≤ g from hw.imp id (fun e => ⟨_, e, Nat.le_trans HBV.out.size HVA.out.size⟩))
       have HL5 := Lib.hid l5
       have HRL5 := Lib.hid rl5
       have HRS5 := Lib.hid rs5
       have HRD5 := Lib.hid rd5
       have HB5 := Lib.hid hb5
       have HF5 := Lib.hid fr5
       clear hg2 hg hw hown' q0 q1 q2 l5 rl5 rs5 rd5 hb1 hb5 fr5 d0 d3 z0 z1 z2 z3 z4 z5 z6
       generalize (w'.setCell ⟨a, 0, none⟩ (.slice sa (p.length + 1) sc)) = W5 at *
       have e1 : W5.cell? ⟨a, 1, none⟩ = some (.slice sA p.length sC) := cellB HL5.out rfl
       have e2 : W5.cell? ⟨a, 2, none⟩ = some (.slice dA p.length dC) := cellB HL5.out rfl
       have hB5 : B ≤ W5.heap.size := Nat.le_trans hBV hs5
       have ha5 : a < W5.heap.size := Nat.lt_of_lt_of_le haV hs5
       have bC : Below W5.heap.size W5 (W5.alloc (.cells #[.int .i64 (1 + s1 + s2)] IntT)) := (Below.refl _ _).alloc (Nat.le_refl _) _
       have HBC := Lib.hid bC
       have HRS6 := Lib.hid (own_hold HRS5.out (Hold.below bC))
       have hq2 : ∀ w', (W5.alloc (.cells #[.int .i64 (1 + s1 + s2)] IntT)).grownBy w' (Value.slice sA p.length sC).ownBlock → w'.heap[a]? = some (Obj.cells #[.slice sa (p.length + 1) sc, .slice sA p.length sC, .slice dA p.length dC] RPoolT) ∧ w'.cell? ⟨a, 1, none⟩ = some (.slice sA p.length sC) ∧ w'.cell? ⟨a, 2, none⟩ = some (.slice dA p.length dC) ∧ w'.frozen? ⟨a, 1, none⟩ = false := fun w' hg => by
        have e : w'.heap[a]? = some (Obj.cells #[.slice sa (p.length + 1) sc, .slice sA p.length sC, .slice dA p.length dC] RPoolT) := by
         rw [hg.block a (Nat.lt_of_lt_of_le ha5 bC.size) (fun e => (HAP.out.2.1 a e.symm).1 rfl)]
         exact Hold.below bC _ _ HL5.out
        exact ⟨e, cellB e rfl, cellB e rfl, frozenB e⟩
       have HQ2 := Lib.hid hq2
       clear hq2 bC
       go_wp2_with (first
        | (at_builtin; refine wpList_append_at _ rfl _ _ 41 rfl B IntT j0 (.int .i64 0) 1 8 Tryz.underlying41 hj0 hy0 hy1 hy2 rfl (by decide) _ p.length (ints (dps p)) rfl HRD7.out ⟨w2'.heap.size, 0, none⟩ 1 1 [.int .i64 (1 + max d1 d2)] rfl (by decide) rfl (by rw [← hw6]; exact cell_one_new _ _ _) (by simp [Value.oneCell']) (by unfold maxLen; omega) (by omega) (by simp; omega) ?_
           intro v3 w3' hown3 hg3 hw3
           obtain ⟨ua, uc, rfl⟩ := (row_of_own hown3).shape
           obtain ⟨r0, r1, r2, r3⟩ := HQ3.out w3' hg3
           have HOWN3 := Lib.hid hown3
           have HG3 := Lib.hid hg3
           have HW3 := Lib.hid hw3
           have HR0 := Lib.hid r0
           clear hown3 hg3 hw3 r0)
        | (at_builtin; refine wpList_append_at _ rfl _ _ 41 rfl B IntT j0 (.int .i64 0) 1 8 Tryz.underlying41 hj0 hy0 hy1 hy2 rfl (by decide) _ p.length (ints (szs p)) rfl HRS6.out ⟨W5.heap.size, 0, none⟩ 1 1 [.int .i64 (1 + s1 + s2)] rfl (by decide) rfl (cell_one_new _ _ _) (by simp [Value.oneCell']) (by unfold maxLen; omega) (by omega) (by simp; omega) ?_
           intro v2 w2' hown2 hg2 hw2
           obtain ⟨ta, tc, rfl⟩ := (row_of_own hown2).shape
           obtain ⟨r0, r1, r2, r3⟩ := HQ2.out w2' hg2
           have HOWN2 := Lib.hid hown2
           have HG2 := Lib.hid hg2
           have HW2 := Lib.hid hw2
           have HR0 := Lib.hid r0
           clear hown2 hg2 hw2 r0
           have l6 := setCellB (j := 1) (u := .slice ta (p.length + 1) tc) HR0.out
           have rl6 := own_hold (own_other (own_hold HRL5.out (Hold.below HBC.out)) HG2.out (own_apart HRS5.out HRL5.out (by decide))) (Hold.setCell (o := 1) (v := .slice ta (p.length + 1) tc) HR0.out (by decide))
           have rs6 := own_hold HOWN2.out (Hold.setCell (o := 1) (v := .slice ta (p.length + 1) tc) HR0.out (by decide))
           have rd6 := own_hold (own_other (own_hold HRD5.out (Hold.below HBC.out)) HG2.out HIV.out.ap) (Hold.setCell (o := 1) (v := .slice ta (p.length + 1) tc) HR0.out (by decide))
           have hb6 : Below B w (w2'.setCell ⟨a, 1, none⟩ (.slice ta (p.length + 1) tc)) := ((HB5.out.trans (HBC.out.mono hB5)).trans (grown_below HG2.out (Nat.le_trans hB5 HBC.out.size) (fun k e => (HAP.out.2.1 k e).2.2.1))).setCell (p := ⟨a, 1, none⟩) HIV.out.ga _
           have fr6 : ∀ k, k < w.heap.size → k ≠ a → (Value.slice lA p.length lC).ownBlock ≠ some k → (Value.slice sA p.length sC).ownBlock ≠ some k → (w2'.setCell ⟨a, 1, none⟩ (.slice ta (p.length + 1) tc)).heap[k]? = w.heap[k]? := fun k hk h1 h2 h3 => by
            have hk5 : k < W5.heap.size := Nat.lt_of_lt_of_le (Nat.lt_of_lt_of_le hk HBV.out.size) hs5
            rw [Below.heap_setCell _ _ _ _ h1, HG2.out.block k (Nat.lt_of_lt_of_le hk5 HBC.out.size) (fun e => h3 e.symm), HBC.out.block k hk5, HF5.out k hk h1 h2]
           have hs6 : W5.heap.size ≤ (w2'.setCell ⟨a, 1, none⟩ (.slice ta (p.length + 1) tc)).heap.size := Nat.le_trans HBC.out.size (Nat.le_trans HG2.out.size (Nat.le_of_eq (by simp [World.setCell])))
           have hgs : ∀ g, (Value.slice ta (p.length + 1) tc).ownBlock = some g → g < (w2'.setCell ⟨a, 1, none⟩ (.slice ta (p.length + 1) tc)).heap.size := fun g e => by
            obtain ⟨_, cur, hc⟩ := own_type rs6 e
            exact (Array.getElem?_eq_some_iff.1 hc).1
           have hap6 : ∀ g, (Value.slice ta (p.length + 1) tc).ownBlock = some g → (Value.slice dA p.length dC).ownBlock ≠ some g := fun g e e' => by
            rcases HW2.out with h | h
            ·exact HIV.out.ap g (h.symm.trans e) e'
            ·have h1 := (HAP.out.2.2 g e').2.1
             rw [h] at e
             simp at e
             omega
           have HL6 := Lib.hid l6
           have HRL6 := Lib.hid rl6
           have HRS7 := Lib.hid rs6
           have HRD6 := Lib.hid rd6
           have HB6 := Lib.hid hb6
           have HF6 := Lib.hid fr6
           have HGS := Lib.hid hgs
           have HAP6 := Lib.hid hap6
           clear l6 rl6 rs6 rd6 hb6 fr6 hgs hap6 HOWN2 HG2 HW2 HR0 HQ2
           have hB6 : B ≤ (w2'.setCell ⟨a, 1, none⟩ (.slice ta (p.length + 1) tc)).heap.size := Nat.le_trans hB5 hs6
           have hw6 : (w2'.setCell ⟨a, 1, none⟩ (.slice ta (p.length + 1) tc)).heap.size = w2'.heap.size := by simp [World.setCell]
           have hB6' : B ≤ w2'.heap.size := by rw [← hw6]; exact hB6
           have ha6 : a < (w2'.setCell ⟨a, 1, none⟩ (.slice ta (p.length + 1) tc)).heap.size := Nat.lt_of_lt_of_le ha5 hs6
           have bD : Below (w2'.setCell ⟨a, 1, none⟩ (.slice ta (p.length + 1) tc)).heap.size (w2'.setCell ⟨a, 1, none⟩ (.slice ta (p.length + 1) tc)) ((w2'.setCell ⟨a, 1, none⟩ (.slice ta (p.length + 1) tc)).alloc (.cells #[.int .i64 (1 + max d1 d2)] IntT)) := (Below.refl _ _).alloc (Nat.le_refl _) _
           have HBD := Lib.hid bD
           have HRD7 := Lib.hid (own_hold HRD6.out (Hold.below bD))
           have hq3 : ∀ w', ((w2'.setCell ⟨a, 1, none⟩ (.slice ta (p.length + 1) tc)).alloc (.cells #[.int .i64 (1 + max d1 d2)] IntT)).grownBy w' (Value.slice dA p.length dC).ownBlock → w'.heap[a]? = some (Obj.cells #[.slice sa (p.length + 1) sc, .slice ta (p.length + 1) tc, .slice dA p.length dC] RPoolT) ∧ w'.cell? ⟨a, 2, none⟩ = some (.slice dA p.length dC) ∧ w'.cell? ⟨a, 0, none⟩ = some (.slice sa (p.length + 1) sc) ∧ w'.frozen? ⟨a, 2, none⟩ = false := fun w' hg => by
            have e : w'.heap[a]? = some (Obj.cells #[.slice sa (p.length + 1) sc, .slice ta (p.length + 1) tc, .slice dA p.length dC] RPoolT) := by
             rw [hg.block a (Nat.lt_of_lt_of_le ha6 bD.size) (fun e => (HAP.out.2.2 a e.symm).1 rfl)]
             exact Hold.below bD _ _ HL6.out
            exact ⟨e, cellB e rfl, cellB e rfl, frozenB e⟩
           have HQ3 := Lib.hid hq3
           clear hq3 bD))
       go_returns
       have l7 := setCellB (j := 2) (u := .slice ua (p.length + 1) uc) HR0.out
       have rl7 := own_hold (own_other (own_hold HRL6.out (Hold.below HBD.out)) HG3.out (own_apart HRD6.out HRL6.out (by decide))) (Hold.setCell (o := 2) (v := .slice ua (p.length + 1) uc) HR0.out (by decide))
       have rs7 := own_hold (own_other (own_hold HRS7.out (Hold.below HBD.out)) HG3.out (fun g e e' => HAP6.out g e' e)) (Hold.setCell (o := 2) (v := .slice ua (p.length + 1) uc) HR0.out (by decide))
       have rd7 := own_hold HOWN3.out (Hold.setCell (o := 2) (v := .slice ua (p.length + 1) uc) HR0.out (by decide))
       have hb7 : Below B w (w3'.setCell ⟨a, 2, none⟩ (.slice ua (p.length + 1) uc)) := ((HB6.out.trans (HBD.out.mono hB6)).trans (grown_below HG3.out (Nat.le_trans hB6 HBD.out.size) (fun k e => (HAP.out.2.2 k e).2.2))).setCell (p := ⟨a, 2, none⟩) HIV.out.ga _
       refine ⟨by rw [HM.out]; rfl, ?_⟩
       rw [HM.out]
       try dsimp only
       refine ⟨hb7, fun k hk h1 h2 h3 h4 => ?_, .slice sa (p.length + 1) sc, .slice ta (p.length + 1) tc, .slice ua (p.length + 1) uc, ⟨l7, HIV.out.ga, ?_, ?_, ?_, fun g e e' => ?_, HOK.out, fun m hm => ?_⟩, HFR.out⟩
       ·have hk6 : k < (w2'.setCell ⟨a, 1, none⟩ (.slice ta (p.length + 1) tc)).heap.size := Nat.lt_of_lt_of_le (Nat.lt_of_lt_of_le (Nat.lt_of_lt_of_le hk HBV.out.size) hs5) hs6
        rw [Below.heap_setCell _ _ _ _ h1, HG3.out.block k (Nat.lt_of_lt_of_le hk6 HBD.out.size) (fun e => h4 e.symm), HBD.out.block k hk6]
        exact HF6.out k hk h1 h2 h3
       ·rw [add_len, nds_add]; exact rl7
       ·rw [add_len, szs_add, HSS.out]; exact rs7
       ·rw [add_len, dps_add, HDD.out]; exact rd7
       ·rcases HW3.out with h | h
        ·exact HAP6.out g e (h.symm.trans e')
        ·have h1 := HGS.out g e
         rw [h] at e'
         simp at e'
         omega
       ·rcases List.mem_append.1 hm with h | h
        ·exact HIV.out.nok m h
        ·rw [List.mem_singleton] at h
         subst h
         exact HNOK.out
    ·have HM := Lib.hid (mkP_yes HE0.out h0)
     refine (rhas_yes HI3.out HNOK.out h0).mono ?_
     rintro e w4 ⟨rfl, u4⟩
     have HBV := Lib.hid (bmore HB3.out u4)
     clear u4 h0
     go_wp2_with fail
     go_returns
     exact ⟨by rw [HM.out]; rfl, by rw [HM.out]; exact RGrew.same HI.out HBV.out⟩
set_option maxRecDepth 100000 in
set_option maxHeartbeats 12800000 in
theorem rmake_kids2 (h : IsRef w B a vl vs vd p) {n : Nd} (hn : NdOk n) (hs : shp n = 0) (hj : kidsN n.kind = 2) : Calls Tryz.prog 161 #[.pointer (some ⟨a, 0, none⟩), .agg (nodeA n)] w (RPost w B a vl vs vd p n) := by
 obtain ⟨i0, hi0, hz0, hz1, hz2⟩ := info_parts rowNode
 obtain ⟨j0, hj0, hy0, hy1, hy2⟩ := info_parts rowInt
 obtain ⟨lA, lC, rfl⟩ := (row_of_own h.rl).shape
 obtain ⟨sA, sC, rfl⟩ := (row_of_own h.rs).shape
 obtain ⟨dA, dC, rfl⟩ := (row_of_own h.rd).shape
 have bA : Below w.heap.size w (w.alloc (.cells (nodeA n) NodeT)) := (Below.refl _ _).alloc (Nat.le_refl _) _
 have hb : (w.alloc (.cells (nodeA n) NodeT)).heap[w.heap.size]? = some (Obj.cells (nodeA n) NodeT) := heap_alloc_new _ _
 have hsh := rshape n (w.alloc (.cells (nodeA n) NodeT)) hn.text
 have HBW := Lib.hid (show B ≤ w.heap.size from Nat.le_trans h.ga (Nat.le_of_lt h.lt))
 have hlen := h.ok.len
 have HI := Lib.hid h
 have HA := Lib.hid bA
 have HNOK := Lib.hid hn
 have hbd := h.ok.at_bounds
 have HS0 := Lib.hid hs
 have HJ' := Lib.hid hj
 rw [hs] at hsh
 have hkd := rkids n.kind
 rw [hj] at hkd
 have HSH := Lib.hid hsh
 have HKD := Lib.hid hkd
 clear hsh h bA hn hs hj hkd
 obtain ⟨k, f, q, u, s, y, z⟩ := n
 simp only [nodeA] at *
 have z0 : (w.alloc (.cells #[.int .i64 k, .int .i64 f, .int .i64 q, .int .u64 u, .string s, .int .i64 y, .int .i64 z] NodeT)).cell? ⟨w.heap.size, 0, none⟩ = some (.int .i64 k) := cellB hb rfl
 have z1 : (w.alloc (.cells #[.int .i64 k, .int .i64 f, .int .i64 q, .int .u64 u, .string s, .int .i64 y, .int .i64 z] NodeT)).cell? ⟨w.heap.size, 1, none⟩ = some (.int .i64 f) := cellB hb rfl
 have z2 : (w.alloc (.cells #[.int .i64 k, .int .i64 f, .int .i64 q, .int .u64 u, .string s, .int .i64 y, .int .i64 z] NodeT)).cell? ⟨w.heap.size, 2, none⟩ = some (.int .i64 q) := cellB hb rfl
 have z3 : (w.alloc (.cells #[.int .i64 k, .int .i64 f, .int .i64 q, .int .u64 u, .string s, .int .i64 y, .int .i64 z] NodeT)).cell? ⟨w.heap.size, 3, none⟩ = some (.int .u64 u) := cellB hb rfl
 have z4 : (w.alloc (.cells #[.int .i64 k, .int .i64 f, .int .i64 q, .int .u64 u, .string s, .int .i64 y, .int .i64 z] NodeT)).cell? ⟨w.heap.size, 4, none⟩ = some (.string s) := cellB hb rfl
 have z5 : (w.alloc (.cells #[.int .i64 k, .int .i64 f, .int .i64 q, .int .u64 u, .string s, .int .i64 y, .int .i64 z] NodeT)).cell? ⟨w.heap.size, 5, none⟩ = some (.int .i64 y) := cellB hb rfl
 have z6 : (w.alloc (.cells #[.int .i64 k, .int .i64 f, .int .i64 q, .int .u64 u, .string s, .int .i64 y, .int .i64 z] NodeT)).cell? ⟨w.heap.size, 6, none⟩ = some (.int .i64 z) := cellB hb rfl
 clear hb
 have hy := hbd y
 have hz := hbd z
 have hS : szN p ⟨k, f, q, u, s, y, z⟩ = 1 + szP p y + szP p z := rfl
 have hD : dpN p ⟨k, f, q, u, s, y, z⟩ = 1 + max (dpP p y) (dpP p z) := rfl
 have ps := fun (W : World) (hW : IsRef W B a (.slice lA p.length lC) (.slice sA p.length sC) (.slice dA p.length dC) p) => rsize hW y
 have ps' := fun (W : World) (hW : IsRef W B a (.slice lA p.length lC) (.slice sA p.length sC) (.slice dA p.length dC) p) => rsize hW z
 have pd := fun (W : World) (hW : IsRef W B a (.slice lA p.length lC) (.slice sA p.length sC) (.slice dA p.length dC) p) => rdepth hW y
 have pd' := fun (W : World) (hW : IsRef W B a (.slice lA p.length lC) (.slice sA p.length sC) (.slice dA p.length dC) p) => rdepth hW z
 generalize szP p y = s1 at *
 generalize szP p z = s2 at *
 generalize dpP p y = d1 at *
 generalize dpP p z = d2 at *
 have PS := Lib.hid ps
 have PS' := Lib.hid ps'
 have PD := Lib.hid pd
 have PD' := Lib.hid pd'
 have HSS := Lib.hid hS
 have HDD := Lib.hid hD
 obtain ⟨⟨a1, a2⟩, a3, a4⟩ := hy
 obtain ⟨⟨b1, b2⟩, b3, b4⟩ := hz
 clear hbd ps ps' pd pd' hS hD
 have i1 : IntKind.i64.wrap (1 + s1) = 1 + s1 := IntWalk.i64_in _ (by omega)
 have i2 : IntKind.i64.wrap (1 + s1 + s2) = 1 + s1 + s2 := IntWalk.i64_in _ (by omega)
 have i3 : IntKind.i64.wrap (1 + max d1 d2) = 1 + max d1 d2 := IntWalk.i64_in _ (by omega)
 go_enter Tryz.func161, Tryz.ntmps161
 go_wp2_with fail
 generalize (w.alloc (.cells #[.int .i64 k, .int .i64 f, .int .i64 q, .int .u64 u, .string s, .int .i64 y, .int .i64 z] NodeT)) = W at *
 refine HSH.out.mono ?_
 rintro e w1 ⟨rfl, u1⟩
 have HI1 := Lib.hid (HI.out.below (bmore HA.out u1))
 have HB1 := Lib.hid (bmore HA.out u1)
 replace z0 := bcellAt u1 z0
 replace z1 := bcellAt u1 z1
 replace z2 := bcellAt u1 z2
 replace z3 := bcellAt u1 z3
 replace z4 := bcellAt u1 z4
 replace z5 := bcellAt u1 z5
 replace z6 := bcellAt u1 z6
 clear u1
 go_wp2_with fail
 refine (HKD.out _).mono ?_
 rintro e w' ⟨rfl, rfl⟩
 rw [show ((2 : Nat) : Int) = 2 from rfl]
 cases ha : inP p y
 ·have HIN := Lib.hid ha
  have HM := Lib.hid (mkP_err (p := p) (n := ⟨k, f, q, u, s, y, z⟩) (e := 51) (by simp [errP, HS0.out, kidsBad, HJ'.out, ha]) (by simp))
  clear ha
  go_wp2_with fail
  refine (rin_no HI1.out HIN.out).mono ?_
  rintro e w3 ⟨rfl, rfl⟩
  go_wp2_with fail
  go_returns
  exact ⟨by rw [HM.out]; rfl, by rw [HM.out]; exact RGrew.same HI.out HB1.out⟩
 ·have HIN := Lib.hid ha
  clear ha
  go_wp2_with fail
  refine (rin_yes HI1.out HIN.out).mono ?_
  rintro e w3 ⟨rfl, rfl⟩
  cases hbb : inP p z
  ·have HIB := Lib.hid hbb
   have HM := Lib.hid (mkP_err (p := p) (n := ⟨k, f, q, u, s, y, z⟩) (e := 51) (by simp [errP, HS0.out, kidsBad, HJ'.out, HIN.out, hbb]) (by simp))
   clear hbb
   go_wp2_with fail
   refine (rin_no HI1.out HIB.out).mono ?_
   rintro e w3 ⟨rfl, rfl⟩
   go_wp2_with fail
   go_returns
   exact ⟨by rw [HM.out]; rfl, by rw [HM.out]; exact RGrew.same HI.out HB1.out⟩
  ·have HIB := Lib.hid hbb
   clear hbb
   go_wp2_with fail
   refine (rin_yes HI1.out HIB.out).mono ?_
   rintro e w3 ⟨rfl, rfl⟩
   go_wp2_with fail
   go_quiet (first | with_reducible exact Calls.quiet_of_same (still_of (PS.out _ (HI1.out.below (bdn _ _)))) | with_reducible exact Calls.quiet_of_same (still_of (PS'.out _ (HI1.out.below (bdn _ _)))))
   go_wp2_with fail
   have hq : Below w1.heap.size w1 (w1.drewN nq) := bdn _ _
   have HI2 := Lib.hid (HI1.out.below hq)
   have HB2 := Lib.hid (bmore HB1.out hq)
   replace z0 := bcellAt hq z0
   replace z1 := bcellAt hq z1
   replace z2 := bcellAt hq z2
   replace z3 := bcellAt hq z3
   replace z4 := bcellAt hq z4
   replace z5 := bcellAt hq z5
   replace z6 := bcellAt hq z6
   clear hq
   generalize w1.drewN nq = w2 at *
   go_quiet (first | with_reducible exact Calls.quiet_of_same (still_of (PD.out _ (HI2.out.below (bdn _ _)))) | with_reducible exact Calls.quiet_of_same (still_of (PD'.out _ (HI2.out.below (bdn _ _)))))
   have hq : Below w2.heap.size w2 (w2.drewN nq) := bdn _ _
   have HI3 := Lib.hid (HI2.out.below hq)
   have HB3 := Lib.hid (bmore HB2.out hq)
   replace z0 := bcellAt hq z0
   replace z1 := bcellAt hq z1
   replace z2 := bcellAt hq z2
   replace z3 := bcellAt hq z3
   replace z4 := bcellAt hq z4
   replace z5 := bcellAt hq z5
   replace z6 := bcellAt hq z6
   clear hq
   generalize w2.drewN nq = w3 at *
   clear i1 i2 i3
   by_cases h1 : 4096 < (1 + s1 + s2)
   ·have HM := Lib.hid (mkP_err (p := p) (n := ⟨k, f, q, u, s, y, z⟩) (e := 52) (by simp [errP, HS0.out, kidsBad, HJ'.out, HIN.out, HIB.out, HSS.out, HDD.out, h1]) (by simp))
    go_wp2_with fail
    go_returns
    exact ⟨by rw [HM.out]; rfl, by rw [HM.out]; exact RGrew.same HI.out HB3.out⟩
   ·have h1' : decide (4096 < (1 + s1 + s2)) = false := decide_eq_false h1
    by_cases h2 : 64 < (1 + max d1 d2)
    ·have HM := Lib.hid (mkP_err (p := p) (n := ⟨k, f, q, u, s, y, z⟩) (e := 52) (by simp [errP, HS0.out, kidsBad, HJ'.out, HIN.out, HIB.out, HSS.out, HDD.out, h1, h2]) (by simp))
     clear h1
     go_wp2_with fail
     go_returns
     exact ⟨by rw [HM.out]; rfl, by rw [HM.out]; exact RGrew.same HI.out HB3.out⟩
    ·have h2' : decide (64 < (1 + max d1 d2)) = false := decide_eq_false h2
     have HE0 := Lib.hid (show errP p ⟨k, f, q, u, s, y, z⟩ = 0 from by simp [errP, HS0.out, kidsBad, HJ'.out, HIN.out, HIB.out, HSS.out, HDD.out, h1, h2])
     clear h1 h2
     go_wp2_with fail
     by_cases h0 : numP p ⟨k, f, q, u, s, y, z⟩ = 0
     ·refine (rhas_no HI3.out HNOK.out h0).mono ?_
      rintro e w4 ⟨rfl, u4⟩
      have HIV := Lib.hid (HI3.out.below u4)
      have HBV := Lib.hid (bmore HB3.out u4)
      replace z0 := bcellAt u4 z0
      replace z1 := bcellAt u4 z1
      replace z2 := bcellAt u4 z2
      replace z3 := bcellAt u4 z3
      replace z4 := bcellAt u4 z4
      replace z5 := bcellAt u4 z5
      replace z6 := bcellAt u4 z6
      clear u4
      generalize w4 = V at *
      have c0 : V.cell? ⟨a, 0, none⟩ = some (.slice lA p.length lC) := cellB HIV.out.lay rfl
      by_cases h3 : 65536 ≤ p.length
      ·have HM := Lib.hid (mkP_many HE0.out h0 h3)
       have h3' : (65536 : Int) ≤ (p.length : Int) := by omega
       clear h0
       go_wp2_with fail
       go_returns
       exact ⟨by rw [HM.out]; rfl, by rw [HM.out]; exact RGrew.same HI.out HBV.out⟩
      ·have HM := Lib.hid (mkP_new HE0.out h0 (by omega))
       have HOK := Lib.hid (Ok.add HIV.out.ok HE0.out h0 (by omega))
       have h3' : decide ((65536 : Int) ≤ (p.length : Int)) = false := by simp; omega
       clear h0
       go_wp2_with fail
       clear c0
       have hI := HIV.out
       have d0 : V.cell? ⟨a, 0, none⟩ = some (.slice lA p.length lC) := cellB hI.lay rfl
       have bB : Below V.heap.size V (V.alloc (.cells #[.int .i64 k, .int .i64 f, .int .i64 q, .int .u64 u, .string s, .int .i64 y, .int .i64 z] NodeT)) := (Below.refl _ _).alloc (Nat.le_refl _) _
       have d3 : (V.alloc (.cells #[.int .i64 k, .int .i64 f, .int .i64 q, .int .u64 u, .string s, .int .i64 y, .int .i64 z] NodeT)).cell? ⟨a, 0, none⟩ = some (.slice lA p.length lC) := bcellAt bB d0
       have haV : a < V.heap.size := hI.lt
       have hVA : Below V.heap.size V (V.drew.alloc (.cells #[.int .i64 k, .int .i64 f, .int .i64 q, .int .u64 u, .string s, .int .i64 y, .int .i64 z] NodeT)) := bmore (bd V) ((Below.refl _ _).alloc (Nat.le_refl _) _)
       have hap := hI.apart
       have hq : ∀ w', (V.drew.alloc (.cells #[.int .i64 k, .int .i64 f, .int .i64 q, .int .u64 u, .string s, .int .i64 y, .int .i64 z] NodeT)).grownBy w' (Value.slice lA p.length lC).ownBlock → w'.heap[a]? = some (Obj.cells #[.slice lA p.length lC, .slice sA p.length sC, .slice dA p.length dC] RPoolT) ∧ w'.cell? ⟨a, 0, none⟩ = some (.slice lA p.length lC) ∧ w'.frozen? ⟨a, 0, none⟩ = false := fun w' hg => by
        have e : w'.heap[a]? = some (Obj.cells #[.slice lA p.length lC, .slice sA p.length sC, .slice dA p.length dC] RPoolT) := by
         rw [hg.block a (Nat.lt_of_lt_of_le haV hVA.size) (fun e => (hap.1 a e.symm).1 rfl)]
         exact Hold.below hVA _ _ hI.lay
        exact ⟨e, cellB e rfl, frozenB e⟩
       have HQ := Lib.hid hq
       have HAP := Lib.hid hap
       have HVA := Lib.hid hVA
       have HROW := Lib.hid (own_hold hI.rl (Hold.below (bd V)))
       have hBV : B ≤ V.heap.size := Nat.le_trans hI.ga (Nat.le_of_lt haV)
       clear hI bB hVA hap hq
       go_region_law (
        (refine step_append_at rfl _ _ 40 rfl B NodeT i0 (.agg #[.int .i64 0, .int .i64 0, .int .i64 0, .int .u64 0, .string ⟨#[]⟩, .int .i64 0, .int .i64 0]) 7 64 Tryz.underlying40 hi0 hz0 hz1 hz2 rfl (by decide) _ p.length (nodes (nds p)) rfl (HROW.out.alloc _) ⟨V.heap.size, 0, none⟩ 1 1 [.int .i64 k, .int .i64 f, .int .i64 q, .int .u64 u, .string s, .int .i64 y, .int .i64 z] rfl (by decide) rfl (news7 V.drew _ _ _ _ _ _ _ _) (by simp [Value.oneCell']) (by unfold maxLen; omega) (by omega) (by simp; omega) ?_
         intro v' w' hown' hg hw
         obtain ⟨q0, q1, q2⟩ := HQ.out w' hg
         obtain ⟨sa, sc, rfl⟩ := (row_of_own hown').shape))
       all_goals
        have hg2 : (V.drew.alloc (.cells #[.int .i64 k, .int .i64 f, .int .i64 q, .int .u64 u, .string s, .int .i64 y, .int .i64 z] NodeT)).grownBy w' (Value.slice lA p.length lC).ownBlock := hg
        have l5 := setCellB (j := 0) (u := .slice sa (p.length + 1) sc) q0
        have rl5 := own_hold hown' (Hold.setCell (o := 0) (v := .slice sa (p.length + 1) sc) q0 (by decide))
        have rs5 := own_hold (own_other (own_hold HIV.out.rs (Hold.below HVA.out)) hg2 (fun g e => (HAP.out.1 g e).2.2.2.1)) (Hold.setCell (o := 0) (v := .slice sa (p.length + 1) sc) q0 (by decide))
        have rd5 := own_hold (own_other (own_hold HIV.out.rd (Hold.below HVA.out)) hg2 (fun g e => (HAP.out.1 g e).2.2.2.2)) (Hold.setCell (o := 0) (v := .slice sa (p.length + 1) sc) q0 (by decide))
        have hb1 : Below B w V := HBV.out.mono HBW.out
        have hb5 : Below B w (w'.setCell ⟨a, 0, none⟩ (.slice sa (p.length + 1) sc)) := ((hb1.trans (HVA.out.mono hBV)).trans (grown_below hg2 (Nat.le_trans hBV HVA.out.size) (fun k e => (HAP.out.1 k e).2.2.1))).setCell (p := ⟨a, 0, none⟩) HIV.out.ga _
        have fr5 : ∀ k, k < w.heap.size → k ≠ a → (Value.slice lA p.length lC).ownBlock ≠ some k → (w'.setCell ⟨a, 0, none⟩ (.slice sa (p.length + 1) sc)).heap[k]? = w.heap[k]? := fun k hk h1 h2 => by
         rw [Below.heap_setCell _ _ _ _ h1, hg2.block k (Nat.lt_of_lt_of_le (Nat.lt_of_lt_of_le hk HBV.out.size) HVA.out.size) (fun e => h2 e.symm), HVA.out.block k (Nat.lt_of_lt_of_le hk HBV.out.size), HBV.out.block k hk]
        have hs5 : V.heap.size ≤ (w'.setCell ⟨a, 0, none⟩ (.slice sa (p.length + 1) sc)).heap.size := by have := hg2.size; have := HVA.out.size; simp [World.setCell] at *; omega
        have HFR := Lib.hid (show (Value.slice sa (p.length + 1) sc).ownBlock = (Value.slice lA p.length lC).ownBlock ∨ ∃ g, (Value.slice sa (p.length + 1) sc).ownBlock = some g ∧ w.heap.size ≤ g from hw.imp id (fun e => ⟨_, e, Nat.le_trans HBV.out.size HVA.out.size⟩))
        have HL5 := Lib.hid l5
        have HRL5 := Lib.hid rl5
        have HRS5 := Lib.hid rs5
        have HRD5 := Lib.hid rd5
        have HB5 := Lib.hid hb5
        have HF5 := Lib.hid fr5
        clear hg2 hg hw hown' q0 q1 q2 l5 rl5 rs5 rd5 hb1 hb5 fr5 d0 d3 z0 z1 z2 z3 z4 z5 z6
        generalize (w'.setCell ⟨a, 0, none⟩ (.slice sa (p.length + 1) sc)) = W5 at *
        have e1 : W5.cell? ⟨a, 1, none⟩ = some (.slice sA p.length sC) := cellB HL5.out rfl
        have e2 : W5.cell? ⟨a, 2, none⟩ = some (.slice dA p.length dC) := cellB HL5.out rfl
        have hB5 : B ≤ W5.heap.size := Nat.le_trans hBV hs5
        have ha5 : a < W5.heap.size := Nat.lt_of_lt_of_le haV hs5
        have bC : Below W5.heap.size W5 (W5.alloc (.cells #[.int .i64 (1 + s1 + s2)] IntT)) := (Below.refl _ _).alloc (Nat.le_refl _) _
        have HBC := Lib.hid bC
        have HRS6 := Lib.hid (own_hold HRS5.out (Hold.below bC))
        have hq2 : ∀ w', (W5.alloc (.cells #[.int .i64 (1 + s1 + s2)] IntT)).grownBy w' (Value.slice sA p.length sC).ownBlock → w'.heap[a]? = some (Obj.cells #[.slice sa (p.length + 1) sc, .slice sA p.length sC, .slice dA p.length dC] RPoolT) ∧ w'.cell? ⟨a, 1, none⟩ = some (.slice sA p.length sC) ∧ w'.cell? ⟨a, 2, none⟩ = some (.slice dA p.length dC) ∧ w'.frozen? ⟨a, 1, none⟩ = false := fun w' hg => by
         have e : w'.heap[a]? = some (Obj.cells #[.slice sa (p.length + 1) sc, .slice sA p.length sC, .slice dA p.length dC] RPoolT) := by
          rw [hg.block a (Nat.lt_of_lt_of_le ha5 bC.size) (fun e => (HAP.out.2.1 a e.symm).1 rfl)]
          exact Hold.below bC _ _ HL5.out
         exact ⟨e, cellB e rfl, cellB e rfl, frozenB e⟩
        have HQ2 := Lib.hid hq2
        clear hq2 bC
        go_wp2_with (first
         | (at_builtin; refine wpList_append_at _ rfl _ _ 41 rfl B IntT j0 (.int .i64 0) 1 8 Tryz.underlying41 hj0 hy0 hy1 hy2 rfl (by decide) _ p.length (ints (dps p)) rfl HRD7.out ⟨w2'.heap.size, 0, none⟩ 1 1 [.int .i64 (1 + max d1 d2)] rfl (by decide) rfl (by rw [← hw6]; exact cell_one_new _ _ _) (by simp [Value.oneCell']) (by unfold maxLen; omega) (by omega) (by simp; omega) ?_
            intro v3 w3' hown3 hg3 hw3
            obtain ⟨ua, uc, rfl⟩ := (row_of_own hown3).shape
            obtain ⟨r0, r1, r2, r3⟩ := HQ3.out w3' hg3
            have HOWN3 := Lib.hid hown3
            have HG3 := Lib.hid hg3
            have HW3 := Lib.hid hw3
            have HR0 := Lib.hid r0
            clear hown3 hg3 hw3 r0)
         | (at_builtin; refine wpList_append_at _ rfl _ _ 41 rfl B IntT j0 (.int .i64 0) 1 8 Tryz.underlying41 hj0 hy0 hy1 hy2 rfl (by decide) _ p.length (ints (szs p)) rfl HRS6.out ⟨W5.heap.size, 0, none⟩ 1 1 [.int .i64 (1 + s1 + s2)] rfl (by decide) rfl (cell_one_new _ _ _) (by simp [Value.oneCell']) (by unfold maxLen; omega) (by omega) (by simp; omega) ?_
            intro v2 w2' hown2 hg2 hw2
            obtain ⟨ta, tc, rfl⟩ := (row_of_own hown2).shape
            obtain ⟨r0, r1, r2, r3⟩ := HQ2.out w2' hg2
            have HOWN2 := Lib.hid hown2
            have HG2 := Lib.hid hg2
            have HW2 := Lib.hid hw2
            have HR0 := Lib.hid r0
            clear hown2 hg2 hw2 r0
            have l6 := setCellB (j := 1) (u := .slice ta (p.length + 1) tc) HR0.out
            have rl6 := own_hold (own_other (own_hold HRL5.out (Hold.below HBC.out)) HG2.out (own_apart HRS5.out HRL5.out (by decide))) (Hold.setCell (o := 1) (v := .slice ta (p.length + 1) tc) HR0.out (by decide))
            have rs6 := own_hold HOWN2.out (Hold.setCell (o := 1) (v := .slice ta (p.length + 1) tc) HR0.out (by decide))
            have rd6 := own_hold (own_other (own_hold HRD5.out (Hold.below HBC.out)) HG2.out HIV.out.ap) (Hold.setCell (o := 1) (v := .slice ta (p.length + 1) tc) HR0.out (by decide))
            have hb6 : Below B w (w2'.setCell ⟨a, 1, none⟩ (.slice ta (p.length + 1) tc)) := ((HB5.out.trans (HBC.out.mono hB5)).trans (grown_below HG2.out (Nat.le_trans hB5 HBC.out.size) (fun k e => (HAP.out.2.1 k e).2.2.1))).setCell (p := ⟨a, 1, none⟩) HIV.out.ga _
            have fr6 : ∀ k, k < w.heap.size → k ≠ a → (Value.slice lA p.length lC).ownBlock ≠ some k → (Value.slice sA p.length sC).ownBlock ≠ some k → (w2'.setCell ⟨a, 1, none⟩ (.slice ta (p.length + 1) tc)).heap[k]? = w.heap[k]? := fun k hk h1 h2 h3 => by
             have hk5 : k < W5.heap.size := Nat.lt_of_lt_of_le (Nat.lt_of_lt_of_le hk HBV.out.size) hs5
             rw [Below.heap_setCell _ _ _ _ h1, HG2.out.block k (Nat.lt_of_lt_of_le hk5 HBC.out.size) (fun e => h3 e.symm), HBC.out.block k hk5, HF5.out k hk h1 h2]
            have hs6 : W5.heap.size ≤ (w2'.setCell ⟨a, 1, none⟩ (.slice ta (p.length + 1) tc)).heap.size := Nat.le_trans HBC.out.size (Nat.le_trans HG2.out.size (Nat.le_of_eq (by simp [World.setCell])))
            have hgs : ∀ g, (Value.slice ta (p.length + 1) tc).ownBlock = some g → g < (w2'.setCell ⟨a, 1, none⟩ (.slice ta (p.length + 1) tc)).heap.size := fun g e => by
             obtain ⟨_, cur, hc⟩ := own_type rs6 e
             exact (Array.getElem?_eq_some_iff.1 hc).1
            have hap6 : ∀ g, (Value.slice ta (p.length + 1) tc).ownBlock = some g → (Value.slice dA p.length dC).ownBlock ≠ some g := fun g e e' => by
             rcases HW2.out with h | h
             ·exact HIV.out.ap g (h.symm.trans e) e'
             ·have h1 := (HAP.out.2.2 g e').2.1
              rw [h] at e
              simp at e
              omega
            have HL6 := Lib.hid l6
            have HRL6 := Lib.hid rl6
            have HRS7 := Lib.hid rs6
            have HRD6 := Lib.hid rd6
            have HB6 := Lib.hid hb6
            have HF6 := Lib.hid fr6
            have HGS := Lib.hid hgs
            have HAP6 := Lib.hid hap6
            clear l6 rl6 rs6 rd6 hb6 fr6 hgs hap6 HOWN2 HG2 HW2 HR0 HQ2
            have hB6 : B ≤ (w2'.setCell ⟨a, 1, none⟩ (.slice ta (p.length + 1) tc)).heap.size := Nat.le_trans hB5 hs6
            have hw6 : (w2'.setCell ⟨a, 1, none⟩ (.slice ta (p.length + 1) tc)).heap.size = w2'.heap.size := by simp [World.setCell]
            have hB6' : B ≤ w2'.heap.size := by rw [← hw6]; exact hB6
            have ha6 : a < (w2'.setCell ⟨a, 1, none⟩ (.slice ta (p.length + 1) tc)).heap.size := Nat.lt_of_lt_of_le ha5 hs6
            have bD : Below (w2'.setCell ⟨a, 1, none⟩ (.slice ta (p.length + 1) tc)).heap.size (w2'.setCell ⟨a, 1, none⟩ (.slice ta (p.length + 1) tc)) ((w2'.setCell ⟨a, 1, none⟩ (.slice ta (p.length + 1) tc)).alloc (.cells #[.int .i64 (1 + max d1 d2)] IntT)) := (Below.refl _ _).alloc (Nat.le_refl _) _
            have HBD := Lib.hid bD
            have HRD7 := Lib.hid (own_hold HRD6.out (Hold.below bD))
            have hq3 : ∀ w', ((w2'.setCell ⟨a, 1, none⟩ (.slice ta (p.length + 1) tc)).alloc (.cells #[.int .i64 (1 + max d1 d2)] IntT)).grownBy w' (Value.slice dA p.length dC).ownBlock → w'.heap[a]? = some (Obj.cells #[.slice sa (p.length + 1) sc, .slice ta (p.length + 1) tc, .slice dA p.length dC] RPoolT) ∧ w'.cell? ⟨a, 2, none⟩ = some (.slice dA p.length dC) ∧ w'.cell? ⟨a, 0, none⟩ = some (.slice sa (p.length + 1) sc) ∧ w'.frozen? ⟨a, 2, none⟩ = false := fun w' hg => by
             have e : w'.heap[a]? = some (Obj.cells #[.slice sa (p.length + 1) sc, .slice ta (p.length + 1) tc, .slice dA p.length dC] RPoolT) := by
              rw [hg.block a (Nat.lt_of_lt_of_le ha6 bD.size) (fun e => (HAP.out.2.2 a e.symm).1 rfl)]
              exact Hold.below bD _ _ HL6.out
             exact ⟨e, cellB e rfl, cellB e rfl, frozenB e⟩
            have HQ3 := Lib.hid hq3
            clear hq3 bD))
        go_returns
        have l7 := setCellB (j := 2) (u := .slice ua (p.length + 1) uc) HR0.out
        have rl7 := own_hold (own_other (own_hold HRL6.out (Hold.below HBD.out)) HG3.out (own_apart HRD6.out HRL6.out (by decide))) (Hold.setCell (o := 2) (v := .slice ua (p.length + 1) uc) HR0.out (by decide))
        have rs7 := own_hold (own_other (own_hold HRS7.out (Hold.below HBD.out)) HG3.out (fun g e e' => HAP6.out g e' e)) (Hold.setCell (o := 2) (v := .slice ua (p.length + 1) uc) HR0.out (by decide))
        have rd7 := own_hold HOWN3.out (Hold.setCell (o := 2) (v := .slice ua (p.length + 1) uc) HR0.out (by decide))
        have hb7 : Below B w (w3'.setCell ⟨a, 2, none⟩ (.slice ua (p.length + 1) uc)) := ((HB6.out.trans (HBD.out.mono hB6)).trans (grown_below HG3.out (Nat.le_trans hB6 HBD.out.size) (fun k e => (HAP.out.2.2 k e).2.2))).setCell (p := ⟨a, 2, none⟩) HIV.out.ga _
        refine ⟨by rw [HM.out]; rfl, ?_⟩
        rw [HM.out]
        try dsimp only
        refine ⟨hb7, fun k hk h1 h2 h3 h4 => ?_, .slice sa (p.length + 1) sc, .slice ta (p.length + 1) tc, .slice ua (p.length + 1) uc, ⟨l7, HIV.out.ga, ?_, ?_, ?_, fun g e e' => ?_, HOK.out, fun m hm => ?_⟩, HFR.out⟩
        ·have hk6 : k < (w2'.setCell ⟨a, 1, none⟩ (.slice ta (p.length + 1) tc)).heap.size := Nat.lt_of_lt_of_le (Nat.lt_of_lt_of_le (Nat.lt_of_lt_of_le hk HBV.out.size) hs5) hs6
         rw [Below.heap_setCell _ _ _ _ h1, HG3.out.block k (Nat.lt_of_lt_of_le hk6 HBD.out.size) (fun e => h4 e.symm), HBD.out.block k hk6]
         exact HF6.out k hk h1 h2 h3
        ·rw [add_len, nds_add]; exact rl7
        ·rw [add_len, szs_add, HSS.out]; exact rs7
        ·rw [add_len, dps_add, HDD.out]; exact rd7
        ·rcases HW3.out with h | h
         ·exact HAP6.out g e (h.symm.trans e')
         ·have h1 := HGS.out g e
          rw [h] at e'
          simp at e'
          omega
        ·rcases List.mem_append.1 hm with h | h
         ·exact HIV.out.nok m h
         ·rw [List.mem_singleton] at h
          subst h
          exact HNOK.out
     ·have HM := Lib.hid (mkP_yes HE0.out h0)
      refine (rhas_yes HI3.out HNOK.out h0).mono ?_
      rintro e w4 ⟨rfl, u4⟩
      have HBV := Lib.hid (bmore HB3.out u4)
      clear u4 h0
      go_wp2_with fail
      go_returns
      exact ⟨by rw [HM.out]; rfl, by rw [HM.out]; exact RGrew.same HI.out HBV.out⟩
theorem rmake (h : IsRef w B a vl vs vd p) {n : Nd} (hn : NdOk n) : Calls Tryz.prog 161 #[.pointer (some ⟨a, 0, none⟩), .agg (nodeA n)] w (RPost w B a vl vs vd p n) := by
 by_cases hs : shp n = 0
 ·rcases kids_cases n.kind with e | e | e
  ·exact rmake_kids0 h hn hs e
  ·exact rmake_kids1 h hn hs e
  ·exact rmake_kids2 h hn hs e
 ·exact rmake_shape h hn hs
end
end Go.Proofs.YtjmcaceegfdkkaaGreatDoor
