/-
  A node is added to a pool: the program's own add.
  A statement that leaves its order open, with a call that makes memory among reads and a store behind: the operations one behind the other, in an order that is named.
-/
import Derived.Test.YtjmcaceegfdkkaaGreatDoorQcTRefuse
import Derived.Test.YtjmcaceegfdkkaaGreatDoorQcTClone
import Derived.Test.YtjmcaceegfdkkaaGreatDoorQcTKit
namespace Go.Proofs.YtjmcaceegfdkkaaGreatDoor
open Go.RowKit Go.Maps
set_option linter.unusedVariables false
theorem rowMade : (Tryz.prog.info? MadeT).map (fun i => (i.zero, i.size, i.bytes)) = some (some (.agg #[.int .i64 0, .int .i64 0, .int .i64 0, .int .u64 0, .string ⟨#[]⟩, .int .i64 0, .int .i64 0, .int .i64 0, .int .i64 0]), 9, 80) := by kernel_rfl
theorem news9 (w : World) (x0 x1 x2 x3 x4 x5 x6 x7 x8 : Value) (T : TypeId) : ∀ j u, [x0, x1, x2, x3, x4, x5, x6, x7, x8][j]? = some u → (w.alloc (.cells #[x0, x1, x2, x3, x4, x5, x6, x7, x8] T)).cell? ((⟨w.heap.size, 0, none⟩ : Addr).add j) = some u := by
 intro j u hj
 have hadd : (⟨w.heap.size, 0, none⟩ : Addr).add j = ⟨w.heap.size, j, none⟩ := by unfold Addr.add; split <;> simp_all
 rw [hadd, World.cell?, heap_alloc_new w _]
 simpa using hj
def Grew (w : World) (B a b : Nat) (v : Value) (p' : Pl) (w' : World) : Prop :=
 Below B w w' ∧ (∀ k, k < w.heap.size → k ≠ a → k ≠ b → v.ownBlock ≠ some k → w'.heap[k]? = w.heap[k]?) ∧
  ∃ v', IsPool w' B a b v' p' ∧ (v'.ownBlock = v.ownBlock ∨ ∃ g, v'.ownBlock = some g ∧ w.heap.size ≤ g)
section
variable {w : World} {B a b : Nat} {v : Value} {p : Pl}
theorem IsPool.apart (h : IsPool w B a b v p) : a ≠ b ∧ ∀ g, v.ownBlock = some g → g ≠ a ∧ g ≠ b ∧ g < w.heap.size ∧ B ≤ g := by
 obtain ⟨D, hown, _⟩ := h.dict
 obtain ⟨es, clock, hb, _⟩ := hown
 refine ⟨?_, fun g e => ?_⟩
 ·rintro rfl
  rw [h.lay] at hb
  cases hb
 ·obtain ⟨hB, cur, hc⟩ := own_type h.row e
  refine ⟨?_, ?_, (Array.getElem?_eq_some_iff.1 hc).1, hB⟩
  ·rintro rfl
   rw [h.lay] at hc
   simp only [Option.some.injEq, Obj.cells.injEq] at hc
   exact absurd hc.2.1 (by decide)
  ·rintro rfl
   rw [hc] at hb
   cases hb
set_option maxRecDepth 100000 in
set_option maxHeartbeats 12800000 in
theorem padd (h : IsPool w B a b v p) {n : Nd} (hn : NdOk n) {S D : Int} (hS : szN p n = S) (hD : dpN p n = D) (herr : errP p n = 0) (hnum : numP p n = 0) (hl : p.length < 65536) (htx : n.text.size ≤ 64) :
  Calls Tryz.prog 193 #[.pointer (some ⟨a, 0, none⟩), .agg #[.int .i64 n.kind, .int .i64 n.frm, .int .i64 n.to, .int .u64 n.num, .string n.text, .int .i64 n.a, .int .i64 n.b, .int .i64 S, .int .i64 D]] w fun e w' => e = .returned (.int .i64 ((p.length : Int) + 1)) ∧ Grew w B a b v (addP p n) w' := by
 obtain ⟨i0, hi0, hz0, hz1, hz2⟩ := info_parts rowMade
 have hBw : B ≤ w.heap.size := Nat.le_trans h.ga (Nat.le_of_lt h.lt)
 have bA : Below w.heap.size w (w.alloc (.cells #[.int .i64 n.kind, .int .i64 n.frm, .int .i64 n.to, .int .u64 n.num, .string n.text, .int .i64 n.a, .int .i64 n.b, .int .i64 S, .int .i64 D] MadeT)) := (Below.refl _ _).alloc (Nat.le_refl _) _
 have hb : (w.alloc (.cells #[.int .i64 n.kind, .int .i64 n.frm, .int .i64 n.to, .int .u64 n.num, .string n.text, .int .i64 n.a, .int .i64 n.b, .int .i64 S, .int .i64 D] MadeT)).heap[w.heap.size]? = some (Obj.cells #[.int .i64 n.kind, .int .i64 n.frm, .int .i64 n.to, .int .u64 n.num, .string n.text, .int .i64 n.a, .int .i64 n.b, .int .i64 S, .int .i64 D] MadeT) := heap_alloc_new _ _
 have c4 := cellB (j := 4) hb rfl
 have hap := h.apart
 obtain ⟨av, cv, rfl⟩ := (row_of_own h.row).shape
 have H := Lib.hid h
 have HN := Lib.hid hn
 have HOK := Lib.hid (Ok.add h.ok herr hnum hl)
 have HNUM := Lib.hid hnum
 have HS := Lib.hid hS
 have HD := Lib.hid hD
 have HAB := Lib.hid hap.1
 have HGA := Lib.hid h.ga
 have HGB := Lib.hid h.gb
 have HAV := Lib.hid hap.2
 have HB := Lib.hid hb
 have HA := Lib.hid bA
 have hal := h.lt
 clear h hn hS hD herr hnum hap hb bA
 go_enter Tryz.func193, Tryz.ntmps193
 go_wp2_with fail
 refine (clone_any n.text _ htx).mono ?_
 rintro e w1 ⟨rfl, u1⟩
 have hb1 := Hold.below u1 _ _ HB.out
 have y4 := cellB (j := 4) hb1 rfl
 have x4 := frozenB (j := 4) hb1
 have hb2 : (w1.setCell ⟨w.heap.size, 4, none⟩ (.string n.text)).heap[w.heap.size]? = some (Obj.cells #[.int .i64 n.kind, .int .i64 n.frm, .int .i64 n.to, .int .u64 n.num, .string n.text, .int .i64 n.a, .int .i64 n.b, .int .i64 S, .int .i64 D] MadeT) := setCellB (j := 4) (u := .string n.text) hb1
 have hV : Below w.heap.size w (w1.setCell ⟨w.heap.size, 4, none⟩ (.string n.text)) := (HA.out.trans (u1.mono HA.out.size)).setCell (p := ⟨w.heap.size, 4, none⟩) (Nat.le_refl _) _
 have HU := Lib.hid u1
 clear u1 hb1 c4
 go_wp2_with fail
 clear y4 x4
 generalize (w1.setCell ⟨w.heap.size, 4, none⟩ (.string n.text)) = V at *
 have hp := H.out.below hV
 have bB : Below V.heap.size V (V.alloc (.cells #[.int .i64 n.kind, .int .i64 n.frm, .int .i64 n.to, .int .u64 n.num, .string n.text, .int .i64 n.a, .int .i64 n.b, .int .i64 S, .int .i64 D] MadeT)) := (Below.refl _ _).alloc (Nat.le_refl _) _
 have d0 : V.cell? ⟨a, 0, none⟩ = some (.map (some b)) := cellB hp.lay rfl
 have d1 : V.cell? ⟨a, 1, none⟩ = some (.slice av p.length cv) := cellB hp.lay rfl
 have d2 : (V.alloc (.cells #[.int .i64 n.kind, .int .i64 n.frm, .int .i64 n.to, .int .u64 n.num, .string n.text, .int .i64 n.a, .int .i64 n.b, .int .i64 S, .int .i64 D] MadeT)).cell? ⟨a, 1, none⟩ = some (.slice av p.length cv) := bcellAt bB d1
 have z0 : V.cell? ⟨w.heap.size, 0, none⟩ = some (.int .i64 n.kind) := cellB hb2 rfl
 have z1 : V.cell? ⟨w.heap.size, 1, none⟩ = some (.int .i64 n.frm) := cellB hb2 rfl
 have z2 : V.cell? ⟨w.heap.size, 2, none⟩ = some (.int .i64 n.to) := cellB hb2 rfl
 have z3 : V.cell? ⟨w.heap.size, 3, none⟩ = some (.int .u64 n.num) := cellB hb2 rfl
 have z4 : V.cell? ⟨w.heap.size, 4, none⟩ = some (.string n.text) := cellB hb2 rfl
 have z5 : V.cell? ⟨w.heap.size, 5, none⟩ = some (.int .i64 n.a) := cellB hb2 rfl
 have z6 : V.cell? ⟨w.heap.size, 6, none⟩ = some (.int .i64 n.b) := cellB hb2 rfl
 have z7 : V.cell? ⟨w.heap.size, 7, none⟩ = some (.int .i64 S) := cellB hb2 rfl
 have z8 : V.cell? ⟨w.heap.size, 8, none⟩ = some (.int .i64 D) := cellB hb2 rfl
 have haV : a < V.heap.size := Nat.lt_of_lt_of_le hal hV.size
 have hq : ∀ w', (V.drew.alloc (.cells #[.int .i64 n.kind, .int .i64 n.frm, .int .i64 n.to, .int .u64 n.num, .string n.text, .int .i64 n.a, .int .i64 n.b, .int .i64 S, .int .i64 D] MadeT)).grownBy w' (Value.slice av p.length cv).ownBlock → w'.heap[a]? = some (Obj.cells #[.map (some b), .slice av p.length cv] PoolT) ∧ w'.cell? ⟨a, 1, none⟩ = some (.slice av p.length cv) ∧ w'.frozen? ⟨a, 1, none⟩ = false := fun w' hg => by
  have e : w'.heap[a]? = some (Obj.cells #[.map (some b), .slice av p.length cv] PoolT) := by
   rw [hg.block a (by simp; omega) (fun e => (HAV.out a e.symm).1 rfl)]
   exact Hold.below (bmore (bd V) ((Below.refl _ _).alloc (Nat.le_refl _) (.cells #[.int .i64 n.kind, .int .i64 n.frm, .int .i64 n.to, .int .u64 n.num, .string n.text, .int .i64 n.a, .int .i64 n.b, .int .i64 S, .int .i64 D] MadeT))) _ _ hp.lay
  exact ⟨e, cellB e rfl, frozenB e⟩
 have HQ := Lib.hid hq
 have HP := Lib.hid hp
 have HV := Lib.hid hV
 have HB2 := Lib.hid hb2
 clear hq hp hV hb2 bB
 have hrow : V.drew.ownsRow B MadeT 9 (.slice av p.length cv) p.length (mades p) := own_hold HP.out.row (Hold.below (bd V))
 have HROW := Lib.hid hrow
 clear hrow
 go_region_law (
  (refine step_append_at rfl _ _ 124 rfl B MadeT i0 (.agg #[.int .i64 0, .int .i64 0, .int .i64 0, .int .u64 0, .string ⟨#[]⟩, .int .i64 0, .int .i64 0, .int .i64 0, .int .i64 0]) 9 80 Tryz.underlying124 hi0 hz0 hz1 hz2 rfl (by decide) _ p.length (mades p) rfl (HROW.out.alloc _) ⟨V.heap.size, 0, none⟩ 1 1 [.int .i64 n.kind, .int .i64 n.frm, .int .i64 n.to, .int .u64 n.num, .string n.text, .int .i64 n.a, .int .i64 n.b, .int .i64 S, .int .i64 D] rfl (by decide) rfl (news9 V.drew _ _ _ _ _ _ _ _ _ _) (by simp [Value.oneCell']) (by unfold maxLen; omega) (by omega) (by have := HV.out.size; simp; omega) ?_
   intro v' w' hown' hg hw
   obtain ⟨q0, q1, q2⟩ := HQ.out w' hg
   obtain ⟨sa, sc, rfl⟩ := (row_of_own hown').shape))
 all_goals
  have hg2 : (V.drew.alloc (.cells #[.int .i64 n.kind, .int .i64 n.frm, .int .i64 n.to, .int .u64 n.num, .string n.text, .int .i64 n.a, .int .i64 n.b, .int .i64 S, .int .i64 D] MadeT)).grownBy w' (Value.slice av p.length cv).ownBlock := hg
  have hw2 : (Value.slice sa (p.length + 1) sc).ownBlock = (Value.slice av p.length cv).ownBlock ∨ ∃ g, (Value.slice sa (p.length + 1) sc).ownBlock = some g ∧ w.heap.size ≤ g := by
   rcases hw with e | e
   ·exact .inl e
   ·exact .inr ⟨_, e, by have := HV.out.size; simp; omega⟩
  have hVA : Below V.heap.size V (V.drew.alloc (.cells #[.int .i64 n.kind, .int .i64 n.frm, .int .i64 n.to, .int .u64 n.num, .string n.text, .int .i64 n.a, .int .i64 n.b, .int .i64 S, .int .i64 D] MadeT)) := bmore (bd V) ((Below.refl _ _).alloc (Nat.le_refl _) _)
  have hbxV : w.heap.size < V.heap.size := (Array.getElem?_eq_some_iff.1 HB2.out).1
  have hbx : w'.heap[w.heap.size]? = some (Obj.cells #[.int .i64 n.kind, .int .i64 n.frm, .int .i64 n.to, .int .u64 n.num, .string n.text, .int .i64 n.a, .int .i64 n.b, .int .i64 S, .int .i64 D] MadeT) := by
   rw [hg2.block w.heap.size (Nat.lt_of_lt_of_le hbxV hVA.size) (fun e => absurd (HAV.out _ e.symm).2.2.1 (Nat.lt_irrefl _))]
   exact Hold.below hVA _ _ HB2.out
  have l5 := setCellB (j := 1) (u := .slice sa (p.length + 1) sc) q0
  have bx5 : (w'.setCell ⟨a, 1, none⟩ (.slice sa (p.length + 1) sc)).heap[w.heap.size]? = some (Obj.cells #[.int .i64 n.kind, .int .i64 n.frm, .int .i64 n.to, .int .u64 n.num, .string n.text, .int .i64 n.a, .int .i64 n.b, .int .i64 S, .int .i64 D] MadeT) := by
   rw [Below.heap_setCell _ _ _ _ (fun e => absurd hal (by simp at e; omega))]; exact hbx
  have ro5 := own_hold hown' (Hold.setCell (o := 1) (v := .slice sa (p.length + 1) sc) q0 (by decide))
  have om : ∃ D : DataW Unit, (w'.setCell ⟨a, 1, none⟩ (.slice sa (p.length + 1) sc)).drew.ownsMap Tryz.prog NodeT (plainElem Tryz.prog TermT) b p.length D ∧ DictN p D := by
   obtain ⟨Dd, ho, hd⟩ := HP.out.dict
   have m2 := ho.drew.alloc (.cells #[.int .i64 n.kind, .int .i64 n.frm, .int .i64 n.to, .int .u64 n.num, .string n.text, .int .i64 n.a, .int .i64 n.b, .int .i64 S, .int .i64 D] MadeT)
   have m3 := m2.kept hg2 (fun e => (HAV.out b e.symm).2.1 rfl)
   have m4 := m3.kept (grownBy_set w' a 1 (.slice sa (p.length + 1) sc)) (fun e => HAB.out (Option.some.inj e).symm)
   exact ⟨Dd, m4.drew, hd⟩
  have hb1 : Below B w V := HV.out.mono hBw
  have hBV : B ≤ V.heap.size := Nat.le_trans hBw HV.out.size
  have hb2 : Below B w w' := (hb1.trans (hVA.mono hBV)).trans (grown_below hg2 (Nat.le_trans hBV hVA.size) (fun k e => (HAV.out k e).2.2.2))
  have hb5 : Below B w (w'.setCell ⟨a, 1, none⟩ (.slice sa (p.length + 1) sc)) := hb2.setCell (p := ⟨a, 1, none⟩) HGA.out _
  have fr5 : ∀ k, k < w.heap.size → k ≠ a → k ≠ b → (Value.slice av p.length cv).ownBlock ≠ some k → (w'.setCell ⟨a, 1, none⟩ (.slice sa (p.length + 1) sc)).heap[k]? = w.heap[k]? := fun k hk h1 h2 h3 => by
   rw [Below.heap_setCell _ _ _ _ h1, hg2.block k (Nat.lt_of_lt_of_le (Nat.lt_of_lt_of_le hk HV.out.size) hVA.size) (fun e => h3 e.symm), hVA.block k (Nat.lt_of_lt_of_le hk HV.out.size), HV.out.block k hk]
  have HL5 := Lib.hid l5
  have HBX5 := Lib.hid bx5
  have HRO := Lib.hid ro5
  have HOM := Lib.hid om
  have HB5 := Lib.hid hb5
  have HF5 := Lib.hid fr5
  have HW2 := Lib.hid hw2
  have hsz5 : w.heap.size ≤ (w'.setCell ⟨a, 1, none⟩ (.slice sa (p.length + 1) sc)).heap.size := hb5.size
  clear hg2 hw2 hg hw hown' q0 q1 q2 hVA hbxV hbx l5 bx5 ro5 om hb1 hBV hb2 hb5 fr5 z0 z1 z2 z3 z4 z5 z6 z7 z8 d0 d1 d2
  generalize (w'.setCell ⟨a, 1, none⟩ (.slice sa (p.length + 1) sc)) = W5 at *
  have e0 : W5.cell? ⟨a, 0, none⟩ = some (.map (some b)) := cellB HL5.out rfl
  have e1 : W5.cell? ⟨a, 1, none⟩ = some (.slice sa (p.length + 1) sc) := cellB HL5.out rfl
  have t0 : W5.cell? ⟨w.heap.size, 0, none⟩ = some (.int .i64 n.kind) := cellB HBX5.out rfl
  have t1 : W5.cell? ⟨w.heap.size, 1, none⟩ = some (.int .i64 n.frm) := cellB HBX5.out rfl
  have t2 : W5.cell? ⟨w.heap.size, 2, none⟩ = some (.int .i64 n.to) := cellB HBX5.out rfl
  have t3 : W5.cell? ⟨w.heap.size, 3, none⟩ = some (.int .u64 n.num) := cellB HBX5.out rfl
  have t4 : W5.cell? ⟨w.heap.size, 4, none⟩ = some (.string n.text) := cellB HBX5.out rfl
  have t5 : W5.cell? ⟨w.heap.size, 5, none⟩ = some (.int .i64 n.a) := cellB HBX5.out rfl
  have t6 : W5.cell? ⟨w.heap.size, 6, none⟩ = some (.int .i64 n.b) := cellB HBX5.out rfl
  obtain ⟨Dd, ho, hd⟩ := HOM.out
  have HO := Lib.hid ho
  have HDD := Lib.hid hd
  have hwf : (Lit.int .i64 ((p.length : Int) + 1)).wf = true := WalkArith.wf_i64 (by omega)
  clear ho hd HOM
  go_wp2_with fail
  go_still_tail 7, (by kernel_rfl)
  change wpList _ _ _ _ _ W5.drew
  go_wp2_with (first | (at_mapUpdate; refine wpList_mapUpdate_own _ rfl _ _ _ MapNT rfl NodeT TermT lawN Tryz.underlying123 _ b p.length _ rfl HO.out (by unfold maxLen; omega) _ _ _ rfl rfl (keyN_of HN.out) _ [] (plainElem_int Tryz.underlying23 hwf) ?_))
  intro w6 hown6 hg6
  go_wp2_with fail
  go_returns
  have hlt5 : a < W5.heap.size := Nat.lt_of_lt_of_le hal hsz5
  refine ⟨rfl, HB5.out.drew.trans (grown_below (w := W5.drew) hg6 (Nat.le_trans hBw hsz5) (fun k e => by cases e; exact HGB.out)), fun k hk h1 h2 h3 => ?_, .slice sa (p.length + 1) sc, ⟨?_, HGA.out, HGB.out, ?_, ⟨_, ?_, HDD.out.snoc HNUM.out HN.out⟩, HOK.out, fun m hm => ?_⟩, HW2.out⟩
  ·rw [hg6.block k (Nat.lt_of_lt_of_le hk hsz5) (fun e => h2 (Option.some.inj e))]
   exact HF5.out k hk h1 h2 h3
  ·rw [hg6.block a hlt5 (fun e => HAB.out (Option.some.inj e))]
   exact HL5.out
  ·have k1 := own_kept (own_hold HRO.out (Hold.below (bd W5))) hg6 (fun r e e' => by
    cases e
    obtain ⟨_, cur, hc⟩ := own_type HRO.out e'
    obtain ⟨es, clock, hb, _⟩ := HO.out
    rw [show W5.drew.heap = W5.heap from rfl] at hb
    rw [hc] at hb
    cases hb)
   rw [show (addP p n).length = p.length + 1 by simp [addP], show mades (addP p n) = mades p ++ [.int .i64 n.kind, .int .i64 n.frm, .int .i64 n.to, .int .u64 n.num, .string n.text, .int .i64 n.a, .int .i64 n.b, .int .i64 S, .int .i64 D] by rw [addP, mades_append, mades_one, mcs, HS.out, HD.out]]
   exact k1
  ·rw [show (addP p n).length = p.length + 1 by simp [addP]]
   exact hown6
  ·rcases List.mem_append.1 hm with h | h
   ·exact H.out.nok m h
   ·rw [List.mem_singleton] at h
    subst h
    exact HN.out
end
end Go.Proofs.YtjmcaceegfdkkaaGreatDoor
namespace Go.Proofs.YtjmcaceegfdkkaaGreatDoor
open Go.RowKit
set_option linter.unusedVariables false
section
variable {P : Program} {ops : Array Oper} {Q : Exit → Act → World → Prop} {md : Region.Mode} {S S' : World → Prop}
theorem chain_mono (hs : ∀ W, S' W → S W) : ∀ (fuel : Nat) (listed : Array Bool) (a : Act) (w : World), wpAnyH P md ops Q S' fuel listed a w → wpAnyH P md ops Q S fuel listed a w
 | 0, _, _, _, h => h
 | fuel + 1, _, _, _, h => ⟨h.1, fun i hi => wpOp_mono (fun a' w' h' => ⟨hs _ h'.1, chain_mono hs fuel _ a' w' h'.2⟩) (h.2 i hi)⟩
def Lex (P : Program) (md : Region.Mode) (ops : Array Oper) (Q : Exit → Act → World → Prop) (S : World → Prop) (_rest : List Oper) (fuel : Nat) (listed : Array Bool) (a : Act) (w : World) : Prop := wpAnyH P md ops Q S fuel listed a w
def inOrder (l : List Oper) (is : List Nat) : List Oper := is.filterMap fun i => l[i]?
theorem lex_start (is : List Nat) {l : List Oper} {id : Nat} {a : Act} {w : World} {K : Act → World → Prop} (hm : P.follows .mixedOrders = true) (hs : S w.drew)
  (h : S w.drew → Lex P .any l.toArray (NoPanic (Exit.then K Q)) S (inOrder l is) l.length (Array.replicate l.length false) a w.drew) : (Code.region id l.toArray true).wp P (Exit.then K Q) a w :=
 wp_region_noPanic (wp_region_held_drew (S := S) hm hs h)
theorem lex_take {i : Nat} {o : Oper} {rest : List Oper} {fuel : Nat} {listed : Array Bool} {a : Act} {w : World} {v : Value} {K : Act → World → Prop} (hi : ops[i]? = some o)
  (hn : Region.noSelect ops = true) (hf : Region.free md ops listed i = true) (hr : (Region.ready md ops listed).contains i = true)
  (hw : Region.wanted o (yielded ops a.tmps) = true) (hS : S w) (hy : ∀ W, S W → (execOp a.eval o).run P W = .ok (.value v) W)
  (h : Lex P md ops (NoPanic (Exit.then K Q)) S rest fuel (listed.setIfInBounds i true) (a.put o.dst v) w) : Lex P md ops (NoPanic (Exit.then K Q)) S (o :: rest) (fuel + 1) listed a w :=
 wpAnyH_take hi hn hf hr (fun _ _ _ h => h) (Or.inl ⟨hw, hy⟩) hS h
theorem lex_skip {i : Nat} {o : Oper} {rest : List Oper} {fuel : Nat} {listed : Array Bool} {a : Act} {w : World} {K : Act → World → Prop} (hi : ops[i]? = some o)
  (hn : Region.noSelect ops = true) (hf : Region.free md ops listed i = true) (hr : (Region.ready md ops listed).contains i = true)
  (hw : Region.wanted o (yielded ops a.tmps) = false) (hS : S w)
  (h : Lex P md ops (NoPanic (Exit.then K Q)) S rest fuel (listed.setIfInBounds i true) (a.put o.dst undef) w) : Lex P md ops (NoPanic (Exit.then K Q)) S (o :: rest) (fuel + 1) listed a w :=
 wpAnyH_take hi hn hf hr (fun _ _ _ h => h) (Or.inr ⟨hw, rfl⟩) hS h
theorem lex_call {i : Nat} {o : Oper} {rest : List Oper} {fuel : Nat} {listed : Array Bool} {a : Act} {w : World} {f : FuncId} {vals : Array Value}
  (hi : ops[i]? = some o) (hr : Region.ready md ops listed = [i]) (hw : Region.wanted o (yielded ops a.tmps) = true)
  (hx : (execOp a.eval o).run P w = .ok (.enter f vals) w) (R : Ending → World → Prop) (hc : Calls P f vals w R)
  (h : ∀ e w', R e w' → ∃ v, e = .returned v ∧ ∃ S' : World → Prop, (∀ W, S' W → S W) ∧ S' w' ∧ Lex P md ops Q S' rest fuel (listed.setIfInBounds i true) (a.put o.dst v) w') : Lex P md ops Q S (o :: rest) (fuel + 1) listed a w := by
 refine wpAnyH_all hr (by simp) fun j hj => ?_
 simp only [List.mem_singleton] at hj
 subst hj
 unfold wpOp
 simp only [hi, hw, if_true, Oper.wp, hx, Oper.upon]
 refine .inl (hc.mono fun e w' hR => ?_)
 obtain ⟨v, rfl, S', h1, h2, h3⟩ := h e w' hR
 exact ⟨h1 _ h2, chain_mono h1 _ _ _ _ h3⟩
theorem lex_do {i : Nat} {o : Oper} {rest : List Oper} {fuel : Nat} {listed : Array Bool} {a : Act} {w : World}
  (hi : ops[i]? = some o) (hr : Region.ready md ops listed = [i]) (hw : Region.wanted o (yielded ops a.tmps) = true)
  (h : ∀ K : Act → World → Prop, (∀ a' w', S w' ∧ Lex P md ops Q S rest fuel (listed.setIfInBounds i true) a' w' → K a' w') → Oper.wp P o a w K Q) : Lex P md ops Q S (o :: rest) (fuel + 1) listed a w := by
 refine wpAnyH_all hr (by simp) fun j hj => ?_
 simp only [List.mem_singleton] at hj
 subst hj
 unfold wpOp
 simp only [hi, hw, if_true]
 exact .inl (h _ fun a' w' h => h)
theorem lex_two {i j : Nat} {oi oj : Oper} {rest : List Oper} {fuel : Nat} {listed : Array Bool} {a : Act} {w : World}
  (hi : ops[i]? = some oi) (hj : ops[j]? = some oj) (hr : Region.ready md ops listed = [i, j]) (hwi : Region.wanted oi (yielded ops a.tmps) = true) (hwj : Region.wanted oj (yielded ops a.tmps) = true)
  (h1 : ∀ K : Act → World → Prop, (∀ a' w', S w' ∧ Lex P md ops Q S (oj :: rest) fuel (listed.setIfInBounds i true) a' w' → K a' w') → Oper.wp P oi a w K Q)
  (h2 : ∀ K : Act → World → Prop, (∀ a' w', S w' ∧ Lex P md ops Q S (oi :: rest) fuel (listed.setIfInBounds j true) a' w' → K a' w') → Oper.wp P oj a w K Q) : Lex P md ops Q S (oi :: oj :: rest) (fuel + 1) listed a w := by
 refine wpAnyH_all hr (by simp) fun q hq => ?_
 simp only [List.mem_cons, List.mem_nil_iff, or_false] at hq
 rcases hq with rfl | rfl
 ·unfold wpOp
  simp only [hi, hwi, if_true]
  exact .inl (h1 _ fun a' w' h => h)
 ·unfold wpOp
  simp only [hj, hwj, if_true]
  exact .inl (h2 _ fun a' w' h => h)
theorem lex_reorder (is : List Nat) {l rest : List Oper} {fuel : Nat} {listed : Array Bool} {a : Act} {w : World} (h : Lex P md l.toArray Q S (inOrder l is) fuel listed a w) : Lex P md l.toArray Q S rest fuel listed a w := h
theorem lex_done {listed : Array Bool} {a : Act} {w : World} {fuel : Nat} (hr : Region.ready md ops listed = []) (h : Q .normal a w) : Lex P md ops (NoPanic Q) S [] fuel listed a w :=
 wpAnyH_done hr (NoPanic.normal h) fuel
end
end Go.Proofs.YtjmcaceegfdkkaaGreatDoor
