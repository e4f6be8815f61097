/-
  Whether a node is in a pool; what a pool refuses a node with.
  What a pool refuses a node with: the program's own refuse.
-/
import Derived.Test.YtjmcaceegfdkkaaGreatDoorQcTPool
import Derived.Test.YtjmcaceegfdkkaaGreatDoorQcTWrong
namespace Go.Proofs.YtjmcaceegfdkkaaGreatDoor
open Go.RowKit Go.Maps
set_option linter.unusedVariables false
theorem zeroT (w : World) : (zeroValue TermT).run Tryz.prog w = .ok (.int .i64 0) w := by kernel_rfl
section
variable {w : World} {B a b : Nat} {v : Value} {p : Pl}
theorem IsPool.find (h : IsPool w B a b v p) {n : Nd} (hn : NdOk n) : (Instr.lookup MapNT (.map (some b)) (.agg (nodeA n)) true).run Tryz.prog w = .ok (.tuple #[.int .i64 (numP p n : Int), .bool (decide (numP p n ≠ 0))]) w := by
 obtain ⟨D, ho, hd⟩ := h.dict
 obtain ⟨x, ps, h1, h2⟩ := ho.look_ok lawN Tryz.underlying123 (zeroT w) (plainElem_int Tryz.underlying23 (by decide)) (keyN_of hn)
 obtain ⟨m, rfl, h3, _⟩ := plainElem_int_inv Tryz.underlying23 h2
 by_cases h0 : numP p n = 0
 ·have hf : Maps.has D (keyN n) = false := by
   cases e : Maps.has D (keyN n)
   ·rfl
   ·exact absurd h0 ((hd.has n hn).1 e)
  rw [atKey_of_not_has hf] at h3
  simp at h3
  obtain ⟨rfl, _⟩ := h3
  rw [hf] at h1
  rw [h1, h0]
  rfl
 ·rw [hd.at_ n hn h0] at h3
  simp at h3
  obtain ⟨rfl, _⟩ := h3
  rw [(hd.has n hn).2 h0] at h1
  rw [h1, decide_eq_true h0]
theorem Ok.bounds {p : Pl} (h : Ok p) : ∀ m ∈ p, (1 ≤ m.2.1 ∧ m.2.1 ≤ 4096) ∧ (1 ≤ m.2.2 ∧ m.2.2 ≤ 64) := by
 induction h with
 | nil => intro m hm; cases hm
 | @add p n hp he hn hl ih =>
  intro m hm
  rcases List.mem_append.1 hm with h | h
  ·exact ih m h
  ·rw [List.mem_singleton] at h
   subst h
   have hat : ∀ t, (0 ≤ szP p t) ∧ (0 ≤ dpP p t) := fun t => by
    unfold szP dpP atP
    split
    ·rename_i hi
     simp only [inP, Bool.and_eq_true, decide_eq_true_eq] at hi
     rw [List.getD_eq_getElem?_getD, List.getElem?_eq_getElem (show t.toNat - 1 < p.length by omega)]
     have := ih _ (List.getElem_mem (show t.toNat - 1 < p.length by omega))
     simp only [Option.getD_some]
     omega
    ·exact ⟨Int.le_refl _, Int.le_refl _⟩
   have h1 := hat n.a
   have h2 := hat n.b
   have he' : ¬ (4096 < szN p n ∨ 64 < dpN p n) := by
    intro hc
    unfold errP at he
    split at he
    ·rename_i q; exact absurd he q
    ·split at he
     ·cases he
     ·first | cases he | (rw [if_pos hc] at he; cases he)
   simp only
   unfold szN dpN at he' ⊢
   omega
theorem Ok.at_bounds {p : Pl} (h : Ok p) (t : Int) : (0 ≤ szP p t ∧ szP p t ≤ 4096) ∧ (0 ≤ dpP p t ∧ dpP p t ≤ 64) := by
 unfold szP dpP atP
 split
 ·rename_i hi
  simp only [inP, Bool.and_eq_true, decide_eq_true_eq] at hi
  rw [List.getD_eq_getElem?_getD, List.getElem?_eq_getElem (show t.toNat - 1 < p.length by omega)]
  have := h.bounds _ (List.getElem_mem (show t.toNat - 1 < p.length by omega))
  simp only [Option.getD_some]
  omega
 ·simp [zeroM]
end
end Go.Proofs.YtjmcaceegfdkkaaGreatDoor
namespace Go.Proofs.YtjmcaceegfdkkaaGreatDoor
open Go.RowKit Go.Maps
set_option linter.unusedVariables false
def refP (p : Pl) (n : Nd) : Int := if errP p n ≠ 0 then errP p n else if 65536 ≤ p.length then 6 else 0
theorem field_kids (W : World) (x0 x1 x2 x3 x4 : Value) : (Instr.field ShT (.agg #[x0, x1, x2, x3, x4]) 4).run Tryz.prog W = .ok x4 W := by kernel_rfl
theorem shape_kids {w : World} (h : Laid w) (k j : Int) (hj : (kidsN k : Int) = j) :
  Calls Tryz.prog 88 #[.int .i64 k] w fun e w' => e = .returned (.agg #[.bool (namedB k), .bool (twoB k), .bool (k == 2), .bool (k == 3), .int .i64 j]) ∧ Below w.heap.size w w' := by
 have := shapeOf_any h k
 unfold shV at this
 rwa [hj] at this
section
variable {w : World} {B a b : Nat} {v : Value} {p : Pl}
theorem holds_yes (h : IsPool w B a b v p) {t : Int} (ht : inP p t = true) : Calls Tryz.prog 134 #[.pointer (some ⟨a, 0, none⟩), .int .i64 t] w fun e w' => e = .returned (.bool true) ∧ w = w' := by
 have := pholds h t
 rwa [ht] at this
theorem holds_no (h : IsPool w B a b v p) {t : Int} (ht : inP p t = false) : Calls Tryz.prog 134 #[.pointer (some ⟨a, 0, none⟩), .int .i64 t] w fun e w' => e = .returned (.bool false) ∧ w = w' := by
 have := pholds h t
 rwa [ht] at this
set_option maxRecDepth 100000 in
set_option maxHeartbeats 6400000 in
theorem refuse_shape (h : IsPool w B a b v p) (hl : Laid w) {n : Nd} (hn : NdOk n) {S D : Int} (hS : szN p n = S) (hD : dpN p n = D) (hs : shp n ≠ 0) :
  Calls Tryz.prog 192 #[.pointer (some ⟨a, 0, none⟩), .agg #[.int .i64 n.kind, .int .i64 n.frm, .int .i64 n.to, .int .u64 n.num, .string n.text, .int .i64 n.a, .int .i64 n.b, .int .i64 S, .int .i64 D]] w fun e w' => e = .returned (.int .i64 (refP p n)) ∧ Below w.heap.size w w' := by
 have bA : Below w.heap.size w (w.alloc (.cells #[.int .i64 n.kind, .int .i64 n.frm, .int .i64 n.to, .int .u64 n.num, .string n.text, .int .i64 n.a, .int .i64 n.b, .int .i64 S, .int .i64 D] MadeT)) := (Below.refl _ _).alloc (Nat.le_refl _) _
 have hb : (w.alloc (.cells #[.int .i64 n.kind, .int .i64 n.frm, .int .i64 n.to, .int .u64 n.num, .string n.text, .int .i64 n.a, .int .i64 n.b, .int .i64 S, .int .i64 D] MadeT)).heap[w.heap.size]? = some (Obj.cells #[.int .i64 n.kind, .int .i64 n.frm, .int .i64 n.to, .int .u64 n.num, .string n.text, .int .i64 n.a, .int .i64 n.b, .int .i64 S, .int .i64 D] MadeT) := heap_alloc_new _ _
 have hw := @wrong_any n (w.alloc (.cells #[.int .i64 n.kind, .int .i64 n.frm, .int .i64 n.to, .int .u64 n.num, .string n.text, .int .i64 n.a, .int .i64 n.b, .int .i64 S, .int .i64 D] MadeT)) (hl.below bA) hn.text
 have hlen := h.ok.len
 have H := Lib.hid (h.below bA)
 have HL := Lib.hid (hl.below bA)
 have HB := Lib.hid hb
 have HA := Lib.hid bA
 have HE := Lib.hid (show refP p n = shp n from by have e : errP p n = shp n := by unfold errP; rw [if_pos hs]
                                                   unfold refP; rw [e, if_pos hs])
 have hs1 : (shp n != 0) = true := by rw [bne_iff_ne]; exact hs
 have hs2 : (shp n == 0) = false := by rw [beq_eq_false_iff_ne]; exact hs
 unfold nodeA at hw
 obtain ⟨z0, z1, z2, z3, z4, z5, z6⟩ := cs7 hb rfl rfl rfl rfl rfl rfl rfl
 have HW := Lib.hid hw
 clear h hl hn hS hD bA hb hw hs
 go_enter Tryz.func192, Tryz.ntmps192
 go_wp2_with fail
 refine HW.out.mono ?_
 rintro e w1 ⟨rfl, u1⟩
 have HA2 := Lib.hid (HA.out.trans (u1.mono HA.out.size))
 clear u1 z0 z1 z2 z3 z4 z5 z6
 generalize shp n = E at *
 go_wp2_with fail
 go_returns
 exact ⟨congrArg (fun z => Ending.returned (Value.int .i64 z)) HE.out.symm, HA2.out⟩
set_option maxRecDepth 100000 in
set_option maxHeartbeats 6400000 in
theorem refuse_kids0 (h : IsPool w B a b v p) (hl : Laid w) {n : Nd} (hn : NdOk n) {S D : Int} (hS : szN p n = S) (hD : dpN p n = D) (hs : shp n = 0) (hj : (kidsN n.kind : Int) = 0) :
  Calls Tryz.prog 192 #[.pointer (some ⟨a, 0, none⟩), .agg #[.int .i64 n.kind, .int .i64 n.frm, .int .i64 n.to, .int .u64 n.num, .string n.text, .int .i64 n.a, .int .i64 n.b, .int .i64 S, .int .i64 D]] w fun e w' => e = .returned (.int .i64 (refP p n)) ∧ Below w.heap.size w w' := by
 have bA : Below w.heap.size w (w.alloc (.cells #[.int .i64 n.kind, .int .i64 n.frm, .int .i64 n.to, .int .u64 n.num, .string n.text, .int .i64 n.a, .int .i64 n.b, .int .i64 S, .int .i64 D] MadeT)) := (Below.refl _ _).alloc (Nat.le_refl _) _
 have hb : (w.alloc (.cells #[.int .i64 n.kind, .int .i64 n.frm, .int .i64 n.to, .int .u64 n.num, .string n.text, .int .i64 n.a, .int .i64 n.b, .int .i64 S, .int .i64 D] MadeT)).heap[w.heap.size]? = some (Obj.cells #[.int .i64 n.kind, .int .i64 n.frm, .int .i64 n.to, .int .u64 n.num, .string n.text, .int .i64 n.a, .int .i64 n.b, .int .i64 S, .int .i64 D] MadeT) := heap_alloc_new _ _
 have hw := @wrong_any n (w.alloc (.cells #[.int .i64 n.kind, .int .i64 n.frm, .int .i64 n.to, .int .u64 n.num, .string n.text, .int .i64 n.a, .int .i64 n.b, .int .i64 S, .int .i64 D] MadeT)) (hl.below bA) hn.text
 have hlen := h.ok.len
 have H := Lib.hid (h.below bA)
 have HL := Lib.hid (hl.below bA)
 have HB := Lib.hid hb
 have HA := Lib.hid bA
 have HS0 := Lib.hid hs
 have HSS := Lib.hid hS
 have HDD := Lib.hid hD
 have HJ := Lib.hid hj
 rw [hs] at hw
 unfold nodeA at hw
 obtain ⟨z0, z1, z2, z3, z4, z5, z6⟩ := cs7 hb rfl rfl rfl rfl rfl rfl rfl
 have hj' : kidsN n.kind = 0 := by omega
 have HJ' := Lib.hid hj'
 have HW := Lib.hid hw
 clear h hl hn hS hD bA hb hw hs hj hj'
 go_enter Tryz.func192, Tryz.ntmps192
 go_wp2_with fail
 refine HW.out.mono ?_
 rintro e w1 ⟨rfl, u1⟩
 have hB1 := Hold.below u1 _ _ HB.out
 have y0 := cellB (j := 0) hB1 rfl
 have HL1 := Lib.hid (HL.out.below u1)
 have HU1 := Lib.hid u1
 clear u1 z0 z1 z2 z3 z4 z5 z6
 have hfk := field_kids
 go_wp2_with fail
 refine (shape_kids HL1.out n.kind 0 HJ.out).mono ?_
 rintro e w2 ⟨rfl, u2⟩
 have hB2 := Hold.below u2 _ _ hB1
 have x5 := cellB (j := 5) hB2 rfl
 have x6 := cellB (j := 6) hB2 rfl
 have x7 := cellB (j := 7) hB2 rfl
 have x8 := cellB (j := 8) hB2 rfl
 have hu := bmore HU1.out u2
 have HH := Lib.hid (H.out.below hu)
 have HA2 := Lib.hid (HA.out.trans (hu.mono HA.out.size))
 clear u2 hB1 hB2 y0 hu
 by_cases h1 : 4096 < S
 ·have HE := Lib.hid (show refP p n = 52 from by simp [refP, errP, HS0.out, kidsBad, HJ'.out, HSS.out, HDD.out, h1])
  go_wp2_with fail
  go_returns
  exact ⟨congrArg (fun z => Ending.returned (Value.int .i64 z)) HE.out.symm, HA2.out⟩
 ·have h1' : decide (4096 < S) = false := decide_eq_false h1
  by_cases h2 : 64 < D
  ·have HE := Lib.hid (show refP p n = 52 from by simp [refP, errP, HS0.out, kidsBad, HJ'.out, HSS.out, HDD.out, h1, h2])
   clear h1
   go_wp2_with fail
   go_returns
   exact ⟨congrArg (fun z => Ending.returned (Value.int .i64 z)) HE.out.symm, HA2.out⟩
  ·have h2' : decide (64 < D) = false := decide_eq_false h2
   by_cases h3 : 65536 ≤ p.length
   ·have HE := Lib.hid (show refP p n = 6 from by simp [refP, errP, HS0.out, kidsBad, HJ'.out, HSS.out, HDD.out, h1, h2, h3])
    have h3' : (65536 : Int) ≤ (p.length : Int) := by omega
    clear h1 h2
    go_wp2_with fail
    refine (plen HH.out).mono ?_
    rintro e w3 ⟨rfl, rfl⟩
    go_wp2_with fail
    go_returns
    exact ⟨congrArg (fun z => Ending.returned (Value.int .i64 z)) HE.out.symm, HA2.out⟩
   ·have HE := Lib.hid (show refP p n = 0 from by simp [refP, errP, HS0.out, kidsBad, HJ'.out, HSS.out, HDD.out, h1, h2, h3])
    have h3' : decide ((65536 : Int) ≤ (p.length : Int)) = false := by simp; omega
    clear h1 h2
    go_wp2_with fail
    refine (plen HH.out).mono ?_
    rintro e w3 ⟨rfl, rfl⟩
    go_wp2_with fail
    go_returns
    exact ⟨congrArg (fun z => Ending.returned (Value.int .i64 z)) HE.out.symm, HA2.out⟩
set_option maxRecDepth 100000 in
set_option maxHeartbeats 6400000 in
theorem refuse_kids1 (h : IsPool w B a b v p) (hl : Laid w) {n : Nd} (hn : NdOk n) {S D : Int} (hS : szN p n = S) (hD : dpN p n = D) (hs : shp n = 0) (hj : (kidsN n.kind : Int) = 1) :
  Calls Tryz.prog 192 #[.pointer (some ⟨a, 0, none⟩), .agg #[.int .i64 n.kind, .int .i64 n.frm, .int .i64 n.to, .int .u64 n.num, .string n.text, .int .i64 n.a, .int .i64 n.b, .int .i64 S, .int .i64 D]] w fun e w' => e = .returned (.int .i64 (refP p n)) ∧ Below w.heap.size w w' := by
 have bA : Below w.heap.size w (w.alloc (.cells #[.int .i64 n.kind, .int .i64 n.frm, .int .i64 n.to, .int .u64 n.num, .string n.text, .int .i64 n.a, .int .i64 n.b, .int .i64 S, .int .i64 D] MadeT)) := (Below.refl _ _).alloc (Nat.le_refl _) _
 have hb : (w.alloc (.cells #[.int .i64 n.kind, .int .i64 n.frm, .int .i64 n.to, .int .u64 n.num, .string n.text, .int .i64 n.a, .int .i64 n.b, .int .i64 S, .int .i64 D] MadeT)).heap[w.heap.size]? = some (Obj.cells #[.int .i64 n.kind, .int .i64 n.frm, .int .i64 n.to, .int .u64 n.num, .string n.text, .int .i64 n.a, .int .i64 n.b, .int .i64 S, .int .i64 D] MadeT) := heap_alloc_new _ _
 have hw := @wrong_any n (w.alloc (.cells #[.int .i64 n.kind, .int .i64 n.frm, .int .i64 n.to, .int .u64 n.num, .string n.text, .int .i64 n.a, .int .i64 n.b, .int .i64 S, .int .i64 D] MadeT)) (hl.below bA) hn.text
 have hlen := h.ok.len
 have H := Lib.hid (h.below bA)
 have HL := Lib.hid (hl.below bA)
 have HB := Lib.hid hb
 have HA := Lib.hid bA
 have HS0 := Lib.hid hs
 have HSS := Lib.hid hS
 have HDD := Lib.hid hD
 have HJ := Lib.hid hj
 rw [hs] at hw
 unfold nodeA at hw
 obtain ⟨z0, z1, z2, z3, z4, z5, z6⟩ := cs7 hb rfl rfl rfl rfl rfl rfl rfl
 have hj' : kidsN n.kind = 1 := by omega
 have HJ' := Lib.hid hj'
 have HW := Lib.hid hw
 clear h hl hn hS hD bA hb hw hs hj hj'
 go_enter Tryz.func192, Tryz.ntmps192
 go_wp2_with fail
 refine HW.out.mono ?_
 rintro e w1 ⟨rfl, u1⟩
 have hB1 := Hold.below u1 _ _ HB.out
 have y0 := cellB (j := 0) hB1 rfl
 have HL1 := Lib.hid (HL.out.below u1)
 have HU1 := Lib.hid u1
 clear u1 z0 z1 z2 z3 z4 z5 z6
 have hfk := field_kids
 go_wp2_with fail
 refine (shape_kids HL1.out n.kind 1 HJ.out).mono ?_
 rintro e w2 ⟨rfl, u2⟩
 have hB2 := Hold.below u2 _ _ hB1
 have x5 := cellB (j := 5) hB2 rfl
 have x6 := cellB (j := 6) hB2 rfl
 have x7 := cellB (j := 7) hB2 rfl
 have x8 := cellB (j := 8) hB2 rfl
 have hu := bmore HU1.out u2
 have HH := Lib.hid (H.out.below hu)
 have HA2 := Lib.hid (HA.out.trans (hu.mono HA.out.size))
 clear u2 hB1 hB2 y0 hu
 cases ha : inP p n.a
 ·have HIN := Lib.hid ha
  have HE := Lib.hid (show refP p n = 51 from by simp [refP, errP, HS0.out, kidsBad, HJ'.out, ha])
  clear ha
  go_wp2_with fail
  refine (holds_no HH.out HIN.out).mono ?_
  rintro e w3 ⟨rfl, rfl⟩
  go_wp2_with fail
  go_returns
  exact ⟨congrArg (fun z => Ending.returned (Value.int .i64 z)) HE.out.symm, HA2.out⟩
 ·have HIN := Lib.hid ha
  clear ha
  go_wp2_with fail
  refine (holds_yes HH.out HIN.out).mono ?_
  rintro e w3 ⟨rfl, rfl⟩
  by_cases h1 : 4096 < S
  ·have HE := Lib.hid (show refP p n = 52 from by simp [refP, errP, HS0.out, kidsBad, HJ'.out, HIN.out, HSS.out, HDD.out, h1])
   go_wp2_with fail
   go_returns
   exact ⟨congrArg (fun z => Ending.returned (Value.int .i64 z)) HE.out.symm, HA2.out⟩
  ·have h1' : decide (4096 < S) = false := decide_eq_false h1
   by_cases h2 : 64 < D
   ·have HE := Lib.hid (show refP p n = 52 from by simp [refP, errP, HS0.out, kidsBad, HJ'.out, HIN.out, HSS.out, HDD.out, h1, h2])
    clear h1
    go_wp2_with fail
    go_returns
    exact ⟨congrArg (fun z => Ending.returned (Value.int .i64 z)) HE.out.symm, HA2.out⟩
   ·have h2' : decide (64 < D) = false := decide_eq_false h2
    by_cases h3 : 65536 ≤ p.length
    ·have HE := Lib.hid (show refP p n = 6 from by simp [refP, errP, HS0.out, kidsBad, HJ'.out, HIN.out, HSS.out, HDD.out, h1, h2, h3])
     have h3' : (65536 : Int) ≤ (p.length : Int) := by omega
     clear h1 h2
     go_wp2_with fail
     refine (plen HH.out).mono ?_
     rintro e w3 ⟨rfl, rfl⟩
     go_wp2_with fail
     go_returns
     exact ⟨congrArg (fun z => Ending.returned (Value.int .i64 z)) HE.out.symm, HA2.out⟩
    ·have HE := Lib.hid (show refP p n = 0 from by simp [refP, errP, HS0.out, kidsBad, HJ'.out, HIN.out, HSS.out, HDD.out, h1, h2, h3])
     have h3' : decide ((65536 : Int) ≤ (p.length : Int)) = false := by simp; omega
     clear h1 h2
     go_wp2_with fail
     refine (plen HH.out).mono ?_
     rintro e w3 ⟨rfl, rfl⟩
     go_wp2_with fail
     go_returns
     exact ⟨congrArg (fun z => Ending.returned (Value.int .i64 z)) HE.out.symm, HA2.out⟩
set_option maxRecDepth 100000 in
set_option maxHeartbeats 6400000 in
theorem refuse_kids2 (h : IsPool w B a b v p) (hl : Laid w) {n : Nd} (hn : NdOk n) {S D : Int} (hS : szN p n = S) (hD : dpN p n = D) (hs : shp n = 0) (hj : (kidsN n.kind : Int) = 2) :
  Calls Tryz.prog 192 #[.pointer (some ⟨a, 0, none⟩), .agg #[.int .i64 n.kind, .int .i64 n.frm, .int .i64 n.to, .int .u64 n.num, .string n.text, .int .i64 n.a, .int .i64 n.b, .int .i64 S, .int .i64 D]] w fun e w' => e = .returned (.int .i64 (refP p n)) ∧ Below w.heap.size w w' := by
 have bA : Below w.heap.size w (w.alloc (.cells #[.int .i64 n.kind, .int .i64 n.frm, .int .i64 n.to, .int .u64 n.num, .string n.text, .int .i64 n.a, .int .i64 n.b, .int .i64 S, .int .i64 D] MadeT)) := (Below.refl _ _).alloc (Nat.le_refl _) _
 have hb : (w.alloc (.cells #[.int .i64 n.kind, .int .i64 n.frm, .int .i64 n.to, .int .u64 n.num, .string n.text, .int .i64 n.a, .int .i64 n.b, .int .i64 S, .int .i64 D] MadeT)).heap[w.heap.size]? = some (Obj.cells #[.int .i64 n.kind, .int .i64 n.frm, .int .i64 n.to, .int .u64 n.num, .string n.text, .int .i64 n.a, .int .i64 n.b, .int .i64 S, .int .i64 D] MadeT) := heap_alloc_new _ _
 have hw := @wrong_any n (w.alloc (.cells #[.int .i64 n.kind, .int .i64 n.frm, .int .i64 n.to, .int .u64 n.num, .string n.text, .int .i64 n.a, .int .i64 n.b, .int .i64 S, .int .i64 D] MadeT)) (hl.below bA) hn.text
 have hlen := h.ok.len
 have H := Lib.hid (h.below bA)
 have HL := Lib.hid (hl.below bA)
 have HB := Lib.hid hb
 have HA := Lib.hid bA
 have HS0 := Lib.hid hs
 have HSS := Lib.hid hS
 have HDD := Lib.hid hD
 have HJ := Lib.hid hj
 rw [hs] at hw
 unfold nodeA at hw
 obtain ⟨z0, z1, z2, z3, z4, z5, z6⟩ := cs7 hb rfl rfl rfl rfl rfl rfl rfl
 have hj' : kidsN n.kind = 2 := by omega
 have HJ' := Lib.hid hj'
 have HW := Lib.hid hw
 clear h hl hn hS hD bA hb hw hs hj hj'
 go_enter Tryz.func192, Tryz.ntmps192
 go_wp2_with fail
 refine HW.out.mono ?_
 rintro e w1 ⟨rfl, u1⟩
 have hB1 := Hold.below u1 _ _ HB.out
 have y0 := cellB (j := 0) hB1 rfl
 have HL1 := Lib.hid (HL.out.below u1)
 have HU1 := Lib.hid u1
 clear u1 z0 z1 z2 z3 z4 z5 z6
 have hfk := field_kids
 go_wp2_with fail
 refine (shape_kids HL1.out n.kind 2 HJ.out).mono ?_
 rintro e w2 ⟨rfl, u2⟩
 have hB2 := Hold.below u2 _ _ hB1
 have x5 := cellB (j := 5) hB2 rfl
 have x6 := cellB (j := 6) hB2 rfl
 have x7 := cellB (j := 7) hB2 rfl
 have x8 := cellB (j := 8) hB2 rfl
 have hu := bmore HU1.out u2
 have HH := Lib.hid (H.out.below hu)
 have HA2 := Lib.hid (HA.out.trans (hu.mono HA.out.size))
 clear u2 hB1 hB2 y0 hu
 cases ha : inP p n.a
 ·have HIN := Lib.hid ha
  have HE := Lib.hid (show refP p n = 51 from by simp [refP, errP, HS0.out, kidsBad, HJ'.out, ha])
  clear ha
  go_wp2_with fail
  refine (holds_no HH.out HIN.out).mono ?_
  rintro e w3 ⟨rfl, rfl⟩
  go_wp2_with fail
  go_returns
  exact ⟨congrArg (fun z => Ending.returned (Value.int .i64 z)) HE.out.symm, HA2.out⟩
 ·have HIN := Lib.hid ha
  clear ha
  cases hbb : inP p n.b
  ·have HIB := Lib.hid hbb
   have HE := Lib.hid (show refP p n = 51 from by simp [refP, errP, HS0.out, kidsBad, HJ'.out, HIN.out, hbb])
   clear hbb
   go_wp2_with fail
   refine (holds_yes HH.out HIN.out).mono ?_
   rintro e w3 ⟨rfl, rfl⟩
   go_wp2_with fail
   refine (holds_no HH.out HIB.out).mono ?_
   rintro e w3 ⟨rfl, rfl⟩
   go_wp2_with fail
   go_returns
   exact ⟨congrArg (fun z => Ending.returned (Value.int .i64 z)) HE.out.symm, HA2.out⟩
  ·have HIB := Lib.hid hbb
   clear hbb
   go_wp2_with fail
   refine (holds_yes HH.out HIN.out).mono ?_
   rintro e w3 ⟨rfl, rfl⟩
   go_wp2_with fail
   refine (holds_yes HH.out HIB.out).mono ?_
   rintro e w3 ⟨rfl, rfl⟩
   by_cases h1 : 4096 < S
   ·have HE := Lib.hid (show refP p n = 52 from by simp [refP, errP, HS0.out, kidsBad, HJ'.out, HIN.out, HIB.out, HSS.out, HDD.out, h1])
    go_wp2_with fail
    go_returns
    exact ⟨congrArg (fun z => Ending.returned (Value.int .i64 z)) HE.out.symm, HA2.out⟩
   ·have h1' : decide (4096 < S) = false := decide_eq_false h1
    by_cases h2 : 64 < D
    ·have HE := Lib.hid (show refP p n = 52 from by simp [refP, errP, HS0.out, kidsBad, HJ'.out, HIN.out, HIB.out, HSS.out, HDD.out, h1, h2])
     clear h1
     go_wp2_with fail
     go_returns
     exact ⟨congrArg (fun z => Ending.returned (Value.int .i64 z)) HE.out.symm, HA2.out⟩
    ·have h2' : decide (64 < D) = false := decide_eq_false h2
     by_cases h3 : 65536 ≤ p.length
     ·have HE := Lib.hid (show refP p n = 6 from by simp [refP, errP, HS0.out, kidsBad, HJ'.out, HIN.out, HIB.out, HSS.out, HDD.out, h1, h2, h3])
      have h3' : (65536 : Int) ≤ (p.length : Int) := by omega
      clear h1 h2
      go_wp2_with fail
      refine (plen HH.out).mono ?_
      rintro e w3 ⟨rfl, rfl⟩
      go_wp2_with fail
      go_returns
      exact ⟨congrArg (fun z => Ending.returned (Value.int .i64 z)) HE.out.symm, HA2.out⟩
     ·have HE := Lib.hid (show refP p n = 0 from by simp [refP, errP, HS0.out, kidsBad, HJ'.out, HIN.out, HIB.out, HSS.out, HDD.out, h1, h2, h3])
      have h3' : decide ((65536 : Int) ≤ (p.length : Int)) = false := by simp; omega
      clear h1 h2
      go_wp2_with fail
      refine (plen HH.out).mono ?_
      rintro e w3 ⟨rfl, rfl⟩
      go_wp2_with fail
      go_returns
      exact ⟨congrArg (fun z => Ending.returned (Value.int .i64 z)) HE.out.symm, HA2.out⟩
theorem prefuse (h : IsPool w B a b v p) (hl : Laid w) {n : Nd} (hn : NdOk n) {S D : Int} (hS : szN p n = S) (hD : dpN p n = D) :
  Calls Tryz.prog 192 #[.pointer (some ⟨a, 0, none⟩), .agg #[.int .i64 n.kind, .int .i64 n.frm, .int .i64 n.to, .int .u64 n.num, .string n.text, .int .i64 n.a, .int .i64 n.b, .int .i64 S, .int .i64 D]] w fun e w' => e = .returned (.int .i64 (refP p n)) ∧ Below w.heap.size w w' := by
 by_cases hs : shp n = 0
 ·rcases kids_cases n.kind with e | e | e
  ·exact refuse_kids0 h hl hn hS hD hs (by rw [e]; rfl)
  ·exact refuse_kids1 h hl hn hS hD hs (by rw [e]; rfl)
  ·exact refuse_kids2 h hl hn hS hD hs (by rw [e]; rfl)
 ·exact refuse_shape h hl hn hS hD hs
end
end Go.Proofs.YtjmcaceegfdkkaaGreatDoor
