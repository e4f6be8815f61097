/-
  What a nil pool answers.
-/
import Derived.Test.YtgaklaajbepfaaaDoorVLiveW
import Derived.Deep.DeepCutAuto
namespace Go.Proofs.YtgaklaajbepfaaaDoor
open Go.RowKit Go.Maps Go.Shelf
attribute [local go_sem] Oper.semAt_some
set_option linter.unusedVariables false

theorem nlen (w : World) : Calls Tryd.prog 14 #[.pointer none] w fun e w' => e = .returned (.int .i64 0) ∧ w = w' := by
  go_enter Tryd.func14, Tryd.ntmps14
  go_wp2_with fail
  go_returns
  exact ⟨rfl, rfl⟩
set_option maxHeartbeats 800000 in
theorem nholds (t : Int) (w : World) : Calls Tryd.prog 61 #[.pointer none, .int .i64 t] w fun e w' => e = .returned (.bool false) ∧ w = w' := by
  by_cases h1 : 1 ≤ t
  · have h2 : decide (t ≤ 0) = false := decide_eq_false (by omega)
    go_enter Tryd.func61, Tryd.ntmps61
    go_wp2_with fail
    refine (nlen _).mono ?_
    rintro e w1 ⟨rfl, rfl⟩
    go_wp2_with fail
    go_returns
    exact ⟨rfl, rfl⟩
  · have h1' : decide (1 ≤ t) = false := decide_eq_false h1
    go_enter Tryd.func61, Tryd.ntmps61
    go_wp2_with fail
    go_returns
    exact ⟨rfl, rfl⟩
set_option maxHeartbeats 800000 in
theorem nlook (t : Int) (w : World) : Calls Tryd.prog 60 #[.pointer none, .int .i64 t] w fun e w' => e = .returned (.agg #[.int .i64 0, .int .i64 0, .int .i64 0, .int .u64 0, .string ⟨#[]⟩, .int .i64 0, .int .i64 0, .int .i64 0, .int .i64 0]) ∧ Below w.heap.size w w' := by
  go_enter Tryd.func60, Tryd.ntmps60
  go_wp2_with fail
  refine (nholds t _).mono ?_
  rintro e w1 ⟨rfl, rfl⟩
  go_wp2_with fail
  refine bodyPost_ret (v := .agg #[.int .i64 0, .int .i64 0, .int .i64 0, .int .u64 0, .string ⟨#[]⟩, .int .i64 0, .int .i64 0, .int .i64 0, .int .i64 0]) (by simp [results, Tryd.results60, go_sem]) rfl ⟨rfl, ?_⟩
  exact (Below.refl _ _).alloc (Nat.le_refl _) _
set_option maxRecDepth 100000 in
set_option maxHeartbeats 3200000 in
theorem nnode (t : Int) (w : World) : Calls Tryd.prog 39 #[.pointer none, .int .i64 t] w fun e w' => e = .returned (.tuple #[.agg #[.int .i64 0, .int .i64 0, .int .i64 0, .int .u64 0, .string ⟨#[]⟩, .int .i64 0, .int .i64 0], .bool false]) ∧ Below w.heap.size w w' := by
  have bA : Below w.heap.size w (w.alloc (.cells #[.int .i64 0, .int .i64 0, .int .i64 0, .int .u64 0, .string ⟨#[]⟩, .int .i64 0, .int .i64 0] NodeT)) := (Below.refl _ _).alloc (Nat.le_refl _) _
  have hb : (w.alloc (.cells #[.int .i64 0, .int .i64 0, .int .i64 0, .int .u64 0, .string ⟨#[]⟩, .int .i64 0, .int .i64 0] NodeT)).heap[w.heap.size]? = some (Obj.cells #[.int .i64 0, .int .i64 0, .int .i64 0, .int .u64 0, .string ⟨#[]⟩, .int .i64 0, .int .i64 0] NodeT) := heap_alloc_new _ _
  have HB := Lib.hid hb
  have HA := Lib.hid bA
  clear bA hb
  have hfd := field_node
  go_enter Tryd.func39, Tryd.ntmps39
  go_wp2_with fail
  generalize (w.alloc (.cells #[.int .i64 0, .int .i64 0, .int .i64 0, .int .u64 0, .string ⟨#[]⟩, .int .i64 0, .int .i64 0] NodeT)) = W at *
  refine (nlook t _).mono ?_
  rintro e w1 ⟨rfl, u1⟩
  have hb1 := Hold.below u1 _ _ HB.out
  have HA1 := Lib.hid (HA.out.trans (u1.mono HA.out.size))
  have x0 := frozenB (j := 0) hb1
  have y0 := cellB (j := 0) hb1 rfl
  have x1 := frozenB (j := 1) hb1
  have y1 := cellB (j := 1) hb1 rfl
  have x2 := frozenB (j := 2) hb1
  have y2 := cellB (j := 2) hb1 rfl
  have x3 := frozenB (j := 3) hb1
  have y3 := cellB (j := 3) hb1 rfl
  have x4 := frozenB (j := 4) hb1
  have y4 := cellB (j := 4) hb1 rfl
  have x5 := frozenB (j := 5) hb1
  have y5 := cellB (j := 5) hb1 rfl
  have x6 := frozenB (j := 6) hb1
  have y6 := cellB (j := 6) hb1 rfl
  clear u1
  go_wp2_with fail
  refine (nholds t _).mono ?_
  rintro e w2 ⟨rfl, rfl⟩
  go_wp2_with fail
  have hb7 : (((((((w1.setCell ⟨w.heap.size, 0, none⟩ (.int .i64 0)).setCell ⟨w.heap.size, 1, none⟩ (.int .i64 0)).setCell ⟨w.heap.size, 2, none⟩ (.int .i64 0)).setCell ⟨w.heap.size, 3, none⟩ (.int .u64 0)).setCell ⟨w.heap.size, 4, none⟩ (.string ⟨#[]⟩)).setCell ⟨w.heap.size, 5, none⟩ (.int .i64 0)).setCell ⟨w.heap.size, 6, none⟩ (.int .i64 0)).heap[w.heap.size]? = some (Obj.cells #[.int .i64 0, .int .i64 0, .int .i64 0, .int .u64 0, .string ⟨#[]⟩, .int .i64 0, .int .i64 0] NodeT) := (setCellB (j := 6) (u := .int .i64 0) (setCellB (j := 5) (u := .int .i64 0) (setCellB (j := 4) (u := .string ⟨#[]⟩) (setCellB (j := 3) (u := .int .u64 0) (setCellB (j := 2) (u := .int .i64 0) (setCellB (j := 1) (u := .int .i64 0) (setCellB (j := 0) (u := .int .i64 0) hb1)))))))
  have hbl : Below w.heap.size w (((((((w1.setCell ⟨w.heap.size, 0, none⟩ (.int .i64 0)).setCell ⟨w.heap.size, 1, none⟩ (.int .i64 0)).setCell ⟨w.heap.size, 2, none⟩ (.int .i64 0)).setCell ⟨w.heap.size, 3, none⟩ (.int .u64 0)).setCell ⟨w.heap.size, 4, none⟩ (.string ⟨#[]⟩)).setCell ⟨w.heap.size, 5, none⟩ (.int .i64 0)).setCell ⟨w.heap.size, 6, none⟩ (.int .i64 0)) := (((((((HA1.out.setCell (p := ⟨w.heap.size, 0, none⟩) (Nat.le_refl _) _).setCell (p := ⟨w.heap.size, 1, none⟩) (Nat.le_refl _) _).setCell (p := ⟨w.heap.size, 2, none⟩) (Nat.le_refl _) _).setCell (p := ⟨w.heap.size, 3, none⟩) (Nat.le_refl _) _).setCell (p := ⟨w.heap.size, 4, none⟩) (Nat.le_refl _) _).setCell (p := ⟨w.heap.size, 5, none⟩) (Nat.le_refl _) _).setCell (p := ⟨w.heap.size, 6, none⟩) (Nat.le_refl _) _)
  generalize (((((((w1.setCell ⟨w.heap.size, 0, none⟩ (.int .i64 0)).setCell ⟨w.heap.size, 1, none⟩ (.int .i64 0)).setCell ⟨w.heap.size, 2, none⟩ (.int .i64 0)).setCell ⟨w.heap.size, 3, none⟩ (.int .u64 0)).setCell ⟨w.heap.size, 4, none⟩ (.string ⟨#[]⟩)).setCell ⟨w.heap.size, 5, none⟩ (.int .i64 0)).setCell ⟨w.heap.size, 6, none⟩ (.int .i64 0)) = W7 at *
  have c0 : W7.cell? ⟨w.heap.size, 0, none⟩ = some (.int .i64 0) := cellB hb7 rfl
  have c1 : W7.cell? ⟨w.heap.size, 1, none⟩ = some (.int .i64 0) := cellB hb7 rfl
  have c2 : W7.cell? ⟨w.heap.size, 2, none⟩ = some (.int .i64 0) := cellB hb7 rfl
  have c3 : W7.cell? ⟨w.heap.size, 3, none⟩ = some (.int .u64 0) := cellB hb7 rfl
  have c4 : W7.cell? ⟨w.heap.size, 4, none⟩ = some (.string ⟨#[]⟩) := cellB hb7 rfl
  have c5 : W7.cell? ⟨w.heap.size, 5, none⟩ = some (.int .i64 0) := cellB hb7 rfl
  have c6 : W7.cell? ⟨w.heap.size, 6, none⟩ = some (.int .i64 0) := cellB hb7 rfl
  refine bodyPost_ret (v := .tuple #[.agg #[.int .i64 0, .int .i64 0, .int .i64 0, .int .u64 0, .string ⟨#[]⟩, .int .i64 0, .int .i64 0], .bool false]) (by simp [results, Tryd.results39, go_sem, c0, c1, c2, c3, c4, c5, c6]) rfl ⟨rfl, hbl⟩

set_option maxRecDepth 100000 in
set_option maxHeartbeats 4000000 in
theorem walk_zero {W : World} {mb l : Nat} (hm : Met W mb [] []) : Calls Tryd.prog 68 #[.pointer none, .int .i64 0, .map (some mb), .func (.yield l) #[] #[]] W fun e W' => e = .returned (.bool true) ∧ W.grownBy W' none := by
  obtain ⟨D, ho, hD⟩ := hm
  have hi : i64R 0 := by unfold i64R; omega
  have hq : Maps.has D (.int .i64 0) = false := by
    cases h : Maps.has D (.int .i64 0) with
    | false => rfl
    | true => rcases (hD 0 hi).1 h with h | h <;> cases h
  clear hD
  go_enter Tryd.func68, Tryd.ntmps68
  go_wp2_with (at_lookup; refine wpList_lookup_own_unit _ rfl _ _ MetT rfl TermT UnT lawT Tryd.underlying119 (zeroU _) mb _ D rfl ho _ _ rfl (keyT hi) ?_; rw [hq])
  go_returns
  exact ⟨rfl, World.grownBy_alloc _ _ _⟩
set_option maxRecDepth 100000 in
set_option maxHeartbeats 1600000 in
theorem psubs_nil (w : World) (t : Int) : Calls Tryd.prog 49 #[.pointer none, .int .i64 t] w fun e w' => e = .returned (.func (.func 67) #[] #[.pointer (some ⟨w.heap.size, 0, none⟩), .pointer (some ⟨w.heap.size + 1, 0, none⟩)]) ∧
    w'.heap[w.heap.size]? = some (Obj.cells #[.pointer none] PPoolT) ∧ w'.heap[w.heap.size + 1]? = some (Obj.cells #[.int .i64 0] TermT) ∧ Below w.heap.size w w' := by
  have s1 : (w.alloc (.cells #[.pointer none] PPoolT)).heap.size = w.heap.size + 1 := by simp [World.size_alloc]
  have h0 : ((w.alloc (.cells #[.pointer none] PPoolT)).alloc (.cells #[.int .i64 t] TermT)).heap[w.heap.size]? = some (Obj.cells #[.pointer none] PPoolT) := Hold.below (bA0 _ _) _ _ (heap_alloc_new _ _)
  have h1 : ((w.alloc (.cells #[.pointer none] PPoolT)).alloc (.cells #[.int .i64 t] TermT)).heap[w.heap.size + 1]? = some (Obj.cells #[.int .i64 t] TermT) := by rw [← s1]; exact heap_alloc_new _ _
  have z0 : ((w.alloc (.cells #[.pointer none] PPoolT)).alloc (.cells #[.int .i64 0] TermT)).heap[w.heap.size]? = some (Obj.cells #[.pointer none] PPoolT) := Hold.below (bA0 _ _) _ _ (heap_alloc_new _ _)
  have z1 : ((w.alloc (.cells #[.pointer none] PPoolT)).alloc (.cells #[.int .i64 0] TermT)).heap[w.heap.size + 1]? = some (Obj.cells #[.int .i64 0] TermT) := by rw [← s1]; exact heap_alloc_new _ _
  have HZ0 := Lib.hid z0
  have HZ1 := Lib.hid z1
  have HZ := Lib.hid (bmore (bA0 w (.cells #[.pointer none] PPoolT)) (bA0 (w.alloc (.cells #[.pointer none] PPoolT)) (.cells #[.int .i64 0] TermT)))
  have c0 := cellB (j := 0) h0 rfl
  have c1 := cellB (j := 0) h1 rfl
  have f1 := frozenB (j := 0) h1
  clear h0 h1 z0 z1 s1
  go_enter Tryd.func49, Tryd.ntmps49
  go_wp2_with fail
  refine (nholds t _).mono ?_
  rintro e w2 ⟨rfl, rfl⟩
  go_wp2_with fail
  go_returns
  exact ⟨rfl, HZ0.out, HZ1.out, HZ.out⟩
set_option maxRecDepth 100000 in
set_option maxHeartbeats 1600000 in
/-- A nil pool's range: nothing comes. -/
theorem stopsN (n : Nat) (Kp : World → World → Prop) {w : World} {bp bt : Nat} (h0 : w.heap[bp]? = some (Obj.cells #[.pointer none] PPoolT)) (h1 : w.heap[bt]? = some (Obj.cells #[.int .i64 0] TermT)) :
    SeqStopsK Fence.wide n Tryd.prog 67 #[.pointer (some ⟨bp, 0, none⟩), .pointer (some ⟨bt, 0, none⟩)] encT Kp (fun ys => ys = []) (fun _ => True) 0 w := by
  intro l J Jx W hW hJ _ hY hJ0
  have c0 := bcellAt hW (cellB (j := 0) h0 rfl)
  have c1 := bcellAt hW (cellB (j := 0) h1 rfl)
  have hg0 : W.grownBy (W.alloc (.map #[] 0)) none := World.grownBy_alloc _ _ none
  have HJ := Lib.hid (fun (W' : World) (hg : (W.alloc (.map #[] 0)).grownBy W' none) => hJ [] _ W' none (hJ [] _ _ none hJ0 hg0 (fun r e => by cases e)) hg (fun r e => by cases e))
  have HWZ := Lib.hid (walk_zero (l := l) (Met.new W))
  clear hg0 h0 h1 hJ hY hJ0 hW
  have hmm := @run_makeMap Tryd.prog
  refine callsIn_wide.2 ?_
  go_enter Tryd.func67, Tryd.ntmps67
  go_wp2_with fail
  refine HWZ.out.mono ?_
  rintro e W1 ⟨rfl, g1⟩
  have HJ1 := Lib.hid (HJ.out _ g1)
  clear g1 HJ
  go_wp2_with fail
  go_returns
  exact ⟨⟨_, rfl⟩, .inl ⟨_, rfl, HJ1.out⟩⟩
/-- What holds between two rounds: none comes. -/
def NilAt (n0 lb : Nat) (w1 : World) (pre : List Int) (W : World) : Prop := Boxed W lb SlVT (.slice none 0 0) ∧ Below n0 w1 W
theorem NilAt.own (n0 lb : Nat) (w1 : World) {n : Nat} (hn : n0 ≤ n) (hw : n0 ≤ w1.heap.size) : OwnFrom n (NilAt n0 lb w1) := by
  rintro s X Y row ⟨h1, h3⟩ hg hr
  exact ⟨box_kept h1 hg hr, h3.grown hg (Nat.le_trans hw h3.size) fun q e => Nat.le_trans hn (hr q e).1⟩
set_option maxRecDepth 100000 in
set_option maxHeartbeats 25600000 in
theorem promises_nil_in (w : World) (at' t : Int) :
    CallsIn Fence.wide 3 Tryd.prog 25 #[.pointer none, .int .i64 at', .int .i64 t] w fun e w' => e = .returned (.slice none 0 0) ∧ Below w.heap.size w w' := by
  have s2 : ((w.alloc (.cells #[.pointer none] VPoolT)).alloc (.cells #[.int .i64 at'] WhoT)).heap.size = w.heap.size + 1 + 1 := by simp [World.size_alloc]
  have b1 := bA0 w (.cells #[.pointer none] VPoolT)
  have b2 := bA0 (w.alloc (.cells #[.pointer none] VPoolT)) (.cells #[.int .i64 at'] WhoT)
  have b3 := bA0 ((w.alloc (.cells #[.pointer none] VPoolT)).alloc (.cells #[.int .i64 at'] WhoT)) (.cells #[.slice none 0 0] SlVT)
  have hpb : Boxed (((w.alloc (.cells #[.pointer none] VPoolT)).alloc (.cells #[.int .i64 at'] WhoT)).alloc (.cells #[.slice none 0 0] SlVT)) w.heap.size VPoolT (.pointer none) := Hold.below (bmore b2 b3) _ _ (heap_alloc_new _ _)
  have hlb : Boxed (((w.alloc (.cells #[.pointer none] VPoolT)).alloc (.cells #[.int .i64 at'] WhoT)).alloc (.cells #[.slice none 0 0] SlVT)) (w.heap.size + 1 + 1) SlVT (.slice none 0 0) := by
    show _ = _
    rw [← s2]; exact heap_alloc_new _ _
  have HU := Lib.hid (bmore (bmore b1 b2) b3)
  have HLB := Lib.hid hlb
  have c0 := hpb.cell
  clear s2 b1 b2 b3 hpb hlb
  refine callsIn_of_wp_marks Tryd.func25 rfl trivial ?_ rfl
  simp only [Tryd.ntmps25, List.size_toArray, List.length_cons, List.length_nil, Nat.reduceAdd, Nat.reduceSub, Array.replicate_succ, Array.replicate_zero, List.push_toArray, List.append_toArray, List.nil_append, List.cons_append]
  refine wpIn_wide.2 ?_
  go_wp2_with fail
  generalize (((w.alloc (.cells #[.pointer none] VPoolT)).alloc (.cells #[.int .i64 at'] WhoT)).alloc (.cells #[.slice none 0 0] SlVT)) = w3 at *
  refine (psubs_nil w3 t).mono ?_
  rintro e w4 ⟨rfl, k0, k1, u4⟩
  have HST := Lib.hid (stopsN (w := w4) 2 (KpT w.heap.size) k0 k1)
  have HU4 := Lib.hid (bmore HU.out u4)
  have H0 : Hid (NilAt w.heap.size (w.heap.size + 1 + 1) w4 [] w4) := Lib.hid ⟨boxed_below HLB.out u4, Below.refl _ _⟩
  clear k0 k1 u4 HLB
  go_wp2_with fail
  refine (wpIn_wide (n := 3)).1 ?_
  refine range_H rfl (by decide) (gf := 67) (lb := #[.pointer (some ⟨w3.heap.size, 0, none⟩), .pointer (some ⟨w3.heap.size + 1, 0, none⟩)]) rfl trivial (enters_of Tryd.func67 (by kernel_rfl) rfl)
    HST.out HU4.out.size (fun _ => rfl)
    (NilAt w.heap.size (w.heap.size + 1 + 1) w4) (fun _ _ _ => False) (NilAt.own _ _ _ HU4.out.size HU4.out.size) (fun c pre X Y row h => h.elim) H0.out ?a1c ?assignc ?bodyc ?donec ?stopc
  case assignc =>
    intro lb x W' K hK
    gi_wp2
    exact hK
  case stopc =>
    rintro D c pre W hD hS hx
    exact hx.elim
  case bodyc =>
    rintro lb pre x X hlb hrec hc hlt
    exact absurd hlt (Nat.not_lt_zero _)
  case donec =>
    rintro D xs W hD hS ⟨hlb, hlow⟩ hK
    have hrow : W.ownsRow w.heap.size TermT 1 (.slice none 0 0) ([] : List Int).length (ints []) := World.ownsRow_nil _ _ _ 1
    have SC := Lib.hid (vsort_call hrow (by decide))
    have z0 := hlb.cell
    have HLB := Lib.hid hlb
    have HLOW := Lib.hid hlow
    have HKD := Lib.hid hK
    have HRW := Lib.hid hrow
    have hDw : w.heap.size ≤ D := Nat.le_trans HU4.out.size hD
    clear hlb hlow hrow hK hS hD
    go_wp2_with fail
    refine SC.out.mono ?_
    rintro e W2 ⟨rfl, _, g2⟩
    have hl2 : Boxed W2 (w.heap.size + 1 + 1) SlVT (.slice none 0 0) := hold_rowK HRW.out g2 (by decide) _ _ HLB.out
    have z1 := hl2.cell
    have hkD : W2.heap[D]? = some (.deferred (some [])) := (g2.block D (Array.getElem?_eq_some_iff.1 HKD.out).1 (fun e => by cases e)).trans HKD.out
    have hb2 : Below w.heap.size w W2 := ((HU4.out.trans (HLOW.out.mono (Nat.le_refl _))).trans (grown_below g2 (Nat.le_trans HU4.out.size HLOW.out.size) (fun q e => by cases e)))
    have HKD2 := Lib.hid hkD
    have HB2 := Lib.hid hb2
    clear g2 hkD hb2 HKD hl2
    go_wp2_with fail
    refine ⟨by simp, .inl ⟨_, _, rfl, run_takeDeferred HKD2.out, ?_⟩⟩
    refine ⟨.slice none 0 0, ?_, rfl, HB2.out.grown (grownBy_putObj' _ D (.deferred none)) HB2.out.size (fun k e => by cases e; exact hDw)⟩
    simp [results, Tryd.f25, go_sem]
theorem Promises_nil (w : World) (at' t : Int) : Calls Tryd.prog 25 #[.pointer none, .int .i64 at', .int .i64 t] w fun e w' => e = .returned (.slice none 0 0) ∧ Below w.heap.size w w' := callsIn_wide.1 (promises_nil_in w at' t)
set_option maxRecDepth 100000 in
set_option maxHeartbeats 3200000 in
theorem Frame_nil (w : World) (who : Int) (a : Option Addr) (n c : Nat) : Calls Tryd.prog 27 #[.pointer none, .int .i64 who, .slice a n c] w fun e w' => e = .returned (.tuple #[.slice none 0 0, .int .i64 7]) ∧ Below w.heap.size w w' := by
  go_enter Tryd.func27, Tryd.ntmps27
  go_wp2_with fail
  refine (refuse_nil _ who _ _ _).mono ?_
  rintro e w2 ⟨rfl, rfl⟩
  go_wp2_with fail
  go_returns
  exact ⟨rfl, Below.refl _ _⟩
set_option maxRecDepth 100000 in
set_option maxHeartbeats 3200000 in
theorem Classes_nil (w : World) (who : Int) (a : Option Addr) (n c : Nat) : Calls Tryd.prog 28 #[.pointer none, .int .i64 who, .slice a n c] w fun e w' => e = .returned (.tuple #[.slice none 0 0, .int .i64 7]) ∧ Below w.heap.size w w' := by
  go_enter Tryd.func28, Tryd.ntmps28
  go_wp2_with fail
  refine (Frame_nil _ who _ _ _).mono ?_
  rintro e w2 ⟨rfl, u2⟩
  have HB := Lib.hid u2
  clear u2
  go_wp2_with fail
  go_returns
  exact ⟨rfl, HB.out⟩
set_option maxRecDepth 100000 in
set_option maxHeartbeats 3200000 in
theorem Tells_nil (w : World) (who t : Int) : Calls Tryd.prog 29 #[.pointer none, .int .i64 who, .int .i64 t] w fun e w' => e = .returned (.bool false) ∧ Below w.heap.size w w' := by
  go_enter Tryd.func29, Tryd.ntmps29
  go_wp2_with fail
  refine (nnode t _).mono ?_
  rintro e w2 ⟨rfl, u2⟩
  obtain ⟨bA, hb⟩ := node_box w2 0 0 0 0 0 0 ⟨#[]⟩
  have HB := Lib.hid (bmore u2 bA)
  have y0 : (w2.alloc (.cells #[.int .i64 0, .int .i64 0, .int .i64 0, .int .u64 0, .string ⟨#[]⟩, .int .i64 0, .int .i64 0] NodeT)).cell? ⟨w2.heap.size, 0, none⟩ = some (.int .i64 0) := cellB (j := 0) hb rfl
  have y1 : (w2.alloc (.cells #[.int .i64 0, .int .i64 0, .int .i64 0, .int .u64 0, .string ⟨#[]⟩, .int .i64 0, .int .i64 0] NodeT)).cell? ⟨w2.heap.size, 1, none⟩ = some (.int .i64 0) := cellB (j := 1) hb rfl
  have y2 : (w2.alloc (.cells #[.int .i64 0, .int .i64 0, .int .i64 0, .int .u64 0, .string ⟨#[]⟩, .int .i64 0, .int .i64 0] NodeT)).cell? ⟨w2.heap.size, 2, none⟩ = some (.int .i64 0) := cellB (j := 2) hb rfl
  have y3 : (w2.alloc (.cells #[.int .i64 0, .int .i64 0, .int .i64 0, .int .u64 0, .string ⟨#[]⟩, .int .i64 0, .int .i64 0] NodeT)).cell? ⟨w2.heap.size, 3, none⟩ = some (.int .u64 0) := cellB (j := 3) hb rfl
  have y4 : (w2.alloc (.cells #[.int .i64 0, .int .i64 0, .int .i64 0, .int .u64 0, .string ⟨#[]⟩, .int .i64 0, .int .i64 0] NodeT)).cell? ⟨w2.heap.size, 4, none⟩ = some (.string ⟨#[]⟩) := cellB (j := 4) hb rfl
  have y5 : (w2.alloc (.cells #[.int .i64 0, .int .i64 0, .int .i64 0, .int .u64 0, .string ⟨#[]⟩, .int .i64 0, .int .i64 0] NodeT)).cell? ⟨w2.heap.size, 5, none⟩ = some (.int .i64 0) := cellB (j := 5) hb rfl
  have y6 : (w2.alloc (.cells #[.int .i64 0, .int .i64 0, .int .i64 0, .int .u64 0, .string ⟨#[]⟩, .int .i64 0, .int .i64 0] NodeT)).cell? ⟨w2.heap.size, 6, none⟩ = some (.int .i64 0) := cellB (j := 6) hb rfl
  have TL := Lib.hid (vtells_any who ⟨0, 0, 0, 0, ⟨#[]⟩, 0, 0⟩ (w2.alloc (.cells #[.int .i64 0, .int .i64 0, .int .i64 0, .int .u64 0, .string ⟨#[]⟩, .int .i64 0, .int .i64 0] NodeT)))
  rw [show tellB who ⟨0, 0, 0, 0, ⟨#[]⟩, 0, 0⟩ = false from by unfold tellB likeB; simp] at TL
  simp only [nodeA] at TL
  clear u2 bA hb
  go_wp2_with fail
  refine TL.out.mono ?_
  rintro e w3 ⟨rfl, u3⟩
  have HB3 := Lib.hid (bmore HB.out u3)
  clear u3 y0 y1 y2 y3 y4 y5 y6
  go_wp2_with fail
  go_returns
  exact ⟨rfl, HB3.out⟩
set_option maxRecDepth 100000 in
set_option maxHeartbeats 3200000 in
theorem Alike_nil (w : World) (who : Int) (a b : Option Addr) (n c m d : Nat) : Calls Tryd.prog 11 #[.pointer none, .int .i64 who, .slice a n c, .slice b m d] w fun e w' => e = .returned (.bool false) ∧ Below w.heap.size w w' := by
  have b1 := bA0 w (.cells #[.pointer none] VPoolT)
  have b2 := bmore b1 (bA0 (w.alloc (.cells #[.pointer none] VPoolT)) (.cells #[.int .i64 who] WhoT))
  have s1 : (w.alloc (.cells #[.pointer none] VPoolT)).heap.size = w.heap.size + 1 := by simp [World.size_alloc]
  have hpb : ((w.alloc (.cells #[.pointer none] VPoolT)).alloc (.cells #[.int .i64 who] WhoT)).heap[w.heap.size]? = some (Obj.cells #[.pointer none] VPoolT) := Hold.below (bA0 _ _) _ _ (heap_alloc_new _ _)
  have hwb : ((w.alloc (.cells #[.pointer none] VPoolT)).alloc (.cells #[.int .i64 who] WhoT)).heap[w.heap.size + 1]? = some (Obj.cells #[.int .i64 who] WhoT) := by rw [← s1]; exact heap_alloc_new _ _
  have HU2 := Lib.hid b2
  have c0 := cellB (j := 0) hpb rfl
  have c1 := cellB (j := 0) hwb rfl
  clear b1 b2 s1 hpb hwb
  go_enter Tryd.func11, Tryd.ntmps11
  go_wp2_with fail
  refine (refuse_nil _ who _ _ _).mono ?_
  rintro e w2 ⟨rfl, rfl⟩
  go_wp2_with fail
  go_returns
  exact ⟨rfl, HU2.out⟩
end Go.Proofs.YtgaklaajbepfaaaDoor
