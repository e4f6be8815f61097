/-
  New, Cut, Sent, Came of the program's net.
-/
import Derived.Test.YtgnmieobgdbafaaNMem
import Derived.BigRegion
namespace Go.Proofs.Ytgnmieobgdbafaa
open Go.RowKit
set_option linter.unusedVariables false
theorem arr3 : Try.prog.arrayLen 63 = 3 ∧ Try.prog.arrayLen 62 = 3 := by constructor <;> kernel_rfl
theorem lk_lt {a b : Nat} (h1 : a < 3) (h2 : b < 3) : lk a b < 9 := by unfold lk; omega
set_option maxRecDepth 20000 in
theorem new_any (w : World) : Calls Try.prog 10 #[] w fun e w' => e = .returned (.pointer (some ⟨w.heap.size, 0, none⟩)) ∧ IsN w' w.heap.size w.heap.size (.slice none 0 0) (.slice none 0 0) newNt ∧ Below w.heap.size w w' := by
  go_enter Try.func10, Try.ntmps10
  go_wp2_with fail
  go_returns
  refine ⟨rfl, ⟨⟨_, heap_alloc_new _ _, ?_⟩, World.ownsRow_nil _ _ _ 5, World.ownsRow_nil _ _ _ 5, fun k hk => (by cases hk), Nat.le_refl _⟩, (Below.refl _ _).alloc (Nat.le_refl _) _⟩
  refine ⟨rfl, rfl, rfl, rfl, fun k hk => ?_⟩
  match k, hk with
  | 0, _ => exact ⟨rfl, rfl, rfl⟩
  | 1, _ => exact ⟨rfl, rfl, rfl⟩
  | 2, _ => exact ⟨rfl, rfl, rfl⟩
  | 3, _ => exact ⟨rfl, rfl, rfl⟩
  | 4, _ => exact ⟨rfl, rfl, rfl⟩
  | 5, _ => exact ⟨rfl, rfl, rfl⟩
  | 6, _ => exact ⟨rfl, rfl, rfl⟩
  | 7, _ => exact ⟨rfl, rfl, rfl⟩
  | 8, _ => exact ⟨rfl, rfl, rfl⟩
set_option maxRecDepth 20000 in
theorem way_any {w : World} {B a : Nat} {F H : Value} {x : Nt} (h : IsN w B a F H x) (f t : Int) : Calls Try.prog 50 #[.pointer (some ⟨a, 0, none⟩), .int .i64 f, .int .i64 t] w fun e w' =>
    e = .returned (.agg #[.bool (areB f t && x.cut (lk f.toNat t.toNat)), .int .i64 (sentP x f t), .int .i64 (cameP x f t)]) ∧ Below w.heap.size w w' := by
  have b0 : Below w.heap.size w (w.alloc (.cells #[.bool false, .int .i64 0, .int .i64 0] 61)) := (Below.refl _ _).alloc (Nat.le_refl _) _
  have z0 := heap_alloc_new w (.cells #[.bool false, .int .i64 0, .int .i64 0] 61)
  have h' := h.below b0
  have hA := areNodes_any (w.alloc (.cells #[.bool false, .int .i64 0, .int .i64 0] 61)) f t
  have HN := Lib.hid (@areB_nodes f t)
  unfold sentP cameP
  cases hb : areB f t
  · rw [hb] at hA
    clear h h'
    have B0 := Lib.hid b0
    clear b0 HN hb
    go_enter Try.func50, Try.ntmps50
    go_wp2_with fail
    refine hA.mono ?_
    rintro e w1 ⟨rfl, rfl⟩
    go_wp2_with fail
    go_returns
    exact ⟨rfl, B0.out⟩
  · rw [hb] at hA
    obtain ⟨g0, g1, g2, g3, g4⟩ := areB_nodes hb
    obtain ⟨i, rfl⟩ : ∃ i : Nat, f = (i : Int) := ⟨f.toNat, by omega⟩
    obtain ⟨j, rfl⟩ : ∃ j : Nat, t = (j : Int) := ⟨t.toNat, by omega⟩
    obtain ⟨l0, l1, l2⟩ := h'.link (lk_lt (a := i) (b := j) (by omega) (by omega))
    obtain ⟨a1, a2⟩ := arr3
    unfold lk at l0 l1 l2
    rw [show 3 + (i * 3 + j) * 3 = 3 + i * 9 + j * 3 by omega] at l0 l1 l2
    have B0 := Lib.hid b0
    have H' := Lib.hid h'
    clear h h' b0 HN hb
    go_enter Try.func50, Try.ntmps50
    go_wp2_with fail
    refine hA.mono ?_
    rintro e w1 ⟨rfl, rfl⟩
    go_wp2_with fail
    go_returns
    exact ⟨rfl, (Below.refl _ _).alloc (Nat.le_refl _) _⟩
set_option maxRecDepth 20000 in
theorem cut_any {w : World} {B a : Nat} {F H : Value} {x : Nt} (h : IsN w B a F H x) (f t : Int) (c : Bool) : Calls Try.prog 23 #[.pointer (some ⟨a, 0, none⟩), .int .i64 f, .int .i64 t, .bool c] w fun e w' =>
    e = .returned (.int .i64 (cutP x f t c).2) ∧ WentN B a F H (cutP x f t c).1 w w' := by
  have hA := areNodes_any w f t
  have HN := Lib.hid (@areB_nodes f t)
  have HX := Lib.hid h
  unfold cutP
  cases hb : areB f t
  · rw [hb] at hA
    rw [if_pos rfl]
    clear h HN hb
    go_enter Try.func23, Try.ntmps23
    go_wp2_with fail
    refine hA.mono ?_
    rintro e w1 ⟨rfl, rfl⟩
    go_wp2_with fail
    go_returns
    exact ⟨rfl, WentN.same HX.out (Below.refl _ _)⟩
  · rw [hb] at hA
    rw [if_neg (by simp)]
    obtain ⟨g0, g1, g2, g3, g4⟩ := areB_nodes hb
    obtain ⟨i, rfl⟩ : ∃ i : Nat, f = (i : Int) := ⟨f.toNat, by omega⟩
    obtain ⟨j, rfl⟩ : ∃ j : Nat, t = (j : Int) := ⟨t.toNat, by omega⟩
    obtain ⟨a1, a2⟩ := arr3
    obtain ⟨l0, _, _⟩ := h.link (lk_lt (a := i) (b := j) (by omega) (by omega))
    obtain ⟨l1, _, _⟩ := h.link (lk_lt (a := j) (b := i) (by omega) (by omega))
    have q0 := h.frz (3 + i * 9 + j * 3)
    have q1 := h.frz (3 + j * 9 + i * 3)
    unfold lk at l0 l1
    rw [show 3 + (i * 3 + j) * 3 = 3 + i * 9 + j * 3 by omega] at l0
    rw [show 3 + (j * 3 + i) * 3 = 3 + j * 9 + i * 3 by omega] at l1
    clear h HN hb
    go_enter Try.func23, Try.ntmps23
    go_wp2_with fail
    refine hA.mono ?_
    rintro e w1 ⟨rfl, rfl⟩
    go_wp2_with fail
    go_region
    go_wp2_with fail
    go_returns
    refine ⟨rfl, F, H, ?_, ?_, fun k hk => .inl hk⟩
    · have h1 := HX.out.set (y := { x with cut := upd x.cut (lk i j) c }) (3 + lk i j * 3) (.bool c) rfl rfl (fun cur hc => hc.setC (lk_lt (by omega) (by omega)) c)
      have h2 := h1.set (y := { x with cut := upd (upd x.cut (lk i j) c) (lk j i) c }) (3 + lk j i * 3) (.bool c) rfl rfl (fun cur hc => hc.setC (lk_lt (by omega) (by omega)) c)
      unfold lk at h2
      rw [show 3 + (i * 3 + j) * 3 = 3 + i * 9 + j * 3 by omega, show 3 + (j * 3 + i) * 3 = 3 + j * 9 + i * 3 by omega] at h2
      exact h2.below (bd _)
    · exact (((touch_set _ _ _ _ _ (.inl rfl)).trans (touch_set _ _ _ _ _ (.inl rfl))).trans (touch_drew _ _))
set_option maxRecDepth 20000 in
theorem sent_any {w : World} {B a : Nat} {F H : Value} {x : Nt} (h : IsN w B a F H x) (f t : Int) : Calls Try.prog 27 #[.pointer (some ⟨a, 0, none⟩), .int .i64 f, .int .i64 t] w fun e w' => e = .returned (.int .i64 (sentP x f t)) ∧ Below w.heap.size w w' := by
  have hw := way_any h f t
  clear h
  generalize (areB f t && x.cut (lk f.toNat t.toNat)) = c at *
  generalize sentP x f t = s at *
  generalize cameP x f t = m at *
  have fl0 : ∀ W : World, (Instr.field 61 (.agg #[.bool c, .int .i64 s, .int .i64 m]) 1).run Try.prog W = .ok (.int .i64 s) W := fun W => by kernel_rfl
  go_enter Try.func27, Try.ntmps27
  go_wp2_with fail
  refine hw.mono ?_
  rintro e w1 ⟨rfl, b1⟩
  have B1 := Lib.hid b1
  clear b1
  go_wp2_with fail
  go_returns
  exact ⟨rfl, B1.out⟩
set_option maxRecDepth 20000 in
theorem came_any {w : World} {B a : Nat} {F H : Value} {x : Nt} (h : IsN w B a F H x) (f t : Int) : Calls Try.prog 28 #[.pointer (some ⟨a, 0, none⟩), .int .i64 f, .int .i64 t] w fun e w' => e = .returned (.int .i64 (cameP x f t)) ∧ Below w.heap.size w w' := by
  have hw := way_any h f t
  clear h
  generalize (areB f t && x.cut (lk f.toNat t.toNat)) = c at *
  generalize sentP x f t = s at *
  generalize cameP x f t = m at *
  have fl0 : ∀ W : World, (Instr.field 61 (.agg #[.bool c, .int .i64 s, .int .i64 m]) 2).run Try.prog W = .ok (.int .i64 m) W := fun W => by kernel_rfl
  go_enter Try.func28, Try.ntmps28
  go_wp2_with fail
  refine hw.mono ?_
  rintro e w1 ⟨rfl, b1⟩
  have B1 := Lib.hid b1
  clear b1
  go_wp2_with fail
  go_returns
  exact ⟨rfl, B1.out⟩
end Go.Proofs.Ytgnmieobgdbafaa
