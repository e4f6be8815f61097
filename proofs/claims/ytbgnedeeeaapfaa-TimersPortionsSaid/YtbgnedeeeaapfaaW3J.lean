/-
  What Set, After, Cancel and Move do with a wheel of int64s in memory.
-/
import Derived.Test.YtbgnedeeeaapfaaW2J
namespace Go.Proofs.Ytbgnedeeeaapfaa
open Go.RowKit Go.Maps
set_option linter.unusedVariables false
/-- A field of the wheel is stored into. -/
theorem IsWJ.ids {w : World} {a mb : Nat} {cv : Value} {tn : Bool} {x : Wh} (h : IsWJ w a mb cv tn x) (hi : x.ids < 400000) : IsWJ (w.setCell ⟨a, 1, none⟩ (.int .i64 (x.ids + 1))) a mb cv tn { x with ids := x.ids + 1 } := by
  obtain ⟨p, y, G, hG, hL⟩ := h.lay
  refine ⟨⟨p, ?_, G, hG.hold (.setCell y (by decide) (by decide)), hL⟩, h.map.same (Below.heap_setCell _ _ _ _ (fun e => h.ne e.symm)), h.good.more hi, h.vals⟩
  have := setCellB (j := 1) (u := .int .i64 (x.ids + 1)) y
  simpa using this
set_option maxRecDepth 100000 in
set_option maxHeartbeats 1600000 in
theorem setJ {w : World} {a mb : Nat} {cv : Value} {tn : Bool} {x : Wh} (h : IsWJ w a mb cv tn x) (k : Int) (s : Int) (hi : x.ids < 400000) (hp : x.pls < 400000) (hk : k ≤ maxI) :
    Calls Try.prog 22 #[.pointer (some ⟨a, 0, none⟩), .int .i64 k, .int .i64 s] w fun e w' => e = .returned (.tuple #[.int .i64 (setP x k (.int .i64 s)).2.1, .int .i64 (setP x k (.int .i64 s)).2.2]) ∧ IsWJ w' a mb cv tn (setP x k (.int .i64 s)).1 ∧ Touch (OwnW a mb) w w' := by
  obtain ⟨p, c0, c1, c2, c3, c4, c5, c6, cf, _⟩ := h.cells
  have HX := Lib.hid h
  by_cases h1 : k ≤ x.now
  · rw [setP_past h1]
    clear h c1 c2 c3 c4 c5 c6 cf
    go_enter Try.func22, Try.ntmps22
    go_wp2_with fail
    go_returns
    exact ⟨rfl, HX.out, Touch.refl _ _⟩
  · by_cases h2 : 4096 ≤ x.ts.length
    · rw [setP_many h1 h2]
      have hd : decide (k ≤ x.now) = false := by simpa using h1
      have hd2 : decide ((4096 : Int) ≤ (x.ts.length : Int)) = true := by simp; omega
      clear h c1 c2 c3 c4 c5 c6 cf
      go_enter Try.func22, Try.ntmps22
      go_wp2_with fail
      refine (lenJ HX.out).mono ?_
      rintro e w1 ⟨rfl, rfl⟩
      go_wp2_with fail
      go_returns
      exact ⟨rfl, HX.out, Touch.refl _ _⟩
    · rw [setP_ok h1 h2]
      have hd : decide (k ≤ x.now) = false := by simpa using h1
      have hd2 : decide ((4096 : Int) ≤ (x.ts.length : Int)) = false := by simp; omega
      have f1 : w.frozen? ⟨a, 1, none⟩ = false := by obtain ⟨p', y, _⟩ := h.lay; exact frozenB y
      have hw : IntKind.i64.wrap (x.ids + 1) = x.ids + 1 := IntWalk.i64_in _ (by have := h.good.ids0; omega)
      have HS := Lib.hid (h.ids hi)
      have HP := Lib.hid (show x.now ≤ k ∧ k ≤ maxI ∧ x.ts.length < 4096 ∧ x.pls < 400000 ∧ 0 ≤ x.ids from ⟨by omega, hk, by omega, hp, h.good.ids0⟩)
      have HF := Lib.hid (fun t (ht : t ∈ x.ts) => (show t.id ≠ x.ids by have := (h.good.per t ht).2.2.2.1; omega))
      clear h c2 c3 c4 c5 c6 cf h1 h2 hi hp hk
      go_enter Try.func22, Try.ntmps22
      go_wp2_with fail
      refine (lenJ HX.out).mono ?_
      rintro e w1 ⟨rfl, rfl⟩
      go_wp2_with fail
      have T1 := Lib.hid (touch_set w a 1 (.int .i64 (x.ids + 1)) (OwnW a mb) (.inl rfl))
      generalize (w.setCell ⟨a, 1, none⟩ (.int .i64 (x.ids + 1))) = W1 at *
      refine (layJ (id := x.ids) (at' := k) HS.out s HF.out HP.out.2.2.2.2 (by simp only; omega) HP.out.1 HP.out.2.1 HP.out.2.2.1 HP.out.2.2.2.1).mono ?_
      rintro e w2 ⟨rfl, h2, t2⟩
      have H2 := Lib.hid h2
      have T2 := Lib.hid t2
      clear h2 t2
      go_wp2_with fail
      go_returns
      exact ⟨rfl, H2.out, T1.out.trans T2.out⟩
end Go.Proofs.Ytbgnedeeeaapfaa
