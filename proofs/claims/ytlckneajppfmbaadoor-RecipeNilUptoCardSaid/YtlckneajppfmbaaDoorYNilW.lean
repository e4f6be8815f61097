/-
  No pool, no knowledge: the walk of RecipeNil.
-/
import Derived.Test.YtlckneajppfmbaaDoorYLivW
namespace Go.Proofs.YtlckneajppfmbaaDoor
open Go.RowKit Go.Maps
set_option linter.unusedVariables false

set_option maxRecDepth 100000 in
set_option maxHeartbeats 1600000 in
theorem long_any {w : World} {vl : Value} {l : List OpP} (hr : Row w 5 vl l.length (opsV l)) : Calls Tryd.prog 21 #[vl] w fun e w' => (∃ q, e = .returned (.bool q) ∧ (q = false → l.length ≤ 300)) ∧ w = w' := by
  obtain ⟨la, lc, rfl, hx⟩ := hr.at2
  have hll := hr.small
  unfold maxLen at hll
  have HX := Lib.hid hx
  clear hr hx
  go_enter Tryd.func21, Tryd.ntmps21
  go_wp2_with fail
  go_loopw [3, 4] (fun v3 v4 wr => ∃ (i : Nat) (nn : Int), v3 = .int .i64 nn ∧ v4 = .int .i64 (i : Int) ∧ i ≤ l.length ∧ i ≤ 301 ∧ w = wr) (fun _ v _ => l.length - (intOf v).toNat)
  case atStart => exact ⟨0, 0, rfl, rfl, Nat.zero_le _, by omega, rfl⟩
  case round =>
    obtain ⟨i, nn, rfl, rfl, hi, h301, rfl⟩ := hrel
    have hi0 : (0 : Int) ≤ (i : Int) := by omega
    by_cases hlt : i < l.length
    · by_cases h300 : i ≤ 300
      · obtain ⟨lb, lo, rfl, qq⟩ := HX.out (by omega)
        have c4 := qq _ _ (opsV_at l i hlt).2.2.2.2
        simp only [← Nat.add_assoc] at c4
        have hi1 : (i : Int) < (l.length : Int) := by omega
        have hi2 : (i : Int) ≤ 300 := by omega
        generalize (l[i]).text = tx at *
        clear qq
        go_wp2_with fail
        go_roundw
        case rel => exact ⟨i + 1, _, rfl, by go_num, by omega, by omega, by trivial⟩
        case measure => simp [intOf]; omega
      · have hi2 : decide ((i : Int) ≤ 300) = false := decide_eq_false (by omega)
        have hc : decide ((300 : Int) < (l.length : Int)) = true := decide_eq_true (by omega)
        go_wp2_with fail
        go_returns
        exact ⟨⟨true, rfl, fun h => by cases h⟩, rfl⟩
    · obtain rfl : i = l.length := by omega
      by_cases hc : 300 < l.length
      · have hc' : decide ((300 : Int) < (l.length : Int)) = true := decide_eq_true (by omega)
        go_wp2_with fail
        go_returns
        exact ⟨⟨true, rfl, fun h => by cases h⟩, rfl⟩
      · have hc' : decide ((300 : Int) < (l.length : Int)) = false := decide_eq_false (by omega)
        cases hn : decide ((20000 : Int) < nn)
        all_goals
          go_wp2_with fail
          go_returns
          exact ⟨⟨_, rfl, fun _ => by omega⟩, rfl⟩
abbrev PKnowT : TypeId := 53
theorem nil_der9 (t : Int) (w : World) : Calls Tryd.prog 25 #[.pointer none, .int .i64 t] w fun e w' => e = .returned (.bool false) ∧ w = w' := by
  go_enter Tryd.func25, Tryd.ntmps25
  go_wp2_with fail
  go_returns
  exact ⟨rfl, rfl⟩
theorem nil_proof9 (t : Int) (w : World) : Calls Tryd.prog 28 #[.pointer none, .int .i64 t] w fun e w' => e = .returned (.tuple #[.slice none 0 0, .bool false]) ∧ Below w.heap.size w w' := by
  have b1 := bA0 w (.cells #[.pointer none] PKnowT)
  have x1 := cellB (j := 0) (heap_alloc_new w (.cells #[.pointer none] PKnowT)) rfl
  have HB := Lib.hid b1
  clear b1
  go_enter Tryd.func28, Tryd.ntmps28
  go_wp2_with fail
  refine (nil_der9 _ _).mono ?_
  rintro e w1 ⟨rfl, rfl⟩
  go_wp2_with fail
  go_returns
  exact ⟨rfl, HB.out⟩
theorem for_nil (x : Addr) (t : Int) (w : World) : Calls Tryd.prog 29 #[.pointer (some x), .pointer none, .int .i64 t] w fun e w' => e = .returned (.tuple #[.slice none 0 0, .bool false]) ∧ Below w.heap.size w w' := by
  go_enter Tryd.func29, Tryd.ntmps29
  go_wp2_with fail
  refine (nil_proof9 _ _).mono ?_
  rintro e w1 ⟨rfl, u1⟩
  have U1 := Lib.hid u1
  clear u1
  go_wp2_with fail
  go_returns
  exact ⟨rfl, U1.out⟩
set_option maxRecDepth 100000 in
set_option maxHeartbeats 6400000 in
theorem rnil_walk {w : World} (hl : Laid w) {vl : Value} {l : List OpP} (hr : Row w 5 vl l.length (opsV l)) {t : Int} (ht : i64R t) : Calls Tryd.prog 7 #[vl, .int .i64 t] w fun e w' => e = .returned (.bool true) ∧ Below w.heap.size w w' := by
  have HL := Lib.hid hl
  have LG := Lib.hid (long_any hr)
  clear hl hr ht
  go_enter Tryd.func7, Tryd.ntmps7
  go_wp2_with fail
  refine LG.out.mono ?_
  rintro e w1 ⟨⟨q, rfl, _⟩, rfl⟩
  clear LG
  cases q with
  | true =>
    go_wp2_with fail
    refine (live9_any HL.out).mono ?_
    rintro e w2 ⟨rfl, u2⟩
    have U2 := Lib.hid u2
    clear u2
    go_wp2_with fail
    go_returns
    exact ⟨rfl, U2.out⟩
  | false =>
    go_wp2_with fail
    refine (pnew w).mono ?_
    rintro e w2 ⟨rfl, p2, u2⟩
    have U2 := Lib.hid u2
    clear u2 p2
    generalize w.heap.size + 1 = pa at *
    go_wp2_with fail
    refine (eval_nil none vl _).mono ?_
    rintro e w3 ⟨rfl, rfl⟩
    go_wp2_with fail
    refine (eval_nil (some _) vl _).mono ?_
    rintro e w3 ⟨rfl, rfl⟩
    go_wp2_with fail
    refine (for_nil _ t _).mono ?_
    rintro e w3 ⟨rfl, u3⟩
    have U3 := Lib.hid (bmore U2.out u3)
    clear u3
    have LV := Lib.hid (live9_any (HL.out.below U3.out))
    go_wp2_with fail
    refine (num9_any 2 _).mono ?_
    rintro e w4 ⟨rfl, rfl⟩
    go_wp2_with fail
    refine (num9_any 2 _).mono ?_
    rintro e w4 ⟨rfl, rfl⟩
    go_wp2_with fail
    refine (trace_nil (some _) vl _).mono ?_
    rintro e w4 ⟨rfl, rfl⟩
    go_wp2_with fail
    refine LV.out.mono ?_
    rintro e w5 ⟨rfl, u5⟩
    have U5 := Lib.hid (bmore U3.out u5)
    clear u5
    go_wp2_with fail
    go_returns
    exact ⟨rfl, U5.out⟩
end Go.Proofs.YtlckneajppfmbaaDoor
