/-
  The law's long: are there too many acts.
-/
import Derived.Test.YtmbaedldikobcaaKArgA
import Derived.Test.YtmbaedldikobcaaKBuilt
namespace Go.Proofs.Ytmbaedldikobcaa
open Go.RowKit
set_option linter.unusedVariables false

/-- Not too many: whether long is told hangs on the bytes alone. -/
theorem long_any {w : World} {v : Value} {l : List KAct} (h : Row w 3 v l.length (kacs l)) (hl : l.length ≤ 80) :
    Calls Try.prog 14 #[v] w fun e w' => (e = .returned (.bool true) ∨ e = .returned (.bool false)) ∧ w = w' := by
  obtain ⟨aa, ca, rfl, xa⟩ := h.at2
  have XA := Lib.hid xa
  clear h xa
  go_enter Try.func14, Try.ntmps14
  go_wp2_with fail
  go_loop [4, 3] (fun u n => ∃ (k : Nat) (acc : Int), u = .int .i64 (k : Int) ∧ n = .int .i64 acc ∧ k ≤ l.length) (fun u _ => 82 - (intOf u).toNat)
  case atStart => exact ⟨0, 0, rfl, rfl, by omega⟩
  case round =>
    obtain ⟨k, acc, rfl, rfl, hk⟩ := hrel
    by_cases hlt : k < l.length
    · obtain ⟨b1, o1, rfl, q1⟩ := XA.out (by omega)
      have c1 := q1 _ _ (kacs_at l k hlt).2.1
      rw [← Nat.add_assoc] at c1
      clear q1 XA
      generalize (l[k]).2.1 = x at *
      have hk0 : (0 : Int) ≤ (k : Int) := by omega
      have hk1 : (k : Int) < (l.length : Int) := by omega
      have hk2 : (k : Int) ≤ 80 := by omega
      go_wp2_with fail
      go_round
      case rel => exact ⟨k + 1, _, by go_num, rfl, by omega⟩
      case measure => simp [intOf]; omega
    · obtain rfl : k = l.length := by omega
      clear hlt XA
      by_cases hacc : 4000 < acc
      · go_wp2_with fail
        go_returns
        exact ⟨.inl rfl, rfl⟩
      · have hacc' : decide (4000 < acc) = false := by simpa using hacc
        have h80 : decide ((80 : Int) < (l.length : Int)) = false := by simp; omega
        clear hacc
        go_wp2_with fail
        go_returns
        exact ⟨.inr rfl, rfl⟩
theorem long_long {w : World} {v : Value} {l : List KAct} (h : Row w 3 v l.length (kacs l)) (hm : l.length ≤ maxLen) (hl : 80 < l.length) :
    Calls Try.prog 14 #[v] w fun e w' => e = .returned (.bool true) ∧ w = w' := by
  obtain ⟨aa, ca, rfl, xa⟩ := h.at2
  have XA := Lib.hid xa
  unfold maxLen at hm
  clear h xa
  go_enter Try.func14, Try.ntmps14
  go_wp2_with fail
  go_loop [4, 3] (fun u n => ∃ (k : Nat) (acc : Int), u = .int .i64 (k : Int) ∧ n = .int .i64 acc ∧ k ≤ 81) (fun u _ => 82 - (intOf u).toNat)
  case atStart => exact ⟨0, 0, rfl, rfl, by omega⟩
  case round =>
    obtain ⟨k, acc, rfl, rfl, hk⟩ := hrel
    by_cases hlt : k ≤ 80
    · obtain ⟨b1, o1, rfl, q1⟩ := XA.out (by omega)
      have c1 := q1 _ _ (kacs_at l k (by omega)).2.1
      rw [← Nat.add_assoc] at c1
      clear q1 XA
      generalize (l[k]'(by omega)).2.1 = x at *
      have hk0 : (0 : Int) ≤ (k : Int) := by omega
      have hk1 : (k : Int) < (l.length : Int) := by omega
      have hk2 : (k : Int) ≤ 80 := by omega
      go_wp2_with fail
      go_round
      case rel => exact ⟨k + 1, _, by go_num, rfl, by omega⟩
      case measure => simp [intOf]; omega
    · obtain rfl : k = 81 := by omega
      clear hlt XA
      by_cases h82 : 81 < l.length
      · have h82' : (81 : Int) < (l.length : Int) := by omega
        go_wp2_with fail
        go_returns
        exact ⟨rfl, rfl⟩
      · have h83 : l.length = 81 := by omega
        go_wp2_with fail
        go_returns
        exact ⟨rfl, rfl⟩

end Go.Proofs.Ytmbaedldikobcaa
