/-
  The table of the kinds' fields; what a node by itself is refused with: the program's own.
-/
import Derived.Test.YtjpkeoenajlmeaaDoorTArgN
namespace Go.Proofs.YtjpkeoenajlmeaaDoor
open Go.RowKit
set_option linter.unusedVariables false

abbrev ShT : TypeId := 147
abbrev NodeT : TypeId := 85
def nodeA (n : Nd) : Array Value := #[.int .i64 n.kind, .int .i64 n.frm, .int .i64 n.to, .int .u64 n.num, .string n.text, .int .i64 n.a, .int .i64 n.b]

/-- The table of the kinds' fields reads as it is laid. -/
def Laid (w : World) : Prop := ∀ k : Nat, k < 10 → w.cell? ⟨0, k * 5, none⟩ = some (.bool (namedB (k : Int))) ∧ w.cell? ⟨0, k * 5 + 1, none⟩ = some (.bool (twoB (k : Int))) ∧
  w.cell? ⟨0, k * 5 + 2, none⟩ = some (.bool ((k : Int) == 2)) ∧ w.cell? ⟨0, k * 5 + 3, none⟩ = some (.bool ((k : Int) == 3)) ∧ w.cell? ⟨0, k * 5 + 4, none⟩ = some (.int .i64 (kidsN (k : Int) : Int))
theorem Laid.below {w w' : World} (h : Laid w) (hb : Below w.heap.size w w') : Laid w' := fun k hk => by
  obtain ⟨a, b, c, d, e⟩ := h k hk
  exact ⟨bcellAt hb a, bcellAt hb b, bcellAt hb c, bcellAt hb d, bcellAt hb e⟩

/-- The fields of a kind. -/
def shV (k : Int) : Value := .agg #[.bool (namedB k), .bool (twoB k), .bool (k == 2), .bool (k == 3), .int .i64 (kidsN k : Int)]
theorem shV_out {k : Int} (h : k < 1 ∨ 9 < k) : shV k = .agg #[.bool false, .bool false, .bool false, .bool false, .int .i64 0] := by
  have e (j : Int) (hj : 1 ≤ j ∧ j ≤ 9) : (k == j) = false := by simp; omega
  unfold shV namedB twoB
  rw [e 1 (by omega), e 2 (by omega), e 3 (by omega), e 6 (by omega), e 7 (by omega), e 8 (by omega), e 9 (by omega)]
  have hk : kidsN k = 0 := by unfold kidsN; rw [if_neg (by omega), if_neg (by omega)]
  rw [hk]; rfl

set_option maxRecDepth 100000 in
set_option maxHeartbeats 1600000 in
theorem shapeOf_any {w : World} (h : Laid w) (k : Int) :
    Calls Tryd.prog 76 #[.int .i64 k] w fun e w' => e = .returned (shV k) ∧ Below w.heap.size w w' := by
  by_cases h0 : k < 0
  · rw [shV_out (by omega)]
    go_enter Tryd.func76, Tryd.ntmps76
    go_wp2_with fail
    refine bodyPost_ret (v := .agg #[.bool false, .bool false, .bool false, .bool false, .int .i64 0]) (by simp [results, Tryd.results76, go_sem]) rfl ⟨rfl, ?_⟩
    exact (Below.refl _ _).alloc (Nat.le_refl _) _
  · by_cases h1 : 10 ≤ k
    · rw [shV_out (by omega)]
      go_enter Tryd.func76, Tryd.ntmps76
      go_wp2_with fail
      refine bodyPost_ret (v := .agg #[.bool false, .bool false, .bool false, .bool false, .int .i64 0]) (by simp [results, Tryd.results76, go_sem]) rfl ⟨rfl, ?_⟩
      exact (Below.refl _ _).alloc (Nat.le_refl _) _
    · obtain ⟨n, rfl⟩ := Int.eq_ofNat_of_zero_le (by omega : 0 ≤ k)
      have hn : n < 10 := by omega
      obtain ⟨c0, c1, c2, c3, c4⟩ := h n hn
      have hn0 : (0 : Int) ≤ (n : Int) := by omega
      have hn1 : (n : Int) < 10 := by omega
      unfold shV
      generalize namedB (n : Int) = x0 at *
      generalize twoB (n : Int) = x1 at *
      generalize ((n : Int) == 2) = x2 at *
      generalize ((n : Int) == 3) = x3 at *
      generalize (kidsN (n : Int) : Int) = x4 at *
      have bA : Below w.heap.size w (w.alloc (.cells #[.bool false, .bool false, .bool false, .bool false, .int .i64 0] ShT)) := (Below.refl _ _).alloc (Nat.le_refl _) _
      clear h h0 h1
      replace c0 := bcellAt bA c0
      replace c1 := bcellAt bA c1
      replace c2 := bcellAt bA c2
      replace c3 := bcellAt bA c3
      replace c4 := bcellAt bA c4
      clear bA
      go_enter Tryd.func76, Tryd.ntmps76
      go_wp2_with fail
      refine bodyPost_ret (v := .agg #[.bool x0, .bool x1, .bool x2, .bool x3, .int .i64 x4]) (by simp [results, Tryd.results76, go_sem]) rfl ⟨rfl, ?_⟩
      exact (Below.refl _ _).alloc (Nat.le_refl _) _

set_option maxHeartbeats 800000 in
theorem isName_any (n : Int) (w : World) : Calls Tryd.prog 111 #[.int .i64 n] w fun e w' => e = .returned (.bool (nameB n)) ∧ w = w' := by
  unfold nameB
  by_cases h0 : 0 ≤ n
  · by_cases h1 : n < 16
    · rw [decide_eq_true h0, decide_eq_true h1]
      go_enter Tryd.func111, Tryd.ntmps111
      go_wp2_with fail
      go_returns
      exact ⟨rfl, rfl⟩
    · rw [decide_eq_true h0, decide_eq_false h1]
      have h1' : decide (n < 16) = false := decide_eq_false h1
      go_enter Tryd.func111, Tryd.ntmps111
      go_wp2_with fail
      go_returns
      exact ⟨rfl, rfl⟩
  · rw [decide_eq_false h0]
    have h0' : decide (0 ≤ n) = false := decide_eq_false h0
    go_enter Tryd.func111, Tryd.ntmps111
    go_wp2_with fail
    go_returns
    exact ⟨rfl, rfl⟩
end Go.Proofs.YtjpkeoenajlmeaaDoor
