/-
  Which fields a node has beside those of its kind; what a node by itself is refused with: the program's own lacks and wrong.
-/
import Derived.Test.YtjmcaceegfdkkaaGreatDoorQcTKey
namespace Go.Proofs.YtjmcaceegfdkkaaGreatDoor
open Go.RowKit
set_option linter.unusedVariables false
def lackB (n : Nd) : Bool := (!namedB n.kind && n.frm != 0) || (!twoB n.kind && n.to != 0) || (!(n.kind == 2) && n.num != 0) || (!(n.kind == 3) && !n.text.toList.isEmpty) || (decide (kidsN n.kind < 1) && n.a != 0) || (decide (kidsN n.kind < 2) && n.b != 0)
theorem plain_lack {n : Nd} (h : 1 ≤ n.kind ∧ n.kind ≤ 9) : plainB n = !lackB n := by
 have hk := kids_cases n.kind
 unfold plainB lackB
 rw [decide_eq_true h.1, decide_eq_true h.2]
 have e1 : decide (1 ≤ kidsN n.kind) = !decide (kidsN n.kind < 1) := by rcases hk with e | e | e <;> rw [e] <;> rfl
 have e2 : (kidsN n.kind == 2) = !decide (kidsN n.kind < 2) := by rcases hk with e | e | e <;> rw [e] <;> rfl
 rw [e1, e2]
 simp only [bne, Bool.true_and]
 cases namedB n.kind <;> cases twoB n.kind <;> cases n.kind == 2 <;> cases n.kind == 3 <;> cases decide (kidsN n.kind < 1) <;> cases decide (kidsN n.kind < 2) <;> cases n.frm == 0 <;> cases n.to == 0 <;> cases n.num == 0 <;> cases n.text.toList.isEmpty <;> cases n.a == 0 <;> cases n.b == 0 <;> rfl
theorem plain_out {n : Nd} (h : n.kind < 1 ∨ 9 < n.kind) : plainB n = false := by
 unfold plainB
 rcases h with h | h
 ·rw [decide_eq_false (by omega)]; rfl
 ·rw [decide_eq_false (show ¬ n.kind ≤ 9 by omega), Bool.and_false]; rfl
set_option maxHeartbeats 6400000 in
theorem lacks_1 (f t u : Int) (x : ByteArray) (a b : Int) (w : World) :
  Calls Tryz.prog 207 #[.agg #[.bool true, .bool false, .bool false, .bool false, .int .i64 0], .agg #[.int .i64 1, .int .i64 f, .int .i64 t, .int .u64 u, .string x, .int .i64 a, .int .i64 b]] w fun e w' => e = .returned (.bool (lackB ⟨1, f, t, u, x, a, b⟩)) ∧ Below w.heap.size w w' := by
 cases ht : (t == 0)
 ·have ht' : (t != 0) = true := by rw [bne, ht]; rfl
  have e : lackB ⟨1, f, t, u, x, a, b⟩ = true := by simp only [lackB, namedB, twoB, kidsN]; simp [*]
  rw [e]
  clear e
  go_enter Tryz.func207, Tryz.ntmps207
  go_wp2_with fail
  go_returns
  exact ⟨rfl, ((Below.refl _ _).alloc (Nat.le_refl _) _).alloc (by simp) _⟩
 have ht' : (t != 0) = false := by rw [bne, ht]; rfl
 cases hu : (u == 0)
 ·have hu' : (u != 0) = true := by rw [bne, hu]; rfl
  have e : lackB ⟨1, f, t, u, x, a, b⟩ = true := by simp only [lackB, namedB, twoB, kidsN]; simp [*]
  rw [e]
  clear e
  go_enter Tryz.func207, Tryz.ntmps207
  go_wp2_with fail
  go_returns
  exact ⟨rfl, ((Below.refl _ _).alloc (Nat.le_refl _) _).alloc (by simp) _⟩
 have hu' : (u != 0) = false := by rw [bne, hu]; rfl
 cases hx : x.toList.isEmpty
 ·have hx' : (!x.toList.isEmpty) = true := by rw [hx]; rfl
  have e : lackB ⟨1, f, t, u, x, a, b⟩ = true := by simp only [lackB, namedB, twoB, kidsN]; simp [*]
  rw [e]
  clear e
  go_enter Tryz.func207, Tryz.ntmps207
  go_wp2_with fail
  go_returns
  exact ⟨rfl, ((Below.refl _ _).alloc (Nat.le_refl _) _).alloc (by simp) _⟩
 have hx' : (!x.toList.isEmpty) = false := by rw [hx]; rfl
 cases ha : (a == 0)
 ·have ha' : (a != 0) = true := by rw [bne, ha]; rfl
  have e : lackB ⟨1, f, t, u, x, a, b⟩ = true := by simp only [lackB, namedB, twoB, kidsN]; simp [*]
  rw [e]
  clear e
  go_enter Tryz.func207, Tryz.ntmps207
  go_wp2_with fail
  go_returns
  exact ⟨rfl, ((Below.refl _ _).alloc (Nat.le_refl _) _).alloc (by simp) _⟩
 have ha' : (a != 0) = false := by rw [bne, ha]; rfl
 cases hb : (b == 0)
 ·have hb' : (b != 0) = true := by rw [bne, hb]; rfl
  have e : lackB ⟨1, f, t, u, x, a, b⟩ = true := by simp only [lackB, namedB, twoB, kidsN]; simp [*]
  rw [e]
  clear e
  go_enter Tryz.func207, Tryz.ntmps207
  go_wp2_with fail
  go_returns
  exact ⟨rfl, ((Below.refl _ _).alloc (Nat.le_refl _) _).alloc (by simp) _⟩
 have hb' : (b != 0) = false := by rw [bne, hb]; rfl
 have e : lackB ⟨1, f, t, u, x, a, b⟩ = false := by simp only [lackB, namedB, twoB, kidsN]; simp [*]
 rw [e]
 clear e
 go_enter Tryz.func207, Tryz.ntmps207
 go_wp2_with fail
 go_returns
 exact ⟨rfl, ((Below.refl _ _).alloc (Nat.le_refl _) _).alloc (by simp) _⟩
set_option maxHeartbeats 6400000 in
theorem lacks_2 (f t u : Int) (x : ByteArray) (a b : Int) (w : World) :
  Calls Tryz.prog 207 #[.agg #[.bool false, .bool false, .bool true, .bool false, .int .i64 0], .agg #[.int .i64 2, .int .i64 f, .int .i64 t, .int .u64 u, .string x, .int .i64 a, .int .i64 b]] w fun e w' => e = .returned (.bool (lackB ⟨2, f, t, u, x, a, b⟩)) ∧ Below w.heap.size w w' := by
 cases hf : (f == 0)
 ·have hf' : (f != 0) = true := by rw [bne, hf]; rfl
  have e : lackB ⟨2, f, t, u, x, a, b⟩ = true := by simp only [lackB, namedB, twoB, kidsN]; simp [*]
  rw [e]
  clear e
  go_enter Tryz.func207, Tryz.ntmps207
  go_wp2_with fail
  go_returns
  exact ⟨rfl, ((Below.refl _ _).alloc (Nat.le_refl _) _).alloc (by simp) _⟩
 have hf' : (f != 0) = false := by rw [bne, hf]; rfl
 cases ht : (t == 0)
 ·have ht' : (t != 0) = true := by rw [bne, ht]; rfl
  have e : lackB ⟨2, f, t, u, x, a, b⟩ = true := by simp only [lackB, namedB, twoB, kidsN]; simp [*]
  rw [e]
  clear e
  go_enter Tryz.func207, Tryz.ntmps207
  go_wp2_with fail
  go_returns
  exact ⟨rfl, ((Below.refl _ _).alloc (Nat.le_refl _) _).alloc (by simp) _⟩
 have ht' : (t != 0) = false := by rw [bne, ht]; rfl
 cases hx : x.toList.isEmpty
 ·have hx' : (!x.toList.isEmpty) = true := by rw [hx]; rfl
  have e : lackB ⟨2, f, t, u, x, a, b⟩ = true := by simp only [lackB, namedB, twoB, kidsN]; simp [*]
  rw [e]
  clear e
  go_enter Tryz.func207, Tryz.ntmps207
  go_wp2_with fail
  go_returns
  exact ⟨rfl, ((Below.refl _ _).alloc (Nat.le_refl _) _).alloc (by simp) _⟩
 have hx' : (!x.toList.isEmpty) = false := by rw [hx]; rfl
 cases ha : (a == 0)
 ·have ha' : (a != 0) = true := by rw [bne, ha]; rfl
  have e : lackB ⟨2, f, t, u, x, a, b⟩ = true := by simp only [lackB, namedB, twoB, kidsN]; simp [*]
  rw [e]
  clear e
  go_enter Tryz.func207, Tryz.ntmps207
  go_wp2_with fail
  go_returns
  exact ⟨rfl, ((Below.refl _ _).alloc (Nat.le_refl _) _).alloc (by simp) _⟩
 have ha' : (a != 0) = false := by rw [bne, ha]; rfl
 cases hb : (b == 0)
 ·have hb' : (b != 0) = true := by rw [bne, hb]; rfl
  have e : lackB ⟨2, f, t, u, x, a, b⟩ = true := by simp only [lackB, namedB, twoB, kidsN]; simp [*]
  rw [e]
  clear e
  go_enter Tryz.func207, Tryz.ntmps207
  go_wp2_with fail
  go_returns
  exact ⟨rfl, ((Below.refl _ _).alloc (Nat.le_refl _) _).alloc (by simp) _⟩
 have hb' : (b != 0) = false := by rw [bne, hb]; rfl
 have e : lackB ⟨2, f, t, u, x, a, b⟩ = false := by simp only [lackB, namedB, twoB, kidsN]; simp [*]
 rw [e]
 clear e
 go_enter Tryz.func207, Tryz.ntmps207
 go_wp2_with fail
 go_returns
 exact ⟨rfl, ((Below.refl _ _).alloc (Nat.le_refl _) _).alloc (by simp) _⟩
set_option maxHeartbeats 6400000 in
theorem lacks_3 (f t u : Int) (x : ByteArray) (a b : Int) (w : World) :
  Calls Tryz.prog 207 #[.agg #[.bool false, .bool false, .bool false, .bool true, .int .i64 0], .agg #[.int .i64 3, .int .i64 f, .int .i64 t, .int .u64 u, .string x, .int .i64 a, .int .i64 b]] w fun e w' => e = .returned (.bool (lackB ⟨3, f, t, u, x, a, b⟩)) ∧ Below w.heap.size w w' := by
 cases hf : (f == 0)
 ·have hf' : (f != 0) = true := by rw [bne, hf]; rfl
  have e : lackB ⟨3, f, t, u, x, a, b⟩ = true := by simp only [lackB, namedB, twoB, kidsN]; simp [*]
  rw [e]
  clear e
  go_enter Tryz.func207, Tryz.ntmps207
  go_wp2_with fail
  go_returns
  exact ⟨rfl, ((Below.refl _ _).alloc (Nat.le_refl _) _).alloc (by simp) _⟩
 have hf' : (f != 0) = false := by rw [bne, hf]; rfl
 cases ht : (t == 0)
 ·have ht' : (t != 0) = true := by rw [bne, ht]; rfl
  have e : lackB ⟨3, f, t, u, x, a, b⟩ = true := by simp only [lackB, namedB, twoB, kidsN]; simp [*]
  rw [e]
  clear e
  go_enter Tryz.func207, Tryz.ntmps207
  go_wp2_with fail
  go_returns
  exact ⟨rfl, ((Below.refl _ _).alloc (Nat.le_refl _) _).alloc (by simp) _⟩
 have ht' : (t != 0) = false := by rw [bne, ht]; rfl
 cases hu : (u == 0)
 ·have hu' : (u != 0) = true := by rw [bne, hu]; rfl
  have e : lackB ⟨3, f, t, u, x, a, b⟩ = true := by simp only [lackB, namedB, twoB, kidsN]; simp [*]
  rw [e]
  clear e
  go_enter Tryz.func207, Tryz.ntmps207
  go_wp2_with fail
  go_returns
  exact ⟨rfl, ((Below.refl _ _).alloc (Nat.le_refl _) _).alloc (by simp) _⟩
 have hu' : (u != 0) = false := by rw [bne, hu]; rfl
 cases ha : (a == 0)
 ·have ha' : (a != 0) = true := by rw [bne, ha]; rfl
  have e : lackB ⟨3, f, t, u, x, a, b⟩ = true := by simp only [lackB, namedB, twoB, kidsN]; simp [*]
  rw [e]
  clear e
  go_enter Tryz.func207, Tryz.ntmps207
  go_wp2_with fail
  go_returns
  exact ⟨rfl, ((Below.refl _ _).alloc (Nat.le_refl _) _).alloc (by simp) _⟩
 have ha' : (a != 0) = false := by rw [bne, ha]; rfl
 cases hb : (b == 0)
 ·have hb' : (b != 0) = true := by rw [bne, hb]; rfl
  have e : lackB ⟨3, f, t, u, x, a, b⟩ = true := by simp only [lackB, namedB, twoB, kidsN]; simp [*]
  rw [e]
  clear e
  go_enter Tryz.func207, Tryz.ntmps207
  go_wp2_with fail
  go_returns
  exact ⟨rfl, ((Below.refl _ _).alloc (Nat.le_refl _) _).alloc (by simp) _⟩
 have hb' : (b != 0) = false := by rw [bne, hb]; rfl
 have e : lackB ⟨3, f, t, u, x, a, b⟩ = false := by simp only [lackB, namedB, twoB, kidsN]; simp [*]
 rw [e]
 clear e
 go_enter Tryz.func207, Tryz.ntmps207
 go_wp2_with fail
 go_returns
 exact ⟨rfl, ((Below.refl _ _).alloc (Nat.le_refl _) _).alloc (by simp) _⟩
set_option maxHeartbeats 6400000 in
theorem lacks_4 (f t u : Int) (x : ByteArray) (a b : Int) (w : World) :
  Calls Tryz.prog 207 #[.agg #[.bool false, .bool false, .bool false, .bool false, .int .i64 2], .agg #[.int .i64 4, .int .i64 f, .int .i64 t, .int .u64 u, .string x, .int .i64 a, .int .i64 b]] w fun e w' => e = .returned (.bool (lackB ⟨4, f, t, u, x, a, b⟩)) ∧ Below w.heap.size w w' := by
 cases hf : (f == 0)
 ·have hf' : (f != 0) = true := by rw [bne, hf]; rfl
  have e : lackB ⟨4, f, t, u, x, a, b⟩ = true := by simp only [lackB, namedB, twoB, kidsN]; simp [*]
  rw [e]
  clear e
  go_enter Tryz.func207, Tryz.ntmps207
  go_wp2_with fail
  go_returns
  exact ⟨rfl, ((Below.refl _ _).alloc (Nat.le_refl _) _).alloc (by simp) _⟩
 have hf' : (f != 0) = false := by rw [bne, hf]; rfl
 cases ht : (t == 0)
 ·have ht' : (t != 0) = true := by rw [bne, ht]; rfl
  have e : lackB ⟨4, f, t, u, x, a, b⟩ = true := by simp only [lackB, namedB, twoB, kidsN]; simp [*]
  rw [e]
  clear e
  go_enter Tryz.func207, Tryz.ntmps207
  go_wp2_with fail
  go_returns
  exact ⟨rfl, ((Below.refl _ _).alloc (Nat.le_refl _) _).alloc (by simp) _⟩
 have ht' : (t != 0) = false := by rw [bne, ht]; rfl
 cases hu : (u == 0)
 ·have hu' : (u != 0) = true := by rw [bne, hu]; rfl
  have e : lackB ⟨4, f, t, u, x, a, b⟩ = true := by simp only [lackB, namedB, twoB, kidsN]; simp [*]
  rw [e]
  clear e
  go_enter Tryz.func207, Tryz.ntmps207
  go_wp2_with fail
  go_returns
  exact ⟨rfl, ((Below.refl _ _).alloc (Nat.le_refl _) _).alloc (by simp) _⟩
 have hu' : (u != 0) = false := by rw [bne, hu]; rfl
 cases hx : x.toList.isEmpty
 ·have hx' : (!x.toList.isEmpty) = true := by rw [hx]; rfl
  have e : lackB ⟨4, f, t, u, x, a, b⟩ = true := by simp only [lackB, namedB, twoB, kidsN]; simp [*]
  rw [e]
  clear e
  go_enter Tryz.func207, Tryz.ntmps207
  go_wp2_with fail
  go_returns
  exact ⟨rfl, ((Below.refl _ _).alloc (Nat.le_refl _) _).alloc (by simp) _⟩
 have hx' : (!x.toList.isEmpty) = false := by rw [hx]; rfl
 have e : lackB ⟨4, f, t, u, x, a, b⟩ = false := by simp only [lackB, namedB, twoB, kidsN]; simp [*]
 rw [e]
 clear e
 go_enter Tryz.func207, Tryz.ntmps207
 go_wp2_with fail
 go_returns
 exact ⟨rfl, ((Below.refl _ _).alloc (Nat.le_refl _) _).alloc (by simp) _⟩
set_option maxHeartbeats 6400000 in
theorem lacks_5 (f t u : Int) (x : ByteArray) (a b : Int) (w : World) :
  Calls Tryz.prog 207 #[.agg #[.bool false, .bool false, .bool false, .bool false, .int .i64 1], .agg #[.int .i64 5, .int .i64 f, .int .i64 t, .int .u64 u, .string x, .int .i64 a, .int .i64 b]] w fun e w' => e = .returned (.bool (lackB ⟨5, f, t, u, x, a, b⟩)) ∧ Below w.heap.size w w' := by
 cases hf : (f == 0)
 ·have hf' : (f != 0) = true := by rw [bne, hf]; rfl
  have e : lackB ⟨5, f, t, u, x, a, b⟩ = true := by simp only [lackB, namedB, twoB, kidsN]; simp [*]
  rw [e]
  clear e
  go_enter Tryz.func207, Tryz.ntmps207
  go_wp2_with fail
  go_returns
  exact ⟨rfl, ((Below.refl _ _).alloc (Nat.le_refl _) _).alloc (by simp) _⟩
 have hf' : (f != 0) = false := by rw [bne, hf]; rfl
 cases ht : (t == 0)
 ·have ht' : (t != 0) = true := by rw [bne, ht]; rfl
  have e : lackB ⟨5, f, t, u, x, a, b⟩ = true := by simp only [lackB, namedB, twoB, kidsN]; simp [*]
  rw [e]
  clear e
  go_enter Tryz.func207, Tryz.ntmps207
  go_wp2_with fail
  go_returns
  exact ⟨rfl, ((Below.refl _ _).alloc (Nat.le_refl _) _).alloc (by simp) _⟩
 have ht' : (t != 0) = false := by rw [bne, ht]; rfl
 cases hu : (u == 0)
 ·have hu' : (u != 0) = true := by rw [bne, hu]; rfl
  have e : lackB ⟨5, f, t, u, x, a, b⟩ = true := by simp only [lackB, namedB, twoB, kidsN]; simp [*]
  rw [e]
  clear e
  go_enter Tryz.func207, Tryz.ntmps207
  go_wp2_with fail
  go_returns
  exact ⟨rfl, ((Below.refl _ _).alloc (Nat.le_refl _) _).alloc (by simp) _⟩
 have hu' : (u != 0) = false := by rw [bne, hu]; rfl
 cases hx : x.toList.isEmpty
 ·have hx' : (!x.toList.isEmpty) = true := by rw [hx]; rfl
  have e : lackB ⟨5, f, t, u, x, a, b⟩ = true := by simp only [lackB, namedB, twoB, kidsN]; simp [*]
  rw [e]
  clear e
  go_enter Tryz.func207, Tryz.ntmps207
  go_wp2_with fail
  go_returns
  exact ⟨rfl, ((Below.refl _ _).alloc (Nat.le_refl _) _).alloc (by simp) _⟩
 have hx' : (!x.toList.isEmpty) = false := by rw [hx]; rfl
 cases hb : (b == 0)
 ·have hb' : (b != 0) = true := by rw [bne, hb]; rfl
  have e : lackB ⟨5, f, t, u, x, a, b⟩ = true := by simp only [lackB, namedB, twoB, kidsN]; simp [*]
  rw [e]
  clear e
  go_enter Tryz.func207, Tryz.ntmps207
  go_wp2_with fail
  go_returns
  exact ⟨rfl, ((Below.refl _ _).alloc (Nat.le_refl _) _).alloc (by simp) _⟩
 have hb' : (b != 0) = false := by rw [bne, hb]; rfl
 have e : lackB ⟨5, f, t, u, x, a, b⟩ = false := by simp only [lackB, namedB, twoB, kidsN]; simp [*]
 rw [e]
 clear e
 go_enter Tryz.func207, Tryz.ntmps207
 go_wp2_with fail
 go_returns
 exact ⟨rfl, ((Below.refl _ _).alloc (Nat.le_refl _) _).alloc (by simp) _⟩
set_option maxHeartbeats 6400000 in
theorem lacks_6 (f t u : Int) (x : ByteArray) (a b : Int) (w : World) :
  Calls Tryz.prog 207 #[.agg #[.bool true, .bool false, .bool false, .bool false, .int .i64 0], .agg #[.int .i64 6, .int .i64 f, .int .i64 t, .int .u64 u, .string x, .int .i64 a, .int .i64 b]] w fun e w' => e = .returned (.bool (lackB ⟨6, f, t, u, x, a, b⟩)) ∧ Below w.heap.size w w' := by
 cases ht : (t == 0)
 ·have ht' : (t != 0) = true := by rw [bne, ht]; rfl
  have e : lackB ⟨6, f, t, u, x, a, b⟩ = true := by simp only [lackB, namedB, twoB, kidsN]; simp [*]
  rw [e]
  clear e
  go_enter Tryz.func207, Tryz.ntmps207
  go_wp2_with fail
  go_returns
  exact ⟨rfl, ((Below.refl _ _).alloc (Nat.le_refl _) _).alloc (by simp) _⟩
 have ht' : (t != 0) = false := by rw [bne, ht]; rfl
 cases hu : (u == 0)
 ·have hu' : (u != 0) = true := by rw [bne, hu]; rfl
  have e : lackB ⟨6, f, t, u, x, a, b⟩ = true := by simp only [lackB, namedB, twoB, kidsN]; simp [*]
  rw [e]
  clear e
  go_enter Tryz.func207, Tryz.ntmps207
  go_wp2_with fail
  go_returns
  exact ⟨rfl, ((Below.refl _ _).alloc (Nat.le_refl _) _).alloc (by simp) _⟩
 have hu' : (u != 0) = false := by rw [bne, hu]; rfl
 cases hx : x.toList.isEmpty
 ·have hx' : (!x.toList.isEmpty) = true := by rw [hx]; rfl
  have e : lackB ⟨6, f, t, u, x, a, b⟩ = true := by simp only [lackB, namedB, twoB, kidsN]; simp [*]
  rw [e]
  clear e
  go_enter Tryz.func207, Tryz.ntmps207
  go_wp2_with fail
  go_returns
  exact ⟨rfl, ((Below.refl _ _).alloc (Nat.le_refl _) _).alloc (by simp) _⟩
 have hx' : (!x.toList.isEmpty) = false := by rw [hx]; rfl
 cases ha : (a == 0)
 ·have ha' : (a != 0) = true := by rw [bne, ha]; rfl
  have e : lackB ⟨6, f, t, u, x, a, b⟩ = true := by simp only [lackB, namedB, twoB, kidsN]; simp [*]
  rw [e]
  clear e
  go_enter Tryz.func207, Tryz.ntmps207
  go_wp2_with fail
  go_returns
  exact ⟨rfl, ((Below.refl _ _).alloc (Nat.le_refl _) _).alloc (by simp) _⟩
 have ha' : (a != 0) = false := by rw [bne, ha]; rfl
 cases hb : (b == 0)
 ·have hb' : (b != 0) = true := by rw [bne, hb]; rfl
  have e : lackB ⟨6, f, t, u, x, a, b⟩ = true := by simp only [lackB, namedB, twoB, kidsN]; simp [*]
  rw [e]
  clear e
  go_enter Tryz.func207, Tryz.ntmps207
  go_wp2_with fail
  go_returns
  exact ⟨rfl, ((Below.refl _ _).alloc (Nat.le_refl _) _).alloc (by simp) _⟩
 have hb' : (b != 0) = false := by rw [bne, hb]; rfl
 have e : lackB ⟨6, f, t, u, x, a, b⟩ = false := by simp only [lackB, namedB, twoB, kidsN]; simp [*]
 rw [e]
 clear e
 go_enter Tryz.func207, Tryz.ntmps207
 go_wp2_with fail
 go_returns
 exact ⟨rfl, ((Below.refl _ _).alloc (Nat.le_refl _) _).alloc (by simp) _⟩
set_option maxHeartbeats 6400000 in
theorem lacks_7 (f t u : Int) (x : ByteArray) (a b : Int) (w : World) :
  Calls Tryz.prog 207 #[.agg #[.bool true, .bool false, .bool false, .bool false, .int .i64 1], .agg #[.int .i64 7, .int .i64 f, .int .i64 t, .int .u64 u, .string x, .int .i64 a, .int .i64 b]] w fun e w' => e = .returned (.bool (lackB ⟨7, f, t, u, x, a, b⟩)) ∧ Below w.heap.size w w' := by
 cases ht : (t == 0)
 ·have ht' : (t != 0) = true := by rw [bne, ht]; rfl
  have e : lackB ⟨7, f, t, u, x, a, b⟩ = true := by simp only [lackB, namedB, twoB, kidsN]; simp [*]
  rw [e]
  clear e
  go_enter Tryz.func207, Tryz.ntmps207
  go_wp2_with fail
  go_returns
  exact ⟨rfl, ((Below.refl _ _).alloc (Nat.le_refl _) _).alloc (by simp) _⟩
 have ht' : (t != 0) = false := by rw [bne, ht]; rfl
 cases hu : (u == 0)
 ·have hu' : (u != 0) = true := by rw [bne, hu]; rfl
  have e : lackB ⟨7, f, t, u, x, a, b⟩ = true := by simp only [lackB, namedB, twoB, kidsN]; simp [*]
  rw [e]
  clear e
  go_enter Tryz.func207, Tryz.ntmps207
  go_wp2_with fail
  go_returns
  exact ⟨rfl, ((Below.refl _ _).alloc (Nat.le_refl _) _).alloc (by simp) _⟩
 have hu' : (u != 0) = false := by rw [bne, hu]; rfl
 cases hx : x.toList.isEmpty
 ·have hx' : (!x.toList.isEmpty) = true := by rw [hx]; rfl
  have e : lackB ⟨7, f, t, u, x, a, b⟩ = true := by simp only [lackB, namedB, twoB, kidsN]; simp [*]
  rw [e]
  clear e
  go_enter Tryz.func207, Tryz.ntmps207
  go_wp2_with fail
  go_returns
  exact ⟨rfl, ((Below.refl _ _).alloc (Nat.le_refl _) _).alloc (by simp) _⟩
 have hx' : (!x.toList.isEmpty) = false := by rw [hx]; rfl
 cases hb : (b == 0)
 ·have hb' : (b != 0) = true := by rw [bne, hb]; rfl
  have e : lackB ⟨7, f, t, u, x, a, b⟩ = true := by simp only [lackB, namedB, twoB, kidsN]; simp [*]
  rw [e]
  clear e
  go_enter Tryz.func207, Tryz.ntmps207
  go_wp2_with fail
  go_returns
  exact ⟨rfl, ((Below.refl _ _).alloc (Nat.le_refl _) _).alloc (by simp) _⟩
 have hb' : (b != 0) = false := by rw [bne, hb]; rfl
 have e : lackB ⟨7, f, t, u, x, a, b⟩ = false := by simp only [lackB, namedB, twoB, kidsN]; simp [*]
 rw [e]
 clear e
 go_enter Tryz.func207, Tryz.ntmps207
 go_wp2_with fail
 go_returns
 exact ⟨rfl, ((Below.refl _ _).alloc (Nat.le_refl _) _).alloc (by simp) _⟩
set_option maxHeartbeats 6400000 in
theorem lacks_8 (f t u : Int) (x : ByteArray) (a b : Int) (w : World) :
  Calls Tryz.prog 207 #[.agg #[.bool true, .bool true, .bool false, .bool false, .int .i64 1], .agg #[.int .i64 8, .int .i64 f, .int .i64 t, .int .u64 u, .string x, .int .i64 a, .int .i64 b]] w fun e w' => e = .returned (.bool (lackB ⟨8, f, t, u, x, a, b⟩)) ∧ Below w.heap.size w w' := by
 cases hu : (u == 0)
 ·have hu' : (u != 0) = true := by rw [bne, hu]; rfl
  have e : lackB ⟨8, f, t, u, x, a, b⟩ = true := by simp only [lackB, namedB, twoB, kidsN]; simp [*]
  rw [e]
  clear e
  go_enter Tryz.func207, Tryz.ntmps207
  go_wp2_with fail
  go_returns
  exact ⟨rfl, ((Below.refl _ _).alloc (Nat.le_refl _) _).alloc (by simp) _⟩
 have hu' : (u != 0) = false := by rw [bne, hu]; rfl
 cases hx : x.toList.isEmpty
 ·have hx' : (!x.toList.isEmpty) = true := by rw [hx]; rfl
  have e : lackB ⟨8, f, t, u, x, a, b⟩ = true := by simp only [lackB, namedB, twoB, kidsN]; simp [*]
  rw [e]
  clear e
  go_enter Tryz.func207, Tryz.ntmps207
  go_wp2_with fail
  go_returns
  exact ⟨rfl, ((Below.refl _ _).alloc (Nat.le_refl _) _).alloc (by simp) _⟩
 have hx' : (!x.toList.isEmpty) = false := by rw [hx]; rfl
 cases hb : (b == 0)
 ·have hb' : (b != 0) = true := by rw [bne, hb]; rfl
  have e : lackB ⟨8, f, t, u, x, a, b⟩ = true := by simp only [lackB, namedB, twoB, kidsN]; simp [*]
  rw [e]
  clear e
  go_enter Tryz.func207, Tryz.ntmps207
  go_wp2_with fail
  go_returns
  exact ⟨rfl, ((Below.refl _ _).alloc (Nat.le_refl _) _).alloc (by simp) _⟩
 have hb' : (b != 0) = false := by rw [bne, hb]; rfl
 have e : lackB ⟨8, f, t, u, x, a, b⟩ = false := by simp only [lackB, namedB, twoB, kidsN]; simp [*]
 rw [e]
 clear e
 go_enter Tryz.func207, Tryz.ntmps207
 go_wp2_with fail
 go_returns
 exact ⟨rfl, ((Below.refl _ _).alloc (Nat.le_refl _) _).alloc (by simp) _⟩
set_option maxHeartbeats 6400000 in
theorem lacks_9 (f t u : Int) (x : ByteArray) (a b : Int) (w : World) :
  Calls Tryz.prog 207 #[.agg #[.bool true, .bool true, .bool false, .bool false, .int .i64 1], .agg #[.int .i64 9, .int .i64 f, .int .i64 t, .int .u64 u, .string x, .int .i64 a, .int .i64 b]] w fun e w' => e = .returned (.bool (lackB ⟨9, f, t, u, x, a, b⟩)) ∧ Below w.heap.size w w' := by
 cases hu : (u == 0)
 ·have hu' : (u != 0) = true := by rw [bne, hu]; rfl
  have e : lackB ⟨9, f, t, u, x, a, b⟩ = true := by simp only [lackB, namedB, twoB, kidsN]; simp [*]
  rw [e]
  clear e
  go_enter Tryz.func207, Tryz.ntmps207
  go_wp2_with fail
  go_returns
  exact ⟨rfl, ((Below.refl _ _).alloc (Nat.le_refl _) _).alloc (by simp) _⟩
 have hu' : (u != 0) = false := by rw [bne, hu]; rfl
 cases hx : x.toList.isEmpty
 ·have hx' : (!x.toList.isEmpty) = true := by rw [hx]; rfl
  have e : lackB ⟨9, f, t, u, x, a, b⟩ = true := by simp only [lackB, namedB, twoB, kidsN]; simp [*]
  rw [e]
  clear e
  go_enter Tryz.func207, Tryz.ntmps207
  go_wp2_with fail
  go_returns
  exact ⟨rfl, ((Below.refl _ _).alloc (Nat.le_refl _) _).alloc (by simp) _⟩
 have hx' : (!x.toList.isEmpty) = false := by rw [hx]; rfl
 cases hb : (b == 0)
 ·have hb' : (b != 0) = true := by rw [bne, hb]; rfl
  have e : lackB ⟨9, f, t, u, x, a, b⟩ = true := by simp only [lackB, namedB, twoB, kidsN]; simp [*]
  rw [e]
  clear e
  go_enter Tryz.func207, Tryz.ntmps207
  go_wp2_with fail
  go_returns
  exact ⟨rfl, ((Below.refl _ _).alloc (Nat.le_refl _) _).alloc (by simp) _⟩
 have hb' : (b != 0) = false := by rw [bne, hb]; rfl
 have e : lackB ⟨9, f, t, u, x, a, b⟩ = false := by simp only [lackB, namedB, twoB, kidsN]; simp [*]
 rw [e]
 clear e
 go_enter Tryz.func207, Tryz.ntmps207
 go_wp2_with fail
 go_returns
 exact ⟨rfl, ((Below.refl _ _).alloc (Nat.le_refl _) _).alloc (by simp) _⟩
end Go.Proofs.YtjmcaceegfdkkaaGreatDoor
