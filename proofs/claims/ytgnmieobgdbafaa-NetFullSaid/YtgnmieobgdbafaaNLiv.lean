/-
  The law's num and live.
-/
import Derived.Test.YtgnmieobgdbafaaNLst
namespace Go.Proofs.Ytgnmieobgdbafaa
open Go.RowKit
set_option linter.unusedVariables false
set_option maxRecDepth 20000 in
theorem num15 (w : World) (n : Int) : Calls Try.prog 15 #[.int .i64 n] w fun e w' => e = .returned (.int .i64 n) ∧ w = w' := by
  go_enter Try.func15, Try.ntmps15
  go_wp2_with fail
  go_returns
  exact ⟨rfl, rfl⟩
abbrev bA : ByteArray := ⟨#[97]⟩
abbrev bB : ByteArray := ⟨#[98]⟩
abbrev bC : ByteArray := ⟨#[99]⟩
def pA : Pk := ⟨1, 0, 1, bA, 0⟩
def pB : Pk := ⟨2, 0, 1, bB, 0⟩
def xv1 : Nt := ⟨1, [pA], [pA], fun _ => false, upd (fun _ => 0) 1 1, fun _ => 0⟩
def xv2 : Nt := ⟨2, [pA, pB], [pA, pB], fun _ => false, upd (upd (fun _ => 0) 1 1) 1 2, fun _ => 0⟩
def xv3 : Nt := ⟨2, [pA], [pA, pB], fun _ => false, upd (upd (fun _ => 0) 1 1) 1 2, upd (fun _ => 0) 1 1⟩
theorem sv1 : sendP newNt 0 1 bA = (xv1, 1, 0) := by rfl
theorem sv2 : sendP xv1 0 1 bB = (xv2, 2, 0) := by rfl
theorem sv3 : delP xv2 1 = (xv3, pB, 0) := by rfl
theorem sv4 : sendP xv3 0 0 bC = (xv3, 0, 150) := by rfl
theorem stb1 : ∀ k, newNt.st k ≤ 1000000000 ∧ -1000000000 ≤ newNt.st k := fun k => by show (0 : Int) ≤ _ ∧ _ ≤ (0 : Int); omega
theorem upd_b {f : Nat → Int} {k : Nat} {v : Int} (h : ∀ k, f k ≤ 1000000000 ∧ -1000000000 ≤ f k) (hv : v ≤ 1000000000 ∧ -1000000000 ≤ v) : ∀ j, upd f k v j ≤ 1000000000 ∧ -1000000000 ≤ upd f k v j := fun j => by
  unfold upd; split
  · exact hv
  · exact h j
set_option maxRecDepth 100000 in
set_option maxHeartbeats 3200000 in
theorem live15 (w : World) : Calls Try.prog 9 #[] w fun e w' => e = .returned (.bool true) ∧ Below w.heap.size w w' := by
  have ex0 : ∀ (v u : Value) (W : World), (Instr.extract (.tuple #[v, u]) 0).run Try.prog W = .ok v W := fun v u W => by kernel_rfl
  have ex1 : ∀ (v u : Value) (W : World), (Instr.extract (.tuple #[v, u]) 1).run Try.prog W = .ok u W := fun v u W => by kernel_rfl
  go_enter Try.func9, Try.ntmps9
  go_wp2_with fail
  refine (new_any w).mono ?_
  rintro e w1 ⟨rfl, h1, b1⟩
  have hs1 := send_any h1 b1.size (by show (0 : Nat) ≤ _; omega) 0 1 bA stb1
  rw [sv1] at hs1
  have H1 := Lib.hid h1
  have B1 := Lib.hid b1
  clear h1 b1
  go_wp2_with fail
  refine hs1.mono ?_
  rintro e w2 ⟨rfl, F2, H2, i2, t2, o2⟩
  have b2 := t2.below B1.out.size (fun k hk => (H1.out.own_lt hk).1)
  have hs2 := send_any i2 (Nat.le_trans B1.out.size t2.size) (by show (1 : Nat) ≤ _; omega) 0 1 bB (upd_b stb1 (by omega))
  rw [sv2] at hs2
  have I2 := Lib.hid i2
  have B2 := Lib.hid (B1.out.trans b2)
  clear hs1 i2 t2 o2 b2
  go_wp2_with fail
  refine hs2.mono ?_
  rintro e w3 ⟨rfl, F3, H3, i3, t3, o3⟩
  have b3 := t3.below B2.out.size (fun k hk => (I2.out.own_lt hk).1)
  have hs3 := deliver_any i3 (by show (2 : Nat) ≤ _; omega) 1 (by
    intro p hp
    have : p = pA ∨ p = pB := by simpa [xv2] using hp
    rcases this with rfl | rfl <;> exact ⟨by decide, by decide⟩) stb1
  rw [sv3] at hs3
  have I3 := Lib.hid i3
  have B3 := Lib.hid (B2.out.trans b3)
  clear hs2 i3 t3 o3 b3
  go_wp2_with fail
  refine hs3.mono ?_
  rintro e w4 ⟨rfl, F4, H4, i4, t4, o4⟩
  have b4 := t4.below B3.out.size (fun k hk => (I3.out.own_lt hk).1)
  have b5 : Below w4.heap.size w4 (w4.alloc (.cells (pkCells pB) PkT)) := (Below.refl _ _).alloc (Nat.le_refl _) _
  have hp5 : (w4.alloc (.cells (pkCells pB) PkT)).heap[w4.heap.size]? = some (.cells (pkCells pB) PkT) := heap_alloc_new _ _
  have hs4 := send_any (i4.below b5) (Nat.le_trans (Nat.le_trans B3.out.size t4.size) b5.size) (by show (2 : Nat) ≤ _; omega) 0 0 bC (upd_b (upd_b stb1 (by omega)) (by omega))
  rw [sv4] at hs4
  have I5 := Lib.hid (i4.below b5)
  have B5 := Lib.hid ((B3.out.trans b4).trans (b5.mono (Nat.le_trans B3.out.size t4.size)))
  have P5 := Lib.hid hp5
  have L5 := Lib.hid (show w4.heap.size < (w4.alloc (.cells (pkCells pB) PkT)).heap.size ∧ ∀ k, OwnN w.heap.size F4 H4 k → k ≠ w4.heap.size from ⟨by simp, fun k hk => by have := (i4.own_lt hk).2; omega⟩)
  clear hs3 i4 t4 o4 b4 b5 hp5
  have heq : ∀ W : World, (binOp .eql PkT (.agg #[.int .i64 2, .int .i64 0, .int .i64 1, .string ⟨#[98]⟩, .int .i64 0]) (.agg #[.int .i64 2, .int .i64 0, .int .i64 1, .string ⟨#[98]⟩, .int .i64 0])).run Try.prog W = .ok (.bool true) W := fun W => eq_pk pB W
  go_wp2_with fail
  refine hs4.mono ?_
  rintro e w6 ⟨rfl, F6, H6, i6, t6, o6⟩
  have hp6 : w6.heap[w4.heap.size]? = some (.cells #[.int .i64 2, .int .i64 0, .int .i64 1, .string ⟨#[98]⟩, .int .i64 0] PkT) := (t6.block w4.heap.size L5.out.1 (fun e => L5.out.2 _ e rfl)).trans P5.out
  have B6 := Lib.hid (B5.out.trans (t6.below B5.out.size (fun k hk => (I5.out.own_lt hk).1)))
  have hfl := flying_any i6 (by show (1 : Nat) ≤ _; omega)
  have r0 := cellB (j := 0) hp6 rfl
  have r1 := cellB (j := 1) hp6 rfl
  have r2 := cellB (j := 2) hp6 rfl
  have r3 := cellB (j := 3) hp6 rfl
  have r4 := cellB (j := 4) hp6 rfl
  clear hs4 i6 t6 o6 hp6
  go_wp2_with fail
  refine (num15 _ _).mono ?_
  rintro e w7 ⟨rfl, rfl⟩
  go_wp2_with fail
  refine (num15 _ _).mono ?_
  rintro e w7 ⟨rfl, rfl⟩
  go_wp2_with fail
  refine (num15 _ _).mono ?_
  rintro e w7 ⟨rfl, rfl⟩
  go_wp2_with fail
  refine (num15 _ _).mono ?_
  rintro e w7 ⟨rfl, rfl⟩
  clear r0 r1 r2 r3 r4
  go_wp2_with fail
  refine hfl.mono ?_
  rintro e w8 ⟨⟨v8, rfl, h8⟩, b8⟩
  have B8 := Lib.hid (B6.out.trans (b8.mono B6.out.size))
  obtain ⟨va, vc, rfl⟩ := slice_of h8
  rw [show xv3.fl.length = 1 from rfl]
  clear h8 b8 hfl
  go_wp2_with fail
  go_returns
  exact ⟨rfl, B8.out⟩
end Go.Proofs.Ytgnmieobgdbafaa
