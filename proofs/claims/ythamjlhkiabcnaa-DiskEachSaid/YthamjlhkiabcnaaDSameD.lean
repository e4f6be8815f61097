/-
  What Same does.
-/
import Derived.Test.YthamjlhkiabcnaaDSame
namespace Go.Proofs.Ythamjlhkiabcnaa
open Go.RowKit

theorem told_quiet {f : FuncId} {args : Array Value} {w : World} {b : Bool} (h : ∀ n, Calls Try.prog f args (w.drewN n) (Told b (w.drewN n))) (n : Nat) :
    Calls Try.prog f args (w.drewN n) fun e w' => e = .returned (.bool b) ∧ ∃ m, w' = w.drewN m :=
  Calls.quiet_of ((h n).mono fun _ _ ⟨h1, m, h2⟩ => ⟨h1, m, h2⟩)

set_option maxHeartbeats 400000 in
theorem same_nil (w : World) : Calls Try.prog 28 #[.pointer none, .pointer none] w fun e w' => e = .returned (.bool true) ∧ w = w' := by
  go_enter Try.func28, Try.ntmps28
  go_wp2_with fail
  go_ret
  exact ⟨rfl, rfl⟩

theorem run_eql_nil_pointer (W : World) (a : Addr) : (binOp .eql 26 (.pointer none) (.pointer (some a))).run Try.prog W = .ok (.bool false) W := by
  have h : ∀ d : Nat, (Op.equalIn (d + 1) 26 (.pointer none) (.pointer (some a))).run Try.prog W = .ok false W := fun d => by
    simp [Op.equalIn, run_underlying Try.underlying26]
  simp only [binOp]
  simp [Op.equal, Op.maxDepth, h 9999]

set_option maxHeartbeats 400000 in
theorem same_nil1 (a : Addr) (w : World) : Calls Try.prog 28 #[.pointer none, .pointer (some a)] w fun e w' => e = .returned (.bool false) ∧ w = w' := by
  have hq := fun W => run_eql_nil_pointer W a
  go_enter Try.func28, Try.ntmps28
  go_wp2_with fail
  go_ret
  exact ⟨rfl, rfl⟩

set_option maxHeartbeats 400000 in
theorem same_nil2 (a : Addr) (w : World) : Calls Try.prog 28 #[.pointer (some a), .pointer none] w fun e w' => e = .returned (.bool false) ∧ w = w' := by
  go_enter Try.func28, Try.ntmps28
  go_wp2_with fail
  go_ret
  exact ⟨rfl, rfl⟩

set_option maxHeartbeats 800000 in
theorem same_any {w : World} {B a1 a2 : Nat} {S1 S2 : Nat → Prop} {d1 d2 : Dk} (h1 : IsDisk w B a1 S1 d1) (h2 : IsDisk w B a2 S2 d2) :
    Calls Try.prog 28 #[.pointer (some ⟨a1, 0, none⟩), .pointer (some ⟨a2, 0, none⟩)] w (Told (decide (d1.now = d2.now)) w) := by
  obtain ⟨⟨fv1, bv1, lv1, h1⟩, g1⟩ := h1
  obtain ⟨⟨fv2, bv2, lv2, h2⟩, g2⟩ := h2
  have c1 := h1.c1
  have c2 := h2.c1
  have hle := g1.le
  have hq : ∀ n, Calls Try.prog 50 #[bv1, bv2] (w.drewN n) (Told (decide (d1.now = d2.now)) (w.drewN n)) := fun n =>
    equal_any (h1.rnow.keep (touch_drewN w n fun _ => False) fun _ _ h => h) (h2.rnow.keep (touch_drewN w n fun _ => False) fun _ _ h => h) (by omega)
  have HQ := Lib.hid hq
  obtain ⟨ba, bc, rfl⟩ := h1.rnow.shape
  obtain ⟨da, dc, rfl⟩ := h2.rnow.shape
  clear hq h1 h2 g1 g2
  go_enter Try.func28, Try.ntmps28
  go_wp2_with fail
  go_quiet ((go_at_call 50; exact told_quiet HQ.out _))
  go_wp2_with fail
  go_ret
  exact ⟨rfl, _, rfl⟩

end Go.Proofs.Ythamjlhkiabcnaa
