/-
  What codec.PutNum and PutText do (for a seat that has no PutInt).
-/
import Derived.Test.YthaflimgigppaaaFresh
import Derived.Test.YthaflimgigppaaaAdd
namespace Go.Proofs.Ythaflimgigppaaa
open Go.RowKit

theorem ret_int {k : IntKind} {a b : Int} (h : a = b) : Ending.returned (.int k a) = .returned (.int k b) := by rw [h]
theorem size_list (s : ByteArray) : s.size = s.data.toList.length := by rw [Array.length_toList]; rfl

/-- The number of an int. -/
def zig (n : Int) : Nat := if n < 0 then (-(n + 1)).toNat * 2 + 1 else n.toNat * 2

theorem zig_neg {n : Int} (h : n < 0) : (zig n : Int) = 2 * -(n + 1) + 1 := by unfold zig; rw [if_pos h]; omega
theorem zig_pos {n : Int} (h : 0 ≤ n) : (zig n : Int) = 2 * n := by unfold zig; rw [if_neg (by omega)]; omega

set_option maxHeartbeats 400000 in
theorem putNum_any (l : List UInt8) (n : Nat) (v : Value) (w : World) (h : Rd 0 w v l) (hl : l.length ≤ 1099511627766) (hn : Hid (n < 18446744073709551616)) :
    Calls Try.prog 13 #[v, .int .u64 (n : Int)] w fun e w' => ∃ v', e = .returned v' ∧ Own w.heap.size w' v' (l ++ enc n) ∧ Below w.heap.size w w' := by
  go_enter Try.func13, Try.ntmps13
  go_wp2_with fail
  refine (fresh_any l 10 v w h (by omega) (by omega)).mono ?_
  rintro e w1 ⟨v1, rfl, hown, hbel⟩
  go_wp2_with fail
  refine (addNum_any l n v1 w.heap.size w1 hown hbel.size (by omega) hn).mono ?_
  rintro e w2 ⟨v2, rfl, hown2, hbel2⟩
  go_wp2_with fail
  go_ret
  exact ⟨_, rfl, hown2, hbel.trans hbel2⟩

set_option maxHeartbeats 400000 in
theorem putText_any (l : List UInt8) (s : ByteArray) (v : Value) (w : World) (h : Rd 0 w v l) (hl : l.length ≤ 549755813888) (hs : s.size ≤ 549755813888) :
    Calls Try.prog 15 #[v, .string s] w fun e w' => ∃ v', e = .returned v' ∧ Own w.heap.size w' v' (l ++ enc s.size ++ s.data.toList) ∧ Below w.heap.size w w' := by
  obtain ⟨i0, hi, hz0, hz1, hz2⟩ := info_parts row5
  have hs' : Hid (s.size < 18446744073709551616) := Lib.hid (by omega)
  go_enter Try.func15, Try.ntmps15
  go_wp2_with fail
  refine (fresh_any l (10 + s.size) v w h (by omega) (by omega)).mono ?_
  rintro e w1 ⟨v1, rfl, hown, hbel⟩
  go_wp2_with fail
  refine (addNum_any l s.size v1 w.heap.size w1 hown hbel.size (by omega) hs').mono ?_
  rintro e w2 ⟨v2, rfl, hown2, hbel2⟩
  have hlen := enc_len s.size
  go_wp2_with (at_builtin; go_loud (refine Lib.wpList_append_own_string _ rfl _ _ 24 9 rfl w.heap.size 5 i0 Try.underlying24 Try.underlying9 hi hz0 hz1 hz2 _ _ _ rfl hown2 s rfl (by rw [List.length_append]; unfold maxLen; omega) (by rw [List.length_append]; omega) (by have := hbel.size; have := hbel2.size; omega) ?_))
  intro v' w3 hown3 hgrow3 _
  go_wp2
  go_ret
  refine ⟨_, rfl, own_of hown3 (by simp only [List.length_append, size_list]) (by rw [strCells_eq, ← cellsOf_append]), ?_⟩
  refine (hbel.trans hbel2).grown hgrow3 (by have := hbel.size; have := hbel2.size; omega) fun k hk => ?_
  exact (World.ownsRow.lt hown2 k hk).1

end Go.Proofs.Ythaflimgigppaaa
