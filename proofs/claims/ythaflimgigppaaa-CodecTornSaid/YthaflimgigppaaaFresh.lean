/-
  What codec.fresh does: a copy of the bytes in memory of the call's own.
-/
import Derived.Test.YthaflimgigppaaaBase
namespace Go.Proofs.Ythaflimgigppaaa
open Go.RowKit

set_option maxHeartbeats 400000 in
theorem fresh_any (l : List UInt8) (room : Nat) (v : Value) (w : World) (h : Rd 0 w v l) (hl : l.length ≤ 1099511627776) (hr : room ≤ 1099511627776) :
    Calls Try.prog 16 #[v, .int .i64 (room : Int)] w fun e w' => ∃ v', e = .returned v' ∧ Own w.heap.size w' v' l ∧ Below w.heap.size w w' := by
  obtain ⟨i0, hi, hz0, hz1, hz2⟩ := info_parts row5
  rcases h with ⟨rfl, rfl⟩ | ⟨b, off, cap, rfl, h1, h2, h3, h4, h5⟩
  · go_enter Try.func16, Try.ntmps16
    go_wp2_with (first
      | (at_make; refine wpList_make_own _ rfl _ _ 24 rfl w.heap.size 5 i0 (.int .u8 0) 1 Try.underlying24 hi hz0 hz1 .i64 .i64 _ room rfl rfl (by omega) (by rw [hz2]; omega) (by unfold maxLen; omega) (Nat.le_refl _) ?_; intro w0 hown0 hgrow0)
      | (at_builtin; refine wpList_append_own_none rfl _ _ 24 rfl w.heap.size 5 i0 1 Try.underlying24 hi _ _ _ rfl hown0 rfl ?_))
    go_ret
    exact ⟨_, rfl, hown0, (Below.refl _ _).grown hgrow0 (Nat.le_refl _) (by simp)⟩
  · have hN := Rd.news h5
    go_enter Try.func16, Try.ntmps16
    go_wp2_with (first
      | (at_make; refine wpList_make_own _ rfl _ _ 24 rfl w.heap.size 5 i0 (.int .u8 0) 1 Try.underlying24 hi hz0 hz1 .i64 .i64 _ (l.length + room) rfl rfl (by omega) (by rw [hz2]; omega) (by unfold maxLen; omega) (Nat.le_refl _) ?_; intro w0 hown0 hgrow0)
      | (at_builtin; refine wpList_append_own _ rfl _ _ 24 rfl w.heap.size 5 i0 (.int .u8 0) 1 1 Try.underlying24 hi hz0 hz1 hz2 rfl (by decide) _ _ _ rfl hown0 ⟨b, off, none⟩ l.length cap (cellsOf l) rfl (by simp [cellsOf]) ?c1 (cellsOf_oneCell l) (by unfold maxLen; omega) (by omega) (by have := hgrow0.size; omega) ?_))
    case c1 => exact fun j u hu => hgrow0.cell (hN j u hu) (by simp)
    intro v' w' hown' hgrow' _
    go_wp2
    go_ret
    refine ⟨_, rfl, ?_, ?_⟩
    · unfold Own
      simpa using hown'
    · refine ((Below.refl _ _).grown hgrow0 (Nat.le_refl _) (by simp)).grown hgrow' (by have := hgrow0.size; omega) ?_
      intro k hk
      simp [Value.ownBlock] at hk
      omega

end Go.Proofs.Ythaflimgigppaaa
