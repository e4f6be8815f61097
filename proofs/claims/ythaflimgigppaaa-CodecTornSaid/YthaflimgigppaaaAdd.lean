/-
  What codec.addNum does: the number's bytes behind what there is.
-/
import Derived.Test.YthaflimgigppaaaNums
namespace Go.Proofs.Ythaflimgigppaaa
open Go.RowKit

set_option maxRecDepth 20000 in
set_option maxHeartbeats 400000 in
theorem addNum_any (l : List UInt8) (n : Nat) (v : Value) (B : Nat) (w : World) (h : Own B w v l) (hB : B ≤ w.heap.size) (hl : l.length ≤ 1099511627776) (hn : Hid (n < 18446744073709551616)) :
    Calls Try.prog 25 #[v, .int .u64 (n : Int)] w fun e w' => ∃ v', e = .returned v' ∧ Own B w' v' (l ++ enc n) ∧ Below B w w' := by
  obtain ⟨i0, hi, hz0, hz1, hz2⟩ := info_parts row5
  go_enter Try.func25, Try.ntmps25
  go_wp2_with fail
  go_loopw [0, 1] (fun b m wr => ∃ (k m' : Nat) (done : List UInt8), m = .int .u64 (m' : Int) ∧ Own B wr b (l ++ done) ∧ Below B w wr ∧ Laid n k m' done) (fun _ m _ => (intOf m).toNat)
  case atStart => exact ⟨9, n, [], rfl, by simpa using h, Below.refl _ _, Laid.start hn.out⟩
  case round =>
    obtain ⟨k, m', done, rfl, hown, hbel, hlaid⟩ := hrel
    have hd := hlaid.len
    have hsz := hbel.size
    by_cases hlt : m' < 128
    · go_wp2_with (at_builtin; refine wpList_append_own _ rfl _ _ 24 rfl B 5 i0 (.int .u8 0) 1 1 Try.underlying24 hi hz0 hz1 hz2 rfl (by decide) _ _ _ rfl (World.ownsRow.alloc hown _) ⟨wr.heap.size, 0, none⟩ 1 1 (cellsOf [UInt8.ofNat m']) rfl rfl ?c1 (cellsOf_oneCell _) (by rw [List.length_append]; unfold maxLen; omega) (by rw [List.length_append]; omega) (by simp; omega) ?_)
      case c1 => rw [u8v_small hlt]; exact cell_one_new _ _ _
      intro v' w1 hown1 hgrow1 _
      go_wp2
      go_ret
      refine ⟨_, rfl, ?_, ?_⟩
      · rw [hlaid.last hlt]
        exact own_of hown1 (by simp only [List.length_append, List.length_singleton]; omega) (by simp only [cellsOf_append, List.append_assoc])
      · refine (hbel.alloc (by omega) _).grown hgrow1 (by simp; omega) fun k hk => ?_
        exact (World.ownsRow.lt hown k hk).1
    · obtain ⟨k', hlaid'⟩ := hlaid.next hlt
      go_wp2_with (at_builtin; refine wpList_append_own _ rfl _ _ 24 rfl B 5 i0 (.int .u8 0) 1 1 Try.underlying24 hi hz0 hz1 hz2 rfl (by decide) _ _ _ rfl (World.ownsRow.alloc hown _) ⟨wr.heap.size, 0, none⟩ 1 1 (cellsOf [hib m']) rfl rfl ?c1 (cellsOf_oneCell _) (by rw [List.length_append]; unfold maxLen; omega) (by rw [List.length_append]; omega) (by simp; omega) ?_)
      case c1 => rw [u8v_big]; exact cell_one_new _ _ _
      intro v' w1 hown1 hgrow1 _
      go_wp2
      go_roundw
      case rel =>
        refine ⟨k', m' / 128, done ++ [hib m'], by go_num, ?_, ?_, hlaid'⟩
        · exact own_of hown1 (by simp only [List.length_append, List.length_singleton]; omega) (by simp only [cellsOf_append, List.append_assoc])
        · refine (hbel.alloc (by omega) _).grown hgrow1 (by simp; omega) fun k hk => ?_
          exact (World.ownsRow.lt hown k hk).1
      case measure => simp [intOf]; omega

end Go.Proofs.Ythaflimgigppaaa
