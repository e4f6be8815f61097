/-
  What the document's own PutNum, PutInt, PutText do.
-/
import Derived.Test.YtfjigkpgoalbnaaAppend
namespace Go.Proofs.Ytfjigkpgoalbnaa
open Go.RowKit

theorem hib_cell (m : Nat) : cellsOf [hib m] = [Value.int IntKind.u8 ((m : Int) % 128 + 128)] := by
  simp only [cellsOf, List.map_cons, List.map_nil, u8v, byte_big]
  congr 2

set_option maxRecDepth 20000 in
set_option maxHeartbeats 400000 in
theorem refPutNum_any (l : List UInt8) (n : Nat) (v : Value) (w : World) (h : Rd 0 w v l) (hl : l.length ≤ 1099511627766) (hn : Hid (n < 18446744073709551616)) :
    Calls Try.prog 13 #[v, .int .u64 (n : Int)] w fun e w' => ∃ v', e = .returned v' ∧ Own w.heap.size w' v' (l ++ enc n) ∧ Below w.heap.size w w' := by
  obtain ⟨i0, hi, hz0, hz1, hz2⟩ := info_parts row5
  have hA := (Below.refl w.heap.size w).alloc (Nat.le_refl _) (.cells #[] 5)
  have hO := own_made w (Nat.le_refl _)
  have hR := h.keep hA
  have HA := Lib.hid (And.intro hA (And.intro hO hR))
  clear hA hO hR
  go_enter Try.func13, Try.ntmps13
  go_wp2_with (at_builtin; refine wpList_append_rd rfl _ _ rfl w.heap.size _ _ rfl HA.out.2.1 _ _ rfl HA.out.2.2 (by simp; omega) (by simp) ?_)
  intro v1 w1 hown1 hg1
  have hb1 := below_append HA.out.1 HA.out.2.1 hg1 (by simp)
  clear HA hg1
  go_wp2_with fail
  go_loopw [1, 5] (fun m b wr => ∃ (k m' : Nat) (done : List UInt8), m = .int .u64 (m' : Int) ∧ Own w.heap.size wr b (l ++ done) ∧ Below w.heap.size w wr ∧ Laid n k m' done ∧ m' ≤ n) (fun m _ _ => (intOf m).toNat)
  case atStart => exact ⟨9, n, [], rfl, by simpa using hown1, hb1, Laid.start hn.out, Nat.le_refl _⟩
  case round =>
    obtain ⟨k, m', done, rfl, hown, hbel, hlaid, hmn⟩ := hrel
    have hd := hlaid.len
    have hsz := hbel.size
    by_cases hlt : m' < 128
    · go_wp2_with (at_builtin; refine wpList_append_own _ rfl _ _ 22 rfl w.heap.size 5 i0 (.int .u8 0) 1 1 Try.underlying22 hi hz0 hz1 hz2 rfl (by decide) _ _ _ rfl (World.ownsRow.alloc hown _) ⟨wr.heap.size, 0, none⟩ 1 1 (cellsOf [UInt8.ofNat m']) rfl rfl ?c1 (cellsOf_oneCell _) (by rw [List.length_append]; unfold maxLen; omega) (by rw [List.length_append]; omega) (by simp; omega) ?_)
      case c1 => rw [u8v_small hlt]; exact cell_one_new _ _ _
      intro v' w2 hown2 hgrow2 _
      go_wp2
      go_ret
      refine ⟨_, rfl, ?_, ?_⟩
      · rw [hlaid.last hlt]
        exact own_of hown2 (by simp only [List.length_append, List.length_singleton]; omega) (by simp only [cellsOf_append, List.append_assoc])
      · refine (hbel.alloc (by omega) _).grown hgrow2 (by simp; omega) fun k hk => ?_
        exact (World.ownsRow.lt hown k hk).1
    · obtain ⟨k', hlaid'⟩ := hlaid.next hlt
      have hw128 : IntKind.u64.wrap ((m' : Int) / (128 : Int)) = ((m' / 128 : Nat) : Int) := by
        have h1 := hn.out
        have h2 := wrap_u64_nat (m := m' / 128) (by omega)
        rw [← h2]
        congr 1
      have HW := Lib.hid hw128
      clear hw128
      go_wp2_with (at_builtin; refine wpList_append_own _ rfl _ _ 22 rfl w.heap.size 5 i0 (.int .u8 0) 1 1 Try.underlying22 hi hz0 hz1 hz2 rfl (by decide) _ _ _ rfl (World.ownsRow.alloc hown _) ⟨wr.heap.size, 0, none⟩ 1 1 (cellsOf [hib m']) rfl rfl ?c1 (cellsOf_oneCell _) (by rw [List.length_append]; unfold maxLen; omega) (by rw [List.length_append]; omega) (by simp; omega) ?_)
      case c1 => rw [hib_cell]; exact cell_one_new _ _ _
      intro v' w2 hown2 hgrow2 _
      go_wp2
      rw [HW.out]
      go_roundw
      case rel =>
        refine ⟨k', m' / 128, done ++ [hib m'], rfl, ?_, ?_, hlaid', by omega⟩
        · exact own_of hown2 (by simp only [List.length_append, List.length_singleton]; omega) (by simp only [cellsOf_append, List.append_assoc])
        · refine (hbel.alloc (by omega) _).grown hgrow2 (by simp; omega) fun k hk => ?_
          exact (World.ownsRow.lt hown k hk).1
      case measure => simp [intOf]; omega

set_option maxRecDepth 20000 in
set_option maxHeartbeats 400000 in
theorem refZig_any (n : Int) (w : World) (h0 : -9223372036854775808 ≤ n) (h1 : n ≤ 9223372036854775807) :
    Calls Try.prog 37 #[.int .i64 n] w fun e w' => e = .returned (.int .u64 (zig n : Int)) ∧ w = w' := by
  by_cases hn : n < 0
  · go_enter Try.func37, Try.ntmps37
    go_wp2
    go_ret
    exact ⟨ret_int (zig_neg ‹_›).symm, rfl⟩
  · go_enter Try.func37, Try.ntmps37
    go_wp2
    go_ret
    exact ⟨ret_int (zig_pos ‹_›).symm, rfl⟩

set_option maxRecDepth 20000 in
set_option maxHeartbeats 400000 in
theorem refPutInt_any (l : List UInt8) (n : Int) (v : Value) (w : World) (h : Rd 0 w v l) (hl : l.length ≤ 1099511627766) (h0 : -9223372036854775808 ≤ n) (h1 : n ≤ 9223372036854775807) :
    Calls Try.prog 14 #[v, .int .i64 n] w fun e w' => ∃ v', e = .returned v' ∧ Own w.heap.size w' v' (l ++ enc (zig n)) ∧ Below w.heap.size w w' := by
  have hz : Hid (zig n < 18446744073709551616) := Lib.hid (by unfold zig; split <;> omega)
  have hf := refZig_any n w h0 h1
  clear h0 h1
  have Hf := Lib.hid hf
  clear hf
  go_enter Try.func14, Try.ntmps14
  go_wp2_with fail
  refine Hf.out.mono ?_
  rintro e w1 ⟨rfl, rfl⟩
  go_wp2_with fail
  refine (refPutNum_any l (zig n) v w h (by omega) hz).mono ?_
  rintro e w2 ⟨v2, rfl, hown2, hbel2⟩
  go_wp2_with fail
  go_ret
  exact ⟨_, rfl, hown2, hbel2⟩

set_option maxHeartbeats 400000 in
theorem refPutText_any (l : List UInt8) (s : ByteArray) (v : Value) (w : World) (h : Rd 0 w v l) (hl : l.length ≤ 500000000000) (hs : s.size ≤ 500000000000) :
    Calls Try.prog 15 #[v, .string s] w fun e w' => ∃ v', e = .returned v' ∧ Own w.heap.size w' v' (l ++ enc s.size ++ s.data.toList) ∧ Below w.heap.size w w' := by
  have hs' : Hid (s.size < 18446744073709551616) := Lib.hid (by omega)
  go_enter Try.func15, Try.ntmps15
  go_wp2_with fail
  refine (refPutNum_any l s.size v w h (by omega) hs').mono ?_
  rintro e w2 ⟨v2, rfl, hown2, hbel2⟩
  have hlen := enc_len s.size
  have hbs := hbel2.size
  go_wp2_with (at_builtin; refine wpList_append_str rfl _ _ rfl w.heap.size _ _ rfl hown2 s rfl (by rw [List.length_append]; omega) hbs ?_)
  intro v3 w3 hown3 hg3
  go_wp2
  go_ret
  rw [List.append_assoc]
  exact ⟨_, rfl, hown3, below_append hbel2 hown2 hg3 hbs⟩

end Go.Proofs.Ytfjigkpgoalbnaa
