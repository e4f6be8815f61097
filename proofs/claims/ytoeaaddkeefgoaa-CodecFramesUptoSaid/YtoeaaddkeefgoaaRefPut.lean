/-
  What the document's own PutNum does (for a seat that has no PutInt).
-/
import Derived.Test.YtoeaaddkeefgoaaAppend
namespace Go.Proofs.Ytoeaaddkeefgoaa
open Go.RowKit

theorem hib_cell (m : Nat) : cellsOf [hib m] = [Value.int IntKind.u8 ((m : Int) % 128 + 128)] := by
  simp only [cellsOf, List.map_cons, List.map_nil, u8v, byte_big]
  congr 2

set_option maxRecDepth 20000 in
set_option maxHeartbeats 400000 in
theorem refPutNum_any (l : List UInt8) (n : Nat) (v : Value) (w : World) (h : Rd 0 w v l) (hl : l.length ≤ 1099511627766) (hn : Hid (n < 18446744073709551616)) :
    Calls Try.prog 22 #[v, .int .u64 (n : Int)] w fun e w' => ∃ v', e = .returned v' ∧ Own w.heap.size w' v' (l ++ enc n) ∧ Below w.heap.size w w' := by
  obtain ⟨i0, hi, hz0, hz1, hz2⟩ := info_parts row5
  have hA := (Below.refl w.heap.size w).alloc (Nat.le_refl _) (.cells #[] 5)
  have hO := own_made w (Nat.le_refl _)
  have hR := h.keep hA
  have HA := Lib.hid (And.intro hA (And.intro hO hR))
  clear hA hO hR
  go_enter Try.func22, Try.ntmps22
  go_wp2_with (at_builtin; refine wpList_append_rd rfl _ _ rfl w.heap.size _ _ rfl HA.out.2.1 _ _ rfl HA.out.2.2 (by simp; omega) (by simp) ?_)
  intro v1 w1 hown1 hg1
  have hb1 := below_append HA.out.1 HA.out.2.1 hg1 (by simp)
  clear HA hg1
  go_wp2_with fail
  go_loopw [1, 5] (fun m b wr => ∃ (k m' : Nat) (done : List UInt8), m = .int .u64 (m' : Int) ∧ Own w.heap.size wr b (l ++ done) ∧ Below w.heap.size w wr ∧ Laid n k m' done ∧ m' ≤ n) (fun m _ _ => (intOf m).toNat)
  case atStart => exact ⟨9, n, [], rfl, by simpa using hown1, hb1, Laid.start hn.out, Nat.le_refl _⟩
  case round =>
    obtain ⟨k, m', done, rfl, hown, hbel, hlaid, hmn⟩ := hrel
    have hd := hlaid.len
    have hsz := hbel.size
    by_cases hlt : m' < 128
    · go_wp2_with (at_builtin; refine wpList_append_own _ rfl _ _ 22 rfl w.heap.size 5 i0 (.int .u8 0) 1 1 Try.underlying22 hi hz0 hz1 hz2 rfl (by decide) _ _ _ rfl (World.ownsRow.alloc hown _) ⟨wr.heap.size, 0, none⟩ 1 1 (cellsOf [UInt8.ofNat m']) rfl rfl ?c1 (cellsOf_oneCell _) (by rw [List.length_append]; unfold maxLen; omega) (by rw [List.length_append]; omega) (by simp; omega) ?_)
      case c1 => rw [u8v_small hlt]; exact cell_one_new _ _ _
      intro v' w2 hown2 hgrow2 _
      go_wp2
      go_ret
      refine ⟨_, rfl, ?_, ?_⟩
      · rw [hlaid.last hlt]
        exact own_of hown2 (by simp only [List.length_append, List.length_singleton]; omega) (by simp only [cellsOf_append, List.append_assoc])
      · refine (hbel.alloc (by omega) _).grown hgrow2 (by simp; omega) fun k hk => ?_
        exact (World.ownsRow.lt hown k hk).1
    · obtain ⟨k', hlaid'⟩ := hlaid.next hlt
      have hw128 : IntKind.u64.wrap ((m' : Int) / (128 : Int)) = ((m' / 128 : Nat) : Int) := by
        have h1 := hn.out
        have h2 := wrap_u64_nat (m := m' / 128) (by omega)
        rw [← h2]
        congr 1
      have HW := Lib.hid hw128
      clear hw128
      go_wp2_with (at_builtin; refine wpList_append_own _ rfl _ _ 22 rfl w.heap.size 5 i0 (.int .u8 0) 1 1 Try.underlying22 hi hz0 hz1 hz2 rfl (by decide) _ _ _ rfl (World.ownsRow.alloc hown _) ⟨wr.heap.size, 0, none⟩ 1 1 (cellsOf [hib m']) rfl rfl ?c1 (cellsOf_oneCell _) (by rw [List.length_append]; unfold maxLen; omega) (by rw [List.length_append]; omega) (by simp; omega) ?_)
      case c1 => rw [hib_cell]; exact cell_one_new _ _ _
      intro v' w2 hown2 hgrow2 _
      go_wp2
      rw [HW.out]
      go_roundw
      case rel =>
        refine ⟨k', m' / 128, done ++ [hib m'], rfl, ?_, ?_, hlaid', by omega⟩
        · exact own_of hown2 (by simp only [List.length_append, List.length_singleton]; omega) (by simp only [cellsOf_append, List.append_assoc])
        · refine (hbel.alloc (by omega) _).grown hgrow2 (by simp; omega) fun k hk => ?_
          exact (World.ownsRow.lt hown k hk).1
      case measure => simp [intOf]; omega

end Go.Proofs.Ytoeaaddkeefgoaa
