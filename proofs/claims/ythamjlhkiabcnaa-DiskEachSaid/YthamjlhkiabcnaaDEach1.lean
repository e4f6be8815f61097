/-
  What goes over the blocks that are not empty: the function that Each answers.
-/
import Derived.Test.YthamjlhkiabcnaaDSizes
import Derived.RangeFuncNested
import Derived.RangeFuncBound
import Derived.RangeFuncCalls
import Derived.RangeFuncLeaves
import Derived.Shelf.Abstract
import Derived.OwnWalkIn
import Derived.TacticsInMore
import Derived.LoopNIn
import Derived.LoopIn
namespace Go.Proofs.Ythamjlhkiabcnaa
open Go.RowKit Go.Shelf
attribute [local go_sem] Oper.semAt_some

abbrev EachX := Int × ByteArray
abbrev encE (x : EachX) : Array Value := #[.int .i64 x.1, .string x.2]
/-- The blocks that are not empty among the first k, by rising numbers. -/
def nonE (l : List ByteArray) : Nat → List EachX
  | 0 => []
  | k + 1 => nonE l k ++ (if (l.getD k emptyB).toList.isEmpty then [] else [((k : Int), l.getD k emptyB)])
theorem nonE_len (l : List ByteArray) (k : Nat) : (nonE l k).length ≤ k := by
  induction k with
  | zero => simp [nonE]
  | succ k ih => simp only [nonE, List.length_append]; split <;> simp <;> omega

theorem nonE_pre (l : List ByteArray) {k m : Nat} (h : k ≤ m) : nonE l k <+: nonE l m := by
  induction m with
  | zero => obtain rfl : k = 0 := by omega
            exact List.prefix_refl _
  | succ m ih =>
    by_cases hk : k = m + 1
    · subst hk; exact List.prefix_refl _
    · exact (ih (by omega)).trans (List.prefix_append _ _)

set_option maxHeartbeats 3200000 in
/-- The function that Each answers, over a row of texts that lies below n0 and stays. -/
theorem each_stops (F : Fence) (n : Nat) (h51 : F.fn 51) (hro : F.round = none) (hn : 1 ≤ n) (Bn n0 : Nat) (v : Value) (l : List ByteArray) (w : World) (hBn : Bn < n0)
    (hcell : w.cell? ⟨Bn, 0, none⟩ = some v) (hrow : Row w 1 v l.length (strs l)) (hlow : ∀ k, v.ownBlock = some k → k < n0) (hn0 : n0 ≤ w.heap.size) (hl : l.length ≤ 1099511627776) :
    SeqStopsK F n Try.prog 51 #[.pointer (some ⟨Bn, 0, none⟩)] encE (Below n0) (fun xs => xs = nonE l l.length) (fun pre => pre <+: nonE l l.length) l.length w := by
  intro y J Jx W hW hJ hJx hY h0
  have hc : W.cell? ⟨Bn, 0, none⟩ = some v := (hW.cell (p := ⟨Bn, 0, none⟩) (show Bn < w.heap.size by omega)).trans hcell
  have hr : Row W 1 v l.length (strs l) := hrow.below hW
  obtain ⟨a1, c1, rfl, _, r1⟩ := hr.room
  have R1 := Lib.hid r1
  have HLo := Lib.hid hlow
  have HYY := Lib.hid hY
  have HJ := Lib.hid h0
  clear hr r1 hlow hY h0 hJ hJx hcell hrow
  refine callsIn_of_wp Try.func51 rfl h51 ?_ hro
  simp only [Try.ntmps51, List.size_toArray, List.length_cons, List.length_nil, Nat.reduceAdd, Nat.reduceSub, Array.replicate_succ, Array.replicate_zero, List.push_toArray, List.append_toArray, List.nil_append, List.cons_append]
  gi_wp2
  gi_loopw [7] (fun p wr => ∃ k : Nat, k ≤ l.length ∧ p = .int .i64 (k : Int) ∧ J (nonE l k) wr ∧ Below n0 W wr) (fun p _ => l.length - (intOf p).toNat)
  case atStart =>
    exact ⟨0, Nat.zero_le _, rfl, HJ.out, Below.refl _ _⟩
  case round =>
    obtain ⟨k, hk, rfl, hJk, hbk⟩ := hrel
    have HJk := Lib.hid hJk
    clear hJk
    by_cases hlt : k < l.length
    · obtain ⟨b1, o1, rfl, _, q1⟩ := R1.out (by omega)
      have x1 := q1 k _ (strs_at l k hlt)
      have hb1 : b1 < n0 := HLo.out b1 rfl
      have x1' : _ := (hbk.cell (p := ⟨b1, o1 + k, none⟩) hb1).trans x1
      clear x1 q1
      have hsucc : Hid (nonE l (k + 1) = nonE l k ++ (if (l[k]).toList.isEmpty then [] else [((k : Int), l[k])])) := Lib.hid (by simp only [nonE, List.getD_eq_getElem?_getD, List.getElem?_eq_getElem hlt, Option.getD_some])
      have hpre := nonE_pre l (k := k + 1) (m := l.length) (by omega)
      have HPre := Lib.hid hpre
      clear hpre
      generalize l[k] = s at *
      by_cases he : s.toList = []
      · have he2 : s.toList.isEmpty = true := by simp [he]
        have HE2 := Lib.hid he2
        clear he2
        gi_wp2
        refine ⟨fun _ h => (by cases h), ?_⟩
        gi_wp2
        go_roundw
        case rel => exact ⟨k + 1, by omega, by go_num, by rw [hsucc.out, if_pos HE2.out, List.append_nil]; exact HJk.out, hbk⟩
        case measure => simp [intOf]; omega
      · have he2 : s.toList.isEmpty = false := by simpa using he
        have HE2 := Lib.hid he2
        obtain ⟨fn, tmps, assign, body, hy, hR⟩ := HYY.out (nonE l k) ((k : Int), s) wr HJk.out (by have := nonE_len l k; omega)
        gi_wp2
        refine hR.mono ?_
        rintro e W3 (⟨rfl, hJ3, hk3⟩ | ⟨rfl, hJx3⟩)
        · have HJ3 := Lib.hid hJ3
          clear hJ3
          gi_wp2
          go_roundw
          case rel => exact ⟨k + 1, by omega, by go_num, by rw [hsucc.out, HE2.out]; exact HJ3.out, hbk.trans hk3⟩
          case measure => simp [intOf]; omega
        · have HJx3 := Lib.hid hJx3
          clear hJx3
          gi_wp2
          refine bodyPost_ret (results_none rfl _ _ _) rfl ?_
          refine ⟨⟨_, rfl⟩, .inr ⟨nonE l k ++ [((k : Int), s)], ?_, HJx3.out⟩⟩
          have := HPre.out
          rw [hsucc.out, HE2.out] at this
          exact this
    · obtain rfl : k = l.length := by omega
      gi_wp2
      go_end0
      exact ⟨⟨_, rfl⟩, .inl ⟨_, rfl, HJk.out⟩⟩

end Go.Proofs.Ythamjlhkiabcnaa
