/-
  What the law's tells does: does a disk tell what the document's does?
-/
import Derived.Test.YthamjlhkiabcnaaDRefCut
import Derived.Test.YthamjlhkiabcnaaDCopy
namespace Go.Proofs.Ythamjlhkiabcnaa
open Go.RowKit

theorem readV_form (d : Dk) (n : Int) : ∃ (s : ByteArray) (e : Int), d.readV n = .tuple #[.string s, .int .i64 e] := by
  unfold Dk.readV
  split
  · exact ⟨_, _, rfl⟩
  · split
    · exact ⟨_, _, rfl⟩
    · exact ⟨_, _, rfl⟩

theorem told_of {f : FuncId} {args : Array Value} {w : World} {b : Bool} (hb : b = true) (h : Calls Try.prog f args w (Told b w)) : Calls Try.prog f args w (Told true w) := by
  subst hb; exact h
theorem own_any {w : World} {base : Nat} {e : TypeId} {g n cap size : Nat} {cs : List Value} (h : w.ownsRow base e size (.slice (some ⟨g, 0, none⟩) n cap) n cs) {j : Nat} (hj : j < n * size) : ∃ u, w.cell? ⟨g, j, none⟩ = some u := by
  rw [h.cellAt j hj]
  exact ⟨_, List.getElem?_eq_getElem (by rw [h.1]; exact hj)⟩

section
variable {w : World} {B a b : Nat} {S T : Nat → Prop} {d : Dk}

set_option maxRecDepth 20000 in
set_option maxHeartbeats 6400000 in
theorem tells_any (hd : IsDisk w B a S d) (hr : IsRef w B b T d) :
    Calls Try.prog 16 #[.pointer (some ⟨a, 0, none⟩), .pointer (some ⟨b, 0, none⟩)] w fun e w' => e = .returned (.bool true) ∧ Below w.heap.size w w' := by
  have HD := Lib.hid hd
  have HR := Lib.hid hr
  have hlen := hd.2.le
  have hpos := hd.2.pos
  have hlog := hd.2.logLen
  have hlo := hd.2.leftLo
  have hhi := hd.2.leftHi
  have HL := Lib.hid (left_any hd)
  clear hd hr
  go_enter Try.func16, Try.ntmps16
  go_wp2_with fail
  refine HL.out.mono ?_
  rintro e w1 ⟨rfl, rfl⟩
  obtain ⟨lf, ar, hleft, hc3, hc4⟩ : ∃ (lf : Int) (ar : Bool), leftS d = .tuple #[.int .i64 lf, .bool ar] ∧ decide (d.left ≠ -1) = ar ∧ (if d.left = -1 then 0 else d.left) = lf := by
    unfold leftS
    by_cases h : d.left = -1
    · exact ⟨0, false, by simp [h], by simp [h], by simp [h]⟩
    · exact ⟨d.left, true, by simp [h], by simp [h], by simp [h]⟩
  rw [hleft]
  have HC3 := Lib.hid hc3
  have HC4 := Lib.hid hc4
  clear hleft hc3 hc4 hlo hhi HL
  go_wp2_with fail
  refine (image_any HD.out).mono ?_
  rintro e w1 ⟨v1, rfl, o1, b1⟩
  rcases o1.2 with ⟨_, h0⟩ | ⟨gi, icap, icur, rfl, hgi, _, _, _, _, _⟩
  · omega
  have hgil : gi < w1.heap.size := (o1.lt gi rfl).2
  have O1 := Lib.hid o1
  clear o1
  go_wp2_with fail
  refine (log_any (HD.out.below b1)).mono ?_
  rintro e w2 ⟨v2, rfl, o2, b2⟩
  obtain ⟨la, lc, rfl, _, hlr⟩ := (row_of_own o2).room
  have O2 := Lib.hid o2
  have HLR := Lib.hid hlr
  have O1' := Lib.hid (own_keep O1.out (touch_of_below b2 fun _ => False) fun _ _ h => h)
  have bb := bthen b1 b2
  have D2 := Lib.hid (HD.out.below bb)
  have R2 := Lib.hid (HR.out.below bb)
  have hz := b1.size
  clear o2 hlr O1 b1 b2
  obtain ⟨⟨rfv, rbv, rlv, hro⟩, _⟩ := R2.out
  have q1 := hro.c1
  have q2 := hro.c2
  obtain ⟨q3, q4, q5⟩ := three_cells hro.block
  rw [HC3.out] at q3
  rw [HC4.out] at q4
  obtain ⟨ra, rc, rfl⟩ := hro.rnow.shape
  obtain ⟨rla, rlc, rfl⟩ := hro.rlog.shape
  have T1 := Lib.hid fun n => told_of (decide_eq_true rfl) (texts_any (w := w2.drewN n) ((row_of_own O1'.out).below (below_drewN (Below.refl _ _) n)) (hro.rnow.below (below_drewN (Below.refl _ _) n)) (by omega))
  have T2 := Lib.hid fun n => told_of (decide_eq_true rfl) (writesEq_any (w := w2.drewN n) ((row_of_own O2.out).below (below_drewN (Below.refl _ _) n)) (hro.rlog.below (below_drewN (Below.refl _ _) n)) (by omega))
  have D2' := Lib.hid fun n => D2.out.below (below_drewN (Below.refl w2.heap.size w2) n)
  clear hro
  go_wp2_with fail
  go_quiet ((first
    | (go_at_call 26; exact Calls.quiet_of_same ((dead_any (D2'.out _)).mono fun _ _ ⟨h1, h2⟩ => ⟨h1, h2.symm⟩))
    | (go_at_call 20; exact Calls.quiet_of_same ((blocks_any (D2'.out _)).mono fun _ _ ⟨h1, h2⟩ => ⟨h1, h2.symm⟩))
    | (go_at_call 27; exact Calls.quiet_of_same ((writes_any (D2'.out _)).mono fun _ _ ⟨h1, h2⟩ => ⟨h1, h2.symm⟩))
    | (go_at_call 24; exact told_quiet T1.out _)
    | (go_at_call 29; exact told_quiet T2.out _)))
  have DN := Lib.hid (D2'.out nq)
  have RN := Lib.hid (R2.out.below (below_drewN (Below.refl w2.heap.size w2) nq))
  have ON1 := Lib.hid (own_keep O1'.out (touch_drewN w2 nq fun _ => False) fun _ _ h => h)
  have ON2 := Lib.hid (own_keep O2.out (touch_drewN w2 nq fun _ => False) fun _ _ h => h)
  have bn := below_drewN' bb nq
  have HLO2 := Lib.hid O2.out.lt
  clear q1 q2 q3 q4 q5 T1 T2 D2' D2 R2 O1' O2 bb
  generalize w2.drewN nq = W at *
  have HSl := Lib.hid HD.out.lt
  have HTl := Lib.hid HR.out.lt
  clear HLR
  go_wp2_with fail
  go_loopw [9] (fun i wr => ∃ (k : Nat) (cs : List Value), k ≤ d.now.length ∧ i = .int .i64 (k : Int) ∧ wr.ownsRow w.heap.size 9 1 (.slice (some ⟨gi, 0, none⟩) d.now.length icap) d.now.length cs ∧ wr.ownsRow w1.heap.size 51 2 (.slice la d.log.length lc) d.log.length (wrs d.log) ∧ Below w.heap.size w wr) (fun i _ => d.now.length - (intOf i).toNat)
  case atStart => exact ⟨0, _, Nat.zero_le _, rfl, ON1.out, ON2.out, bn⟩
  case round =>
    obtain ⟨k, cs, hk, rfl, ho1, ho2, hb⟩ := hrel
    have HO1 := Lib.hid ho1
    have HO2 := Lib.hid ho2
    by_cases hlt : k < d.now.length
    · obtain ⟨u0, hu0⟩ := own_any ho1 (j := k) (by omega)
      have hfz := fun o => ho1.frozenAt o
      clear ho1 ho2
      go_wp2_with fail
      go_roundw
      case rel =>
        have ht : Touch (fun q => q = gi) wr (wr.setCell ⟨gi, k, none⟩ (.string ⟨#[63]⟩)) := touch_set wr gi k _ _ rfl
        refine ⟨k + 1, _, by omega, by go_num, (HO1.out.stored k (.string ⟨#[63]⟩)).1, own_keep HO2.out ht (fun q hq e => ?_), hb.trans (ht.below hb.size (fun q e => by subst e; exact hgi))⟩
        subst e
        have h1 := (HO2.out.lt q hq).1
        have h2 : q < w1.heap.size := hgil
        omega
      case measure => simp [intOf]; omega
    · clear ho1 ho2
      go_wp2_with fail
      go_loopw [10] (fun i wr => ∃ (k : Nat) (cs : List Value), k ≤ d.log.length ∧ i = .int .i64 (k : Int) ∧ wr.ownsRow w1.heap.size 51 2 (.slice la d.log.length lc) d.log.length cs ∧ Below w.heap.size w wr) (fun i _ => d.log.length - (intOf i).toNat)
      case atStart => exact ⟨0, _, Nat.zero_le _, rfl, HO2.out, hb⟩
      case round =>
        obtain ⟨j, cs2, hj, rfl, ho3, hb3⟩ := hrel
        by_cases hjt : j < d.log.length
        · rcases ho3.2 with ⟨_, h0⟩ | ⟨gl, lcap, lcur, hle, hgl, _, _, _, _, _⟩
          · omega
          simp only [Value.slice.injEq, true_and] at hle
          obtain ⟨rfl, rfl⟩ := hle
          have HO3 := Lib.hid ho3
          obtain ⟨u0, hu0⟩ := own_any ho3 (j := j * 2) (by omega)
          obtain ⟨u1, hu1⟩ := own_any ho3 (j := j * 2 + 1) (by omega)
          have hfz := fun o => ho3.frozenAt o
          clear ho3
          go_wp2_with fail
          go_roundw
          case rel =>
            have s1 := (HO3.out.stored (j * 2) (.int .i64 (-1))).1
            have s2 := (s1.stored (j * 2 + 1) (.string ⟨#[]⟩)).1
            have hgw : w.heap.size ≤ gl := Nat.le_trans hz hgl
            exact ⟨j + 1, _, by omega, by go_num, s2, (hb3.setCell (p := ⟨gl, j * 2, none⟩) hgw _).setCell (p := ⟨gl, j * 2 + 1, none⟩) hgw _⟩
          case measure => simp [intOf]; omega
        · clear ho3 HO1 HO2
          have D3 := Lib.hid (HD.out.below hb3)
          have R3 := Lib.hid (HR.out.below hb3)
          obtain ⟨⟨rfv3, rbv3, rlv3, hro3⟩, _⟩ := R3.out
          have p1 := hro3.c1
          obtain ⟨ra3, rc3, rfl⟩ := hro3.rnow.shape
          have HRO3 := Lib.hid hro3
          clear hro3
          go_wp2_with fail
          go_loop [11] (fun i => ∃ m : Int, -1 ≤ m ∧ m ≤ d.now.length + 1 ∧ i = .int .i64 m) (fun i => (d.now.length + 1 - intOf i).toNat)
          case atStart => exact ⟨-1, by omega, by omega, rfl⟩
          case round =>
            obtain ⟨m, hm1, hm2, rfl⟩ := hrel
            by_cases hmt : m ≤ d.now.length
            · obtain ⟨s, e, hform⟩ := readV_form d m
              have g1 := read_any D3.out m
              have g2 := refRead_any R3.out m
              rw [hform] at g1 g2
              have G1 := Lib.hid g1
              have G2 := Lib.hid g2
              clear g1 g2 hform
              go_wp2_with fail
              refine G1.out.mono ?_
              rintro e' w5 ⟨rfl, rfl⟩
              go_wp2_with fail
              refine G2.out.mono ?_
              rintro e' w5 ⟨rfl, rfl⟩
              go_wp2_with fail
              refine (num_any _ _).mono ?_
              rintro e' w5 ⟨rfl, rfl⟩
              go_wp2_with fail
              go_round
              case rel => exact ⟨m + 1, by omega, by omega, rfl⟩
              case measure => simp [intOf]; omega
            · have hmt' : (d.now.length : Int) < m := by omega
              clear hmt
              go_wp2_with fail
              obtain ⟨la3, lc3, rfl⟩ := HRO3.out.rlog.shape
              have p2 := HRO3.out.c2
              refine lex_start [2, 3, 4, 5, 0, 1, 6, 7, 8, 10, 11, 12, 13, 9, 14, 15, 16] (S := fun W => Stay wr W) (by kernel_rfl) (Stay.here _) (fun hS => ?_)
              simp only [inOrder, List.filterMap, List.getElem?_cons_succ, List.getElem?_cons_zero]
              refine lex_take (i := 2) (v := ?_) rfl (by kernel_rfl) (by kernel_rfl) (by kernel_rfl) (by rfl) hS ?_ ?_
              rotate_left
              · ((intro W hW; go_simp) <;> with_reducible rfl)
              simp only [Act.put, List.setIfInBounds_toArray, List.set_cons_zero, List.set_cons_succ]
              refine lex_take (i := 3) (v := ?_) rfl (by kernel_rfl) (by kernel_rfl) (by kernel_rfl) (by rfl) hS ?_ ?_
              rotate_left
              · ((intro W hW; go_simp) <;> with_reducible rfl)
              simp only [Act.put, List.setIfInBounds_toArray, List.set_cons_zero, List.set_cons_succ]
              refine lex_take (i := 4) (v := ?_) rfl (by kernel_rfl) (by kernel_rfl) (by kernel_rfl) (by rfl) hS ?_ ?_
              rotate_left
              · ((intro W hW; go_simp) <;> with_reducible rfl)
              simp only [Act.put, List.setIfInBounds_toArray, List.set_cons_zero, List.set_cons_succ]
              refine lex_take (i := 5) (v := ?_) rfl (by kernel_rfl) (by kernel_rfl) (by kernel_rfl) (by rfl) hS ?_ ?_
              rotate_left
              · ((intro W hW; have k1 := cell_later hW p1; go_simp) <;> with_reducible rfl)
              simp only [Act.put, List.setIfInBounds_toArray, List.set_cons_zero, List.set_cons_succ]
              refine lex_take (i := 0) (v := ?_) rfl (by kernel_rfl) (by kernel_rfl) (by kernel_rfl) (by rfl) hS ?_ ?_
              rotate_left
              · ((intro W hW; go_simp) <;> with_reducible rfl)
              simp only [Act.put, List.setIfInBounds_toArray, List.set_cons_zero, List.set_cons_succ]
              refine lex_call (i := 1) rfl (by kernel_rfl) (by rfl) ?_ _ (image_any (D3.out.below hS)) ?_
              · go_simp
              rintro e u1 ⟨x1, rfl, y1, z1⟩
              have hS1 : Stay wr u1 := Stay.more hS z1
              obtain ⟨xa1, xc1, rfl⟩ := (row_of_own y1).shape
              refine ⟨_, rfl, fun W => Stay wr W, fun W h => h, hS1, ?_⟩
              simp only [Act.put, List.setIfInBounds_toArray, List.set_cons_zero, List.set_cons_succ]
              refine lex_call (i := 6) rfl (by kernel_rfl) (by rfl) ?_ _ (told_of (decide_eq_true rfl) (texts_any (row_of_own y1) (HRO3.out.rnow.below hS1) (by omega))) ?_
              · go_simp
              rintro e u2 ⟨rfl, qn1, rfl⟩
              have hS2 : Stay wr (u1.drewN qn1) := ⟨hS1.os, hS1.tape, hS1.output, hS1.size, hS1.block⟩
              refine ⟨_, rfl, fun W => Stay wr W, fun W h => h, hS2, ?_⟩
              simp only [Act.put, List.setIfInBounds_toArray, List.set_cons_zero, List.set_cons_succ]
              refine lex_take (i := 7) (v := ?_) rfl (by kernel_rfl) (by kernel_rfl) (by kernel_rfl) (by rfl) hS2 ?_ ?_
              rotate_left
              · ((intro W hW; go_simp) <;> with_reducible rfl)
              simp only [Act.put, List.setIfInBounds_toArray, List.set_cons_zero, List.set_cons_succ]
              refine lex_take (i := 8) (v := ?_) rfl (by kernel_rfl) (by kernel_rfl) (by kernel_rfl) (by rfl) hS2 ?_ ?_
              rotate_left
              · ((intro W hW; go_simp) <;> with_reducible rfl)
              simp only [Act.put, List.setIfInBounds_toArray, List.set_cons_zero, List.set_cons_succ]
              refine lex_take (i := 10) (v := ?_) rfl (by kernel_rfl) (by kernel_rfl) (by kernel_rfl) (by rfl) hS2 ?_ ?_
              rotate_left
              · ((intro W hW; go_simp) <;> with_reducible rfl)
              simp only [Act.put, List.setIfInBounds_toArray, List.set_cons_zero, List.set_cons_succ]
              refine lex_take (i := 11) (v := ?_) rfl (by kernel_rfl) (by kernel_rfl) (by kernel_rfl) (by rfl) hS2 ?_ ?_
              rotate_left
              · ((intro W hW; go_simp) <;> with_reducible rfl)
              simp only [Act.put, List.setIfInBounds_toArray, List.set_cons_zero, List.set_cons_succ]
              refine lex_take (i := 12) (v := ?_) rfl (by kernel_rfl) (by kernel_rfl) (by kernel_rfl) (by rfl) hS2 ?_ ?_
              rotate_left
              · ((intro W hW; go_simp) <;> with_reducible rfl)
              simp only [Act.put, List.setIfInBounds_toArray, List.set_cons_zero, List.set_cons_succ]
              refine lex_take (i := 13) (v := ?_) rfl (by kernel_rfl) (by kernel_rfl) (by kernel_rfl) (by rfl) hS2 ?_ ?_
              rotate_left
              · ((intro W hW; have k2 := cell_later hW p2; go_simp) <;> with_reducible rfl)
              simp only [Act.put, List.setIfInBounds_toArray, List.set_cons_zero, List.set_cons_succ]
              refine lex_call (i := 9) rfl (by kernel_rfl) (by rfl) ?_ _ (log_any (D3.out.below hS2)) ?_
              · go_simp
              rintro e u3 ⟨x3, rfl, y3, z3⟩
              have hS3 : Stay wr u3 := Stay.more hS2 z3
              obtain ⟨xa3, xc3, rfl⟩ := (row_of_own y3).shape
              refine ⟨_, rfl, fun W => Stay wr W, fun W h => h, hS3, ?_⟩
              simp only [Act.put, List.setIfInBounds_toArray, List.set_cons_zero, List.set_cons_succ]
              refine lex_call (i := 14) rfl (by kernel_rfl) (by rfl) ?_ _ (told_of (decide_eq_true rfl) (writesEq_any (row_of_own y3) (HRO3.out.rlog.below hS3) (by omega))) ?_
              · go_simp
              rintro e u4 ⟨rfl, qn2, rfl⟩
              have hS4 : Stay wr (u3.drewN qn2) := ⟨hS3.os, hS3.tape, hS3.output, hS3.size, hS3.block⟩
              refine ⟨_, rfl, fun W => Stay wr W, fun W h => h, hS4, ?_⟩
              simp only [Act.put, List.setIfInBounds_toArray, List.set_cons_zero, List.set_cons_succ]
              refine lex_take (i := 15) (v := ?_) rfl (by kernel_rfl) (by kernel_rfl) (by kernel_rfl) (by rfl) hS4 ?_ ?_
              rotate_left
              · ((intro W hW; go_simp) <;> with_reducible rfl)
              simp only [Act.put, List.setIfInBounds_toArray, List.set_cons_zero, List.set_cons_succ]
              refine lex_do (i := 16) rfl (by kernel_rfl) (by rfl) (fun K hK => ?_)
              go_simp
              refine hK _ _ ⟨hS4, ?_⟩
              clear hK K
              refine lex_done (by kernel_rfl) ?_
              go_wp2_with fail
              go_ret
              exact ⟨rfl, bthen hb3 hS4⟩
end

end Go.Proofs.Ythamjlhkiabcnaa
