/-
  append of a list of terms to an empty slice that was just made.
  The law's own walk: ViewAlike.
  The statement ViewAlike, as a tied card. No condition.
-/
import Derived.Test.YtgaklaajbepfaaaDoorTMake
import Derived.Test.YtgaklaajbepfaaaDoorTRSub
import Derived.Maps.AppendAt
import Derived.Test.YtgaklaajbepfaaaDoorVLarge
import Derived.Test.YtgaklaajbepfaaaDoorVLiveW
import Derived.Test.YtgaklaajbepfaaaDoorVRelA
import Derived.Test.YtgaklaajbepfaaaDoorTChain
import Derived.Deep.DeepCutAuto
import Derived.Test.YtgaklaajbepfaaaDoorTLaidL
import Derived.Test.YtgaklaajbepfaaaDoorCards
import Derived.Test.YtgaklaajbepfaaaDoorTie
import Derived.JoinedOf
import Derived.ChangeMaps5
import Derived.SevenTiedAt
namespace Go.Proofs.YtgaklaajbepfaaaDoor
open Go.RowKit Go.Maps
set_option linter.unusedVariables false

theorem own_ltT {w : World} {base n size : Nat} {e : TypeId} {v : Value} {xs : List Value} (h : w.ownsRow base e size v n xs) : ∀ r, v.ownBlock = some r → r < w.heap.size := fun r hr => by
  obtain ⟨_, cur, hc⟩ := own_type h hr
  exact (Array.getElem?_eq_some_iff.1 hc).1
theorem own_empty {w : World} {b : Nat} (hb : w.heap[b]? = some (Obj.cells #[] TermT)) : w.ownsRow b TermT 1 (.slice (some ⟨b, 0, none⟩) 0 0) 0 [] := by
  refine ⟨rfl, .inr ⟨b, 0, #[], rfl, Nat.le_refl _, hb, Nat.le_refl _, by unfold maxLen; omega, rfl, rfl⟩⟩
theorem wp_append_tm {w : World} {o : Oper} {a : Act} {K : Act → World → Prop} {Q : Exit → Act → World → Prop} (s x : Operand)
    (ho : o.op = .call { callee := .builtin .append, args := #[s, x], argTypes := #[SlTT, SlTT] })
    (b : Nat) (hs : a.eval s = .slice (some ⟨b, 0, none⟩) 0 0) (hb : w.heap[b]? = some (Obj.cells #[] TermT)) (vx : Value) (l : List Int) (hx : a.eval x = vx) (hrd : Row w 1 vx l.length (ints l))
    (hlen : l.length ≤ 1000000)
    (h : ∀ v' w', w'.ownsRow b TermT 1 v' l.length (ints l) → w.grownBy w' (some b) → (v'.ownBlock = some b ∨ v'.ownBlock = some w.heap.size) → K (a.put o.dst v') w') : Oper.wp Tryd.prog o a w K Q := by
  obtain ⟨i0, hi, hz0, hz1, hz2⟩ := info_parts rowTT
  have hbl : b < w.heap.size := (Array.getElem?_eq_some_iff.1 hb).1
  rcases hrd with ⟨hl, ⟨rfl, h0⟩ | ⟨c, off, cap, rfl, h1, h2, h3, h4⟩⟩
  · obtain rfl : l = [] := List.eq_nil_of_length_eq_zero h0
    have hrun := run_append_owned_none (P := Tryd.prog) (w := w) b SlTT o.type TermT i0 1 Tryd.underlying23 hi _ _ _ (own_empty hb)
    unfold Oper.wp
    simp [execOp, ho, resolve, invoke, builtin, hs, hx, hrun, Result.andThen]
    exact h _ w (own_empty hb) ⟨rfl, rfl, rfl, Nat.le_refl _, fun _ _ _ => rfl⟩ (.inl rfl)
  · obtain ⟨v', w', hr, g2, g3, g4, g5⟩ := run_append_own_at (P := Tryd.prog) w b SlTT o.type TermT i0 (.int .i64 0) 1 8 Tryd.underlying23 hi hz0 hz1 hz2 rfl (by decide) _ 0 [] (own_empty hb) ⟨c, off, none⟩ l.length cap (ints l) (by simp [ints]) (fun j u hj => by have := h4 j u hj; by_cases h0 : j = 0 <;> simp_all [Addr.add]) (ints_oneCellT l) (by unfold maxLen; omega) (by omega) (by omega)
    unfold Oper.wp execOp
    simp only [ho, resolve, invoke, builtin, Sem.run_bind, Sem.run_pure, Result.andThen_ok, List.map_toArray, List.map_cons, List.map_nil, hs, hx, hr]
    exact h v' w' (by simpa using g2) g3 g5
end Go.Proofs.YtgaklaajbepfaaaDoor
namespace Go.Proofs.YtgaklaajbepfaaaDoor
open Go.RowKit Go.Maps Go.Shelf
set_option linter.unusedVariables false

set_option maxRecDepth 100000 in
set_option maxHeartbeats 51200000 in
theorem alikeL_walk {w : World} (hl : Laid w) {fo : Fo} {l m n : List Int} {who : Int} {u0 u1 u2 u3 : Value} (hk : IsK w (fun b => b < w.heap.size) u0 fo) (hok : OkF fo) (h1 : Row w 1 u1 l.length (ints l)) (h2 : Row w 1 u2 m.length (ints m)) (h3 : Row w 1 u3 n.length (ints n)) : Calls Tryd.prog 3 #[.agg #[u0, u1, u2, u3, .int .i64 who]] w fun e w' => e = .returned (.bool true) ∧ Below w.heap.size w w' := by
  obtain ⟨a0, k0, rfl, _⟩ := hk.shape
  obtain ⟨a1, k1, rfl, _⟩ := h1.at
  obtain ⟨a2, k2, rfl, _⟩ := h2.at
  obtain ⟨a3, k3, rfl, _⟩ := h3.at
  have bx := bA0 w (.cells #[.slice a0 fo.len k0, .slice a1 l.length k1, .slice a2 m.length k2, .slice a3 n.length k3, .int .i64 who] LisT)
  have hx := heap_alloc_new w (.cells #[.slice a0 fo.len k0, .slice a1 l.length k1, .slice a2 m.length k2, .slice a3 n.length k3, .int .i64 who] LisT)
  have hk1 := hk.below bx
  have hk2 := hk1.of (w' := w) (G' := fun b => b < (w.alloc (.cells #[.slice a0 fo.len k0, .slice a1 l.length k1, .slice a2 m.length k2, .slice a3 n.length k3, .int .i64 who] LisT)).heap.size) (fun b hb _ => Nat.lt_of_lt_of_le hb bx.size)
  have LG := Lib.hid (vlarge_any (who := who) hk2 (h1.below bx) (h2.below bx) (h3.below bx))
  have HLD := Lib.hid hl
  have HKK := Lib.hid hk
  have R1 := Lib.hid h1
  have R2 := Lib.hid h2
  have HOK := Lib.hid hok
  have HBX := Lib.hid bx
  have HX := Lib.hid hx
  clear hk hk1 hk2 h1 h2 h3 bx hx hl hok
  go_enter Tryd.func3, Tryd.ntmps3
  go_upto_region 1 with fail
  generalize (w.alloc (.cells #[.slice a0 fo.len k0, .slice a1 l.length k1, .slice a2 m.length k2, .slice a3 n.length k3, .int .i64 who] LisT)) = w1 at *
  have z0 : w1.cell? ⟨w.heap.size, 0, none⟩ = some (.slice a0 fo.len k0) := cellB (j := 0) HX.out rfl
  have z1 : w1.cell? ⟨w.heap.size, 1, none⟩ = some (.slice a1 l.length k1) := cellB (j := 1) HX.out rfl
  have z2 : w1.cell? ⟨w.heap.size, 2, none⟩ = some (.slice a2 m.length k2) := cellB (j := 2) HX.out rfl
  have z3 : w1.cell? ⟨w.heap.size, 3, none⟩ = some (.slice a3 n.length k3) := cellB (j := 3) HX.out rfl
  have z4 : w1.cell? ⟨w.heap.size, 4, none⟩ = some (.int .i64 who) := cellB (j := 4) HX.out rfl
  go_wp2_with fail
  refine LG.out.mono ?_
  rintro e w2 ⟨⟨q, rfl, hq⟩, u2⟩
  clear z0 z1 z2 z3 z4 LG
  have HU2 := Lib.hid (bmore HBX.out u2)
  replace HX := Lib.hid (Hold.below u2 _ _ HX.out)
  clear u2 HBX
  cases q with
  | true =>
    clear hq
    have LV := Lib.hid (live_any (HLD.out.below HU2.out))
    go_wp2_with fail
    refine LV.out.mono ?_
    rintro e w3 ⟨rfl, u3⟩
    have HU3 := Lib.hid (bmore HU2.out u3)
    clear u3 LV
    go_wp2_with fail
    go_returns
    exact ⟨rfl, HU3.out⟩
  | false =>
    have HQ := Lib.hid (hq rfl)
    clear hq
    have z0 : w2.cell? ⟨w.heap.size, 0, none⟩ = some (.slice a0 fo.len k0) := cellB (j := 0) HX.out rfl
    have hk1 := HKK.out.below HU2.out
    have hk2 := hk1.of (w' := w) (G' := fun b => b < w2.heap.size) (fun b hb _ => Nat.lt_of_lt_of_le hb HU2.out.size)
    have PO := Lib.hid (pools_any (HLD.out.below HU2.out) hk2 HOK.out (by have := HQ.out.2.1; omega) (by have := HQ.out.1; omega))
    clear hk1 hk2
    go_wp2_with fail
    refine PO.out.mono ?_
    rintro e w3 ⟨pa, b, ra, vv, rl, rs, rd, p, rfl, hp, hr, u3, hlen⟩
    clear z0 PO
    have HP := Lib.hid hp
    have HR := Lib.hid hr
    have HU3 := Lib.hid (bmore HU2.out u3)
    replace HX := Lib.hid (Hold.below u3 _ _ HX.out)
    replace R1 := Lib.hid (R1.out.below (bmore HU2.out u3))
    replace R2 := Lib.hid (R2.out.below (bmore HU2.out u3))
    have HLL : Hid (l.length ≤ 12 ∧ m.length ≤ 12) := Lib.hid ⟨HQ.out.2.2.1, HQ.out.2.2.2.1⟩
    clear hp hr u3 hlen HU2 HKK HOK HQ
    generalize w2.heap.size = B2 at *
    go_upto_region 6 with fail
    go_cut [6, 7] (fun s6 s7 wx => ∃ x1 y1 x2 y2, s6 = .slice x1 l.length y1 ∧ s7 = .slice x2 m.length y2 ∧ Row wx 1 (.slice x1 l.length y1) l.length (ints l) ∧ Row wx 1 (.slice x2 m.length y2) m.length (ints m) ∧ Below w3.heap.size w3 wx)
    case first =>
      have hl12 : l.length ≤ 12 := HLL.out.1
      have hm12 : m.length ≤ 12 := HLL.out.2
      have HK : Hid (∀ V : World, Below w3.heap.size w3 V → V.cell? ⟨w.heap.size, 1, none⟩ = some (.slice a1 l.length k1) ∧ V.cell? ⟨w.heap.size, 2, none⟩ = some (.slice a2 m.length k2)) := Lib.hid fun V h => ⟨bcellAt h (cellB (j := 1) HX.out rfl), bcellAt h (cellB (j := 2) HX.out rfl)⟩
      have U0 := Lib.hid (bd w3)
      refine lex_start [1, 2, 5, 6, 0, 3, 4, 7, 8, 9] (S := fun V => V.cell? ⟨w.heap.size, 1, none⟩ = some (.slice a1 l.length k1) ∧ V.cell? ⟨w.heap.size, 2, none⟩ = some (.slice a2 m.length k2)) (by kernel_rfl) (HK.out _ U0.out) (fun hS => ?_)
      clear hS
      simp only [inOrder, List.filterMap, List.getElem?_cons_succ, List.getElem?_cons_zero]
      generalize w3.drew = V0 at *
      refine lex_take (i := 1) (v := ?_) rfl (by kernel_rfl) (by kernel_rfl) (by kernel_rfl) (by rfl) (HK.out _ U0.out) ?_ ?_
      rotate_left
      · ((intro W hW; obtain ⟨k0, k1⟩ := hW; go_simp) <;> with_reducible rfl)
      simp only [Act.put, List.setIfInBounds_toArray, List.set_cons_zero, List.set_cons_succ]
      refine lex_take (i := 2) (v := ?_) rfl (by kernel_rfl) (by kernel_rfl) (by kernel_rfl) (by rfl) (HK.out _ U0.out) ?_ ?_
      rotate_left
      · ((intro W hW; obtain ⟨k0, k1⟩ := hW; go_simp) <;> with_reducible rfl)
      simp only [Act.put, List.setIfInBounds_toArray, List.set_cons_zero, List.set_cons_succ]
      refine lex_take (i := 5) (v := ?_) rfl (by kernel_rfl) (by kernel_rfl) (by kernel_rfl) (by rfl) (HK.out _ U0.out) ?_ ?_
      rotate_left
      · ((intro W hW; obtain ⟨k0, k1⟩ := hW; go_simp) <;> with_reducible rfl)
      simp only [Act.put, List.setIfInBounds_toArray, List.set_cons_zero, List.set_cons_succ]
      refine lex_take (i := 6) (v := ?_) rfl (by kernel_rfl) (by kernel_rfl) (by kernel_rfl) (by rfl) (HK.out _ U0.out) ?_ ?_
      rotate_left
      · ((intro W hW; obtain ⟨k0, k1⟩ := hW; go_simp) <;> with_reducible rfl)
      simp only [Act.put, List.setIfInBounds_toArray, List.set_cons_zero, List.set_cons_succ]
      refine lex_reorder [0, 4, 3, 7, 8, 9] ?_
      simp only [inOrder, List.filterMap, List.getElem?_cons_succ, List.getElem?_cons_zero]
      refine lex_two (i := 0) (j := 4) rfl rfl (by kernel_rfl) (by rfl) (by rfl) (fun K hK => ?_) (fun K hK => ?_)
      · go_simp
        refine hK _ _ ⟨HK.out _ (bAl U0.out _), ?_⟩
        clear hK K
        have U1 := Lib.hid (bAl U0.out (.cells #[] TermT))
        have B1 := Lib.hid (heap_alloc_new V0 (.cells #[] TermT))
        have Z1 := Lib.hid U0.out.size
        generalize V0.alloc (.cells #[] TermT) = V1 at *
        generalize V0.heap.size = b1 at *
        clear U0
        try simp only [Act.put, List.setIfInBounds_toArray, List.set_cons_zero, List.set_cons_succ]
        refine lex_reorder [3, 4, 7, 8, 9] ?_
        simp only [inOrder, List.filterMap, List.getElem?_cons_succ, List.getElem?_cons_zero]
        refine lex_two (i := 3) (j := 4) rfl rfl (by kernel_rfl) (by rfl) (by rfl) (fun K hK => ?_) (fun K hK => ?_)
        · refine wp_append_tm _ _ (by rfl) b1 (by rfl) B1.out _ l (by rfl) (R1.out.below U1.out) (by omega) ?_
          intro v1 V2 o1 g1 q1
          have U2 := Lib.hid (U1.out.trans (grown_below g1 U1.out.size (fun k e => by cases e; exact Z1.out)))
          refine hK _ _ ⟨HK.out _ U2.out, ?_⟩
          clear hK K
          have O1 := Lib.hid o1
          clear o1 g1 q1 B1 U1
          try simp only [Act.put, List.setIfInBounds_toArray, List.set_cons_zero, List.set_cons_succ]
          refine lex_reorder [4, 7, 8, 9] ?_
          simp only [inOrder, List.filterMap, List.getElem?_cons_succ, List.getElem?_cons_zero]
          refine lex_do (i := 4) rfl (by kernel_rfl) (by rfl) (fun K hK => ?_)
          go_simp
          refine hK _ _ ⟨HK.out _ (bAl U2.out _), ?_⟩
          clear hK K
          have U3 := Lib.hid (bAl U2.out (.cells #[] TermT))
          have B2 := Lib.hid (heap_alloc_new V2 (.cells #[] TermT))
          have Z2 := Lib.hid U2.out.size
          have N2 : Hid (v1.ownBlock ≠ some V2.heap.size) := Lib.hid (fun e => Nat.lt_irrefl _ (own_ltT O1.out _ e))
          replace O1 := Lib.hid (own_hold O1.out (Hold.below (bA0 V2 (.cells #[] TermT))))
          generalize V2.alloc (.cells #[] TermT) = V3 at *
          generalize V2.heap.size = b2 at *
          clear U2
          try simp only [Act.put, List.setIfInBounds_toArray, List.set_cons_zero, List.set_cons_succ]
          refine lex_reorder [7, 8, 9] ?_
          simp only [inOrder, List.filterMap, List.getElem?_cons_succ, List.getElem?_cons_zero]
          refine lex_do (i := 7) rfl (by kernel_rfl) (by rfl) (fun K hK => ?_)
          refine wp_append_tm _ _ (by rfl) b2 (by rfl) B2.out _ m (by rfl) (R2.out.below U3.out) (by omega) ?_
          intro v2 V4 o2 g2 q2
          have U4 := Lib.hid (U3.out.trans (grown_below g2 U3.out.size (fun k e => by cases e; exact Z2.out)))
          refine hK _ _ ⟨HK.out _ U4.out, ?_⟩
          clear hK K
          have O2 := Lib.hid o2
          replace O1 := Lib.hid (own_kept O1.out g2 (fun r e => by cases e; exact N2.out))
          clear o2 g2 q2 B2 U3
          try simp only [Act.put, List.setIfInBounds_toArray, List.set_cons_zero, List.set_cons_succ]
          refine lex_take (i := 8) (v := ?_) rfl (by kernel_rfl) (by kernel_rfl) (by kernel_rfl) (by rfl) (HK.out _ U4.out) ?_ ?_
          rotate_left
          · ((intro W hW; obtain ⟨k0, k1⟩ := hW; go_simp) <;> with_reducible rfl)
          simp only [Act.put, List.setIfInBounds_toArray, List.set_cons_zero, List.set_cons_succ]
          refine lex_take (i := 9) (v := ?_) rfl (by kernel_rfl) (by kernel_rfl) (by kernel_rfl) (by rfl) (HK.out _ U4.out) ?_ ?_
          rotate_left
          · ((intro W hW; obtain ⟨k0, k1⟩ := hW; go_simp) <;> with_reducible rfl)
          simp only [Act.put, List.setIfInBounds_toArray, List.set_cons_zero, List.set_cons_succ]
          refine lex_done (by kernel_rfl) ?_
          obtain ⟨s1, t1, rfl⟩ := (row_of_own O1.out).shape
          obtain ⟨s2, t2, rfl⟩ := (row_of_own O2.out).shape
          go_wp2_with fail
          go_meet
          exact ⟨s1, t1, s2, t2, rfl, rfl, row_of_own O1.out, row_of_own O2.out, U4.out⟩
        · go_simp
          refine hK _ _ ⟨HK.out _ (bAl U1.out _), ?_⟩
          clear hK K
          have U2 := Lib.hid (bAl U1.out (.cells #[] TermT))
          have B2 := Lib.hid (heap_alloc_new V1 (.cells #[] TermT))
          have Z2 := Lib.hid U1.out.size
          have N1 : Hid (b1 ≠ V1.heap.size) := Lib.hid (Nat.ne_of_lt (Array.getElem?_eq_some_iff.1 B1.out).1)
          replace B1 := Lib.hid (Hold.below (bA0 V1 (.cells #[] TermT)) _ _ B1.out)
          generalize V1.alloc (.cells #[] TermT) = V2 at *
          generalize V1.heap.size = b2 at *
          clear U1
          try simp only [Act.put, List.setIfInBounds_toArray, List.set_cons_zero, List.set_cons_succ]
          refine lex_reorder [3, 7, 8, 9] ?_
          simp only [inOrder, List.filterMap, List.getElem?_cons_succ, List.getElem?_cons_zero]
          refine lex_do (i := 3) rfl (by kernel_rfl) (by rfl) (fun K hK => ?_)
          refine wp_append_tm _ _ (by rfl) b1 (by rfl) B1.out _ l (by rfl) (R1.out.below U2.out) (by omega) ?_
          intro v1 V3 o1 g1 q1
          have U3 := Lib.hid (U2.out.trans (grown_below g1 U2.out.size (fun k e => by cases e; exact Z1.out)))
          refine hK _ _ ⟨HK.out _ U3.out, ?_⟩
          clear hK K
          have O1 := Lib.hid o1
          have NJ : Hid (b2 ≠ b1) := Lib.hid (by have := N1.out; omega)
          have N2 : Hid (v1.ownBlock ≠ some b2) := Lib.hid (fun e => by have h1 := (Array.getElem?_eq_some_iff.1 B2.out).1; have h2 := NJ.out; rcases q1 with q | q <;> rw [q] at e <;> have h3 := Option.some.inj e <;> omega)
          replace B2 := Lib.hid ((g1.block b2 (Array.getElem?_eq_some_iff.1 B2.out).1 (fun e => NJ.out (Option.some.inj e))).trans B2.out)
          clear NJ
          clear o1 g1 q1 B1 U2
          try simp only [Act.put, List.setIfInBounds_toArray, List.set_cons_zero, List.set_cons_succ]
          refine lex_reorder [7, 8, 9] ?_
          simp only [inOrder, List.filterMap, List.getElem?_cons_succ, List.getElem?_cons_zero]
          refine lex_do (i := 7) rfl (by kernel_rfl) (by rfl) (fun K hK => ?_)
          refine wp_append_tm _ _ (by rfl) b2 (by rfl) B2.out _ m (by rfl) (R2.out.below U3.out) (by omega) ?_
          intro v2 V4 o2 g2 q2
          have U4 := Lib.hid (U3.out.trans (grown_below g2 U3.out.size (fun k e => by cases e; exact Z2.out)))
          refine hK _ _ ⟨HK.out _ U4.out, ?_⟩
          clear hK K
          have O2 := Lib.hid o2
          replace O1 := Lib.hid (own_kept O1.out g2 (fun r e => by cases e; exact N2.out))
          clear o2 g2 q2 B2 U3
          try simp only [Act.put, List.setIfInBounds_toArray, List.set_cons_zero, List.set_cons_succ]
          refine lex_take (i := 8) (v := ?_) rfl (by kernel_rfl) (by kernel_rfl) (by kernel_rfl) (by rfl) (HK.out _ U4.out) ?_ ?_
          rotate_left
          · ((intro W hW; obtain ⟨k0, k1⟩ := hW; go_simp) <;> with_reducible rfl)
          simp only [Act.put, List.setIfInBounds_toArray, List.set_cons_zero, List.set_cons_succ]
          refine lex_take (i := 9) (v := ?_) rfl (by kernel_rfl) (by kernel_rfl) (by kernel_rfl) (by rfl) (HK.out _ U4.out) ?_ ?_
          rotate_left
          · ((intro W hW; obtain ⟨k0, k1⟩ := hW; go_simp) <;> with_reducible rfl)
          simp only [Act.put, List.setIfInBounds_toArray, List.set_cons_zero, List.set_cons_succ]
          refine lex_done (by kernel_rfl) ?_
          obtain ⟨s1, t1, rfl⟩ := (row_of_own O1.out).shape
          obtain ⟨s2, t2, rfl⟩ := (row_of_own O2.out).shape
          go_wp2_with fail
          go_meet
          exact ⟨s1, t1, s2, t2, rfl, rfl, row_of_own O1.out, row_of_own O2.out, U4.out⟩
      · go_simp
        refine hK _ _ ⟨HK.out _ (bAl U0.out _), ?_⟩
        clear hK K
        have U1 := Lib.hid (bAl U0.out (.cells #[] TermT))
        have B2 := Lib.hid (heap_alloc_new V0 (.cells #[] TermT))
        have Z2 := Lib.hid U0.out.size
        generalize V0.alloc (.cells #[] TermT) = V1 at *
        generalize V0.heap.size = b2 at *
        clear U0
        try simp only [Act.put, List.setIfInBounds_toArray, List.set_cons_zero, List.set_cons_succ]
        refine lex_reorder [0, 3, 7, 8, 9] ?_
        simp only [inOrder, List.filterMap, List.getElem?_cons_succ, List.getElem?_cons_zero]
        refine lex_do (i := 0) rfl (by kernel_rfl) (by rfl) (fun K hK => ?_)
        go_simp
        refine hK _ _ ⟨HK.out _ (bAl U1.out _), ?_⟩
        clear hK K
        have U2 := Lib.hid (bAl U1.out (.cells #[] TermT))
        have B1 := Lib.hid (heap_alloc_new V1 (.cells #[] TermT))
        have Z1 := Lib.hid U1.out.size
        have N1 : Hid (b2 ≠ V1.heap.size) := Lib.hid (Nat.ne_of_lt (Array.getElem?_eq_some_iff.1 B2.out).1)
        replace B2 := Lib.hid (Hold.below (bA0 V1 (.cells #[] TermT)) _ _ B2.out)
        generalize V1.alloc (.cells #[] TermT) = V2 at *
        generalize V1.heap.size = b1 at *
        clear U1
        try simp only [Act.put, List.setIfInBounds_toArray, List.set_cons_zero, List.set_cons_succ]
        refine lex_reorder [3, 7, 8, 9] ?_
        simp only [inOrder, List.filterMap, List.getElem?_cons_succ, List.getElem?_cons_zero]
        refine lex_do (i := 3) rfl (by kernel_rfl) (by rfl) (fun K hK => ?_)
        refine wp_append_tm _ _ (by rfl) b1 (by rfl) B1.out _ l (by rfl) (R1.out.below U2.out) (by omega) ?_
        intro v1 V3 o1 g1 q1
        have U3 := Lib.hid (U2.out.trans (grown_below g1 U2.out.size (fun k e => by cases e; exact Z1.out)))
        refine hK _ _ ⟨HK.out _ U3.out, ?_⟩
        clear hK K
        have O1 := Lib.hid o1
        have NJ : Hid (b2 ≠ b1) := Lib.hid (by have := N1.out; omega)
        have N2 : Hid (v1.ownBlock ≠ some b2) := Lib.hid (fun e => by have h1 := (Array.getElem?_eq_some_iff.1 B2.out).1; have h2 := NJ.out; rcases q1 with q | q <;> rw [q] at e <;> have h3 := Option.some.inj e <;> omega)
        replace B2 := Lib.hid ((g1.block b2 (Array.getElem?_eq_some_iff.1 B2.out).1 (fun e => NJ.out (Option.some.inj e))).trans B2.out)
        clear NJ
        clear o1 g1 q1 B1 U2
        try simp only [Act.put, List.setIfInBounds_toArray, List.set_cons_zero, List.set_cons_succ]
        refine lex_reorder [7, 8, 9] ?_
        simp only [inOrder, List.filterMap, List.getElem?_cons_succ, List.getElem?_cons_zero]
        refine lex_do (i := 7) rfl (by kernel_rfl) (by rfl) (fun K hK => ?_)
        refine wp_append_tm _ _ (by rfl) b2 (by rfl) B2.out _ m (by rfl) (R2.out.below U3.out) (by omega) ?_
        intro v2 V4 o2 g2 q2
        have U4 := Lib.hid (U3.out.trans (grown_below g2 U3.out.size (fun k e => by cases e; exact Z2.out)))
        refine hK _ _ ⟨HK.out _ U4.out, ?_⟩
        clear hK K
        have O2 := Lib.hid o2
        replace O1 := Lib.hid (own_kept O1.out g2 (fun r e => by cases e; exact N2.out))
        clear o2 g2 q2 B2 U3
        try simp only [Act.put, List.setIfInBounds_toArray, List.set_cons_zero, List.set_cons_succ]
        refine lex_take (i := 8) (v := ?_) rfl (by kernel_rfl) (by kernel_rfl) (by kernel_rfl) (by rfl) (HK.out _ U4.out) ?_ ?_
        rotate_left
        · ((intro W hW; obtain ⟨k0, k1⟩ := hW; go_simp) <;> with_reducible rfl)
        simp only [Act.put, List.setIfInBounds_toArray, List.set_cons_zero, List.set_cons_succ]
        refine lex_take (i := 9) (v := ?_) rfl (by kernel_rfl) (by kernel_rfl) (by kernel_rfl) (by rfl) (HK.out _ U4.out) ?_ ?_
        rotate_left
        · ((intro W hW; obtain ⟨k0, k1⟩ := hW; go_simp) <;> with_reducible rfl)
        simp only [Act.put, List.setIfInBounds_toArray, List.set_cons_zero, List.set_cons_succ]
        refine lex_done (by kernel_rfl) ?_
        obtain ⟨s1, t1, rfl⟩ := (row_of_own O1.out).shape
        obtain ⟨s2, t2, rfl⟩ := (row_of_own O2.out).shape
        go_wp2_with fail
        go_meet
        exact ⟨s1, t1, s2, t2, rfl, rfl, row_of_own O1.out, row_of_own O2.out, U4.out⟩
    case rest =>
      obtain ⟨x1, y1, x2, y2, rfl, rfl, r1, r2, u6⟩ := hcut
      have HU6 := Lib.hid (bmore HU3.out u6)
      have HUP := Lib.hid u6
      have AL := Lib.hid (Alike_any (HP.out.below u6) who r1 r2 (by have := HLL.out.1; omega) (by have := HLL.out.2; omega))
      have V1 := Lib.hid r1
      have V2 := Lib.hid r2
      have z4 : wc.cell? ⟨w.heap.size, 4, none⟩ = some (.int .i64 who) := bcellAt u6 (cellB (j := 4) HX.out rfl)
      clear r1 r2 u6
      go_wp2_with fail
      refine AL.out.mono ?_
      rintro e w7 ⟨r, rfl, hr, u7⟩
      clear z4 AL
      have HU7 := Lib.hid (bmore HU6.out u7)
      have HD7 := Lib.hid (bmore HUP.out u7)
      replace V1 := Lib.hid (V1.out.below u7)
      replace V2 := Lib.hid (V2.out.below u7)
      have HRA := Lib.hid hr
      obtain ⟨lv, lc, rfl⟩ := (row_of_own HR.out.rl).shape
      have HK : Hid (∀ V : World, Below w7.heap.size w7 V → V.cell? ⟨w.heap.size, 1, none⟩ = some (.slice a1 l.length k1) ∧ V.cell? ⟨w.heap.size, 2, none⟩ = some (.slice a2 m.length k2) ∧ V.cell? ⟨w.heap.size, 4, none⟩ = some (.int .i64 who) ∧ V.cell? ⟨ra, 0, none⟩ = some (.slice lv p.length lc)) := Lib.hid fun V h => ⟨bcellAt (bmore HD7.out h) (cellB (j := 1) HX.out rfl), bcellAt (bmore HD7.out h) (cellB (j := 2) HX.out rfl), bcellAt (bmore HD7.out h) (cellB (j := 4) HX.out rfl), bcellAt (bmore HD7.out h) (cellB (j := 0) HR.out.lay rfl)⟩
      have RA := Lib.hid (rAlike_any (HR.out.below (bmore HD7.out (bd w7))) who (R1.out.below (bmore HD7.out (bd w7))) (R2.out.below (bmore HD7.out (bd w7))) (by have := HLL.out.1; omega) (by have := HLL.out.2; omega))
      clear hr u7
      go_upto_region 8 with fail
      refine lex_start [0, 1, 2, 3, 4, 5, 6, 7, 8, 9, 10, 11, 12, 13, 14, 15, 16, 17, 18, 19, 20, 21, 22, 23, 25, 26, 27, 28, 29, 24, 30, 31, 32, 33, 34, 35] (S := (fun V : World => V.cell? ⟨w.heap.size, 1, none⟩ = some (.slice a1 l.length k1) ∧ V.cell? ⟨w.heap.size, 2, none⟩ = some (.slice a2 m.length k2) ∧ V.cell? ⟨w.heap.size, 4, none⟩ = some (.int .i64 who) ∧ V.cell? ⟨ra, 0, none⟩ = some (.slice lv p.length lc))) (by kernel_rfl) (HK.out _ (bd w7)) (fun hS => ?_)
      clear hS
      simp only [inOrder, List.filterMap, List.getElem?_cons_succ, List.getElem?_cons_zero]
      refine lex_take (i := 0) (v := ?_) rfl (by kernel_rfl) (by kernel_rfl) (by kernel_rfl) (by rfl) (HK.out _ (bd w7)) ?_ ?_
      rotate_left
      · ((intro W hW; obtain ⟨k0, k1, k2, k3⟩ := hW; go_simp) <;> with_reducible rfl)
      simp only [Act.put, List.setIfInBounds_toArray, List.set_cons_zero, List.set_cons_succ]
      refine lex_take (i := 1) (v := ?_) rfl (by kernel_rfl) (by kernel_rfl) (by kernel_rfl) (by rfl) (HK.out _ (bd w7)) ?_ ?_
      rotate_left
      · ((intro W hW; obtain ⟨k0, k1, k2, k3⟩ := hW; go_simp) <;> with_reducible rfl)
      simp only [Act.put, List.setIfInBounds_toArray, List.set_cons_zero, List.set_cons_succ]
      refine lex_take (i := 2) (v := ?_) rfl (by kernel_rfl) (by kernel_rfl) (by kernel_rfl) (by rfl) (HK.out _ (bd w7)) ?_ ?_
      rotate_left
      · ((intro W hW; obtain ⟨k0, k1, k2, k3⟩ := hW; go_simp) <;> with_reducible rfl)
      simp only [Act.put, List.setIfInBounds_toArray, List.set_cons_zero, List.set_cons_succ]
      refine lex_take (i := 3) (v := ?_) rfl (by kernel_rfl) (by kernel_rfl) (by kernel_rfl) (by rfl) (HK.out _ (bd w7)) ?_ ?_
      rotate_left
      · ((intro W hW; obtain ⟨k0, k1, k2, k3⟩ := hW; go_simp) <;> with_reducible rfl)
      simp only [Act.put, List.setIfInBounds_toArray, List.set_cons_zero, List.set_cons_succ]
      refine lex_take (i := 4) (v := ?_) rfl (by kernel_rfl) (by kernel_rfl) (by kernel_rfl) (by rfl) (HK.out _ (bd w7)) ?_ ?_
      rotate_left
      · ((intro W hW; obtain ⟨k0, k1, k2, k3⟩ := hW; go_simp) <;> with_reducible rfl)
      simp only [Act.put, List.setIfInBounds_toArray, List.set_cons_zero, List.set_cons_succ]
      refine lex_take (i := 5) (v := ?_) rfl (by kernel_rfl) (by kernel_rfl) (by kernel_rfl) (by rfl) (HK.out _ (bd w7)) ?_ ?_
      rotate_left
      · ((intro W hW; obtain ⟨k0, k1, k2, k3⟩ := hW; go_simp) <;> with_reducible rfl)
      simp only [Act.put, List.setIfInBounds_toArray, List.set_cons_zero, List.set_cons_succ]
      refine lex_take (i := 6) (v := ?_) rfl (by kernel_rfl) (by kernel_rfl) (by kernel_rfl) (by rfl) (HK.out _ (bd w7)) ?_ ?_
      rotate_left
      · ((intro W hW; obtain ⟨k0, k1, k2, k3⟩ := hW; go_simp) <;> with_reducible rfl)
      simp only [Act.put, List.setIfInBounds_toArray, List.set_cons_zero, List.set_cons_succ]
      refine lex_take (i := 7) (v := ?_) rfl (by kernel_rfl) (by kernel_rfl) (by kernel_rfl) (by rfl) (HK.out _ (bd w7)) ?_ ?_
      rotate_left
      · ((intro W hW; obtain ⟨k0, k1, k2, k3⟩ := hW; go_simp) <;> with_reducible rfl)
      simp only [Act.put, List.setIfInBounds_toArray, List.set_cons_zero, List.set_cons_succ]
      refine lex_call (i := 8) rfl (by kernel_rfl) (by rfl) ?_ _ RA.out ?_
      · go_simp
      rintro e W1 ⟨r', rfl, hr, v1⟩
      obtain rfl : r' = r := by
        cases r' <;> cases r <;> first | rfl | exact absurd (HRA.out.2 (hr.1 rfl)) (by decide) | exact absurd (hr.2 (HRA.out.1 rfl)) (by decide)
      have U1 := Lib.hid (bmore (bd w7) v1)
      have hrr : (r' == r') = true := by simp
      clear hr v1 RA HRA
      have T1 := Lib.hid (terms_any (V1.out.below U1.out) (R1.out.below (bmore HD7.out U1.out)) (by have := HLL.out.1; omega))
      refine ⟨_, rfl, (fun V : World => V.cell? ⟨w.heap.size, 1, none⟩ = some (.slice a1 l.length k1) ∧ V.cell? ⟨w.heap.size, 2, none⟩ = some (.slice a2 m.length k2) ∧ V.cell? ⟨w.heap.size, 4, none⟩ = some (.int .i64 who) ∧ V.cell? ⟨ra, 0, none⟩ = some (.slice lv p.length lc)), fun W h => h, HK.out _ U1.out, ?_⟩
      simp only [Act.put, List.setIfInBounds_toArray, List.set_cons_zero, List.set_cons_succ]
      refine lex_take (i := 9) (v := ?_) rfl (by kernel_rfl) (by kernel_rfl) (by kernel_rfl) (by rfl) (HK.out _ U1.out) ?_ ?_
      rotate_left
      · ((intro W hW; obtain ⟨k0, k1, k2, k3⟩ := hW; go_simp) <;> with_reducible rfl)
      simp only [Act.put, List.setIfInBounds_toArray, List.set_cons_zero, List.set_cons_succ]
      refine lex_take (i := 10) (v := ?_) rfl (by kernel_rfl) (by kernel_rfl) (by kernel_rfl) (by rfl) (HK.out _ U1.out) ?_ ?_
      rotate_left
      · ((intro W hW; obtain ⟨k0, k1, k2, k3⟩ := hW; go_simp) <;> with_reducible rfl)
      simp only [Act.put, List.setIfInBounds_toArray, List.set_cons_zero, List.set_cons_succ]
      refine lex_take (i := 11) (v := ?_) rfl (by kernel_rfl) (by kernel_rfl) (by kernel_rfl) (by rfl) (HK.out _ U1.out) ?_ ?_
      rotate_left
      · ((intro W hW; obtain ⟨k0, k1, k2, k3⟩ := hW; go_simp) <;> with_reducible rfl)
      simp only [Act.put, List.setIfInBounds_toArray, List.set_cons_zero, List.set_cons_succ]
      refine lex_take (i := 12) (v := ?_) rfl (by kernel_rfl) (by kernel_rfl) (by kernel_rfl) (by rfl) (HK.out _ U1.out) ?_ ?_
      rotate_left
      · ((intro W hW; obtain ⟨k0, k1, k2, k3⟩ := hW; go_simp) <;> with_reducible rfl)
      simp only [Act.put, List.setIfInBounds_toArray, List.set_cons_zero, List.set_cons_succ]
      refine lex_take (i := 13) (v := ?_) rfl (by kernel_rfl) (by kernel_rfl) (by kernel_rfl) (by rfl) (HK.out _ U1.out) ?_ ?_
      rotate_left
      · ((intro W hW; obtain ⟨k0, k1, k2, k3⟩ := hW; go_simp) <;> with_reducible rfl)
      simp only [Act.put, List.setIfInBounds_toArray, List.set_cons_zero, List.set_cons_succ]
      refine lex_call (i := 14) rfl (by kernel_rfl) (by rfl) ?_ _ T1.out ?_
      · go_simp
      rintro e W2 ⟨rfl, v2⟩
      have U2 := Lib.hid (bmore U1.out v2)
      clear v2 T1 U1
      have T2 := Lib.hid (terms_any (V2.out.below U2.out) (R2.out.below (bmore HD7.out U2.out)) (by have := HLL.out.2; omega))
      refine ⟨_, rfl, (fun V : World => V.cell? ⟨w.heap.size, 1, none⟩ = some (.slice a1 l.length k1) ∧ V.cell? ⟨w.heap.size, 2, none⟩ = some (.slice a2 m.length k2) ∧ V.cell? ⟨w.heap.size, 4, none⟩ = some (.int .i64 who) ∧ V.cell? ⟨ra, 0, none⟩ = some (.slice lv p.length lc)), fun W h => h, HK.out _ U2.out, ?_⟩
      simp only [Act.put, List.setIfInBounds_toArray, List.set_cons_zero, List.set_cons_succ]
      refine lex_take (i := 15) (v := ?_) rfl (by kernel_rfl) (by kernel_rfl) (by kernel_rfl) (by rfl) (HK.out _ U2.out) ?_ ?_
      rotate_left
      · ((intro W hW; obtain ⟨k0, k1, k2, k3⟩ := hW; go_simp) <;> with_reducible rfl)
      simp only [Act.put, List.setIfInBounds_toArray, List.set_cons_zero, List.set_cons_succ]
      refine lex_take (i := 16) (v := ?_) rfl (by kernel_rfl) (by kernel_rfl) (by kernel_rfl) (by rfl) (HK.out _ U2.out) ?_ ?_
      rotate_left
      · ((intro W hW; obtain ⟨k0, k1, k2, k3⟩ := hW; go_simp) <;> with_reducible rfl)
      simp only [Act.put, List.setIfInBounds_toArray, List.set_cons_zero, List.set_cons_succ]
      refine lex_take (i := 17) (v := ?_) rfl (by kernel_rfl) (by kernel_rfl) (by kernel_rfl) (by rfl) (HK.out _ U2.out) ?_ ?_
      rotate_left
      · ((intro W hW; obtain ⟨k0, k1, k2, k3⟩ := hW; go_simp) <;> with_reducible rfl)
      simp only [Act.put, List.setIfInBounds_toArray, List.set_cons_zero, List.set_cons_succ]
      refine lex_take (i := 18) (v := ?_) rfl (by kernel_rfl) (by kernel_rfl) (by kernel_rfl) (by rfl) (HK.out _ U2.out) ?_ ?_
      rotate_left
      · ((intro W hW; obtain ⟨k0, k1, k2, k3⟩ := hW; go_simp) <;> with_reducible rfl)
      simp only [Act.put, List.setIfInBounds_toArray, List.set_cons_zero, List.set_cons_succ]
      refine lex_take (i := 19) (v := ?_) rfl (by kernel_rfl) (by kernel_rfl) (by kernel_rfl) (by rfl) (HK.out _ U2.out) ?_ ?_
      rotate_left
      · ((intro W hW; obtain ⟨k0, k1, k2, k3⟩ := hW; go_simp) <;> with_reducible rfl)
      simp only [Act.put, List.setIfInBounds_toArray, List.set_cons_zero, List.set_cons_succ]
      refine lex_call (i := 20) rfl (by kernel_rfl) (by rfl) ?_ _ T2.out ?_
      · go_simp
      rintro e W3 ⟨rfl, v3⟩
      have U3 := Lib.hid (bmore U2.out v3)
      clear v3 T2 U2
      have PL := Lib.hid (plen (HP.out.below (bmore HD7.out U3.out)))
      refine ⟨_, rfl, (fun V : World => V.cell? ⟨w.heap.size, 1, none⟩ = some (.slice a1 l.length k1) ∧ V.cell? ⟨w.heap.size, 2, none⟩ = some (.slice a2 m.length k2) ∧ V.cell? ⟨w.heap.size, 4, none⟩ = some (.int .i64 who) ∧ V.cell? ⟨ra, 0, none⟩ = some (.slice lv p.length lc)), fun W h => h, HK.out _ U3.out, ?_⟩
      simp only [Act.put, List.setIfInBounds_toArray, List.set_cons_zero, List.set_cons_succ]
      refine lex_take (i := 21) (v := ?_) rfl (by kernel_rfl) (by kernel_rfl) (by kernel_rfl) (by rfl) (HK.out _ U3.out) ?_ ?_
      rotate_left
      · ((intro W hW; obtain ⟨k0, k1, k2, k3⟩ := hW; go_simp) <;> with_reducible rfl)
      simp only [Act.put, List.setIfInBounds_toArray, List.set_cons_zero, List.set_cons_succ]
      refine lex_take (i := 22) (v := ?_) rfl (by kernel_rfl) (by kernel_rfl) (by kernel_rfl) (by rfl) (HK.out _ U3.out) ?_ ?_
      rotate_left
      · ((intro W hW; obtain ⟨k0, k1, k2, k3⟩ := hW; go_simp) <;> with_reducible rfl)
      simp only [Act.put, List.setIfInBounds_toArray, List.set_cons_zero, List.set_cons_succ]
      refine lex_take (i := 23) (v := ?_) rfl (by kernel_rfl) (by kernel_rfl) (by kernel_rfl) (by rfl) (HK.out _ U3.out) ?_ ?_
      rotate_left
      · ((intro W hW; obtain ⟨k0, k1, k2, k3⟩ := hW; go_simp) <;> with_reducible rfl)
      simp only [Act.put, List.setIfInBounds_toArray, List.set_cons_zero, List.set_cons_succ]
      refine lex_take (i := 25) (v := ?_) rfl (by kernel_rfl) (by kernel_rfl) (by kernel_rfl) (by rfl) (HK.out _ U3.out) ?_ ?_
      rotate_left
      · ((intro W hW; obtain ⟨k0, k1, k2, k3⟩ := hW; go_simp) <;> with_reducible rfl)
      simp only [Act.put, List.setIfInBounds_toArray, List.set_cons_zero, List.set_cons_succ]
      refine lex_take (i := 26) (v := ?_) rfl (by kernel_rfl) (by kernel_rfl) (by kernel_rfl) (by rfl) (HK.out _ U3.out) ?_ ?_
      rotate_left
      · ((intro W hW; obtain ⟨k0, k1, k2, k3⟩ := hW; go_simp) <;> with_reducible rfl)
      simp only [Act.put, List.setIfInBounds_toArray, List.set_cons_zero, List.set_cons_succ]
      refine lex_take (i := 27) (v := ?_) rfl (by kernel_rfl) (by kernel_rfl) (by kernel_rfl) (by rfl) (HK.out _ U3.out) ?_ ?_
      rotate_left
      · ((intro W hW; obtain ⟨k0, k1, k2, k3⟩ := hW; go_simp) <;> with_reducible rfl)
      simp only [Act.put, List.setIfInBounds_toArray, List.set_cons_zero, List.set_cons_succ]
      refine lex_take (i := 28) (v := ?_) rfl (by kernel_rfl) (by kernel_rfl) (by kernel_rfl) (by rfl) (HK.out _ U3.out) ?_ ?_
      rotate_left
      · ((intro W hW; obtain ⟨k0, k1, k2, k3⟩ := hW; go_simp) <;> with_reducible rfl)
      simp only [Act.put, List.setIfInBounds_toArray, List.set_cons_zero, List.set_cons_succ]
      refine lex_take (i := 29) (v := ?_) rfl (by kernel_rfl) (by kernel_rfl) (by kernel_rfl) (by rfl) (HK.out _ U3.out) ?_ ?_
      rotate_left
      · ((intro W hW; obtain ⟨k0, k1, k2, k3⟩ := hW; go_simp) <;> with_reducible rfl)
      simp only [Act.put, List.setIfInBounds_toArray, List.set_cons_zero, List.set_cons_succ]
      refine lex_call (i := 24) rfl (by kernel_rfl) (by rfl) ?_ _ PL.out ?_
      · go_simp
      rintro e W4 ⟨rfl, rfl⟩
      clear PL
      have hpp : ((p.length : Int) == (p.length : Int)) = true := by simp
      have LV := Lib.hid (live_any (HLD.out.below (bmore HU7.out U3.out)))
      refine ⟨_, rfl, (fun V : World => V.cell? ⟨w.heap.size, 1, none⟩ = some (.slice a1 l.length k1) ∧ V.cell? ⟨w.heap.size, 2, none⟩ = some (.slice a2 m.length k2) ∧ V.cell? ⟨w.heap.size, 4, none⟩ = some (.int .i64 who) ∧ V.cell? ⟨ra, 0, none⟩ = some (.slice lv p.length lc)), fun W h => h, HK.out _ U3.out, ?_⟩
      simp only [Act.put, List.setIfInBounds_toArray, List.set_cons_zero, List.set_cons_succ]
      refine lex_take (i := 30) (v := ?_) rfl (by kernel_rfl) (by kernel_rfl) (by kernel_rfl) (by rfl) (HK.out _ U3.out) ?_ ?_
      rotate_left
      · ((intro W hW; obtain ⟨k0, k1, k2, k3⟩ := hW; go_simp) <;> with_reducible rfl)
      simp only [Act.put, List.setIfInBounds_toArray, List.set_cons_zero, List.set_cons_succ]
      refine lex_take (i := 31) (v := ?_) rfl (by kernel_rfl) (by kernel_rfl) (by kernel_rfl) (by rfl) (HK.out _ U3.out) ?_ ?_
      rotate_left
      · ((intro W hW; obtain ⟨k0, k1, k2, k3⟩ := hW; go_simp) <;> with_reducible rfl)
      simp only [Act.put, List.setIfInBounds_toArray, List.set_cons_zero, List.set_cons_succ]
      refine lex_take (i := 32) (v := ?_) rfl (by kernel_rfl) (by kernel_rfl) (by kernel_rfl) (by rfl) (HK.out _ U3.out) ?_ ?_
      rotate_left
      · ((intro W hW; obtain ⟨k0, k1, k2, k3⟩ := hW; go_simp) <;> with_reducible rfl)
      simp only [Act.put, List.setIfInBounds_toArray, List.set_cons_zero, List.set_cons_succ]
      refine lex_call (i := 33) rfl (by kernel_rfl) (by rfl) ?_ _ LV.out ?_
      · go_simp
      rintro e W5 ⟨rfl, v5⟩
      have U5 := Lib.hid (bmore U3.out v5)
      clear v5 LV U3
      refine ⟨_, rfl, (fun V : World => V.cell? ⟨w.heap.size, 1, none⟩ = some (.slice a1 l.length k1) ∧ V.cell? ⟨w.heap.size, 2, none⟩ = some (.slice a2 m.length k2) ∧ V.cell? ⟨w.heap.size, 4, none⟩ = some (.int .i64 who) ∧ V.cell? ⟨ra, 0, none⟩ = some (.slice lv p.length lc)), fun W h => h, HK.out _ U5.out, ?_⟩
      simp only [Act.put, List.setIfInBounds_toArray, List.set_cons_zero, List.set_cons_succ]
      refine lex_take (i := 34) (v := ?_) rfl (by kernel_rfl) (by kernel_rfl) (by kernel_rfl) (by rfl) (HK.out _ U5.out) ?_ ?_
      rotate_left
      · ((intro W hW; obtain ⟨k0, k1, k2, k3⟩ := hW; go_simp) <;> with_reducible rfl)
      simp only [Act.put, List.setIfInBounds_toArray, List.set_cons_zero, List.set_cons_succ]
      refine lex_take (i := 35) (v := ?_) rfl (by kernel_rfl) (by kernel_rfl) (by kernel_rfl) (by rfl) (HK.out _ U5.out) ?_ ?_
      rotate_left
      · ((intro W hW; obtain ⟨k0, k1, k2, k3⟩ := hW; go_simp) <;> with_reducible rfl)
      simp only [Act.put, List.setIfInBounds_toArray, List.set_cons_zero, List.set_cons_succ]
      refine lex_done (by kernel_rfl) ?_
      go_wp2_with fail
      go_returns
      exact ⟨rfl, bmore HU7.out U5.out⟩
end Go.Proofs.YtgaklaajbepfaaaDoor
namespace Go.Proofs.YtgaklaajbepfaaaDoor
open Go Go.ChangeShapes Go.WideShapes Go.ChangeAt Go.RowKit
set_option linter.unusedVariables false

theorem valike_all {w : World} (hl : Laid w) {fo : Fo} {u0 u1 u2 u3 v : Value} {l m n : List Int} {who : Int} (hk : IsK w (fun b => b < w.heap.size) u0 fo) (hok : OkF fo) (h1 : Row w 1 u1 l.length (ints l)) (h2 : Row w 1 u2 m.length (ints m)) (h3 : Row w 1 u3 n.length (ints n)) (hw : i64R who) (hv : v = .agg #[u0, u1, u2, u3, .int .i64 who]) : Calls Tryd.prog 3 #[v] w fun e w' => e = .returned (.bool true) ∧ Below w.heap.size w w' := by
  subst hv
  exact alikeL_walk hl hk hok h1 h2 h3

set_option maxRecDepth 100000 in
/-- What the walk gives, for every argument. -/
theorem valike_contract (H : Type) (enc : TypeId × Value → H) (W : World) (base : Nat) (args : Array Value) (ds gs : List (DataW H)) (before : List MemPlace)
    (hval0 : ∀ (j : Nat) t v, Tryd.f3.params[j]? = some t → args[j]? = some v → Value.okWide Tryd.prog W .any base t v)
    (hW : DataW.Whole enc Tryd.prog Tryd.f3.params.toList Rows.viewAlikeSpec.vars false W args.toList ds gs before) (hL : laidMetH Tryd.prog laidL W) :
    Calls Tryd.prog 3 args W fun e W' => ∃ v, e = .returned v ∧ Rows.viewAlikeSpec.post enc Tryd.prog Tryd.f3 false true false false W args v W' := by
  have hval : ∀ (j : Nat) t v, Tryd.f3.params[j]? = some t → args[j]? = some v → Value.okWide Tryd.prog W .any base t v := hval0
  have hW' := hW
  obtain ⟨p, q, hA0, hV, rfl, hfz, hnd⟩ := hW
  have hA : DataW.TrodAll enc Tryd.prog W 0 (fun _ => true) true Tryd.f3.params.toList args.toList ds p := hA0
  rw [Tryd.params3] at hA hval
  obtain ⟨v0, vs0, d0, ds0, p0, q0, hargs0, rfl, rfl, h0, r0⟩ := trodAll_cons hA
  obtain ⟨rfl, rfl, rfl⟩ := trodAll_nil r0
  obtain rfl : args = #[v0] := by cases args; simp_all
  obtain ⟨rfl, rfl⟩ := trodVars_none hV
  obtain ⟨⟨fo0, g0, st0, go0, n0⟩, x0, x1, x2, x3, e0, hk0, hok0, hg0, hs0, hgo0, hn0⟩ := open_lists (hval 0 25 v0 rfl rfl) h0
  have HL := of_laid hL
  clear hA0 hval0 hL
  simp only [List.append_nil] at hW'
  refine (valike_all HL hk0 hok0 hg0.1 hs0.1 hgo0.1 hn0 e0).mono fun e W' ⟨he, bel⟩ => ?_
  subst he
  exact ⟨_, rfl, _, _, _, [], _, [], hW', trodAll_mk1 (shut_bool Tryd.underlying4 _), (trodAll_cons_mk (Below.trod laidOut (by kernel_rfl) (of_decide_eq_true (by kernel_rfl)) h0 bel (places_lt h0)) trodAll_mk0), rfl, bel.frame _, fun h => by cases h⟩

set_option maxRecDepth 100000 in
theorem valike_lifted (os : Os) (started : os.Started) (H : Type) (enc : TypeId × Value → H) :
    ReturnsInHanded {} Tryd.checked os 3 .any (fun w args => (Rows.viewAlikeSpec.pre enc Tryd.prog Tryd.f3 [] false w args ∧ laidMetH Tryd.prog laidL w) ∧ sizedMet enc Tryd.prog Tryd.f3 (OpenSpec.ofChange Rows.viewAlikeSpec) false w args)
      (Rows.viewAlikeSpec.post enc Tryd.prog Tryd.f3 false true false false) := by
  refine returnsInHanded_of_change_and (C := Tryd.checked) (X := fun w _ => laidMetH Tryd.prog laidL w) (fun _ _ _ hh h => h.of_heap hh) own started (by kernel_rfl) Tryd.func3
    (ChangeSpec.witness_shaped (enc := enc) (C := Tryd.checked) (os := os) (X := fun w _ => laidMetH Tryd.prog laidL w) false (World.doorLaid Tryd.prog 400 os) #[.agg #[.slice none 0 0, .slice none 0 0, .slice none 0 0, .slice none 0 0, .int .i64 0]] 8 rfl (World.shaped_of_RefB (by kernel_rfl) (by kernel_rfl)) (by kernel_rfl) (by kernel_rfl) (by kernel_rfl) (door_met os _)) ?_
  intro W base args ds gs before hval hW _ _ hL _
  exact valike_contract H enc W base args ds gs before hval hW hL

/-- The row's statement. -/
theorem valike_holds : Rows.ViewAlikeSaid :=
  OpenClaim.holds_of_wide 3 Tryd.f3 rfl rfl rfl rfl rfl rfl rfl ⟨rfl, rfl, rfl, rfl, rfl⟩ rfl rfl rfl rfl rfl (by kernel_rfl) Tryd.func3 (by kernel_rfl)
    (of_decide_eq_true (by kernel_rfl)) (by unfold Func.isWrapper; first | (rw [if_pos (by decide +kernel)]; kernel_rfl) | (rw [if_neg (by decide +kernel)]; exact ⟨rfl, rfl⟩))
    (fun os started H enc _ => valike_lifted os started H enc)

/-- The card. -/
theorem valike_card : Rows.ViewAlikeCardSaid :=
  Claim7.holds_tied_plain_at .later [] [.data] true _ false
    valike_holds (fun _ h => by cases h) (by kernel_rfl) (fun _ h => by cases h) viewAlike_row_tie rfl ⟨rfl, rfl⟩ (by kernel_rfl) rfl
    (fun f fn hf hfn => by
      obtain rfl : f = 3 := Option.some.inj ((show Tryd.prog.funcNamed "escrow/escrowlaw10.ViewAlike" = some 3 by kernel_rfl).symm.trans hf) |>.symm
      obtain rfl : fn = Tryd.f3 := (Option.some.inj (Tryd.func3.symm.trans hfn)).symm
      exact ⟨by kernel_rfl, fun j t ht => by
        rw [Tryd.params3] at ht
        have hm : t ∈ [25] := by simpa using Array.mem_of_getElem? ht
        have hall : ([25].all fun u => !Tryd.prog.wantsStandIn u) = true := by kernel_rfl
        exact (show Tryd.prog.wantsStandIn t = false by simpa using List.all_eq_true.1 hall t hm)⟩)
    (by kernel_rfl)
#print axioms valike_card
end Go.Proofs.YtgaklaajbepfaaaDoor
