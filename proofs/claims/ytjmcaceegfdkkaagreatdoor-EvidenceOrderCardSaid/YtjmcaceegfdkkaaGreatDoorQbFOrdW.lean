/-
  The law's own walk: EvidenceOrder.
-/
import Derived.Maps.AppendAt
import Derived.IntWalk
import Derived.Laws.AppendOwnNone
import Derived.Test.YtjmcaceegfdkkaaGreatDoorQbFRls
import Derived.Test.YtjmcaceegfdkkaaGreatDoorQbFArgF
import Derived.Test.YtjmcaceegfdkkaaGreatDoorQbFLiv
import Derived.Test.YtjmcaceegfdkkaaGreatDoorQbTChain
namespace Go.Proofs.YtjmcaceegfdkkaaGreatDoor
open Go.RowKit Go.Maps
set_option linter.unusedVariables false
abbrev OrdT : TypeId := 54
theorem CmpW.below {x y : Fc} {w w' : World} (h : CmpW x y w w') : Below w.heap.size w w' := by
  obtain ⟨o, rfl⟩ := h
  exact bmore (bmore (bmore (bZ _ _) (bZ _ _)) (bZ _ _)) (bd _)
theorem cmpF_neg (x y : Fc) : cmpF y x = -cmpF x y ∧ -1 ≤ cmpF x y ∧ cmpF x y ≤ 1 := by
  have h : ∀ {K : Type} [o : KOrd K] (a b : K), cmpOf b a = -cmpOf a b ∧ -1 ≤ cmpOf a b ∧ cmpOf a b ≤ 1 := by
    intro K o a b
    by_cases e : a = b
    · subst e; rw [cmpOf_refl]; decide
    · unfold cmpOf
      cases h1 : o.lt a b with
      | true => rw [KOrd.asym h1]; simp
      | false =>
        cases h2 : o.lt b a with
        | true => simp
        | false => exact absurd (o.tri h1 h2) e
  unfold cmpF orI orI orI orI orI
  have h1 := h x.c y.c
  have h2 := h x.kind y.kind
  have h3 := h x.who y.who
  have h4 := h x.text y.text
  generalize cmpOf x.c y.c = a1 at *
  generalize cmpOf y.c x.c = b1 at *
  generalize cmpOf x.kind y.kind = a2 at *
  generalize cmpOf y.kind x.kind = b2 at *
  generalize cmpOf x.who y.who = a3 at *
  generalize cmpOf y.who x.who = b3 at *
  generalize cmpOf x.text y.text = a4 at *
  generalize cmpOf y.text x.text = b4 at *
  obtain ⟨rfl, _, _⟩ := h1
  obtain ⟨rfl, _, _⟩ := h2
  obtain ⟨rfl, _, _⟩ := h3
  obtain ⟨rfl, _, _⟩ := h4
  simp only [Int.neg_eq_zero]
  repeat' split
  all_goals omega
theorem own_emptyF {w : World} {b : Nat} (hb : w.heap[b]? = some (Obj.cells #[] FacT)) : w.ownsRow b FacT 4 (.slice (some ⟨b, 0, none⟩) 0 0) 0 [] := by
  refine ⟨rfl, .inr ⟨b, 0, #[], rfl, Nat.le_refl _, hb, Nat.le_refl _, by unfold maxLen; omega, rfl, rfl⟩⟩
theorem wp_append_fcE {w : World} {o : Oper} {a : Act} {K : Act → World → Prop} {Q : Exit → Act → World → Prop} (s x : Operand)
    (ho : o.op = .call { callee := .builtin .append, args := #[s, x], argTypes := #[FacsT, FacsT] })
    (b : Nat) (hs : a.eval s = .slice (some ⟨b, 0, none⟩) 0 0) (hb : w.heap[b]? = some (Obj.cells #[] FacT)) (vx : Value) (l : List Fc) (hx : a.eval x = vx) (hrd : Row w 4 vx l.length (fcs l))
    (hlen : l.length ≤ 1000000)
    (h : ∀ v' w', w'.ownsRow b FacT 4 v' l.length (fcs l) → w.grownBy w' (some b) → K (a.put o.dst v') w') : Oper.wp Tryz.prog o a w K Q := by
  obtain ⟨i0, hi, hz0, hz1, hz2⟩ := info_parts rowFc
  have hbl : b < w.heap.size := (Array.getElem?_eq_some_iff.1 hb).1
  rcases hrd with ⟨hl, ⟨rfl, h0⟩ | ⟨c, off, cap, rfl, h1, h2, h3, h4⟩⟩
  · obtain rfl : l = [] := List.eq_nil_of_length_eq_zero h0
    have hrun := run_append_owned_none (P := Tryz.prog) (w := w) b FacsT o.type FacT i0 4 Tryz.underlying33 hi _ _ _ (own_emptyF hb)
    unfold Oper.wp
    simp [execOp, ho, resolve, invoke, builtin, hs, hx, hrun, Result.andThen]
    exact h _ w (own_emptyF hb) ⟨rfl, rfl, rfl, Nat.le_refl _, fun _ _ _ => rfl⟩
  · obtain ⟨v', w', hr, g2, g3, g4, g5⟩ := run_append_own_at (P := Tryz.prog) w b FacsT o.type FacT i0 (.agg #[.int .i64 0, .int .i64 0, .int .u64 0, .string ⟨#[]⟩]) 4 40 Tryz.underlying33 hi hz0 hz1 hz2 rfl (by decide) _ 0 [] (own_emptyF hb) ⟨c, off, none⟩ l.length cap (fcs l) (by rw [fcs_length]) (fun j u hj => by have := h4 j u hj; by_cases h0 : j = 0 <;> simp_all [Addr.add]) (fcs_oneCell l) (by unfold maxLen; omega) (by omega) (by omega)
    unfold Oper.wp execOp
    simp only [ho, resolve, invoke, builtin, Sem.run_bind, Sem.run_pure, Result.andThen_ok, List.map_toArray, List.map_cons, List.map_nil, hs, hx, hr]
    exact h v' w' (by simpa using g2) g3
set_option maxRecDepth 100000 in
set_option maxHeartbeats 51200000 in
theorem order_walk {w : World} (hL : Laid w) (hl : LaidK w) {x y : Fc} {u : Value} {l : List Fc} (hu : Row w 4 u l.length (fcs l)) (who : Int) (hx : x.text.size ≤ maxLen) (hy : y.text.size ≤ maxLen) : Calls Tryz.prog 5 #[.agg #[.int .i64 x.kind, .int .i64 x.who, .int .u64 x.c, .string x.text, .int .i64 y.kind, .int .i64 y.who, .int .u64 y.c, .string y.text, u, .int .i64 who]] w fun e w' => e = .returned (.bool true) ∧ Below w.heap.size w w' := by
  obtain ⟨k1, w1, c1, s1⟩ := x
  obtain ⟨k2, w2, c2, s2⟩ := y
  simp only at *
  obtain ⟨ua, uc, rfl⟩ := hu.shape
  have HU := Lib.hid hu
  have HL := Lib.hid hL
  have HK := Lib.hid hl
  have hll := hu.small
  unfold maxLen at hll hx hy
  clear hu hL hl
  have HB0 := Lib.hid (bZ w (.cells #[.int .i64 k1, .int .i64 w1, .int .u64 c1, .string s1, .int .i64 k2, .int .i64 w2, .int .u64 c2, .string s2, .slice ua l.length uc, .int .i64 who] OrdT))
  have hz := heap_alloc_new w (.cells #[.int .i64 k1, .int .i64 w1, .int .u64 c1, .string s1, .int .i64 k2, .int .i64 w2, .int .u64 c2, .string s2, .slice ua l.length uc, .int .i64 who] OrdT)
  go_enter Tryz.func5, Tryz.ntmps5
  go_upto_region 1 with fail
  generalize (w.alloc (.cells #[.int .i64 k1, .int .i64 w1, .int .u64 c1, .string s1, .int .i64 k2, .int .i64 w2, .int .u64 c2, .string s2, .slice ua l.length uc, .int .i64 who] OrdT)) = W at *
  obtain ⟨ob, hobb⟩ : ∃ ob, ob = w.heap.size := ⟨_, rfl⟩
  rw [← hobb] at hz ⊢
  have HBW := Lib.hid HB0.out
  clear HB0
  have o0 : W.cell? ⟨ob, 0, none⟩ = some (.int .i64 k1) := cellB (j := 0) hz rfl
  have o1 : W.cell? ⟨ob, 1, none⟩ = some (.int .i64 w1) := cellB (j := 1) hz rfl
  have o2 : W.cell? ⟨ob, 2, none⟩ = some (.int .u64 c1) := cellB (j := 2) hz rfl
  have o3 : W.cell? ⟨ob, 3, none⟩ = some (.string s1) := cellB (j := 3) hz rfl
  have o4 : W.cell? ⟨ob, 4, none⟩ = some (.int .i64 k2) := cellB (j := 4) hz rfl
  have o5 : W.cell? ⟨ob, 5, none⟩ = some (.int .i64 w2) := cellB (j := 5) hz rfl
  have o6 : W.cell? ⟨ob, 6, none⟩ = some (.int .u64 c2) := cellB (j := 6) hz rfl
  have o7 : W.cell? ⟨ob, 7, none⟩ = some (.string s2) := cellB (j := 7) hz rfl
  have o8 : W.cell? ⟨ob, 8, none⟩ = some (.slice ua l.length uc) := cellB (j := 8) hz rfl
  have o9 : W.cell? ⟨ob, 9, none⟩ = some (.int .i64 who) := cellB (j := 9) hz rfl
  have hob : ob < W.heap.size := (Array.getElem?_eq_some_iff.1 hz).1
  have hn1 : ¬ ob = W.heap.size := by omega
  have hn2 : ¬ ob = W.heap.size + 1 := by omega
  clear hz hobb
  go_cut [3, 4, 5, 6] (fun s3 s4 s5 s6 wx => ∃ ba bb, s3 = .pointer (some ⟨ba, 0, none⟩) ∧ s4 = .pointer (some ⟨bb, 0, none⟩) ∧ s5 = .slice ua l.length uc ∧ s6 = .int .i64 who ∧ Below w.heap.size w wx ∧ wx.heap[ba]? = some (.cells #[.int .i64 k1, .int .i64 w1, .int .u64 c1, .string s1] FacT) ∧ wx.heap[bb]? = some (.cells #[.int .i64 k2, .int .i64 w2, .int .u64 c2, .string s2] FacT))
  case first =>
    go_region
    · have h1 := heap_alloc_new W (.cells #[.int .i64 k1, .int .i64 w1, .int .u64 c1, .string s1] FacT)
      have b1 := bZ (W.alloc (.cells #[.int .i64 k1, .int .i64 w1, .int .u64 c1, .string s1] FacT)) (.cells #[.int .i64 k2, .int .i64 w2, .int .u64 c2, .string s2] FacT)
      have h2 := heap_alloc_new (W.alloc (.cells #[.int .i64 k1, .int .i64 w1, .int .u64 c1, .string s1] FacT)) (.cells #[.int .i64 k2, .int .i64 w2, .int .u64 c2, .string s2] FacT)
      rw [World.size_alloc] at h2
      have h3 := Hold.below (bmore b1 (bd _)) _ _ h1
      have h4 := Hold.below (bd _) _ _ h2
      have h5 := Lib.hid (bmore HBW.out (bmore (bmore (bZ W (.cells #[.int .i64 k1, .int .i64 w1, .int .u64 c1, .string s1] FacT)) b1) (bd _)))
      clear h1 b1 h2
      go_wp2_with fail
      go_meet
      exact ⟨_, _, rfl, rfl, rfl, rfl, h5.out, h3, h4⟩
    · have h1 := heap_alloc_new W (.cells #[.int .i64 k2, .int .i64 w2, .int .u64 c2, .string s2] FacT)
      have b1 := bZ (W.alloc (.cells #[.int .i64 k2, .int .i64 w2, .int .u64 c2, .string s2] FacT)) (.cells #[.int .i64 k1, .int .i64 w1, .int .u64 c1, .string s1] FacT)
      have h2 := heap_alloc_new (W.alloc (.cells #[.int .i64 k2, .int .i64 w2, .int .u64 c2, .string s2] FacT)) (.cells #[.int .i64 k1, .int .i64 w1, .int .u64 c1, .string s1] FacT)
      rw [World.size_alloc] at h2
      have h3 := Hold.below (bmore b1 (bd _)) _ _ h1
      have h4 := Hold.below (bd _) _ _ h2
      have h5 := Lib.hid (bmore HBW.out (bmore (bmore (bZ W (.cells #[.int .i64 k2, .int .i64 w2, .int .u64 c2, .string s2] FacT)) b1) (bd _)))
      clear h1 b1 h2
      go_wp2_with fail
      go_meet
      exact ⟨_, _, rfl, rfl, rfl, rfl, h5.out, h4, h3⟩
  case rest =>
    obtain ⟨ba, bb, rfl, rfl, rfl, rfl, hbw, hA, hB⟩ := hcut
    have HF2 := Lib.hid hbw
    clear hbw o0 o1 o2 o3 o4 o5 o6 o7 o8 o9 hn1 hn2 hob HBW
    generalize wc = W2 at *
    have x0 : W2.cell? ⟨ba, 0, none⟩ = some (.int .i64 k1) := cellB (j := 0) hA rfl
    have x1 : W2.cell? ⟨ba, 1, none⟩ = some (.int .i64 w1) := cellB (j := 1) hA rfl
    have x2 : W2.cell? ⟨ba, 2, none⟩ = some (.int .u64 c1) := cellB (j := 2) hA rfl
    have x3 : W2.cell? ⟨ba, 3, none⟩ = some (.string s1) := cellB (j := 3) hA rfl
    have y0 : W2.cell? ⟨bb, 0, none⟩ = some (.int .i64 k2) := cellB (j := 0) hB rfl
    have y1 : W2.cell? ⟨bb, 1, none⟩ = some (.int .i64 w2) := cellB (j := 1) hB rfl
    have y2 : W2.cell? ⟨bb, 2, none⟩ = some (.int .u64 c2) := cellB (j := 2) hB rfl
    have y3 : W2.cell? ⟨bb, 3, none⟩ = some (.string s2) := cellB (j := 3) hB rfl
    clear hA hB
    have HUW := Lib.hid (HU.out.below HF2.out)
    have LV := Lib.hid (fun (V : World) (hb : Below W2.heap.size W2 V) => live_any (HL.out.below (bmore HF2.out hb)) (HK.out.below (bmore HF2.out hb)))
    have hq1 : ((4000 : Int) < (s1.size : Int)) ∨ ((s1.size : Int) ≤ 4000) := by omega
    rcases hq1 with hq1 | hq1
    · go_wp2_with fail
      refine (LV.out _ (Below.refl _ _)).mono ?_
      rintro e w9 ⟨rfl, u9⟩
      have HFF := Lib.hid (bmore HF2.out u9)
      clear u9
      go_wp2_with fail
      go_returns
      exact ⟨rfl, HFF.out⟩
    have hq2 : ((4000 : Int) < (s2.size : Int)) ∨ ((s2.size : Int) ≤ 4000) := by omega
    rcases hq2 with hq2 | hq2
    · go_wp2_with fail
      refine (LV.out _ (Below.refl _ _)).mono ?_
      rintro e w9 ⟨rfl, u9⟩
      have HFF := Lib.hid (bmore HF2.out u9)
      clear u9
      go_wp2_with fail
      go_returns
      exact ⟨rfl, HFF.out⟩
    have hq3 : ((50 : Int) < (l.length : Int)) ∨ ((l.length : Int) ≤ 50) := by omega
    rcases hq3 with hq3 | hq3
    · go_wp2_with fail
      refine (LV.out _ (Below.refl _ _)).mono ?_
      rintro e w9 ⟨rfl, u9⟩
      have HFF := Lib.hid (bmore HF2.out u9)
      clear u9
      go_wp2_with fail
      go_returns
      exact ⟨rfl, HFF.out⟩
    have HS := Lib.hid (fun (V : World) (hb : Below W2.heap.size W2 V) => (⟨bcellAt hb x0, bcellAt hb x1, bcellAt hb x2, bcellAt hb x3, bcellAt hb y0, bcellAt hb y1, bcellAt hb y2, bcellAt hb y3⟩ : (fun V : World => V.cell? ⟨ba, 0, none⟩ = some (.int .i64 k1) ∧ V.cell? ⟨ba, 1, none⟩ = some (.int .i64 w1) ∧ V.cell? ⟨ba, 2, none⟩ = some (.int .u64 c1) ∧ V.cell? ⟨ba, 3, none⟩ = some (.string s1) ∧ V.cell? ⟨bb, 0, none⟩ = some (.int .i64 k2) ∧ V.cell? ⟨bb, 1, none⟩ = some (.int .i64 w2) ∧ V.cell? ⟨bb, 2, none⟩ = some (.int .u64 c2) ∧ V.cell? ⟨bb, 3, none⟩ = some (.string s2)) V))
    go_upto_region 4 with fail
    have hl50 : l.length ≤ 50 := by omega
    clear hq1 hq2 hq3 x0 x1 x2 x3 y0 y1 y2 y3
    obtain ⟨c12, hc12⟩ : ∃ c, c = cmpF ⟨k1, w1, c1, s1⟩ ⟨k2, w2, c2, s2⟩ := ⟨_, rfl⟩
    obtain ⟨c21, hc21⟩ : ∃ c, c = cmpF ⟨k2, w2, c2, s2⟩ ⟨k1, w1, c1, s1⟩ := ⟨_, rfl⟩
    have hca : c21 = -c12 ∧ -1 ≤ c12 ∧ c12 ≤ 1 := by
      rw [hc12, hc21]
      exact cmpF_neg _ _
    have hb1 : (c12 == c12) = true := by simp
    have hb2 : IntKind.i64.wrap (-c12) = -c12 := IntWalk.i64_in _ (by omega)
    have hb3 : (c21 == -c12) = true := by rw [hca.1]; simp
    have HC12 := Lib.hid hc12
    have HC21 := Lib.hid hc21
    clear hc12 hc21 hca
    refine lex_start [0, 1, 3, 4, 2, 5, 6, 7, 8, 9, 11, 12, 10, 13, 14, 15, 16, 17, 19, 21, 23, 24, 18, 20, 22, 25, 26, 27, 28, 29, 30, 31] (S := (fun V : World => V.cell? ⟨ba, 0, none⟩ = some (.int .i64 k1) ∧ V.cell? ⟨ba, 1, none⟩ = some (.int .i64 w1) ∧ V.cell? ⟨ba, 2, none⟩ = some (.int .u64 c1) ∧ V.cell? ⟨ba, 3, none⟩ = some (.string s1) ∧ V.cell? ⟨bb, 0, none⟩ = some (.int .i64 k2) ∧ V.cell? ⟨bb, 1, none⟩ = some (.int .i64 w2) ∧ V.cell? ⟨bb, 2, none⟩ = some (.int .u64 c2) ∧ V.cell? ⟨bb, 3, none⟩ = some (.string s2))) (by kernel_rfl) (HS.out _ (bd W2)) (fun hS => ?_)
    simp only [inOrder, List.filterMap, List.getElem?_cons_succ, List.getElem?_cons_zero]
    have U0 := Lib.hid (bd W2)
    generalize W2.drew = V0 at *
    refine lex_take (i := 0) (v := ?_) rfl (by kernel_rfl) (by kernel_rfl) (by kernel_rfl) (by rfl) (HS.out _ U0.out) ?_ ?_
    rotate_left
    · ((intro W hW; obtain ⟨k0, k1, k2, k3, k4, k5, k6, k7⟩ := hW; go_simp) <;> with_reducible rfl)
    simp only [Act.put, List.setIfInBounds_toArray, List.set_cons_zero, List.set_cons_succ]
    refine lex_take (i := 1) (v := ?_) rfl (by kernel_rfl) (by kernel_rfl) (by kernel_rfl) (by rfl) (HS.out _ U0.out) ?_ ?_
    rotate_left
    · ((intro W hW; obtain ⟨k0, k1, k2, k3, k4, k5, k6, k7⟩ := hW; go_simp) <;> with_reducible rfl)
    simp only [Act.put, List.setIfInBounds_toArray, List.set_cons_zero, List.set_cons_succ]
    refine lex_take (i := 3) (v := ?_) rfl (by kernel_rfl) (by kernel_rfl) (by kernel_rfl) (by rfl) (HS.out _ U0.out) ?_ ?_
    rotate_left
    · ((intro W hW; obtain ⟨k0, k1, k2, k3, k4, k5, k6, k7⟩ := hW; go_simp) <;> with_reducible rfl)
    simp only [Act.put, List.setIfInBounds_toArray, List.set_cons_zero, List.set_cons_succ]
    refine lex_take (i := 4) (v := ?_) rfl (by kernel_rfl) (by kernel_rfl) (by kernel_rfl) (by rfl) (HS.out _ U0.out) ?_ ?_
    rotate_left
    · ((intro W hW; obtain ⟨k0, k1, k2, k3, k4, k5, k6, k7⟩ := hW; go_simp) <;> with_reducible rfl)
    simp only [Act.put, List.setIfInBounds_toArray, List.set_cons_zero, List.set_cons_succ]
    have CC := Lib.hid (show Calls Tryz.prog 27 #[.agg #[.int .i64 k1, .int .i64 w1, .int .u64 c1, .string s1], .agg #[.int .i64 k2, .int .i64 w2, .int .u64 c2, .string s2]] V0 fun e w' => e = .returned (.int .i64 c12) ∧ Below V0.heap.size V0 w' from (by rw [HC12.out]; exact (cmpF_any ⟨k1, w1, c1, s1⟩ ⟨k2, w2, c2, s2⟩ V0).mono fun e w' h => ⟨h.1, h.2.below⟩))
    refine lex_call (i := 2) rfl (by kernel_rfl) (by rfl) ?_ _ CC.out ?_
    · go_simp
    rintro e V1 ⟨rfl, uu⟩
    have U1 := Lib.hid (bmore U0.out uu)
    clear uu CC
    refine ⟨_, rfl, (fun V : World => V.cell? ⟨ba, 0, none⟩ = some (.int .i64 k1) ∧ V.cell? ⟨ba, 1, none⟩ = some (.int .i64 w1) ∧ V.cell? ⟨ba, 2, none⟩ = some (.int .u64 c1) ∧ V.cell? ⟨ba, 3, none⟩ = some (.string s1) ∧ V.cell? ⟨bb, 0, none⟩ = some (.int .i64 k2) ∧ V.cell? ⟨bb, 1, none⟩ = some (.int .i64 w2) ∧ V.cell? ⟨bb, 2, none⟩ = some (.int .u64 c2) ∧ V.cell? ⟨bb, 3, none⟩ = some (.string s2)), fun W h => h, HS.out _ U1.out, ?_⟩
    simp only [Act.put, List.setIfInBounds_toArray, List.set_cons_zero, List.set_cons_succ]
    have CC := Lib.hid (show Calls Tryz.prog 28 #[.agg #[.int .i64 k1, .int .i64 w1, .int .u64 c1, .string s1], .agg #[.int .i64 k2, .int .i64 w2, .int .u64 c2, .string s2]] V1 fun e w' => e = .returned (.int .i64 c12) ∧ Below V1.heap.size V1 w' from (by rw [HC12.out]; exact rcmpf_any ⟨k1, w1, c1, s1⟩ ⟨k2, w2, c2, s2⟩ V1))
    refine lex_call (i := 5) rfl (by kernel_rfl) (by rfl) ?_ _ CC.out ?_
    · go_simp
    rintro e V2 ⟨rfl, uu⟩
    have U2 := Lib.hid (bmore U1.out uu)
    clear uu CC
    refine ⟨_, rfl, (fun V : World => V.cell? ⟨ba, 0, none⟩ = some (.int .i64 k1) ∧ V.cell? ⟨ba, 1, none⟩ = some (.int .i64 w1) ∧ V.cell? ⟨ba, 2, none⟩ = some (.int .u64 c1) ∧ V.cell? ⟨ba, 3, none⟩ = some (.string s1) ∧ V.cell? ⟨bb, 0, none⟩ = some (.int .i64 k2) ∧ V.cell? ⟨bb, 1, none⟩ = some (.int .i64 w2) ∧ V.cell? ⟨bb, 2, none⟩ = some (.int .u64 c2) ∧ V.cell? ⟨bb, 3, none⟩ = some (.string s2)), fun W h => h, HS.out _ U2.out, ?_⟩
    simp only [Act.put, List.setIfInBounds_toArray, List.set_cons_zero, List.set_cons_succ]
    refine lex_take (i := 6) (v := ?_) rfl (by kernel_rfl) (by kernel_rfl) (by kernel_rfl) (by rfl) (HS.out _ U2.out) ?_ ?_
    rotate_left
    · ((intro W hW; obtain ⟨k0, k1, k2, k3, k4, k5, k6, k7⟩ := hW; go_simp) <;> with_reducible rfl)
    simp only [Act.put, List.setIfInBounds_toArray, List.set_cons_zero, List.set_cons_succ]
    refine lex_take (i := 7) (v := ?_) rfl (by kernel_rfl) (by kernel_rfl) (by kernel_rfl) (by rfl) (HS.out _ U2.out) ?_ ?_
    rotate_left
    · ((intro W hW; obtain ⟨k0, k1, k2, k3, k4, k5, k6, k7⟩ := hW; go_simp) <;> with_reducible rfl)
    simp only [Act.put, List.setIfInBounds_toArray, List.set_cons_zero, List.set_cons_succ]
    refine lex_take (i := 8) (v := ?_) rfl (by kernel_rfl) (by kernel_rfl) (by kernel_rfl) (by rfl) (HS.out _ U2.out) ?_ ?_
    rotate_left
    · ((intro W hW; obtain ⟨k0, k1, k2, k3, k4, k5, k6, k7⟩ := hW; go_simp) <;> with_reducible rfl)
    simp only [Act.put, List.setIfInBounds_toArray, List.set_cons_zero, List.set_cons_succ]
    refine lex_take (i := 9) (v := ?_) rfl (by kernel_rfl) (by kernel_rfl) (by kernel_rfl) (by rfl) (HS.out _ U2.out) ?_ ?_
    rotate_left
    · ((intro W hW; obtain ⟨k0, k1, k2, k3, k4, k5, k6, k7⟩ := hW; go_simp) <;> with_reducible rfl)
    simp only [Act.put, List.setIfInBounds_toArray, List.set_cons_zero, List.set_cons_succ]
    refine lex_take (i := 11) (v := ?_) rfl (by kernel_rfl) (by kernel_rfl) (by kernel_rfl) (by rfl) (HS.out _ U2.out) ?_ ?_
    rotate_left
    · ((intro W hW; obtain ⟨k0, k1, k2, k3, k4, k5, k6, k7⟩ := hW; go_simp) <;> with_reducible rfl)
    simp only [Act.put, List.setIfInBounds_toArray, List.set_cons_zero, List.set_cons_succ]
    refine lex_take (i := 12) (v := ?_) rfl (by kernel_rfl) (by kernel_rfl) (by kernel_rfl) (by rfl) (HS.out _ U2.out) ?_ ?_
    rotate_left
    · ((intro W hW; obtain ⟨k0, k1, k2, k3, k4, k5, k6, k7⟩ := hW; go_simp) <;> with_reducible rfl)
    simp only [Act.put, List.setIfInBounds_toArray, List.set_cons_zero, List.set_cons_succ]
    have CC := Lib.hid (show Calls Tryz.prog 27 #[.agg #[.int .i64 k2, .int .i64 w2, .int .u64 c2, .string s2], .agg #[.int .i64 k1, .int .i64 w1, .int .u64 c1, .string s1]] V2 fun e w' => e = .returned (.int .i64 c21) ∧ Below V2.heap.size V2 w' from (by rw [HC21.out]; exact (cmpF_any ⟨k2, w2, c2, s2⟩ ⟨k1, w1, c1, s1⟩ V2).mono fun e w' h => ⟨h.1, h.2.below⟩))
    refine lex_call (i := 10) rfl (by kernel_rfl) (by rfl) ?_ _ CC.out ?_
    · go_simp
    rintro e V3 ⟨rfl, uu⟩
    have U3 := Lib.hid (bmore U2.out uu)
    clear uu CC
    refine ⟨_, rfl, (fun V : World => V.cell? ⟨ba, 0, none⟩ = some (.int .i64 k1) ∧ V.cell? ⟨ba, 1, none⟩ = some (.int .i64 w1) ∧ V.cell? ⟨ba, 2, none⟩ = some (.int .u64 c1) ∧ V.cell? ⟨ba, 3, none⟩ = some (.string s1) ∧ V.cell? ⟨bb, 0, none⟩ = some (.int .i64 k2) ∧ V.cell? ⟨bb, 1, none⟩ = some (.int .i64 w2) ∧ V.cell? ⟨bb, 2, none⟩ = some (.int .u64 c2) ∧ V.cell? ⟨bb, 3, none⟩ = some (.string s2)), fun W h => h, HS.out _ U3.out, ?_⟩
    simp only [Act.put, List.setIfInBounds_toArray, List.set_cons_zero, List.set_cons_succ]
    have CC := Lib.hid (show Calls Tryz.prog 28 #[.agg #[.int .i64 k1, .int .i64 w1, .int .u64 c1, .string s1], .agg #[.int .i64 k2, .int .i64 w2, .int .u64 c2, .string s2]] V3 fun e w' => e = .returned (.int .i64 c12) ∧ Below V3.heap.size V3 w' from (by rw [HC12.out]; exact rcmpf_any ⟨k1, w1, c1, s1⟩ ⟨k2, w2, c2, s2⟩ V3))
    refine lex_call (i := 13) rfl (by kernel_rfl) (by rfl) ?_ _ CC.out ?_
    · go_simp
    rintro e V4 ⟨rfl, uu⟩
    have U4 := Lib.hid (bmore U3.out uu)
    clear uu CC
    refine ⟨_, rfl, (fun V : World => V.cell? ⟨ba, 0, none⟩ = some (.int .i64 k1) ∧ V.cell? ⟨ba, 1, none⟩ = some (.int .i64 w1) ∧ V.cell? ⟨ba, 2, none⟩ = some (.int .u64 c1) ∧ V.cell? ⟨ba, 3, none⟩ = some (.string s1) ∧ V.cell? ⟨bb, 0, none⟩ = some (.int .i64 k2) ∧ V.cell? ⟨bb, 1, none⟩ = some (.int .i64 w2) ∧ V.cell? ⟨bb, 2, none⟩ = some (.int .u64 c2) ∧ V.cell? ⟨bb, 3, none⟩ = some (.string s2)), fun W h => h, HS.out _ U4.out, ?_⟩
    simp only [Act.put, List.setIfInBounds_toArray, List.set_cons_zero, List.set_cons_succ]
    refine lex_take (i := 14) (v := ?_) rfl (by kernel_rfl) (by kernel_rfl) (by kernel_rfl) (by rfl) (HS.out _ U4.out) ?_ ?_
    rotate_left
    · ((intro W hW; obtain ⟨k0, k1, k2, k3, k4, k5, k6, k7⟩ := hW; go_simp) <;> with_reducible rfl)
    simp only [Act.put, List.setIfInBounds_toArray, List.set_cons_zero, List.set_cons_succ]
    refine lex_take (i := 15) (v := ?_) rfl (by kernel_rfl) (by kernel_rfl) (by kernel_rfl) (by rfl) (HS.out _ U4.out) ?_ ?_
    rotate_left
    · ((intro W hW; obtain ⟨k0, k1, k2, k3, k4, k5, k6, k7⟩ := hW; go_simp) <;> with_reducible rfl)
    simp only [Act.put, List.setIfInBounds_toArray, List.set_cons_zero, List.set_cons_succ]
    refine lex_take (i := 16) (v := ?_) rfl (by kernel_rfl) (by kernel_rfl) (by kernel_rfl) (by rfl) (HS.out _ U4.out) ?_ ?_
    rotate_left
    · ((intro W hW; obtain ⟨k0, k1, k2, k3, k4, k5, k6, k7⟩ := hW; go_simp) <;> with_reducible rfl)
    simp only [Act.put, List.setIfInBounds_toArray, List.set_cons_zero, List.set_cons_succ]
    refine lex_take (i := 17) (v := ?_) rfl (by kernel_rfl) (by kernel_rfl) (by kernel_rfl) (by rfl) (HS.out _ U4.out) ?_ ?_
    rotate_left
    · ((intro W hW; obtain ⟨k0, k1, k2, k3, k4, k5, k6, k7⟩ := hW; go_simp) <;> with_reducible rfl)
    simp only [Act.put, List.setIfInBounds_toArray, List.set_cons_zero, List.set_cons_succ]
    refine lex_take (i := 19) (v := ?_) rfl (by kernel_rfl) (by kernel_rfl) (by kernel_rfl) (by rfl) (HS.out _ U4.out) ?_ ?_
    rotate_left
    · ((intro W hW; obtain ⟨k0, k1, k2, k3, k4, k5, k6, k7⟩ := hW; go_simp) <;> with_reducible rfl)
    simp only [Act.put, List.setIfInBounds_toArray, List.set_cons_zero, List.set_cons_succ]
    refine lex_take (i := 21) (v := ?_) rfl (by kernel_rfl) (by kernel_rfl) (by kernel_rfl) (by rfl) (HS.out _ U4.out) ?_ ?_
    rotate_left
    · ((intro W hW; obtain ⟨k0, k1, k2, k3, k4, k5, k6, k7⟩ := hW; go_simp) <;> with_reducible rfl)
    simp only [Act.put, List.setIfInBounds_toArray, List.set_cons_zero, List.set_cons_succ]
    refine lex_take (i := 23) (v := ?_) rfl (by kernel_rfl) (by kernel_rfl) (by kernel_rfl) (by rfl) (HS.out _ U4.out) ?_ ?_
    rotate_left
    · ((intro W hW; obtain ⟨k0, k1, k2, k3, k4, k5, k6, k7⟩ := hW; go_simp) <;> with_reducible rfl)
    simp only [Act.put, List.setIfInBounds_toArray, List.set_cons_zero, List.set_cons_succ]
    refine lex_take (i := 24) (v := ?_) rfl (by kernel_rfl) (by kernel_rfl) (by kernel_rfl) (by rfl) (HS.out _ U4.out) ?_ ?_
    rotate_left
    · ((intro W hW; obtain ⟨k0, k1, k2, k3, k4, k5, k6, k7⟩ := hW; go_simp) <;> with_reducible rfl)
    simp only [Act.put, List.setIfInBounds_toArray, List.set_cons_zero, List.set_cons_succ]
    refine lex_do (i := 18) rfl (by kernel_rfl) (by rfl) (fun K hK => ?_)
    go_simp
    refine hK _ _ ⟨HS.out _ (bmore U4.out (bZ _ _)), ?_⟩
    clear hK K
    have U5 := Lib.hid (bmore U4.out (bZ V4 (.cells #[] FacT)))
    have B1 := Lib.hid (heap_alloc_new V4 (.cells #[] FacT))
    have Z1 := Lib.hid U4.out.size
    generalize V4.alloc (.cells #[] FacT) = V5 at *
    generalize V4.heap.size = eb at *
    try simp only [Act.put, List.setIfInBounds_toArray, List.set_cons_zero, List.set_cons_succ]
    refine lex_do (i := 20) rfl (by kernel_rfl) (by rfl) (fun K hK => ?_)
    refine wp_append_fcE _ _ (by rfl) eb (by rfl) B1.out _ l (by rfl) (HUW.out.below (U5.out)) (by omega) ?_
    intro v1 V6 o1 g1
    have U6 := Lib.hid (U5.out.trans (grown_below g1 U5.out.size (fun k e => by cases e; exact Z1.out)))
    refine hK _ _ ⟨HS.out _ U6.out, ?_⟩
    clear hK K
    have O1 := Lib.hid o1
    clear o1 g1 B1 U5 Z1
    try simp only [Act.put, List.setIfInBounds_toArray, List.set_cons_zero, List.set_cons_succ]
    have CC := Lib.hid (bonds_any (row_of_own O1.out) (by omega) who)
    refine lex_call (i := 22) rfl (by kernel_rfl) (by rfl) ?_ _ CC.out ?_
    · go_simp
    rintro e V7 ⟨v7, rfl, o7, uu⟩
    have U7 := Lib.hid (bmore U6.out uu)
    clear uu CC
    have O7 := Lib.hid o7
    clear o7 O1
    refine ⟨_, rfl, (fun V : World => V.cell? ⟨ba, 0, none⟩ = some (.int .i64 k1) ∧ V.cell? ⟨ba, 1, none⟩ = some (.int .i64 w1) ∧ V.cell? ⟨ba, 2, none⟩ = some (.int .u64 c1) ∧ V.cell? ⟨ba, 3, none⟩ = some (.string s1) ∧ V.cell? ⟨bb, 0, none⟩ = some (.int .i64 k2) ∧ V.cell? ⟨bb, 1, none⟩ = some (.int .i64 w2) ∧ V.cell? ⟨bb, 2, none⟩ = some (.int .u64 c2) ∧ V.cell? ⟨bb, 3, none⟩ = some (.string s2)), fun W h => h, HS.out _ U7.out, ?_⟩
    simp only [Act.put, List.setIfInBounds_toArray, List.set_cons_zero, List.set_cons_succ]
    have CC := Lib.hid (rbonds12_any (HUW.out.below U7.out) (by omega) who)
    refine lex_call (i := 25) rfl (by kernel_rfl) (by rfl) ?_ _ CC.out ?_
    · go_simp
    rintro e V8 ⟨v8, rfl, o8, uu⟩
    replace O7 := Lib.hid ((row_of_own O7.out).below uu)
    have U8 := Lib.hid (bmore U7.out uu)
    clear uu CC
    have O8 := Lib.hid o8
    clear o8
    refine ⟨_, rfl, (fun V : World => V.cell? ⟨ba, 0, none⟩ = some (.int .i64 k1) ∧ V.cell? ⟨ba, 1, none⟩ = some (.int .i64 w1) ∧ V.cell? ⟨ba, 2, none⟩ = some (.int .u64 c1) ∧ V.cell? ⟨ba, 3, none⟩ = some (.string s1) ∧ V.cell? ⟨bb, 0, none⟩ = some (.int .i64 k2) ∧ V.cell? ⟨bb, 1, none⟩ = some (.int .i64 w2) ∧ V.cell? ⟨bb, 2, none⟩ = some (.int .u64 c2) ∧ V.cell? ⟨bb, 3, none⟩ = some (.string s2)), fun W h => h, HS.out _ U8.out, ?_⟩
    simp only [Act.put, List.setIfInBounds_toArray, List.set_cons_zero, List.set_cons_succ]
    have CC := Lib.hid (rsame12_any O7.out (row_of_own O8.out))
    refine lex_call (i := 26) rfl (by kernel_rfl) (by rfl) ?_ _ CC.out ?_
    · go_simp
    rintro e V9 ⟨rfl, uu⟩
    have U9 := Lib.hid (bmore U8.out uu)
    clear uu CC
    rw [decide_eq_true (rfl : bonP l who = bonP l who)]
    clear O7 O8
    refine ⟨_, rfl, (fun V : World => V.cell? ⟨ba, 0, none⟩ = some (.int .i64 k1) ∧ V.cell? ⟨ba, 1, none⟩ = some (.int .i64 w1) ∧ V.cell? ⟨ba, 2, none⟩ = some (.int .u64 c1) ∧ V.cell? ⟨ba, 3, none⟩ = some (.string s1) ∧ V.cell? ⟨bb, 0, none⟩ = some (.int .i64 k2) ∧ V.cell? ⟨bb, 1, none⟩ = some (.int .i64 w2) ∧ V.cell? ⟨bb, 2, none⟩ = some (.int .u64 c2) ∧ V.cell? ⟨bb, 3, none⟩ = some (.string s2)), fun W h => h, HS.out _ U9.out, ?_⟩
    simp only [Act.put, List.setIfInBounds_toArray, List.set_cons_zero, List.set_cons_succ]
    refine lex_take (i := 27) (v := ?_) rfl (by kernel_rfl) (by kernel_rfl) (by kernel_rfl) (by rfl) (HS.out _ U9.out) ?_ ?_
    rotate_left
    · ((intro W hW; obtain ⟨k0, k1, k2, k3, k4, k5, k6, k7⟩ := hW; go_simp) <;> with_reducible rfl)
    simp only [Act.put, List.setIfInBounds_toArray, List.set_cons_zero, List.set_cons_succ]
    refine lex_take (i := 28) (v := ?_) rfl (by kernel_rfl) (by kernel_rfl) (by kernel_rfl) (by rfl) (HS.out _ U9.out) ?_ ?_
    rotate_left
    · ((intro W hW; obtain ⟨k0, k1, k2, k3, k4, k5, k6, k7⟩ := hW; go_simp) <;> with_reducible rfl)
    simp only [Act.put, List.setIfInBounds_toArray, List.set_cons_zero, List.set_cons_succ]
    have CC := Lib.hid (LV.out _ U9.out)
    refine lex_call (i := 29) rfl (by kernel_rfl) (by rfl) ?_ _ CC.out ?_
    · go_simp
    rintro e V10 ⟨rfl, uu⟩
    have U10 := Lib.hid (bmore U9.out uu)
    clear uu CC
    refine ⟨_, rfl, (fun V : World => V.cell? ⟨ba, 0, none⟩ = some (.int .i64 k1) ∧ V.cell? ⟨ba, 1, none⟩ = some (.int .i64 w1) ∧ V.cell? ⟨ba, 2, none⟩ = some (.int .u64 c1) ∧ V.cell? ⟨ba, 3, none⟩ = some (.string s1) ∧ V.cell? ⟨bb, 0, none⟩ = some (.int .i64 k2) ∧ V.cell? ⟨bb, 1, none⟩ = some (.int .i64 w2) ∧ V.cell? ⟨bb, 2, none⟩ = some (.int .u64 c2) ∧ V.cell? ⟨bb, 3, none⟩ = some (.string s2)), fun W h => h, HS.out _ U10.out, ?_⟩
    simp only [Act.put, List.setIfInBounds_toArray, List.set_cons_zero, List.set_cons_succ]
    refine lex_take (i := 30) (v := ?_) rfl (by kernel_rfl) (by kernel_rfl) (by kernel_rfl) (by rfl) (HS.out _ U10.out) ?_ ?_
    rotate_left
    · ((intro W hW; obtain ⟨k0, k1, k2, k3, k4, k5, k6, k7⟩ := hW; go_simp) <;> with_reducible rfl)
    simp only [Act.put, List.setIfInBounds_toArray, List.set_cons_zero, List.set_cons_succ]
    refine lex_take (i := 31) (v := ?_) rfl (by kernel_rfl) (by kernel_rfl) (by kernel_rfl) (by rfl) (HS.out _ U10.out) ?_ ?_
    rotate_left
    · ((intro W hW; obtain ⟨k0, k1, k2, k3, k4, k5, k6, k7⟩ := hW; go_simp) <;> with_reducible rfl)
    simp only [Act.put, List.setIfInBounds_toArray, List.set_cons_zero, List.set_cons_succ]
    refine lex_done (by kernel_rfl) ?_
    have HF := Lib.hid (bmore HF2.out U10.out)
    clear U10 HS
    go_wp2_with fail
    go_returns
    exact ⟨rfl, HF.out⟩
end Go.Proofs.YtjmcaceegfdkkaaGreatDoor
