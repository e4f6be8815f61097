/-
  append of facts; isBond, Bonds.
-/
import Derived.Laws.AppendOwnNone
import Derived.Test.YtjmcaceegfdkkaaGreatDoorQaFOf
namespace Go.Proofs.YtjmcaceegfdkkaaGreatDoor
open Go.RowKit Go.Maps
set_option linter.unusedVariables false
theorem rowFc : (Tryz.prog.info? FacT).map (fun i => (i.zero, i.size, i.bytes)) = some (some (.agg #[.int .i64 0, .int .i64 0, .int .u64 0, .string ⟨#[]⟩]), 4, 40) := by kernel_rfl
theorem fcs_oneCell (l : List Fc) : ∀ u ∈ fcs l, u.oneCell' = true := by
  intro u hu
  simp only [fcs, List.mem_flatMap, fcC, List.mem_cons, List.not_mem_nil, or_false] at hu
  obtain ⟨f, _, rfl | rfl | rfl | rfl⟩ := hu <;> rfl
/-- append of a list of facts to a list of the call's own. -/
theorem wpList_append_fc {w : World} {ops : Array Oper} {rest : List Oper} {o : Oper} {a : Act} {Q : Exit → Act → World → Prop} (hg : o.guard = none) (s x : Operand)
    (ho : o.op = .call { callee := .builtin .append, args := #[s, x], argTypes := #[FacsT, FacsT] })
    (base : Nat) (v : Value) (xs : List Fc) (hs : a.eval s = v) (hown : w.ownsRow base FacT 4 v xs.length (fcs xs)) (vx : Value) (l : List Fc) (hx : a.eval x = vx) (hrd : Row w 4 vx l.length (fcs l))
    (hlen : xs.length + l.length ≤ 1000000) (hbase : base ≤ w.heap.size)
    (h : ∀ v' w', w'.ownsRow base FacT 4 v' (xs ++ l).length (fcs (xs ++ l)) → w.grownBy w' v.ownBlock → wpList Tryz.prog ops Q rest (a.put o.dst v') w') : wpList Tryz.prog ops Q (o :: rest) a w := by
  refine wpList_plain hg fun K hK => ?_
  obtain ⟨i0, hi, hz0, hz1, hz2⟩ := info_parts rowFc
  rcases hrd with ⟨hl, ⟨rfl, h0⟩ | ⟨b, off, cap, rfl, h1, h2, h3, h4⟩⟩
  · obtain rfl : l = [] := List.eq_nil_of_length_eq_zero h0
    have hrun := run_append_owned_none (P := Tryz.prog) (w := w) base FacsT o.type FacT i0 4 Tryz.underlying33 hi v _ _ hown
    unfold Oper.wp
    simp [execOp, ho, resolve, invoke, builtin, hs, hx, hrun, Result.andThen]
    exact hK _ _ (h v w (by rw [List.append_nil]; exact hown) ⟨rfl, rfl, rfl, Nat.le_refl _, fun _ _ _ => rfl⟩)
  · refine wp_append_own w s x FacsT ho base FacT i0 (.agg #[.int .i64 0, .int .i64 0, .int .u64 0, .string ⟨#[]⟩]) 4 40 Tryz.underlying33 hi hz0 hz1 hz2 rfl (by decide) v _ _ hs hown ⟨b, off, none⟩ l.length cap (fcs l) hx (fcs_length l) (fun j u hj => by have := h4 j u hj; by_cases h0 : j = 0 <;> simp_all [Addr.add]) (fcs_oneCell l) (by unfold maxLen; omega) (by omega) hbase ?_
    intro v' w' h6 h7 _
    exact hK _ _ (h v' w' (by rw [List.length_append, fcs_append]; exact h6) h7)
theorem Row.at4 {w : World} {n m : Nat} {v : Value} {cs : List Value} (h : Row w m v n cs) : ∃ a c, v = .slice a n c ∧ (0 < n → ∃ b off, a = some ⟨b, off, none⟩ ∧ ∀ j u, cs[j]? = some u → w.cell? ⟨b, off + j, none⟩ = some u) := by
  rcases h.2 with ⟨rfl, rfl⟩ | ⟨b, off, cap, rfl, _, _, _, h6⟩
  · exact ⟨_, _, rfl, fun h => by omega⟩
  · exact ⟨_, _, rfl, fun _ => ⟨b, off, rfl, h6⟩⟩
/-- One fact, in a block. -/
theorem row_fc {w : World} {b : Nat} {f : Fc} (h : w.heap[b]? = some (.cells (fcA f) FacT)) : Row w 4 (.slice (some ⟨b, 0, none⟩) 1 1) [f].length (fcs [f]) :=
  ⟨rfl, .inr ⟨b, 0, 1, rfl, (Array.getElem?_eq_some_iff.1 h).1, Nat.le_refl _, by unfold maxLen; omega, fun j u hj => by
    rw [Nat.zero_add]
    refine cellB h ?_
    rw [← hj]; simp [fcA, fcs, fcC]⟩⟩
set_option maxRecDepth 100000 in
set_option maxHeartbeats 1600000 in
theorem isBond_any (f : Fc) (w : World) : Calls Tryz.prog 69 #[.agg (fcA f)] w fun e w' => e = .returned (.bool (bndB f)) ∧ Below w.heap.size w w' := by
  obtain ⟨k, ww, c, s⟩ := f
  have hb := Lib.hid (bZ w (.cells #[.int .i64 k, .int .i64 ww, .int .u64 c, .string s] FacT))
  have hx := heap_alloc_new w (.cells #[.int .i64 k, .int .i64 ww, .int .u64 c, .string s] FacT)
  have c0 := cellB (j := 0) hx rfl
  have HB : Hid (bndB ⟨k, ww, c, s⟩ = (k == 2)) := Lib.hid rfl
  rw [HB.out]
  simp only [fcA]
  clear hx HB
  go_enter Tryz.func69, Tryz.ntmps69
  go_wp2_with fail
  go_returns
  exact ⟨rfl, hb.out⟩
theorem bonP_snoc (l : List Fc) (who : Int) (f : Fc) : bonP (l ++ [f]) who = bonP l who ++ (if (bndB f && f.who == who) = true then [f] else []) := by
  unfold bonP
  rw [List.filter_append]
  by_cases h : (bndB f && f.who == who) = true <;> simp [h]
theorem bonP_len (l : List Fc) (who : Int) : (bonP l who).length ≤ l.length := List.length_filter_le _ _
set_option maxRecDepth 100000 in
set_option maxHeartbeats 6400000 in
theorem bonds_any {w : World} {v : Value} {l : List Fc} (h : Row w 4 v l.length (fcs l)) (hl : l.length ≤ 100000) (who : Int) : Calls Tryz.prog 20 #[v, .int .i64 who] w (FcPost w (bonP l who)) := by
  obtain ⟨sa, sc, rfl, hsx⟩ := h.at4
  have HSX := Lib.hid hsx
  have HLN := Lib.hid hl
  clear h hsx hl
  go_enter Tryz.func20, Tryz.ntmps20
  go_wp2_with fail
  go_loopw [5, 10] (fun v5 v10 wr => ∃ (i : Nat), v10 = .int .i64 (i : Int) ∧ i ≤ l.length ∧ wr.ownsRow w.heap.size FacT 4 v5 (bonP (l.take i) who).length (fcs (bonP (l.take i) who)) ∧ Below w.heap.size w wr) (fun _ v _ => l.length - (intOf v).toNat)
  case atStart => exact ⟨0, rfl, Nat.zero_le _, by rw [List.take_zero]; exact World.ownsRow_nil _ _ _ 4, Below.refl _ _⟩
  case round =>
    obtain ⟨i, rfl, hi, hown, hb⟩ := hrel
    have HO := Lib.hid hown
    have HB := Lib.hid hb
    obtain ⟨la, lc, rfl⟩ := (row_of_own hown).shape
    clear hown
    have hl4 : l.length ≤ 100000 := HLN.out
    by_cases hlt : i < l.length
    · obtain ⟨b, o, rfl, ql⟩ := HSX.out (by omega)
      obtain ⟨g0, g1, g2, g3⟩ := fcs_at l i hlt
      have x0 := bcellAt hb (ql _ _ g0)
      have x1 := bcellAt hb (ql _ _ g1); rw [← Nat.add_assoc] at x1
      have x2 := bcellAt hb (ql _ _ g2); rw [← Nat.add_assoc] at x2
      have x3 := bcellAt hb (ql _ _ g3); rw [← Nat.add_assoc] at x3
      have hi0 : (0 : Int) ≤ (i : Int) := by omega
      have hi1 : (i : Int) < (l.length : Int) := by omega
      have HTK : Hid (l.take (i + 1) = l.take i ++ [l[i]]) := Lib.hid (by rw [List.take_add_one, List.getElem?_eq_getElem hlt, Option.toList_some])
      have HPN : Hid ((bonP (l.take i) who).length ≤ 100000) := Lib.hid (Nat.le_trans (bonP_len _ _) (by rw [List.length_take]; have := HLN.out; omega))
      have HPS := Lib.hid (bonP_snoc (l.take i) who l[i])
      rw [← HTK.out] at HPS
      have IB := Lib.hid (fun W => isBond_any l[i] W)
      generalize l[i] = x at *
      clear ql hb HTK g0 g1 g2 g3
      generalize bonP (l.take i) who = S0 at *
      obtain ⟨k, xw, c, s⟩ := x
      simp only [fcA] at *
      have HZ := Lib.hid (bZ wr (.cells #[.int .i64 k, .int .i64 xw, .int .u64 c, .string s] FacT))
      have HOZ := Lib.hid (own_hold HO.out (Hold.below HZ.out))
      clear HO
      have hz := heap_alloc_new wr (.cells #[.int .i64 k, .int .i64 xw, .int .u64 c, .string s] FacT)
      have z0 := cellB (j := 0) hz rfl
      have z1 := cellB (j := 1) hz rfl
      have z2 := cellB (j := 2) hz rfl
      have z3 := cellB (j := 3) hz rfl
      clear hz
      go_upto_region 5 with fail
      generalize (wr.alloc (.cells #[.int .i64 k, .int .i64 xw, .int .u64 c, .string s] FacT)) = wz at *
      have HBZ := Lib.hid (bmore HB.out HZ.out)
      have HZ0 := Lib.hid (⟨z0, z1, z2, z3⟩ : wz.cell? ⟨_, 0, none⟩ = some (.int .i64 k) ∧ wz.cell? ⟨_, 1, none⟩ = some (.int .i64 xw) ∧ wz.cell? ⟨_, 2, none⟩ = some (.int .u64 c) ∧ wz.cell? ⟨_, 3, none⟩ = some (.string s))
      clear x0 x1 x2 x3
      generalize wr.heap.size = zb at *
      clear HZ
      generalize bndB ⟨k, xw, c, s⟩ = bb at *
      go_wp2_with fail
      refine (IB.out _).mono ?_
      rintro e w3 ⟨rfl, u3⟩
      have HB3 := Lib.hid (bmore HBZ.out u3)
      have HO3 := Lib.hid (own_hold HOZ.out (Hold.below u3))
      have y0 := bcellAt u3 z0
      have y1 := bcellAt u3 z1
      have y2 := bcellAt u3 z2
      have y3 := bcellAt u3 z3
      clear z0 z1 z2 z3 u3 IB HZ0 HOZ HBZ
      cases bb with
      | false =>
        go_wp2_with fail
        go_roundw
        case rel => exact ⟨i + 1, by go_num, by omega, by rw [HPS.out]; simpa using HO3.out, HB3.out⟩
        case measure => simp [intOf]; omega
      | true =>
        by_cases hw : xw = who
        · subst hw
          have HS3 := Lib.hid HB3.out.size
          have HZ3 := Lib.hid (bZ w3 (.cells #[.int .i64 k, .int .i64 xw, .int .u64 c, .string s] FacT))
          have HR3 := Lib.hid (row_fc (w := w3.alloc (.cells #[.int .i64 k, .int .i64 xw, .int .u64 c, .string s] FacT)) (b := w3.heap.size) (f := ⟨k, xw, c, s⟩) (heap_alloc_new _ _))
          have HO4 := Lib.hid (own_hold HO3.out (Hold.below HZ3.out))
          go_wp2_with (first
            | (at_builtin; refine wpList_append_fc rfl _ _ rfl w.heap.size (.slice la S0.length lc) S0 rfl HO4.out _ [⟨k, xw, c, s⟩] rfl HR3.out (by have := HPN.out; simp; omega) (Nat.le_trans HS3.out HZ3.out.size) ?_; intro v5 w5 hrow5 hg5)
            | fail)
          go_roundw
          case rel =>
            refine ⟨i + 1, by go_num, by omega, ?_, ?_⟩
            · have h6 := HPS.out
              have h7 : (true && xw == xw) = true := by simp
              rw [if_pos h7] at h6
              rw [h6]
              exact hrow5
            · exact (bmore HB3.out HZ3.out).grown hg5 (Nat.le_trans HS3.out HZ3.out.size) (fun j e => (own_type HO4.out e).1)
          case measure => simp [intOf]; omega
        · have hw1 : (xw == who) = false := by simpa using hw
          have HW := Lib.hid hw1
          clear hw
          go_wp2_with fail
          go_roundw
          case rel => exact ⟨i + 1, by go_num, by omega, by rw [HPS.out, HW.out]; simpa using HO3.out, HB3.out⟩
          case measure => simp [intOf]; omega
    · obtain rfl : i = l.length := by omega
      have hi2 : decide ((l.length : Int) < (l.length : Int)) = false := decide_eq_false (by omega)
      go_wp2_with fail
      go_returns
      exact ⟨_, rfl, by rw [show bonP l who = bonP (l.take l.length) who from by rw [List.take_length]]; exact HO.out, HB.out⟩
end Go.Proofs.YtjmcaceegfdkkaaGreatDoor
