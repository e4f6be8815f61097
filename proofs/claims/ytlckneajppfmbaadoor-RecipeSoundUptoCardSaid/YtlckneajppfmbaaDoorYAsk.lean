/-
  What the laws ask first: are the lists long, or the trees large? A list of operations, laid anew.
-/
import Derived.Test.YtlckneajppfmbaaDoorYLivW
import Derived.Test.YtlckneajppfmbaaDoorTParts
import Derived.Laws.AppendOwnNone
namespace Go.Proofs.YtlckneajppfmbaaDoor
open Go.RowKit Go.Maps
set_option linter.unusedVariables false

set_option maxRecDepth 100000 in
set_option maxHeartbeats 1600000 in
theorem long_any {w : World} {vl : Value} {l : List OpP} (hr : Row w 5 vl l.length (opsV l)) : Calls Tryd.prog 21 #[vl] w fun e w' => (∃ q, e = .returned (.bool q) ∧ (q = false → l.length ≤ 300)) ∧ w = w' := by
  obtain ⟨la, lc, rfl, hx⟩ := hr.at2
  have hll := hr.small
  unfold maxLen at hll
  have HX := Lib.hid hx
  clear hr hx
  go_enter Tryd.func21, Tryd.ntmps21
  go_wp2_with fail
  go_loopw [3, 4] (fun v3 v4 wr => ∃ (i : Nat) (nn : Int), v3 = .int .i64 nn ∧ v4 = .int .i64 (i : Int) ∧ i ≤ l.length ∧ i ≤ 301 ∧ w = wr) (fun _ v _ => l.length - (intOf v).toNat)
  case atStart => exact ⟨0, 0, rfl, rfl, Nat.zero_le _, by omega, rfl⟩
  case round =>
    obtain ⟨i, nn, rfl, rfl, hi, h301, rfl⟩ := hrel
    have hi0 : (0 : Int) ≤ (i : Int) := by omega
    by_cases hlt : i < l.length
    · by_cases h300 : i ≤ 300
      · obtain ⟨lb, lo, rfl, qq⟩ := HX.out (by omega)
        have c4 := qq _ _ (opsV_at l i hlt).2.2.2.2
        simp only [← Nat.add_assoc] at c4
        have hi1 : (i : Int) < (l.length : Int) := by omega
        have hi2 : (i : Int) ≤ 300 := by omega
        generalize (l[i]).text = tx at *
        clear qq
        go_wp2_with fail
        go_roundw
        case rel => exact ⟨i + 1, _, rfl, by go_num, by omega, by omega, by trivial⟩
        case measure => simp [intOf]; omega
      · have hi2 : decide ((i : Int) ≤ 300) = false := decide_eq_false (by omega)
        have hc : decide ((300 : Int) < (l.length : Int)) = true := decide_eq_true (by omega)
        go_wp2_with fail
        go_returns
        exact ⟨⟨true, rfl, fun h => by cases h⟩, rfl⟩
    · obtain rfl : i = l.length := by omega
      by_cases hc : 300 < l.length
      · have hc' : decide ((300 : Int) < (l.length : Int)) = true := decide_eq_true (by omega)
        go_wp2_with fail
        go_returns
        exact ⟨⟨true, rfl, fun h => by cases h⟩, rfl⟩
      · have hc' : decide ((300 : Int) < (l.length : Int)) = false := decide_eq_false (by omega)
        cases hn : decide ((20000 : Int) < nn)
        all_goals
          go_wp2_with fail
          go_returns
          exact ⟨⟨_, rfl, fun _ => by omega⟩, rfl⟩
theorem rowOp : (Tryd.prog.info? OpT).map (fun i => (i.zero, i.size, i.bytes)) = some (some (.agg #[.int .i64 0, .int .i64 0, .int .i64 0, .int .u64 0, .string ⟨#[]⟩]), 5, 48) := by kernel_rfl
theorem opsV_one (l : List OpP) : ∀ u ∈ opsV l, u.oneCell' = true := by
  intro u hu
  obtain ⟨x, _, hx⟩ := List.mem_flatMap.1 hu
  simp only [opC, List.mem_cons, List.mem_nil_iff, or_false] at hx
  rcases hx with rfl | rfl | rfl | rfl | rfl <;> rfl
/-- append of a list of operations to a list of the call's own. -/
theorem wp_append_ops {w : World} {o : Oper} {a : Act} {K : Act → World → Prop} {Q : Exit → Act → World → Prop} (s x : Operand)
    (ho : o.op = .call { callee := .builtin .append, args := #[s, x], argTypes := #[45, 45] })
    (base : Nat) (v : Value) (xs : List OpP) (hs : a.eval s = v) (hown : w.ownsRow base OpT 5 v xs.length (opsV xs)) (vx : Value) (l : List OpP) (hx : a.eval x = vx) (hrd : Row w 5 vx l.length (opsV l))
    (hlen : xs.length + l.length ≤ 1000000) (hbase : base ≤ w.heap.size)
    (h : ∀ v' w', w'.ownsRow base OpT 5 v' (xs ++ l).length (opsV (xs ++ l)) → w.grownBy w' v.ownBlock → K (a.put o.dst v') w') : Oper.wp Tryd.prog o a w K Q := by
  obtain ⟨i0, hi, hz0, hz1, hz2⟩ := info_parts rowOp
  rcases hrd with ⟨hl, ⟨rfl, h0⟩ | ⟨b, off, cap, rfl, h1, h2, h3, h4⟩⟩
  · obtain rfl : l = [] := List.eq_nil_of_length_eq_zero h0
    have hrun := run_append_owned_none (P := Tryd.prog) (w := w) base 45 o.type OpT i0 5 Tryd.underlying45 hi v _ _ hown
    unfold Oper.wp
    simp [execOp, ho, resolve, invoke, builtin, hs, hx, hrun, Result.andThen]
    exact h v w (by rw [List.append_nil]; exact hown) ⟨rfl, rfl, rfl, Nat.le_refl _, fun _ _ _ => rfl⟩
  · refine wp_append_own w s x 45 ho base OpT i0 (.agg #[.int .i64 0, .int .i64 0, .int .i64 0, .int .u64 0, .string ⟨#[]⟩]) 5 48 Tryd.underlying45 hi hz0 hz1 hz2 rfl (by decide) v _ _ hs hown ⟨b, off, none⟩ l.length cap (opsV l) hx (by rw [opsV_length]) (fun j u hj => by have := h4 j u hj; by_cases h0 : j = 0 <;> simp_all [Addr.add]) (opsV_one l) (by unfold maxLen; omega) (by omega) hbase ?_
    intro v' w' h6 h7 _
    exact h v' w' (by rw [List.length_append, opsV_append]; exact h6) h7
set_option maxRecDepth 100000 in
set_option maxHeartbeats 800000 in
theorem large9_any {w : World} {fo : Fo} {vn : Value} (hk : IsK w (fun b => b < w.heap.size) vn fo) : Calls Tryd.prog 20 #[vn] w fun e w' => (∃ q, e = .returned (.bool q) ∧ (q = false → fo.len ≤ 300 ∧ 1 + fo.size ≤ 6000)) ∧ Below w.heap.size w w' := by
  have hlen := hk.small
  unfold maxLen at hlen
  have PA := Lib.hid (parts_any (G := fun b => b < w.heap.size) ⟨0, 0, 0, 0, emptyS, 0, 0⟩ fo w vn 6000 hk (by omega) (by omega))
  obtain ⟨av, cv, rfl, _⟩ := hk.shape
  have HS := Lib.hid (fun (h : partsL fo 1 6000 ≤ 6000) => partsL_size fo 1 6000 (by omega) h)
  have hbd := partsL_bd fo 1 6000 (by omega)
  generalize partsL fo 1 6000 = pp at *
  clear hk
  by_cases h300 : 300 < fo.len
  · have hc : decide ((300 : Int) < (fo.len : Int)) = true := decide_eq_true (by omega)
    go_enter Tryd.func20, Tryd.ntmps20
    go_wp2_with fail
    go_returns
    exact ⟨⟨true, rfl, fun h => by cases h⟩, Below.refl _ _⟩
  · have hc : decide ((300 : Int) < (fo.len : Int)) = false := decide_eq_false (by omega)
    go_enter Tryd.func20, Tryd.ntmps20
    go_wp2_with fail
    refine PA.out.mono ?_
    rintro e w1 ⟨rfl, u1⟩
    have U1 := Lib.hid u1
    clear u1 PA
    cases hp : decide ((6000 : Int) < pp)
    all_goals
      go_wp2_with fail
      go_returns
      refine ⟨⟨_, rfl, fun hq => ?_⟩, U1.out⟩
      first
        | (cases hq; done)
        | (have h6 : pp ≤ 6000 := by simpa using hp
           have h7 := HS.out h6
           exact ⟨by omega, by omega⟩)
theorem evl_mem {r : List Int × Int × Pl} (h : r.2.1 = 0 → 0 < r.1.length) (h0 : (evlP r).2.1 = 0) : (evlP r).1 ∈ r.1 := by
  unfold evlP at h0 ⊢
  by_cases e : r.2.1 = 0
  · rw [if_neg (fun h => h e)]
    have := h e
    simp only [List.getD_eq_getElem?_getD, List.getElem?_eq_getElem (show r.1.length - 1 < r.1.length by omega), Option.getD_some]
    exact List.getElem_mem _
  · rw [if_pos e] at h0
    exact absurd h0 e
end Go.Proofs.YtlckneajppfmbaaDoor
