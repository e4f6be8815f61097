/-
  The document's Seen.
  The document's own lists of facts: sign, Compare, Same, Has, Bonds.
  EvidenceMore, plain; append of a list of terms.
-/
import Derived.BigQuiet
import Derived.Laws.AppendOwnNone
import Derived.Test.YtjmcaceegfdkkaaGreatDoorQcZHas
import Derived.Test.YtjmcaceegfdkkaaGreatDoorQcZDocS
import Derived.Test.YtjmcaceegfdkkaaGreatDoorQcFBon
import Derived.Test.YtjmcaceegfdkkaaGreatDoorQcFCpm
namespace Go.Proofs.YtjmcaceegfdkkaaGreatDoor
open Go.RowKit Go.Maps
set_option linter.unusedVariables false
theorem own_baseS {w : World} {B B' n size : Nat} {e : TypeId} {v : Value} {xs : List Value} (h : w.ownsRow B e size v n xs) (hB : B' ≤ B) : w.ownsRow B' e size v n xs :=
 ⟨h.1, h.2.imp id fun ⟨g, cap, cur, e1, hb, rest⟩ => ⟨g, cap, cur, e1, Nat.le_trans hB hb, rest⟩⟩
def seenU (s : Int → Option Way) (n : Nat) : List Int := ((List.range n).map fun i : Nat => (i : Int) + 1).filter fun t => (s t).isSome
theorem seenU_len (s : Int → Option Way) (n : Nat) : (seenU s n).length ≤ n := by
 unfold seenU
 exact Nat.le_trans (List.length_filter_le _ _) (by simp)
theorem seenU_yes {s : Int → Option Way} {n : Nat} (h : (s ((n : Int) + 1)).isSome = true) : seenU s (n + 1) = seenU s n ++ [(n : Int) + 1] := by
 have := seenL_upto [] s n
 unfold seenU
 rw [this, if_pos h]
theorem seenU_no {s : Int → Option Way} {n : Nat} (h : (s ((n : Int) + 1)).isSome = false) : seenU s (n + 1) = seenU s n := by
 have := seenL_upto [] s n
 unfold seenU
 rw [this, if_neg (by rw [h]; decide), List.append_nil]
set_option maxRecDepth 100000 in
set_option maxHeartbeats 12800000 in
theorem rkseen_any {w : World} {B0 ra : Nat} {rl rs rd : Value} {p : Pl} {B xb : Nat} {gv : Value} {g : List Int} (hr : IsRef w B0 ra rl rs rd p) (hx : IsRK w B xb ra gv g) (hgin : ∀ x ∈ g, inP p x = true) (hgl : g.length ≤ 65536) {s : Int → Option Way} (hs : ∀ x, (s x).isSome = true ↔ Reach p g x) : Calls Tryz.prog 40 #[.pointer (some ⟨xb, 0, none⟩)] w fun e w' => ∃ v, e = .returned v ∧ w'.ownsRow w.heap.size TermT 1 v (seenL p s).length (ints (seenL p s)) ∧ Below w.heap.size w w' := by
 have hlen : p.length ≤ 65536 := hr.ok.len
 have SE := Lib.hid (rseen_any hr hx hgin hgl)
 clear hr hx hgin
 go_enter Tryz.func40, Tryz.ntmps40
 go_wp2_with fail
 refine SE.out.mono ?_
 rintro e w1 ⟨sb, f, rfl, hbo, hf, u1⟩
 have HFS : Hid (∀ x : Nat, f x = (s (x : Int)).isSome) := Lib.hid fun x => by
  have h1 := hf x
  rw [← hs] at h1
  cases hfx : f x <;> cases hsx : (s (x : Int)).isSome <;> simp_all
 have HBO := Lib.hid hbo
 have HU := Lib.hid u1
 have HSB : Hid (sb < w1.heap.size) := Lib.hid (by obtain ⟨C, h1, _⟩ := hbo.lay; exact (Array.getElem?_eq_some_iff.1 h1).1)
 clear hbo hf hs u1 SE
 go_wp2_with fail
 go_loopw [4, 5] (fun v4 v5 wr => ∃ n : Nat, v5 = .int .i64 (((n + 1 : Nat) : Int)) ∧ n ≤ p.length ∧ wr.ownsRow w1.heap.size TermT 1 v4 (seenU s n).length (ints (seenU s n)) ∧ Below w1.heap.size w1 wr) (fun _ v _ => p.length + 2 - (intOf v).toNat)
 case atStart => exact ⟨0, rfl, Nat.zero_le _, World.ownsRow_nil _ _ _ 1, Below.refl _ _⟩
 case round =>
  obtain ⟨n, rfl, hn, hrow, hb⟩ := hrel
  have HRW := Lib.hid hrow
  have HB := Lib.hid hb
  have hul := seenU_len s n
  obtain ⟨ta, tc, rfl⟩ := (row_of_own hrow).shape
  clear hrow
  by_cases hlt : n < p.length
  ·have e0 := (HBO.out.below hb).cell (x := n + 1) (by omega)
   have hst : f (n + 1) = (s ((n : Int) + 1)).isSome := by rw [HFS.out]; rfl
   rw [hst] at e0
   have hn0 : (0 : Int) ≤ ((n + 1 : Nat) : Int) := by omega
   have hn1 : ((n + 1 : Nat) : Int) < ((p.length + 1 : Nat) : Int) := by omega
   have HY := Lib.hid (fun h => seenU_yes (s := s) (n := n) h)
   have HN := Lib.hid (fun h => seenU_no (s := s) (n := n) h)
   clear hst HFS
   cases hq : (s ((n : Int) + 1)).isSome with
   | false =>
    rw [hq] at e0
    have HR2 : Hid (wr.ownsRow w1.heap.size TermT 1 (.slice ta (seenU s n).length tc) (seenU s (n + 1)).length (ints (seenU s (n + 1)))) := Lib.hid (by rw [HN.out hq]; exact HRW.out)
    clear hb hq HY HN
    go_wp2_with fail
    go_roundw
    case rel => exact ⟨n + 1, by go_num, by omega, HR2.out, HB.out⟩
    case measure => simp [intOf] <;> omega
   | true =>
    rw [hq] at e0
    have hA := bA0 wr (.cells #[.int .i64 (((n + 1 : Nat) : Int))] TermT)
    have hnA : (wr.alloc (.cells #[.int .i64 (((n + 1 : Nat) : Int))] TermT)).heap[wr.heap.size]? = some (Obj.cells #[.int .i64 (((n + 1 : Nat) : Int))] TermT) := heap_alloc_new _ _
    have HA := Lib.hid hA
    have HNA := Lib.hid hnA
    have HOA := Lib.hid (own_hold HRW.out (Hold.below hA))
    have HYQ := Lib.hid (HY.out hq)
    have hsz1 : w1.heap.size ≤ wr.heap.size := hb.size
    clear hA hnA hb hq HY HN
    go_wp2_with (at_builtin; refine wpList_append_tw rfl _ _ rfl w1.heap.size _ (seenU s n) rfl HOA.out wr.heap.size (((n + 1 : Nat) : Int)) rfl (cellB (j := 0) HNA.out rfl) (by omega) (Nat.le_trans hsz1 HA.out.size) ?_; intro v5 w5 hrow5 hg5 _)
    have hB5 : Below w1.heap.size w1 w5 := (bmore HB.out HA.out).trans (grown_below hg5 (Nat.le_trans hsz1 HA.out.size) (fun x e => (own_type HOA.out e).1))
    have HB5 := Lib.hid hB5
    have HR5 : Hid (w5.ownsRow w1.heap.size TermT 1 v5 (seenU s (n + 1)).length (ints (seenU s (n + 1)))) := Lib.hid (by rw [HYQ.out]; exact hrow5)
    clear hrow5 hg5 hB5 HOA HNA HA
    go_wp2_with fail
    go_roundw
    case rel => exact ⟨n + 1, by go_num, by omega, HR5.out, HB5.out⟩
    case measure => simp [intOf] <;> omega
  ·obtain rfl : n = p.length := by omega
   have HF : Hid (wr.ownsRow w.heap.size TermT 1 (.slice ta (seenU s p.length).length tc) (seenL p s).length (ints (seenL p s))) := Lib.hid (own_baseS HRW.out HU.out.size)
   have HBF := Lib.hid (bmore HU.out HB.out)
   clear hb hlt
   go_wp2_with fail
   go_returns
   exact ⟨_, rfl, HF.out, HBF.out⟩
end Go.Proofs.YtjmcaceegfdkkaaGreatDoor
namespace Go.Proofs.YtjmcaceegfdkkaaGreatDoor
open Go.RowKit Go.Maps
set_option linter.unusedVariables false
theorem hneq_fc (x y : Fc) (W : World) : (binOp .neq FacT (.agg (fcA x)) (.agg (fcA y))).run Tryz.prog W = .ok (.bool (!decide (x = y))) W := by
 have h := heq_fc x y W
 unfold fcA at h ⊢
 rw [run_eql_struct] at h
 rw [run_neq_struct]
 generalize (Op.equalIn 10000 FacT _ _).run Tryz.prog W = r at *
 cases r with
 | ok b w' => simp only [Result.andThen] at h ⊢; cases h; rfl
 | _ => simp [Result.andThen] at h
set_option maxRecDepth 100000 in
set_option maxHeartbeats 6400000 in
theorem rsame12_any {w : World} {va vb : Value} {l m : List Fc} (ha : Row w 4 va l.length (fcs l)) (hb : Row w 4 vb m.length (fcs m)) : Calls Tryz.prog 19 #[va, vb] w fun e w' => e = .returned (.bool (decide (l = m))) ∧ Below w.heap.size w w' := by
 obtain ⟨aa, ac, rfl, hax⟩ := ha.at4
 obtain ⟨ba, bc, rfl, hbx⟩ := hb.at4
 have HAX := Lib.hid hax
 have HBX := Lib.hid hbx
 have hll := ha.small
 have hlm := hb.small
 unfold maxLen at hll hlm
 obtain ⟨rr, hrr⟩ : ∃ rr, rr = decide (l = m) := ⟨_, rfl⟩
 rw [← hrr]
 have HR := Lib.hid hrr
 clear ha hb hax hbx hrr
 by_cases hlen : l.length = m.length
 case neg =>
  have hn : ((l.length : Int) != (m.length : Int)) = true := by simp; omega
  obtain rfl : rr = false := HR.out.trans (decide_eq_false fun e => hlen (by rw [e]))
  have HB := Lib.hid (Below.refl w.heap.size w)
  clear HR hlen HAX HBX
  go_enter Tryz.func19, Tryz.ntmps19
  go_wp2_with fail
  go_returns
  exact ⟨rfl, HB.out⟩
 have hn : ((l.length : Int) != (m.length : Int)) = false := by simp; omega
 go_enter Tryz.func19, Tryz.ntmps19
 go_wp2_with fail
 go_loopw [5] (fun v5 wr => ∃ i : Nat, v5 = .int .i64 (i : Int) ∧ i ≤ l.length ∧ l.take i = m.take i ∧ Below w.heap.size w wr) (fun v _ => l.length - (intOf v).toNat)
 case atStart => exact ⟨0, rfl, Nat.zero_le _, by simp, Below.refl _ _⟩
 case round =>
  obtain ⟨i, rfl, hi, htk, hb⟩ := hrel
  have HB := Lib.hid hb
  have HTK := Lib.hid htk
  clear htk
  by_cases hlt : i < l.length
  ·have hlt2 : i < m.length := by omega
   obtain ⟨b1, o1, rfl, q1⟩ := HAX.out (by omega)
   obtain ⟨b2, o2, rfl, q2⟩ := HBX.out (by omega)
   obtain ⟨a0, a1, a2, a3⟩ := fcs_at l i hlt
   obtain ⟨d0, d1, d2, d3⟩ := fcs_at m i hlt2
   have c0 := bcellAt hb (q1 _ _ a0)
   have c1 := bcellAt hb (q1 _ _ a1)
   have c2 := bcellAt hb (q1 _ _ a2)
   have c3 := bcellAt hb (q1 _ _ a3)
   have e0 := bcellAt hb (q2 _ _ d0)
   have e1 := bcellAt hb (q2 _ _ d1)
   have e2 := bcellAt hb (q2 _ _ d2)
   have e3 := bcellAt hb (q2 _ _ d3)
   simp only [← Nat.add_assoc] at c1 c2 c3 e1 e2 e3
   have hq := fun (W : World) => hneq_fc l[i] m[i] W
   have HN := Lib.hid (fun (h : l[i] = m[i]) => (by rw [List.take_add_one, List.take_add_one, List.getElem?_eq_getElem hlt, List.getElem?_eq_getElem hlt2, HTK.out, h] : l.take (i + 1) = m.take (i + 1)))
   have HX := Lib.hid (fun (h : ¬ l[i] = m[i]) => (HR.out.trans (decide_eq_false fun e => h (by subst e; rfl)) : rr = false))
   clear q1 q2 a0 a1 a2 a3 d0 d1 d2 d3 hb HR HTK
   generalize l[i] = x at *
   generalize m[i] = y at *
   have hi0 : (0 : Int) ≤ (i : Int) := by omega
   have hi1 : (i : Int) < (l.length : Int) := by omega
   have hi2 : (i : Int) < (m.length : Int) := by omega
   by_cases hxy : x = y
   ·have HNN := Lib.hid (HN.out hxy)
    rw [decide_eq_true hxy] at hq
    obtain ⟨xk, xw, xc, xs⟩ := x
    obtain ⟨yk, yw, yc, ys⟩ := y
    simp only [fcA, Bool.not_true] at c0 c1 c2 c3 e0 e1 e2 e3 hq
    clear HN HX hxy
    go_wp2_with fail
    go_quiet (fail)
    have HBQ := Lib.hid (bmore HB.out (bdn wr nq))
    clear c0 c1 c2 c3 e0 e1 e2 e3
    go_wp2_with fail
    go_roundw
    case rel => exact ⟨i + 1, by go_num, by omega, HNN.out, HBQ.out⟩
    case measure => simp [intOf] <;> omega
   ·obtain rfl := HX.out hxy
    rw [decide_eq_false hxy] at hq
    obtain ⟨xk, xw, xc, xs⟩ := x
    obtain ⟨yk, yw, yc, ys⟩ := y
    simp only [fcA, Bool.not_false] at c0 c1 c2 c3 e0 e1 e2 e3 hq
    clear HN HX hxy
    go_wp2_with fail
    go_quiet (fail)
    have HBQ := Lib.hid (bmore HB.out (bdn wr nq))
    clear c0 c1 c2 c3 e0 e1 e2 e3
    go_wp2_with fail
    go_returns
    exact ⟨rfl, HBQ.out⟩
  ·obtain rfl : i = l.length := by omega
   obtain rfl : rr = true := HR.out.trans (decide_eq_true (by have h := HTK.out; rw [List.take_length, hlen, List.take_length] at h; exact h))
   clear HR HTK
   go_wp2_with fail
   go_returns
   exact ⟨rfl, HB.out⟩
set_option maxRecDepth 100000 in
set_option maxHeartbeats 6400000 in
theorem rhas12_any {w : World} {va : Value} {l : List Fc} (ha : Row w 4 va l.length (fcs l)) (x : Fc) : Calls Tryz.prog 41 #[va, .agg (fcA x)] w fun e w' => e = .returned (.bool (decide (x ∈ l))) ∧ Below w.heap.size w w' := by
 obtain ⟨aa, ac, rfl, hax⟩ := ha.at4
 have HAX := Lib.hid hax
 have hll := ha.small
 unfold maxLen at hll
 obtain ⟨rr, hrr⟩ : ∃ rr, rr = decide (x ∈ l) := ⟨_, rfl⟩
 rw [← hrr]
 have HR := Lib.hid hrr
 clear ha hax hrr
 obtain ⟨xk, xw, xc, xs⟩ := x
 have HB0 := Lib.hid (bZ w (.cells #[.int .i64 xk, .int .i64 xw, .int .u64 xc, .string xs] FacT))
 have hz := heap_alloc_new w (.cells #[.int .i64 xk, .int .i64 xw, .int .u64 xc, .string xs] FacT)
 simp only [fcA] at *
 go_enter Tryz.func41, Tryz.ntmps41
 go_upto_region 1 with fail
 generalize (w.alloc (.cells #[.int .i64 xk, .int .i64 xw, .int .u64 xc, .string xs] FacT)) = w1 at *
 have z0 : w1.cell? ⟨w.heap.size, 0, none⟩ = some (.int .i64 xk) := cellB (j := 0) hz rfl
 have z1 : w1.cell? ⟨w.heap.size, 1, none⟩ = some (.int .i64 xw) := cellB (j := 1) hz rfl
 have z2 : w1.cell? ⟨w.heap.size, 2, none⟩ = some (.int .u64 xc) := cellB (j := 2) hz rfl
 have z3 : w1.cell? ⟨w.heap.size, 3, none⟩ = some (.string xs) := cellB (j := 3) hz rfl
 clear hz
 go_wp2_with fail
 go_loopw [5] (fun v5 wr => ∃ i : Nat, v5 = .int .i64 (i : Int) ∧ i ≤ l.length ∧ (⟨xk, xw, xc, xs⟩ : Fc) ∉ l.take i ∧ Below w1.heap.size w1 wr) (fun v _ => l.length - (intOf v).toNat)
 case atStart => exact ⟨0, rfl, Nat.zero_le _, by simp, Below.refl _ _⟩
 case round =>
  obtain ⟨i, rfl, hi, htk, hb⟩ := hrel
  have HB := Lib.hid (bmore HB0.out hb)
  have HBR := Lib.hid hb
  have HTK := Lib.hid htk
  clear htk
  by_cases hlt : i < l.length
  ·obtain ⟨b1, o1, rfl, q1⟩ := HAX.out (by omega)
   obtain ⟨a0, a1, a2, a3⟩ := fcs_at l i hlt
   have c0 := bcellAt HB.out (q1 _ _ a0)
   have c1 := bcellAt HB.out (q1 _ _ a1)
   have c2 := bcellAt HB.out (q1 _ _ a2)
   have c3 := bcellAt HB.out (q1 _ _ a3)
   simp only [← Nat.add_assoc] at c1 c2 c3
   have y0 := bcellAt hb z0
   have y1 := bcellAt hb z1
   have y2 := bcellAt hb z2
   have y3 := bcellAt hb z3
   have hq := fun (W : World) => heq_fc l[i] ⟨xk, xw, xc, xs⟩ W
   have HN := Lib.hid (fun (h : ¬ l[i] = ⟨xk, xw, xc, xs⟩) => (by rw [List.take_add_one, List.getElem?_eq_getElem hlt]; simp only [Option.toList_some, List.mem_append, List.mem_singleton, not_or]; exact ⟨HTK.out, fun e => h e.symm⟩ : (⟨xk, xw, xc, xs⟩ : Fc) ∉ l.take (i + 1)))
   have HX := Lib.hid (fun (h : l[i] = ⟨xk, xw, xc, xs⟩) => (HR.out.trans (decide_eq_true (by rw [← h]; exact List.getElem_mem hlt)) : rr = true))
   clear q1 a0 a1 a2 a3 hb HTK z0 z1 z2 z3
   generalize l[i] = y at *
   have hi0 : (0 : Int) ≤ (i : Int) := by omega
   have hi1 : (i : Int) < (l.length : Int) := by omega
   by_cases hxy : y = ⟨xk, xw, xc, xs⟩
   ·obtain rfl := HX.out hxy
    rw [decide_eq_true hxy] at hq
    obtain ⟨yk, yw, yc, ys⟩ := y
    simp only [fcA] at c0 c1 c2 c3 hq
    clear HN HX hxy
    go_wp2_with fail
    go_quiet (fail)
    have HBQ := Lib.hid (bmore HB.out (bdn wr nq))
    clear c0 c1 c2 c3 y0 y1 y2 y3
    go_wp2_with fail
    go_returns
    exact ⟨rfl, HBQ.out⟩
   ·have HNN := Lib.hid (HN.out hxy)
    rw [decide_eq_false hxy] at hq
    obtain ⟨yk, yw, yc, ys⟩ := y
    simp only [fcA] at c0 c1 c2 c3 hq
    clear HN HX hxy
    go_wp2_with fail
    go_quiet (fail)
    have HBQ := Lib.hid (bmore HBR.out (bdn wr nq))
    clear c0 c1 c2 c3 y0 y1 y2 y3
    go_wp2_with fail
    go_roundw
    case rel => exact ⟨i + 1, by go_num, by omega, HNN.out, HBQ.out⟩
    case measure => simp [intOf] <;> omega
  ·obtain rfl : i = l.length := by omega
   obtain rfl : rr = false := HR.out.trans (decide_eq_false (by have h := HTK.out; rw [List.take_length] at h; exact h))
   clear HR HTK z0 z1 z2 z3
   go_wp2_with fail
   go_returns
   exact ⟨rfl, HB.out⟩
end Go.Proofs.YtjmcaceegfdkkaaGreatDoor
namespace Go.Proofs.YtjmcaceegfdkkaaGreatDoor
open Go.RowKit Go.Maps
set_option linter.unusedVariables false
theorem intsT_append (a b : List Int) : ints (a ++ b) = ints a ++ ints b := by simp [ints]
theorem wpList_append_tl {w : World} {ops : Array Oper} {rest : List Oper} {o : Oper} {a : Act} {Q : Exit → Act → World → Prop} (hg : o.guard = none) (s x : Operand)
  (ho : o.op = .call { callee := .builtin .append, args := #[s, x], argTypes := #[49, 49] })
  (base : Nat) (v : Value) (xs : List Int) (hs : a.eval s = v) (hown : w.ownsRow base TermT 1 v xs.length (ints xs)) (vx : Value) (l : List Int) (hx : a.eval x = vx) (hrd : Row w 1 vx l.length (ints l))
  (hlen : xs.length + l.length ≤ 1000000) (hbase : base ≤ w.heap.size)
  (h : ∀ v' w', w'.ownsRow base TermT 1 v' (xs ++ l).length (ints (xs ++ l)) → w.grownBy w' v.ownBlock → wpList Tryz.prog ops Q rest (a.put o.dst v') w') : wpList Tryz.prog ops Q (o :: rest) a w := by
 refine wpList_plain hg fun K hK => ?_
 obtain ⟨i0, hi, hz0, hz1, hz2⟩ := info_parts rowTK
 rcases hrd with ⟨hl, ⟨rfl, h0⟩ | ⟨b, off, cap, rfl, h1, h2, h3, h4⟩⟩
 ·obtain rfl : l = [] := List.eq_nil_of_length_eq_zero h0
  have hrun := run_append_owned_none (P := Tryz.prog) (w := w) base 49 o.type TermT i0 1 Tryz.underlying49 hi v _ _ hown
  unfold Oper.wp
  simp [execOp, ho, resolve, invoke, builtin, hs, hx, hrun, Result.andThen]
  exact hK _ _ (h v w (by rw [List.append_nil]; exact hown) ⟨rfl, rfl, rfl, Nat.le_refl _, fun _ _ _ => rfl⟩)
 ·refine wp_append_own w s x 49 ho base TermT i0 (.int .i64 0) 1 8 Tryz.underlying49 hi hz0 hz1 hz2 rfl (by decide) v _ _ hs hown ⟨b, off, none⟩ l.length cap (ints l) hx (by simp [ints]) (fun j u hj => by have := h4 j u hj; by_cases h0 : j = 0 <;> simp_all [Addr.add]) (ints_oneCellK l) (by unfold maxLen; omega) (by omega) hbase ?_
  intro v' w' h6 h7 _
  exact hK _ _ (h v' w' (by rw [List.length_append, intsT_append]; exact h6) h7)
theorem addsG_le (q : Pl) : ∀ (l g : List Int), (addsG q g l).length ≤ g.length + l.length
 | [], g => by simp [addsG]
 | t :: l, g => by
  rw [show addsG q g (t :: l) = addsG q (addG q g t) l from rfl]
  refine Nat.le_trans (addsG_le q l _) ?_
  unfold addG
  split <;> simp <;> omega
theorem addsG_ok {q : Pl} {l : List Int} : ∀ x ∈ addsG q [] l, inP q x = true := fun x hx => by
 rw [mem_addsG] at hx
 rcases hx with h | h
 ·cases h
 ·exact h.2
theorem isAll_sub {q : Pl} {ts more : List Int} {F G : List Fc} (h1 : IsAll q (addsG q [] ts) F) (h2 : IsAll q (addsG q [] (ts ++ more)) G) : ∀ x ∈ F, x ∈ G := fun x hx => by
 obtain ⟨t, ht, hm⟩ := (h1.2 x).1 hx
 refine (h2.2 x).2 ⟨t, Reach.mono (fun y hy => ?_) ht, hm⟩
 rw [mem_addsG] at hy ⊢
 rcases hy with hy | ⟨hy, hi⟩
 ·exact .inl hy
 ·exact .inr ⟨List.mem_append.2 (.inl hy), hi⟩
theorem isAll_lt {q : Pl} {g : List Int} {F : List Fc} (h : IsAll q g F) {i : Nat} (hi : i + 1 < F.length) : cmpF (F[i]'(by omega)) F[i + 1] < 0 := List.pairwise_iff_getElem.1 h.1 i (i + 1) (by omega) hi (by omega)
theorem reach_reach {q : Pl} {g g' : List Int} (h : ∀ x, x ∈ g' ↔ Reach q g x) (t : Int) : Reach q g' t ↔ Reach q g t := by
 constructor
 ·intro ht
  induction ht with
  | given h1 => exact (h _).1 h1
  | step r _ h2 ih => exact .step r ih h2
 ·intro ht
  exact .given ((h t).2 ht)
open Classical in
noncomputable def seenS (q : Pl) (g : List Int) (x : Int) : Option Way := if Reach q g x then some (0, 0) else none
theorem seenS_iff {q : Pl} {g : List Int} (x : Int) : (seenS q g x).isSome = true ↔ Reach q g x := by
 unfold seenS
 by_cases h : Reach q g x
 ·rw [if_pos h]; exact ⟨fun _ => h, fun _ => rfl⟩
 ·rw [if_neg h]; exact ⟨fun h' => (by cases h'), fun h' => absurd h' h⟩
theorem seen_in {q : Pl} (hq : Ok q) {g : List Int} (hg : ∀ x ∈ g, inP q x = true) : ∀ t, (seenS q g t).isSome = true → inP q t = true := fun t ht => Reach.inp hq hg ((seenS_iff t).1 ht)
theorem isAll_again {q : Pl} (hq : Ok q) {g : List Int} (hg : ∀ x ∈ g, inP q x = true) {F G : List Fc} (h1 : IsAll q g F) (h2 : IsAll q (addsG q [] (seenL q (seenS q g))) G) : G = F := by
 refine IsAll.one (p := q) (g := g) ⟨h2.1, fun x => (h2.2 x).trans ?_⟩ h1
 have hr : ∀ t, Reach q (addsG q [] (seenL q (seenS q g))) t ↔ Reach q g t := reach_reach fun x => by
  rw [mem_addsG, mem_seenL (seen_in hq hg), seenS_iff]
  constructor
  ·rintro (h | ⟨h, _⟩)
   ·cases h
   ·exact h
  ·exact fun h => .inr ⟨h, Reach.inp hq hg h⟩
 exact ⟨fun ⟨t, h, hm⟩ => ⟨t, (hr t).1 h, hm⟩, fun ⟨t, h, hm⟩ => ⟨t, (hr t).2 h, hm⟩⟩
theorem seenL_len (q : Pl) (s : Int → Option Way) : (seenL q s).length ≤ q.length := by
 unfold seenL
 refine Nat.le_trans (List.length_filter_le _ _) ?_
 simp
theorem seenL_i64 {q : Pl} (hq : q.length ≤ 65536) (s : Int → Option Way) (h : ∀ t, (s t).isSome = true → inP q t = true) : ∀ x ∈ seenL q s, i64R x := fun x hx => by
 have := h x ((mem_seenL h).1 hx)
 simp only [inP, Bool.and_eq_true, decide_eq_true_eq] at this
 unfold i64R
 omega
end Go.Proofs.YtjmcaceegfdkkaaGreatDoor
