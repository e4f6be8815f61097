/-
  TimersPortions: turned in any portions the same falls due. The walk and the statement.
-/
import Derived.Test.YtbgnedeeeaapfaaWArg
import Derived.Test.YtbgnedeeeaapfaaW9sets
import Derived.Test.YtbgnedeeeaapfaaW3J
import Derived.Test.YtbgnedeeeaapfaaW5J
import Derived.Laws.AppendOwnNone
namespace Go.Proofs.Ytbgnedeeeaapfaa
open Go.ChangeShapes Go.WideShapes Go.ChangeAt Go.RowKit Go.Maps
set_option linter.unusedVariables false
/-- append of a row to a row of the call's own. -/
theorem wp_appendJ {w : World} {o : Oper} {a : Act} {K : Act → World → Prop} {Q : Exit → Act → World → Prop} (s x : Operand)
    (ho : o.op = .call { callee := .builtin .append, args := #[s, x], argTypes := #[53, 53] })
    (base : Nat) (v : Value) (xs : List Int) (hs : a.eval s = v) (hown : w.ownsRow base 2 1 v xs.length (ints xs)) (vx : Value) (l : List Int) (hx : a.eval x = vx) (hrd : Row w 1 vx l.length (ints l))
    (hlen : xs.length + l.length ≤ 1000000) (hbase : base ≤ w.heap.size)
    (h : ∀ v' w', w'.ownsRow base 2 1 v' (xs ++ l).length (ints (xs ++ l)) → w.grownBy w' v.ownBlock → K (a.put o.dst v') w') : Oper.wp Try.prog o a w K Q := by
  obtain ⟨i0, hi, hz0, hz1, hz2⟩ := info_parts rowVJ
  rcases hrd with ⟨hl, ⟨rfl, h0⟩ | ⟨b, off, cap, rfl, h1, h2, h3, h4⟩⟩
  · obtain rfl : l = [] := List.eq_nil_of_length_eq_zero h0
    have hrun := run_append_owned_none (P := Try.prog) (w := w) base 53 o.type 2 i0 1 Try.underlying53 hi v _ _ hown
    unfold Oper.wp
    simp [execOp, ho, resolve, invoke, builtin, hs, hx, hrun, Result.andThen]
    exact h v w (by rw [List.append_nil]; exact hown) ⟨rfl, rfl, rfl, Nat.le_refl _, fun _ _ _ => rfl⟩
  · refine wp_append_own w s x 53 ho base 2 i0 (.int .i64 0) 1 8 Try.underlying53 hi hz0 hz1 hz2 rfl (by decide) v _ _ hs hown ⟨b, off, none⟩ l.length cap (ints l) hx (by simp [ints]) (fun j u hj => by have := h4 j u hj; by_cases h0 : j = 0 <;> simp_all [Addr.add]) (ints_oneCell l) (by unfold maxLen; omega) (by omega) hbase ?_
    intro v' w' h6 h7 _
    exact h v' w' (by rw [List.length_append, ints_append]; exact h6) h7
theorem wpList_appendJ {w : World} {ops : Array Oper} {rest : List Oper} {o : Oper} {a : Act} {Q : Exit → Act → World → Prop} (hg : o.guard = none) (s x : Operand)
    (ho : o.op = .call { callee := .builtin .append, args := #[s, x], argTypes := #[53, 53] })
    (base : Nat) (v : Value) (xs : List Int) (hs : a.eval s = v) (hown : w.ownsRow base 2 1 v xs.length (ints xs)) (vx : Value) (l : List Int) (hx : a.eval x = vx) (hrd : Row w 1 vx l.length (ints l))
    (hlen : xs.length + l.length ≤ 1000000) (hbase : base ≤ w.heap.size)
    (h : ∀ v' w', w'.ownsRow base 2 1 v' (xs ++ l).length (ints (xs ++ l)) → w.grownBy w' v.ownBlock → wpList Try.prog ops Q rest (a.put o.dst v') w') : wpList Try.prog ops Q (o :: rest) a w :=
  wpList_plain hg fun _ hK => wp_appendJ s x ho base v xs hs hown vx l hx hrd hlen hbase fun v' w' h1 h2 => hK _ _ (h v' w' h1 h2)
theorem IsWJ.aside {w w' : World} {a mb a' mb' : Nat} {cv cv' : Value} {tn tn' : Bool} {x x' : Wh} (h : IsWJ w a mb cv tn x) (k : IsWJ w a' mb' cv' tn' x') (ht : Touch (fun k => k = a' ∨ k = mb') w w') (h1 : a ≠ a' ∧ a ≠ mb' ∧ mb ≠ a' ∧ mb ≠ mb') : IsWJ w' a mb cv tn x :=
  h.keep (ht.block a h.lt (fun e => e.elim h1.1 h1.2.1)) (ht.block mb h.map.lt (fun e => e.elim h1.2.2.1 h1.2.2.2)) (Keep2.touch ht k.notNode)
theorem row_ints {w : World} {base n : Nat} {e : TypeId} {v : Value} {xs : List Value} {l : List Int} (h : w.ownsRow base e 1 v n xs) (e1 : xs = ints l) (e2 : n = l.length) : w.ownsRow base e 1 v l.length (ints l) := by
  subst e1; subst e2; exact h
set_option maxRecDepth 100000 in
set_option maxHeartbeats 3200000 in
theorem port_long {w : World} {v u : Value} {l p : List Int} (h : Row w 1 v l.length (ints l)) (h2 : Row w 1 u p.length (ints p)) (hl : 80 < l.length ∨ 80 < p.length) :
    Calls Try.prog 5 #[v, u] w fun e w' => e = .returned (.bool true) ∧ Below w.heap.size w w' := by
  obtain ⟨aa, ca, rfl⟩ := h.shape
  obtain ⟨ab, cb, rfl⟩ := h2.shape
  clear h h2
  by_cases h1 : 80 < l.length
  · have hlen : decide ((80 : Int) < (l.length : Int)) = true := by simp; omega
    clear hl h1
    go_enter Try.func5, Try.ntmps5
    go_wp2_with fail
    refine (live14 _).mono ?_
    rintro e w1 ⟨rfl, u1⟩
    have HU := Lib.hid u1
    clear u1
    go_wp2_with fail
    go_returns
    exact ⟨rfl, HU.out⟩
  · have hlen : decide ((80 : Int) < (l.length : Int)) = false := by simp; omega
    have hlen2 : decide ((80 : Int) < (p.length : Int)) = true := by have := hl.resolve_left h1; simp; omega
    clear hl h1
    go_enter Try.func5, Try.ntmps5
    go_wp2_with fail
    refine (live14 _).mono ?_
    rintro e w1 ⟨rfl, u1⟩
    have HU := Lib.hid u1
    clear u1
    go_wp2_with fail
    go_returns
    exact ⟨rfl, HU.out⟩
def cntP (l : List Int) (k : Nat) (b : Int) : Nat := ((l.take k).filter fun t => decide (0 < t ∧ t ≤ b)).length
theorem cntP_succ {l : List Int} {k : Nat} (h : k < l.length) (b : Int) : cntP l (k + 1) b = cntP l k b + (if 0 < l[k] ∧ l[k] ≤ b then 1 else 0) := by
  unfold cntP
  rw [List.take_succ_eq_append_getElem h, List.filter_append, List.length_append, List.filter_cons]
  by_cases hc : 0 < l[k] ∧ l[k] ≤ b
  · rw [if_pos (by simpa using hc), if_pos hc]; rfl
  · rw [if_neg (by simpa using hc), if_neg hc]; rfl
theorem cntP_le (l : List Int) (k : Nat) (b : Int) : cntP l k b ≤ l.length := Nat.le_trans (List.length_filter_le _ _) (by simp; omega)
set_option maxRecDepth 100000 in
set_option maxHeartbeats 12800000 in
theorem port_walk {w : World} {v u : Value} {l p : List Int} (h : Row w 1 v l.length (ints l)) (hok : ∀ n ∈ l, (Lit.int .i64 n).wf = true) (h2 : Row w 1 u p.length (ints p)) (hok2 : ∀ n ∈ p, (Lit.int .i64 n).wf = true) (hl : l.length ≤ 80) (hp : p.length ≤ 80) :
    Calls Try.prog 5 #[v, u] w fun e w' => e = .returned (.bool true) ∧ Below w.heap.size w w' := by
  obtain ⟨aa, ca, rfl, xa⟩ := h.at
  obtain ⟨ab, cb, rfl, xb⟩ := h2.at
  have XA := Lib.hid xa
  have XB := Lib.hid xb
  have HL := Lib.hid hl
  have HP := Lib.hid hp
  have hb : ∀ n : Int, (Lit.int .i64 n).wf = true → -9223372036854775808 ≤ n ∧ n ≤ maxI := fun n this => by
    simp only [Lit.wf, Bool.and_eq_true, decide_eq_true_eq] at this
    exact ⟨Int.le_trans (by decide) this.1, Int.le_trans this.2 (by decide)⟩
  have HOK := Lib.hid (fun (i : Nat) (hi : i < l.length) => hb _ (hok l[i] (List.getElem_mem hi)))
  have HOP := Lib.hid (fun (i : Nat) (hi : i < p.length) => hb _ (hok2 p[i] (List.getElem_mem hi)))
  have hlen : decide ((80 : Int) < (l.length : Int)) = false := by simp; omega
  have hlen2 : decide ((80 : Int) < (p.length : Int)) = false := by simp; omega
  clear h h2 xa xb hl hp hok hok2 hb
  go_enter Try.func5, Try.ntmps5
  go_wp2_with fail
  refine (newJ w).mono ?_
  rintro e w1 ⟨rfl, h1, u1⟩
  have H1 := Lib.hid h1
  have U1 := Lib.hid u1
  clear h1 u1
  go_wp2_with fail
  refine (newJ w1).mono ?_
  rintro e w2 ⟨rfl, h2, u2⟩
  have HA := Lib.hid (H1.out.below u2)
  have HB := Lib.hid h2
  have U2 := Lib.hid (U1.out.trans (u2.mono U1.out.size))
  have L1 : Hid (w.heap.size + 1 < w1.heap.size ∧ w1.heap.size + 1 < w2.heap.size) := Lib.hid ⟨H1.out.lt, h2.lt⟩
  clear h2 u2
  go_wp2_with fail
  go_loopw [8, 7] (fun v s wr => ∃ (k c : Nat) (x : Wh), v = .int .i64 (k : Int) ∧ s = .int .i64 (c : Int) ∧ k ≤ l.length ∧ c ≤ k ∧ IsWJ wr (w.heap.size + 1) w.heap.size (.slice none 0 0) false x ∧ IsWJ wr (w1.heap.size + 1) w1.heap.size (.slice none 0 0) false x ∧ SetsV x c (l.take k) ∧ Below w.heap.size w wr) (fun v _ _ => 81 - (intOf v).toNat)
  case atStart => exact ⟨0, 0, _, rfl, rfl, by omega, by omega, HA.out, HB.out, SetsV.new, U2.out⟩
  case round =>
    obtain ⟨k, c, x, rfl, rfl, hk, hck, hxa, hxb, hs, hb⟩ := hrel
    have XWA := Lib.hid hxa
    have XWB := Lib.hid hxb
    have HS := Lib.hid hs
    have HBB := Lib.hid hb
    have HC := Lib.hid hck
    clear hxa hxb hs hb hck
    by_cases hlt : k < l.length
    · obtain ⟨b1, o1, rfl, q1⟩ := XA.out (by omega)
      have d1 := q1 k _ (ints_at l k hlt)
      have c1 := bcellAt HBB.out d1
      have HM := Lib.hid (HOK.out k hlt)
      have hk0 : (0 : Int) ≤ (k : Int) := by omega
      have hk1 : (k : Int) < (l.length : Int) := by omega
      have HK := Lib.hid hlt
      have HTK := Lib.hid (List.take_succ_eq_append_getElem hlt)
      have D1 := Lib.hid d1
      clear q1 XA d1 HOK
      generalize l[k] = t at *
      have hwk : IntKind.i64.wrap ((k : Int) + 1) = (k : Int) + 1 := IntWalk.i64_in _ (by have := HL.out; omega)
      have hwc : IntKind.i64.wrap ((c : Int) + 1) = (c : Int) + 1 := IntWalk.i64_in _ (by have := HL.out; have := HC.out; omega)
      have HG := Lib.hid XWA.out.good
      have HDA := Lib.hid (show w1.heap.size + 1 ≠ w.heap.size + 1 ∧ w1.heap.size + 1 ≠ w.heap.size ∧ w1.heap.size ≠ w.heap.size + 1 ∧ w1.heap.size ≠ w.heap.size by have := L1.out; omega)
      have HDB := Lib.hid (show w.heap.size + 1 ≠ w1.heap.size + 1 ∧ w.heap.size + 1 ≠ w1.heap.size ∧ w.heap.size ≠ w1.heap.size + 1 ∧ w.heap.size ≠ w1.heap.size by have := L1.out; omega)
      by_cases ht0 : 0 < t
      · obtain ⟨x', hx1, hx2⟩ := HS.out.set HG.out (by have := HC.out; have := HL.out; omega) ht0
        have HX1 := Lib.hid hx1
        have HX2 := Lib.hid hx2
        clear hx1 hx2
        have hd0 : decide (0 < t) = true := by simpa using ht0
        clear ht0
        have hset : ∀ (W : World) (a mb : Nat), IsWJ W a mb (.slice none 0 0) false x → Calls Try.prog 22 #[.pointer (some ⟨a, 0, none⟩), .int .i64 t, .int .i64 t] W fun e w' => e = .returned (.tuple #[.int .i64 (c : Int), .int .i64 0]) ∧ IsWJ w' a mb (.slice none 0 0) false x' ∧ Touch (OwnW a mb) W w' := fun W a mb hW => by
          have := setJ hW t t (by have := HC.out; have := HL.out; rw [HS.out.ids]; omega) (by have := HC.out; have := HL.out; rw [HS.out.pls]; omega) HM.out.2
          rwa [HX1.out] at this
        have HSET := Lib.hid hset
        have hk : ∀ W : World, Below w.heap.size w W → W.cell? ⟨b1, o1 + k, none⟩ = some (.int .i64 t) ∧ Below w.heap.size w W := fun W hW => ⟨bcellAt hW D1.out, hW⟩
        have HKK := Lib.hid hk
        have B0 := Lib.hid (HBB.out.trans ((bd wr).mono HBB.out.size))
        clear hset hk c1
        go_wp2_with fail
        go_region_held3 (fun W => W.cell? ⟨b1, o1 + k, none⟩ = some (.int .i64 t) ∧ Below w.heap.size w W) ((refine HKK.out _ ?_; first | exact B0.out | exact U3.out))
          ((first
            | ((with_reducible refine (HSET.out _ _ _ (XWA.out.below (bd _))).mono ?_); rintro e w3 ⟨rfl, h3, t3⟩; have U3 := Lib.hid (B0.out.trans (t3.below B0.out.size (fun k hk => by have := L1.out; rcases hk with rfl | rfl <;> omega))))))
        have A3 := Lib.hid h3
        have B3 := Lib.hid ((XWB.out.below (bd _)).aside (XWA.out.below (bd _)) t3 HDA.out)
        have B30 := Lib.hid (U3.out.trans ((bd w3).mono U3.out.size))
        clear h3 t3
        go_wp2_with fail
        go_region_held3 (fun W => W.cell? ⟨b1, o1 + k, none⟩ = some (.int .i64 t) ∧ Below w.heap.size w W) ((refine HKK.out _ ?_; first | exact B30.out | exact U4.out))
          ((first
            | ((with_reducible refine (HSET.out _ _ _ (B3.out.below (bd _))).mono ?_); rintro e w4 ⟨rfl, h4, t4⟩; have U4 := Lib.hid (B30.out.trans (t4.below B30.out.size (fun k hk => by have := L1.out; rcases hk with rfl | rfl <;> omega))))))
        have B4 := Lib.hid h4
        have A4 := Lib.hid ((A3.out.below (bd _)).aside (B3.out.below (bd _)) t4 HDB.out)
        have c4 := (HKK.out _ U4.out).1
        clear h4 t4
        go_wp2_with fail
        go_quiet (exact Calls.quiet_of_same (still_of (num14 _ _)))
        go_wp2_with fail
        refine (num14 _ _).mono ?_
        rintro e w5 ⟨rfl, rfl⟩
        go_wp2_with fail
        go_roundw
        case rel => exact ⟨k + 1, c + 1, x', by push_cast; rfl, by push_cast; rfl, by have := HK.out; omega, by have := HC.out; omega, A4.out.below (bdn _ _), B4.out.below (bdn _ _), by rw [HTK.out]; exact HX2.out, U4.out.trans ((bdn w4 nq).mono U4.out.size)⟩
        case measure => have := HK.out; have := HL.out; simp [intOf]; omega
      · obtain ⟨hx1, hx2⟩ := HS.out.past (t := t) (by omega) (.int .i64 t)
        have HX1 := Lib.hid hx1
        have HX2 := Lib.hid hx2
        clear hx1 hx2
        have hd0 : decide (0 < t) = false := by simpa using ht0
        clear ht0
        have hset : ∀ (W : World) (a mb : Nat), IsWJ W a mb (.slice none 0 0) false x → Calls Try.prog 22 #[.pointer (some ⟨a, 0, none⟩), .int .i64 t, .int .i64 t] W fun e w' => e = .returned (.tuple #[.int .i64 0, .int .i64 140]) ∧ IsWJ w' a mb (.slice none 0 0) false x ∧ Touch (OwnW a mb) W w' := fun W a mb hW => by
          have := setJ hW t t (by have := HC.out; have := HL.out; rw [HS.out.ids]; omega) (by have := HC.out; have := HL.out; rw [HS.out.pls]; omega) HM.out.2
          rwa [HX1.out] at this
        have HSET := Lib.hid hset
        have hk : ∀ W : World, Below w.heap.size w W → W.cell? ⟨b1, o1 + k, none⟩ = some (.int .i64 t) ∧ Below w.heap.size w W := fun W hW => ⟨bcellAt hW D1.out, hW⟩
        have HKK := Lib.hid hk
        have B0 := Lib.hid (HBB.out.trans ((bd wr).mono HBB.out.size))
        clear hset hk c1
        go_wp2_with fail
        go_region_held3 (fun W => W.cell? ⟨b1, o1 + k, none⟩ = some (.int .i64 t) ∧ Below w.heap.size w W) ((refine HKK.out _ ?_; first | exact B0.out | exact U3.out))
          ((first
            | ((with_reducible refine (HSET.out _ _ _ (XWA.out.below (bd _))).mono ?_); rintro e w3 ⟨rfl, h3, t3⟩; have U3 := Lib.hid (B0.out.trans (t3.below B0.out.size (fun k hk => by have := L1.out; rcases hk with rfl | rfl <;> omega))))))
        have A3 := Lib.hid h3
        have B3 := Lib.hid ((XWB.out.below (bd _)).aside (XWA.out.below (bd _)) t3 HDA.out)
        have B30 := Lib.hid (U3.out.trans ((bd w3).mono U3.out.size))
        clear h3 t3
        go_wp2_with fail
        go_region_held3 (fun W => W.cell? ⟨b1, o1 + k, none⟩ = some (.int .i64 t) ∧ Below w.heap.size w W) ((refine HKK.out _ ?_; first | exact B30.out | exact U4.out))
          ((first
            | ((with_reducible refine (HSET.out _ _ _ (B3.out.below (bd _))).mono ?_); rintro e w4 ⟨rfl, h4, t4⟩; have U4 := Lib.hid (B30.out.trans (t4.below B30.out.size (fun k hk => by have := L1.out; rcases hk with rfl | rfl <;> omega))))))
        have B4 := Lib.hid h4
        have A4 := Lib.hid ((A3.out.below (bd _)).aside (B3.out.below (bd _)) t4 HDB.out)
        have c4 := (HKK.out _ U4.out).1
        clear h4 t4
        go_wp2_with fail
        go_quiet (exact Calls.quiet_of_same (still_of (num14 _ _)))
        go_wp2_with fail
        refine (num14 _ _).mono ?_
        rintro e w5 ⟨rfl, rfl⟩
        go_wp2_with fail
        go_roundw
        case rel => exact ⟨k + 1, c, x, by push_cast; rfl, rfl, by have := HK.out; omega, by have := HC.out; omega, A4.out.below (bdn _ _), B4.out.below (bdn _ _), by rw [HTK.out]; exact HX2.out, U4.out.trans ((bdn w4 nq).mono U4.out.size)⟩
        case measure => have := HK.out; have := HL.out; simp [intOf]; omega
    · obtain rfl : k = l.length := by omega
      have hs' := HS.out
      rw [List.take_length] at hs'
      have HS' := Lib.hid hs'
      have HX0 := Lib.hid (show (⟨0, x.ids, x.pls, restL x.ts 0⟩ : Wh) = x by
        rw [hs'.zero.2]
        have := hs'.now
        obtain ⟨n, i, q, ts⟩ := x
        simp only at this
        subst this; rfl)
      have HT0 := Lib.hid (show tksL x.ts 0 = [] by unfold tksL; rw [hs'.zero.1]; rfl)
      have HC2 : Hid (c ≤ 80) := Lib.hid (by have := HC.out; have := HL.out; omega)
      have HLN := Lib.hid (fun b : Int => (show (tksL x.ts b).length ≤ 80 by rw [tksL_len]; have := (due_rest_len x.ts b).2; have := hs'.len; have := HC2.out; omega))
      have HVV := Lib.hid (fun b : Int => tksL_vals (fun t ht => (hs'.val t ht).1) b)
      have HVR := Lib.hid (fun a b : Int => (show (dueL (restL x.ts a) b).map (·.v) = ints (tksL (restL x.ts a) b) from tksL_vals (fun t ht => (hs'.val t (List.mem_filter.1 ht).1).1) b))
      have HORD := Lib.hid XWA.out.good.ord
      obtain ⟨Bs, hBs⟩ : ∃ n : Nat, n = wr.heap.size := ⟨_, rfl⟩
      have HBs := Lib.hid hBs
      have L2 := Lib.hid (show w1.heap.size + 1 < Bs by rw [hBs]; exact XWB.out.lt)
      clear hs' hlt hk hBs
      go_wp2_with fail
      go_loopw [15, 13, 14] (fun v tt u wr2 => ∃ (k : Nat) (tot : Int), v = .int .i64 (k : Int) ∧ tt = .int .i64 tot ∧ k ≤ p.length ∧ 0 ≤ tot ∧ tot ≤ maxI ∧ IsWJ wr2 (w.heap.size + 1) w.heap.size (.slice none 0 0) false ⟨tot, x.ids, x.pls, restL x.ts tot⟩ ∧ IsWJ wr2 (w1.heap.size + 1) w1.heap.size (.slice none 0 0) false x ∧ wr2.ownsRow Bs ElTJ 1 u (tksL x.ts tot).length (ints (tksL x.ts tot)) ∧ Below w.heap.size w wr2 ∧ Bs ≤ wr2.heap.size) (fun v _ _ _ => 81 - (intOf v).toNat)
      case atStart => exact ⟨0, 0, rfl, rfl, by omega, by omega, by decide, by rw [HX0.out]; exact XWA.out, XWB.out, by rw [HT0.out]; exact World.ownsRow_nil _ _ _ 1, HBB.out, by rw [HBs.out]; exact Nat.le_refl _⟩
      case round =>
        obtain ⟨k, tot, rfl, rfl, hk, htot, htotM, hya, hyb, ho, hb2, hsz⟩ := hrel
        have YA := Lib.hid hya
        have YB := Lib.hid hyb
        have HO := Lib.hid ho
        have HB2 := Lib.hid hb2
        have HSZ := Lib.hid hsz
        have HTT := Lib.hid (show 0 ≤ tot ∧ tot ≤ maxI from ⟨htot, htotM⟩)
        clear hya hyb ho hb2 hsz
        by_cases hlt : k < p.length
        · obtain ⟨b2, o2, rfl, q2⟩ := XB.out (by omega)
          have d1 := q2 k _ (ints_at p k hlt)
          have c1 := bcellAt HB2.out d1
          have D1 := Lib.hid d1
          have HM := Lib.hid (HOP.out k hlt)
          have hk0 : (0 : Int) ≤ (k : Int) := by omega
          have hk1 : (k : Int) < (p.length : Int) := by omega
          have HK := Lib.hid hlt
          clear q2 XB d1 HOP
          generalize p[k] = d at *
          have hwk : IntKind.i64.wrap ((k : Int) + 1) = (k : Int) + 1 := IntWalk.i64_in _ (by have := HP.out; omega)
          have hws : IntKind.i64.wrap (9223372036854775807 - tot) = 9223372036854775807 - tot := IntWalk.i64_in _ (by unfold maxI at htotM; omega)
          by_cases hd1 : d < 0
          · have hd1' : decide (d < 0) = true := by simpa using hd1
            clear hd1 htot htotM
            go_wp2_with fail
            go_roundw
            case rel => exact ⟨k + 1, tot, by push_cast; rfl, rfl, by have := HK.out; omega, HTT.out.1, HTT.out.2, YA.out, YB.out, HO.out, HB2.out, HSZ.out⟩
            case measure => have := HK.out; have := HP.out; simp [intOf]; omega
          · have hd1' : decide (d < 0) = false := by simpa using hd1
            by_cases hd2 : 9223372036854775807 - tot < d
            · have hd2' : decide (9223372036854775807 - tot < d) = true := by simpa using hd2
              clear hd1 hd2 htot htotM
              go_wp2_with fail
              go_roundw
              case rel => exact ⟨k + 1, tot, by push_cast; rfl, rfl, by have := HK.out; omega, HTT.out.1, HTT.out.2, YA.out, YB.out, HO.out, HB2.out, HSZ.out⟩
              case measure => have := HK.out; have := HP.out; simp [intOf]; omega
            · have hd2' : decide (9223372036854775807 - tot < d) = false := by simpa using hd2
              have hwt : IntKind.i64.wrap (tot + d) = tot + d := IntWalk.i64_in _ (by omega)
              have HDD := Lib.hid (show 0 ≤ d ∧ d ≤ maxI - tot ∧ 0 ≤ tot + d ∧ tot + d ≤ maxI ∧ tot ≤ tot + d by unfold maxI; omega)
              clear hd1 hd2 htot htotM
              go_wp2_with fail
              refine (turnJ YA.out (n := d) HDD.out.1 HDD.out.2.1).mono ?_
              rintro e w3 ⟨v3, rfl, o3, h3, t3⟩
              simp only at o3 h3
              rw [HVR.out] at o3
              have e3 := restL_rest x.ts (a := tot) (b := tot + d) HDD.out.2.2.2.2
              rw [e3] at h3
              have R3 : Hid (Row w3 1 v3 (tksL (restL x.ts tot) (tot + d)).length (ints (tksL (restL x.ts tot) (tot + d)))) := Lib.hid (by have := row_of_own o3; rwa [← tksL_len] at this)
              have A3 := Lib.hid h3
              have B3 := Lib.hid (YB.out.aside YA.out t3 (by have := L1.out; omega))
              have O3 := Lib.hid (own_keep HO.out t3 (fun k hk e => by have := (own_from HO.out hk).1; have := L1.out; have := L2.out; rcases e with e | e <;> omega))
              have U3 := Lib.hid (HB2.out.trans (t3.below HB2.out.size (fun k hk => by have := L1.out; rcases hk with rfl | rfl <;> omega)))
              have S3 := Lib.hid (Nat.le_trans HSZ.out t3.size)
              have HML := Lib.hid (show (tksL x.ts tot).length + (tksL (restL x.ts tot) (tot + d)).length ≤ 1000000 by
                have h1 := HLN.out tot
                have h2 := HLN.out (tot + d)
                unfold tksL at h2 ⊢
                rw [due_more HORD.out HDD.out.2.2.2.2, List.map_append, List.length_append] at h2
                omega)
              have HMR := Lib.hid (show tksL x.ts tot ++ tksL (restL x.ts tot) (tot + d) = tksL x.ts (tot + d) by unfold tksL; rw [due_more HORD.out HDD.out.2.2.2.2, List.map_append])
              have hown := Lib.hid (fun k (hk : Value.ownBlock u14 = some k) => (own_from O3.out hk).1)
              clear o3 h3 t3 e3 c1
              go_wp2_with fail
              refine (num14 _ _).mono ?_
              rintro e w4 ⟨rfl, rfl⟩
              go_wp2_with (at_builtin; refine wpList_appendJ rfl _ _ rfl Bs _ (tksL x.ts tot) rfl O3.out _ (tksL (restL x.ts tot) (tot + d)) rfl R3.out HML.out S3.out ?_)
              intro v6 w6 o6 g6
              rw [HMR.out] at o6
              have hg : ∀ k, Value.ownBlock u14 = some k → ∃ cs, w3.heap[k]? = some (Obj.cells cs ElTJ) := fun k e => by obtain ⟨_, cs, hcs⟩ := own_type O3.out e; exact ⟨cs, hcs⟩
              have k6 : Keep2 w3 w6 := ⟨Hold.grown g6 hg (by decide), Hold.grown g6 hg (by decide)⟩
              have A6 := Lib.hid (A3.out.keep (g6.block _ A3.out.lt (fun e => by have := hown.out _ e.symm; have := L1.out; have := L2.out; omega)) (g6.block _ A3.out.map.lt (fun e => by have := hown.out _ e.symm; have := L1.out; have := L2.out; omega)) k6)
              have B6 := Lib.hid (B3.out.keep (g6.block _ B3.out.lt (fun e => by have := hown.out _ e.symm; have := L2.out; omega)) (g6.block _ B3.out.map.lt (fun e => by have := hown.out _ e.symm; have := L2.out; omega)) k6)
              have U6 := Lib.hid (U3.out.grown g6 U3.out.size (fun k e => by have := hown.out k e; have := L1.out; have := L2.out; omega))
              have S6 := Lib.hid (Nat.le_trans S3.out g6.size)
              have O6 := Lib.hid o6
              clear o6 g6 hg k6
              go_wp2_with fail
              go_roundw
              case rel => exact ⟨k + 1, tot + d, by push_cast; rfl, rfl, by have := HK.out; omega, HDD.out.2.2.1, HDD.out.2.2.2.1, A6.out, B6.out, by have := O6.out; rwa [← List.length_append, HMR.out] at this, U6.out, S6.out⟩
              case measure => have := HK.out; have := HP.out; simp [intOf]; omega
        · obtain rfl : k = p.length := by omega
          have HE := Lib.hid (show x.now + tot = tot by rw [HS'.out.now]; omega)
          have HE2 := Lib.hid (show tot ≤ maxI - x.now by rw [HS'.out.now]; omega)
          have HRL := Lib.hid (show ((restL x.ts tot).length : Int) = (c : Int) - ((tksL x.ts tot).length : Int) by have := due_rest_len x.ts tot; have := HS'.out.len; rw [tksL_len]; omega)
          have hwc : IntKind.i64.wrap ((c : Int) - ((tksL x.ts tot).length : Int)) = (c : Int) - ((tksL x.ts tot).length : Int) := IntWalk.i64_in _ (by have := HLN.out tot; have := HC2.out; omega)
          have HCN := Lib.hid (show cntP l l.length tot = (tksL x.ts tot).length by unfold cntP; rw [List.take_length, tksL_len]; exact (HS'.out.cnt tot).symm)
          have HDO := Lib.hid (tksL_ord HORD.out tot)
          have HDT := Lib.hid (tksL_le x.ts tot)
          obtain ⟨a1, c1', rfl, q1⟩ := (row_of_own HO.out).at
          clear hlt htot htotM hk q1
          go_wp2_with fail
          refine (turnJ YB.out (n := tot) HTT.out.1 HE2.out).mono ?_
          rw [HE.out, HVV.out tot]
          rintro e w3 ⟨v3, rfl, o3, h3, t3⟩
          have R3 : Hid (Row w3 1 v3 (tksL x.ts tot).length (ints (tksL x.ts tot))) := Lib.hid (by have := row_of_own o3; rwa [← tksL_len] at this)
          have R1 := Lib.hid (row_of_own (own_keep HO.out t3 (fun k hk e => by have := (own_from HO.out hk).1; have := L1.out; have := L2.out; rcases e with e | e <;> omega)))
          have B3 := Lib.hid h3
          have A3 := Lib.hid (YA.out.aside YB.out t3 (by have := L1.out; omega))
          have U3 := Lib.hid (HB2.out.trans (t3.below HB2.out.size (fun k hk => by have := L1.out; rcases hk with rfl | rfl <;> omega)))
          clear o3 h3 t3
          obtain ⟨a3, c3', rfl, q3⟩ := R3.out.at
          obtain ⟨a1', c1'', e1, q1⟩ := R1.out.at
          simp only [Value.slice.injEq] at e1
          obtain ⟨rfl, _, rfl⟩ := e1
          have Q1 := Lib.hid q1
          have Q3 := Lib.hid q3
          generalize hDD : tksL x.ts tot = D at *
          clear q1 q3 hDD
          go_wp2_with fail
          refine (num14 _ _).mono ?_
          rintro e w5 ⟨rfl, rfl⟩
          go_wp2_with fail
          refine (lenJ A3.out).mono ?_
          rw [HRL.out]
          rintro e w5 ⟨rfl, rfl⟩
          go_wp2_with fail
          refine (lenJ B3.out).mono ?_
          rw [HRL.out]
          rintro e w5 ⟨rfl, rfl⟩
          go_wp2_with fail
          refine (lenJ A3.out).mono ?_
          rw [HRL.out]
          rintro e w5 ⟨rfl, rfl⟩
          go_wp2_with fail
          refine (nowJ A3.out).mono ?_
          rintro e w5 ⟨rfl, rfl⟩
          go_wp2_with fail
          refine (nowJ B3.out).mono ?_
          rintro e w5 ⟨rfl, rfl⟩
          go_wp2_with fail
          have HU3 := Lib.hid U3.out
          go_loopw [21, 20] (fun v n wr3 => ∃ k : Nat, v = .int .i64 (k : Int) ∧ k ≤ l.length ∧ n = .int .i64 (cntP l k tot : Int) ∧ Below w3.heap.size w3 wr3) (fun v _ _ => 81 - (intOf v).toNat)
          case atStart => exact ⟨0, rfl, by omega, rfl, Below.refl _ _⟩
          case round =>
            obtain ⟨k, rfl, hk, rfl, hb3⟩ := hrel
            have HB3 := Lib.hid hb3
            have HB4 := Lib.hid (HU3.out.trans (hb3.mono HU3.out.size))
            clear hb3
            by_cases hlt : k < l.length
            · obtain ⟨b2, o2, rfl, q2⟩ := XA.out (by omega)
              have d1 := q2 k _ (ints_at l k hlt)
              have c1 := bcellAt HB4.out d1
              have hk0 : (0 : Int) ≤ (k : Int) := by omega
              have hk1 : (k : Int) < (l.length : Int) := by omega
              have HK := Lib.hid hlt
              have HSU := Lib.hid (cntP_succ hlt tot)
              have hle := cntP_le l k tot
              obtain ⟨cn, hcn⟩ : ∃ cn : Int, cn = (cntP l k tot : Int) := ⟨_, rfl⟩
              have hwc2 : IntKind.i64.wrap (cn + 1) = cn + 1 := IntWalk.i64_in _ (by have := HL.out; omega)
              have hwk : IntKind.i64.wrap ((k : Int) + 1) = (k : Int) + 1 := IntWalk.i64_in _ (by have := HL.out; omega)
              have HCN2 := Lib.hid hcn
              rw [← hcn]
              clear q2 XA d1 hcn hle
              generalize l[k] = t at *
              by_cases ht0 : 0 < t
              · have hd0 : decide (0 < t) = true := by simpa using ht0
                by_cases ht1 : t ≤ tot
                · have hd1 : decide (t ≤ tot) = true := by simpa using ht1
                  have HS2 := Lib.hid (show cntP l (k + 1) tot = cntP l k tot + 1 by rw [HSU.out, if_pos ⟨ht0, ht1⟩])
                  clear ht0 ht1
                  go_wp2_with fail
                  go_roundw
                  case rel => exact ⟨k + 1, by push_cast; rfl, by have := HK.out; omega, by congr 1; have := HS2.out; have := HCN2.out; omega, HB3.out⟩
                  case measure => have := HK.out; have := HL.out; simp [intOf]; omega
                · have hd1 : decide (t ≤ tot) = false := by simpa using ht1
                  have HS2 := Lib.hid (show cntP l (k + 1) tot = cntP l k tot by have := HSU.out; rwa [if_neg (fun e => ht1 e.2), Nat.add_zero] at this)
                  clear ht0 ht1
                  go_wp2_with fail
                  go_roundw
                  case rel => exact ⟨k + 1, by push_cast; rfl, by have := HK.out; omega, by congr 1; have := HS2.out; have := HCN2.out; omega, HB3.out⟩
                  case measure => have := HK.out; have := HL.out; simp [intOf]; omega
              · have hd0 : decide (0 < t) = false := by simpa using ht0
                have HS2 := Lib.hid (show cntP l (k + 1) tot = cntP l k tot by have := HSU.out; rwa [if_neg (fun e => ht0 e.1), Nat.add_zero] at this)
                clear ht0
                go_wp2_with fail
                go_roundw
                case rel => exact ⟨k + 1, by push_cast; rfl, by have := HK.out; omega, by congr 1; have := HS2.out; have := HCN2.out; omega, HB3.out⟩
                case measure => have := HK.out; have := HL.out; simp [intOf]; omega
            · obtain rfl : k = l.length := by omega
              rw [HCN.out]
              have HLD : Hid (D.length ≤ 80) := Lib.hid (by have := HCN.out; have := cntP_le l l.length tot; have := HL.out; omega)
              clear hlt hk
              go_wp2_with fail
              go_loopw [22] (fun v wr4 => ∃ k m : Nat, v = .int .i64 (k : Int) ∧ k ≤ D.length ∧ Below w3.heap.size w3 wr4 ∧ m = m) (fun v _ => 81 - (intOf v).toNat)
              case atStart => exact ⟨0, 0, rfl, by omega, HB3.out, rfl⟩
              case round =>
                obtain ⟨k, m, rfl, hk, hb5, _⟩ := hrel
                have HB5 := Lib.hid hb5
                clear hb5
                by_cases hlt : k < D.length
                · obtain ⟨b2, o2, rfl, q2⟩ := Q1.out (by omega)
                  obtain ⟨b3, o3, rfl, q3⟩ := Q3.out (by omega)
                  have e1 := bcellAt HB5.out (q2 k _ (ints_at D k hlt))
                  have e3 := bcellAt HB5.out (q3 k _ (ints_at D k hlt))
                  have hk0 : (0 : Int) ≤ (k : Int) := by omega
                  have hk1 : (k : Int) < (D.length : Int) := by omega
                  have HK := Lib.hid hlt
                  have hwk : IntKind.i64.wrap ((k : Int) + 1) = (k : Int) + 1 := IntWalk.i64_in _ (by have := HLD.out; omega)
                  have hle : decide (tot < D[k]) = false := by have := HDT.out D[k] (List.getElem_mem hlt); simp; omega
                  by_cases hz : k = 0
                  · have hp0 : decide ((0 : Int) < (k : Int)) = false := by simp; omega
                    have hp1 : decide (0 < k) = false := by simp; omega
                    clear q2 q3 Q1 Q3 hz
                    generalize D[k] = t at *
                    clear hlt
                    go_wp2_with fail
                    go_quiet (fail)
                    go_wp2_with fail
                    go_roundw
                    case rel => exact ⟨k + 1, 0, by push_cast; rfl, by have := HK.out; omega, HB5.out.trans ((bdn _ _).mono HB5.out.size), trivial⟩
                    case measure => have := HK.out; have := HLD.out; simp [intOf]; omega
                  · obtain ⟨j, hj⟩ : ∃ j, k = j + 1 := ⟨k - 1, by omega⟩
                    have e2 := bcellAt HB5.out (q2 j _ (ints_at D j (by omega)))
                    have hle2 : decide (D[k] < D[j]'(by omega)) = false := by
                      have := (List.pairwise_iff_getElem.1 HDO.out) j k (by omega) hlt (by omega)
                      simp; omega
                    have hw1 : IntKind.i64.wrap ((k : Int) - 1) = (j : Int) := by rw [show (k : Int) - 1 = (j : Int) by omega]; exact IntWalk.i64_in _ (by have := HLD.out; omega)
                    have hj0 : (0 : Int) ≤ (j : Int) := by omega
                    have hj1 : (j : Int) < (D.length : Int) := by omega
                    have hp0 : decide ((0 : Int) < (k : Int)) = true := by simp; omega
                    have hp1 : decide (0 < k) = true := by simp; omega
                    clear q2 q3 Q1 Q3 hz
                    generalize D[k] = t at *
                    generalize D[j]'(by omega) = s at *
                    clear hlt hj
                    go_wp2_with fail
                    go_quiet (fail)
                    go_wp2_with fail
                    go_roundw
                    case rel => exact ⟨k + 1, 0, by push_cast; rfl, by have := HK.out; omega, HB5.out.trans ((bdn _ _).mono HB5.out.size), trivial⟩
                    case measure => have := HK.out; have := HLD.out; simp [intOf]; omega
                · obtain rfl : k = D.length := by omega
                  clear hlt
                  go_wp2_with fail
                  refine (live14 _).mono ?_
                  rintro e w6 ⟨rfl, u6⟩
                  have U6 := Lib.hid u6
                  clear u6
                  go_wp2_with fail
                  go_returns
                  have b5 := HU3.out.trans (HB5.out.mono HU3.out.size)
                  exact ⟨rfl, b5.trans (U6.out.mono b5.size)⟩
theorem port_all {w : World} {v u : Value} {l p : List Int} (h : Row w 1 v l.length (ints l)) (hok : ∀ n ∈ l, (Lit.int .i64 n).wf = true) (h2 : Row w 1 u p.length (ints p)) (hok2 : ∀ n ∈ p, (Lit.int .i64 n).wf = true) :
    Calls Try.prog 5 #[v, u] w fun e w' => e = .returned (.bool true) ∧ Below w.heap.size w w' := by
  by_cases hl : 80 < l.length ∨ 80 < p.length
  · exact port_long h h2 hl
  · exact port_walk h hok h2 hok2 (by omega) (by omega)
set_option maxRecDepth 100000 in
/-- What the walk gives, for every argument. -/
theorem tport_contract (H : Type) (enc : TypeId × Value → H) (W : World) (base : Nat) (args : Array Value) (ds gs : List (DataW H)) (before : List MemPlace)
    (hval0 : ∀ (j : Nat) t v, Try.f5.params[j]? = some t → args[j]? = some v → Value.okWide Try.prog W .any base t v)
    (hW : DataW.Whole enc Try.prog Try.f5.params.toList Rows.timersPortionsSpec.vars false W args.toList ds gs before) :
    Calls Try.prog 5 args W fun e W' => ∃ v, e = .returned v ∧ Rows.timersPortionsSpec.post enc Try.prog Try.f5 false true false false W args v W' := by
  have hval : ∀ (j : Nat) t v, Try.f5.params[j]? = some t → args[j]? = some v → Value.okWide Try.prog W .any base t v := hval0
  have hW' := hW
  obtain ⟨p, q, hA0, hV, rfl, hfz, hnd⟩ := hW
  have hA : DataW.TrodAll enc Try.prog W 0 (fun _ => true) true Try.f5.params.toList args.toList ds p := hA0
  rw [Try.params5] at hA hval
  obtain ⟨v0, vs0, d0, ds0, p0, q0, hargs0, rfl, rfl, h0, r0⟩ := trodAll_cons hA
  obtain ⟨v1, vs1, d1, ds1, p1, q1, hargs1, rfl, rfl, h1, r1⟩ := trodAll_cons r0
  obtain ⟨rfl, rfl, rfl⟩ := trodAll_nil r1
  subst hargs1
  obtain rfl : args = #[v0, v1] := by cases args; simp_all
  obtain ⟨rfl, rfl⟩ := trodVars_none hV
  have hv0 := hval 0 53 v0 rfl rfl
  have hc0 : Cell.okWide Try.prog W .any base 53 v0 := by simpa only [Value.okWide, Try.underlying53] using hv0
  obtain ⟨a0, c0, n0, e0⟩ := okWide_slice Try.underlying53 hv0
  obtain ⟨fuel0, hf0⟩ := id h0
  rw [show v0.cells.toList = [v0] by rw [e0]; rfl] at hf0
  obtain ⟨l0, rl0, hs0⟩ := open_num64 hc0 hf0
  have hv1 := hval 1 53 v1 rfl rfl
  have hc1 : Cell.okWide Try.prog W .any base 53 v1 := by simpa only [Value.okWide, Try.underlying53] using hv1
  obtain ⟨a1, c1, n1, e1⟩ := okWide_slice Try.underlying53 hv1
  obtain ⟨fuel1, hf1⟩ := id h1
  rw [show v1.cells.toList = [v1] by rw [e1]; rfl] at hf1
  obtain ⟨l1, rl1, hs1⟩ := open_num64 hc1 hf1
  clear hA0 hval0
  simp only [List.append_nil] at hW'
  refine (port_all rl0 hs0 rl1 hs1).mono fun e W' ⟨he, bel⟩ => ?_
  subst he
  exact ⟨_, rfl, _, _, _, [], _, [], hW', trodAll_mk1 (shut_bool Try.underlying4 _), (trodAll_cons_mk (Below.trod laidOut (by kernel_rfl) (of_decide_eq_true (by kernel_rfl)) h0 bel (places_lt h0)) (trodAll_cons_mk (Below.trod laidOut (by kernel_rfl) (of_decide_eq_true (by kernel_rfl)) h1 bel (places_lt h1)) trodAll_mk0)), rfl, bel.frame _, fun h => by cases h⟩
set_option maxRecDepth 100000 in
theorem tport_lifted (os : Os) (started : os.Started) (H : Type) (enc : TypeId × Value → H) :
    ReturnsInHanded {} Try.checked os 5 .any (Rows.timersPortionsSpec.pre6 enc Try.prog Try.f5 Rows.timersPortionsRow.domain false) (Rows.timersPortionsSpec.post enc Try.prog Try.f5 false true false false) := by
  refine returnsInHanded_of_change (C := Try.checked) own started (by kernel_rfl) Try.func5
    (ChangeSpec.witness6 (enc := enc) (C := Try.checked) false ⟨#[], #[.slice none 0 0, .slice none 0 0], []⟩ 8 (by kernel_rfl) (by kernel_rfl) (by kernel_rfl) (by kernel_rfl)) ?_
  intro W base args ds gs before hval hW _ _
  exact tport_contract H enc W base args ds gs before hval hW
/-- The statement. -/
theorem tport_holds : Rows.TimersPortionsSaid :=
  OpenClaim.holds_of_wide 5 Try.f5 rfl rfl rfl rfl rfl rfl rfl ⟨rfl, rfl, rfl, rfl, rfl⟩ rfl rfl rfl rfl rfl (by kernel_rfl) Try.func5 (by kernel_rfl)
    (of_decide_eq_true (by kernel_rfl)) (by unfold Func.isWrapper; first | (rw [if_pos (by decide +kernel)]; kernel_rfl) | (rw [if_neg (by decide +kernel)]; exact ⟨rfl, rfl⟩))
    (fun os started H enc _ => tport_lifted os started H enc)
end Go.Proofs.Ytbgnedeeeaapfaa
