/-
  The law's own walk: DeduceChecks.
-/
import Derived.Test.YtljbmgehgbcdfaaDoorEPools
import Derived.Test.YtljbmgehgbcdfaaDoorELay
import Derived.Test.YtljbmgehgbcdfaaDoorERFol
namespace Go.Proofs.YtljbmgehgbcdfaaDoor
open Go.RowKit Go.Maps
set_option linter.unusedVariables false

theorem sts_oneCellK (l : List St) : ∀ u ∈ sts l, u.oneCell' = true := by
  intro u hu
  obtain ⟨s, _, hs⟩ := List.mem_flatMap.1 hu
  simp only [stC, List.mem_cons, List.not_mem_nil, or_false] at hs
  rcases hs with rfl | rfl | rfl | rfl <;> rfl
/-- append of a list of steps to a list of the call's own. -/
theorem wpList_append_sl {w : World} {ops : Array Oper} {rest : List Oper} {o : Oper} {a : Act} {Q : Exit → Act → World → Prop} (hg : o.guard = none) (s x : Operand)
    (ho : o.op = .call { callee := .builtin .append, args := #[s, x], argTypes := #[45, 45] })
    (base : Nat) (v : Value) (xs : List St) (hs : a.eval s = v) (hown : w.ownsRow base StT 4 v xs.length (sts xs)) (vx : Value) (l : List St) (hx : a.eval x = vx) (hrd : Row w 4 vx l.length (sts l))
    (hlen : xs.length + l.length ≤ 1000000) (hbase : base ≤ w.heap.size)
    (h : ∀ v' w', w'.ownsRow base StT 4 v' (xs ++ l).length (sts (xs ++ l)) → w.grownBy w' v.ownBlock → wpList Tryd.prog ops Q rest (a.put o.dst v') w') : wpList Tryd.prog ops Q (o :: rest) a w := by
  refine wpList_plain hg fun K hK => ?_
  obtain ⟨i0, hi, hz0, hz1, hz2⟩ := info_parts rowSt
  rcases hrd with ⟨hl, ⟨rfl, h0⟩ | ⟨b, off, cap, rfl, h1, h2, h3, h4⟩⟩
  · obtain rfl : l = [] := List.eq_nil_of_length_eq_zero h0
    have hrun := run_append_owned_none (P := Tryd.prog) (w := w) base 45 o.type StT i0 4 Tryd.underlying45 hi v _ _ hown
    unfold Oper.wp
    simp [execOp, ho, resolve, invoke, builtin, hs, hx, hrun, Result.andThen]
    exact hK _ _ (h v w (by rw [List.append_nil]; exact hown) ⟨rfl, rfl, rfl, Nat.le_refl _, fun _ _ _ => rfl⟩)
  · refine wp_append_own w s x 45 ho base StT i0 (.agg #[.int .i64 0, .int .i64 0, .int .i64 0, .int .i64 0]) 4 32 Tryd.underlying45 hi hz0 hz1 hz2 rfl (by decide) v _ _ hs hown ⟨b, off, none⟩ l.length cap (sts l) hx (by rw [sts_length]) (fun j u hj => by have := h4 j u hj; by_cases h0 : j = 0 <;> simp_all [Addr.add]) (sts_oneCellK l) (by unfold maxLen; omega) (by omega) hbase ?_
    intro v' w' h6 h7 _
    exact hK _ _ (h v' w' (by rw [List.length_append, sts_append]; exact h6) h7)

set_option maxRecDepth 100000 in
set_option maxHeartbeats 25600000 in
theorem checks_walk {w : World} (hl : Laid w) {fo : Fo} {vn : Value} (hk : IsK w (fun b => b < w.heap.size) vn fo) (hok : OkF fo) {vg : Value} {g : List Int} (hg : Row w 1 vg g.length (ints g)) (hgi : ∀ x ∈ g, i64R x) {vs : Value} {l : List St} (hs : Row w 4 vs l.length (sts l)) (hsi : ∀ y ∈ l, i64R y.t) (goal : Int) : Calls Tryd.prog 4 #[.agg #[vn, vg, vs, .int .i64 goal]] w fun e w' => e = .returned (.bool true) ∧ Below w.heap.size w w' := by
  have hlen := hk.small
  unfold maxLen at hlen
  obtain ⟨av, cv, rfl, _⟩ := hk.shape
  obtain ⟨ga, gc, rfl⟩ := hg.shape
  obtain ⟨sa, sc, rfl⟩ := hs.shape
  have hgl : g.length ≤ 9223372036854775807 := by
    rcases hg.2 with ⟨_, h0⟩ | ⟨b, off, cap, _, _, h4, h5, _⟩
    · omega
    · unfold maxLen at h5; omega
  have hsl : l.length ≤ 9223372036854775807 := by
    rcases hs.2 with ⟨_, h0⟩ | ⟨b, off, cap, _, _, h4, h5, _⟩
    · omega
    · unfold maxLen at h5; omega
  have HL := Lib.hid hl
  have HK := Lib.hid hk
  have HOK := Lib.hid hok
  have HG := Lib.hid hg
  have HGI := Lib.hid hgi
  have HS := Lib.hid hs
  have HSI := Lib.hid hsi
  clear hl hk hok hg hgi hs hsi
  have b0 := bA0 w (.cells #[.slice av fo.len cv, .slice ga g.length gc, .slice sa l.length sc, .int .i64 goal] 56)
  have h0 : (w.alloc (.cells #[.slice av fo.len cv, .slice ga g.length gc, .slice sa l.length sc, .int .i64 goal] 56)).heap[w.heap.size]? = some (Obj.cells #[.slice av fo.len cv, .slice ga g.length gc, .slice sa l.length sc, .int .i64 goal] 56) := heap_alloc_new _ _
  have HB0 := Lib.hid b0
  have c0 : (w.alloc (.cells #[.slice av fo.len cv, .slice ga g.length gc, .slice sa l.length sc, .int .i64 goal] 56)).cell? ⟨w.heap.size, 0, none⟩ = some (.slice av fo.len cv) := cellB (j := 0) h0 rfl
  have c1 : (w.alloc (.cells #[.slice av fo.len cv, .slice ga g.length gc, .slice sa l.length sc, .int .i64 goal] 56)).cell? ⟨w.heap.size, 1, none⟩ = some (.slice ga g.length gc) := cellB (j := 1) h0 rfl
  have c2 : (w.alloc (.cells #[.slice av fo.len cv, .slice ga g.length gc, .slice sa l.length sc, .int .i64 goal] 56)).cell? ⟨w.heap.size, 2, none⟩ = some (.slice sa l.length sc) := cellB (j := 2) h0 rfl
  have c3 : (w.alloc (.cells #[.slice av fo.len cv, .slice ga g.length gc, .slice sa l.length sc, .int .i64 goal] 56)).cell? ⟨w.heap.size, 3, none⟩ = some (.int .i64 goal) := cellB (j := 3) h0 rfl
  clear b0 h0
  go_enter Tryd.func4, Tryd.ntmps4
  go_wp2_with fail
  generalize (w.alloc (.cells #[.slice av fo.len cv, .slice ga g.length gc, .slice sa l.length sc, .int .i64 goal] 56)) = W at *
  go_quiet (fail)
  have HBW := Lib.hid (bmore HB0.out (bdn W nq))
  generalize W.drewN nq = W0 at *
  clear c0 c1 c2 c3 HB0
  have WD := Lib.hid (wide_any ((HK.out.below HBW.out).keep (G' := fun b => b < W0.heap.size) (fun b hb _ => ⟨Nat.lt_of_lt_of_le hb HBW.out.size, rfl⟩)))
  go_wp2_with fail
  refine WD.out.mono ?_
  rintro e w1 ⟨⟨q1, rfl, hq1⟩, u1⟩
  have HU1 := Lib.hid (bmore HBW.out u1)
  clear u1 WD
  cases q1 with
  | true =>
    go_wp2_with fail
    refine (live_any (HL.out.below HU1.out)).mono ?_
    rintro e w2 ⟨rfl, u2⟩
    have HU2 := Lib.hid (bmore HU1.out u2)
    clear u2
    go_wp2_with fail
    go_returns
    exact ⟨rfl, HU2.out⟩
  | false =>
    obtain ⟨h12, h400⟩ := hq1 rfl
    by_cases h20 : 20 < g.length
    · have h20' : (20 : Int) < (g.length : Int) := by omega
      go_wp2_with fail
      refine (live_any (HL.out.below HU1.out)).mono ?_
      rintro e w2 ⟨rfl, u2⟩
      have HU2 := Lib.hid (bmore HU1.out u2)
      clear u2
      go_wp2_with fail
      go_returns
      exact ⟨rfl, HU2.out⟩
    · have h20' : decide ((20 : Int) < (g.length : Int)) = false := decide_eq_false (by omega)
      by_cases h60 : 60 < l.length
      · have h60' : (60 : Int) < (l.length : Int) := by omega
        go_wp2_with fail
        refine (live_any (HL.out.below HU1.out)).mono ?_
        rintro e w2 ⟨rfl, u2⟩
        have HU2 := Lib.hid (bmore HU1.out u2)
        clear u2
        go_wp2_with fail
        go_returns
        exact ⟨rfl, HU2.out⟩
      · have h60' : decide ((60 : Int) < (l.length : Int)) = false := decide_eq_false (by omega)
        have hkl := (HK.out.below HU1.out).keep (G' := fun b => b < w1.heap.size) (fun b hb _ => ⟨Nat.lt_of_lt_of_le hb HU1.out.size, rfl⟩)
        have PO := Lib.hid (pools_any (HL.out.below HU1.out) hkl HOK.out (by omega) (by omega))
        have hg20 : g.length ≤ 20 := by omega
        have hl60 : l.length ≤ 60 := by omega
        clear hkl h20 h60
        go_wp2_with fail
        refine PO.out.mono ?_
        rintro e w2 ⟨pa, b, ra, vv, vo, rl, rs, rd, q, rfl, p2, r2, u2⟩
        have HP2 := Lib.hid p2
        have HR2 := Lib.hid r2
        have HU2 := Lib.hid (bmore HU1.out u2)
        have HG2 := Lib.hid (HG.out.below (bmore HU1.out u2))
        have HS2 := Lib.hid (HS.out.below (bmore HU1.out u2))
        clear p2 r2 u2 PO
        have HGA := Lib.hid (HG2.out.below (bA0 w2 (.cells #[] TermT)))
        have hown0 : (w2.alloc (.cells #[] TermT)).ownsRow w2.heap.size TermT 1 (.slice (some ⟨w2.heap.size, 0, none⟩) 0 0) ([] : List Int).length (ints []) := World.ownsRow_made w2 #[] 0 (Nat.le_refl _) (by unfold maxLen; omega) rfl
        have HO0 := Lib.hid hown0
        clear hown0
        go_wp2_with (first
          | (at_builtin; refine wpList_append_tl rfl _ _ rfl w2.heap.size (.slice (some ⟨w2.heap.size, 0, none⟩) 0 0) [] rfl HO0.out (.slice ga g.length gc) g rfl HGA.out (by simp; omega) (bA0 _ _).size ?_; intro v4 w4 hrow4 hg4; obtain ⟨ta, tc, rfl⟩ := (row_of_own hrow4).shape)
          | (at_builtin; refine wpList_append_sl rfl _ _ rfl w4.heap.size (.slice (some ⟨w4.heap.size, 0, none⟩) 0 0) [] rfl (World.ownsRow_made w4 #[] 0 (Nat.le_refl _) (by unfold maxLen; omega) rfl) (.slice sa l.length sc) l rfl ((HS2.out.below ((bA0 w2 (.cells #[] TermT)).trans (grown_below hg4 (bA0 _ _).size (fun x e => (own_type HO0.out e).1)))).below (bA0 w4 (.cells #[] StT))) (by simp; omega) (bA0 _ _).size ?_; intro v5 w5 hrow5 hg5; obtain ⟨ya, yc, rfl⟩ := (row_of_own hrow5).shape))
        have hrow4' : w4.ownsRow w2.heap.size TermT 1 (.slice ta g.length tc) g.length (ints g) := by have h9 := hrow4; simp only [List.nil_append] at h9; exact h9
        have hrow5' : w5.ownsRow w4.heap.size StT 4 (.slice ya l.length yc) l.length (sts l) := by have h9 := hrow5; simp only [List.nil_append] at h9; exact h9
        have hb4 : Below w2.heap.size w2 w4 := (bA0 w2 (.cells #[] TermT)).trans (grown_below hg4 (bA0 _ _).size (fun x e => (own_type HO0.out e).1))
        have hown1 : (w4.alloc (.cells #[] StT)).ownsRow w4.heap.size StT 4 (.slice (some ⟨w4.heap.size, 0, none⟩) 0 0) ([] : List St).length (sts []) := World.ownsRow_made w4 #[] 0 (Nat.le_refl _) (by unfold maxLen; omega) rfl
        have hb45 : Below w4.heap.size w4 w5 := (bA0 w4 (.cells #[] StT)).trans (grown_below hg5 (bA0 _ _).size (fun x e => (own_type hown1 e).1))
        have hb5 : Below w2.heap.size w2 w5 := bmore hb4 hb45
        have HP5 := Lib.hid (HP2.out.below hb5)
        have HR5 := Lib.hid (HR2.out.below hb5)
        have HU5 := Lib.hid (bmore HU2.out hb5)
        have HG5 := Lib.hid (HG2.out.below hb5)
        have HS5 := Lib.hid (HS2.out.below hb5)
        have CK := Lib.hid (check_any HP5.out ((row_of_own hrow4').below hb45) HGI.out (by omega) (row_of_own hrow5') HSI.out (by omega) (goal := goal))
        clear hrow4 hrow5 hrow4' hrow5' hb4 hown1 hb45 hb5 hg4 hg5 HP2 HR2 HGA HO0
        go_wp2_with fail
        refine CK.out.mono ?_
        rintro e w6 ⟨rfl, u6⟩
        have HU6 := Lib.hid (bmore HU5.out u6)
        have RC := Lib.hid (rcheck_any (HR5.out.below u6) (HG5.out.below u6) (by omega) (HS5.out.below u6) (by omega) (goal := goal))
        clear u6 CK
        generalize checkP q g l goal = ck at *
        obtain ⟨ce, cat⟩ := ck
        go_wp2_with fail
        refine RC.out.mono ?_
        rintro e w7 ⟨rfl, u7⟩
        have HU7 := Lib.hid (bmore HU6.out u7)
        clear u7 RC
        go_wp2_with fail
        refine (num_any _ _).mono ?_
        rintro e w8 ⟨rfl, rfl⟩
        have LV := Lib.hid (live_any (HL.out.below HU7.out))
        go_wp2_with fail
        refine LV.out.mono ?_
        rintro e w9 ⟨rfl, u9⟩
        have HU9 := Lib.hid (bmore HU7.out u9)
        clear u9
        go_wp2_with fail
        go_returns
        exact ⟨rfl, HU9.out⟩
end Go.Proofs.YtljbmgehgbcdfaaDoor
