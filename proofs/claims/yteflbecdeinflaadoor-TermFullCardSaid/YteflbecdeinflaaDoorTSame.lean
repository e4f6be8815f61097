/-
  The document's own Same: are two trees the same?
-/
import Derived.Test.YteflbecdeinflaaDoorTParts
import Derived.Test.YteflbecdeinflaaDoorTRefP
namespace Go.Proofs.YteflbecdeinflaaDoor
open Go.RowKit Go.Maps
set_option linter.unusedVariables false

theorem nd_ext {x y : Nd} (hx : x.a = 0 ∧ x.b = 0) (hy : y.a = 0 ∧ y.b = 0) : x = y ↔ x.kind = y.kind ∧ x.frm = y.frm ∧ x.to = y.to ∧ x.num = y.num ∧ x.text = y.text :=
  ⟨fun e => by subst e; exact ⟨rfl, rfl, rfl, rfl, rfl⟩, fun ⟨h1, h2, h3, h4, h5⟩ => Nd.eq_of h1 h2 h3 h4 h5 (hx.1.trans hy.1.symm) (hx.2.trans hy.2.symm)⟩
theorem bne_of {x y : Int} : (x != y) = !decide (x = y) := by by_cases h : x = y <;> simp [h]
theorem sne_of {x y : ByteArray} : (x.toList == y.toList) = decide (x = y) := by
  by_cases h : x = y
  · subst h; simp
  · rw [decide_eq_false h]; exact ne_bytes h

section
variable {G G' : Nat → Prop}
def SameC (G G' : Nat → Prop) (n : Nd) (k : Fo) : Prop := ∀ (n2 : Nd) (k2 : Fo) (w : World) (v v2 : Value), IsK w G v k → IsK w G' v2 k2 → n.a = 0 ∧ n.b = 0 → n2.a = 0 ∧ n2.b = 0 → Bare k → Bare k2 →
  Calls Tryd.prog 27 #[.agg (treeA n v), .agg (treeA n2 v2)] w fun e w' => e = .returned (.bool (decide (n = n2 ∧ k = k2))) ∧ Below w.heap.size w w'
set_option maxRecDepth 100000 in
set_option maxHeartbeats 12800000 in
theorem same_step (n : Nd) (k : Fo) (ih : AllF (SameC G G') k) : SameC G G' n k := by
  intro n2 k2 w v v2 hk hk2 ha ha2 hbk hbk2
  have b1 : Below w.heap.size w (w.alloc (.cells (treeA n v) TrT)) := bZ _ _
  have h1 : (w.alloc (.cells (treeA n v) TrT)).heap[w.heap.size]? = some (Obj.cells (treeA n v) TrT) := heap_alloc_new _ _
  have b2 : Below (w.alloc (.cells (treeA n v) TrT)).heap.size (w.alloc (.cells (treeA n v) TrT)) ((w.alloc (.cells (treeA n v) TrT)).alloc (.cells (treeA n2 v2) TrT)) := bZ _ _
  have h3 : ((w.alloc (.cells (treeA n v) TrT)).alloc (.cells (treeA n2 v2) TrT)).heap[w.heap.size + 1]? = some (Obj.cells (treeA n2 v2) TrT) := by
    have e : w.heap.size + 1 = (w.alloc (.cells (treeA n v) TrT)).heap.size := by simp
    rw [e]; exact heap_alloc_new _ _
  have b12 := b1.trans (b2.mono b1.size)
  have h2 := Hold.below b2 _ _ h1
  obtain ⟨av, cv, rfl, hx⟩ := (hk.below b12).shape
  obtain ⟨bv, dv, rfl, hx2⟩ := (hk2.below b12).shape
  have hlen := hk.small
  have hlen2 := hk2.small
  unfold maxLen at hlen hlen2
  have HX := Lib.hid hx
  have HX2 := Lib.hid hx2
  have HI := Lib.hid ih
  have HB := Lib.hid h2
  have HB2 := Lib.hid h3
  have HA := Lib.hid b12
  have HK := Lib.hid hbk
  have HK2 := Lib.hid hbk2
  obtain ⟨c1, hc1⟩ : ∃ c, decide (n.kind = n2.kind) = c := ⟨_, rfl⟩
  obtain ⟨c2, hc2⟩ : ∃ c, decide (n.frm = n2.frm) = c := ⟨_, rfl⟩
  obtain ⟨c3, hc3⟩ : ∃ c, decide (n.to = n2.to) = c := ⟨_, rfl⟩
  obtain ⟨c4, hc4⟩ : ∃ c, decide (n.num = n2.num) = c := ⟨_, rfl⟩
  obtain ⟨c5, hc5⟩ : ∃ c, decide (n.text = n2.text) = c := ⟨_, rfl⟩
  obtain ⟨c6, hc6⟩ : ∃ c, decide ((k.len : Int) = (k2.len : Int)) = c := ⟨_, rfl⟩
  have HR : Hid (decide (n = n2 ∧ k = k2) = (c1 && c2 && c3 && c4 && c5 && c6 && decide (k = k2))) := Lib.hid (by
    subst hc1 hc2 hc3 hc4 hc5 hc6
    rw [Bool.eq_iff_iff]
    simp only [decide_eq_true_eq, Bool.and_eq_true]
    rw [nd_ext ha ha2]
    constructor
    · rintro ⟨⟨f1, f2, f3, f4, f5⟩, f6⟩; exact ⟨⟨⟨⟨⟨⟨f1, f2⟩, f3⟩, f4⟩, f5⟩, by rw [f6]⟩, f6⟩
    · rintro ⟨⟨⟨⟨⟨⟨h1, h2⟩, h3⟩, h4⟩, h5⟩, h6⟩, h7⟩; exact ⟨⟨h1, h2, h3, h4, h5⟩, h7⟩)
  generalize decide (n = n2 ∧ k = k2) = rr at *
  have g1 : (n.kind != n2.kind) = !c1 := by rw [bne_of, hc1]
  have g2 : (n.frm != n2.frm) = !c2 := by rw [bne_of, hc2]
  have g3 : (n.to != n2.to) = !c3 := by rw [bne_of, hc3]
  have g4 : (n.num != n2.num) = !c4 := by rw [bne_of, hc4]
  have g5 : (n.text.toList == n2.text.toList) = c5 := by rw [sne_of, hc5]
  have g6 : ((k.len : Int) != (k2.len : Int)) = !c6 := by rw [bne_of, hc6]
  have HC6 := Lib.hid hc6
  clear hk hk2 hx hx2 ih b1 b2 b12 h1 ha ha2 hbk hbk2 hc1 hc2 hc3 hc4 hc5 hc6
  obtain ⟨kk, ff, tt, uu, ss, xa, xb⟩ := n
  obtain ⟨kk', ff', tt', uu', ss', xa', xb'⟩ := n2
  simp only [treeA] at *
  have y0 := cellB (j := 0) h2 rfl
  have y1 := cellB (j := 1) h2 rfl
  have y2 := cellB (j := 2) h2 rfl
  have y3 := cellB (j := 3) h2 rfl
  have y4 := cellB (j := 4) h2 rfl
  have y5 := cellB (j := 5) h2 rfl
  have z0 := cellB (j := 0) h3 rfl
  have z1 := cellB (j := 1) h3 rfl
  have z2 := cellB (j := 2) h3 rfl
  have z3 := cellB (j := 3) h3 rfl
  have z4 := cellB (j := 4) h3 rfl
  have z5 := cellB (j := 5) h3 rfl
  clear h2 h3
  cases c1 with
  | false =>
    have HR1 : Hid (rr = false) := Lib.hid (by rw [HR.out]; simp)
    go_enter Tryd.func27, Tryd.ntmps27
    go_wp2_with fail
    go_returns
    exact ⟨by rw [HR1.out]; rfl, HA.out⟩
  | true =>
    cases c2 with
    | false =>
      have HR1 : Hid (rr = false) := Lib.hid (by rw [HR.out]; simp)
      go_enter Tryd.func27, Tryd.ntmps27
      go_wp2_with fail
      go_returns
      exact ⟨by rw [HR1.out]; rfl, HA.out⟩
    | true =>
      cases c3 with
      | false =>
        have HR1 : Hid (rr = false) := Lib.hid (by rw [HR.out]; simp)
        go_enter Tryd.func27, Tryd.ntmps27
        go_wp2_with fail
        go_returns
        exact ⟨by rw [HR1.out]; rfl, HA.out⟩
      | true =>
        cases c4 with
        | false =>
          have HR1 : Hid (rr = false) := Lib.hid (by rw [HR.out]; simp)
          go_enter Tryd.func27, Tryd.ntmps27
          go_wp2_with fail
          go_returns
          exact ⟨by rw [HR1.out]; rfl, HA.out⟩
        | true =>
          cases c5 with
          | false =>
            have HR1 : Hid (rr = false) := Lib.hid (by rw [HR.out]; simp)
            go_enter Tryd.func27, Tryd.ntmps27
            go_wp2_with fail
            go_returns
            exact ⟨by rw [HR1.out]; rfl, HA.out⟩
          | true =>
            cases c6 with
            | false =>
              have HR1 : Hid (rr = false) := Lib.hid (by rw [HR.out]; simp)
              go_enter Tryd.func27, Tryd.ntmps27
              go_wp2_with fail
              go_returns
              exact ⟨by rw [HR1.out]; rfl, HA.out⟩
            | true =>
              have HLEN : Hid (k.len = k2.len) := Lib.hid (by have := of_decide_eq_true HC6.out; omega)
              have HR1 : Hid (rr = decide (k = k2)) := Lib.hid (by rw [HR.out]; simp)
              clear HR HC6
              go_enter Tryd.func27, Tryd.ntmps27
              go_wp2_with fail
              generalize ((w.alloc (.cells #[.int .i64 kk, .int .i64 ff, .int .i64 tt, .int .u64 uu, .string ss, .slice av k.len cv] TrT)).alloc (.cells #[.int .i64 kk', .int .i64 ff', .int .i64 tt', .int .u64 uu', .string ss', .slice bv k2.len dv] TrT)) = W at *
              go_loopw [5] (fun vi wr => ∃ (i : Nat) (r r2 : Fo), vi = .int .i64 (i : Int) ∧ i + r.len = k.len ∧ r.len = r2.len ∧ (k = k2 ↔ r = r2) ∧ AllF (SameC G G') r ∧ Bare r ∧ Bare r2 ∧ (0 < r.len → ∃ b o, av = some ⟨b, o, none⟩ ∧ AtF W G r b (o + i * 6)) ∧ (0 < r.len → ∃ b o, bv = some ⟨b, o, none⟩ ∧ AtF W G' r2 b (o + i * 6)) ∧ Below W.heap.size W wr) (fun v _ => k.len - (intOf v).toNat)
              case atStart => exact ⟨0, k, k2, rfl, by omega, HLEN.out, Iff.rfl, HI.out, HK.out, HK2.out, fun hp => by obtain ⟨b, o, q1, _, q3⟩ := HX.out hp; exact ⟨b, o, q1, by simpa using q3⟩, fun hp => by obtain ⟨b, o, q1, _, q3⟩ := HX2.out (by rw [← HLEN.out]; exact hp); exact ⟨b, o, q1, by simpa using q3⟩, Below.refl _ _⟩
              case round =>
                obtain ⟨i, r, r2, rfl, hi, hrl, hiff, hall, hbr1, hbr2, hat, hat2, hbr⟩ := hrel
                have z5' := cellB (j := 5) (Hold.below hbr _ _ HB.out) rfl
                have z5'' := cellB (j := 5) (Hold.below hbr _ _ HB2.out) rfl
                have HBR := Lib.hid hbr
                clear hbr y0 y1 y2 y3 y4 y5 z0 z1 z2 z3 z4 z5
                by_cases hlt : 0 < r.len
                · obtain ⟨n', k', q, rfl⟩ := fo_pos hlt
                  obtain ⟨n2', k2', q', rfl⟩ := fo_pos (show 0 < r2.len by omega)
                  simp only [Fo.len] at hi hrl
                  obtain ⟨b, o, rfl, hat'⟩ := hat hlt
                  obtain ⟨b2, o2, rfl, hat2'⟩ := hat2 hlt
                  obtain ⟨c0, c1, c2, c3, c4, v', c5, hk', hatr⟩ := hat'.cons
                  obtain ⟨e0, e1, e2, e3, e4, v2', e5, hk2', hatr2⟩ := hat2'.cons
                  obtain ⟨av', cv', rfl, _⟩ := hk'.shape
                  obtain ⟨bv', dv', rfl, _⟩ := hk2'.shape
                  obtain ⟨ba, bb, bk, bq⟩ := hbr1
                  obtain ⟨ba', bb', bk', bq'⟩ := hbr2
                  have hkr := hk'.below HBR.out
                  have hkr2 := hk2'.below HBR.out
                  have HS := Lib.hid (fun (V : World) (hV : Below wr.heap.size wr V) => hall.1 n2' k2' V (.slice av' k'.len cv') (.slice bv' k2'.len dv') (hkr.below hV) (hkr2.below hV) ⟨ba, bb⟩ ⟨ba', bb'⟩ bk bk')
                  have HD1 : Hid (decide (n' = n2' ∧ k' = k2') = true → (k = k2 ↔ q = q')) := Lib.hid (fun h => by
                    have h' := of_decide_eq_true h
                    rw [hiff, h'.1, h'.2]
                    simp)
                  have HD2 : Hid (decide (n' = n2' ∧ k' = k2') = false → ¬ k = k2) := Lib.hid (fun h => by
                    have h' := of_decide_eq_false h
                    rw [hiff]
                    intro e
                    simp only [Fo.cons.injEq] at e
                    exact h' ⟨e.1, e.2.1⟩)
                  have HALL := Lib.hid hall.2
                  have HAT := Lib.hid hatr
                  have HAT2 := Lib.hid hatr2
                  have HBQ := Lib.hid bq
                  have HBQ2 := Lib.hid bq'
                  generalize decide (n' = n2' ∧ k' = k2') = dd at *
                  obtain ⟨p0, p1, p2, p3, p4, p5, p6⟩ := n'
                  obtain ⟨q0, q1, q2, q3, q4, q5, q6⟩ := n2'
                  simp only [treeA] at *
                  have hkeep : ∀ V : World, Below wr.heap.size wr V → V.cell? ⟨w.heap.size, 5, none⟩ = some (.slice (some ⟨b, o, none⟩) k.len cv) ∧ V.cell? ⟨w.heap.size + 1, 5, none⟩ = some (.slice (some ⟨b2, o2, none⟩) k2.len dv) ∧ V.cell? ⟨b, o + i * 6, none⟩ = some (.int .i64 p0) ∧ V.cell? ⟨b, o + i * 6 + 1, none⟩ = some (.int .i64 p1) ∧ V.cell? ⟨b, o + i * 6 + 2, none⟩ = some (.int .i64 p2) ∧ V.cell? ⟨b, o + i * 6 + 3, none⟩ = some (.int .u64 p3) ∧ V.cell? ⟨b, o + i * 6 + 4, none⟩ = some (.string p4) ∧ V.cell? ⟨b, o + i * 6 + 5, none⟩ = some (.slice av' k'.len cv') ∧ V.cell? ⟨b2, o2 + i * 6, none⟩ = some (.int .i64 q0) ∧ V.cell? ⟨b2, o2 + i * 6 + 1, none⟩ = some (.int .i64 q1) ∧ V.cell? ⟨b2, o2 + i * 6 + 2, none⟩ = some (.int .i64 q2) ∧ V.cell? ⟨b2, o2 + i * 6 + 3, none⟩ = some (.int .u64 q3) ∧ V.cell? ⟨b2, o2 + i * 6 + 4, none⟩ = some (.string q4) ∧ V.cell? ⟨b2, o2 + i * 6 + 5, none⟩ = some (.slice bv' k2'.len dv') ∧ Below wr.heap.size wr V := fun V hV => ⟨bcellAt hV z5', bcellAt hV z5'', bcellAt hV (bcellAt HBR.out c0), bcellAt hV (bcellAt HBR.out c1), bcellAt hV (bcellAt HBR.out c2), bcellAt hV (bcellAt HBR.out c3), bcellAt hV (bcellAt HBR.out c4), bcellAt hV (bcellAt HBR.out c5), bcellAt hV (bcellAt HBR.out e0), bcellAt hV (bcellAt HBR.out e1), bcellAt hV (bcellAt HBR.out e2), bcellAt hV (bcellAt HBR.out e3), bcellAt hV (bcellAt HBR.out e4), bcellAt hV (bcellAt HBR.out e5), hV⟩
                  have HKP := Lib.hid hkeep
                  clear hkeep hiff hall hat hat2 hat' hat2' hk' hk2' hatr hatr2 hkr hkr2 c0 c1 c2 c3 c4 c5 e0 e1 e2 e3 e4 e5 HX HX2 HI ba bb bk bq ba' bb' bk' bq'
                  have hi0 : (0 : Int) ≤ (i : Int) := by omega
                  have hi1 : (i : Int) < (k.len : Int) := by omega
                  have hi2 : (i : Int) < (k2.len : Int) := by have := HLEN.out; omega
                  go_wp2_with fail
                  go_region_held3 (fun w' => w'.cell? ⟨w.heap.size, 5, none⟩ = some (.slice (some ⟨b, o, none⟩) k.len cv) ∧ w'.cell? ⟨w.heap.size + 1, 5, none⟩ = some (.slice (some ⟨b2, o2, none⟩) k2.len dv) ∧ w'.cell? ⟨b, o + i * 6, none⟩ = some (.int .i64 p0) ∧ w'.cell? ⟨b, o + i * 6 + 1, none⟩ = some (.int .i64 p1) ∧ w'.cell? ⟨b, o + i * 6 + 2, none⟩ = some (.int .i64 p2) ∧ w'.cell? ⟨b, o + i * 6 + 3, none⟩ = some (.int .u64 p3) ∧ w'.cell? ⟨b, o + i * 6 + 4, none⟩ = some (.string p4) ∧ w'.cell? ⟨b, o + i * 6 + 5, none⟩ = some (.slice av' k'.len cv') ∧ w'.cell? ⟨b2, o2 + i * 6, none⟩ = some (.int .i64 q0) ∧ w'.cell? ⟨b2, o2 + i * 6 + 1, none⟩ = some (.int .i64 q1) ∧ w'.cell? ⟨b2, o2 + i * 6 + 2, none⟩ = some (.int .i64 q2) ∧ w'.cell? ⟨b2, o2 + i * 6 + 3, none⟩ = some (.int .u64 q3) ∧ w'.cell? ⟨b2, o2 + i * 6 + 4, none⟩ = some (.string q4) ∧ w'.cell? ⟨b2, o2 + i * 6 + 5, none⟩ = some (.slice bv' k2'.len dv') ∧ Below wr.heap.size wr w') ((refine HKP.out _ ?_; first | exact bdd _ _ | exact bd _ | exact bmore (by first | assumption | exact bdn _ _ | exact bd _ | exact Below.refl _ _) u1))
                    (((with_reducible refine (HS.out _ (by first | assumption | exact bdn _ _ | exact bd _ | exact Below.refl _ _)).mono ?_); rintro e w1 ⟨rfl, u1⟩))
                  have hx1 := bmore (bd wr) u1
                  have HB1 := Lib.hid (bmore HBR.out hx1)
                  clear hx1 u1 z5' z5''
                  cases dd with
                  | true =>
                    have HD := Lib.hid (HD1.out rfl)
                    clear HD1 HD2
                    go_wp2_with fail
                    go_roundw
                    case rel => exact ⟨i + 1, q, q', by go_num, by omega, by omega, HD.out, HALL.out, HBQ.out, HBQ2.out, fun _ => ⟨b, o, rfl, by rw [show o + (i + 1) * 6 = o + i * 6 + 6 by omega]; exact HAT.out⟩, fun _ => ⟨b2, o2, rfl, by rw [show o2 + (i + 1) * 6 = o2 + i * 6 + 6 by omega]; exact HAT2.out⟩, HB1.out⟩
                    case measure => simp [intOf]; omega
                  | false =>
                    have HD := Lib.hid (HD2.out rfl)
                    clear HD1 HD2
                    go_wp2_with fail
                    go_returns
                    exact ⟨by rw [HR1.out, decide_eq_false HD.out]; rfl, bmore HA.out HB1.out⟩
                · obtain rfl := fo_nil (show r.len = 0 by omega)
                  obtain rfl := fo_nil (show r2.len = 0 by simp only [Fo.len] at hrl; omega)
                  simp only [Fo.len, Nat.add_zero] at hi
                  subst hi
                  have HD := Lib.hid (hiff.2 rfl)
                  clear hiff hall hat hat2 HI HX HX2 hlt
                  go_wp2_with fail
                  go_returns
                  exact ⟨by rw [HR1.out, decide_eq_true HD.out]; rfl, bmore HA.out HBR.out⟩
theorem same_any (n : Nd) (k : Fo) : SameC G G' n k := tree_all same_step n k
end
end Go.Proofs.YteflbecdeinflaaDoor
