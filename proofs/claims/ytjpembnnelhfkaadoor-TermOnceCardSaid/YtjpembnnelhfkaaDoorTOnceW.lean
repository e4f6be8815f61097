/-
  The law's own walk: TermOnce.
-/
import Derived.Test.YtjpembnnelhfkaaDoorTOf
import Derived.Test.YtjpembnnelhfkaaDoorTPTree
import Derived.Test.YtjpembnnelhfkaaDoorTSame
namespace Go.Proofs.YtjpembnnelhfkaaDoor
open Go.RowKit Go.Maps
set_option linter.unusedVariables false

/-- Tree of a term whose tree is known. -/
theorem ptree_rep {B a b : Nat} {vv : Value} {p : Pl} {w : World} {n : Nd} {k : Fo} (hl : Laid w) (hp : IsPool w B a b vv p) {t : Int} (hr : RepF p [t] (.cons n k .nil)) (hb : Bare (.cons n k .nil)) :
    Calls Tryd.prog 28 #[.pointer (some ⟨a, 0, none⟩), .int .i64 t] w fun e w' => ∃ va vc, e = .returned (.agg (treeA n (.slice va k.len vc))) ∧ IsK w' (NewT w w') (.slice va k.len vc) k ∧ Below w.heap.size w w' :=
  (ptree hl hp t).mono fun e w' ⟨n', k', v, he, hk, hok, hbl, hrep, _⟩ => by
    have h1 := RepF.tree (hrep hr.1) hr (OkF.bare hok) hb
    simp only [Fo.cons.injEq, and_true] at h1
    obtain ⟨rfl, rfl⟩ := h1
    obtain ⟨va, vc, rfl, _⟩ := hk.shape
    exact ⟨va, vc, he, hk, hbl⟩
theorem szP_lt {p : Pl} (h : Ok p) {t : Int} (ht : inP p t = true) : szP p (atP p t).1.a < szP p t ∧ dpP p (atP p t).1.b < dpP p t := by
  obtain ⟨e1, e2⟩ := h.at_sizes ht
  have b1 := h.at_bounds (atP p t).1.b
  have b2 := h.at_bounds (atP p t).1.a
  unfold szN at e1
  unfold dpN at e2
  omega
def p1len (p : Pl) : Prop := p.length ≤ 6000
set_option maxRecDepth 100000 in
set_option maxHeartbeats 25600000 in
theorem once_walk {w : World} (hl : Laid w) {na nb : Nd} {ka kb : Fo} {va vb : Value} (hka : IsK w (fun b => b < w.heap.size) va ka) (hkb : IsK w (fun b => b < w.heap.size) vb kb) (hna : NdOk na ∧ na.a = 0 ∧ na.b = 0 ∧ OkF ka) (hnb : NdOk nb ∧ nb.a = 0 ∧ nb.b = 0 ∧ OkF kb) :
    Calls Tryd.prog 5 #[.agg (treeA na va), .agg (treeA nb vb)] w fun e w' => e = .returned (.bool true) ∧ Below w.heap.size w w' := by
  obtain ⟨av, cv, rfl, _⟩ := hka.shape
  obtain ⟨bv, dv, rfl, _⟩ := hkb.shape
  have b1 := bZ w (.cells (treeA na (.slice av ka.len cv)) TrT)
  have b2 := bZ (w.alloc (.cells (treeA na (.slice av ka.len cv)) TrT)) (.cells (treeA nb (.slice bv kb.len dv)) TrT)
  have b12 := b1.trans (b2.mono b1.size)
  have h1 : ((w.alloc (.cells (treeA na (.slice av ka.len cv)) TrT)).alloc (.cells (treeA nb (.slice bv kb.len dv)) TrT)).heap[w.heap.size]? = some (Obj.cells (treeA na (.slice av ka.len cv)) TrT) := Hold.below b2 _ _ (heap_alloc_new _ _)
  have h2 : ((w.alloc (.cells (treeA na (.slice av ka.len cv)) TrT)).alloc (.cells (treeA nb (.slice bv kb.len dv)) TrT)).heap[w.heap.size + 1]? = some (Obj.cells (treeA nb (.slice bv kb.len dv)) TrT) := by
    have e : w.heap.size + 1 = (w.alloc (.cells (treeA na (.slice av ka.len cv)) TrT)).heap.size := by simp
    rw [e]; exact heap_alloc_new _ _
  have HL := Lib.hid (hl.below b12)
  have HKA := Lib.hid (hka.below b12)
  have HKB := Lib.hid (hkb.below b12)
  have HA := Lib.hid b12
  have HNA := Lib.hid hna
  have HNB := Lib.hid hnb
  have LA := Lib.hid (fun (W : World) (h : IsK W (fun b => b < w.heap.size) (.slice av ka.len cv) ka) => large_any na ka W _ h)
  have LB := Lib.hid (fun (W : World) (h : IsK W (fun b => b < w.heap.size) (.slice bv kb.len dv) kb) => large_any nb kb W _ h)
  have TA := Lib.hid (fun (hs : ka.size ≤ 6000) (W : World) (h : IsK W (fun b => b < w.heap.size) (.slice av ka.len cv) ka) => lent_any na ka h hs)
  have TB := Lib.hid (fun (hs : kb.size ≤ 6000) (W : World) (h : IsK W (fun b => b < w.heap.size) (.slice bv kb.len dv) kb) => lent_any nb kb h hs)
  have HLA : Hid (largeB ka = false → 1 + ka.size ≤ 6000) := Lib.hid large_size
  have HLB : Hid (largeB kb = false → 1 + kb.size ≤ 6000) := Lib.hid large_size
  clear hl hka hkb hna hnb b1 b2 b12
  generalize hla : largeB ka = la at *
  generalize hlb : largeB kb = lb at *
  have HLEN := Lib.hid (show ka.len ≤ ka.size ∧ kb.len ≤ kb.size from ⟨ka.len_le, kb.len_le⟩)
  clear hla hlb
  cases la with
  | true =>
    obtain ⟨k1, f1, t1, n1, s1, x1, y1⟩ := na
    obtain ⟨k2, f2, t2, n2, s2, x2, y2⟩ := nb
    simp only [treeA] at *
    have c0 := cellB (j := 0) h1 rfl
    have c1 := cellB (j := 1) h1 rfl
    have c2 := cellB (j := 2) h1 rfl
    have c3 := cellB (j := 3) h1 rfl
    have c4 := cellB (j := 4) h1 rfl
    have c5 := cellB (j := 5) h1 rfl
    have d0 := cellB (j := 0) h2 rfl
    have d1 := cellB (j := 1) h2 rfl
    have d2 := cellB (j := 2) h2 rfl
    have d3 := cellB (j := 3) h2 rfl
    have d4 := cellB (j := 4) h2 rfl
    have d5 := cellB (j := 5) h2 rfl
    clear h1 h2
    go_enter Tryd.func5, Tryd.ntmps5
    go_wp2_with fail
    generalize ((w.alloc (.cells #[.int .i64 k1, .int .i64 f1, .int .i64 t1, .int .u64 n1, .string s1, .slice av ka.len cv] TrT)).alloc (.cells #[.int .i64 k2, .int .i64 f2, .int .i64 t2, .int .u64 n2, .string s2, .slice bv kb.len dv] TrT)) = W at *
    refine (LA.out _ HKA.out).mono ?_
    rintro e w1 ⟨rfl, u1⟩
    have HA1 := Lib.hid (bmore HA.out u1)
    have HL1 := Lib.hid (HL.out.below u1)
    clear u1 c0 c1 c2 c3 c4 c5 d0 d1 d2 d3 d4 d5
    go_wp2_with fail
    refine (live_any HL1.out).mono ?_
    rintro e w2 ⟨rfl, u2⟩
    have HA2 := Lib.hid (bmore HA1.out u2)
    clear u2
    go_wp2_with fail
    go_returns
    exact ⟨rfl, HA2.out⟩
  | false =>
    cases lb with
    | true =>
      obtain ⟨k1, f1, t1, n1, s1, x1, y1⟩ := na
      obtain ⟨k2, f2, t2, n2, s2, x2, y2⟩ := nb
      simp only [treeA] at *
      have c0 := cellB (j := 0) h1 rfl
      have c1 := cellB (j := 1) h1 rfl
      have c2 := cellB (j := 2) h1 rfl
      have c3 := cellB (j := 3) h1 rfl
      have c4 := cellB (j := 4) h1 rfl
      have c5 := cellB (j := 5) h1 rfl
      have d0 := cellB (j := 0) h2 rfl
      have d1 := cellB (j := 1) h2 rfl
      have d2 := cellB (j := 2) h2 rfl
      have d3 := cellB (j := 3) h2 rfl
      have d4 := cellB (j := 4) h2 rfl
      have d5 := cellB (j := 5) h2 rfl
      clear h1 h2
      go_enter Tryd.func5, Tryd.ntmps5
      go_wp2_with fail
      generalize ((w.alloc (.cells #[.int .i64 k1, .int .i64 f1, .int .i64 t1, .int .u64 n1, .string s1, .slice av ka.len cv] TrT)).alloc (.cells #[.int .i64 k2, .int .i64 f2, .int .i64 t2, .int .u64 n2, .string s2, .slice bv kb.len dv] TrT)) = W at *
      refine (LA.out _ HKA.out).mono ?_
      rintro e w1 ⟨rfl, u1⟩
      have HA1 := Lib.hid (bmore HA.out u1)
      have HL1 := Lib.hid (HL.out.below u1)
      have HKB1 := Lib.hid (HKB.out.below u1)
      replace d0 := bcellAt u1 d0
      replace d1 := bcellAt u1 d1
      replace d2 := bcellAt u1 d2
      replace d3 := bcellAt u1 d3
      replace d4 := bcellAt u1 d4
      replace d5 := bcellAt u1 d5
      clear u1 c0 c1 c2 c3 c4 c5
      go_wp2_with fail
      refine (LB.out _ HKB1.out).mono ?_
      rintro e w2 ⟨rfl, u2⟩
      have HA2 := Lib.hid (bmore HA1.out u2)
      have HL2 := Lib.hid (HL1.out.below u2)
      clear u2 d0 d1 d2 d3 d4 d5
      go_wp2_with fail
      refine (live_any HL2.out).mono ?_
      rintro e w3 ⟨rfl, u2⟩
      have HA3 := Lib.hid (bmore HA2.out u2)
      clear u2
      go_wp2_with fail
      go_returns
      exact ⟨rfl, HA3.out⟩
    | false =>
      have hsa := HLA.out rfl
      have hsb := HLB.out rfl
      have TA2 := Lib.hid (TA.out (by omega))
      have TB2 := Lib.hid (TB.out (by omega))
      have HNA2 := Lib.hid HNA.out
      -- what Of answers
      have HOA : Hid (((lkT na ka 0 0).2 ≠ 0 ∧ ofP na ka [] = (0, (lkT na ka 0 0).2, [])) ∨ ((ofP na ka []).2.1 = 0 ∧ RepF (ofP na ka []).2.2 [(ofP na ka []).1] (.cons na ka .nil) ∧ (ofP na ka []).2.2.length ≤ 6000)) := Lib.hid (by
        rcases ofP_ok na ka [] Ok.nil ⟨HNA.out.2.1, HNA.out.2.2.1, HNA.out.2.2.2.bare, trivial⟩ (by simp only [Fo.size, List.length_nil]; omega) with h | ⟨h1, h2, h3, h4, h5, e, h6, h7⟩
        · exact .inl h
        · right
          rw [h3]
          exact ⟨h2, h4, by rw [h6]; simp only [Fo.size] at h7; simp; omega⟩)
      have HOB : Hid (∀ q : Pl, Ok q → q.length ≤ 6000 → ((lkT nb kb 0 0).2 ≠ 0 ∧ ofP nb kb q = (0, (lkT nb kb 0 0).2, q)) ∨ ((ofP nb kb q).2.1 = 0 ∧ RepF (ofP nb kb q).2.2 [(ofP nb kb q).1] (.cons nb kb .nil) ∧ ∃ e, (ofP nb kb q).2.2 = q ++ e)) := Lib.hid (fun q hq hql => by
        rcases ofP_ok nb kb q hq ⟨HNB.out.2.1, HNB.out.2.2.1, HNB.out.2.2.2.bare, trivial⟩ (by simp only [Fo.size]; omega) with h | ⟨h1, h2, h3, h4, h5, e, h6, h7⟩
        · exact .inl h
        · right
          rw [h3]
          exact ⟨h2, h4, e, h6⟩)
      have PA := Lib.hid (fun (W : World) (B a b : Nat) (vv v : Value) (hB : 0 < B) (h1 : Laid W) (h2 : IsPool W B a b vv []) (h3 : IsK W (Safe W B) v ka) => pof hB h1 h2 h3 HNA.out.1 HNA.out.2.1 HNA.out.2.2.1 HNA.out.2.2.2 (fun h => (grT_good na ka [] Ok.nil (lkT_good h).1 ⟨HNA.out.2.1, HNA.out.2.2.1, HNA.out.2.2.2.bare, trivial⟩ (lkT_good h).2.1 (lkT_good h).2.2 (by simp only [Fo.size, List.length_nil]; omega)).1))
      have PB := Lib.hid (fun (W : World) (B a b : Nat) (vv v : Value) (q : Pl) (hql : q.length ≤ 6000) (hB : 0 < B) (h1 : Laid W) (h2 : IsPool W B a b vv q) (h3 : IsK W (Safe W B) v kb) => pof hB h1 h2 h3 HNB.out.1 HNB.out.2.1 HNB.out.2.2.1 HNB.out.2.2.2 (fun h => (grT_good nb kb q h2.ok (lkT_good h).1 ⟨HNB.out.2.1, HNB.out.2.2.1, HNB.out.2.2.2.bare, trivial⟩ (lkT_good h).2.1 (lkT_good h).2.2 (by simp only [Fo.size]; omega)).1))
      have HBARE := Lib.hid (show Bare (.cons na ka .nil) ∧ Bare (.cons nb kb .nil) from ⟨⟨HNA.out.2.1, HNA.out.2.2.1, HNA.out.2.2.2.bare, trivial⟩, ⟨HNB.out.2.1, HNB.out.2.2.1, HNB.out.2.2.2.bare, trivial⟩⟩)
      have hp1len : p1len (ofP na ka []).2.2 := by
        rcases HOA.out with ⟨_, h⟩ | ⟨_, _, h⟩
        · rw [h]; unfold p1len; simp
        · exact h
      generalize ofP na ka [] = oa at *
      obtain ⟨s, ea, p1⟩ := oa
      have hp1l : p1.length ≤ 6000 := hp1len
      clear hp1len
      have HEB := Lib.hid (fun (hq : Ok p1) => HOB.out p1 hq hp1l)
      have PB2 := Lib.hid (fun (W : World) (B a b : Nat) (vv v : Value) => PB.out W B a b vv v p1 hp1l)
      clear HOB PB TA TB HLA HLB
      generalize ofP nb kb p1 = ob at *
      obtain ⟨t, eb, p2⟩ := ob
      have SM := Lib.hid (fun (W : World) (v v2 : Value) (G G' : Nat → Prop) (h1 : IsK W G v ka) (h2 : IsK W G' v2 kb) => same_any na ka nb kb W v v2 h1 h2 ⟨HNA.out.2.1, HNA.out.2.2.1⟩ ⟨HNB.out.2.1, HNB.out.2.2.1⟩ HNA.out.2.2.2.bare HNB.out.2.2.2.bare)
      have SMA := Lib.hid (show ∀ (W : World) (v v2 : Value) (G G' : Nat → Prop), IsK W G v ka → IsK W G' v2 ka → Calls Tryd.prog 27 #[.agg (treeA na v), .agg (treeA na v2)] W (fun e w' => e = .returned (.bool true) ∧ Below W.heap.size W w') from fun W v v2 G G' h1 h2 => by
        have := same_any na ka na ka W v v2 h1 h2 ⟨HNA.out.2.1, HNA.out.2.2.1⟩ ⟨HNA.out.2.1, HNA.out.2.2.1⟩ HNA.out.2.2.2.bare HNA.out.2.2.2.bare
        rwa [decide_eq_true (show na = na ∧ ka = ka from ⟨rfl, rfl⟩)] at this)
      have SMB := Lib.hid (show ∀ (W : World) (v v2 : Value) (G G' : Nat → Prop), IsK W G v kb → IsK W G' v2 kb → Calls Tryd.prog 27 #[.agg (treeA nb v), .agg (treeA nb v2)] W (fun e w' => e = .returned (.bool true) ∧ Below W.heap.size W w') from fun W v v2 G G' h1 h2 => by
        have := same_any nb kb nb kb W v v2 h1 h2 ⟨HNB.out.2.1, HNB.out.2.2.1⟩ ⟨HNB.out.2.1, HNB.out.2.2.1⟩ HNB.out.2.2.2.bare HNB.out.2.2.2.bare
        rwa [decide_eq_true (show nb = nb ∧ kb = kb from ⟨rfl, rfl⟩)] at this)
      have PT := Lib.hid (fun (W : World) (B a b : Nat) (vv : Value) (h1 : Laid W) (h2 : IsPool W B a b vv p2) (h3 : RepF p2 [s] (.cons na ka .nil)) => ptree_rep h1 h2 h3 HBARE.out.1)
      have PT2 := Lib.hid (fun (W : World) (B a b : Nat) (vv : Value) (h1 : Laid W) (h2 : IsPool W B a b vv p2) (h3 : RepF p2 [t] (.cons nb kb .nil)) => ptree_rep h1 h2 h3 HBARE.out.2)
      have HDD : Hid (ea = 0 → eb = 0 → Ok p1 → Ok p2 → RepF p2 [s] (.cons na ka .nil) ∧ RepF p2 [t] (.cons nb kb .nil) ∧ (s == t) = decide (na = nb ∧ ka = kb)) := Lib.hid (fun h1 h2 hq hq2 => by
        rcases HOA.out with ⟨h3, h4⟩ | ⟨_, h5, _⟩
        · have h6 : ea = (lkT na ka 0 0).2 := congrArg (fun x => x.2.1) h4
          exact absurd (h6.symm.trans h1) h3
        · rcases HEB.out hq with ⟨h3, h4⟩ | ⟨_, h7, e, h8⟩
          · have h6 : eb = (lkT nb kb 0 0).2 := congrArg (fun x => x.2.1) h4
            exact absurd (h6.symm.trans h2) h3
          · have h8' : p2 = p1 ++ e := h8
            have r1 : RepF p2 [s] (.cons na ka .nil) := by rw [h8']; exact RepF.more h5
            have r2 : RepF p2 [t] (.cons nb kb .nil) := h7
            refine ⟨r1, r2, ?_⟩
            rw [Bool.eq_iff_iff, beq_iff_eq, decide_eq_true_eq]
            constructor
            · intro e; subst e
              have := RepF.tree r1 r2 HBARE.out.1 HBARE.out.2
              simp only [Fo.cons.injEq, and_true] at this
              exact this
            · rintro ⟨rfl, rfl⟩
              have := RepF.term hq2 r1 r2
              simp only [List.cons.injEq, and_true] at this
              exact this)
      clear HOA HEB HBARE HNA HNB HNA2
      generalize decide (na = nb ∧ ka = kb) = dd at *
      obtain ⟨k1, f1, t1, n1, s1, x1, y1⟩ := na
      obtain ⟨k2, f2, t2, n2, s2, x2, y2⟩ := nb
      simp only [treeA] at *
      have HX1 := Lib.hid h1
      have HX2 := Lib.hid h2
      have c0 := cellB (j := 0) h1 rfl
      have c1 := cellB (j := 1) h1 rfl
      have c2 := cellB (j := 2) h1 rfl
      have c3 := cellB (j := 3) h1 rfl
      have c4 := cellB (j := 4) h1 rfl
      have c5 := cellB (j := 5) h1 rfl
      have d0 := cellB (j := 0) h2 rfl
      have d1 := cellB (j := 1) h2 rfl
      have d2 := cellB (j := 2) h2 rfl
      have d3 := cellB (j := 3) h2 rfl
      have d4 := cellB (j := 4) h2 rfl
      have d5 := cellB (j := 5) h2 rfl
      have HWS : Hid (((w.alloc (.cells #[.int .i64 k1, .int .i64 f1, .int .i64 t1, .int .u64 n1, .string s1, .slice av ka.len cv] TrT)).alloc (.cells #[.int .i64 k2, .int .i64 f2, .int .i64 t2, .int .u64 n2, .string s2, .slice bv kb.len dv] TrT)).heap.size = w.heap.size + 2) := Lib.hid (by simp)
      clear h1 h2
      go_enter Tryd.func5, Tryd.ntmps5
      go_wp2_with fail
      generalize ((w.alloc (.cells #[.int .i64 k1, .int .i64 f1, .int .i64 t1, .int .u64 n1, .string s1, .slice av ka.len cv] TrT)).alloc (.cells #[.int .i64 k2, .int .i64 f2, .int .i64 t2, .int .u64 n2, .string s2, .slice bv kb.len dv] TrT)) = W at *
      refine (LA.out _ HKA.out).mono ?_
      rintro e w1 ⟨rfl, u1⟩
      have HA1 := Lib.hid (bmore HA.out u1)
      have HL1 := Lib.hid (HL.out.below u1)
      have HKA1 := Lib.hid (HKA.out.below u1)
      have HKB1 := Lib.hid (HKB.out.below u1)
      have HY1 := Lib.hid (Hold.below u1 _ _ HX1.out)
      have HY2 := Lib.hid (Hold.below u1 _ _ HX2.out)
      have HS1 := Lib.hid (Nat.le_trans (Nat.le_of_eq HWS.out.symm) u1.size)
      have h2 := HY2.out
      clear u1 c0 c1 c2 c3 c4 c5 d0 d1 d2 d3 d4 d5 HX1 HX2 HKA HKB HL HA HWS
      have d0 := cellB (j := 0) h2 rfl
      have d1 := cellB (j := 1) h2 rfl
      have d2 := cellB (j := 2) h2 rfl
      have d3 := cellB (j := 3) h2 rfl
      have d4 := cellB (j := 4) h2 rfl
      have d5 := cellB (j := 5) h2 rfl
      clear h2
      go_wp2_with fail
      refine (LB.out _ HKB1.out).mono ?_
      rintro e w2 ⟨rfl, u2⟩
      have HA2 := Lib.hid (bmore HA1.out u2)
      have HL2 := Lib.hid (HL1.out.below u2)
      have HKA2 := Lib.hid (HKA1.out.below u2)
      have HKB2 := Lib.hid (HKB1.out.below u2)
      have HX1 := Lib.hid (Hold.below u2 _ _ HY1.out)
      have HX2 := Lib.hid (Hold.below u2 _ _ HY2.out)
      have HS2 := Lib.hid (Nat.le_trans HS1.out u2.size)
      clear u2 d0 d1 d2 d3 d4 d5 HY1 HY2 HKA1 HKB1 HL1 HA1 HS1
      go_wp2_with fail
      refine (pnew w2).mono ?_
      rintro e w3 ⟨rfl, p3, u3⟩
      have HA3 := Lib.hid (bmore HA2.out u3)
      have HL3 := Lib.hid (HL2.out.below u3)
      have HKA3 := Lib.hid (HKA2.out.below u3)
      have HKB3 := Lib.hid (HKB2.out.below u3)
      have HX13 := Lib.hid (Hold.below u3 _ _ HX1.out)
      have HX23 := Lib.hid (Hold.below u3 _ _ HX2.out)
      have HP3 := Lib.hid p3
      have HBG := Lib.hid HL2.out.lt
      have HWB := Lib.hid (show w.heap.size + 2 ≤ w2.heap.size from HS2.out)
      clear u3 p3 HX1 HX2 HKA2 HKB2 HL2 HA2 HS2
      generalize w2.heap.size + 1 = pa at *
      generalize w2.heap.size = B at *
      have h1 := HX13.out
      have c0 := cellB (j := 0) h1 rfl
      have c1 := cellB (j := 1) h1 rfl
      have c2 := cellB (j := 2) h1 rfl
      have c3 := cellB (j := 3) h1 rfl
      have c4 := cellB (j := 4) h1 rfl
      have c5 := cellB (j := 5) h1 rfl
      clear h1
      go_wp2_with fail
      refine (TA2.out _ HKA3.out).mono ?_
      rintro e w4 ⟨v4, rfl, k4, u4⟩
      have HA4 := Lib.hid (bmore HA3.out u4)
      have HL4 := Lib.hid (HL3.out.below u4)
      have HKA4 := Lib.hid (HKA3.out.below u4)
      have HKB4 := Lib.hid (HKB3.out.below u4)
      have HX14 := Lib.hid (Hold.below u4 _ _ HX13.out)
      have HX24 := Lib.hid (Hold.below u4 _ _ HX23.out)
      have HP4 := Lib.hid (HP3.out.below u4)
      have HK4 := Lib.hid (k4.newT (B := B))
      clear u4 k4 c0 c1 c2 c3 c4 c5 HX13 HX23 HKA3 HKB3 HL3 HA3 HP3
      simp only [treeA]
      go_wp2_with fail
      refine (PA.out w4 B pa B _ v4 HBG.out HL4.out HP4.out HK4.out).mono ?_
      rintro e w5 ⟨rfl, g5⟩
      obtain ⟨u5, _, v5, p5, _⟩ := g5
      have HA5 := Lib.hid (HA4.out.trans (u5.mono (Nat.le_trans (Nat.le_add_right _ 2) HWB.out)))
      have HL5 := Lib.hid (HL4.out.base HBG.out u5)
      have HKA5 := Lib.hid (HKA4.out.keep (fun b hb _ => ⟨hb, u5.block b (by have := HWB.out; omega)⟩))
      have HKB5 := Lib.hid (HKB4.out.keep (fun b hb _ => ⟨hb, u5.block b (by have := HWB.out; omega)⟩))
      have HX15 := Lib.hid ((u5.block _ (by have := HWB.out; omega)).trans HX14.out)
      have HX25 := Lib.hid ((u5.block _ (by have := HWB.out; omega)).trans HX24.out)
      have HP5 := Lib.hid p5
      have h2 := HX25.out
      clear u5 p5 HX14 HX24 HKA4 HKB4 HL4 HA4 HP4 HK4
      have d0 := cellB (j := 0) h2 rfl
      have d1 := cellB (j := 1) h2 rfl
      have d2 := cellB (j := 2) h2 rfl
      have d3 := cellB (j := 3) h2 rfl
      have d4 := cellB (j := 4) h2 rfl
      have d5 := cellB (j := 5) h2 rfl
      clear h2
      go_wp2_with fail
      refine (TB2.out _ HKB5.out).mono ?_
      rintro e w6 ⟨v6, rfl, k6, u6⟩
      have HA6 := Lib.hid (bmore HA5.out u6)
      have HL6 := Lib.hid (HL5.out.below u6)
      have HKA6 := Lib.hid (HKA5.out.below u6)
      have HKB6 := Lib.hid (HKB5.out.below u6)
      have HX16 := Lib.hid (Hold.below u6 _ _ HX15.out)
      have HX26 := Lib.hid (Hold.below u6 _ _ HX25.out)
      have HP6 := Lib.hid (HP5.out.below u6)
      have HK6 := Lib.hid (k6.newT (B := B))
      have HOK1 := Lib.hid HP5.out.ok
      clear u6 k6 d0 d1 d2 d3 d4 d5 HX15 HX25 HKA5 HKB5 HL5 HA5 HP5
      simp only [treeA]
      go_wp2_with fail
      refine (PB2.out w6 B pa B _ v6 HBG.out HL6.out HP6.out HK6.out).mono ?_
      rintro e w7 ⟨rfl, g7⟩
      obtain ⟨u7, _, v7, p7, _⟩ := g7
      have HA7 := Lib.hid (HA6.out.trans (u7.mono (Nat.le_trans (Nat.le_add_right _ 2) HWB.out)))
      have HL7 := Lib.hid (HL6.out.base HBG.out u7)
      have HKA7 := Lib.hid (HKA6.out.keep (fun b hb _ => ⟨hb, u7.block b (by have := HWB.out; omega)⟩))
      have HKB7 := Lib.hid (HKB6.out.keep (fun b hb _ => ⟨hb, u7.block b (by have := HWB.out; omega)⟩))
      have HX17 := Lib.hid ((u7.block _ (by have := HWB.out; omega)).trans HX16.out)
      have HX27 := Lib.hid ((u7.block _ (by have := HWB.out; omega)).trans HX26.out)
      have HP7 := Lib.hid p7
      clear u7 p7 HX16 HX26 HKA6 HKB6 HL6 HA6 HP6 HK6 PA PB2 TA2 TB2 LA LB
      go_wp2_with fail
      refine (num_any ea w7).mono ?_
      rintro e w8 ⟨rfl, rfl⟩
      have LV := Lib.hid (fun (W : World) (h : Laid W) => live_any h)
      by_cases hea : ea = 0
      · subst hea
        go_wp2_with fail
        refine (num_any eb w7).mono ?_
        rintro e w8 ⟨rfl, rfl⟩
        by_cases heb : eb = 0
        · subst heb
          go_wp2_with fail
          obtain ⟨r1, r2, hst⟩ := HDD.out (by simp) (by simp) HOK1.out HP7.out.ok
          have PT3 := Lib.hid (fun (V : World) (hV : Below w7.heap.size w7 V) => PT.out V B pa B v7 (HL7.out.below hV) (HP7.out.below hV) r1)
          have PT4 := Lib.hid (fun (V : World) (hV : Below w7.heap.size w7 V) => PT2.out V B pa B v7 (HL7.out.below hV) (HP7.out.below hV) r2)
          have SM3 := Lib.hid (fun (V : World) (hV : Below w7.heap.size w7 V) => SM.out V _ _ _ _ (HKA7.out.below hV) (HKB7.out.below hV))
          have SA3 := Lib.hid (fun (V : World) (hV : Below w7.heap.size w7 V) (v : Value) (G : Nat → Prop) (hk : IsK V G v ka) => SMA.out V v _ _ _ hk (HKA7.out.below hV))
          have SB3 := Lib.hid (fun (V : World) (hV : Below w7.heap.size w7 V) (v : Value) (G : Nat → Prop) (hk : IsK V G v kb) => SMB.out V v _ _ _ hk (HKB7.out.below hV))
          have h1 := HX17.out
          have h2 := HX27.out
          have c0 := cellB (j := 0) h1 rfl
          have c1 := cellB (j := 1) h1 rfl
          have c2 := cellB (j := 2) h1 rfl
          have c3 := cellB (j := 3) h1 rfl
          have c4 := cellB (j := 4) h1 rfl
          have c5 := cellB (j := 5) h1 rfl
          have d0 := cellB (j := 0) h2 rfl
          have d1 := cellB (j := 1) h2 rfl
          have d2 := cellB (j := 2) h2 rfl
          have d3 := cellB (j := 3) h2 rfl
          have d4 := cellB (j := 4) h2 rfl
          have d5 := cellB (j := 5) h2 rfl
          have hkp : ∀ V : World, Below w7.heap.size w7 V → V.cell? ⟨w.heap.size, 0, none⟩ = some (.int .i64 k1) ∧ V.cell? ⟨w.heap.size, 1, none⟩ = some (.int .i64 f1) ∧ V.cell? ⟨w.heap.size, 2, none⟩ = some (.int .i64 t1) ∧ V.cell? ⟨w.heap.size, 3, none⟩ = some (.int .u64 n1) ∧ V.cell? ⟨w.heap.size, 4, none⟩ = some (.string s1) ∧ V.cell? ⟨w.heap.size, 5, none⟩ = some (.slice av ka.len cv) ∧ V.cell? ⟨w.heap.size + 1, 0, none⟩ = some (.int .i64 k2) ∧ V.cell? ⟨w.heap.size + 1, 1, none⟩ = some (.int .i64 f2) ∧ V.cell? ⟨w.heap.size + 1, 2, none⟩ = some (.int .i64 t2) ∧ V.cell? ⟨w.heap.size + 1, 3, none⟩ = some (.int .u64 n2) ∧ V.cell? ⟨w.heap.size + 1, 4, none⟩ = some (.string s2) ∧ V.cell? ⟨w.heap.size + 1, 5, none⟩ = some (.slice bv kb.len dv) ∧ Below w7.heap.size w7 V := fun V hV => ⟨bcellAt hV c0, bcellAt hV c1, bcellAt hV c2, bcellAt hV c3, bcellAt hV c4, bcellAt hV c5, bcellAt hV d0, bcellAt hV d1, bcellAt hV d2, bcellAt hV d3, bcellAt hV d4, bcellAt hV d5, hV⟩
          have HKP := Lib.hid hkp
          clear hkp h1 h2 c0 c1 c2 c3 c4 c5 d0 d1 d2 d3 d4 d5 r1 r2 PT PT2 SM SMA SMB HDD HKA7 HKB7 HX17 HX27
          cases dd
          all_goals
            go_region_held3 (fun w' => w'.cell? ⟨w.heap.size, 0, none⟩ = some (.int .i64 k1) ∧ w'.cell? ⟨w.heap.size, 1, none⟩ = some (.int .i64 f1) ∧ w'.cell? ⟨w.heap.size, 2, none⟩ = some (.int .i64 t1) ∧ w'.cell? ⟨w.heap.size, 3, none⟩ = some (.int .u64 n1) ∧ w'.cell? ⟨w.heap.size, 4, none⟩ = some (.string s1) ∧ w'.cell? ⟨w.heap.size, 5, none⟩ = some (.slice av ka.len cv) ∧ w'.cell? ⟨w.heap.size + 1, 0, none⟩ = some (.int .i64 k2) ∧ w'.cell? ⟨w.heap.size + 1, 1, none⟩ = some (.int .i64 f2) ∧ w'.cell? ⟨w.heap.size + 1, 2, none⟩ = some (.int .i64 t2) ∧ w'.cell? ⟨w.heap.size + 1, 3, none⟩ = some (.int .u64 n2) ∧ w'.cell? ⟨w.heap.size + 1, 4, none⟩ = some (.string s2) ∧ w'.cell? ⟨w.heap.size + 1, 5, none⟩ = some (.slice bv kb.len dv) ∧ Below w7.heap.size w7 w') ((refine HKP.out _ ?_; first | exact bd _ | exact bmore (bd _) u1 | exact bmore (bmore (bd _) u1) u2 | exact bmore (bmore (bmore (bd _) u1) u2) u3 | exact bmore (bmore (bmore (bmore (bd _) u1) u2) u3) u4 | exact bmore (bmore (bmore (bmore (bmore (bd _) u1) u2) u3) u4) u5))
              ((first
                | ((with_reducible refine (SM3.out _ (bd _)).mono ?_); rintro e w8 ⟨rfl, u1⟩)
                | ((with_reducible refine (PT3.out _ (bmore (bd _) u1)).mono ?_); rintro e w9 ⟨va2, vc2, rfl, k2', u2⟩)
                | ((with_reducible refine (SA3.out _ (bmore (bmore (bd _) u1) u2) _ _ k2').mono ?_); rintro e w10 ⟨rfl, u3⟩)
                | ((with_reducible refine (PT4.out _ (bmore (bmore (bmore (bd _) u1) u2) u3)).mono ?_); rintro e w11 ⟨va4, vc4, rfl, k4', u4⟩)
                | ((with_reducible refine (SB3.out _ (bmore (bmore (bmore (bmore (bd _) u1) u2) u3) u4) _ _ k4').mono ?_); rintro e w12 ⟨rfl, u5⟩)))
            have hx := bmore (bmore (bmore (bmore (bmore (bd w7) u1) u2) u3) u4) u5
            have HA12 := Lib.hid (bmore HA7.out hx)
            have HL12 := Lib.hid (HL7.out.below hx)
            have HP12 := Lib.hid (HP7.out.below hx)
            clear hx u1 u2 u3 u4 u5 k2' k4' HKP SM3 SA3 SB3 PT3 PT4 HP7 HL7 HA7
            have hlen : p2.length ≤ 65536 := HP12.out.ok.len
            go_wp2_with fail
            go_loopw [10] (fun vi wr => ∃ i : Nat, vi = .int .i64 (i : Int) ∧ 1 ≤ i ∧ i ≤ p2.length + 1 ∧ Below w12.heap.size w12 wr) (fun v _ => p2.length + 1 - (intOf v).toNat)
            case atStart => exact ⟨1, rfl, Nat.le_refl _, by omega, Below.refl _ _⟩
            case round =>
              obtain ⟨i, rfl, hi1, hi2, hbr⟩ := hrel
              have HPR := Lib.hid (HP12.out.below hbr)
              have HBR := Lib.hid (bmore HA12.out hbr)
              have HB12 := Lib.hid hbr
              clear hbr
              by_cases hlt : i ≤ p2.length
              · have hin : inP p2 (i : Int) = true := by simp [inP]; omega
                have hless := HPR.out.ok.less_at hin
                have hsz := szP_lt HPR.out.ok hin
                have NO := Lib.hid (fun (V : World) (h : IsPool V B pa B v7 p2) => pnode h (i : Int))
                have hc1 : (i : Int) ≤ (p2.length : Int) := by omega
                have hc0 : (0 : Int) ≤ (i : Int) := by omega
                generalize (atP p2 (i : Int)).1 = m at *
                rw [hin] at NO
                have S1 := Lib.hid (fun (V : World) (h : IsPool V B pa B v7 p2) => psize h m.a)
                have S2 := Lib.hid (fun (V : World) (h : IsPool V B pa B v7 p2) => psize h (i : Int))
                have D1 := Lib.hid (fun (V : World) (h : IsPool V B pa B v7 p2) => pdepth h m.b)
                have D2 := Lib.hid (fun (V : World) (h : IsPool V B pa B v7 p2) => pdepth h (i : Int))
                generalize szP p2 m.a = z1 at *
                generalize szP p2 (i : Int) = z2 at *
                generalize dpP p2 m.b = z3 at *
                generalize dpP p2 (i : Int) = z4 at *
                obtain ⟨mk, mf, mt, mu, ms, ma, mb⟩ := m
                simp only [nodeA] at *
                obtain ⟨l1, l2⟩ := hless
                obtain ⟨l3, l4⟩ := hsz
                have g1 : decide ((i : Int) ≤ ma) = false := decide_eq_false (by omega)
                have g2 : decide ((i : Int) ≤ mb) = false := decide_eq_false (by omega)
                have g3 : decide (z2 ≤ z1) = false := decide_eq_false (by omega)
                have g4 : decide (z4 ≤ z3) = false := decide_eq_false (by omega)
                clear hin l1 l2 l3 l4
                go_wp2_with fail
                refine (plen HPR.out).mono ?_
                rintro e w13 ⟨rfl, rfl⟩
                go_wp2_with fail
                refine (NO.out _ HPR.out).mono ?_
                rintro e w13 ⟨rfl, u13⟩
                have bN := bZ w13 (.cells #[.int .i64 mk, .int .i64 mf, .int .i64 mt, .int .u64 mu, .string ms, .int .i64 ma, .int .i64 mb] NodeT)
                have hN : (w13.alloc (.cells #[.int .i64 mk, .int .i64 mf, .int .i64 mt, .int .u64 mu, .string ms, .int .i64 ma, .int .i64 mb] NodeT)).heap[w13.heap.size]? = some (Obj.cells #[.int .i64 mk, .int .i64 mf, .int .i64 mt, .int .u64 mu, .string ms, .int .i64 ma, .int .i64 mb] NodeT) := heap_alloc_new _ _
                have HBN := Lib.hid (bmore u13 bN)
                have HN := Lib.hid hN
                have c0 := cellB (j := 0) hN rfl
                have c1 := cellB (j := 1) hN rfl
                have c2 := cellB (j := 2) hN rfl
                have c3 := cellB (j := 3) hN rfl
                have c4 := cellB (j := 4) hN rfl
                have c5 := cellB (j := 5) hN rfl
                have c6 := cellB (j := 6) hN rfl
                clear u13 bN hN
                go_wp2_with fail
                generalize (w13.alloc (.cells #[.int .i64 mk, .int .i64 mf, .int .i64 mt, .int .u64 mu, .string ms, .int .i64 ma, .int .i64 mb] NodeT)) = w14 at *
                refine (S1.out _ (HPR.out.below HBN.out)).mono ?_
                rintro e w15 ⟨rfl, u15⟩
                have HB15 := Lib.hid (bmore HBN.out u15)
                have hN15 := Hold.below u15 _ _ HN.out
                clear u15 c0 c1 c2 c3 c4 c5 c6
                have c0 := cellB (j := 0) hN15 rfl
                have c1 := cellB (j := 1) hN15 rfl
                have c2 := cellB (j := 2) hN15 rfl
                have c3 := cellB (j := 3) hN15 rfl
                have c4 := cellB (j := 4) hN15 rfl
                have c5 := cellB (j := 5) hN15 rfl
                have c6 := cellB (j := 6) hN15 rfl
                go_wp2_with fail
                refine (S2.out _ (HPR.out.below HB15.out)).mono ?_
                rintro e w16 ⟨rfl, u16⟩
                have HB16 := Lib.hid (bmore HB15.out u16)
                have hN16 := Hold.below u16 _ _ hN15
                clear u16 c0 c1 c2 c3 c4 c5 c6 hN15
                have c0 := cellB (j := 0) hN16 rfl
                have c1 := cellB (j := 1) hN16 rfl
                have c2 := cellB (j := 2) hN16 rfl
                have c3 := cellB (j := 3) hN16 rfl
                have c4 := cellB (j := 4) hN16 rfl
                have c5 := cellB (j := 5) hN16 rfl
                have c6 := cellB (j := 6) hN16 rfl
                go_wp2_with fail
                refine (D1.out _ (HPR.out.below HB16.out)).mono ?_
                rintro e w17 ⟨rfl, u17⟩
                have HB17 := Lib.hid (bmore HB16.out u17)
                clear u17 c0 c1 c2 c3 c4 c5 c6 hN16
                go_wp2_with fail
                refine (D2.out _ (HPR.out.below HB17.out)).mono ?_
                rintro e w18 ⟨rfl, u18⟩
                have HB18 := Lib.hid (bmore HB17.out u18)
                clear u18
                go_wp2_with fail
                go_roundw
                case rel => exact ⟨i + 1, by go_num, by omega, by omega, bmore HB12.out HB18.out⟩
                case measure => simp [intOf]; omega
              · obtain rfl : i = p2.length + 1 := by omega
                have hc1 : decide (((p2.length + 1 : Nat) : Int) ≤ (p2.length : Int)) = false := decide_eq_false (by omega)
                have hc2 : ¬ ((p2.length : Int) + 1 ≤ (p2.length : Int)) := by omega
                go_wp2_with fail
                refine (plen HPR.out).mono ?_
                rintro e w13 ⟨rfl, rfl⟩
                go_wp2_with fail
                refine (LV.out _ (HL12.out.below HB12.out)).mono ?_
                rintro e w14 ⟨rfl, u14⟩
                have HB14 := Lib.hid (bmore HBR.out u14)
                clear u14
                go_wp2_with fail
                go_returns
                exact ⟨rfl, HB14.out⟩
        · have heb' : (eb != 0) = true := by rw [bne_iff_ne]; exact heb
          go_wp2_with fail
          refine (LV.out _ HL7.out).mono ?_
          rintro e w9 ⟨rfl, u9⟩
          have HA9 := Lib.hid (bmore HA7.out u9)
          clear u9
          go_wp2_with fail
          go_returns
          exact ⟨rfl, HA9.out⟩
      · have hea' : (ea != 0) = true := by rw [bne_iff_ne]; exact hea
        go_wp2_with fail
        refine (LV.out _ HL7.out).mono ?_
        rintro e w9 ⟨rfl, u9⟩
        have HA9 := Lib.hid (bmore HA7.out u9)
        clear u9
        go_wp2_with fail
        go_returns
        exact ⟨rfl, HA9.out⟩
end Go.Proofs.YtjpembnnelhfkaaDoor
