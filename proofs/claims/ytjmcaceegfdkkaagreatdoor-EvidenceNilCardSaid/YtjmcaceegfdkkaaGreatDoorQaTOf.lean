/-
  The program's Of; the document's own Looks.
-/
import Derived.Test.YtjmcaceegfdkkaaGreatDoorQaTGrow
import Derived.Test.YtjmcaceegfdkkaaGreatDoorQaLRead
import Derived.Test.YtjmcaceegfdkkaaGreatDoorQaLKind
import Derived.Test.YtjmcaceegfdkkaaGreatDoorQaTKey
import Derived.Test.YtjmcaceegfdkkaaGreatDoorQaTLacks
import Derived.Test.YtjmcaceegfdkkaaGreatDoorQaTClone
namespace Go.Proofs.YtjmcaceegfdkkaaGreatDoor
open Go.RowKit Go.Maps
set_option linter.unusedVariables false
theorem lkT_good {n : Nd} {k : Fo} (h : (lkT n k 0 0).2 = 0) : Good (.cons n k .nil) ∧ ((Fo.cons n k .nil).size : Int) ≤ 4096 ∧ ((Fo.cons n k .nil).depth : Int) ≤ 64 := by
  have hk : (lk (.cons n k .nil) 0 0).2 = 0 := by rw [lk_cons, if_neg (by rw [h]; simp)]; rfl
  obtain ⟨a1, a2, a3, a4⟩ := lk_ok _ 0 0 hk (by omega) (by omega) (by omega)
  exact ⟨a3, by omega, by omega⟩
def OfPost (w : World) (B a b : Nat) (vv : Value) (q : Int × Int × Pl) (e : Ending) (w' : World) : Prop :=
  e = .returned (.tuple #[.int .i64 q.1, .int .i64 q.2.1]) ∧ Grew w B a b vv q.2.2 w'
section
variable {B a b : Nat}
set_option maxRecDepth 100000 in
set_option maxHeartbeats 6400000 in
theorem pof (hB : 1 < B) {w : World} {v vv : Value} {p : Pl} {n : Nd} {k : Fo} (hl : Laid w) (hp : IsPool w B a b vv p) (hk : IsK w (Safe w B) v k) (hn : NdOk n) (ha : n.a = 0) (hb : n.b = 0) (hok : OkF k) (hroom : (lkT n k 0 0).2 = 0 → (grT n k p).2.1 = 0) :
    Calls Tryz.prog 64 #[.pointer (some ⟨a, 0, none⟩), .agg (treeA n v)] w (OfPost w B a b vv (ofP n k p)) := by
  have b1 : Below w.heap.size w (w.alloc (.cells (treeA n v) TrT)) := bZ _ _
  have h1 : (w.alloc (.cells (treeA n v) TrT)).heap[w.heap.size]? = some (Obj.cells (treeA n v) TrT) := heap_alloc_new _ _
  obtain ⟨av, cv, rfl, _⟩ := hk.shape
  have HL := Lib.hid (hl.below b1)
  have HP := Lib.hid (hp.below b1)
  have HG := Lib.hid (GrewV.start hp b1)
  have HBW := Lib.hid (Nat.le_trans hp.ga (Nat.le_of_lt hp.lt))
  have HK := Lib.hid (hk.safe b1)
  have HSV := Lib.hid (survey_any n k _ (.slice av k.len cv) 0 0 (hl.below b1) (hk.safe b1) hn ha hb hok (by omega) (by omega) (by omega) (by omega))
  have HGR := Lib.hid (fun (W : World) (h1 : (lkT n k 0 0).2 = 0) (h2 : Laid W) (h3 : IsPool W B a b vv p) (h4 : IsK W (Safe W B) (.slice av k.len cv) k) =>
    grow_any hB n k W (.slice av k.len cv) vv p h2 h3 h4 hn hok (by obtain ⟨⟨g1, _, g2, _⟩, _⟩ := lkT_good h1; rw [g1]; exact kidsN_le _) (Good.two (lkT_good h1).1.2.2.1))
  have PL := Lib.hid (fun (W : World) (hW : IsPool W B a b vv p) => plen hW)
  have hpl := hp.ok.len
  have HR := Lib.hid hroom
  have HB1 := Lib.hid h1
  have HOF1 : Hid ((lkT n k 0 0).2 ≠ 0 → ofP n k p = (0, (lkT n k 0 0).2, p)) := Lib.hid (fun h => by unfold ofP; rw [if_pos h])
  have HOF2 : Hid ((lkT n k 0 0).2 = 0 → ofP n k p = grT n k p) := Lib.hid (fun h => by unfold ofP; rw [if_neg (by rw [h]; simp), if_neg (by rw [hroom h]; simp)])
  clear hl hk hp b1 hn ha hb hok hroom
  generalize lkT n k 0 0 = ll at *
  obtain ⟨l1, l2⟩ := ll
  generalize grT n k p = qq at *
  generalize ofP n k p = oo at *
  obtain ⟨kk, ff, tt, uu, ss, xa, xb⟩ := n
  simp only [treeA] at *
  have y0 := cellB (j := 0) h1 rfl
  have y1 := cellB (j := 1) h1 rfl
  have y2 := cellB (j := 2) h1 rfl
  have y3 := cellB (j := 3) h1 rfl
  have y4 := cellB (j := 4) h1 rfl
  have y5 := cellB (j := 5) h1 rfl
  clear h1
  by_cases hz : l2 = 0
  · subst hz
    have HO := Lib.hid (HOF2.out rfl)
    have HR2 := Lib.hid (HR.out rfl)
    have HGR2 := Lib.hid (HGR.out · rfl)
    clear HOF1 HOF2 HR HGR
    obtain ⟨q1, q2, q3⟩ := qq
    have hq2 : q2 = 0 := HR2.out
    subst hq2
    go_enter Tryz.func64, Tryz.ntmps64
    go_wp2_with fail
    generalize (w.alloc (.cells #[.int .i64 kk, .int .i64 ff, .int .i64 tt, .int .u64 uu, .string ss, .slice av k.len cv] TrT)) = W at *
    refine HSV.out.mono ?_
    rintro e w1 ⟨rfl, u1⟩
    have HU1 := Lib.hid u1
    clear u1 y0 y1 y2 y3 y4 y5
    rw [survA_ok rfl]
    go_wp2_with fail
    refine (PL.out _ (HP.out.below HU1.out)).mono ?_
    rintro e w2 ⟨rfl, rfl⟩
    have hb1 := Hold.below HU1.out _ _ HB1.out
    have z0 := cellB (j := 0) hb1 rfl
    have z1 := cellB (j := 1) hb1 rfl
    have z2 := cellB (j := 2) hb1 rfl
    have z3 := cellB (j := 3) hb1 rfl
    have z4 := cellB (j := 4) hb1 rfl
    have z5 := cellB (j := 5) hb1 rfl
    clear hb1
    go_wp2_with fail
    refine (HGR2.out w1 (HL.out.below HU1.out) (HP.out.below HU1.out) (HK.out.safe HU1.out)).mono ?_
    rintro e w3 ⟨rfl, g3⟩
    obtain ⟨v5, p5, gv5⟩ := (HG.out.below (Nat.le_trans HBW.out HG.out.1.size) HU1.out).step g3
    have HG5 := Lib.hid gv5
    have HP5 := Lib.hid p5
    clear g3 gv5 p5 z0 z1 z2 z3 z4 z5
    go_wp2_with fail
    go_returns
    exact ⟨by rw [HO.out]; rfl, by rw [HO.out]; exact HG5.out.fin HP5.out⟩
  · have hz' : (l2 != 0) = true := by rw [bne_iff_ne]; exact hz
    have HO := Lib.hid (HOF1.out hz)
    clear HOF1 HOF2 HR HGR
    go_enter Tryz.func64, Tryz.ntmps64
    go_wp2_with fail
    generalize (w.alloc (.cells #[.int .i64 kk, .int .i64 ff, .int .i64 tt, .int .u64 uu, .string ss, .slice av k.len cv] TrT)) = W at *
    refine HSV.out.mono ?_
    rintro e w1 ⟨rfl, u1⟩
    have HU1 := Lib.hid u1
    clear u1 y0 y1 y2 y3 y4 y5
    rw [survA_err hz]
    go_wp2_with fail
    go_returns
    exact ⟨by rw [HO.out]; rfl, by rw [HO.out]; exact (HG.out.below (Nat.le_trans HBW.out HG.out.1.size) HU1.out).fin (HP.out.below HU1.out)⟩
end
section
variable {G : Nat → Prop}
end
end Go.Proofs.YtjmcaceegfdkkaaGreatDoor
