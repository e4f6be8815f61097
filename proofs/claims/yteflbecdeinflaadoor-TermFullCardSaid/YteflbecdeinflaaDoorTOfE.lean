/-
  The program's Of where there is no room.
-/
import Derived.Test.YteflbecdeinflaaDoorTCut
namespace Go.Proofs.YteflbecdeinflaaDoor
open Go.RowKit Go.Maps
set_option linter.unusedVariables false

theorem mkP_pre (p : Pl) (n : Nd) : ∃ e, (mkP p n).2.2 = p ++ e := by
  unfold mkP
  split
  · exact ⟨[], by simp⟩
  · split
    · exact ⟨[], by simp⟩
    · split
      · exact ⟨[], by simp⟩
      · exact ⟨_, rfl⟩
theorem grF_pre : ∀ (f : Fo) (p : Pl), ∃ e, (grF f p).2.2 = p ++ e := by
  intro f
  induction f with
  | nil => intro p; exact ⟨[], by simp [grF]⟩
  | cons n k r ihk ihr =>
    intro p
    obtain ⟨e1, h1⟩ := ihk p
    obtain ⟨e2, h2⟩ := mkP_pre (grF k p).2.2 (nodeOf n (grF k p).1)
    obtain ⟨e3, h3⟩ := ihr (mkP (grF k p).2.2 (nodeOf n (grF k p).1)).2.2
    simp only [grF]
    split
    · exact ⟨e1, h1⟩
    · split
      · exact ⟨e1 ++ e2, by rw [h2, h1, List.append_assoc]⟩
      · exact ⟨e1 ++ (e2 ++ e3), by rw [h3, h2, h1]; simp⟩
theorem grT_pre (n : Nd) (k : Fo) (p : Pl) : p.length ≤ (grT n k p).2.2.length := by
  obtain ⟨e1, h1⟩ := grF_pre k p
  obtain ⟨e2, h2⟩ := mkP_pre (grF k p).2.2 (nodeOf n (grF k p).1)
  unfold grT
  split
  · rw [h1]; simp
  · rw [h2, h1]; simp
theorem mkP_err0 (p : Pl) (n : Nd) (h : (mkP p n).2.1 ≠ 0) : (mkP p n).1 = 0 := by
  unfold mkP at h ⊢
  split
  · rfl
  · rename_i h1
    rw [if_neg h1] at h
    split
    · rename_i h2; rw [if_pos h2] at h; exact absurd rfl h
    · rename_i h2
      rw [if_neg h2] at h
      split
      · rfl
      · rename_i h3; rw [if_neg h3] at h; exact absurd rfl h
theorem grT_err0 (n : Nd) (k : Fo) (p : Pl) (h : (grT n k p).2.1 ≠ 0) : (grT n k p).1 = 0 := by
  unfold grT at h ⊢
  split
  · rfl
  · rename_i h1
    rw [if_neg h1] at h
    exact mkP_err0 _ _ h
section
variable {w : World} {B a b : Nat} {vv : Value} {p : Pl}
set_option maxHeartbeats 400000 in
/-- What Len answers, where the list alone is known. -/
theorem plen_of {g cv n : Nat} (c1 : w.cell? ⟨a, 1, none⟩ = some (.slice (some ⟨g, 0, none⟩) n cv)) : Calls Tryd.prog 19 #[.pointer (some ⟨a, 0, none⟩)] w fun e w' => e = .returned (.int .i64 (n : Int)) ∧ w = w' := by
  go_enter Tryd.func19, Tryd.ntmps19
  go_wp2_with fail
  go_returns
  exact ⟨rfl, rfl⟩
set_option maxRecDepth 100000 in
set_option maxHeartbeats 6400000 in
theorem pof_no (hB : 0 < B) {v : Value} {n : Nd} {k : Fo} (hl : Laid w) (hp : IsPool w B a b vv p) (hk : IsK w (Safe w B) v k) (hn : NdOk n) (ha : n.a = 0) (hb : n.b = 0) (hok : OkF k) (h0 : 0 < p.length) (hlk : (lkT n k 0 0).2 = 0) (hno : (grT n k p).2.1 ≠ 0) :
    Calls Tryd.prog 25 #[.pointer (some ⟨a, 0, none⟩), .agg (treeA n v)] w fun e w' => e = .returned (.tuple #[.int .i64 0, .int .i64 (grT n k p).2.1]) ∧ Below B w w' ∧ ∃ g cv, w'.cell? ⟨a, 1, none⟩ = some (.slice (some ⟨g, 0, none⟩) p.length cv) := by
  have b1 : Below w.heap.size w (w.alloc (.cells (treeA n v) TrT)) := bZ _ _
  have h1 : (w.alloc (.cells (treeA n v) TrT)).heap[w.heap.size]? = some (Obj.cells (treeA n v) TrT) := heap_alloc_new _ _
  obtain ⟨av, cv, rfl, _⟩ := hk.shape
  have HL := Lib.hid (hl.below b1)
  have HP := Lib.hid (hp.below b1)
  have HBW := Lib.hid (Nat.le_trans hp.ga (Nat.le_of_lt hp.lt))
  have HB0 := Lib.hid (b1.mono (Nat.le_trans hp.ga (Nat.le_of_lt hp.lt)))
  have HK := Lib.hid (hk.safe b1)
  have HSV := Lib.hid (survey_any n k _ (.slice av k.len cv) 0 0 (hl.below b1) (hk.safe b1) hn ha hb hok (by omega) (by omega) (by omega) (by omega))
  have HGR := Lib.hid (fun (W : World) (h2 : Laid W) (h3 : IsPool W B a b vv p) (h4 : IsK W (Safe W B) (.slice av k.len cv) k) =>
    grow_any hB n k W (.slice av k.len cv) vv p h2 h3 h4 hn hok (by obtain ⟨⟨g1, _, g2, _⟩, _⟩ := lkT_good hlk; rw [g1]; exact kidsN_le _) (Good.two (lkT_good hlk).1.2.2.1))
  have PL := Lib.hid (fun (W : World) (hW : IsPool W B a b vv p) => plen hW)
  have hpl := hp.ok.len
  have HB1 := Lib.hid h1
  have HPRE := Lib.hid (grT_pre n k p)
  have hz0 := grT_err0 n k p hno
  clear hl hk hp b1 hn ha hb hok
  generalize lkT n k 0 0 = ll at *
  obtain ⟨l1, l2⟩ := ll
  simp only at hlk
  subst hlk
  generalize grT n k p = qq at *
  obtain ⟨q1, q2, q3⟩ := qq
  simp only at hz0 hno
  subst hz0
  have hno' : (q2 != 0) = true := by rw [bne_iff_ne]; exact hno
  obtain ⟨kk, ff, tt, uu, ss, xa, xb⟩ := n
  simp only [treeA] at *
  have y0 := cellB (j := 0) h1 rfl
  have y1 := cellB (j := 1) h1 rfl
  have y2 := cellB (j := 2) h1 rfl
  have y3 := cellB (j := 3) h1 rfl
  have y4 := cellB (j := 4) h1 rfl
  have y5 := cellB (j := 5) h1 rfl
  clear h1
  go_enter Tryd.func25, Tryd.ntmps25
  go_wp2_with fail
  generalize (w.alloc (.cells #[.int .i64 kk, .int .i64 ff, .int .i64 tt, .int .u64 uu, .string ss, .slice av k.len cv] TrT)) = W at *
  refine HSV.out.mono ?_
  rintro e w1 ⟨rfl, u1⟩
  have HU1 := Lib.hid u1
  clear u1 y0 y1 y2 y3 y4 y5
  rw [survA_ok rfl]
  go_wp2_with fail
  refine (PL.out _ (HP.out.below HU1.out)).mono ?_
  rintro e w2 ⟨rfl, rfl⟩
  have hb1 := Hold.below HU1.out _ _ HB1.out
  have z0 := cellB (j := 0) hb1 rfl
  have z1 := cellB (j := 1) hb1 rfl
  have z2 := cellB (j := 2) hb1 rfl
  have z3 := cellB (j := 3) hb1 rfl
  have z4 := cellB (j := 4) hb1 rfl
  have z5 := cellB (j := 5) hb1 rfl
  clear hb1
  go_wp2_with fail
  refine (HGR.out w1 (HL.out.below HU1.out) (HP.out.below HU1.out) (HK.out.safe HU1.out)).mono ?_
  rintro e w3 ⟨rfl, g3⟩
  have HG3 := Lib.hid (HB0.out.trans ((HU1.out.mono (Nat.le_trans HBW.out HB0.out.size)).trans g3.1))
  obtain ⟨v3, p3, _⟩ := g3.2.2
  have HP3 := Lib.hid p3
  clear g3 p3 z0 z1 z2 z3 z4 z5
  go_wp2_with fail
  refine (pcut HP3.out (n := p.length) (Nat.lt_of_lt_of_le h0 HPRE.out) HPRE.out).mono ?_
  rintro e w4 ⟨rfl, g4, gg, cc, hc⟩
  have HG4 := Lib.hid (HG3.out.trans g4)
  have HC4 := Lib.hid hc
  clear g4 hc
  go_wp2_with fail
  go_returns
  exact ⟨rfl, HG4.out, gg, cc, HC4.out⟩
end
end Go.Proofs.YteflbecdeinflaaDoor
