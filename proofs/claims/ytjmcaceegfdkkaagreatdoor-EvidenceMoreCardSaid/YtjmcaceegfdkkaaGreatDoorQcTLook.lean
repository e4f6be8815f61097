/-
  The document's own node, looked, Looks.
-/
import Derived.Test.YtjmcaceegfdkkaaGreatDoorQcLProm
import Derived.Test.YtjmcaceegfdkkaaGreatDoorQcTRefMake
namespace Go.Proofs.YtjmcaceegfdkkaaGreatDoor
open Go.RowKit Go.Maps
set_option linter.unusedVariables false
set_option maxRecDepth 100000 in
set_option maxHeartbeats 3200000 in
theorem rnode_any (n : Nd) (v : Value) (w : World) (ha : n.a = 0) (hb : n.b = 0) : Calls Tryz.prog 160 #[.agg (treeA n v)] w fun e w' => e = .returned (.agg (nodeA n)) ∧ Below w.heap.size w w' := by
 obtain ⟨kk, ff, tt, uu, ss, xa, xb⟩ := n
 simp only [treeA, nodeA] at *
 subst ha hb
 go_enter Tryz.func160, Tryz.ntmps160
 go_wp2_with fail
 refine bodyPost_ret (v := .agg #[.int .i64 kk, .int .i64 ff, .int .i64 tt, .int .u64 uu, .string ss, .int .i64 0, .int .i64 0]) (by simp [results, Tryz.results160, go_sem]) rfl ⟨rfl, ?_⟩
 exact ((Below.refl _ _).alloc (Nat.le_refl _) _).alloc (by simp) _
def At1 (w : World) (sb : Nat) (s : Int) : Prop := w.heap[sb]? = some (Obj.cells #[.int .i64 s] IntT)
theorem At1.below {w w' : World} {sb : Nat} {s : Int} (h : At1 w sb s) (hb : Below w.heap.size w w') : At1 w' sb s := Hold.below hb _ _ h
theorem At1.lt {w : World} {sb : Nat} {s : Int} (h : At1 w sb s) : sb < w.heap.size := (Array.getElem?_eq_some_iff.1 h).1
theorem grow_of {w w' : World} (h : Below w.heap.size w w') (row : Option Nat) : w.grownBy w' row := ⟨h.os, h.tape, h.output, h.size, fun k hk _ => h.block k hk⟩
theorem IsK.grow {w w' : World} {G : Nat → Prop} {v : Value} {k : Fo} {sb : Nat} (h : IsK w G v k) (hg : w.grownBy w' (some sb)) (hn : ¬ G sb) : IsK w' G v k :=
 h.keep fun b hb hl => ⟨hb, hg.block b hl (fun e => by cases e; exact hn hb)⟩
theorem AtF.grow {w w' : World} {G : Nat → Prop} {k : Fo} {b off sb : Nat} (h : AtF w G k b off) (hs : G b) (hg : w.grownBy w' (some sb)) (hn : ¬ G sb) : AtF w' G k b off :=
 AtF.keep (fun b hb hl => ⟨hb, hg.block b hl (fun e => by cases e; exact hn hb)⟩) k b off (fun hl => hg.block b hl (fun e => by cases e; exact hn hs)) h
def LookPost (w : World) (sb : Nat) (q : Int × Int) (e : Ending) (w' : World) : Prop := e = .returned (.int .i64 q.2) ∧ At1 w' sb q.1 ∧ w.grownBy w' (some sb)
theorem lkT_bd (n : Nd) (k : Fo) (s d : Int) (h0 : 0 ≤ s) (h1 : s ≤ 4096) (h2 : d ≤ 64) : 0 ≤ (lkT n k s d).1 ∧ (lkT n k s d).1 ≤ 4096 := by
 have aux : ∀ (f : Fo) (s d : Int), 0 ≤ s → s ≤ 4096 → 0 ≤ (lk f s d).1 ∧ (lk f s d).1 ≤ 4096 := by
  intro f
  induction f with
  | nil => intro s d h0 h1; exact ⟨h0, h1⟩
  | cons n k r ihk ihr =>
   intro s d h0 h1
   simp only [lk]
   by_cases c1 : 4096 ≤ s ∨ 64 ≤ d
   ·rw [if_pos c1]; exact ⟨h0, h1⟩
   ·rw [if_neg c1]
    by_cases c2 : k.len ≠ kidsN n.kind
    ·rw [if_pos c2]; simp only; omega
    ·rw [if_neg c2]
     by_cases c3 : shp n ≠ 0
     ·rw [if_pos c3]; simp only; omega
     ·rw [if_neg c3]
      have hk := ihk (s + 1) (d + 1) (by omega) (by omega)
      by_cases c4 : (lk k (s + 1) (d + 1)).2 ≠ 0
      ·rw [if_pos c4]; exact hk
      ·rw [if_neg c4]; exact ihr _ d hk.1 hk.2
 unfold lkT
 by_cases c1 : 4096 ≤ s ∨ 64 ≤ d
 ·rw [if_pos c1]; exact ⟨h0, h1⟩
 ·rw [if_neg c1]
  by_cases c2 : k.len ≠ kidsN n.kind
  ·rw [if_pos c2]; simp only; omega
  ·rw [if_neg c2]
   by_cases c3 : shp n ≠ 0
   ·rw [if_pos c3]; simp only; omega
   ·rw [if_neg c3]; exact aux k (s + 1) (d + 1) (by omega) (by omega)
section
variable {G : Nat → Prop}
def LookC (G : Nat → Prop) (n : Nd) (k : Fo) : Prop := ∀ (w : World) (v : Value) (s d : Int) (sb : Nat), IsK w G v k → ¬ G sb → At1 w sb s → NdOk n → n.a = 0 → n.b = 0 → OkF k → 0 ≤ s → s ≤ 4096 → 0 ≤ d → d ≤ 64 → Calls Tryz.prog 159 #[.agg (treeA n v), .int .i64 d, .pointer (some ⟨sb, 0, none⟩)] w (LookPost w sb (lkT n k s d))
set_option maxRecDepth 100000 in
set_option maxHeartbeats 12800000 in
theorem look_step (n : Nd) (k : Fo) (ih : AllF (LookC G) k) : LookC G n k := by
 intro w v s d sb hk hG hs hn ha hb hok hs0 hs1 hd0 hd1
 have b1 : Below w.heap.size w (w.alloc (.cells (treeA n v) TrT)) := bZ _ _
 have h1 : (w.alloc (.cells (treeA n v) TrT)).heap[w.heap.size]? = some (Obj.cells (treeA n v) TrT) := heap_alloc_new _ _
 have hsne : w.heap.size ≠ sb := by have := hs.lt; omega
 have hs' := hs.below b1
 have hk' := hk.below b1
 by_cases hc : 4096 ≤ s ∨ 64 ≤ d
 ·have hq : lkT n k s d = (s, 52) := by unfold lkT; rw [if_pos hc]
  rw [hq]
  have z0 := cellB (j := 0) hs' rfl
  have HS := Lib.hid hs'
  have HB1 := Lib.hid (grow_of b1 (some sb))
  obtain ⟨av, cv, rfl, _⟩ := hk.shape
  obtain ⟨kk, ff, tt, uu, ss, xa, xb⟩ := n
  simp only [treeA] at *
  clear hk hk' hs hs' hq b1 h1 hn ih hok
  by_cases hc1 : 4096 ≤ s
  ·clear hc
   go_enter Tryz.func159, Tryz.ntmps159
   go_wp2_with fail
   go_returns
   exact ⟨rfl, HS.out, HB1.out⟩
  ·have hc1' : decide (4096 ≤ s) = false := decide_eq_false hc1
   have hc2 : 64 ≤ d := by omega
   clear hc hc1
   go_enter Tryz.func159, Tryz.ntmps159
   go_wp2_with fail
   go_returns
   exact ⟨rfl, HS.out, HB1.out⟩
 ·have hc1 : decide (4096 ≤ s) = false := decide_eq_false (by omega)
  have hc2 : decide (64 ≤ d) = false := decide_eq_false (by omega)
  have hs2 : s < 4096 := by omega
  have hd2 : d < 64 := by omega
  obtain ⟨av, cv, rfl, _⟩ := hk.shape
  have hlen := hk.small
  unfold maxLen at hlen
  -- behind the store
  have z0 := cellB (j := 0) hs' rfl
  have z1 := frozenB (j := 0) hs'
  have hs3 : At1 ((w.alloc (.cells (treeA n (.slice av k.len cv)) TrT)).setCell ⟨sb, 0, none⟩ (.int .i64 (s + 1))) sb (s + 1) := setCellB (j := 0) (u := .int .i64 (s + 1)) hs'
  have hg2 : (w.alloc (.cells (treeA n (.slice av k.len cv)) TrT)).grownBy ((w.alloc (.cells (treeA n (.slice av k.len cv)) TrT)).setCell ⟨sb, 0, none⟩ (.int .i64 (s + 1))) (some sb) := grownBy_set _ _ _ _
  have h2 : ((w.alloc (.cells (treeA n (.slice av k.len cv)) TrT)).setCell ⟨sb, 0, none⟩ (.int .i64 (s + 1))).heap[w.heap.size]? = some (Obj.cells (treeA n (.slice av k.len cv)) TrT) := by
   rw [Below.heap_setCell _ _ _ _ hsne]; exact h1
  have hk2 := hk'.grow hg2 hG
  have HG2 := Lib.hid ((grow_of b1 (some sb)).trans hg2)
  have HS2 := Lib.hid hs3
  have HB2 := Lib.hid h2
  have HK2 := Lib.hid hk2
  have NA := Lib.hid (fun (W : World) => rnode_any n (.slice av k.len cv) W ha hb)
  have SH := Lib.hid (fun (W : World) => rshape n W hn.text)
  have KI := Lib.hid (fun (W : World) => rkids n.kind W)
  have hkk := kidsN_le n.kind
  have hx53 : (shp n = 53 → k.len ≠ kidsN n.kind ∨ k.len = kidsN n.kind) := fun _ => by omega
  have HQ : Hid (lkT n k s d = if k.len ≠ kidsN n.kind then (s + 1, 53) else if shp n ≠ 0 then (s + 1, shp n) else lk k (s + 1) (d + 1)) := Lib.hid (by unfold lkT; rw [if_neg hc])
  have HI := Lib.hid ih
  have HOK := Lib.hid hok
  have HNG := Lib.hid hG
  have HNE := Lib.hid hsne
  clear hk hk' hs hs' hs3 hg2 h2 hk2 b1 h1 hn ih hok hc hx53 ha hb hG hsne
  generalize lkT n k s d = qq at *
  generalize shp n = sh at *
  -- what stands in e when the loop begins
  have HEND : Hid (∀ (e0 : Int), (e0 = 0 → qq = lk k (s + 1) (d + 1)) → (e0 ≠ 0 → qq = (s + 1, e0)) → True) := Lib.hid (fun _ _ _ => trivial)
  have HE0 : Hid (∃ e0 : Int, (if sh = 53 then e0 = 53 else if k.len ≠ kidsN n.kind then e0 = 53 else e0 = sh) ∧ (e0 = 0 → qq = lk k (s + 1) (d + 1)) ∧ (e0 ≠ 0 → qq = (s + 1, e0))) := Lib.hid (by
   have hq := HQ.out
   by_cases h5 : sh = 53
   ·refine ⟨53, by rw [if_pos h5], (fun h => absurd h (by decide)), fun _ => ?_⟩
    by_cases e : k.len ≠ kidsN n.kind
    ·rw [if_pos e] at hq; exact hq
    ·rw [if_neg e, if_pos (by rw [h5]; decide), h5] at hq; exact hq
   ·by_cases e : k.len ≠ kidsN n.kind
    ·refine ⟨53, by rw [if_neg h5, if_pos e], (fun h => absurd h (by decide)), fun _ => ?_⟩
     rw [if_pos e] at hq; exact hq
    ·rw [if_neg e] at hq
     refine ⟨sh, by rw [if_neg h5, if_neg e], fun h => ?_, fun h => ?_⟩
     ·rw [if_neg (by rw [h]; simp)] at hq; exact hq
     ·rw [if_pos h] at hq; exact hq)
  obtain ⟨e0, he0, q1, q2⟩ := HE0.out
  have HQ1 := Lib.hid q1
  have HQ2 := Lib.hid q2
  clear HE0 HQ q1 q2
  by_cases h53 : sh = 53
  ·rw [if_pos h53] at he0
   subst he0
   subst h53
   generalize kidsN n.kind = kn at *
   obtain ⟨kk, ff, tt, uu, ss, xa, xb⟩ := n
   simp only [treeA, nodeA] at *
   have h2 := HB2.out
   obtain ⟨y0, y1, y2, y3, y4, y5⟩ := cs6 h2 rfl rfl rfl rfl rfl rfl
   clear h2
   go_enter Tryz.func159, Tryz.ntmps159
   go_wp2_with fail
   generalize ((w.alloc (.cells #[.int .i64 kk, .int .i64 ff, .int .i64 tt, .int .u64 uu, .string ss, .slice av k.len cv] TrT)).setCell ⟨sb, 0, none⟩ (.int .i64 (s + 1))) = V at *
   refine (NA.out _).mono ?_
   rintro e w1 ⟨rfl, u1⟩
   have HU1 := Lib.hid u1
   clear u1
   go_wp2_with fail
   refine (SH.out _).mono ?_
   rintro e w2 ⟨rfl, u2⟩
   have hV2 := bmore HU1.out u2
   clear u2
   replace y0 := bcellAt hV2 y0
   replace y5 := bcellAt hV2 y5
   clear y1 y2 y3 y4
   go_wp2_with fail
   go_quiet (with_reducible exact Calls.quiet_of_same (still_of (KI.out _)))
   replace hV2 := bmore hV2 (bdn w2 nq)
   clear y0 y5
   generalize w2.drewN nq = V3 at *
   have HKL := Lib.hid (HK2.out.below hV2)
   have HSL := Lib.hid (HS2.out.below hV2)
   have HGL := Lib.hid (HG2.out.trans (grow_of hV2 (some sb)))
   have HBL := Lib.hid (Hold.below hV2 _ _ HB2.out)
   go_wp2_with fail
   have bN1 := Lib.hid hV2
   clear hV2
   go_loopw [7, 8] (fun ve vi wr => ∃ (i : Nat) (s' ee : Int) (r : Fo), ve = .int .i64 ee ∧ vi = .int .i64 (i : Int) ∧ i + r.len = k.len ∧ 0 ≤ s' ∧ s' ≤ 4096 ∧ (ee = 0 → qq = lk r s' (d + 1)) ∧ (ee ≠ 0 → qq = (s', ee)) ∧ AllF (LookC G) r ∧ OkF r ∧ IsK wr G (.slice av k.len cv) k ∧ (0 < r.len → ∃ b o, av = some ⟨b, o, none⟩ ∧ G b ∧ AtF wr G r b (o + i * 6)) ∧ At1 wr sb s' ∧ w.grownBy wr (some sb) ∧ wr.heap[w.heap.size]? = some (Obj.cells #[.int .i64 kk, .int .i64 ff, .int .i64 tt, .int .u64 uu, .string ss, .slice av k.len cv] TrT)) (fun _ v _ => k.len - (intOf v).toNat)
   case atStart =>
    have hx := HKL.out.shape
    exact ⟨0, s + 1, _, k, rfl, rfl, by omega, by omega, by omega, HQ1.out, HQ2.out, HI.out, HOK.out, HKL.out, fun hp => by obtain ⟨a', c', q0, q1⟩ := hx; cases q0; obtain ⟨b, o, q2, q3, q4⟩ := q1 hp; exact ⟨b, o, q2, q3, by simpa using q4⟩, HSL.out, HGL.out, HBL.out⟩
   case round =>
    obtain ⟨i, s', ee, r, rfl, rfl, hi, hs3, hs4, hq1, hq2, hall, hokr, hkr, hat, hsr, hgr, hbr⟩ := hrel
    have HSR := Lib.hid hsr
    have HGR := Lib.hid hgr
    have HBR := Lib.hid hbr
    have HKR := Lib.hid hkr
    have y5 := cellB (j := 5) hbr rfl
    clear hsr hgr hbr hkr
    by_cases he : ee = 0
    ·subst he
     by_cases hlt : 0 < r.len
     ·obtain ⟨n', k', q, rfl⟩ := fo_pos hlt
      simp only [Fo.len] at hi
      obtain ⟨b, o, rfl, hGb, hat'⟩ := hat hlt
      obtain ⟨c0, c1, c2, c3, c4, v', c5, hk', hat2⟩ := hat'.cons
      obtain ⟨av', cv', rfl, _⟩ := hk'.shape
      obtain ⟨ok1, ok2, ok3, ok4, ok5⟩ := hokr
      have HK := Lib.hid (hall.1 wr (.slice av' k'.len cv') s' (d + 1) sb hk' HNG.out HSR.out ok1 ok2 ok3 ok4 hs3 hs4 (by omega) (by omega))
      have HP1 : Hid ((lkT n' k' s' (d + 1)).2 ≠ 0 → qq = ((lkT n' k' s' (d + 1)).1, (lkT n' k' s' (d + 1)).2)) := Lib.hid (fun h => by rw [hq1 rfl, lk_cons, if_pos h])
      have HP2 : Hid ((lkT n' k' s' (d + 1)).2 = 0 → qq = lk q (lkT n' k' s' (d + 1)).1 (d + 1)) := Lib.hid (fun h => by rw [hq1 rfl, lk_cons, if_neg (by rw [h]; simp)])
      have HP3 : Hid (0 ≤ (lkT n' k' s' (d + 1)).1 ∧ (lkT n' k' s' (d + 1)).1 ≤ 4096) := Lib.hid (lkT_bd n' k' s' (d + 1) hs3 hs4 (by omega))
      have HALL := Lib.hid hall.2
      have HAT := Lib.hid hat2
      have HOKR := Lib.hid ok5
      clear hq1 hq2 hall hat2 hat hat' hk' HI ok1 ok2 ok3 ok4 ok5 HOK
      generalize lkT n' k' s' (d + 1) = qn at *
      obtain ⟨p1, p2⟩ := qn
      obtain ⟨k2, f2, t2, u2, s2, y2, z2⟩ := n'
      simp only [treeA] at *
      have hi1 : (i : Int) < (k.len : Int) := by omega
      go_wp2_with fail
      refine HK.out.mono ?_
      rintro e w1 ⟨rfl, at1, g1⟩
      have HS1 := Lib.hid at1
      have HB1 := Lib.hid ((g1.block _ (Array.getElem?_eq_some_iff.1 HBR.out).1 (fun e => HNE.out (by cases e; rfl))).trans HBR.out)
      have HK1 := Lib.hid (HKR.out.grow g1 HNG.out)
      have HA1 := Lib.hid (HAT.out.grow hGb g1 HNG.out)
      have HG1 := Lib.hid (HGR.out.trans g1)
      obtain ⟨b3, b4⟩ := HP3.out
      clear at1 g1 c0 c1 c2 c3 c4 c5 y5
      go_wp2_with fail
      go_roundw
      case rel => exact ⟨i + 1, p1, p2, q, rfl, by go_num, by omega, b3, b4, HP2.out, HP1.out, HALL.out, HOKR.out, HK1.out, fun _ => ⟨b, o, rfl, hGb, by rw [show o + (i + 1) * 6 = o + i * 6 + 6 by omega]; exact HA1.out⟩, HS1.out, HG1.out, HB1.out⟩
      case measure => simp [intOf]; omega
     ·obtain rfl := fo_nil (show r.len = 0 by omega)
      simp only [Fo.len, Nat.add_zero] at hi
      subst hi
      have HP := Lib.hid (hq1 rfl)
      clear hq1 hq2 hall hat HI hlt
      go_wp2_with fail
      go_returns
      exact ⟨by rw [HP.out]; rfl, by rw [HP.out]; exact HSR.out, HGR.out⟩
    ·have he' : (ee == 0) = false := beq_eq_false_iff_ne.2 he
     have HP := Lib.hid (hq2 he)
     clear hq1 hq2 hall hat HI
     go_wp2_with fail
     go_returns
     exact ⟨by rw [HP.out]; rfl, by rw [HP.out]; exact HSR.out, HGR.out⟩

  ·rw [if_neg h53] at he0
   have h53' : (sh != 53) = true := by rw [bne_iff_ne]; exact h53
   by_cases hkn : k.len ≠ kidsN n.kind
   ·rw [if_pos hkn] at he0
    subst he0
    have hne : (((k.len : Nat) : Int) != ((kidsN n.kind : Nat) : Int)) = true := by simp; omega
    clear h53 hkn
    generalize kidsN n.kind = kn at *
    obtain ⟨kk, ff, tt, uu, ss, xa, xb⟩ := n
    simp only [treeA, nodeA] at *
    have h2 := HB2.out
    obtain ⟨y0, y1, y2, y3, y4, y5⟩ := cs6 h2 rfl rfl rfl rfl rfl rfl
    clear h2
    go_enter Tryz.func159, Tryz.ntmps159
    go_wp2_with fail
    generalize ((w.alloc (.cells #[.int .i64 kk, .int .i64 ff, .int .i64 tt, .int .u64 uu, .string ss, .slice av k.len cv] TrT)).setCell ⟨sb, 0, none⟩ (.int .i64 (s + 1))) = V at *
    refine (NA.out _).mono ?_
    rintro e w1 ⟨rfl, u1⟩
    have HU1 := Lib.hid u1
    clear u1
    go_wp2_with fail
    refine (SH.out _).mono ?_
    rintro e w2 ⟨rfl, u2⟩
    have hV2 := bmore HU1.out u2
    clear u2
    replace y0 := bcellAt hV2 y0
    replace y5 := bcellAt hV2 y5
    clear y1 y2 y3 y4
    go_wp2_with fail
    go_quiet (with_reducible exact Calls.quiet_of_same (still_of (KI.out _)))
    replace hV2 := bmore hV2 (bdn w2 nq)
    clear y0 y5
    generalize w2.drewN nq = V3 at *
    have HKL := Lib.hid (HK2.out.below hV2)
    have HSL := Lib.hid (HS2.out.below hV2)
    have HGL := Lib.hid (HG2.out.trans (grow_of hV2 (some sb)))
    have HBL := Lib.hid (Hold.below hV2 _ _ HB2.out)
    go_wp2_with fail
    have bN1 := Lib.hid hV2
    clear hV2
    go_loopw [7, 8] (fun ve vi wr => ∃ (i : Nat) (s' ee : Int) (r : Fo), ve = .int .i64 ee ∧ vi = .int .i64 (i : Int) ∧ i + r.len = k.len ∧ 0 ≤ s' ∧ s' ≤ 4096 ∧ (ee = 0 → qq = lk r s' (d + 1)) ∧ (ee ≠ 0 → qq = (s', ee)) ∧ AllF (LookC G) r ∧ OkF r ∧ IsK wr G (.slice av k.len cv) k ∧ (0 < r.len → ∃ b o, av = some ⟨b, o, none⟩ ∧ G b ∧ AtF wr G r b (o + i * 6)) ∧ At1 wr sb s' ∧ w.grownBy wr (some sb) ∧ wr.heap[w.heap.size]? = some (Obj.cells #[.int .i64 kk, .int .i64 ff, .int .i64 tt, .int .u64 uu, .string ss, .slice av k.len cv] TrT)) (fun _ v _ => k.len - (intOf v).toNat)
    case atStart =>
     have hx := HKL.out.shape
     exact ⟨0, s + 1, _, k, rfl, rfl, by omega, by omega, by omega, HQ1.out, HQ2.out, HI.out, HOK.out, HKL.out, fun hp => by obtain ⟨a', c', q0, q1⟩ := hx; cases q0; obtain ⟨b, o, q2, q3, q4⟩ := q1 hp; exact ⟨b, o, q2, q3, by simpa using q4⟩, HSL.out, HGL.out, HBL.out⟩
    case round =>
     obtain ⟨i, s', ee, r, rfl, rfl, hi, hs3, hs4, hq1, hq2, hall, hokr, hkr, hat, hsr, hgr, hbr⟩ := hrel
     have HSR := Lib.hid hsr
     have HGR := Lib.hid hgr
     have HBR := Lib.hid hbr
     have HKR := Lib.hid hkr
     have y5 := cellB (j := 5) hbr rfl
     clear hsr hgr hbr hkr
     by_cases he : ee = 0
     ·subst he
      by_cases hlt : 0 < r.len
      ·obtain ⟨n', k', q, rfl⟩ := fo_pos hlt
       simp only [Fo.len] at hi
       obtain ⟨b, o, rfl, hGb, hat'⟩ := hat hlt
       obtain ⟨c0, c1, c2, c3, c4, v', c5, hk', hat2⟩ := hat'.cons
       obtain ⟨av', cv', rfl, _⟩ := hk'.shape
       obtain ⟨ok1, ok2, ok3, ok4, ok5⟩ := hokr
       have HK := Lib.hid (hall.1 wr (.slice av' k'.len cv') s' (d + 1) sb hk' HNG.out HSR.out ok1 ok2 ok3 ok4 hs3 hs4 (by omega) (by omega))
       have HP1 : Hid ((lkT n' k' s' (d + 1)).2 ≠ 0 → qq = ((lkT n' k' s' (d + 1)).1, (lkT n' k' s' (d + 1)).2)) := Lib.hid (fun h => by rw [hq1 rfl, lk_cons, if_pos h])
       have HP2 : Hid ((lkT n' k' s' (d + 1)).2 = 0 → qq = lk q (lkT n' k' s' (d + 1)).1 (d + 1)) := Lib.hid (fun h => by rw [hq1 rfl, lk_cons, if_neg (by rw [h]; simp)])
       have HP3 : Hid (0 ≤ (lkT n' k' s' (d + 1)).1 ∧ (lkT n' k' s' (d + 1)).1 ≤ 4096) := Lib.hid (lkT_bd n' k' s' (d + 1) hs3 hs4 (by omega))
       have HALL := Lib.hid hall.2
       have HAT := Lib.hid hat2
       have HOKR := Lib.hid ok5
       clear hq1 hq2 hall hat2 hat hat' hk' HI ok1 ok2 ok3 ok4 ok5 HOK
       generalize lkT n' k' s' (d + 1) = qn at *
       obtain ⟨p1, p2⟩ := qn
       obtain ⟨k2, f2, t2, u2, s2, y2, z2⟩ := n'
       simp only [treeA] at *
       have hi1 : (i : Int) < (k.len : Int) := by omega
       go_wp2_with fail
       refine HK.out.mono ?_
       rintro e w1 ⟨rfl, at1, g1⟩
       have HS1 := Lib.hid at1
       have HB1 := Lib.hid ((g1.block _ (Array.getElem?_eq_some_iff.1 HBR.out).1 (fun e => HNE.out (by cases e; rfl))).trans HBR.out)
       have HK1 := Lib.hid (HKR.out.grow g1 HNG.out)
       have HA1 := Lib.hid (HAT.out.grow hGb g1 HNG.out)
       have HG1 := Lib.hid (HGR.out.trans g1)
       obtain ⟨b3, b4⟩ := HP3.out
       clear at1 g1 c0 c1 c2 c3 c4 c5 y5
       go_wp2_with fail
       go_roundw
       case rel => exact ⟨i + 1, p1, p2, q, rfl, by go_num, by omega, b3, b4, HP2.out, HP1.out, HALL.out, HOKR.out, HK1.out, fun _ => ⟨b, o, rfl, hGb, by rw [show o + (i + 1) * 6 = o + i * 6 + 6 by omega]; exact HA1.out⟩, HS1.out, HG1.out, HB1.out⟩
       case measure => simp [intOf]; omega
      ·obtain rfl := fo_nil (show r.len = 0 by omega)
       simp only [Fo.len, Nat.add_zero] at hi
       subst hi
       have HP := Lib.hid (hq1 rfl)
       clear hq1 hq2 hall hat HI hlt
       go_wp2_with fail
       go_returns
       exact ⟨by rw [HP.out]; rfl, by rw [HP.out]; exact HSR.out, HGR.out⟩
     ·have he' : (ee == 0) = false := beq_eq_false_iff_ne.2 he
      have HP := Lib.hid (hq2 he)
      clear hq1 hq2 hall hat HI
      go_wp2_with fail
      go_returns
      exact ⟨by rw [HP.out]; rfl, by rw [HP.out]; exact HSR.out, HGR.out⟩

   ·rw [if_neg hkn] at he0
    subst he0
    have hne : (((k.len : Nat) : Int) != ((kidsN n.kind : Nat) : Int)) = false := by simp; omega
    clear h53 hkn
    generalize kidsN n.kind = kn at *
    obtain ⟨kk, ff, tt, uu, ss, xa, xb⟩ := n
    simp only [treeA, nodeA] at *
    have h2 := HB2.out
    obtain ⟨y0, y1, y2, y3, y4, y5⟩ := cs6 h2 rfl rfl rfl rfl rfl rfl
    clear h2
    go_enter Tryz.func159, Tryz.ntmps159
    go_wp2_with fail
    generalize ((w.alloc (.cells #[.int .i64 kk, .int .i64 ff, .int .i64 tt, .int .u64 uu, .string ss, .slice av k.len cv] TrT)).setCell ⟨sb, 0, none⟩ (.int .i64 (s + 1))) = V at *
    refine (NA.out _).mono ?_
    rintro e w1 ⟨rfl, u1⟩
    have HU1 := Lib.hid u1
    clear u1
    go_wp2_with fail
    refine (SH.out _).mono ?_
    rintro e w2 ⟨rfl, u2⟩
    have hV2 := bmore HU1.out u2
    clear u2
    replace y0 := bcellAt hV2 y0
    replace y5 := bcellAt hV2 y5
    clear y1 y2 y3 y4
    go_wp2_with fail
    go_quiet (with_reducible exact Calls.quiet_of_same (still_of (KI.out _)))
    replace hV2 := bmore hV2 (bdn w2 nq)
    clear y0 y5
    generalize w2.drewN nq = V3 at *
    have HKL := Lib.hid (HK2.out.below hV2)
    have HSL := Lib.hid (HS2.out.below hV2)
    have HGL := Lib.hid (HG2.out.trans (grow_of hV2 (some sb)))
    have HBL := Lib.hid (Hold.below hV2 _ _ HB2.out)
    go_wp2_with fail
    have bN1 := Lib.hid hV2
    clear hV2
    go_loopw [7, 8] (fun ve vi wr => ∃ (i : Nat) (s' ee : Int) (r : Fo), ve = .int .i64 ee ∧ vi = .int .i64 (i : Int) ∧ i + r.len = k.len ∧ 0 ≤ s' ∧ s' ≤ 4096 ∧ (ee = 0 → qq = lk r s' (d + 1)) ∧ (ee ≠ 0 → qq = (s', ee)) ∧ AllF (LookC G) r ∧ OkF r ∧ IsK wr G (.slice av k.len cv) k ∧ (0 < r.len → ∃ b o, av = some ⟨b, o, none⟩ ∧ G b ∧ AtF wr G r b (o + i * 6)) ∧ At1 wr sb s' ∧ w.grownBy wr (some sb) ∧ wr.heap[w.heap.size]? = some (Obj.cells #[.int .i64 kk, .int .i64 ff, .int .i64 tt, .int .u64 uu, .string ss, .slice av k.len cv] TrT)) (fun _ v _ => k.len - (intOf v).toNat)
    case atStart =>
     have hx := HKL.out.shape
     exact ⟨0, s + 1, _, k, rfl, rfl, by omega, by omega, by omega, HQ1.out, HQ2.out, HI.out, HOK.out, HKL.out, fun hp => by obtain ⟨a', c', q0, q1⟩ := hx; cases q0; obtain ⟨b, o, q2, q3, q4⟩ := q1 hp; exact ⟨b, o, q2, q3, by simpa using q4⟩, HSL.out, HGL.out, HBL.out⟩
    case round =>
     obtain ⟨i, s', ee, r, rfl, rfl, hi, hs3, hs4, hq1, hq2, hall, hokr, hkr, hat, hsr, hgr, hbr⟩ := hrel
     have HSR := Lib.hid hsr
     have HGR := Lib.hid hgr
     have HBR := Lib.hid hbr
     have HKR := Lib.hid hkr
     have y5 := cellB (j := 5) hbr rfl
     clear hsr hgr hbr hkr
     by_cases he : ee = 0
     ·subst he
      by_cases hlt : 0 < r.len
      ·obtain ⟨n', k', q, rfl⟩ := fo_pos hlt
       simp only [Fo.len] at hi
       obtain ⟨b, o, rfl, hGb, hat'⟩ := hat hlt
       obtain ⟨c0, c1, c2, c3, c4, v', c5, hk', hat2⟩ := hat'.cons
       obtain ⟨av', cv', rfl, _⟩ := hk'.shape
       obtain ⟨ok1, ok2, ok3, ok4, ok5⟩ := hokr
       have HK := Lib.hid (hall.1 wr (.slice av' k'.len cv') s' (d + 1) sb hk' HNG.out HSR.out ok1 ok2 ok3 ok4 hs3 hs4 (by omega) (by omega))
       have HP1 : Hid ((lkT n' k' s' (d + 1)).2 ≠ 0 → qq = ((lkT n' k' s' (d + 1)).1, (lkT n' k' s' (d + 1)).2)) := Lib.hid (fun h => by rw [hq1 rfl, lk_cons, if_pos h])
       have HP2 : Hid ((lkT n' k' s' (d + 1)).2 = 0 → qq = lk q (lkT n' k' s' (d + 1)).1 (d + 1)) := Lib.hid (fun h => by rw [hq1 rfl, lk_cons, if_neg (by rw [h]; simp)])
       have HP3 : Hid (0 ≤ (lkT n' k' s' (d + 1)).1 ∧ (lkT n' k' s' (d + 1)).1 ≤ 4096) := Lib.hid (lkT_bd n' k' s' (d + 1) hs3 hs4 (by omega))
       have HALL := Lib.hid hall.2
       have HAT := Lib.hid hat2
       have HOKR := Lib.hid ok5
       clear hq1 hq2 hall hat2 hat hat' hk' HI ok1 ok2 ok3 ok4 ok5 HOK
       generalize lkT n' k' s' (d + 1) = qn at *
       obtain ⟨p1, p2⟩ := qn
       obtain ⟨k2, f2, t2, u2, s2, y2, z2⟩ := n'
       simp only [treeA] at *
       have hi1 : (i : Int) < (k.len : Int) := by omega
       go_wp2_with fail
       refine HK.out.mono ?_
       rintro e w1 ⟨rfl, at1, g1⟩
       have HS1 := Lib.hid at1
       have HB1 := Lib.hid ((g1.block _ (Array.getElem?_eq_some_iff.1 HBR.out).1 (fun e => HNE.out (by cases e; rfl))).trans HBR.out)
       have HK1 := Lib.hid (HKR.out.grow g1 HNG.out)
       have HA1 := Lib.hid (HAT.out.grow hGb g1 HNG.out)
       have HG1 := Lib.hid (HGR.out.trans g1)
       obtain ⟨b3, b4⟩ := HP3.out
       clear at1 g1 c0 c1 c2 c3 c4 c5 y5
       go_wp2_with fail
       go_roundw
       case rel => exact ⟨i + 1, p1, p2, q, rfl, by go_num, by omega, b3, b4, HP2.out, HP1.out, HALL.out, HOKR.out, HK1.out, fun _ => ⟨b, o, rfl, hGb, by rw [show o + (i + 1) * 6 = o + i * 6 + 6 by omega]; exact HA1.out⟩, HS1.out, HG1.out, HB1.out⟩
       case measure => simp [intOf]; omega
      ·obtain rfl := fo_nil (show r.len = 0 by omega)
       simp only [Fo.len, Nat.add_zero] at hi
       subst hi
       have HP := Lib.hid (hq1 rfl)
       clear hq1 hq2 hall hat HI hlt
       go_wp2_with fail
       go_returns
       exact ⟨by rw [HP.out]; rfl, by rw [HP.out]; exact HSR.out, HGR.out⟩
     ·have he' : (ee == 0) = false := beq_eq_false_iff_ne.2 he
      have HP := Lib.hid (hq2 he)
      clear hq1 hq2 hall hat HI
      go_wp2_with fail
      go_returns
      exact ⟨by rw [HP.out]; rfl, by rw [HP.out]; exact HSR.out, HGR.out⟩
theorem looked_any (n : Nd) (k : Fo) : LookC G n k := tree_all look_step n k
end
end Go.Proofs.YtjmcaceegfdkkaaGreatDoor
