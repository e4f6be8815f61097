/-
  The document's own Tree.
-/
import Derived.Test.YteflbecdeinflaaDoorTPTree
import Derived.Test.YteflbecdeinflaaDoorTROf
namespace Go.Proofs.YteflbecdeinflaaDoor
open Go.RowKit Go.Maps
set_option linter.unusedVariables false

theorem hold_row {w w' : World} {base n size : Nat} {e T : TypeId} {v : Value} {xs : List Value} (ho : w.ownsRow base e size v n xs) (hg : w.grownBy w' v.ownBlock) (hT : T ≠ e) : Hold T w w' := fun b cs hb => by
  rw [hg.block b (Array.getElem?_eq_some_iff.1 hb).1 (fun e' => by
    obtain ⟨_, cur, hc⟩ := own_type ho e'.symm
    rw [hb] at hc
    simp only [Option.some.injEq, Obj.cells.injEq] at hc
    exact hT hc.2.1)]
  exact hb
section
variable {B a : Nat} {vl vs vd : Value} {p : Pl}
def RTreeC (B a : Nat) (vl vs vd : Value) (p : Pl) (t : Int) : Prop := ∀ w : World, IsRef w B a vl vs vd p → Calls Tryd.prog 29 #[.pointer (some ⟨a, 0, none⟩), .int .i64 t] w (TreePost w p t)
set_option maxRecDepth 100000 in
set_option maxHeartbeats 25600000 in
theorem rtree_zero {t : Int} (hin : inP p t = true) (h2 : kidsN (atP p t).1.kind = 0)  : RTreeC B a vl vs vd p t := by
  intro w hp
  obtain ⟨i0, hi0, hz0, hz1, hz2⟩ := info_parts rowTree
  have bA := bZ w (.cells #[.int .i64 0, .int .i64 0, .int .i64 0, .int .u64 0, .string ⟨#[]⟩, .slice none 0 0] TrT)
  have hb : (w.alloc (.cells #[.int .i64 0, .int .i64 0, .int .i64 0, .int .u64 0, .string ⟨#[]⟩, .slice none 0 0] TrT)).heap[w.heap.size]? = some (Obj.cells #[.int .i64 0, .int .i64 0, .int .i64 0, .int .u64 0, .string ⟨#[]⟩, .slice none 0 0] TrT) := heap_alloc_new _ _
  have HNO := Lib.hid (rnode (hp.below bA) t)
  have HIN := Lib.hid hin
  have HM := Lib.hid (atP_nok hp.nok t)
  have HP := Lib.hid (hp.below bA)
  have HB := Lib.hid hb
  have HA := Lib.hid bA
  have HREP : Hid (∀ f : Fo, RepF p [] f → RepF p [t] (.cons (bareN (atP p t).1) f .nil)) := Lib.hid (fun f h => ⟨hin, ⟨_, h, by rw [show (bareN (atP p t).1).kind = (atP p t).1.kind from rfl, h2]; rfl, node_kids hp.ok hin h2⟩, trivial⟩)
  rw [hin] at HNO
  clear hp hin  bA hb
  generalize (atP p t).1 = m at *
  have KI := Lib.hid (show ∀ W : World, Calls Tryd.prog 49 #[.int .i64 m.kind] W (fun e w' => e = .returned (.int .i64 0) ∧ W = w') from fun W => by
    have := rkids m.kind W
    rwa [h2] at this)
  have HOKB : Hid (∀ f : Fo, OkF f → OkF (.cons (bareN m) f .nil)) := Lib.hid (fun f h => ⟨⟨HM.out.kind, HM.out.frm, HM.out.to, HM.out.num, HM.out.text, by unfold i64R; simp [bareN], by unfold i64R; simp [bareN]⟩, rfl, rfl, h, trivial⟩)
  obtain ⟨kk, ff, tt, uu, ss, xa, xb⟩ := m
  simp only [nodeA, bareN] at *
  go_enter Tryd.func29, Tryd.ntmps29
  go_wp2_with fail
  generalize (w.alloc (.cells #[.int .i64 0, .int .i64 0, .int .i64 0, .int .u64 0, .string ⟨#[]⟩, .slice none 0 0] TrT)) = W at *
  refine HNO.out.mono ?_
  rintro e w1 ⟨rfl, u1⟩
  have b1 := bZ w1 (.cells #[.int .i64 kk, .int .i64 ff, .int .i64 tt, .int .u64 uu, .string ss, .int .i64 xa, .int .i64 xb] NodeT)
  have h1 : (w1.alloc (.cells #[.int .i64 kk, .int .i64 ff, .int .i64 tt, .int .u64 uu, .string ss, .int .i64 xa, .int .i64 xb] NodeT)).heap[w1.heap.size]? = some (Obj.cells #[.int .i64 kk, .int .i64 ff, .int .i64 tt, .int .u64 uu, .string ss, .int .i64 xa, .int .i64 xb] NodeT) := heap_alloc_new _ _
  have b2 := bZ (w1.alloc (.cells #[.int .i64 kk, .int .i64 ff, .int .i64 tt, .int .u64 uu, .string ss, .int .i64 xa, .int .i64 xb] NodeT)) (.cells #[.int .i64 kk, .int .i64 ff, .int .i64 tt, .int .u64 uu, .string ss, .slice none 0 0] TrT)
  have b12 := b1.trans (b2.mono b1.size)
  have h2' := Hold.below b2 _ _ h1
  have h3 : ((w1.alloc (.cells #[.int .i64 kk, .int .i64 ff, .int .i64 tt, .int .u64 uu, .string ss, .int .i64 xa, .int .i64 xb] NodeT)).alloc (.cells #[.int .i64 kk, .int .i64 ff, .int .i64 tt, .int .u64 uu, .string ss, .slice none 0 0] TrT)).heap[w1.heap.size + 1]? = some (Obj.cells #[.int .i64 kk, .int .i64 ff, .int .i64 tt, .int .u64 uu, .string ss, .slice none 0 0] TrT) := by
    have e : w1.heap.size + 1 = (w1.alloc (.cells #[.int .i64 kk, .int .i64 ff, .int .i64 tt, .int .u64 uu, .string ss, .int .i64 xa, .int .i64 xb] NodeT)).heap.size := by simp
    rw [e]; exact heap_alloc_new _ _
  have HBR0 := Lib.hid (bmore HA.out (bmore u1 b12))
  have HP0 := Lib.hid (HP.out.below (bmore u1 b12))
  have HN0 := Lib.hid h2'
  have HX0 := Lib.hid h3
  have HR0 := Lib.hid (Hold.below (bmore u1 b12) _ _ HB.out)
  have HNB : Hid (w.heap.size < w1.heap.size) := Lib.hid (Array.getElem?_eq_some_iff.1 (Hold.below u1 _ _ HB.out)).1
  have HSZ0 : Hid (w1.heap.size + 2 ≤ ((w1.alloc (.cells #[.int .i64 kk, .int .i64 ff, .int .i64 tt, .int .u64 uu, .string ss, .int .i64 xa, .int .i64 xb] NodeT)).alloc (.cells #[.int .i64 kk, .int .i64 ff, .int .i64 tt, .int .u64 uu, .string ss, .slice none 0 0] TrT)).heap.size) := Lib.hid (by simp)
  have HOWN0 := Lib.hid (World.ownsRow_nil ((w1.alloc (.cells #[.int .i64 kk, .int .i64 ff, .int .i64 tt, .int .u64 uu, .string ss, .int .i64 xa, .int .i64 xb] NodeT)).alloc (.cells #[.int .i64 kk, .int .i64 ff, .int .i64 tt, .int .u64 uu, .string ss, .slice none 0 0] TrT)) (w1.heap.size + 2) TrT 6)
  have HROW0 : Hid (RowF ((w1.alloc (.cells #[.int .i64 kk, .int .i64 ff, .int .i64 tt, .int .u64 uu, .string ss, .int .i64 xa, .int .i64 xb] NodeT)).alloc (.cells #[.int .i64 kk, .int .i64 ff, .int .i64 tt, .int .u64 uu, .string ss, .slice none 0 0] TrT)) (ButT (w1.heap.size + 2) (Value.slice none 0 0).ownBlock ((w1.alloc (.cells #[.int .i64 kk, .int .i64 ff, .int .i64 tt, .int .u64 uu, .string ss, .int .i64 xa, .int .i64 xb] NodeT)).alloc (.cells #[.int .i64 kk, .int .i64 ff, .int .i64 tt, .int .u64 uu, .string ss, .slice none 0 0] TrT))) [] []) := Lib.hid rfl
  have c0 := cellB (j := 0) h2' rfl
  have c1 := cellB (j := 1) h2' rfl
  have c2 := cellB (j := 2) h2' rfl
  have c3 := cellB (j := 3) h2' rfl
  have c4 := cellB (j := 4) h2' rfl
  have c5 := cellB (j := 5) h2' rfl
  have c6 := cellB (j := 6) h2' rfl
  clear u1 b1 h1 b2 b12 h2' h3
  go_wp2_with fail
  generalize ((w1.alloc (.cells #[.int .i64 kk, .int .i64 ff, .int .i64 tt, .int .u64 uu, .string ss, .int .i64 xa, .int .i64 xb] NodeT)).alloc (.cells #[.int .i64 kk, .int .i64 ff, .int .i64 tt, .int .u64 uu, .string ss, .slice none 0 0] TrT)) = wr0 at *
  generalize w1.heap.size = nb at *
  clear HA HB HP HNO
  refine (KI.out _).mono ?_
  rintro e w2 ⟨rfl, rfl⟩
  go_wp2_with fail
  refine (KI.out _).mono ?_
  rintro e w2 ⟨rfl, rfl⟩
  clear c0 c1 c2 c3 c4 c5 c6
  have hb := HR0.out
  have hx := HX0.out
  have r0 := cellB (j := 0) hb rfl
  have s0 := frozenB (j := 0) hb
  have r1 := cellB (j := 1) hb rfl
  have s1 := frozenB (j := 1) hb
  have r2 := cellB (j := 2) hb rfl
  have s2 := frozenB (j := 2) hb
  have r3 := cellB (j := 3) hb rfl
  have s3 := frozenB (j := 3) hb
  have r4 := cellB (j := 4) hb rfl
  have s4 := frozenB (j := 4) hb
  have r5 := cellB (j := 5) hb rfl
  have s5 := frozenB (j := 5) hb
  have z0 := cellB (j := 0) hx rfl
  have z1 := cellB (j := 1) hx rfl
  have z2 := cellB (j := 2) hx rfl
  have z3 := cellB (j := 3) hx rfl
  have z4 := cellB (j := 4) hx rfl
  have z5 := cellB (j := 5) hx rfl
  have h6 : ((((((wr0.setCell ⟨w.heap.size, 0, none⟩ (.int .i64 kk)).setCell ⟨w.heap.size, 1, none⟩ (.int .i64 ff)).setCell ⟨w.heap.size, 2, none⟩ (.int .i64 tt)).setCell ⟨w.heap.size, 3, none⟩ (.int .u64 uu)).setCell ⟨w.heap.size, 4, none⟩ (.string ss)).setCell ⟨w.heap.size, 5, none⟩ (.slice none 0 0)).heap[w.heap.size]? = some (Obj.cells #[.int .i64 kk, .int .i64 ff, .int .i64 tt, .int .u64 uu, .string ss, .slice none 0 0] TrT) := (setCellB (j := 5) (u := .slice none 0 0) (setCellB (j := 4) (u := .string ss) (setCellB (j := 3) (u := .int .u64 uu) (setCellB (j := 2) (u := .int .i64 tt) (setCellB (j := 1) (u := .int .i64 ff) (setCellB (j := 0) (u := .int .i64 kk) hb))))))
  have hg6 : wr0.grownBy ((((((wr0.setCell ⟨w.heap.size, 0, none⟩ (.int .i64 kk)).setCell ⟨w.heap.size, 1, none⟩ (.int .i64 ff)).setCell ⟨w.heap.size, 2, none⟩ (.int .i64 tt)).setCell ⟨w.heap.size, 3, none⟩ (.int .u64 uu)).setCell ⟨w.heap.size, 4, none⟩ (.string ss)).setCell ⟨w.heap.size, 5, none⟩ (.slice none 0 0)) (some w.heap.size) := ((((((grownBy_set _ _ _ _).trans (grownBy_set _ _ _ _)).trans (grownBy_set _ _ _ _)).trans (grownBy_set _ _ _ _)).trans (grownBy_set _ _ _ _)).trans (grownBy_set _ _ _ _))
  have HG6 := Lib.hid hg6
  have H6 := Lib.hid h6
  clear hb hx h6 hg6
  go_wp2_with fail
  have h6 := H6.out
  generalize ((((((wr0.setCell ⟨w.heap.size, 0, none⟩ (.int .i64 kk)).setCell ⟨w.heap.size, 1, none⟩ (.int .i64 ff)).setCell ⟨w.heap.size, 2, none⟩ (.int .i64 tt)).setCell ⟨w.heap.size, 3, none⟩ (.int .u64 uu)).setCell ⟨w.heap.size, 4, none⟩ (.string ss)).setCell ⟨w.heap.size, 5, none⟩ (.slice none 0 0)) = w6 at *
  clear r0 r1 r2 r3 r4 r5 s0 s1 s2 s3 s4 s5 z0 z1 z2 z3 z4 z5
  have d0 := cellB (j := 0) h6 rfl
  have d1 := cellB (j := 1) h6 rfl
  have d2 := cellB (j := 2) h6 rfl
  have d3 := cellB (j := 3) h6 rfl
  have d4 := cellB (j := 4) h6 rfl
  have d5 := cellB (j := 5) h6 rfl
  refine bodyPost_ret (v := .agg #[.int .i64 kk, .int .i64 ff, .int .i64 tt, .int .u64 uu, .string ss, .slice none 0 0]) (by simp [results, Tryd.results29, go_sem, d0, d1, d2, d3, d4, d5]) rfl ?_
  have hnb := HNB.out
  have hb6 : Below w.heap.size w w6 := HBR0.out.grown HG6.out HBR0.out.size (fun g e => by cases e; omega)
  have hown6 := own_kept HOWN0.out HG6.out (fun r e e' => by cases e; have := (own_type HOWN0.out e').1; omega)
  have hrow6 : RowF w6 (NewT w w6) [] [] := HROW0.out.keep (fun bb hg hl => by
    obtain ⟨p1, p2, cs, p3⟩ := hg
    have p4 : w6.heap[bb]? = some (Obj.cells cs TrT) := by rw [HG6.out.block bb (Array.getElem?_eq_some_iff.1 p3).1 (fun e => by cases e; omega)]; exact p3
    exact ⟨⟨by omega, cs, p4⟩, by rw [p4, p3]⟩)
  have hfin := isK_row (G := NewT w w6) (zs := []) (by rw [List.append_nil]; exact hown6) rfl (Nat.le_refl _) hrow6 (fun b e => by
    obtain ⟨p1, cs, p2⟩ := own_type hown6 e
    exact ⟨by omega, cs, p2⟩)
  refine ⟨⟨kk, ff, tt, uu, ss, 0, 0⟩, .nil, _, rfl, hfin, HOKB.out _ ?_, hb6, fun _ => HREP.out _ ?_, fun h => by rw [HIN.out] at h; cases h⟩
  · exact trivial
  · exact trivial
set_option maxRecDepth 100000 in
set_option maxHeartbeats 25600000 in
theorem rtree_one {t : Int} (hin : inP p t = true) (h2 : kidsN (atP p t).1.kind = 1) (ih0 : RTreeC B a vl vs vd p (atP p t).1.a) (hin0 : inP p (atP p t).1.a = true) : RTreeC B a vl vs vd p t := by
  intro w hp
  obtain ⟨i0, hi0, hz0, hz1, hz2⟩ := info_parts rowTree
  have bA := bZ w (.cells #[.int .i64 0, .int .i64 0, .int .i64 0, .int .u64 0, .string ⟨#[]⟩, .slice none 0 0] TrT)
  have hb : (w.alloc (.cells #[.int .i64 0, .int .i64 0, .int .i64 0, .int .u64 0, .string ⟨#[]⟩, .slice none 0 0] TrT)).heap[w.heap.size]? = some (Obj.cells #[.int .i64 0, .int .i64 0, .int .i64 0, .int .u64 0, .string ⟨#[]⟩, .slice none 0 0] TrT) := heap_alloc_new _ _
  have HNO := Lib.hid (rnode (hp.below bA) t)
  have HIN := Lib.hid hin
  have HI0 := Lib.hid ih0
  have HIN0 := Lib.hid hin0
  have HM := Lib.hid (atP_nok hp.nok t)
  have HP := Lib.hid (hp.below bA)
  have HB := Lib.hid hb
  have HA := Lib.hid bA
  have HREP : Hid (∀ f : Fo, RepF p [(atP p t).1.a] f → RepF p [t] (.cons (bareN (atP p t).1) f .nil)) := Lib.hid (fun f h => ⟨hin, ⟨_, h, by rw [show (bareN (atP p t).1).kind = (atP p t).1.kind from rfl, h2]; rfl, node_kids hp.ok hin h2⟩, trivial⟩)
  rw [hin] at HNO
  clear hp hin ih0 hin0 bA hb
  generalize (atP p t).1 = m at *
  have KI := Lib.hid (show ∀ W : World, Calls Tryd.prog 49 #[.int .i64 m.kind] W (fun e w' => e = .returned (.int .i64 1) ∧ W = w') from fun W => by
    have := rkids m.kind W
    rwa [h2] at this)
  have HOKB : Hid (∀ f : Fo, OkF f → OkF (.cons (bareN m) f .nil)) := Lib.hid (fun f h => ⟨⟨HM.out.kind, HM.out.frm, HM.out.to, HM.out.num, HM.out.text, by unfold i64R; simp [bareN], by unfold i64R; simp [bareN]⟩, rfl, rfl, h, trivial⟩)
  obtain ⟨kk, ff, tt, uu, ss, xa, xb⟩ := m
  simp only [nodeA, bareN] at *
  go_enter Tryd.func29, Tryd.ntmps29
  go_wp2_with fail
  generalize (w.alloc (.cells #[.int .i64 0, .int .i64 0, .int .i64 0, .int .u64 0, .string ⟨#[]⟩, .slice none 0 0] TrT)) = W at *
  refine HNO.out.mono ?_
  rintro e w1 ⟨rfl, u1⟩
  have b1 := bZ w1 (.cells #[.int .i64 kk, .int .i64 ff, .int .i64 tt, .int .u64 uu, .string ss, .int .i64 xa, .int .i64 xb] NodeT)
  have h1 : (w1.alloc (.cells #[.int .i64 kk, .int .i64 ff, .int .i64 tt, .int .u64 uu, .string ss, .int .i64 xa, .int .i64 xb] NodeT)).heap[w1.heap.size]? = some (Obj.cells #[.int .i64 kk, .int .i64 ff, .int .i64 tt, .int .u64 uu, .string ss, .int .i64 xa, .int .i64 xb] NodeT) := heap_alloc_new _ _
  have b2 := bZ (w1.alloc (.cells #[.int .i64 kk, .int .i64 ff, .int .i64 tt, .int .u64 uu, .string ss, .int .i64 xa, .int .i64 xb] NodeT)) (.cells #[.int .i64 kk, .int .i64 ff, .int .i64 tt, .int .u64 uu, .string ss, .slice none 0 0] TrT)
  have b12 := b1.trans (b2.mono b1.size)
  have h2' := Hold.below b2 _ _ h1
  have h3 : ((w1.alloc (.cells #[.int .i64 kk, .int .i64 ff, .int .i64 tt, .int .u64 uu, .string ss, .int .i64 xa, .int .i64 xb] NodeT)).alloc (.cells #[.int .i64 kk, .int .i64 ff, .int .i64 tt, .int .u64 uu, .string ss, .slice none 0 0] TrT)).heap[w1.heap.size + 1]? = some (Obj.cells #[.int .i64 kk, .int .i64 ff, .int .i64 tt, .int .u64 uu, .string ss, .slice none 0 0] TrT) := by
    have e : w1.heap.size + 1 = (w1.alloc (.cells #[.int .i64 kk, .int .i64 ff, .int .i64 tt, .int .u64 uu, .string ss, .int .i64 xa, .int .i64 xb] NodeT)).heap.size := by simp
    rw [e]; exact heap_alloc_new _ _
  have HBR0 := Lib.hid (bmore HA.out (bmore u1 b12))
  have HP0 := Lib.hid (HP.out.below (bmore u1 b12))
  have HN0 := Lib.hid h2'
  have HX0 := Lib.hid h3
  have HR0 := Lib.hid (Hold.below (bmore u1 b12) _ _ HB.out)
  have HNB : Hid (w.heap.size < w1.heap.size) := Lib.hid (Array.getElem?_eq_some_iff.1 (Hold.below u1 _ _ HB.out)).1
  have HSZ0 : Hid (w1.heap.size + 2 ≤ ((w1.alloc (.cells #[.int .i64 kk, .int .i64 ff, .int .i64 tt, .int .u64 uu, .string ss, .int .i64 xa, .int .i64 xb] NodeT)).alloc (.cells #[.int .i64 kk, .int .i64 ff, .int .i64 tt, .int .u64 uu, .string ss, .slice none 0 0] TrT)).heap.size) := Lib.hid (by simp)
  have HOWN0 := Lib.hid (World.ownsRow_nil ((w1.alloc (.cells #[.int .i64 kk, .int .i64 ff, .int .i64 tt, .int .u64 uu, .string ss, .int .i64 xa, .int .i64 xb] NodeT)).alloc (.cells #[.int .i64 kk, .int .i64 ff, .int .i64 tt, .int .u64 uu, .string ss, .slice none 0 0] TrT)) (w1.heap.size + 2) TrT 6)
  have HROW0 : Hid (RowF ((w1.alloc (.cells #[.int .i64 kk, .int .i64 ff, .int .i64 tt, .int .u64 uu, .string ss, .int .i64 xa, .int .i64 xb] NodeT)).alloc (.cells #[.int .i64 kk, .int .i64 ff, .int .i64 tt, .int .u64 uu, .string ss, .slice none 0 0] TrT)) (ButT (w1.heap.size + 2) (Value.slice none 0 0).ownBlock ((w1.alloc (.cells #[.int .i64 kk, .int .i64 ff, .int .i64 tt, .int .u64 uu, .string ss, .int .i64 xa, .int .i64 xb] NodeT)).alloc (.cells #[.int .i64 kk, .int .i64 ff, .int .i64 tt, .int .u64 uu, .string ss, .slice none 0 0] TrT))) [] []) := Lib.hid rfl
  have c0 := cellB (j := 0) h2' rfl
  have c1 := cellB (j := 1) h2' rfl
  have c2 := cellB (j := 2) h2' rfl
  have c3 := cellB (j := 3) h2' rfl
  have c4 := cellB (j := 4) h2' rfl
  have c5 := cellB (j := 5) h2' rfl
  have c6 := cellB (j := 6) h2' rfl
  clear u1 b1 h1 b2 b12 h2' h3
  go_wp2_with fail
  generalize ((w1.alloc (.cells #[.int .i64 kk, .int .i64 ff, .int .i64 tt, .int .u64 uu, .string ss, .int .i64 xa, .int .i64 xb] NodeT)).alloc (.cells #[.int .i64 kk, .int .i64 ff, .int .i64 tt, .int .u64 uu, .string ss, .slice none 0 0] TrT)) = wr0 at *
  generalize w1.heap.size = nb at *
  clear HA HB HP HNO
  refine (KI.out _).mono ?_
  rintro e w2 ⟨rfl, rfl⟩
  clear c0 c1 c2 c3 c4 c5 c6
  go_wp2_with fail
  have x5 := cellB (j := 5) HX0.out rfl
  have a5 := cellB (j := 5) HN0.out rfl
  have HKID := Lib.hid (HI0.out wr0.drew (HP0.out.below (bd _)))
  have hF0 : wr0.drew.cell? ⟨nb + 1, 5, none⟩ = some (.slice none 0 0) ∧ wr0.drew.cell? ⟨nb, 5, none⟩ = some (.int .i64 xa) := ⟨bcellAt (bd _) x5, bcellAt (bd _) a5⟩
  refine lexg_start [0, 1, 2, 3, 4, 5, 6, 7, 8, 9] 9 (F := fun W => W.cell? ⟨nb + 1, 5, none⟩ = some (.slice none 0 0) ∧ W.cell? ⟨nb, 5, none⟩ = some (.int .i64 xa)) (by kernel_rfl) ?_
  simp only [inOrder, List.filterMap, List.getElem?_cons_succ, List.getElem?_cons_zero]
  refine lexg_take (i := 0) (v := ?_) rfl (by decide) (by kernel_rfl) (by kernel_rfl) (by kernel_rfl) (by kernel_rfl) (by rfl) hF0 ?_ ?_
  rotate_left
  · ((intro W hW; obtain ⟨q0, q1⟩ := hW; go_simp) <;> with_reducible rfl)
  simp only [Act.put, List.setIfInBounds_toArray, List.set_cons_zero, List.set_cons_succ]
  refine lexg_take (i := 1) (v := ?_) rfl (by decide) (by kernel_rfl) (by kernel_rfl) (by kernel_rfl) (by kernel_rfl) (by rfl) hF0 ?_ ?_
  rotate_left
  · ((intro W hW; obtain ⟨q0, q1⟩ := hW; go_simp) <;> with_reducible rfl)
  simp only [Act.put, List.setIfInBounds_toArray, List.set_cons_zero, List.set_cons_succ]
  refine lexg_take (i := 2) (v := ?_) rfl (by decide) (by kernel_rfl) (by kernel_rfl) (by kernel_rfl) (by kernel_rfl) (by rfl) hF0 ?_ ?_
  rotate_left
  · ((intro W hW; obtain ⟨q0, q1⟩ := hW; go_simp) <;> with_reducible rfl)
  simp only [Act.put, List.setIfInBounds_toArray, List.set_cons_zero, List.set_cons_succ]
  refine lexg_take (i := 3) (v := ?_) rfl (by decide) (by kernel_rfl) (by kernel_rfl) (by kernel_rfl) (by kernel_rfl) (by rfl) hF0 ?_ ?_
  rotate_left
  · ((intro W hW; obtain ⟨q0, q1⟩ := hW; go_simp) <;> with_reducible rfl)
  simp only [Act.put, List.setIfInBounds_toArray, List.set_cons_zero, List.set_cons_succ]
  refine lexg_take (i := 4) (v := ?_) rfl (by decide) (by kernel_rfl) (by kernel_rfl) (by kernel_rfl) (by kernel_rfl) (by rfl) hF0 ?_ ?_
  rotate_left
  · ((intro W hW; obtain ⟨q0, q1⟩ := hW; go_simp) <;> with_reducible rfl)
  simp only [Act.put, List.setIfInBounds_toArray, List.set_cons_zero, List.set_cons_succ]
  refine lexg_call (i := 5) rfl (by kernel_rfl) (by rfl) ?_ _ HKID.out ?_
  · go_simp
  rintro e w3 ⟨n0, k0, v0, rfl, hk0, ho0, u3, hr0, _⟩
  obtain ⟨va0, vc0, rfl, _⟩ := hk0.shape
  have bA := bmore (bd wr0) u3
  refine ⟨_, rfl, fun _ => ⟨bcellAt bA x5, bcellAt bA a5⟩, ?_⟩
  simp only [treeA, Act.put, List.setIfInBounds_toArray, List.set_cons_zero, List.set_cons_succ]
  refine lexg_do (i := 6) rfl (by kernel_rfl) (by rfl) (fun K hK => ?_)
  go_simp
  have bC := bZ w3 (.cells #[.int .i64 (n0).kind, .int .i64 (n0).frm, .int .i64 (n0).to, .int .u64 (n0).num, .string (n0).text, .slice va0 (k0).len vc0] 50)
  have bAC := bmore bA bC
  have hownC := own_hold HOWN0.out (Hold.below bAC)
  have HBAC := Lib.hid bAC
  have HBC := Lib.hid bC
  refine hK _ _ ⟨fun _ => ⟨bcellAt bAC x5, bcellAt bAC a5⟩, ?_⟩
  clear hK K
  refine lexg_do (i := 7) rfl (by kernel_rfl) (by rfl) (fun K hK => ?_)
  refine wp_append_at _ _ _ 47 rfl (nb + 2) TrT i0 (.agg #[.int .i64 0, .int .i64 0, .int .i64 0, .int .u64 0, .string ⟨#[]⟩, .slice none 0 0]) 6 72 Tryd.underlying47 hi0 hz0 hz1 hz2 rfl (by decide) (.slice none 0 0) 0 [] rfl hownC ⟨w3.heap.size, 0, none⟩ 1 1 [.int .i64 (n0).kind, .int .i64 (n0).frm, .int .i64 (n0).to, .int .u64 (n0).num, .string (n0).text, .slice va0 (k0).len vc0] rfl (by decide) rfl (news6 w3 _ _ _ _ _ _ _) (by simp [Value.oneCell']) (by unfold maxLen; omega) (by omega) (by have := HSZ0.out; have := bAC.size; omega) ?_
  intro v5 w5 hown5 hg5 hp5
  obtain ⟨za1, zc1, rfl⟩ := (row_of_own hown5).shape
  have hyo : ∀ g, (Value.slice none 0 0).ownBlock = some g → nb + 2 ≤ g ∧ g < wr0.heap.size := fun g e => by
    obtain ⟨hB, cur, hc⟩ := own_type HOWN0.out e
    exact ⟨hB, (Array.getElem?_eq_some_iff.1 hc).1⟩
  have hkb : ∀ (b : Nat) (u : Obj), wr0.heap[b]? = some u → (Value.slice none 0 0).ownBlock ≠ some b → w5.heap[b]? = some u := fun b u h hn => by
    have hl := (Array.getElem?_eq_some_iff.1 h).1
    rw [hg5.block b (Nat.lt_of_lt_of_le hl HBAC.out.size) (fun e => hn e.symm), HBAC.out.block b hl]; exact h
  have hkb1 : ∀ (b : Nat) (u : Obj), w3.heap[b]? = some u → wr0.heap.size ≤ b → w5.heap[b]? = some u := fun b u h hn => by
    have hl := (Array.getElem?_eq_some_iff.1 h).1
    rw [hg5.block b (Nat.lt_of_lt_of_le hl HBC.out.size) (fun e => by have := (hyo b e.symm).2; omega), HBC.out.block b hl]; exact h
  have hx5 := hkb _ _ HX0.out (fun e => by have := (hyo _ e).1; omega)
  have hn5 := hkb _ _ HN0.out (fun e => by have := (hyo _ e).1; omega)
  have hres5 := hkb _ _ HR0.out (fun e => by have := (hyo _ e).1; have := HNB.out; omega)
  have hF5 : w5.cell? ⟨nb + 1, 5, none⟩ = some (.slice none 0 0) ∧ w5.cell? ⟨nb, 5, none⟩ = some (.int .i64 xa) := ⟨cellB hx5 rfl, cellB hn5 rfl⟩
  have hhold : ∀ T : TypeId, T ≠ TrT → Hold T wr0 w5 := fun T hT => (Hold.below HBAC.out).trans (hold_row (own_hold HOWN0.out (Hold.below HBAC.out)) hg5 hT)
  have HP5 := Lib.hid (HP0.out.hold (hhold _ (by decide)) (hhold _ (by decide)) (hhold _ (by decide)))
  have HKB := Lib.hid hkb
  have HKB1 := Lib.hid hkb1
  have HYO := Lib.hid hyo
  have HG5 := Lib.hid hg5
  have HPW := Lib.hid hp5
  have HOWN5 := Lib.hid hown5
  clear hkb hkb1 hyo hg5 hp5 hown5 hownC bA bC bAC u3 hhold
  refine hK _ _ ⟨fun _ => hF5, ?_⟩
  clear hK K
  try simp only [Act.put, List.setIfInBounds_toArray, List.set_cons_zero, List.set_cons_succ]
  refine lexg_take (i := 8) (v := ?_) rfl (by decide) (by kernel_rfl) (by kernel_rfl) (by kernel_rfl) (by kernel_rfl) (by rfl) hF5 ?_ ?_
  rotate_left
  · ((intro W hW; obtain ⟨q0, q1⟩ := hW; go_simp) <;> with_reducible rfl)
  simp only [Act.put, List.setIfInBounds_toArray, List.set_cons_zero, List.set_cons_succ]
  have x5' := cellB (j := 5) hx5 rfl
  have f5 := frozenB (j := 5) hx5
  refine lexg_do (i := 9) rfl (by kernel_rfl) (by rfl) (fun K hK => ?_)
  go_simp
  have hx6 := setCellB (j := 5) (u := .slice za1 1 zc1) hx5
  have HX1 := Lib.hid hx6
  have HGS := Lib.hid (grownBy_set w5 (nb + 1) 5 (.slice za1 1 zc1))
  have HP1 := Lib.hid (HP5.out.hold (Hold.setCell (o := 5) (v := .slice za1 1 zc1) hx5 (by decide)) (Hold.setCell (o := 5) (v := .slice za1 1 zc1) hx5 (by decide)) (Hold.setCell (o := 5) (v := .slice za1 1 zc1) hx5 (by decide)))
  have HN5 := Lib.hid hn5
  have HR5 := Lib.hid hres5
  refine hK _ _ ⟨fun h => absurd rfl h, ?_⟩
  clear hK K x5' f5 hF5 hF0 hx5 hx6 hn5 hres5 x5 a5
  refine lexg_done (by kernel_rfl) ?_
  generalize (w5.setCell ⟨nb + 1, 5, none⟩ (.slice za1 1 zc1)) = wr1 at *
  have hyo3 : ∀ g, (Value.slice za1 1 zc1).ownBlock = some g → nb + 2 ≤ g := fun g e => (own_type HOWN5.out e).1
  have h34 : ∀ (b : Nat) (u : Obj), w5.heap[b]? = some u → b ≠ nb + 1 → wr1.heap[b]? = some u := fun b u h hn => by
    rw [HGS.out.block b (Array.getElem?_eq_some_iff.1 h).1 (fun e => hn (by cases e; rfl))]; exact h
  have HN1 := Lib.hid (h34 _ _ HN5.out (by omega))
  have HR1 := Lib.hid (h34 _ _ HR5.out (by have := HNB.out; omega))
  have HBR1 : Hid (Below w.heap.size w wr1) := Lib.hid (((HBR0.out.trans (HBAC.out.mono HBR0.out.size)).grown HG5.out (by have := HBAC.out.size; have := HBR0.out.size; omega) (fun g e => by have := (HYO.out g e).1; have := HNB.out; omega)).grown HGS.out (by have := HG5.out.size; have := HBAC.out.size; have := HBR0.out.size; omega) (fun g e => by cases e; have := HNB.out; omega))
  have HSZ1 : Hid (nb + 2 ≤ wr1.heap.size) := Lib.hid (by have := HG5.out.size; have := HBAC.out.size; have := HGS.out.size; have := HSZ0.out; omega)
  have HOWN1 := Lib.hid (own_kept HOWN5.out HGS.out (fun r e e' => by cases e; have := hyo3 _ e'; omega))
  have hrow4 : RowF wr1 (ButT (nb + 2) (Value.slice za1 1 zc1).ownBlock wr1) [] [] := HROW0.out.keep (fun bb hg hl => by
    obtain ⟨q1, q2, cs, q3⟩ := hg
    have q4 := h34 _ _ (HKB.out _ _ q3 q2) (by omega)
    refine ⟨⟨q1, fun e => ?_, cs, q4⟩, by rw [q4, q3]⟩
    rcases HPW.out with h | h
    · exact q2 (h.symm.trans e)
    · rw [h] at e; cases e; have := HBAC.out.size; omega)
  have hkid4 : IsK wr1 (ButT (nb + 2) (Value.slice za1 1 zc1).ownBlock wr1) (.slice va0 (k0).len vc0) k0 := hk0.keep (fun bb hg hl => by
    obtain ⟨q1, cs, q3⟩ := hg
    have q1' : wr0.heap.size ≤ bb := q1
    have q4 := h34 _ _ (HKB1.out _ _ q3 q1') (by have := HSZ0.out; omega)
    refine ⟨⟨by have := HSZ0.out; omega, fun e => ?_, cs, q4⟩, by rw [q4, q3]⟩
    rcases HPW.out with h | h
    · have := (HYO.out bb (h.symm.trans e)).2; omega
    · rw [h] at e; cases e; have := HBC.out.size; omega)
  have HROW1 := Lib.hid (RowF.snoc (n := n0) hkid4 hrow4)
  have HO0 := Lib.hid ho0
  have HRP0 := Lib.hid (hr0 HIN0.out)
  clear hyo3 h34 hrow4 hkid4 hk0 ho0 hr0 HKB HKB1 HYO HG5 HPW HOWN5 HGS HBAC HBC HKID HP5 HN5 HR5 HX0 HN0 HR0 HBR0 HSZ0 HOWN0 HROW0 HP0
  have hn := HN1.out
  have c0 := cellB (j := 0) hn rfl
  have c1 := cellB (j := 1) hn rfl
  have c2 := cellB (j := 2) hn rfl
  have c3 := cellB (j := 3) hn rfl
  have c4 := cellB (j := 4) hn rfl
  have c5 := cellB (j := 5) hn rfl
  have c6 := cellB (j := 6) hn rfl
  clear hn
  go_wp2_with fail
  refine (KI.out _).mono ?_
  rintro e w2 ⟨rfl, rfl⟩
  clear c0 c1 c2 c3 c4 c5 c6
  have hb := HR1.out
  have hx := HX1.out
  have r0 := cellB (j := 0) hb rfl
  have s0 := frozenB (j := 0) hb
  have r1 := cellB (j := 1) hb rfl
  have s1 := frozenB (j := 1) hb
  have r2 := cellB (j := 2) hb rfl
  have s2 := frozenB (j := 2) hb
  have r3 := cellB (j := 3) hb rfl
  have s3 := frozenB (j := 3) hb
  have r4 := cellB (j := 4) hb rfl
  have s4 := frozenB (j := 4) hb
  have r5 := cellB (j := 5) hb rfl
  have s5 := frozenB (j := 5) hb
  have z0 := cellB (j := 0) hx rfl
  have z1 := cellB (j := 1) hx rfl
  have z2 := cellB (j := 2) hx rfl
  have z3 := cellB (j := 3) hx rfl
  have z4 := cellB (j := 4) hx rfl
  have z5 := cellB (j := 5) hx rfl
  have h6 : ((((((wr1.setCell ⟨w.heap.size, 0, none⟩ (.int .i64 kk)).setCell ⟨w.heap.size, 1, none⟩ (.int .i64 ff)).setCell ⟨w.heap.size, 2, none⟩ (.int .i64 tt)).setCell ⟨w.heap.size, 3, none⟩ (.int .u64 uu)).setCell ⟨w.heap.size, 4, none⟩ (.string ss)).setCell ⟨w.heap.size, 5, none⟩ (.slice za1 1 zc1)).heap[w.heap.size]? = some (Obj.cells #[.int .i64 kk, .int .i64 ff, .int .i64 tt, .int .u64 uu, .string ss, .slice za1 1 zc1] TrT) := (setCellB (j := 5) (u := .slice za1 1 zc1) (setCellB (j := 4) (u := .string ss) (setCellB (j := 3) (u := .int .u64 uu) (setCellB (j := 2) (u := .int .i64 tt) (setCellB (j := 1) (u := .int .i64 ff) (setCellB (j := 0) (u := .int .i64 kk) hb))))))
  have hg6 : wr1.grownBy ((((((wr1.setCell ⟨w.heap.size, 0, none⟩ (.int .i64 kk)).setCell ⟨w.heap.size, 1, none⟩ (.int .i64 ff)).setCell ⟨w.heap.size, 2, none⟩ (.int .i64 tt)).setCell ⟨w.heap.size, 3, none⟩ (.int .u64 uu)).setCell ⟨w.heap.size, 4, none⟩ (.string ss)).setCell ⟨w.heap.size, 5, none⟩ (.slice za1 1 zc1)) (some w.heap.size) := ((((((grownBy_set _ _ _ _).trans (grownBy_set _ _ _ _)).trans (grownBy_set _ _ _ _)).trans (grownBy_set _ _ _ _)).trans (grownBy_set _ _ _ _)).trans (grownBy_set _ _ _ _))
  have HG6 := Lib.hid hg6
  have H6 := Lib.hid h6
  clear hb hx h6 hg6
  go_wp2_with fail
  have h6 := H6.out
  generalize ((((((wr1.setCell ⟨w.heap.size, 0, none⟩ (.int .i64 kk)).setCell ⟨w.heap.size, 1, none⟩ (.int .i64 ff)).setCell ⟨w.heap.size, 2, none⟩ (.int .i64 tt)).setCell ⟨w.heap.size, 3, none⟩ (.int .u64 uu)).setCell ⟨w.heap.size, 4, none⟩ (.string ss)).setCell ⟨w.heap.size, 5, none⟩ (.slice za1 1 zc1)) = w6 at *
  clear r0 r1 r2 r3 r4 r5 s0 s1 s2 s3 s4 s5 z0 z1 z2 z3 z4 z5
  have d0 := cellB (j := 0) h6 rfl
  have d1 := cellB (j := 1) h6 rfl
  have d2 := cellB (j := 2) h6 rfl
  have d3 := cellB (j := 3) h6 rfl
  have d4 := cellB (j := 4) h6 rfl
  have d5 := cellB (j := 5) h6 rfl
  refine bodyPost_ret (v := .agg #[.int .i64 kk, .int .i64 ff, .int .i64 tt, .int .u64 uu, .string ss, .slice za1 1 zc1]) (by simp [results, Tryd.results29, go_sem, d0, d1, d2, d3, d4, d5]) rfl ?_
  have hnb := HNB.out
  have hb6 : Below w.heap.size w w6 := HBR1.out.grown HG6.out HBR1.out.size (fun g e => by cases e; omega)
  have hown6 := own_kept HOWN1.out HG6.out (fun r e e' => by cases e; have := (own_type HOWN1.out e').1; omega)
  have hrow6 : RowF w6 (NewT w w6) [(n0, k0)] ([] ++ [.int .i64 (n0).kind, .int .i64 (n0).frm, .int .i64 (n0).to, .int .u64 (n0).num, .string (n0).text, .slice va0 (k0).len vc0]) := HROW1.out.keep (fun bb hg hl => by
    obtain ⟨p1, p2, cs, p3⟩ := hg
    have p4 : w6.heap[bb]? = some (Obj.cells cs TrT) := by rw [HG6.out.block bb (Array.getElem?_eq_some_iff.1 p3).1 (fun e => by cases e; omega)]; exact p3
    exact ⟨⟨by omega, cs, p4⟩, by rw [p4, p3]⟩)
  have hfin := isK_row (G := NewT w w6) (zs := []) (by rw [List.append_nil]; exact hown6) rfl (Nat.le_refl _) hrow6 (fun b e => by
    obtain ⟨p1, cs, p2⟩ := own_type hown6 e
    exact ⟨by omega, cs, p2⟩)
  refine ⟨⟨kk, ff, tt, uu, ss, 0, 0⟩, (.cons n0 k0 .nil), _, rfl, hfin, HOKB.out _ ?_, hb6, fun _ => HREP.out _ ?_, fun h => by rw [HIN.out] at h; cases h⟩
  · exact ⟨HO0.out.1, HO0.out.2.1, HO0.out.2.2.1, HO0.out.2.2.2.1, trivial⟩
  · exact ⟨HRP0.out.1, HRP0.out.2.1, trivial⟩
set_option maxRecDepth 100000 in
set_option maxHeartbeats 25600000 in
theorem rtree_two {t : Int} (hin : inP p t = true) (h2 : kidsN (atP p t).1.kind = 2) (ih0 : RTreeC B a vl vs vd p (atP p t).1.a) (hin0 : inP p (atP p t).1.a = true) (ih1 : RTreeC B a vl vs vd p (atP p t).1.b) (hin1 : inP p (atP p t).1.b = true) : RTreeC B a vl vs vd p t := by
  intro w hp
  obtain ⟨i0, hi0, hz0, hz1, hz2⟩ := info_parts rowTree
  have bA := bZ w (.cells #[.int .i64 0, .int .i64 0, .int .i64 0, .int .u64 0, .string ⟨#[]⟩, .slice none 0 0] TrT)
  have hb : (w.alloc (.cells #[.int .i64 0, .int .i64 0, .int .i64 0, .int .u64 0, .string ⟨#[]⟩, .slice none 0 0] TrT)).heap[w.heap.size]? = some (Obj.cells #[.int .i64 0, .int .i64 0, .int .i64 0, .int .u64 0, .string ⟨#[]⟩, .slice none 0 0] TrT) := heap_alloc_new _ _
  have HNO := Lib.hid (rnode (hp.below bA) t)
  have HIN := Lib.hid hin
  have HI0 := Lib.hid ih0
  have HIN0 := Lib.hid hin0
  have HI1 := Lib.hid ih1
  have HIN1 := Lib.hid hin1
  have HM := Lib.hid (atP_nok hp.nok t)
  have HP := Lib.hid (hp.below bA)
  have HB := Lib.hid hb
  have HA := Lib.hid bA
  have HREP : Hid (∀ f : Fo, RepF p [(atP p t).1.a, (atP p t).1.b] f → RepF p [t] (.cons (bareN (atP p t).1) f .nil)) := Lib.hid (fun f h => ⟨hin, ⟨_, h, by rw [show (bareN (atP p t).1).kind = (atP p t).1.kind from rfl, h2]; rfl, node_kids hp.ok hin h2⟩, trivial⟩)
  rw [hin] at HNO
  clear hp hin ih0 hin0 ih1 hin1 bA hb
  generalize (atP p t).1 = m at *
  have KI := Lib.hid (show ∀ W : World, Calls Tryd.prog 49 #[.int .i64 m.kind] W (fun e w' => e = .returned (.int .i64 2) ∧ W = w') from fun W => by
    have := rkids m.kind W
    rwa [h2] at this)
  have HOKB : Hid (∀ f : Fo, OkF f → OkF (.cons (bareN m) f .nil)) := Lib.hid (fun f h => ⟨⟨HM.out.kind, HM.out.frm, HM.out.to, HM.out.num, HM.out.text, by unfold i64R; simp [bareN], by unfold i64R; simp [bareN]⟩, rfl, rfl, h, trivial⟩)
  obtain ⟨kk, ff, tt, uu, ss, xa, xb⟩ := m
  simp only [nodeA, bareN] at *
  go_enter Tryd.func29, Tryd.ntmps29
  go_wp2_with fail
  generalize (w.alloc (.cells #[.int .i64 0, .int .i64 0, .int .i64 0, .int .u64 0, .string ⟨#[]⟩, .slice none 0 0] TrT)) = W at *
  refine HNO.out.mono ?_
  rintro e w1 ⟨rfl, u1⟩
  have b1 := bZ w1 (.cells #[.int .i64 kk, .int .i64 ff, .int .i64 tt, .int .u64 uu, .string ss, .int .i64 xa, .int .i64 xb] NodeT)
  have h1 : (w1.alloc (.cells #[.int .i64 kk, .int .i64 ff, .int .i64 tt, .int .u64 uu, .string ss, .int .i64 xa, .int .i64 xb] NodeT)).heap[w1.heap.size]? = some (Obj.cells #[.int .i64 kk, .int .i64 ff, .int .i64 tt, .int .u64 uu, .string ss, .int .i64 xa, .int .i64 xb] NodeT) := heap_alloc_new _ _
  have b2 := bZ (w1.alloc (.cells #[.int .i64 kk, .int .i64 ff, .int .i64 tt, .int .u64 uu, .string ss, .int .i64 xa, .int .i64 xb] NodeT)) (.cells #[.int .i64 kk, .int .i64 ff, .int .i64 tt, .int .u64 uu, .string ss, .slice none 0 0] TrT)
  have b12 := b1.trans (b2.mono b1.size)
  have h2' := Hold.below b2 _ _ h1
  have h3 : ((w1.alloc (.cells #[.int .i64 kk, .int .i64 ff, .int .i64 tt, .int .u64 uu, .string ss, .int .i64 xa, .int .i64 xb] NodeT)).alloc (.cells #[.int .i64 kk, .int .i64 ff, .int .i64 tt, .int .u64 uu, .string ss, .slice none 0 0] TrT)).heap[w1.heap.size + 1]? = some (Obj.cells #[.int .i64 kk, .int .i64 ff, .int .i64 tt, .int .u64 uu, .string ss, .slice none 0 0] TrT) := by
    have e : w1.heap.size + 1 = (w1.alloc (.cells #[.int .i64 kk, .int .i64 ff, .int .i64 tt, .int .u64 uu, .string ss, .int .i64 xa, .int .i64 xb] NodeT)).heap.size := by simp
    rw [e]; exact heap_alloc_new _ _
  have HBR0 := Lib.hid (bmore HA.out (bmore u1 b12))
  have HP0 := Lib.hid (HP.out.below (bmore u1 b12))
  have HN0 := Lib.hid h2'
  have HX0 := Lib.hid h3
  have HR0 := Lib.hid (Hold.below (bmore u1 b12) _ _ HB.out)
  have HNB : Hid (w.heap.size < w1.heap.size) := Lib.hid (Array.getElem?_eq_some_iff.1 (Hold.below u1 _ _ HB.out)).1
  have HSZ0 : Hid (w1.heap.size + 2 ≤ ((w1.alloc (.cells #[.int .i64 kk, .int .i64 ff, .int .i64 tt, .int .u64 uu, .string ss, .int .i64 xa, .int .i64 xb] NodeT)).alloc (.cells #[.int .i64 kk, .int .i64 ff, .int .i64 tt, .int .u64 uu, .string ss, .slice none 0 0] TrT)).heap.size) := Lib.hid (by simp)
  have HOWN0 := Lib.hid (World.ownsRow_nil ((w1.alloc (.cells #[.int .i64 kk, .int .i64 ff, .int .i64 tt, .int .u64 uu, .string ss, .int .i64 xa, .int .i64 xb] NodeT)).alloc (.cells #[.int .i64 kk, .int .i64 ff, .int .i64 tt, .int .u64 uu, .string ss, .slice none 0 0] TrT)) (w1.heap.size + 2) TrT 6)
  have HROW0 : Hid (RowF ((w1.alloc (.cells #[.int .i64 kk, .int .i64 ff, .int .i64 tt, .int .u64 uu, .string ss, .int .i64 xa, .int .i64 xb] NodeT)).alloc (.cells #[.int .i64 kk, .int .i64 ff, .int .i64 tt, .int .u64 uu, .string ss, .slice none 0 0] TrT)) (ButT (w1.heap.size + 2) (Value.slice none 0 0).ownBlock ((w1.alloc (.cells #[.int .i64 kk, .int .i64 ff, .int .i64 tt, .int .u64 uu, .string ss, .int .i64 xa, .int .i64 xb] NodeT)).alloc (.cells #[.int .i64 kk, .int .i64 ff, .int .i64 tt, .int .u64 uu, .string ss, .slice none 0 0] TrT))) [] []) := Lib.hid rfl
  have c0 := cellB (j := 0) h2' rfl
  have c1 := cellB (j := 1) h2' rfl
  have c2 := cellB (j := 2) h2' rfl
  have c3 := cellB (j := 3) h2' rfl
  have c4 := cellB (j := 4) h2' rfl
  have c5 := cellB (j := 5) h2' rfl
  have c6 := cellB (j := 6) h2' rfl
  clear u1 b1 h1 b2 b12 h2' h3
  go_wp2_with fail
  generalize ((w1.alloc (.cells #[.int .i64 kk, .int .i64 ff, .int .i64 tt, .int .u64 uu, .string ss, .int .i64 xa, .int .i64 xb] NodeT)).alloc (.cells #[.int .i64 kk, .int .i64 ff, .int .i64 tt, .int .u64 uu, .string ss, .slice none 0 0] TrT)) = wr0 at *
  generalize w1.heap.size = nb at *
  clear HA HB HP HNO
  refine (KI.out _).mono ?_
  rintro e w2 ⟨rfl, rfl⟩
  clear c0 c1 c2 c3 c4 c5 c6
  go_wp2_with fail
  have x5 := cellB (j := 5) HX0.out rfl
  have a5 := cellB (j := 5) HN0.out rfl
  have HKID := Lib.hid (HI0.out wr0.drew (HP0.out.below (bd _)))
  have hF0 : wr0.drew.cell? ⟨nb + 1, 5, none⟩ = some (.slice none 0 0) ∧ wr0.drew.cell? ⟨nb, 5, none⟩ = some (.int .i64 xa) := ⟨bcellAt (bd _) x5, bcellAt (bd _) a5⟩
  refine lexg_start [0, 1, 2, 3, 4, 5, 6, 7, 8, 9] 9 (F := fun W => W.cell? ⟨nb + 1, 5, none⟩ = some (.slice none 0 0) ∧ W.cell? ⟨nb, 5, none⟩ = some (.int .i64 xa)) (by kernel_rfl) ?_
  simp only [inOrder, List.filterMap, List.getElem?_cons_succ, List.getElem?_cons_zero]
  refine lexg_take (i := 0) (v := ?_) rfl (by decide) (by kernel_rfl) (by kernel_rfl) (by kernel_rfl) (by kernel_rfl) (by rfl) hF0 ?_ ?_
  rotate_left
  · ((intro W hW; obtain ⟨q0, q1⟩ := hW; go_simp) <;> with_reducible rfl)
  simp only [Act.put, List.setIfInBounds_toArray, List.set_cons_zero, List.set_cons_succ]
  refine lexg_take (i := 1) (v := ?_) rfl (by decide) (by kernel_rfl) (by kernel_rfl) (by kernel_rfl) (by kernel_rfl) (by rfl) hF0 ?_ ?_
  rotate_left
  · ((intro W hW; obtain ⟨q0, q1⟩ := hW; go_simp) <;> with_reducible rfl)
  simp only [Act.put, List.setIfInBounds_toArray, List.set_cons_zero, List.set_cons_succ]
  refine lexg_take (i := 2) (v := ?_) rfl (by decide) (by kernel_rfl) (by kernel_rfl) (by kernel_rfl) (by kernel_rfl) (by rfl) hF0 ?_ ?_
  rotate_left
  · ((intro W hW; obtain ⟨q0, q1⟩ := hW; go_simp) <;> with_reducible rfl)
  simp only [Act.put, List.setIfInBounds_toArray, List.set_cons_zero, List.set_cons_succ]
  refine lexg_take (i := 3) (v := ?_) rfl (by decide) (by kernel_rfl) (by kernel_rfl) (by kernel_rfl) (by kernel_rfl) (by rfl) hF0 ?_ ?_
  rotate_left
  · ((intro W hW; obtain ⟨q0, q1⟩ := hW; go_simp) <;> with_reducible rfl)
  simp only [Act.put, List.setIfInBounds_toArray, List.set_cons_zero, List.set_cons_succ]
  refine lexg_take (i := 4) (v := ?_) rfl (by decide) (by kernel_rfl) (by kernel_rfl) (by kernel_rfl) (by kernel_rfl) (by rfl) hF0 ?_ ?_
  rotate_left
  · ((intro W hW; obtain ⟨q0, q1⟩ := hW; go_simp) <;> with_reducible rfl)
  simp only [Act.put, List.setIfInBounds_toArray, List.set_cons_zero, List.set_cons_succ]
  refine lexg_call (i := 5) rfl (by kernel_rfl) (by rfl) ?_ _ HKID.out ?_
  · go_simp
  rintro e w3 ⟨n0, k0, v0, rfl, hk0, ho0, u3, hr0, _⟩
  obtain ⟨va0, vc0, rfl, _⟩ := hk0.shape
  have bA := bmore (bd wr0) u3
  refine ⟨_, rfl, fun _ => ⟨bcellAt bA x5, bcellAt bA a5⟩, ?_⟩
  simp only [treeA, Act.put, List.setIfInBounds_toArray, List.set_cons_zero, List.set_cons_succ]
  refine lexg_do (i := 6) rfl (by kernel_rfl) (by rfl) (fun K hK => ?_)
  go_simp
  have bC := bZ w3 (.cells #[.int .i64 (n0).kind, .int .i64 (n0).frm, .int .i64 (n0).to, .int .u64 (n0).num, .string (n0).text, .slice va0 (k0).len vc0] 50)
  have bAC := bmore bA bC
  have hownC := own_hold HOWN0.out (Hold.below bAC)
  have HBAC := Lib.hid bAC
  have HBC := Lib.hid bC
  refine hK _ _ ⟨fun _ => ⟨bcellAt bAC x5, bcellAt bAC a5⟩, ?_⟩
  clear hK K
  refine lexg_do (i := 7) rfl (by kernel_rfl) (by rfl) (fun K hK => ?_)
  refine wp_append_at _ _ _ 47 rfl (nb + 2) TrT i0 (.agg #[.int .i64 0, .int .i64 0, .int .i64 0, .int .u64 0, .string ⟨#[]⟩, .slice none 0 0]) 6 72 Tryd.underlying47 hi0 hz0 hz1 hz2 rfl (by decide) (.slice none 0 0) 0 [] rfl hownC ⟨w3.heap.size, 0, none⟩ 1 1 [.int .i64 (n0).kind, .int .i64 (n0).frm, .int .i64 (n0).to, .int .u64 (n0).num, .string (n0).text, .slice va0 (k0).len vc0] rfl (by decide) rfl (news6 w3 _ _ _ _ _ _ _) (by simp [Value.oneCell']) (by unfold maxLen; omega) (by omega) (by have := HSZ0.out; have := bAC.size; omega) ?_
  intro v5 w5 hown5 hg5 hp5
  obtain ⟨za1, zc1, rfl⟩ := (row_of_own hown5).shape
  have hyo : ∀ g, (Value.slice none 0 0).ownBlock = some g → nb + 2 ≤ g ∧ g < wr0.heap.size := fun g e => by
    obtain ⟨hB, cur, hc⟩ := own_type HOWN0.out e
    exact ⟨hB, (Array.getElem?_eq_some_iff.1 hc).1⟩
  have hkb : ∀ (b : Nat) (u : Obj), wr0.heap[b]? = some u → (Value.slice none 0 0).ownBlock ≠ some b → w5.heap[b]? = some u := fun b u h hn => by
    have hl := (Array.getElem?_eq_some_iff.1 h).1
    rw [hg5.block b (Nat.lt_of_lt_of_le hl HBAC.out.size) (fun e => hn e.symm), HBAC.out.block b hl]; exact h
  have hkb1 : ∀ (b : Nat) (u : Obj), w3.heap[b]? = some u → wr0.heap.size ≤ b → w5.heap[b]? = some u := fun b u h hn => by
    have hl := (Array.getElem?_eq_some_iff.1 h).1
    rw [hg5.block b (Nat.lt_of_lt_of_le hl HBC.out.size) (fun e => by have := (hyo b e.symm).2; omega), HBC.out.block b hl]; exact h
  have hx5 := hkb _ _ HX0.out (fun e => by have := (hyo _ e).1; omega)
  have hn5 := hkb _ _ HN0.out (fun e => by have := (hyo _ e).1; omega)
  have hres5 := hkb _ _ HR0.out (fun e => by have := (hyo _ e).1; have := HNB.out; omega)
  have hF5 : w5.cell? ⟨nb + 1, 5, none⟩ = some (.slice none 0 0) ∧ w5.cell? ⟨nb, 5, none⟩ = some (.int .i64 xa) := ⟨cellB hx5 rfl, cellB hn5 rfl⟩
  have hhold : ∀ T : TypeId, T ≠ TrT → Hold T wr0 w5 := fun T hT => (Hold.below HBAC.out).trans (hold_row (own_hold HOWN0.out (Hold.below HBAC.out)) hg5 hT)
  have HP5 := Lib.hid (HP0.out.hold (hhold _ (by decide)) (hhold _ (by decide)) (hhold _ (by decide)))
  have HKB := Lib.hid hkb
  have HKB1 := Lib.hid hkb1
  have HYO := Lib.hid hyo
  have HG5 := Lib.hid hg5
  have HPW := Lib.hid hp5
  have HOWN5 := Lib.hid hown5
  clear hkb hkb1 hyo hg5 hp5 hown5 hownC bA bC bAC u3 hhold
  refine hK _ _ ⟨fun _ => hF5, ?_⟩
  clear hK K
  try simp only [Act.put, List.setIfInBounds_toArray, List.set_cons_zero, List.set_cons_succ]
  refine lexg_take (i := 8) (v := ?_) rfl (by decide) (by kernel_rfl) (by kernel_rfl) (by kernel_rfl) (by kernel_rfl) (by rfl) hF5 ?_ ?_
  rotate_left
  · ((intro W hW; obtain ⟨q0, q1⟩ := hW; go_simp) <;> with_reducible rfl)
  simp only [Act.put, List.setIfInBounds_toArray, List.set_cons_zero, List.set_cons_succ]
  have x5' := cellB (j := 5) hx5 rfl
  have f5 := frozenB (j := 5) hx5
  refine lexg_do (i := 9) rfl (by kernel_rfl) (by rfl) (fun K hK => ?_)
  go_simp
  have hx6 := setCellB (j := 5) (u := .slice za1 1 zc1) hx5
  have HX1 := Lib.hid hx6
  have HGS := Lib.hid (grownBy_set w5 (nb + 1) 5 (.slice za1 1 zc1))
  have HP1 := Lib.hid (HP5.out.hold (Hold.setCell (o := 5) (v := .slice za1 1 zc1) hx5 (by decide)) (Hold.setCell (o := 5) (v := .slice za1 1 zc1) hx5 (by decide)) (Hold.setCell (o := 5) (v := .slice za1 1 zc1) hx5 (by decide)))
  have HN5 := Lib.hid hn5
  have HR5 := Lib.hid hres5
  refine hK _ _ ⟨fun h => absurd rfl h, ?_⟩
  clear hK K x5' f5 hF5 hF0 hx5 hx6 hn5 hres5 x5 a5
  refine lexg_done (by kernel_rfl) ?_
  generalize (w5.setCell ⟨nb + 1, 5, none⟩ (.slice za1 1 zc1)) = wr1 at *
  have hyo3 : ∀ g, (Value.slice za1 1 zc1).ownBlock = some g → nb + 2 ≤ g := fun g e => (own_type HOWN5.out e).1
  have h34 : ∀ (b : Nat) (u : Obj), w5.heap[b]? = some u → b ≠ nb + 1 → wr1.heap[b]? = some u := fun b u h hn => by
    rw [HGS.out.block b (Array.getElem?_eq_some_iff.1 h).1 (fun e => hn (by cases e; rfl))]; exact h
  have HN1 := Lib.hid (h34 _ _ HN5.out (by omega))
  have HR1 := Lib.hid (h34 _ _ HR5.out (by have := HNB.out; omega))
  have HBR1 : Hid (Below w.heap.size w wr1) := Lib.hid (((HBR0.out.trans (HBAC.out.mono HBR0.out.size)).grown HG5.out (by have := HBAC.out.size; have := HBR0.out.size; omega) (fun g e => by have := (HYO.out g e).1; have := HNB.out; omega)).grown HGS.out (by have := HG5.out.size; have := HBAC.out.size; have := HBR0.out.size; omega) (fun g e => by cases e; have := HNB.out; omega))
  have HSZ1 : Hid (nb + 2 ≤ wr1.heap.size) := Lib.hid (by have := HG5.out.size; have := HBAC.out.size; have := HGS.out.size; have := HSZ0.out; omega)
  have HOWN1 := Lib.hid (own_kept HOWN5.out HGS.out (fun r e e' => by cases e; have := hyo3 _ e'; omega))
  have hrow4 : RowF wr1 (ButT (nb + 2) (Value.slice za1 1 zc1).ownBlock wr1) [] [] := HROW0.out.keep (fun bb hg hl => by
    obtain ⟨q1, q2, cs, q3⟩ := hg
    have q4 := h34 _ _ (HKB.out _ _ q3 q2) (by omega)
    refine ⟨⟨q1, fun e => ?_, cs, q4⟩, by rw [q4, q3]⟩
    rcases HPW.out with h | h
    · exact q2 (h.symm.trans e)
    · rw [h] at e; cases e; have := HBAC.out.size; omega)
  have hkid4 : IsK wr1 (ButT (nb + 2) (Value.slice za1 1 zc1).ownBlock wr1) (.slice va0 (k0).len vc0) k0 := hk0.keep (fun bb hg hl => by
    obtain ⟨q1, cs, q3⟩ := hg
    have q1' : wr0.heap.size ≤ bb := q1
    have q4 := h34 _ _ (HKB1.out _ _ q3 q1') (by have := HSZ0.out; omega)
    refine ⟨⟨by have := HSZ0.out; omega, fun e => ?_, cs, q4⟩, by rw [q4, q3]⟩
    rcases HPW.out with h | h
    · have := (HYO.out bb (h.symm.trans e)).2; omega
    · rw [h] at e; cases e; have := HBC.out.size; omega)
  have HROW1 := Lib.hid (RowF.snoc (n := n0) hkid4 hrow4)
  have HO0 := Lib.hid ho0
  have HRP0 := Lib.hid (hr0 HIN0.out)
  clear hyo3 h34 hrow4 hkid4 hk0 ho0 hr0 HKB HKB1 HYO HG5 HPW HOWN5 HGS HBAC HBC HKID HP5 HN5 HR5 HX0 HN0 HR0 HBR0 HSZ0 HOWN0 HROW0 HP0
  have hn := HN1.out
  have c0 := cellB (j := 0) hn rfl
  have c1 := cellB (j := 1) hn rfl
  have c2 := cellB (j := 2) hn rfl
  have c3 := cellB (j := 3) hn rfl
  have c4 := cellB (j := 4) hn rfl
  have c5 := cellB (j := 5) hn rfl
  have c6 := cellB (j := 6) hn rfl
  clear hn
  go_wp2_with fail
  refine (KI.out _).mono ?_
  rintro e w2 ⟨rfl, rfl⟩
  clear c0 c1 c2 c3 c4 c5 c6
  go_wp2_with fail
  have x5 := cellB (j := 5) HX1.out rfl
  have a5 := cellB (j := 6) HN1.out rfl
  have HKID := Lib.hid (HI1.out wr1.drew (HP1.out.below (bd _)))
  have hF0 : wr1.drew.cell? ⟨nb + 1, 5, none⟩ = some (.slice za1 1 zc1) ∧ wr1.drew.cell? ⟨nb, 6, none⟩ = some (.int .i64 xb) := ⟨bcellAt (bd _) x5, bcellAt (bd _) a5⟩
  refine lexg_start [0, 1, 2, 3, 4, 5, 6, 7, 8, 9] 9 (F := fun W => W.cell? ⟨nb + 1, 5, none⟩ = some (.slice za1 1 zc1) ∧ W.cell? ⟨nb, 6, none⟩ = some (.int .i64 xb)) (by kernel_rfl) ?_
  simp only [inOrder, List.filterMap, List.getElem?_cons_succ, List.getElem?_cons_zero]
  refine lexg_take (i := 0) (v := ?_) rfl (by decide) (by kernel_rfl) (by kernel_rfl) (by kernel_rfl) (by kernel_rfl) (by rfl) hF0 ?_ ?_
  rotate_left
  · ((intro W hW; obtain ⟨q0, q1⟩ := hW; go_simp) <;> with_reducible rfl)
  simp only [Act.put, List.setIfInBounds_toArray, List.set_cons_zero, List.set_cons_succ]
  refine lexg_take (i := 1) (v := ?_) rfl (by decide) (by kernel_rfl) (by kernel_rfl) (by kernel_rfl) (by kernel_rfl) (by rfl) hF0 ?_ ?_
  rotate_left
  · ((intro W hW; obtain ⟨q0, q1⟩ := hW; go_simp) <;> with_reducible rfl)
  simp only [Act.put, List.setIfInBounds_toArray, List.set_cons_zero, List.set_cons_succ]
  refine lexg_take (i := 2) (v := ?_) rfl (by decide) (by kernel_rfl) (by kernel_rfl) (by kernel_rfl) (by kernel_rfl) (by rfl) hF0 ?_ ?_
  rotate_left
  · ((intro W hW; obtain ⟨q0, q1⟩ := hW; go_simp) <;> with_reducible rfl)
  simp only [Act.put, List.setIfInBounds_toArray, List.set_cons_zero, List.set_cons_succ]
  refine lexg_take (i := 3) (v := ?_) rfl (by decide) (by kernel_rfl) (by kernel_rfl) (by kernel_rfl) (by kernel_rfl) (by rfl) hF0 ?_ ?_
  rotate_left
  · ((intro W hW; obtain ⟨q0, q1⟩ := hW; go_simp) <;> with_reducible rfl)
  simp only [Act.put, List.setIfInBounds_toArray, List.set_cons_zero, List.set_cons_succ]
  refine lexg_take (i := 4) (v := ?_) rfl (by decide) (by kernel_rfl) (by kernel_rfl) (by kernel_rfl) (by kernel_rfl) (by rfl) hF0 ?_ ?_
  rotate_left
  · ((intro W hW; obtain ⟨q0, q1⟩ := hW; go_simp) <;> with_reducible rfl)
  simp only [Act.put, List.setIfInBounds_toArray, List.set_cons_zero, List.set_cons_succ]
  refine lexg_call (i := 5) rfl (by kernel_rfl) (by rfl) ?_ _ HKID.out ?_
  · go_simp
  rintro e w3 ⟨n1, k1, v1, rfl, hk1, ho1, u3, hr1, _⟩
  obtain ⟨va1, vc1, rfl, _⟩ := hk1.shape
  have bA := bmore (bd wr1) u3
  refine ⟨_, rfl, fun _ => ⟨bcellAt bA x5, bcellAt bA a5⟩, ?_⟩
  simp only [treeA, Act.put, List.setIfInBounds_toArray, List.set_cons_zero, List.set_cons_succ]
  refine lexg_do (i := 6) rfl (by kernel_rfl) (by rfl) (fun K hK => ?_)
  go_simp
  have bC := bZ w3 (.cells #[.int .i64 (n1).kind, .int .i64 (n1).frm, .int .i64 (n1).to, .int .u64 (n1).num, .string (n1).text, .slice va1 (k1).len vc1] 50)
  have bAC := bmore bA bC
  have hownC := own_hold HOWN1.out (Hold.below bAC)
  have HBAC := Lib.hid bAC
  have HBC := Lib.hid bC
  refine hK _ _ ⟨fun _ => ⟨bcellAt bAC x5, bcellAt bAC a5⟩, ?_⟩
  clear hK K
  refine lexg_do (i := 7) rfl (by kernel_rfl) (by rfl) (fun K hK => ?_)
  refine wp_append_at _ _ _ 47 rfl (nb + 2) TrT i0 (.agg #[.int .i64 0, .int .i64 0, .int .i64 0, .int .u64 0, .string ⟨#[]⟩, .slice none 0 0]) 6 72 Tryd.underlying47 hi0 hz0 hz1 hz2 rfl (by decide) (.slice za1 1 zc1) 1 ([] ++ [.int .i64 (n0).kind, .int .i64 (n0).frm, .int .i64 (n0).to, .int .u64 (n0).num, .string (n0).text, .slice va0 (k0).len vc0]) rfl hownC ⟨w3.heap.size, 0, none⟩ 1 1 [.int .i64 (n1).kind, .int .i64 (n1).frm, .int .i64 (n1).to, .int .u64 (n1).num, .string (n1).text, .slice va1 (k1).len vc1] rfl (by decide) rfl (news6 w3 _ _ _ _ _ _ _) (by simp [Value.oneCell']) (by unfold maxLen; omega) (by omega) (by have := HSZ1.out; have := bAC.size; omega) ?_
  intro v5 w5 hown5 hg5 hp5
  obtain ⟨za2, zc2, rfl⟩ := (row_of_own hown5).shape
  have hyo : ∀ g, (Value.slice za1 1 zc1).ownBlock = some g → nb + 2 ≤ g ∧ g < wr1.heap.size := fun g e => by
    obtain ⟨hB, cur, hc⟩ := own_type HOWN1.out e
    exact ⟨hB, (Array.getElem?_eq_some_iff.1 hc).1⟩
  have hkb : ∀ (b : Nat) (u : Obj), wr1.heap[b]? = some u → (Value.slice za1 1 zc1).ownBlock ≠ some b → w5.heap[b]? = some u := fun b u h hn => by
    have hl := (Array.getElem?_eq_some_iff.1 h).1
    rw [hg5.block b (Nat.lt_of_lt_of_le hl HBAC.out.size) (fun e => hn e.symm), HBAC.out.block b hl]; exact h
  have hkb1 : ∀ (b : Nat) (u : Obj), w3.heap[b]? = some u → wr1.heap.size ≤ b → w5.heap[b]? = some u := fun b u h hn => by
    have hl := (Array.getElem?_eq_some_iff.1 h).1
    rw [hg5.block b (Nat.lt_of_lt_of_le hl HBC.out.size) (fun e => by have := (hyo b e.symm).2; omega), HBC.out.block b hl]; exact h
  have hx5 := hkb _ _ HX1.out (fun e => by have := (hyo _ e).1; omega)
  have hn5 := hkb _ _ HN1.out (fun e => by have := (hyo _ e).1; omega)
  have hres5 := hkb _ _ HR1.out (fun e => by have := (hyo _ e).1; have := HNB.out; omega)
  have hF5 : w5.cell? ⟨nb + 1, 5, none⟩ = some (.slice za1 1 zc1) ∧ w5.cell? ⟨nb, 6, none⟩ = some (.int .i64 xb) := ⟨cellB hx5 rfl, cellB hn5 rfl⟩
  have hhold : ∀ T : TypeId, T ≠ TrT → Hold T wr1 w5 := fun T hT => (Hold.below HBAC.out).trans (hold_row (own_hold HOWN1.out (Hold.below HBAC.out)) hg5 hT)
  have HP5 := Lib.hid (HP1.out.hold (hhold _ (by decide)) (hhold _ (by decide)) (hhold _ (by decide)))
  have HKB := Lib.hid hkb
  have HKB1 := Lib.hid hkb1
  have HYO := Lib.hid hyo
  have HG5 := Lib.hid hg5
  have HPW := Lib.hid hp5
  have HOWN5 := Lib.hid hown5
  clear hkb hkb1 hyo hg5 hp5 hown5 hownC bA bC bAC u3 hhold
  refine hK _ _ ⟨fun _ => hF5, ?_⟩
  clear hK K
  try simp only [Act.put, List.setIfInBounds_toArray, List.set_cons_zero, List.set_cons_succ]
  refine lexg_take (i := 8) (v := ?_) rfl (by decide) (by kernel_rfl) (by kernel_rfl) (by kernel_rfl) (by kernel_rfl) (by rfl) hF5 ?_ ?_
  rotate_left
  · ((intro W hW; obtain ⟨q0, q1⟩ := hW; go_simp) <;> with_reducible rfl)
  simp only [Act.put, List.setIfInBounds_toArray, List.set_cons_zero, List.set_cons_succ]
  have x5' := cellB (j := 5) hx5 rfl
  have f5 := frozenB (j := 5) hx5
  refine lexg_do (i := 9) rfl (by kernel_rfl) (by rfl) (fun K hK => ?_)
  go_simp
  have hx6 := setCellB (j := 5) (u := .slice za2 2 zc2) hx5
  have HX2 := Lib.hid hx6
  have HGS := Lib.hid (grownBy_set w5 (nb + 1) 5 (.slice za2 2 zc2))
  have HP2 := Lib.hid (HP5.out.hold (Hold.setCell (o := 5) (v := .slice za2 2 zc2) hx5 (by decide)) (Hold.setCell (o := 5) (v := .slice za2 2 zc2) hx5 (by decide)) (Hold.setCell (o := 5) (v := .slice za2 2 zc2) hx5 (by decide)))
  have HN5 := Lib.hid hn5
  have HR5 := Lib.hid hres5
  refine hK _ _ ⟨fun h => absurd rfl h, ?_⟩
  clear hK K x5' f5 hF5 hF0 hx5 hx6 hn5 hres5 x5 a5
  refine lexg_done (by kernel_rfl) ?_
  generalize (w5.setCell ⟨nb + 1, 5, none⟩ (.slice za2 2 zc2)) = wr2 at *
  have hyo3 : ∀ g, (Value.slice za2 2 zc2).ownBlock = some g → nb + 2 ≤ g := fun g e => (own_type HOWN5.out e).1
  have h34 : ∀ (b : Nat) (u : Obj), w5.heap[b]? = some u → b ≠ nb + 1 → wr2.heap[b]? = some u := fun b u h hn => by
    rw [HGS.out.block b (Array.getElem?_eq_some_iff.1 h).1 (fun e => hn (by cases e; rfl))]; exact h
  have HN2 := Lib.hid (h34 _ _ HN5.out (by omega))
  have HR2 := Lib.hid (h34 _ _ HR5.out (by have := HNB.out; omega))
  have HBR2 : Hid (Below w.heap.size w wr2) := Lib.hid (((HBR1.out.trans (HBAC.out.mono HBR1.out.size)).grown HG5.out (by have := HBAC.out.size; have := HBR1.out.size; omega) (fun g e => by have := (HYO.out g e).1; have := HNB.out; omega)).grown HGS.out (by have := HG5.out.size; have := HBAC.out.size; have := HBR1.out.size; omega) (fun g e => by cases e; have := HNB.out; omega))
  have HSZ2 : Hid (nb + 2 ≤ wr2.heap.size) := Lib.hid (by have := HG5.out.size; have := HBAC.out.size; have := HGS.out.size; have := HSZ1.out; omega)
  have HOWN2 := Lib.hid (own_kept HOWN5.out HGS.out (fun r e e' => by cases e; have := hyo3 _ e'; omega))
  have hrow4 : RowF wr2 (ButT (nb + 2) (Value.slice za2 2 zc2).ownBlock wr2) [(n0, k0)] ([] ++ [.int .i64 (n0).kind, .int .i64 (n0).frm, .int .i64 (n0).to, .int .u64 (n0).num, .string (n0).text, .slice va0 (k0).len vc0]) := HROW1.out.keep (fun bb hg hl => by
    obtain ⟨q1, q2, cs, q3⟩ := hg
    have q4 := h34 _ _ (HKB.out _ _ q3 q2) (by omega)
    refine ⟨⟨q1, fun e => ?_, cs, q4⟩, by rw [q4, q3]⟩
    rcases HPW.out with h | h
    · exact q2 (h.symm.trans e)
    · rw [h] at e; cases e; have := HBAC.out.size; omega)
  have hkid4 : IsK wr2 (ButT (nb + 2) (Value.slice za2 2 zc2).ownBlock wr2) (.slice va1 (k1).len vc1) k1 := hk1.keep (fun bb hg hl => by
    obtain ⟨q1, cs, q3⟩ := hg
    have q1' : wr1.heap.size ≤ bb := q1
    have q4 := h34 _ _ (HKB1.out _ _ q3 q1') (by have := HSZ1.out; omega)
    refine ⟨⟨by have := HSZ1.out; omega, fun e => ?_, cs, q4⟩, by rw [q4, q3]⟩
    rcases HPW.out with h | h
    · have := (HYO.out bb (h.symm.trans e)).2; omega
    · rw [h] at e; cases e; have := HBC.out.size; omega)
  have HROW2 := Lib.hid (RowF.snoc (n := n1) hkid4 hrow4)
  have HO1 := Lib.hid ho1
  have HRP1 := Lib.hid (hr1 HIN1.out)
  clear hyo3 h34 hrow4 hkid4 hk1 ho1 hr1 HKB HKB1 HYO HG5 HPW HOWN5 HGS HBAC HBC HKID HP5 HN5 HR5 HX1 HN1 HR1 HBR1 HSZ1 HOWN1 HROW1 HP1
  have hb := HR2.out
  have hx := HX2.out
  have r0 := cellB (j := 0) hb rfl
  have s0 := frozenB (j := 0) hb
  have r1 := cellB (j := 1) hb rfl
  have s1 := frozenB (j := 1) hb
  have r2 := cellB (j := 2) hb rfl
  have s2 := frozenB (j := 2) hb
  have r3 := cellB (j := 3) hb rfl
  have s3 := frozenB (j := 3) hb
  have r4 := cellB (j := 4) hb rfl
  have s4 := frozenB (j := 4) hb
  have r5 := cellB (j := 5) hb rfl
  have s5 := frozenB (j := 5) hb
  have z0 := cellB (j := 0) hx rfl
  have z1 := cellB (j := 1) hx rfl
  have z2 := cellB (j := 2) hx rfl
  have z3 := cellB (j := 3) hx rfl
  have z4 := cellB (j := 4) hx rfl
  have z5 := cellB (j := 5) hx rfl
  have h6 : ((((((wr2.setCell ⟨w.heap.size, 0, none⟩ (.int .i64 kk)).setCell ⟨w.heap.size, 1, none⟩ (.int .i64 ff)).setCell ⟨w.heap.size, 2, none⟩ (.int .i64 tt)).setCell ⟨w.heap.size, 3, none⟩ (.int .u64 uu)).setCell ⟨w.heap.size, 4, none⟩ (.string ss)).setCell ⟨w.heap.size, 5, none⟩ (.slice za2 2 zc2)).heap[w.heap.size]? = some (Obj.cells #[.int .i64 kk, .int .i64 ff, .int .i64 tt, .int .u64 uu, .string ss, .slice za2 2 zc2] TrT) := (setCellB (j := 5) (u := .slice za2 2 zc2) (setCellB (j := 4) (u := .string ss) (setCellB (j := 3) (u := .int .u64 uu) (setCellB (j := 2) (u := .int .i64 tt) (setCellB (j := 1) (u := .int .i64 ff) (setCellB (j := 0) (u := .int .i64 kk) hb))))))
  have hg6 : wr2.grownBy ((((((wr2.setCell ⟨w.heap.size, 0, none⟩ (.int .i64 kk)).setCell ⟨w.heap.size, 1, none⟩ (.int .i64 ff)).setCell ⟨w.heap.size, 2, none⟩ (.int .i64 tt)).setCell ⟨w.heap.size, 3, none⟩ (.int .u64 uu)).setCell ⟨w.heap.size, 4, none⟩ (.string ss)).setCell ⟨w.heap.size, 5, none⟩ (.slice za2 2 zc2)) (some w.heap.size) := ((((((grownBy_set _ _ _ _).trans (grownBy_set _ _ _ _)).trans (grownBy_set _ _ _ _)).trans (grownBy_set _ _ _ _)).trans (grownBy_set _ _ _ _)).trans (grownBy_set _ _ _ _))
  have HG6 := Lib.hid hg6
  have H6 := Lib.hid h6
  clear hb hx h6 hg6
  go_wp2_with fail
  have h6 := H6.out
  generalize ((((((wr2.setCell ⟨w.heap.size, 0, none⟩ (.int .i64 kk)).setCell ⟨w.heap.size, 1, none⟩ (.int .i64 ff)).setCell ⟨w.heap.size, 2, none⟩ (.int .i64 tt)).setCell ⟨w.heap.size, 3, none⟩ (.int .u64 uu)).setCell ⟨w.heap.size, 4, none⟩ (.string ss)).setCell ⟨w.heap.size, 5, none⟩ (.slice za2 2 zc2)) = w6 at *
  clear r0 r1 r2 r3 r4 r5 s0 s1 s2 s3 s4 s5 z0 z1 z2 z3 z4 z5
  have d0 := cellB (j := 0) h6 rfl
  have d1 := cellB (j := 1) h6 rfl
  have d2 := cellB (j := 2) h6 rfl
  have d3 := cellB (j := 3) h6 rfl
  have d4 := cellB (j := 4) h6 rfl
  have d5 := cellB (j := 5) h6 rfl
  refine bodyPost_ret (v := .agg #[.int .i64 kk, .int .i64 ff, .int .i64 tt, .int .u64 uu, .string ss, .slice za2 2 zc2]) (by simp [results, Tryd.results29, go_sem, d0, d1, d2, d3, d4, d5]) rfl ?_
  have hnb := HNB.out
  have hb6 : Below w.heap.size w w6 := HBR2.out.grown HG6.out HBR2.out.size (fun g e => by cases e; omega)
  have hown6 := own_kept HOWN2.out HG6.out (fun r e e' => by cases e; have := (own_type HOWN2.out e').1; omega)
  have hrow6 : RowF w6 (NewT w w6) [(n0, k0), (n1, k1)] (([] ++ [.int .i64 (n0).kind, .int .i64 (n0).frm, .int .i64 (n0).to, .int .u64 (n0).num, .string (n0).text, .slice va0 (k0).len vc0]) ++ [.int .i64 (n1).kind, .int .i64 (n1).frm, .int .i64 (n1).to, .int .u64 (n1).num, .string (n1).text, .slice va1 (k1).len vc1]) := HROW2.out.keep (fun bb hg hl => by
    obtain ⟨p1, p2, cs, p3⟩ := hg
    have p4 : w6.heap[bb]? = some (Obj.cells cs TrT) := by rw [HG6.out.block bb (Array.getElem?_eq_some_iff.1 p3).1 (fun e => by cases e; omega)]; exact p3
    exact ⟨⟨by omega, cs, p4⟩, by rw [p4, p3]⟩)
  have hfin := isK_row (G := NewT w w6) (zs := []) (by rw [List.append_nil]; exact hown6) rfl (Nat.le_refl _) hrow6 (fun b e => by
    obtain ⟨p1, cs, p2⟩ := own_type hown6 e
    exact ⟨by omega, cs, p2⟩)
  refine ⟨⟨kk, ff, tt, uu, ss, 0, 0⟩, (.cons n0 k0 (.cons n1 k1 .nil)), _, rfl, hfin, HOKB.out _ ?_, hb6, fun _ => HREP.out _ ?_, fun h => by rw [HIN.out] at h; cases h⟩
  · exact ⟨HO0.out.1, HO0.out.2.1, HO0.out.2.2.1, HO0.out.2.2.2.1, ⟨HO1.out.1, HO1.out.2.1, HO1.out.2.2.1, HO1.out.2.2.2.1, trivial⟩⟩
  · exact ⟨HRP0.out.1, HRP0.out.2.1, ⟨HRP1.out.1, HRP1.out.2.1, trivial⟩⟩

set_option maxRecDepth 100000 in
set_option maxHeartbeats 6400000 in
theorem rtree_out {t : Int} (hin : inP p t = false) : RTreeC B a vl vs vd p t := by
  intro w hp
  have bA := bZ w (.cells #[.int .i64 0, .int .i64 0, .int .i64 0, .int .u64 0, .string ⟨#[]⟩, .slice none 0 0] TrT)
  have hb : (w.alloc (.cells #[.int .i64 0, .int .i64 0, .int .i64 0, .int .u64 0, .string ⟨#[]⟩, .slice none 0 0] TrT)).heap[w.heap.size]? = some (Obj.cells #[.int .i64 0, .int .i64 0, .int .i64 0, .int .u64 0, .string ⟨#[]⟩, .slice none 0 0] TrT) := heap_alloc_new _ _
  have HNO := Lib.hid (rnode (hp.below bA) t)
  have HB := Lib.hid hb
  have HA := Lib.hid bA
  have HIN := Lib.hid hin
  rw [hin] at HNO
  clear hp bA hb hin
  generalize (atP p t).1 = m at *
  obtain ⟨kk, ff, tt, uu, ss, xa, xb⟩ := m
  simp only [nodeA] at *
  go_enter Tryd.func29, Tryd.ntmps29
  go_wp2_with fail
  generalize (w.alloc (.cells #[.int .i64 0, .int .i64 0, .int .i64 0, .int .u64 0, .string ⟨#[]⟩, .slice none 0 0] TrT)) = W at *
  refine HNO.out.mono ?_
  rintro e w1 ⟨rfl, u1⟩
  have b1 := bZ w1 (.cells #[.int .i64 kk, .int .i64 ff, .int .i64 tt, .int .u64 uu, .string ss, .int .i64 xa, .int .i64 xb] NodeT)
  have hb := Hold.below (bmore u1 b1) _ _ HB.out
  have HA1 := Lib.hid (bmore HA.out (bmore u1 b1))
  have r0 := cellB (j := 0) hb rfl
  have s0 := frozenB (j := 0) hb
  have r1 := cellB (j := 1) hb rfl
  have s1 := frozenB (j := 1) hb
  have r2 := cellB (j := 2) hb rfl
  have s2 := frozenB (j := 2) hb
  have r3 := cellB (j := 3) hb rfl
  have s3 := frozenB (j := 3) hb
  have r4 := cellB (j := 4) hb rfl
  have s4 := frozenB (j := 4) hb
  have r5 := cellB (j := 5) hb rfl
  have s5 := frozenB (j := 5) hb
  have h6 : (((((((w1.alloc (.cells #[.int .i64 kk, .int .i64 ff, .int .i64 tt, .int .u64 uu, .string ss, .int .i64 xa, .int .i64 xb] NodeT)).setCell ⟨w.heap.size, 0, none⟩ (.int .i64 0)).setCell ⟨w.heap.size, 1, none⟩ (.int .i64 0)).setCell ⟨w.heap.size, 2, none⟩ (.int .i64 0)).setCell ⟨w.heap.size, 3, none⟩ (.int .u64 0)).setCell ⟨w.heap.size, 4, none⟩ (.string ⟨#[]⟩)).setCell ⟨w.heap.size, 5, none⟩ (.slice none 0 0)).heap[w.heap.size]? = some (Obj.cells #[.int .i64 0, .int .i64 0, .int .i64 0, .int .u64 0, .string ⟨#[]⟩, .slice none 0 0] TrT) := (setCellB (j := 5) (u := .slice none 0 0) (setCellB (j := 4) (u := .string ⟨#[]⟩) (setCellB (j := 3) (u := .int .u64 0) (setCellB (j := 2) (u := .int .i64 0) (setCellB (j := 1) (u := .int .i64 0) (setCellB (j := 0) (u := .int .i64 0) hb))))))
  have hb6 : Below w.heap.size w (((((((w1.alloc (.cells #[.int .i64 kk, .int .i64 ff, .int .i64 tt, .int .u64 uu, .string ss, .int .i64 xa, .int .i64 xb] NodeT)).setCell ⟨w.heap.size, 0, none⟩ (.int .i64 0)).setCell ⟨w.heap.size, 1, none⟩ (.int .i64 0)).setCell ⟨w.heap.size, 2, none⟩ (.int .i64 0)).setCell ⟨w.heap.size, 3, none⟩ (.int .u64 0)).setCell ⟨w.heap.size, 4, none⟩ (.string ⟨#[]⟩)).setCell ⟨w.heap.size, 5, none⟩ (.slice none 0 0)) := ((((((HA1.out.setCell (p := ⟨w.heap.size, 0, none⟩) (Nat.le_refl _) _).setCell (p := ⟨w.heap.size, 1, none⟩) (Nat.le_refl _) _).setCell (p := ⟨w.heap.size, 2, none⟩) (Nat.le_refl _) _).setCell (p := ⟨w.heap.size, 3, none⟩) (Nat.le_refl _) _).setCell (p := ⟨w.heap.size, 4, none⟩) (Nat.le_refl _) _).setCell (p := ⟨w.heap.size, 5, none⟩) (Nat.le_refl _) _)
  have HB6 := Lib.hid hb6
  have H6 := Lib.hid h6
  clear u1 b1 hb hb6 h6
  go_wp2_with fail
  have h6 := H6.out
  generalize (((((((w1.alloc (.cells #[.int .i64 kk, .int .i64 ff, .int .i64 tt, .int .u64 uu, .string ss, .int .i64 xa, .int .i64 xb] NodeT)).setCell ⟨w.heap.size, 0, none⟩ (.int .i64 0)).setCell ⟨w.heap.size, 1, none⟩ (.int .i64 0)).setCell ⟨w.heap.size, 2, none⟩ (.int .i64 0)).setCell ⟨w.heap.size, 3, none⟩ (.int .u64 0)).setCell ⟨w.heap.size, 4, none⟩ (.string ⟨#[]⟩)).setCell ⟨w.heap.size, 5, none⟩ (.slice none 0 0)) = w6 at *
  clear r0 r1 r2 r3 r4 r5 s0 s1 s2 s3 s4 s5
  have d0 := cellB (j := 0) h6 rfl
  have d1 := cellB (j := 1) h6 rfl
  have d2 := cellB (j := 2) h6 rfl
  have d3 := cellB (j := 3) h6 rfl
  have d4 := cellB (j := 4) h6 rfl
  have d5 := cellB (j := 5) h6 rfl
  refine bodyPost_ret (v := .agg #[.int .i64 0, .int .i64 0, .int .i64 0, .int .u64 0, .string ⟨#[]⟩, .slice none 0 0]) (by simp [results, Tryd.results29, go_sem, d0, d1, d2, d3, d4, d5]) rfl ?_
  have z : i64R 0 := i64R_lit (by omega)
  exact ⟨zeroN, .nil, _, rfl, IsK.nils _ _ _ _ (by decide), ⟨nok_zero, rfl, rfl, trivial, trivial⟩, HB6.out, (fun h => absurd h (by rw [HIN.out]; decide)), fun _ => ⟨rfl, rfl⟩⟩
theorem rtree_any (hok : Ok p) : ∀ (n : Nat) (t : Int), t.toNat ≤ n → RTreeC B a vl vs vd p t := by
  intro n
  induction n with
  | zero =>
    intro t ht
    have hin : inP p t = false := by
      cases h : inP p t with
      | false => rfl
      | true => simp only [inP, Bool.and_eq_true, decide_eq_true_eq] at h; omega
    exact rtree_out hin
  | succ n ih =>
    intro t ht
    cases hin : inP p t with
    | false => exact rtree_out hin
    | true =>
      have hless := hok.less_at hin
      have hki := kids_in hok hin
      have hpos : 1 ≤ t := by simp only [inP, Bool.and_eq_true, decide_eq_true_eq] at hin; exact hin.1
      rcases kids_cases (atP p t).1.kind with h | h | h
      · exact rtree_zero hin h
      · exact rtree_one hin h (ih _ (by omega)) (hki.1 (by omega))
      · exact rtree_two hin h (ih _ (by omega)) (hki.1 (by omega)) (ih _ (by omega)) (hki.2 h)
theorem rtree {w : World} (hp : IsRef w B a vl vs vd p) (t : Int) : Calls Tryd.prog 29 #[.pointer (some ⟨a, 0, none⟩), .int .i64 t] w (TreePost w p t) := rtree_any hp.ok t.toNat t (Nat.le_refl _) w hp
end
end Go.Proofs.YteflbecdeinflaaDoor
