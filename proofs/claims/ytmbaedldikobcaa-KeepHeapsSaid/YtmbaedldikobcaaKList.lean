/-
  What List makes of a set in memory.
-/
import Derived.Test.YtmbaedldikobcaaKSet
import Derived.Test.YtmbaedldikobcaaKIntern
import Derived.Maps.AppendAt
namespace Go.Proofs.Ytmbaedldikobcaa
open Go.RowKit Go.Shelf
attribute [local go_sem] Oper.semAt_some
set_option linter.unusedVariables false

theorem rowI : (Try.prog.info? 3).map (fun i => (i.zero, i.size, i.bytes)) = some (some (.int .i64 0), 1, 8) := by kernel_rfl

/-- What is of the caller's own while a list is made: its variable, the row, the rest. -/
def Lst (w0 : World) (L : Nat) (T : TypeId) (e : TypeId) (size : Nat) (n : Nat) (cs : List Value) (W : World) : Prop :=
  ∃ v, W.heap[L]? = some (Obj.cells #[v] T) ∧ W.ownsRow w0.heap.size e size v n cs ∧ Below w0.heap.size w0 W
theorem Lst.own {α : Type} {w0 : World} {L : Nat} {T e : TypeId} {size : Nat} (f : List α → List Value) {B : Nat} (hB : w0.heap.size ≤ B) : OwnFrom B (fun (pre : List α) W => Lst w0 L T e size pre.length (f pre) W) := by
  intro s W W' row ⟨v, h1, h2, h3⟩ hg hr
  refine ⟨v, ?_, own_kept h2 hg (fun r e => (hr r e).2), h3.grown hg h3.size (fun k e => Nat.le_trans hB (hr k e).1)⟩
  rw [hg.block L (Array.getElem?_eq_some_iff.1 h1).1 (fun e => ?_)]
  · exact h1
  · obtain ⟨_, o, ho, hn⟩ := hr L e.symm
    rw [h1] at ho
    cases ho
    simp [Obj.isCells] at hn

set_option maxRecDepth 100000 in
set_option maxHeartbeats 3200000 in
theorem slist {w : World} {p : Option Addr} {t : Tr Int Unit} (h : IsTU w (.pointer p) t) (hs : t.size < 100000) :
    CallsIn Fence.wide 3 Try.prog 40 #[.agg #[.pointer p]] w fun e w' => ∃ v, e = .returned v ∧ w'.ownsRow w.heap.size 3 1 v t.toL.length (ints (t.toL.map Prod.fst)) ∧ Below w.heap.size w w' := by
  obtain ⟨i0, hi, hz0, hz1, hz2⟩ := info_parts rowI
  have HT := Lib.hid h
  have HL := Lib.hid (Tr.size_toL t)
  have b0 : Below w.heap.size w (w.alloc (.cells #[.pointer p] SetT)) := (Below.refl _ _).alloc (Nat.le_refl _) _
  have z : (w.alloc (.cells #[.pointer p] SetT)).heap[w.heap.size]? = some (Obj.cells #[.pointer p] SetT) := heap_alloc_new w _
  have HB := Lib.hid b0
  have HZ := Lib.hid z
  have h1 := Lib.hid (h.below b0)
  clear h b0 z
  refine callsIn_of_wp_marks Try.func40 rfl trivial ?_ rfl
  simp only [Try.ntmps40, List.size_toArray, List.length_cons, List.length_nil, Nat.reduceAdd, Nat.reduceSub, Array.replicate_succ, Array.replicate_zero, List.push_toArray, List.append_toArray, List.nil_append, List.cons_append]
  gi_wp2_with fail
  refine ⟨trivial, (callsIn_wide.2 (slen h1.out)).mono ?_⟩
  rintro e w1 ⟨rfl, u1⟩
  generalize hW : w.alloc (.cells #[.pointer p] SetT) = W at *
  have hh := Hold.below (T := SetT) u1 _ _ HZ.out
  have x0 : w1.cell? ⟨w.heap.size, 0, none⟩ = some (.pointer p) := cellB hh rfl
  have HB1 := Lib.hid (HB.out.trans (u1.mono HB.out.size))
  have HH := Lib.hid hh
  have hsz : w.heap.size < w1.heap.size := (Array.getElem?_eq_some_iff.1 hh).1
  clear u1 hh
  gi_wp2_with (with_reducible refine wpListIn_make_own _ rfl _ _ 50 rfl w.heap.size 3 i0 (.int .i64 0) 1 Try.underlying50 hi hz0 hz1 _ _ (t.size : Int) t.size rfl rfl rfl (by rw [hz2]; omega) (by unfold maxLen; omega) (by omega) ?_; intro w2 hown hgrow; have g2 := grown_below hgrow (Nat.le_refl _) (fun k e => by cases e); have x2 := fun o : Obj => bcellAt ((Below.refl w2.heap.size w2).alloc (Nat.le_refl _) o) (bcellAt g2 x0))
  have HX2 := Lib.hid x2
  have HG := Lib.hid g2
  have HO := Lib.hid hown
  clear x2 g2 hgrow hown
  refine ⟨trivial, (callsIn_wide.2 (mallU p _)).mono ?_⟩
  rintro e w3 ⟨rfl, rfl⟩
  have hL0 : ((w2.alloc (.cells #[.slice (some ⟨w1.heap.size, 0, none⟩) 0 t.size] 50)).alloc (.cells #[.pointer p] 58)).heap[w2.heap.size]? = some (Obj.cells #[.slice (some ⟨w1.heap.size, 0, none⟩) 0 t.size] 50) := by
    rw [(((Below.refl _ _).alloc (Nat.le_refl _) (.cells #[.pointer p] 58) : Below (w2.alloc (.cells #[.slice (some ⟨w1.heap.size, 0, none⟩) 0 t.size] 50)).heap.size (w2.alloc (.cells #[.slice (some ⟨w1.heap.size, 0, none⟩) 0 t.size] 50)) _)).block _ (by simp)]; exact heap_alloc_new _ _
  have hbt : ((w2.alloc (.cells #[.slice (some ⟨w1.heap.size, 0, none⟩) 0 t.size] 50)).alloc (.cells #[.pointer p] 58)).heap[w2.heap.size + 1]? = some (Obj.cells #[.pointer p] 58) := by
    have e : w2.heap.size + 1 = (w2.alloc (.cells #[.slice (some ⟨w1.heap.size, 0, none⟩) 0 t.size] 50)).heap.size := by simp
    rw [e]; exact heap_alloc_new _ _
  have hb3 : Below w2.heap.size w2 ((w2.alloc (.cells #[.slice (some ⟨w1.heap.size, 0, none⟩) 0 t.size] 50)).alloc (.cells #[.pointer p] 58)) := ((Below.refl _ _).alloc (Nat.le_refl _) _).alloc (by simp) _
  have hs3 : ((w2.alloc (.cells #[.slice (some ⟨w1.heap.size, 0, none⟩) 0 t.size] 50)).alloc (.cells #[.pointer p] 58)).heap.size = w2.heap.size + 2 := by simp
  have hs2 := HG.out.size
  have HL0 := Lib.hid hL0
  have HBT := Lib.hid hbt
  have HS3 := Lib.hid hs3
  have HB3 := Lib.hid ((HB1.out.trans (HG.out.mono (Nat.le_of_lt hsz))).trans (hb3.mono (by omega)))
  have HO3 := Lib.hid (own_hold HO.out (Hold.below hb3))
  clear hL0 hbt hb3 hs3 HX2
  gi_wp2_with fail
  generalize ((w2.alloc (.cells #[.slice (some ⟨w1.heap.size, 0, none⟩) 0 t.size] 50)).alloc (.cells #[.pointer p] 58)) = W3 at *
  generalize w2.heap.size = L at *
  have hw3 : w.heap.size ≤ W3.heap.size := HB3.out.size
  refine wpIn_rangeFunc_ownF rfl (by decide) (gf := 124) (lb := #[.pointer (some ⟨L + 1, 0, none⟩)]) rfl trivial (enters_of Try.func124 (by kernel_rfl) rfl)
    (stopsU 2 (L + 1) p t w W3 HB3.out (cellB HBT.out rfl) HT.out) belowK_t (belowK_b hw3) (Below.refl _ _) (fun _ => rfl)
    (fun pre W => Lst w L 50 3 1 pre.length (ints (pre.map Prod.fst)) W) (fun _ _ _ => False) (Lst.own (fun pre => ints (pre.map Prod.fst)) hw3) (fun _ _ _ _ _ hs _ _ => hs) ⟨_, HL0.out, HO3.out, HB3.out⟩
    ?a1 ?assign ?body ?done ?stop
  case assign =>
    intro l x W' K hK
    gi_wp2
    exact hK
  case stop => intro D c pre W' _ _ h; exact h.elim
  case body =>
    rintro l pre x W' ⟨v, hl, ho, hb⟩ hlt
    have hlen : pre.length < 100000 := by have := HL.out; omega
    have x1 : W'.cell? ⟨L, 0, none⟩ = some v := cellB hl rfl
    have f1 : W'.frozen? ⟨L, 0, none⟩ = false := frozenB hl
    have hLl : L < W'.heap.size := (Array.getElem?_eq_some_iff.1 hl).1
    have hneL : v.ownBlock ≠ some L := fun e => by
      obtain ⟨_, cur, hc⟩ := own_type ho e
      rw [hl] at hc
      simp at hc
    obtain ⟨av, cv, rfl⟩ := (row_of_own ho).shape
    have HLL := Lib.hid hl
    have HO := Lib.hid ho
    have HBB := Lib.hid hb
    have HNE := Lib.hid hneL
    have bA : Below W'.heap.size W' (W'.alloc (.cells #[.int .i64 x.1] 3)) := (Below.refl _ _).alloc (Nat.le_refl _) _
    have HOA := Lib.hid (own_hold ho (Hold.below bA))
    have HBA := Lib.hid bA
    have hsb := hb.size
    clear hl ho hb hneL bA
    gi_wp2_with (first
      | (gi_at_builtin; refine wpListIn_append_own _ rfl _ _ 50 rfl w.heap.size 3 i0 (.int .i64 0) 1 8 Try.underlying50 hi hz0 hz1 hz2 rfl (by decide) _ _ _ rfl HOA.out ⟨W'.heap.size, 0, none⟩ 1 1 [.int .i64 x.1] rfl rfl (cell_one_new _ _ _) (by simp [Value.oneCell']) (by unfold maxLen; omega) (by omega) (by simp; omega) ?_
         intro v' w5 hown' hg' _
         obtain ⟨sa, sc, rfl⟩ := (row_of_own hown').shape
         have hl5 : w5.heap[L]? = some (Obj.cells #[.slice av pre.length cv] 50) := by
           rw [hg'.block L (by simp; omega) (fun e => HNE.out e.symm), HBA.out.block L hLl]; exact HLL.out
         have x5 : w5.cell? ⟨L, 0, none⟩ = some (.slice av pre.length cv) := cellB hl5 rfl
         have f5 : w5.frozen? ⟨L, 0, none⟩ = false := frozenB hl5
         have HL5 := Lib.hid hl5
         have HO5 := Lib.hid hown'
         have HG5 := Lib.hid hg'
         clear hl5 hown' hg'))
    have hb5 : Below w.heap.size (W'.alloc (.cells #[.int .i64 x.1] 3)) w5 := grown_below HG5.out (by simp; omega) (fun k e => (own_type HO.out e).1)
    have hb6 : Below w.heap.size W' w5 := (HBA.out.mono hsb).trans hb5
    have hb7 : Below w.heap.size W' (w5.setCell ⟨L, 0, none⟩ (.slice sa (pre.length + 1) sc)) := hb6.setCell (p := ⟨L, 0, none⟩) (by show w.heap.size ≤ L; omega) _
    refine ⟨((KeepsOthers.alloc _ _).trans (KeepsOthers.of_grownBy HG5.out (fun j o e ho => ?_))).trans (KeepsOthers.setCell _ _ _), hb7, ⟨_, setCellB HL5.out, ?_, HBB.out.trans hb7⟩⟩
    · obtain ⟨_, cur, hc⟩ := own_type HOA.out e
      rw [ho] at hc
      cases hc
      rfl
    · have := own_hold HO5.out (Hold.setCell (o := 0) (v := .slice sa (pre.length + 1) sc) HL5.out (by decide))
      simpa [ints, List.map_append] using this
  case done =>
    rintro D ys W' hD rfl ⟨v, hl, ho, hb⟩ hK
    have x1 : W'.cell? ⟨L, 0, none⟩ = some v := cellB hl rfl
    have HO := Lib.hid ho
    have HBB := Lib.hid hb
    have HK := Lib.hid hK
    have HLL := Lib.hid hl
    clear ho hb hl hK
    gi_wp2
    refine ⟨by simp, .inl ⟨_, _, rfl, run_takeDeferred HK.out, ?_⟩⟩
    exact ⟨_, results_tmp rfl _ _ _, v, rfl, own_kept HO.out (grownBy_putObj' W' D _) (fun r e => by cases e; exact ⟨_, HK.out, rfl⟩), HBB.out.grown (grownBy_putObj' W' D _) HBB.out.size (fun k e => by cases e; omega)⟩

end Go.Proofs.Ytmbaedldikobcaa
