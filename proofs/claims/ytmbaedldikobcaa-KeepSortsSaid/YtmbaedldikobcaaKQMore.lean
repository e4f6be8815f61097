/-
  What List makes of a queue in memory; what Pop answers of a queue that is empty.
-/
import Derived.Test.YtmbaedldikobcaaKQueue
import Derived.Test.YtmbaedldikobcaaKList
namespace Go.Proofs.Ytmbaedldikobcaa
open Go.RowKit Go.Shelf
attribute [local go_sem] Oper.semAt_some
set_option linter.unusedVariables false

theorem IsQ.zero (w : World) : IsQ w (.agg #[.pointer none, .int .i64 0]) 0 [] := ⟨none, .nil, rfl, rfl, rfl⟩

set_option maxRecDepth 100000 in
set_option maxHeartbeats 1600000 in
theorem qpop_no {w : World} {v : Value} {n : Int} (h : IsQ w v n []) :
    Calls Try.prog 47 #[v] w fun e w' => e = .returned (.tuple #[.int .i64 0, .agg #[.pointer none, .int .i64 0], .bool false]) ∧ Below w.heap.size w w' := by
  obtain ⟨p, t, rfl, ht, htl⟩ := h
  have hsz : t.size = 0 := by rw [← Tr.size_toL, htl]; rfl
  have b0 : Below w.heap.size w ((w.alloc (.cells #[.pointer p, .int .i64 n] QueT)).alloc (.cells #[.pointer none, .int .i64 0] QueT)) := ((Below.refl _ _).alloc (Nat.le_refl _) _).alloc (by simp) _
  have y0 : ((w.alloc (.cells #[.pointer p, .int .i64 n] QueT)).alloc (.cells #[.pointer none, .int .i64 0] QueT)).heap[w.heap.size + 1]? = some (Obj.cells #[.pointer none, .int .i64 0] QueT) := by
    have e : w.heap.size + 1 = (w.alloc (.cells #[.pointer p, .int .i64 n] QueT)).heap.size := by simp
    rw [e]; exact heap_alloc_new _ _
  have z : ((w.alloc (.cells #[.pointer p, .int .i64 n] QueT)).alloc (.cells #[.pointer none, .int .i64 0] QueT)).heap[w.heap.size]? = some (Obj.cells #[.pointer p, .int .i64 n] QueT) := by
    rw [(((Below.refl _ _).alloc (Nat.le_refl _) (.cells #[.pointer none, .int .i64 0] QueT) : Below (w.alloc (.cells #[.pointer p, .int .i64 n] QueT)).heap.size (w.alloc (.cells #[.pointer p, .int .i64 n] QueT)) _)).block _ (by simp)]; exact heap_alloc_new _ _
  have HZ0 := Lib.hid (cellB (j := 0) (u := .pointer p) z rfl)
  have HZ1 := Lib.hid (cellB (j := 1) (u := .int .i64 n) z rfl)
  have HX := Lib.hid (cellB (j := 0) (u := .pointer none) y0 rfl)
  have HX1 := Lib.hid (cellB (j := 1) (u := .int .i64 0) y0 rfl)
  have HF := Lib.hid (frozenB (j := 0) y0)
  have HF1 := Lib.hid (frozenB (j := 1) y0)
  have HB := Lib.hid b0
  have HY := Lib.hid y0
  have HH := Lib.hid (ht.below b0)
  have htn : t = .nil := by
    cases t with
    | nil => rfl
    | _ => simp [Tr.size] at hsz <;> omega
  subst htn
  have hm : ∀ w' : World, Below w'.heap.size w' w' → IsTI w' (.pointer p) .nil → Calls Try.prog 100 #[.agg #[.pointer p], .int .i64 0] w' fun e w2 => e = .returned (.tuple #[.int .i64 0, .int .i64 0, .bool false]) ∧ Below w'.heap.size w' w2 := fun w' _ hT => matI 0 hT (by decide) (by omega)
  have HM := Lib.hid hm
  clear b0 y0 z ht htl hsz hm
  go_enter Try.func47, Try.ntmps47
  go_wp2_with fail
  generalize ((w.alloc (.cells #[.pointer p, .int .i64 n] QueT)).alloc (.cells #[.pointer none, .int .i64 0] QueT)) = W at *
  refine (HM.out _ (Below.refl _ _) HH.out).mono ?_
  rintro e w9 ⟨rfl, u9⟩
  have z0 := bcellAt u9 HZ0.out
  have z1 := bcellAt u9 HZ1.out
  have HU9 := Lib.hid u9
  clear u9
  have x1 := bcellAt HU9.out HX.out
  have f1 := bfrozenAt HU9.out HX.out HF.out
  have x2 := bcellAt HU9.out HX1.out
  have f2 := bfrozenAt HU9.out HX1.out HF1.out
  have hy1 := Hold.below (T := QueT) HU9.out _ _ HY.out
  have hy2 := setCellB (j := 0) (u := .pointer none) hy1
  have hy3 := setCellB (j := 1) (u := .int .i64 0) hy2
  have hc0 : ((w9.setCell ⟨w.heap.size + 1, 0, none⟩ (.pointer none)).setCell ⟨w.heap.size + 1, 1, none⟩ (.int .i64 0)).cell? ⟨w.heap.size + 1, 0, none⟩ = some (.pointer none) := cellB hy3 rfl
  have hc1 : ((w9.setCell ⟨w.heap.size + 1, 0, none⟩ (.pointer none)).setCell ⟨w.heap.size + 1, 1, none⟩ (.int .i64 0)).cell? ⟨w.heap.size + 1, 1, none⟩ = some (.int .i64 0) := cellB hy3 rfl
  have HE := Lib.hid (((HB.out.trans (HU9.out.mono HB.out.size)).setCell (p := ⟨w.heap.size + 1, 0, none⟩) (by simp) (.pointer none)).setCell (p := ⟨w.heap.size + 1, 1, none⟩) (by simp) (.int .i64 0))
  clear hy1 hy2 hy3
  go_wp2_with fail
  refine bodyPost_ret (v := .tuple #[.int .i64 0, .agg #[.pointer none, .int .i64 0], .bool false]) (by simp [results, Try.results47, go_sem, hc0, hc1]) rfl ?_
  exact ⟨rfl, HE.out⟩

set_option maxRecDepth 100000 in
set_option maxHeartbeats 3200000 in
theorem qlist {w : World} {v0 : Value} {n0 : Int} {l0 : List Int} (h0 : IsQ w v0 n0 l0) (hs0 : l0.length < 100000) :
    CallsIn Fence.wide 3 Try.prog 50 #[v0] w fun e w' => ∃ v, e = .returned v ∧ w'.ownsRow w.heap.size 3 1 v l0.length (ints l0) ∧ Below w.heap.size w w' := by
  obtain ⟨p, t, rfl, h, htl⟩ := h0
  have hsz : t.size = l0.length := by rw [← Tr.size_toL, htl, qL_length]
  have hs : t.size < 100000 := by omega
  have hq1 : l0.length = t.toL.length := by rw [htl, qL_length]
  have hq2 : l0 = t.toL.map Prod.snd := by rw [htl, qL_snd]
  rw [hq1, hq2]
  have h9 : IsQ w (.agg #[.pointer p, .int .i64 n0]) n0 l0 := ⟨p, t, rfl, h, htl⟩
  obtain ⟨i0, hi, hz0, hz1, hz2⟩ := info_parts rowI
  have HT := Lib.hid h
  have HL := Lib.hid (Tr.size_toL t)
  have b0 : Below w.heap.size w (w.alloc (.cells #[.pointer p, .int .i64 n0] QueT)) := (Below.refl _ _).alloc (Nat.le_refl _) _
  have z : (w.alloc (.cells #[.pointer p, .int .i64 n0] QueT)).heap[w.heap.size]? = some (Obj.cells #[.pointer p, .int .i64 n0] QueT) := heap_alloc_new w _
  have HB := Lib.hid b0
  have HZ := Lib.hid z
  have h1 := Lib.hid (h9.below b0)
  clear h b0 z h9 htl hq1 hq2
  refine callsIn_of_wp_marks Try.func50 rfl trivial ?_ rfl
  simp only [Try.ntmps50, List.size_toArray, List.length_cons, List.length_nil, Nat.reduceAdd, Nat.reduceSub, Array.replicate_succ, Array.replicate_zero, List.push_toArray, List.append_toArray, List.nil_append, List.cons_append]
  gi_wp2_with fail
  refine ⟨trivial, (callsIn_wide.2 (qlen h1.out)).mono ?_⟩
  rintro e w1 ⟨rfl, u1⟩
  generalize hW : w.alloc (.cells #[.pointer p, .int .i64 n0] QueT) = W at *
  have hh := Hold.below (T := QueT) u1 _ _ HZ.out
  have x0 : w1.cell? ⟨w.heap.size, 0, none⟩ = some (.pointer p) := cellB hh rfl
  have HB1 := Lib.hid (HB.out.trans (u1.mono HB.out.size))
  have HH := Lib.hid hh
  have hsz : w.heap.size < w1.heap.size := (Array.getElem?_eq_some_iff.1 hh).1
  clear u1 hh
  gi_wp2_with (with_reducible refine wpListIn_make_own _ rfl _ _ 50 rfl w.heap.size 3 i0 (.int .i64 0) 1 Try.underlying50 hi hz0 hz1 _ _ (l0.length : Int) l0.length rfl rfl rfl (by rw [hz2]; omega) (by unfold maxLen; omega) (by omega) ?_; intro w2 hown hgrow; have g2 := grown_below hgrow (Nat.le_refl _) (fun k e => by cases e); have x2 := fun o : Obj => bcellAt ((Below.refl w2.heap.size w2).alloc (Nat.le_refl _) o) (bcellAt g2 x0))
  have HX2 := Lib.hid x2
  have HG := Lib.hid g2
  have HO := Lib.hid hown
  clear x2 g2 hgrow hown
  refine ⟨trivial, (callsIn_wide.2 (mallI p _)).mono ?_⟩
  rintro e w3 ⟨rfl, rfl⟩
  have hL0 : ((w2.alloc (.cells #[.slice (some ⟨w1.heap.size, 0, none⟩) 0 l0.length] 50)).alloc (.cells #[.pointer p] 79)).heap[w2.heap.size]? = some (Obj.cells #[.slice (some ⟨w1.heap.size, 0, none⟩) 0 l0.length] 50) := by
    rw [(((Below.refl _ _).alloc (Nat.le_refl _) (.cells #[.pointer p] 79) : Below (w2.alloc (.cells #[.slice (some ⟨w1.heap.size, 0, none⟩) 0 l0.length] 50)).heap.size (w2.alloc (.cells #[.slice (some ⟨w1.heap.size, 0, none⟩) 0 l0.length] 50)) _)).block _ (by simp)]; exact heap_alloc_new _ _
  have hbt : ((w2.alloc (.cells #[.slice (some ⟨w1.heap.size, 0, none⟩) 0 l0.length] 50)).alloc (.cells #[.pointer p] 79)).heap[w2.heap.size + 1]? = some (Obj.cells #[.pointer p] 79) := by
    have e : w2.heap.size + 1 = (w2.alloc (.cells #[.slice (some ⟨w1.heap.size, 0, none⟩) 0 l0.length] 50)).heap.size := by simp
    rw [e]; exact heap_alloc_new _ _
  have hb3 : Below w2.heap.size w2 ((w2.alloc (.cells #[.slice (some ⟨w1.heap.size, 0, none⟩) 0 l0.length] 50)).alloc (.cells #[.pointer p] 79)) := ((Below.refl _ _).alloc (Nat.le_refl _) _).alloc (by simp) _
  have hs3 : ((w2.alloc (.cells #[.slice (some ⟨w1.heap.size, 0, none⟩) 0 l0.length] 50)).alloc (.cells #[.pointer p] 79)).heap.size = w2.heap.size + 2 := by simp
  have hs2 := HG.out.size
  have HL0 := Lib.hid hL0
  have HBT := Lib.hid hbt
  have HS3 := Lib.hid hs3
  have HB3 := Lib.hid ((HB1.out.trans (HG.out.mono (Nat.le_of_lt hsz))).trans (hb3.mono (by omega)))
  have HO3 := Lib.hid (own_hold HO.out (Hold.below hb3))
  clear hL0 hbt hb3 hs3 HX2
  gi_wp2_with fail
  generalize ((w2.alloc (.cells #[.slice (some ⟨w1.heap.size, 0, none⟩) 0 l0.length] 50)).alloc (.cells #[.pointer p] 79)) = W3 at *
  generalize w2.heap.size = L at *
  have hw3 : w.heap.size ≤ W3.heap.size := HB3.out.size
  refine wpIn_rangeFunc_ownF rfl (by decide) (gf := 138) (lb := #[.pointer (some ⟨L + 1, 0, none⟩)]) rfl trivial (enters_of Try.func138 (by kernel_rfl) rfl)
    (stopsI 2 (L + 1) p t w W3 HB3.out (cellB HBT.out rfl) HT.out) belowK_t (belowK_b hw3) (Below.refl _ _) (fun _ => rfl)
    (fun pre W => Lst w L 50 3 1 pre.length (ints (pre.map Prod.snd)) W) (fun _ _ _ => False) (Lst.own (fun pre => ints (pre.map Prod.snd)) hw3) (fun _ _ _ _ _ hs _ _ => hs) ⟨_, HL0.out, HO3.out, HB3.out⟩
    ?a1 ?assign ?body ?done ?stop
  case assign =>
    intro l x W' K hK
    gi_wp2
    exact hK
  case stop => intro D c pre W' _ _ h; exact h.elim
  case body =>
    rintro l pre x W' ⟨v, hl, ho, hb⟩ hlt
    have hlen : pre.length < 100000 := by have := HL.out; omega
    have x1 : W'.cell? ⟨L, 0, none⟩ = some v := cellB hl rfl
    have f1 : W'.frozen? ⟨L, 0, none⟩ = false := frozenB hl
    have hLl : L < W'.heap.size := (Array.getElem?_eq_some_iff.1 hl).1
    have hneL : v.ownBlock ≠ some L := fun e => by
      obtain ⟨_, cur, hc⟩ := own_type ho e
      rw [hl] at hc
      simp at hc
    obtain ⟨av, cv, rfl⟩ := (row_of_own ho).shape
    have HLL := Lib.hid hl
    have HO := Lib.hid ho
    have HBB := Lib.hid hb
    have HNE := Lib.hid hneL
    have bA : Below W'.heap.size W' (W'.alloc (.cells #[.int .i64 x.2] 3)) := (Below.refl _ _).alloc (Nat.le_refl _) _
    have HOA := Lib.hid (own_hold ho (Hold.below bA))
    have HBA := Lib.hid bA
    have hsb := hb.size
    clear hl ho hb hneL bA
    gi_wp2_with (first
      | (gi_at_builtin; refine wpListIn_append_own _ rfl _ _ 50 rfl w.heap.size 3 i0 (.int .i64 0) 1 8 Try.underlying50 hi hz0 hz1 hz2 rfl (by decide) _ _ _ rfl HOA.out ⟨W'.heap.size, 0, none⟩ 1 1 [.int .i64 x.2] rfl rfl (cell_one_new _ _ _) (by simp [Value.oneCell']) (by unfold maxLen; omega) (by omega) (by simp; omega) ?_
         intro v' w5 hown' hg' _
         obtain ⟨sa, sc, rfl⟩ := (row_of_own hown').shape
         have hl5 : w5.heap[L]? = some (Obj.cells #[.slice av pre.length cv] 50) := by
           rw [hg'.block L (by simp; omega) (fun e => HNE.out e.symm), HBA.out.block L hLl]; exact HLL.out
         have x5 : w5.cell? ⟨L, 0, none⟩ = some (.slice av pre.length cv) := cellB hl5 rfl
         have f5 : w5.frozen? ⟨L, 0, none⟩ = false := frozenB hl5
         have HL5 := Lib.hid hl5
         have HO5 := Lib.hid hown'
         have HG5 := Lib.hid hg'
         clear hl5 hown' hg'))
    have hb5 : Below w.heap.size (W'.alloc (.cells #[.int .i64 x.2] 3)) w5 := grown_below HG5.out (by simp; omega) (fun k e => (own_type HO.out e).1)
    have hb6 : Below w.heap.size W' w5 := (HBA.out.mono hsb).trans hb5
    have hb7 : Below w.heap.size W' (w5.setCell ⟨L, 0, none⟩ (.slice sa (pre.length + 1) sc)) := hb6.setCell (p := ⟨L, 0, none⟩) (by show w.heap.size ≤ L; omega) _
    refine ⟨((KeepsOthers.alloc _ _).trans (KeepsOthers.of_grownBy HG5.out (fun j o e ho => ?_))).trans (KeepsOthers.setCell _ _ _), hb7, ⟨_, setCellB HL5.out, ?_, HBB.out.trans hb7⟩⟩
    · obtain ⟨_, cur, hc⟩ := own_type HOA.out e
      rw [ho] at hc
      cases hc
      rfl
    · have := own_hold HO5.out (Hold.setCell (o := 0) (v := .slice sa (pre.length + 1) sc) HL5.out (by decide))
      simpa [ints, List.map_append] using this
  case done =>
    rintro D ys W' hD rfl ⟨v, hl, ho, hb⟩ hK
    have x1 : W'.cell? ⟨L, 0, none⟩ = some v := cellB hl rfl
    have HO := Lib.hid ho
    have HBB := Lib.hid hb
    have HK := Lib.hid hK
    have HLL := Lib.hid hl
    clear ho hb hl hK
    gi_wp2
    refine ⟨by simp, .inl ⟨_, _, rfl, run_takeDeferred HK.out, ?_⟩⟩
    exact ⟨_, results_tmp rfl _ _ _, v, rfl, own_kept HO.out (grownBy_putObj' W' D _) (fun r e => by cases e; exact ⟨_, HK.out, rfl⟩), HBB.out.grown (grownBy_putObj' W' D _) HBB.out.size (fun k e => by cases e; omega)⟩

end Go.Proofs.Ytmbaedldikobcaa
