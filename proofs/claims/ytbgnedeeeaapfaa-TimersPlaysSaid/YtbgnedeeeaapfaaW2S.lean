/-
  What lay and take do with a wheel of strings in memory.
-/
import Derived.Test.YtbgnedeeeaapfaaW1S
import Derived.Test.YtbgnedeeeaapfaaKLexT
import Derived.StillTailTactics
import Derived.Deep.DeepCutAuto
import Derived.Deep.RegionHeld3
namespace Go.Proofs.Ytbgnedeeeaapfaa
open Go.RowKit Go.Maps
set_option linter.unusedVariables false
theorem balS (w : World) (o : Obj) : Below w.heap.size w (w.alloc o).drew := ((Below.refl _ _).alloc (Nat.le_refl _) _).drew
theorem IsWS.cellsB {w : World} {a mb : Nat} {cv : Value} {tn : Bool} {x : Wh} (h : IsWS w a mb cv tn x) {W : World} (hW : W.heap[a]? = w.heap[a]?) : ∃ p, W.cell? ⟨a, 0, none⟩ = some (.int .i64 x.now) ∧ W.cell? ⟨a, 2, none⟩ = some (.int .i64 x.pls) ∧ W.cell? ⟨a, 4, none⟩ = some (.pointer p) := by
  obtain ⟨p, h1, h2⟩ := h.lay
  rw [← hW] at h1
  exact ⟨p, cellB h1 rfl, cellB h1 rfl, cellB h1 rfl⟩
set_option maxRecDepth 100000 in
set_option maxHeartbeats 3200000 in
theorem layS {w : World} {a mb : Nat} {cv : Value} {tn : Bool} {x : Wh} (h : IsWS w a mb cv tn x) {id at' : Int} (s : ByteArray) (hf : ∀ t ∈ x.ts, t.id ≠ id) (h0 : 0 ≤ id) (h1 : id < x.ids) (h2 : x.now ≤ at') (h3 : at' ≤ maxI) (hl : x.ts.length < 4096) (hp : x.pls < 400000) :
    Calls Try.prog 71 #[.pointer (some ⟨a, 0, none⟩), .int .i64 id, .int .i64 at', .string s] w fun e w' => e = .returned (.tuple #[]) ∧ IsWS w' a mb cv tn (layP x id at' (.string s)) ∧ Touch (fun k => k = a ∨ k = mb) w w' := by
  have hg := h.good
  have hne := h.ne
  have hidM := hg.idM
  have hpl0 := hg.pls0
  obtain ⟨p, y0, G, hG, hL⟩ := h.lay
  obtain ⟨w1, hr, hm1, ht1⟩ := (h.map.below (bd w)).store underS hp hg.nd (x := ⟨id, at', x.pls, .string s⟩) (by unfold i64R; simp only; omega) hf
  simp only [tmV] at hr
  have y1 : w1.heap[a]? = some (Obj.cells #[.int .i64 x.now, .int .i64 x.ids, .int .i64 x.pls, .map (some mb), .pointer p, cv, .bool tn] WhTS) := (turned_cell ht1 hne).trans y0
  have k1 : Keep2 w w1 := .touch ((touch_drew w _).trans (turned_touch ht1 (fun k => k = a ∨ k = mb) (.inr rfl))) h.notNode
  have T1 := Lib.hid ((touch_drew w _).trans (turned_touch ht1 (fun k => k = a ∨ k = mb) (.inr rfl)))
  have HG1 := Lib.hid (hG.hold k1)
  have HL := Lib.hid hL
  have HM1 := Lib.hid hm1
  have HX := Lib.hid h
  have HF := Lib.hid hf
  have c2 : w.cell? ⟨a, 2, none⟩ = some (.int .i64 x.pls) := cellB y0 rfl
  have c3 : w.cell? ⟨a, 3, none⟩ = some (.map (some mb)) := cellB y0 rfl
  have d4 : w1.cell? ⟨a, 4, none⟩ = some (.pointer p) := cellB y1 rfl
  have Y1 := Lib.hid y1
  have HLT : Hid (a < w1.heap.size) := Lib.hid (Array.getElem?_eq_some_iff.1 y1).1
  have HMT := Lib.hid hm1.lt
  have HGL := Lib.hid hL.glen
  have HLL := Lib.hid (hL.llen at')
  have HGD := Lib.hid hg
  have HN := Lib.hid (show x.ts.length < 4096 from hl)
  have HB := Lib.hid (show 0 ≤ id ∧ id < x.ids ∧ x.now ≤ at' ∧ at' ≤ maxI ∧ x.pls < 400000 ∧ 0 ≤ x.pls from ⟨h0, h1, h2, h3, hp, hpl0⟩)
  have hw : IntKind.i64.wrap (x.pls + 1) = x.pls + 1 := IntWalk.i64_in _ (by omega)
  clear h hG hL y0 y1 hm1 ht1 k1 hf hg hidM h0 h1 h2 h3 hl hp hpl0
  go_enter Try.func71, Try.ntmps71
  go_wp2_with fail
  go_still_tail 12, (by kernel_rfl)
  change wpList _ _ _ _ _ w.drew
  go_wp2_with fail
  clear c2 c3 hr
  refine (tget at' HG1.out HL.out.so).mono ?_
  rintro e w2 ⟨q, b, rfl, l2, u2⟩
  have b3 : Below w1.heap.size w1 (w2.alloc (.cells #[.pointer q] MapN)) := u2.alloc u2.size _
  have z3 : (w2.alloc (.cells #[.pointer q] MapN)).heap[w2.heap.size]? = some (Obj.cells #[.pointer q] MapN) := heap_alloc_new _ _
  have l3 := l2.below (w' := w2.alloc (.cells #[.pointer q] MapN)) ((Below.refl _ _).alloc (Nat.le_refl _) _)
  have y3 := (b3.block a HLT.out).trans Y1.out
  have f0 := cellB (j := 0) z3 rfl
  have f2 := cellB (j := 2) y3 rfl
  have f4 := cellB (j := 4) y3 rfl
  have B3 := Lib.hid b3
  have L3 := Lib.hid l3
  have Y3 := Lib.hid y3
  clear l2 u2 b3 z3 l3 y3 d4
  go_wp2_with fail
  generalize (w2.alloc (.cells #[.pointer q] MapN)) = W3 at *
  have hF : ∀ W : World, Below W3.heap.size W3 W → W.cell? ⟨w2.heap.size, 0, none⟩ = some (.pointer q) ∧ W.cell? ⟨a, 2, none⟩ = some (.int .i64 x.pls) ∧ (false = false → W.cell? ⟨a, 4, none⟩ = some (.pointer p)) := fun W hW => ⟨bcellAt hW f0, bcellAt hW f2, fun _ => bcellAt hW f4⟩
  have HK := Lib.hid hF
  clear hF f0 f2 f4
  refine lext_start [0, 1, 2, 3, 4, 5, 6, 7, 8, 9, 10, 11, 12, 13, 14, 15, 16] 13 16 (F := fun b W => W.cell? ⟨w2.heap.size, 0, none⟩ = some (.pointer q) ∧ W.cell? ⟨a, 2, none⟩ = some (.int .i64 x.pls) ∧ (b = false → W.cell? ⟨a, 4, none⟩ = some (.pointer p))) (by kernel_rfl) ?_
  simp only [inOrder, List.filterMap, List.getElem?_cons_succ, List.getElem?_cons_zero]
  have hS := HK.out _ (bd W3)
  refine lext_late (i := 0) (v := ?_) (b := false) rfl (by decide) (by decide) (by kernel_rfl) (by kernel_rfl) (by kernel_rfl) (by kernel_rfl) (by kernel_rfl) (fun W h => ⟨h.1, h.2.1, fun e => (by cases e)⟩) (by rfl) hS ?_ ?_
  rotate_left
  · ((intro W hW; obtain ⟨k0, k1, _⟩ := hW; go_simp) <;> with_reducible rfl)
  (try simp only [Act.put, List.setIfInBounds_toArray, List.set_cons_zero, List.set_cons_succ])
  refine lext_late (i := 1) (v := ?_) (b := false) rfl (by decide) (by decide) (by kernel_rfl) (by kernel_rfl) (by kernel_rfl) (by kernel_rfl) (by kernel_rfl) (fun W h => ⟨h.1, h.2.1, fun e => (by cases e)⟩) (by rfl) hS ?_ ?_
  rotate_left
  · ((intro W hW; obtain ⟨k0, k1, _⟩ := hW; go_simp) <;> with_reducible rfl)
  (try simp only [Act.put, List.setIfInBounds_toArray, List.set_cons_zero, List.set_cons_succ])
  refine lext_late (i := 2) (v := ?_) (b := false) rfl (by decide) (by decide) (by kernel_rfl) (by kernel_rfl) (by kernel_rfl) (by kernel_rfl) (by kernel_rfl) (fun W h => ⟨h.1, h.2.1, fun e => (by cases e)⟩) (by rfl) hS ?_ ?_
  rotate_left
  · ((intro W hW; obtain ⟨k0, k1, _⟩ := hW; go_simp) <;> with_reducible rfl)
  (try simp only [Act.put, List.setIfInBounds_toArray, List.set_cons_zero, List.set_cons_succ])
  refine lext_late (i := 3) (v := ?_) (b := false) rfl (by decide) (by decide) (by kernel_rfl) (by kernel_rfl) (by kernel_rfl) (by kernel_rfl) (by kernel_rfl) (fun W h => ⟨h.1, h.2.1, fun e => (by cases e)⟩) (by rfl) hS ?_ ?_
  rotate_left
  · ((intro W hW; obtain ⟨k0, k1, _⟩ := hW; go_simp) <;> with_reducible rfl)
  (try simp only [Act.put, List.setIfInBounds_toArray, List.set_cons_zero, List.set_cons_succ])
  refine lext_take (i := 4) (v := ?_) rfl (by decide) (by decide) (by kernel_rfl) (by kernel_rfl) (by kernel_rfl) (by kernel_rfl) (by kernel_rfl) (by kernel_rfl) (by rfl) hS ?_ ?_
  rotate_left
  · ((intro W hW; obtain ⟨k0, k1, k2⟩ := hW; have k2 := k2 rfl; go_simp) <;> with_reducible rfl)
  (try simp only [Act.put, List.setIfInBounds_toArray, List.set_cons_zero, List.set_cons_succ])
  refine lext_late (i := 5) (v := ?_) (b := false) rfl (by decide) (by decide) (by kernel_rfl) (by kernel_rfl) (by kernel_rfl) (by kernel_rfl) (by kernel_rfl) (fun W h => ⟨h.1, h.2.1, fun e => (by cases e)⟩) (by rfl) hS ?_ ?_
  rotate_left
  · ((intro W hW; obtain ⟨k0, k1, _⟩ := hW; go_simp) <;> with_reducible rfl)
  (try simp only [Act.put, List.setIfInBounds_toArray, List.set_cons_zero, List.set_cons_succ])
  refine lext_late (i := 6) (v := ?_) (b := false) rfl (by decide) (by decide) (by kernel_rfl) (by kernel_rfl) (by kernel_rfl) (by kernel_rfl) (by kernel_rfl) (fun W h => ⟨h.1, h.2.1, fun e => (by cases e)⟩) (by rfl) hS ?_ ?_
  rotate_left
  · ((intro W hW; obtain ⟨k0, k1, _⟩ := hW; go_simp) <;> with_reducible rfl)
  (try simp only [Act.put, List.setIfInBounds_toArray, List.set_cons_zero, List.set_cons_succ])
  refine lext_late (i := 7) (v := ?_) (b := false) rfl (by decide) (by decide) (by kernel_rfl) (by kernel_rfl) (by kernel_rfl) (by kernel_rfl) (by kernel_rfl) (fun W h => ⟨h.1, h.2.1, fun e => (by cases e)⟩) (by rfl) hS ?_ ?_
  rotate_left
  · ((intro W hW; obtain ⟨k0, k1, _⟩ := hW; go_simp) <;> with_reducible rfl)
  (try simp only [Act.put, List.setIfInBounds_toArray, List.set_cons_zero, List.set_cons_succ])
  refine lext_late (i := 8) (v := ?_) (b := false) rfl (by decide) (by decide) (by kernel_rfl) (by kernel_rfl) (by kernel_rfl) (by kernel_rfl) (by kernel_rfl) (fun W h => ⟨h.1, h.2.1, fun e => (by cases e)⟩) (by rfl) hS ?_ ?_
  rotate_left
  · ((intro W hW; obtain ⟨k0, k1, _⟩ := hW; go_simp) <;> with_reducible rfl)
  (try simp only [Act.put, List.setIfInBounds_toArray, List.set_cons_zero, List.set_cons_succ])
  refine lext_late (i := 9) (v := ?_) (b := false) rfl (by decide) (by decide) (by kernel_rfl) (by kernel_rfl) (by kernel_rfl) (by kernel_rfl) (by kernel_rfl) (fun W h => ⟨h.1, h.2.1, fun e => (by cases e)⟩) (by rfl) hS ?_ ?_
  rotate_left
  · ((intro W hW; obtain ⟨k0, k1, _⟩ := hW; go_simp) <;> with_reducible rfl)
  (try simp only [Act.put, List.setIfInBounds_toArray, List.set_cons_zero, List.set_cons_succ])
  refine lext_late (i := 10) (v := ?_) (b := false) rfl (by decide) (by decide) (by kernel_rfl) (by kernel_rfl) (by kernel_rfl) (by kernel_rfl) (by kernel_rfl) (fun W h => ⟨h.1, h.2.1, fun e => (by cases e)⟩) (by rfl) hS ?_ ?_
  rotate_left
  · ((intro W hW; obtain ⟨k0, k1, _⟩ := hW; go_simp) <;> with_reducible rfl)
  (try simp only [Act.put, List.setIfInBounds_toArray, List.set_cons_zero, List.set_cons_succ])
  refine lext_late (i := 11) (v := ?_) (b := false) rfl (by decide) (by decide) (by kernel_rfl) (by kernel_rfl) (by kernel_rfl) (by kernel_rfl) (by kernel_rfl) (fun W h => ⟨h.1, h.2.1, fun e => (by cases e)⟩) (by rfl) hS ?_ ?_
  rotate_left
  · ((intro W hW; obtain ⟨k0, k1, _⟩ := hW; go_simp) <;> with_reducible rfl)
  (try simp only [Act.put, List.setIfInBounds_toArray, List.set_cons_zero, List.set_cons_succ])
  refine lext_do (i := 12) (b := false) rfl (by kernel_rfl) (by kernel_rfl) (by rfl) (fun K hK => ?_)
  clear hS
  go_simp
  refine (lnput x.pls id (L3.out.below (bd _)) (HL.out.line_srt at') (by have := HLL.out; have := HN.out; omega)).mono ?_
  rintro e w4 ⟨q4, rfl, l4, u4⟩
  have U4 := Lib.hid (bmore (bd W3) u4)
  have L4 := Lib.hid l4
  clear l4 u4
  have hS := HK.out _ U4.out
  refine hK _ _ ⟨fun _ => hS, ?_⟩
  clear hK K
  (try simp only [Act.put, List.setIfInBounds_toArray, List.set_cons_zero, List.set_cons_succ])
  refine lext_do (i := 13) (b := true) rfl (by kernel_rfl) (by kernel_rfl) (by rfl) (fun K hK => ?_)
  clear hS
  go_simp
  refine (tput at' (HG1.out.hold ((Keep2.below B3.out).trans (.below U4.out))) L4.out HL.out.so (by have := HGL.out; have := HN.out; omega)).mono ?_
  rintro e w5 ⟨p5, rfl, t5, u5⟩
  have HT5 := Lib.hid t5
  have U5 := Lib.hid (bmore U4.out u5)
  have B5 := Lib.hid (bmore (bmore B3.out U4.out) u5)
  clear t5 u5
  have hS : w5.cell? ⟨w2.heap.size, 0, none⟩ = some (.pointer q) ∧ w5.cell? ⟨a, 2, none⟩ = some (.int .i64 x.pls) ∧ (true = false → w5.cell? ⟨a, 4, none⟩ = some (.pointer p)) := ⟨(HK.out _ U5.out).1, (HK.out _ U5.out).2.1, fun e => (by cases e)⟩
  refine hK _ _ ⟨fun _ => hS, ?_⟩
  clear hK K
  (try simp only [Act.put, List.setIfInBounds_toArray, List.set_cons_zero, List.set_cons_succ])
  refine lext_do (i := 14) (b := true) rfl (by kernel_rfl) (by kernel_rfl) (by rfl) (fun K hK => ?_)
  go_simp
  refine hK _ _ ⟨fun _ => hS, ?_⟩
  clear hK K
  (try simp only [Act.put, List.setIfInBounds_toArray, List.set_cons_zero, List.set_cons_succ])
  refine lext_do (i := 15) (b := true) rfl (by kernel_rfl) (by kernel_rfl) (by rfl) (fun K hK => ?_)
  go_simp
  refine hK _ _ ⟨fun _ => hS, ?_⟩
  clear hK K
  (try simp only [Act.put, List.setIfInBounds_toArray, List.set_cons_zero, List.set_cons_succ])
  have y5 := (B5.out.block a HLT.out).trans Y1.out
  have g4 := cellB (j := 4) y5 rfl
  have gf := frozenB (j := 4) y5
  have Y5 := Lib.hid y5
  clear y5 hS
  refine lext_do (i := 16) (b := true) rfl (by kernel_rfl) (by kernel_rfl) (by rfl) (fun K hK => ?_)
  go_simp
  refine hK _ _ ⟨fun e => (by exact absurd rfl e), ?_⟩
  clear hK K
  refine lext_done (by kernel_rfl) ?_
  have y5 := Y5.out
  have t5 := HT5.out
  have y6 : (w5.setCell ⟨a, 4, none⟩ (.pointer p5)).heap[a]? = some (Obj.cells #[.int .i64 x.now, .int .i64 x.ids, .int .i64 x.pls, .map (some mb), .pointer p5, cv, .bool tn] WhTS) := by
    have := setCellB (j := 4) (u := .pointer p5) y5
    simpa using this
  have HT6 := Lib.hid (t5.hold (.setCell (o := 4) (v := .pointer p5) y5 (by decide) (by decide)))
  have B6 := Lib.hid ((touch_of_below B5.out (fun k => k = a)).trans (touch_set w5 a 4 (.pointer p5) (fun k => k = a) rfl))
  have e2 := cellB (j := 2) y6 rfl
  have ef := frozenB (j := 2) y6
  have Y6 := Lib.hid y6
  clear t5 y5 y6 g4 gf
  generalize (w5.setCell ⟨a, 4, none⟩ (.pointer p5)) = W6 at *
  go_wp2_with fail
  have y7 : (W6.setCell ⟨a, 2, none⟩ (.int .i64 (x.pls + 1))).heap[a]? = some (Obj.cells #[.int .i64 x.now, .int .i64 x.ids, .int .i64 (x.pls + 1), .map (some mb), .pointer p5, cv, .bool tn] WhTS) := by
    have := setCellB (j := 2) (u := .int .i64 (x.pls + 1)) Y6.out
    simpa using this
  have HT7 := HT6.out.hold (.setCell (o := 2) (v := .int .i64 (x.pls + 1)) Y6.out (by decide) (by decide))
  have B7 := B6.out.trans (touch_set W6 a 2 (.int .i64 (x.pls + 1)) (fun k => k = a) rfl)
  generalize (W6.setCell ⟨a, 2, none⟩ (.int .i64 (x.pls + 1))) = W7 at *
  have hz := HL.out.lay HGD.out.ord ⟨id, at', x.pls, .string s⟩ (fun t ht => (HGD.out.per t ht).2.2.2.2.2)
  go_end0
  refine ⟨rfl, ⟨⟨p5, y7, _, HT7, hz.2⟩, HM1.out.same (B7.block mb HMT.out (fun e => hne e.symm)), HGD.out.lay HF.out HB.out.1 HB.out.2.1 HB.out.2.2.1 HB.out.2.2.2.1 HN.out HB.out.2.2.2.2.1, fun t ht => ?_⟩, T1.out.trans (B7.mono fun k _ e => .inl e)⟩
  rcases mem_ins.1 ht with rfl | ht
  · exact ⟨s, rfl⟩
  · exact HX.out.vals t ht
set_option maxRecDepth 100000 in
set_option maxHeartbeats 3200000 in
theorem takeS {w : World} {a mb : Nat} {cv : Value} {tn : Bool} {x : Wh} (h : IsWS w a mb cv tn x) {t : Tm} (ht : t ∈ x.ts) (s : ByteArray) (hs : t.v = .string s) :
    Calls Try.prog 74 #[.pointer (some ⟨a, 0, none⟩), .int .i64 t.id, .agg #[.string s, .int .i64 t.tk, .int .i64 t.pl]] w fun e w' => e = .returned (.tuple #[]) ∧ IsWS w' a mb cv tn (takeP x t.id) ∧ Touch (fun k => k = a ∨ k = mb) w w' := by
  have hg := h.good
  have hne := h.ne
  have hidM := hg.idM
  have hper := hg.per t ht
  have b0 : Below w.heap.size w (w.alloc (.cells #[.string s, .int .i64 t.tk, .int .i64 t.pl] TmTS)) := (Below.refl _ _).alloc (Nat.le_refl _) _
  have x0 : (w.alloc (.cells #[.string s, .int .i64 t.tk, .int .i64 t.pl] TmTS)).heap[w.heap.size]? = some (Obj.cells #[.string s, .int .i64 t.tk, .int .i64 t.pl] TmTS) := heap_alloc_new _ _
  have h' := h.below b0
  obtain ⟨p, y0, G, hG, hL⟩ := h'.lay
  obtain ⟨w1, hr, hm1, ht1⟩ := h'.map.drop underS hg.nd ht (by unfold i64R; omega) 0
  have y1 : w1.heap[a]? = some (Obj.cells #[.int .i64 x.now, .int .i64 x.ids, .int .i64 x.pls, .map (some mb), .pointer p, cv, .bool tn] WhTS) := (turned_cell ht1 hne).trans y0
  have t1 := turned_touch ht1 (fun k => k = a ∨ k = mb) (.inr rfl)
  have k1 : Keep2 (w.alloc (.cells #[.string s, .int .i64 t.tk, .int .i64 t.pl] TmTS)) w1 := .touch t1 h'.notNode
  have hxn : w.heap.size ≠ mb := by have := h.map.lt; omega
  have x1 := (turned_cell ht1 hxn).trans x0
  have T1 := Lib.hid ((touch_of_below b0 _).trans t1)
  have HG1 := Lib.hid (hG.hold k1)
  have HL := Lib.hid hL
  have HM1 := Lib.hid hm1
  have HX := Lib.hid h
  have HT := Lib.hid ht
  have c3 : (w.alloc (.cells #[.string s, .int .i64 t.tk, .int .i64 t.pl] TmTS)).cell? ⟨a, 3, none⟩ = some (.map (some mb)) := cellB y0 rfl
  have d4 : w1.cell? ⟨a, 4, none⟩ = some (.pointer p) := cellB y1 rfl
  have d1 : w1.cell? ⟨w.heap.size, 1, none⟩ = some (.int .i64 t.tk) := cellB x1 rfl
  have Y1 := Lib.hid y1
  have X1 := Lib.hid x1
  have HLT : Hid (a < w1.heap.size) := Lib.hid (Array.getElem?_eq_some_iff.1 y1).1
  have HXT : Hid (w.heap.size < w1.heap.size) := Lib.hid (Array.getElem?_eq_some_iff.1 x1).1
  have HMT := Lib.hid hm1.lt
  have HGL := Lib.hid hL.glen
  have HLL := Lib.hid (hL.llen t.tk)
  have HGD := Lib.hid hg
  clear h h' hG hL y0 y1 x0 x1 hm1 ht1 t1 k1 b0 hg hidM hper ht
  go_enter Try.func74, Try.ntmps74
  go_wp2_with fail
  clear hr c3
  go_cut [6] (fun s6 wx => ∃ nb q, s6 = .pointer (some ⟨nb, 0, none⟩) ∧ wx.heap[nb]? = some (Obj.cells #[.pointer q] MapN) ∧ w1.heap.size ≤ nb ∧ IsLine wx q (lineOf G t.tk) ∧ Below w1.heap.size w1 wx)
  case first =>
    have hk : ∀ W : World, Below w1.heap.size w1 W → W.cell? ⟨a, 4, none⟩ = some (.pointer p) ∧ W.cell? ⟨w.heap.size, 1, none⟩ = some (.int .i64 t.tk) ∧ Below w1.heap.size w1 W := fun W hW => ⟨bcellAt hW d4, bcellAt hW d1, hW⟩
    have HK := Lib.hid hk
    clear hk d4 d1
    have HNW : Hid ((w1.alloc (.cells #[.pointer none] MapN)).drew.heap[w1.heap.size]? = some (Obj.cells #[.pointer none] MapN) ∧ True) := Lib.hid ⟨heap_alloc_new _ _, trivial⟩
    go_region_held3 (fun W => W.cell? ⟨a, 4, none⟩ = some (.pointer p) ∧ W.cell? ⟨w.heap.size, 1, none⟩ = some (.int .i64 t.tk) ∧ Below w1.heap.size w1 W) ((refine HK.out _ ?_; first | exact bd _ | exact balS _ _ | exact bmore (bd _) u2 | exact bmore (balS _ _) u2 | exact (bmore (bd _) u2).alloc (bmore (bd _) u2).size _ | exact (bmore (balS _ _) u2).setCell (p := ⟨w1.heap.size, 0, none⟩) (Nat.le_refl _) _))
      ((first
        | ((with_reducible refine (tget t.tk (HG1.out.hold (.below (bd _))) HL.out.so).mono ?_); rintro e w2 ⟨q, b, rfl, l2, u2⟩)
        | ((with_reducible refine (tget t.tk (HG1.out.hold (.below (balS _ _))) HL.out.so).mono ?_); rintro e w2 ⟨q, b, rfl, l2, u2⟩; have v0 := bcellAt u2 (cellB (j := 0) (HNW.out.1) rfl); have vf := bfrozenAt u2 (cellB (j := 0) (HNW.out.1) rfl) (frozenB (j := 0) (HNW.out.1)))))
    · go_wp2_with fail
      go_meet
      exact ⟨_, q, rfl, heap_alloc_new _ _, (bmore (bd _) u2).size, l2.below ((Below.refl _ _).alloc (Nat.le_refl _) _), (bmore (bd _) u2).alloc (bmore (bd _) u2).size _⟩
    · go_wp2_with fail
      go_meet
      have y : w2.heap[w1.heap.size]? = some (Obj.cells #[.pointer none] MapN) := (u2.block _ (by simp [World.drew])).trans HNW.out.1
      exact ⟨_, q, rfl, (by simpa using setCellB (j := 0) (u := .pointer q) y), Nat.le_refl _, l2.hold (.setCell y (by decide) (by decide)), (bmore (balS _ _) u2).setCell (p := ⟨w1.heap.size, 0, none⟩) (Nat.le_refl _) _⟩
  case rest =>
    obtain ⟨nb, q, rfl, z, hnb, hl, hb⟩ := hcut
    have HLN := Lib.hid hl
    have HBB := Lib.hid hb
    have HZ := Lib.hid z
    have hx1 := bcellAt hb (cellB (j := 2) X1.out rfl)
    have hz0 := cellB (j := 0) z rfl
    have hzf := frozenB (j := 0) z
    clear hl hb z d4 d1
    go_wp2_with fail
    refine (lndrop t.pl HLN.out (HL.out.line_srt t.tk) (by have := HLL.out; have := HGD.out.len; omega)).mono ?_
    rintro e w3 ⟨q3, rfl, l3, u3⟩
    have z3 := Hold.below (T := MapN) u3 _ _ HZ.out
    have b3 := bmore HBB.out u3
    have z4 : (w3.setCell ⟨nb, 0, none⟩ (.pointer q3)).heap[nb]? = some (Obj.cells #[.pointer q3] MapN) := by
      have := setCellB (j := 0) (u := .pointer q3) z3
      simpa using this
    have L4 := Lib.hid (l3.hold (.setCell (o := 0) (v := .pointer q3) z3 (by decide) (by decide)))
    have B4 := Lib.hid (b3.setCell (p := ⟨nb, 0, none⟩) hnb (.pointer q3))
    have v3 := cellB (j := 0) z3 rfl
    have vf := frozenB (j := 0) z3
    have v4 := cellB (j := 0) z4 rfl
    have Z4 := Lib.hid z4
    clear l3 u3 z3 b3 z4 hx1 hz0 hzf
    go_wp2_with fail
    clear v3 vf
    generalize (w3.setCell ⟨nb, 0, none⟩ (.pointer q3)) = W4 at *
    refine (lnlen L4.out).mono ?_
    rintro e w5 ⟨rfl, u5⟩
    have b5 := bmore B4.out u5
    have L5 := Lib.hid (L4.out.below u5)
    have hF : ∀ W : World, Below w5.heap.size w5 W → W.cell? ⟨w.heap.size, 1, none⟩ = some (.int .i64 t.tk) ∧ W.cell? ⟨nb, 0, none⟩ = some (.pointer q3) ∧ W.cell? ⟨a, 4, none⟩ = some (.pointer p) := fun W hW => ⟨bcellAt (bmore b5 hW) (cellB (j := 1) X1.out rfl), bcellAt (bmore u5 hW) (cellB (j := 0) Z4.out rfl), bcellAt (bmore b5 hW) (cellB (j := 4) Y1.out rfl)⟩
    have HK := Lib.hid hF
    have B5 := Lib.hid b5
    have HTK := Lib.hid (HL.out.take HGD.out.ord HGD.out.nd HT.out)
    clear u5 b5 hF v4
    generalize hd : ldrop (lineOf G t.tk) t.pl = l' at *
    cases l' with
    | nil =>
      have HZ := Lib.hid (HTK.out.1 rfl)
      clear HTK hd
      go_wp2_with fail
      refine lext_start [0, 1, 2, 3, 4, 5, 6, 7, 8, 9, 10] 7 10 (F := fun b W => W.cell? ⟨w.heap.size, 1, none⟩ = some (.int .i64 t.tk) ∧ W.cell? ⟨nb, 0, none⟩ = some (.pointer q3) ∧ (b = false → W.cell? ⟨a, 4, none⟩ = some (.pointer p))) (by kernel_rfl) ?_
      simp only [inOrder, List.filterMap, List.getElem?_cons_succ, List.getElem?_cons_zero]
      have hS : w5.drew.cell? ⟨w.heap.size, 1, none⟩ = some (.int .i64 t.tk) ∧ w5.drew.cell? ⟨nb, 0, none⟩ = some (.pointer q3) ∧ (false = false → w5.drew.cell? ⟨a, 4, none⟩ = some (.pointer p)) := ⟨(HK.out _ (bd w5)).1, (HK.out _ (bd w5)).2.1, fun _ => (HK.out _ (bd w5)).2.2⟩
      refine lext_late (i := 0) (v := ?_) (b := false) rfl (by decide) (by decide) (by kernel_rfl) (by kernel_rfl) (by kernel_rfl) (by kernel_rfl) (by kernel_rfl) (fun W h => ⟨h.1, h.2.1, fun e => (by cases e)⟩) (by rfl) hS ?_ ?_
      rotate_left
      · ((intro W hW; obtain ⟨k0, k1, _⟩ := hW; go_simp) <;> with_reducible rfl)
      (try simp only [Act.put, List.setIfInBounds_toArray, List.set_cons_zero, List.set_cons_succ])
      refine lext_late (i := 1) (v := ?_) (b := false) rfl (by decide) (by decide) (by kernel_rfl) (by kernel_rfl) (by kernel_rfl) (by kernel_rfl) (by kernel_rfl) (fun W h => ⟨h.1, h.2.1, fun e => (by cases e)⟩) (by rfl) hS ?_ ?_
      rotate_left
      · ((intro W hW; obtain ⟨k0, k1, _⟩ := hW; go_simp) <;> with_reducible rfl)
      (try simp only [Act.put, List.setIfInBounds_toArray, List.set_cons_zero, List.set_cons_succ])
      refine lext_late (i := 2) (v := ?_) (b := false) rfl (by decide) (by decide) (by kernel_rfl) (by kernel_rfl) (by kernel_rfl) (by kernel_rfl) (by kernel_rfl) (fun W h => ⟨h.1, h.2.1, fun e => (by cases e)⟩) (by rfl) hS ?_ ?_
      rotate_left
      · ((intro W hW; obtain ⟨k0, k1, _⟩ := hW; go_simp) <;> with_reducible rfl)
      (try simp only [Act.put, List.setIfInBounds_toArray, List.set_cons_zero, List.set_cons_succ])
      refine lext_late (i := 3) (v := ?_) (b := false) rfl (by decide) (by decide) (by kernel_rfl) (by kernel_rfl) (by kernel_rfl) (by kernel_rfl) (by kernel_rfl) (fun W h => ⟨h.1, h.2.1, fun e => (by cases e)⟩) (by rfl) hS ?_ ?_
      rotate_left
      · ((intro W hW; obtain ⟨k0, k1, _⟩ := hW; go_simp) <;> with_reducible rfl)
      (try simp only [Act.put, List.setIfInBounds_toArray, List.set_cons_zero, List.set_cons_succ])
      refine lext_take (i := 4) (v := ?_) rfl (by decide) (by decide) (by kernel_rfl) (by kernel_rfl) (by kernel_rfl) (by kernel_rfl) (by kernel_rfl) (by kernel_rfl) (by rfl) hS ?_ ?_
      rotate_left
      · ((intro W hW; obtain ⟨k0, k1, k2⟩ := hW; have k2 := k2 rfl; go_simp) <;> with_reducible rfl)
      (try simp only [Act.put, List.setIfInBounds_toArray, List.set_cons_zero, List.set_cons_succ])
      refine lext_late (i := 5) (v := ?_) (b := false) rfl (by decide) (by decide) (by kernel_rfl) (by kernel_rfl) (by kernel_rfl) (by kernel_rfl) (by kernel_rfl) (fun W h => ⟨h.1, h.2.1, fun e => (by cases e)⟩) (by rfl) hS ?_ ?_
      rotate_left
      · ((intro W hW; obtain ⟨k0, k1, _⟩ := hW; go_simp) <;> with_reducible rfl)
      (try simp only [Act.put, List.setIfInBounds_toArray, List.set_cons_zero, List.set_cons_succ])
      refine lext_late (i := 6) (v := ?_) (b := false) rfl (by decide) (by decide) (by kernel_rfl) (by kernel_rfl) (by kernel_rfl) (by kernel_rfl) (by kernel_rfl) (fun W h => ⟨h.1, h.2.1, fun e => (by cases e)⟩) (by rfl) hS ?_ ?_
      rotate_left
      · ((intro W hW; obtain ⟨k0, k1, _⟩ := hW; go_simp) <;> with_reducible rfl)
      (try simp only [Act.put, List.setIfInBounds_toArray, List.set_cons_zero, List.set_cons_succ])
      refine lext_do (i := 7) (b := true) rfl (by kernel_rfl) (by kernel_rfl) (by rfl) (fun K hK => ?_)
      clear hS
      go_simp
      refine (tdrop t.tk (HG1.out.hold (.below (bmore B5.out (bd _)))) HL.out.so (by have := HGL.out; have := HGD.out.len; omega)).mono ?_
      rintro e w6 ⟨p6, rfl, t6, u6⟩
      have HT6 := Lib.hid t6
      have U6 := Lib.hid (bmore (bd w5) u6)
      clear t6 u6
      have hS : w6.cell? ⟨w.heap.size, 1, none⟩ = some (.int .i64 t.tk) ∧ w6.cell? ⟨nb, 0, none⟩ = some (.pointer q3) ∧ (true = false → w6.cell? ⟨a, 4, none⟩ = some (.pointer p)) := ⟨(HK.out _ U6.out).1, (HK.out _ U6.out).2.1, fun e => (by cases e)⟩
      refine hK _ _ ⟨fun _ => hS, ?_⟩
      clear hK K
      (try simp only [Act.put, List.setIfInBounds_toArray, List.set_cons_zero, List.set_cons_succ])
      refine lext_do (i := 8) (b := true) rfl (by kernel_rfl) (by kernel_rfl) (by rfl) (fun K hK => ?_)
      go_simp
      refine hK _ _ ⟨fun _ => hS, ?_⟩
      clear hK K
      (try simp only [Act.put, List.setIfInBounds_toArray, List.set_cons_zero, List.set_cons_succ])
      refine lext_do (i := 9) (b := true) rfl (by kernel_rfl) (by kernel_rfl) (by rfl) (fun K hK => ?_)
      go_simp
      refine hK _ _ ⟨fun _ => hS, ?_⟩
      clear hK K
      (try simp only [Act.put, List.setIfInBounds_toArray, List.set_cons_zero, List.set_cons_succ])
      have b6 := bmore B5.out U6.out
      have y6 := (b6.block a HLT.out).trans Y1.out
      have g4 := cellB (j := 4) y6 rfl
      have gf := frozenB (j := 4) y6
      have Y6 := Lib.hid y6
      have B6 := Lib.hid b6
      clear y6 b6 hS
      refine lext_do (i := 10) (b := true) rfl (by kernel_rfl) (by kernel_rfl) (by rfl) (fun K hK => ?_)
      go_simp
      refine hK _ _ ⟨fun e => (by exact absurd rfl e), ?_⟩
      clear hK K g4 gf
      refine lext_done (by kernel_rfl) ?_
      have y7 : (w6.setCell ⟨a, 4, none⟩ (.pointer p6)).heap[a]? = some (Obj.cells #[.int .i64 x.now, .int .i64 x.ids, .int .i64 x.pls, .map (some mb), .pointer p6, cv, .bool tn] WhTS) := by
        have := setCellB (j := 4) (u := .pointer p6) Y6.out
        simpa using this
      have HT7 := Lib.hid (HT6.out.hold (.setCell (o := 4) (v := .pointer p6) Y6.out (by decide) (by decide)))
      have B7 := Lib.hid ((touch_of_below B6.out (fun k => k = a)).trans (touch_set w6 a 4 (.pointer p6) (fun k => k = a) rfl))
      have Y7 := Lib.hid y7
      clear y7
      generalize (w6.setCell ⟨a, 4, none⟩ (.pointer p6)) = W7 at *
      go_wp2_with fail
      go_returns
      exact ⟨rfl, ⟨⟨p6, Y7.out, _, HT7.out, HZ.out⟩, HM1.out.same (B7.out.block mb HMT.out (fun e => hne e.symm)), HGD.out.take t.id, fun u hu => HX.out.vals u (mem_out.1 hu).1⟩, T1.out.trans (B7.out.mono fun k _ e => .inl e)⟩
    | cons y l' =>
      have HZ := Lib.hid (HTK.out.2 (by simp))
      have hpos : decide (((y :: l').length : Int) = 0) = false := by simp; omega
      clear HTK hd
      go_wp2_with fail
      refine lext_start [0, 1, 2, 3, 4, 5, 6, 7, 8, 9, 10, 11] 8 11 (F := fun b W => W.cell? ⟨w.heap.size, 1, none⟩ = some (.int .i64 t.tk) ∧ W.cell? ⟨nb, 0, none⟩ = some (.pointer q3) ∧ (b = false → W.cell? ⟨a, 4, none⟩ = some (.pointer p))) (by kernel_rfl) ?_
      simp only [inOrder, List.filterMap, List.getElem?_cons_succ, List.getElem?_cons_zero]
      have hS : w5.drew.cell? ⟨w.heap.size, 1, none⟩ = some (.int .i64 t.tk) ∧ w5.drew.cell? ⟨nb, 0, none⟩ = some (.pointer q3) ∧ (false = false → w5.drew.cell? ⟨a, 4, none⟩ = some (.pointer p)) := ⟨(HK.out _ (bd w5)).1, (HK.out _ (bd w5)).2.1, fun _ => (HK.out _ (bd w5)).2.2⟩
      refine lext_late (i := 0) (v := ?_) (b := false) rfl (by decide) (by decide) (by kernel_rfl) (by kernel_rfl) (by kernel_rfl) (by kernel_rfl) (by kernel_rfl) (fun W h => ⟨h.1, h.2.1, fun e => (by cases e)⟩) (by rfl) hS ?_ ?_
      rotate_left
      · ((intro W hW; obtain ⟨k0, k1, _⟩ := hW; go_simp) <;> with_reducible rfl)
      (try simp only [Act.put, List.setIfInBounds_toArray, List.set_cons_zero, List.set_cons_succ])
      refine lext_late (i := 1) (v := ?_) (b := false) rfl (by decide) (by decide) (by kernel_rfl) (by kernel_rfl) (by kernel_rfl) (by kernel_rfl) (by kernel_rfl) (fun W h => ⟨h.1, h.2.1, fun e => (by cases e)⟩) (by rfl) hS ?_ ?_
      rotate_left
      · ((intro W hW; obtain ⟨k0, k1, _⟩ := hW; go_simp) <;> with_reducible rfl)
      (try simp only [Act.put, List.setIfInBounds_toArray, List.set_cons_zero, List.set_cons_succ])
      refine lext_late (i := 2) (v := ?_) (b := false) rfl (by decide) (by decide) (by kernel_rfl) (by kernel_rfl) (by kernel_rfl) (by kernel_rfl) (by kernel_rfl) (fun W h => ⟨h.1, h.2.1, fun e => (by cases e)⟩) (by rfl) hS ?_ ?_
      rotate_left
      · ((intro W hW; obtain ⟨k0, k1, _⟩ := hW; go_simp) <;> with_reducible rfl)
      (try simp only [Act.put, List.setIfInBounds_toArray, List.set_cons_zero, List.set_cons_succ])
      refine lext_late (i := 3) (v := ?_) (b := false) rfl (by decide) (by decide) (by kernel_rfl) (by kernel_rfl) (by kernel_rfl) (by kernel_rfl) (by kernel_rfl) (fun W h => ⟨h.1, h.2.1, fun e => (by cases e)⟩) (by rfl) hS ?_ ?_
      rotate_left
      · ((intro W hW; obtain ⟨k0, k1, _⟩ := hW; go_simp) <;> with_reducible rfl)
      (try simp only [Act.put, List.setIfInBounds_toArray, List.set_cons_zero, List.set_cons_succ])
      refine lext_take (i := 4) (v := ?_) rfl (by decide) (by decide) (by kernel_rfl) (by kernel_rfl) (by kernel_rfl) (by kernel_rfl) (by kernel_rfl) (by kernel_rfl) (by rfl) hS ?_ ?_
      rotate_left
      · ((intro W hW; obtain ⟨k0, k1, k2⟩ := hW; have k2 := k2 rfl; go_simp) <;> with_reducible rfl)
      (try simp only [Act.put, List.setIfInBounds_toArray, List.set_cons_zero, List.set_cons_succ])
      refine lext_late (i := 5) (v := ?_) (b := false) rfl (by decide) (by decide) (by kernel_rfl) (by kernel_rfl) (by kernel_rfl) (by kernel_rfl) (by kernel_rfl) (fun W h => ⟨h.1, h.2.1, fun e => (by cases e)⟩) (by rfl) hS ?_ ?_
      rotate_left
      · ((intro W hW; obtain ⟨k0, k1, _⟩ := hW; go_simp) <;> with_reducible rfl)
      (try simp only [Act.put, List.setIfInBounds_toArray, List.set_cons_zero, List.set_cons_succ])
      refine lext_late (i := 6) (v := ?_) (b := false) rfl (by decide) (by decide) (by kernel_rfl) (by kernel_rfl) (by kernel_rfl) (by kernel_rfl) (by kernel_rfl) (fun W h => ⟨h.1, h.2.1, fun e => (by cases e)⟩) (by rfl) hS ?_ ?_
      rotate_left
      · ((intro W hW; obtain ⟨k0, k1, _⟩ := hW; go_simp) <;> with_reducible rfl)
      (try simp only [Act.put, List.setIfInBounds_toArray, List.set_cons_zero, List.set_cons_succ])
      refine lext_late (i := 7) (v := ?_) (b := false) rfl (by decide) (by decide) (by kernel_rfl) (by kernel_rfl) (by kernel_rfl) (by kernel_rfl) (by kernel_rfl) (fun W h => ⟨h.1, h.2.1, fun e => (by cases e)⟩) (by rfl) hS ?_ ?_
      rotate_left
      · ((intro W hW; obtain ⟨k0, k1, _⟩ := hW; go_simp) <;> with_reducible rfl)
      (try simp only [Act.put, List.setIfInBounds_toArray, List.set_cons_zero, List.set_cons_succ])
      refine lext_do (i := 8) (b := true) rfl (by kernel_rfl) (by kernel_rfl) (by rfl) (fun K hK => ?_)
      clear hS
      go_simp
      refine (tput t.tk (HG1.out.hold (.below (bmore B5.out (bd _)))) (L5.out.below (bd _)) HL.out.so (by have := HGL.out; have := HGD.out.len; omega)).mono ?_
      rintro e w6 ⟨p6, rfl, t6, u6⟩
      have HT6 := Lib.hid t6
      have U6 := Lib.hid (bmore (bd w5) u6)
      clear t6 u6
      have hS : w6.cell? ⟨w.heap.size, 1, none⟩ = some (.int .i64 t.tk) ∧ w6.cell? ⟨nb, 0, none⟩ = some (.pointer q3) ∧ (true = false → w6.cell? ⟨a, 4, none⟩ = some (.pointer p)) := ⟨(HK.out _ U6.out).1, (HK.out _ U6.out).2.1, fun e => (by cases e)⟩
      refine hK _ _ ⟨fun _ => hS, ?_⟩
      clear hK K
      (try simp only [Act.put, List.setIfInBounds_toArray, List.set_cons_zero, List.set_cons_succ])
      refine lext_do (i := 9) (b := true) rfl (by kernel_rfl) (by kernel_rfl) (by rfl) (fun K hK => ?_)
      go_simp
      refine hK _ _ ⟨fun _ => hS, ?_⟩
      clear hK K
      (try simp only [Act.put, List.setIfInBounds_toArray, List.set_cons_zero, List.set_cons_succ])
      refine lext_do (i := 10) (b := true) rfl (by kernel_rfl) (by kernel_rfl) (by rfl) (fun K hK => ?_)
      go_simp
      refine hK _ _ ⟨fun _ => hS, ?_⟩
      clear hK K
      (try simp only [Act.put, List.setIfInBounds_toArray, List.set_cons_zero, List.set_cons_succ])
      have b6 := bmore B5.out U6.out
      have y6 := (b6.block a HLT.out).trans Y1.out
      have g4 := cellB (j := 4) y6 rfl
      have gf := frozenB (j := 4) y6
      have Y6 := Lib.hid y6
      have B6 := Lib.hid b6
      clear y6 b6 hS
      refine lext_do (i := 11) (b := true) rfl (by kernel_rfl) (by kernel_rfl) (by rfl) (fun K hK => ?_)
      go_simp
      refine hK _ _ ⟨fun e => (by exact absurd rfl e), ?_⟩
      clear hK K g4 gf
      refine lext_done (by kernel_rfl) ?_
      have y7 : (w6.setCell ⟨a, 4, none⟩ (.pointer p6)).heap[a]? = some (Obj.cells #[.int .i64 x.now, .int .i64 x.ids, .int .i64 x.pls, .map (some mb), .pointer p6, cv, .bool tn] WhTS) := by
        have := setCellB (j := 4) (u := .pointer p6) Y6.out
        simpa using this
      have HT7 := Lib.hid (HT6.out.hold (.setCell (o := 4) (v := .pointer p6) Y6.out (by decide) (by decide)))
      have B7 := Lib.hid ((touch_of_below B6.out (fun k => k = a)).trans (touch_set w6 a 4 (.pointer p6) (fun k => k = a) rfl))
      have Y7 := Lib.hid y7
      clear y7
      generalize (w6.setCell ⟨a, 4, none⟩ (.pointer p6)) = W7 at *
      go_wp2_with fail
      go_end0
      exact ⟨rfl, ⟨⟨p6, Y7.out, _, HT7.out, HZ.out⟩, HM1.out.same (B7.out.block mb HMT.out (fun e => hne e.symm)), HGD.out.take t.id, fun u hu => HX.out.vals u (mem_out.1 hu).1⟩, T1.out.trans (B7.out.mono fun k _ e => .inl e)⟩
end Go.Proofs.Ytbgnedeeeaapfaa
