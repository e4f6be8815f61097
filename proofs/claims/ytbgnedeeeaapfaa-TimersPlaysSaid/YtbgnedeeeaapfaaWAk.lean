/-
  What the law's act does with a wheel and the document's.
-/
import Derived.Test.YtbgnedeeeaapfaaWTel
import Derived.Test.YtbgnedeeeaapfaaWAct
namespace Go.Proofs.Ytbgnedeeeaapfaa
open Go.RowKit Go.Maps
set_option linter.unusedVariables false
abbrev AcT : TypeId := 33
abbrev NoCV : Value := .slice none 0 0
/-- Both wheels stand, alike, in the walk's own memory. -/
structure Two (w : World) (N a mb r : Nat) (x : Wh) : Prop where
  w1 : IsWS w a mb NoCV false x
  r1 : ∃ sl, IsR w N r sl x
  na : N ≤ a
  nm : N ≤ mb
  nr : N ≤ r
  ns : N ≤ w.heap.size
theorem apartW {w : World} {N a mb r : Nat} {sl cv : Value} {tn : Bool} {x y : Wh} (h : IsWS w a mb cv tn x) (hr : IsR w N r sl y) : (r ≠ a ∧ r ≠ mb) ∧ ∀ k, sl.ownBlock = some k → k ≠ a ∧ k ≠ mb := by
  obtain ⟨p, h1, _⟩ := h.lay
  obtain ⟨es, c, h2⟩ := h.map.is
  refine ⟨⟨?_, ?_⟩, fun k hk => ?_⟩
  · rintro rfl
    have e := hr.lay
    rw [h1] at e
    have := (Obj.cells.inj (Option.some.inj e)).2.1
    revert this; decide
  · rintro rfl
    have e := hr.lay
    rw [h2] at e
    cases e
  · obtain ⟨_, cur, hc⟩ := own_type hr.row hk
    constructor
    · rintro rfl
      rw [h1] at hc
      have := (Obj.cells.inj (Option.some.inj hc)).2.1
      revert this; decide
    · rintro rfl
      rw [h2] at hc
      cases hc
theorem IsR.onW {w w' : World} {N a mb r : Nat} {sl cv : Value} {tn : Bool} {x y : Wh} (hr : IsR w N r sl y) (h : IsWS w a mb cv tn x) (ht : Touch (OwnW a mb) w w') : IsR w' N r sl y := by
  obtain ⟨h1, h2⟩ := apartW h hr
  exact hr.keep ht (fun e => e.elim h1.1 h1.2) (fun k hk e => e.elim (h2 k hk).1 (h2 k hk).2)
theorem IsWS.onR {w w' : World} {N a mb r : Nat} {sl cv : Value} {tn : Bool} {x y : Wh} (h : IsWS w a mb cv tn x) (hr : IsR w N r sl y) (ht : Touch (OwnR r sl) w w') : IsWS w' a mb cv tn x := by
  obtain ⟨h1, h2⟩ := apartW h hr
  refine h.keep (ht.block a h.lt (fun e => e.elim (fun e => h1.1 e.symm) (fun e => (h2 a e).1 rfl))) (ht.block mb h.map.lt (fun e => e.elim (fun e => h1.2 e.symm) (fun e => (h2 mb e).2 rfl))) (Keep2.touch ht ?_)
  rintro k (rfl | hk) cs
  · rw [hr.lay]
    exact ⟨fun e => (by have := (Obj.cells.inj (Option.some.inj e)).2.1; revert this; decide), fun e => (by have := (Obj.cells.inj (Option.some.inj e)).2.1; revert this; decide)⟩
  · obtain ⟨_, cur, hc⟩ := own_type hr.row hk
    rw [hc]
    exact ⟨fun e => (by have := (Obj.cells.inj (Option.some.inj e)).2.1; revert this; decide), fun e => (by have := (Obj.cells.inj (Option.some.inj e)).2.1; revert this; decide)⟩
theorem Touch.boxW {w w' : World} {a mb : Nat} {cv : Value} {tn : Bool} {x : Wh} (ht : Touch (OwnW a mb) w w') (h : IsWS w a mb cv tn x) {b : Nat} {cs : Array Value} {T : TypeId} (hb : w.heap[b]? = some (Obj.cells cs T)) (hT : T ≠ WhTS) : w'.heap[b]? = some (Obj.cells cs T) := by
  obtain ⟨p, h1, _⟩ := h.lay
  obtain ⟨es, c, h2⟩ := h.map.is
  refine (ht.block b (Array.getElem?_eq_some_iff.1 hb).1 (fun e => ?_)).trans hb
  rcases e with rfl | rfl
  · rw [h1] at hb
    exact hT (Obj.cells.inj (Option.some.inj hb)).2.1.symm
  · rw [h2] at hb
    cases hb
theorem Touch.boxR {w w' : World} {N r : Nat} {sl : Value} {x : Wh} (ht : Touch (OwnR r sl) w w') (hr : IsR w N r sl x) {b : Nat} {cs : Array Value} {T : TypeId} (hb : w.heap[b]? = some (Obj.cells cs T)) (hT : T ≠ RwT) (hT2 : T ≠ RtT) : w'.heap[b]? = some (Obj.cells cs T) := by
  refine (ht.block b (Array.getElem?_eq_some_iff.1 hb).1 (fun e => ?_)).trans hb
  rcases e with rfl | hk
  · have e := hr.lay
    rw [hb] at e
    exact hT (Obj.cells.inj (Option.some.inj e)).2.1
  · obtain ⟨_, cur, hc⟩ := own_type hr.row hk
    rw [hb] at hc
    exact hT2 (Obj.cells.inj (Option.some.inj hc)).2.1
/-- A step on the wheel, then the like step on the document's. -/
theorem Two.step {w w1 w2 : World} {N a mb r : Nat} {sl : Value} {x y : Wh} (h : Two w N a mb r x) (hr : IsR w N r sl x) (h1 : IsWS w1 a mb NoCV false y) (t1 : Touch (OwnW a mb) w w1) (h2 : RPost N r sl w1 w2 y) : Two w2 N a mb r y ∧ Below N w w2 := by
  obtain ⟨sl', g1, g2, g3⟩ := h2
  have hr1 := hr.onW h.w1 t1
  have b1 := t1.below h.ns (fun k e => by rcases e with rfl | rfl; exact h.na; exact h.nm)
  have b2 := g2.below (Nat.le_trans h.ns t1.size) (fun k e => by
    rcases e with rfl | hk
    · exact h.nr
    · exact (own_from hr1.row hk).1)
  exact ⟨⟨h1.onR hr1 g2, ⟨sl', g1⟩, h.na, h.nm, h.nr, Nat.le_trans h.ns (b1.trans b2).size⟩, b1.trans b2⟩
theorem Two.below {w w' : World} {N a mb r : Nat} {x : Wh} (h : Two w N a mb r x) (hb : Below w.heap.size w w') : Two w' N a mb r x := by
  obtain ⟨sl, hr⟩ := h.r1
  exact ⟨h.w1.below hb, ⟨sl, hr.below hb⟩, h.na, h.nm, h.nr, Nat.le_trans h.ns hb.size⟩
/-- What an act leaves. -/
def ActP (N a mb r : Nat) (x : Wh) (w : World) (e : Ending) (w' : World) : Prop := e = .returned (.bool true) ∧ ∃ y, Two w' N a mb r y ∧ y.ids ≤ x.ids + 1 ∧ y.pls ≤ x.pls + 1 ∧ Below N w w'
abbrev actV (c : Ac) : Value := .agg #[.int .i64 c.kd, .int .i64 c.tk, .int .i64 c.id, .string c.v]
theorem setP_grow (x : Wh) (k : Int) (v : Value) : (setP x k v).1.ids ≤ x.ids + 1 ∧ (setP x k v).1.pls ≤ x.pls + 1 := by
  unfold setP layP
  split
  · simp; omega
  · split
    · simp; omega
    · simp
theorem afterP_grow (x : Wh) (n : Int) (v : Value) : (afterP x n v).1.ids ≤ x.ids + 1 ∧ (afterP x n v).1.pls ≤ x.pls + 1 := by
  unfold afterP
  split
  · simp; omega
  · exact setP_grow x _ v
theorem moveP_grow (x : Wh) (i k : Int) : (moveP x i k).1.ids ≤ x.ids + 1 ∧ (moveP x i k).1.pls ≤ x.pls + 1 := by
  unfold moveP
  split
  · simp; omega
  · split
    · simp; omega
    · simp [layP, takeP]; omega
theorem valPS_str {x : Wh} (h : ∀ t ∈ x.ts, ∃ s : ByteArray, t.v = .string s) (i : Int) : ∃ s : ByteArray, valPS x i = .string s := by
  unfold valPS
  cases e : fnd x.ts i with
  | none => exact ⟨_, rfl⟩
  | some t => exact h t (fnd_some e).1
set_option maxRecDepth 100000 in
set_option maxHeartbeats 3200000 in
theorem act_set {w : World} {N a mb r : Nat} {x : Wh} (h : Two w N a mb r x) (c : Ac) (hc : AcOk c) (hk : c.kd = 1) (hi : x.ids < 400000) (hp : x.pls < 400000) :
    Calls Try.prog 12 #[.pointer (some ⟨a, 0, none⟩), .pointer (some ⟨r, 0, none⟩), actV c] w (ActP N a mb r x w) := by
  obtain ⟨kd, tk, id, v⟩ := c
  obtain rfl : kd = 1 := hk
  have b0 : Below w.heap.size w (w.alloc (.cells #[.int .i64 1, .int .i64 tk, .int .i64 id, .string v] AcT)) := (Below.refl _ _).alloc (Nat.le_refl _) _
  have y0 : (w.alloc (.cells #[.int .i64 1, .int .i64 tk, .int .i64 id, .string v] AcT)).heap[w.heap.size]? = some (Obj.cells #[.int .i64 1, .int .i64 tk, .int .i64 id, .string v] AcT) := heap_alloc_new _ _
  have H0 := Lib.hid (h.below b0)
  have B0 := Lib.hid (b0.mono h.ns)
  have Y0 := Lib.hid y0
  have HC := Lib.hid hc
  have HI := Lib.hid (show x.ids < 400000 ∧ x.pls < 400000 from ⟨hi, hp⟩)
  have tk1 : tk ≤ maxI := hc.2.1.2
  have TK := Lib.hid tk1
  clear h hc hi hp b0 y0 tk1
  go_enter Try.func12, Try.ntmps12
  go_wp2_with fail
  generalize (w.alloc (.cells #[.int .i64 1, .int .i64 tk, .int .i64 id, .string v] AcT)) = w0 at *
  have d1 := cellB (j := 1) Y0.out rfl
  have d2 := cellB (j := 2) Y0.out rfl
  have d3 := cellB (j := 3) Y0.out rfl
  obtain ⟨sl, hr0⟩ := H0.out.r1
  have HR0 := Lib.hid hr0
  clear hr0
  refine (setS H0.out.w1 tk v HI.out.1 HI.out.2 TK.out).mono ?_
  rintro e w1 ⟨rfl, h1, t1⟩
  have H1 := Lib.hid h1
  have T1 := Lib.hid t1
  have R1 := Lib.hid (HR0.out.onW H0.out.w1 t1)
  have y1 := t1.boxW H0.out.w1 Y0.out (by decide)
  have Y1 := Lib.hid y1
  clear d1 d2 d3 h1 t1
  have d1 := cellB (j := 1) Y1.out rfl
  have d3 := cellB (j := 3) Y1.out rfl
  clear y1
  go_wp2_with fail
  refine (rset_any R1.out H0.out.w1.good (Nat.le_trans H0.out.ns T1.out.size) H0.out.nr tk v HI.out.1).mono ?_
  rintro e w2 ⟨rfl, h2⟩
  have H2 := Lib.hid (H0.out.step HR0.out H1.out T1.out h2)
  clear h2 d1 d3
  go_wp2_with fail
  refine (num14 _ _).mono ?_
  rintro e w3 ⟨rfl, rfl⟩
  go_wp2_with fail
  go_returns
  exact ⟨rfl, _, H2.out.1, (setP_grow x tk (.string v)).1, (setP_grow x tk (.string v)).2, B0.out.trans H2.out.2⟩
set_option maxRecDepth 100000 in
set_option maxHeartbeats 3200000 in
theorem act_after {w : World} {N a mb r : Nat} {x : Wh} (h : Two w N a mb r x) (c : Ac) (hc : AcOk c) (hk : c.kd = 2) (hi : x.ids < 400000) (hp : x.pls < 400000) :
    Calls Try.prog 12 #[.pointer (some ⟨a, 0, none⟩), .pointer (some ⟨r, 0, none⟩), actV c] w (ActP N a mb r x w) := by
  obtain ⟨kd, tk, id, v⟩ := c
  obtain rfl : kd = 2 := hk
  have b0 : Below w.heap.size w (w.alloc (.cells #[.int .i64 2, .int .i64 tk, .int .i64 id, .string v] AcT)) := (Below.refl _ _).alloc (Nat.le_refl _) _
  have y0 : (w.alloc (.cells #[.int .i64 2, .int .i64 tk, .int .i64 id, .string v] AcT)).heap[w.heap.size]? = some (Obj.cells #[.int .i64 2, .int .i64 tk, .int .i64 id, .string v] AcT) := heap_alloc_new _ _
  have H0 := Lib.hid (h.below b0)
  have B0 := Lib.hid (b0.mono h.ns)
  have Y0 := Lib.hid y0
  have HC := Lib.hid hc
  have HI := Lib.hid (show x.ids < 400000 ∧ x.pls < 400000 from ⟨hi, hp⟩)
  have tk1 : tk ≤ maxI := hc.2.1.2
  have TK := Lib.hid tk1
  clear h hc hi hp b0 y0 tk1
  go_enter Try.func12, Try.ntmps12
  go_wp2_with fail
  generalize (w.alloc (.cells #[.int .i64 2, .int .i64 tk, .int .i64 id, .string v] AcT)) = w0 at *
  have d1 := cellB (j := 1) Y0.out rfl
  have d2 := cellB (j := 2) Y0.out rfl
  have d3 := cellB (j := 3) Y0.out rfl
  obtain ⟨sl, hr0⟩ := H0.out.r1
  have HR0 := Lib.hid hr0
  clear hr0
  refine (afterS H0.out.w1 tk v HI.out.1 HI.out.2).mono ?_
  rintro e w1 ⟨rfl, h1, t1⟩
  have H1 := Lib.hid h1
  have T1 := Lib.hid t1
  have R1 := Lib.hid (HR0.out.onW H0.out.w1 t1)
  have y1 := t1.boxW H0.out.w1 Y0.out (by decide)
  have Y1 := Lib.hid y1
  clear d1 d2 d3 h1 t1
  have d1 := cellB (j := 1) Y1.out rfl
  have d3 := cellB (j := 3) Y1.out rfl
  clear y1
  go_wp2_with fail
  refine (rafter_any R1.out H0.out.w1.good (Nat.le_trans H0.out.ns T1.out.size) H0.out.nr tk v HI.out.1).mono ?_
  rintro e w2 ⟨rfl, h2⟩
  have H2 := Lib.hid (H0.out.step HR0.out H1.out T1.out h2)
  clear h2 d1 d3
  go_wp2_with fail
  refine (num14 _ _).mono ?_
  rintro e w3 ⟨rfl, rfl⟩
  go_wp2_with fail
  go_returns
  exact ⟨rfl, _, H2.out.1, (afterP_grow x tk (.string v)).1, (afterP_grow x tk (.string v)).2, B0.out.trans H2.out.2⟩
set_option maxRecDepth 100000 in
set_option maxHeartbeats 3200000 in
theorem act_cancel {w : World} {N a mb r : Nat} {x : Wh} (h : Two w N a mb r x) (c : Ac) (hc : AcOk c) (hk : c.kd = 3) (hi : x.ids < 400000) (hp : x.pls < 400000) :
    Calls Try.prog 12 #[.pointer (some ⟨a, 0, none⟩), .pointer (some ⟨r, 0, none⟩), actV c] w (ActP N a mb r x w) := by
  obtain ⟨kd, tk, id, v⟩ := c
  obtain rfl : kd = 3 := hk
  have b0 : Below w.heap.size w (w.alloc (.cells #[.int .i64 3, .int .i64 tk, .int .i64 id, .string v] AcT)) := (Below.refl _ _).alloc (Nat.le_refl _) _
  have y0 : (w.alloc (.cells #[.int .i64 3, .int .i64 tk, .int .i64 id, .string v] AcT)).heap[w.heap.size]? = some (Obj.cells #[.int .i64 3, .int .i64 tk, .int .i64 id, .string v] AcT) := heap_alloc_new _ _
  have H0 := Lib.hid (h.below b0)
  have B0 := Lib.hid (b0.mono h.ns)
  have Y0 := Lib.hid y0
  have HC := Lib.hid hc
  have HI := Lib.hid (show x.ids < 400000 ∧ x.pls < 400000 from ⟨hi, hp⟩)
  have tk1 : tk ≤ maxI := hc.2.1.2
  have TK := Lib.hid tk1
  clear h hc hi hp b0 y0 tk1
  go_enter Try.func12, Try.ntmps12
  go_wp2_with fail
  generalize (w.alloc (.cells #[.int .i64 3, .int .i64 tk, .int .i64 id, .string v] AcT)) = w0 at *
  have d1 := cellB (j := 1) Y0.out rfl
  have d2 := cellB (j := 2) Y0.out rfl
  have d3 := cellB (j := 3) Y0.out rfl
  obtain ⟨sl, hr0⟩ := H0.out.r1
  have HR0 := Lib.hid hr0
  clear hr0
  have hq := cancelS H0.out.w1 (i := id) HC.out.2.2
  obtain ⟨s1, hs1⟩ := valPS_str H0.out.w1.vals id
  rw [hs1] at hq
  have HQ := Lib.hid hq
  have HS1 := Lib.hid hs1
  clear hq hs1
  refine HQ.out.mono ?_
  rintro e w1 ⟨rfl, h1, t1⟩
  have H1 := Lib.hid h1
  have T1 := Lib.hid t1
  have R1 := Lib.hid (HR0.out.onW H0.out.w1 t1)
  have y1 := t1.boxW H0.out.w1 Y0.out (by decide)
  have Y1 := Lib.hid y1
  clear d1 d2 d3 h1 t1
  have d2 := cellB (j := 2) Y1.out rfl
  clear y1
  go_wp2_with fail
  have hq := rcancel_any R1.out H0.out.w1.good (Nat.le_trans H0.out.ns T1.out.size) id
  rw [HS1.out] at hq
  refine hq.mono ?_
  rintro e w2 ⟨rfl, h2⟩
  have H2 := Lib.hid (H0.out.step HR0.out H1.out T1.out h2)
  clear h2 d2 hq
  go_wp2_with fail
  go_returns
  exact ⟨rfl, _, H2.out.1, by simp [takeP]; omega, by simp [takeP]; omega, B0.out.trans H2.out.2⟩
set_option maxRecDepth 100000 in
set_option maxHeartbeats 3200000 in
theorem act_move {w : World} {N a mb r : Nat} {x : Wh} (h : Two w N a mb r x) (c : Ac) (hc : AcOk c) (hk : c.kd = 4) (hi : x.ids < 400000) (hp : x.pls < 400000) :
    Calls Try.prog 12 #[.pointer (some ⟨a, 0, none⟩), .pointer (some ⟨r, 0, none⟩), actV c] w (ActP N a mb r x w) := by
  obtain ⟨kd, tk, id, v⟩ := c
  obtain rfl : kd = 4 := hk
  have b0 : Below w.heap.size w (w.alloc (.cells #[.int .i64 4, .int .i64 tk, .int .i64 id, .string v] AcT)) := (Below.refl _ _).alloc (Nat.le_refl _) _
  have y0 : (w.alloc (.cells #[.int .i64 4, .int .i64 tk, .int .i64 id, .string v] AcT)).heap[w.heap.size]? = some (Obj.cells #[.int .i64 4, .int .i64 tk, .int .i64 id, .string v] AcT) := heap_alloc_new _ _
  have H0 := Lib.hid (h.below b0)
  have B0 := Lib.hid (b0.mono h.ns)
  have Y0 := Lib.hid y0
  have HC := Lib.hid hc
  have HI := Lib.hid (show x.ids < 400000 ∧ x.pls < 400000 from ⟨hi, hp⟩)
  have tk1 : tk ≤ maxI := hc.2.1.2
  have TK := Lib.hid tk1
  clear h hc hi hp b0 y0 tk1
  go_enter Try.func12, Try.ntmps12
  go_wp2_with fail
  generalize (w.alloc (.cells #[.int .i64 4, .int .i64 tk, .int .i64 id, .string v] AcT)) = w0 at *
  have d1 := cellB (j := 1) Y0.out rfl
  have d2 := cellB (j := 2) Y0.out rfl
  have d3 := cellB (j := 3) Y0.out rfl
  obtain ⟨sl, hr0⟩ := H0.out.r1
  have HR0 := Lib.hid hr0
  clear hr0
  clear d1 d2 d3
  have HSF := Lib.hid (fun (W : World) (hy : W.heap[w.heap.size]? = some (Obj.cells #[.int .i64 4, .int .i64 tk, .int .i64 id, .string v] AcT)) => (show W.cell? ⟨w.heap.size, 1, none⟩ = some (.int .i64 tk) ∧ W.cell? ⟨w.heap.size, 2, none⟩ = some (.int .i64 id) from ⟨cellB (j := 1) hy rfl, cellB (j := 2) hy rfl⟩))
  refine lex_start (S := fun W => W.cell? ⟨w.heap.size, 1, none⟩ = some (.int .i64 tk) ∧ W.cell? ⟨w.heap.size, 2, none⟩ = some (.int .i64 id)) [0, 1, 2, 3, 4, 7, 8, 9, 10, 11, 5, 6, 12, 13, 14] (by kernel_rfl) (HSF.out _ Y0.out) (fun hS => ?_)
  simp only [inOrder, List.filterMap, List.getElem?_cons_succ, List.getElem?_cons_zero]
  refine lex_take (i := 0) (v := ?_) rfl (by kernel_rfl) (by kernel_rfl) (by kernel_rfl) (by rfl) hS ?_ ?_
  rotate_left
  · ((intro W k0; obtain ⟨k1, k2⟩ := k0; go_simp) <;> with_reducible rfl)
  (try simp only [Act.put, List.setIfInBounds_toArray, List.set_cons_zero, List.set_cons_succ])
  refine lex_take (i := 1) (v := ?_) rfl (by kernel_rfl) (by kernel_rfl) (by kernel_rfl) (by rfl) hS ?_ ?_
  rotate_left
  · ((intro W k0; obtain ⟨k1, k2⟩ := k0; go_simp) <;> with_reducible rfl)
  (try simp only [Act.put, List.setIfInBounds_toArray, List.set_cons_zero, List.set_cons_succ])
  refine lex_take (i := 2) (v := ?_) rfl (by kernel_rfl) (by kernel_rfl) (by kernel_rfl) (by rfl) hS ?_ ?_
  rotate_left
  · ((intro W k0; obtain ⟨k1, k2⟩ := k0; go_simp) <;> with_reducible rfl)
  (try simp only [Act.put, List.setIfInBounds_toArray, List.set_cons_zero, List.set_cons_succ])
  refine lex_take (i := 3) (v := ?_) rfl (by kernel_rfl) (by kernel_rfl) (by kernel_rfl) (by rfl) hS ?_ ?_
  rotate_left
  · ((intro W k0; obtain ⟨k1, k2⟩ := k0; go_simp) <;> with_reducible rfl)
  (try simp only [Act.put, List.setIfInBounds_toArray, List.set_cons_zero, List.set_cons_succ])
  refine lex_take (i := 4) (v := ?_) rfl (by kernel_rfl) (by kernel_rfl) (by kernel_rfl) (by rfl) hS ?_ ?_
  rotate_left
  · ((intro W k0; obtain ⟨k1, k2⟩ := k0; go_simp) <;> with_reducible rfl)
  (try simp only [Act.put, List.setIfInBounds_toArray, List.set_cons_zero, List.set_cons_succ])
  refine lex_take (i := 7) (v := ?_) rfl (by kernel_rfl) (by kernel_rfl) (by kernel_rfl) (by rfl) hS ?_ ?_
  rotate_left
  · ((intro W k0; obtain ⟨k1, k2⟩ := k0; go_simp) <;> with_reducible rfl)
  (try simp only [Act.put, List.setIfInBounds_toArray, List.set_cons_zero, List.set_cons_succ])
  refine lex_take (i := 8) (v := ?_) rfl (by kernel_rfl) (by kernel_rfl) (by kernel_rfl) (by rfl) hS ?_ ?_
  rotate_left
  · ((intro W k0; obtain ⟨k1, k2⟩ := k0; go_simp) <;> with_reducible rfl)
  (try simp only [Act.put, List.setIfInBounds_toArray, List.set_cons_zero, List.set_cons_succ])
  refine lex_take (i := 9) (v := ?_) rfl (by kernel_rfl) (by kernel_rfl) (by kernel_rfl) (by rfl) hS ?_ ?_
  rotate_left
  · ((intro W k0; obtain ⟨k1, k2⟩ := k0; go_simp) <;> with_reducible rfl)
  (try simp only [Act.put, List.setIfInBounds_toArray, List.set_cons_zero, List.set_cons_succ])
  refine lex_take (i := 10) (v := ?_) rfl (by kernel_rfl) (by kernel_rfl) (by kernel_rfl) (by rfl) hS ?_ ?_
  rotate_left
  · ((intro W k0; obtain ⟨k1, k2⟩ := k0; go_simp) <;> with_reducible rfl)
  (try simp only [Act.put, List.setIfInBounds_toArray, List.set_cons_zero, List.set_cons_succ])
  refine lex_take (i := 11) (v := ?_) rfl (by kernel_rfl) (by kernel_rfl) (by kernel_rfl) (by rfl) hS ?_ ?_
  rotate_left
  · ((intro W k0; obtain ⟨k1, k2⟩ := k0; go_simp) <;> with_reducible rfl)
  (try simp only [Act.put, List.setIfInBounds_toArray, List.set_cons_zero, List.set_cons_succ])
  refine lex_do (i := 5) rfl (by kernel_rfl) (by rfl) (fun K hK => ?_)
  clear hS
  go_simp
  have bD := bd w0
  refine (moveS (H0.out.w1.below bD) (i := id) (k := tk) HC.out.2.2 TK.out HI.out.2).mono ?_
  rintro e w1 ⟨rfl, h1, t1⟩
  have H1 := Lib.hid h1
  have T1 := Lib.hid ((touch_of_below bD (OwnW a mb)).trans t1)
  have R1 := Lib.hid (HR0.out.onW H0.out.w1 T1.out)
  have Y1 := Lib.hid (T1.out.boxW H0.out.w1 Y0.out (by decide))
  clear h1 t1 bD
  refine hK _ _ ⟨HSF.out _ Y1.out, ?_⟩
  clear hK K
  (try simp only [Act.put, List.setIfInBounds_toArray, List.set_cons_zero, List.set_cons_succ])
  refine lex_do (i := 6) rfl (by kernel_rfl) (by rfl) (fun K hK => ?_)
  go_simp
  refine (num14 _ _).mono ?_
  rintro e w3 ⟨rfl, rfl⟩
  refine hK _ _ ⟨HSF.out _ Y1.out, ?_⟩
  clear hK K
  (try simp only [Act.put, List.setIfInBounds_toArray, List.set_cons_zero, List.set_cons_succ])
  refine lex_do (i := 12) rfl (by kernel_rfl) (by rfl) (fun K hK => ?_)
  go_simp
  refine (rmove_any R1.out H0.out.w1.good (Nat.le_trans H0.out.ns T1.out.size) H0.out.nr id tk).mono ?_
  rintro e w2 ⟨rfl, h2⟩
  have H2 := Lib.hid (H0.out.step HR0.out H1.out T1.out h2)
  obtain ⟨sl2, g1, g2, g3⟩ := h2
  have Y2 := Lib.hid (g2.boxR R1.out Y1.out (by decide) (by decide))
  clear g1 g2 g3
  refine hK _ _ ⟨HSF.out _ Y2.out, ?_⟩
  clear hK K
  (try simp only [Act.put, List.setIfInBounds_toArray, List.set_cons_zero, List.set_cons_succ])
  refine lex_do (i := 13) rfl (by kernel_rfl) (by rfl) (fun K hK => ?_)
  go_simp
  refine hK _ _ ⟨HSF.out _ Y2.out, ?_⟩
  clear hK K
  (try simp only [Act.put, List.setIfInBounds_toArray, List.set_cons_zero, List.set_cons_succ])
  refine lex_do (i := 14) rfl (by kernel_rfl) (by rfl) (fun K hK => ?_)
  go_simp
  refine hK _ _ ⟨HSF.out _ Y2.out, ?_⟩
  clear hK K
  refine lex_done (by kernel_rfl) ?_
  go_wp2_with fail
  go_returns
  exact ⟨rfl, _, H2.out.1, (moveP_grow x id tk).1, (moveP_grow x id tk).2, B0.out.trans H2.out.2⟩
set_option maxRecDepth 100000 in
set_option maxHeartbeats 3200000 in
theorem act_other {w : World} {N a mb r : Nat} {x : Wh} (h : Two w N a mb r x) (c : Ac) (hc : AcOk c) (hk : ∀ n : Int, 1 ≤ n → n ≤ 6 → c.kd ≠ n) (hi : x.ids < 400000) (hp : x.pls < 400000) :
    Calls Try.prog 12 #[.pointer (some ⟨a, 0, none⟩), .pointer (some ⟨r, 0, none⟩), actV c] w (ActP N a mb r x w) := by
  obtain ⟨kd, tk, id, v⟩ := c
  have hk : ∀ n : Int, 1 ≤ n → n ≤ 6 → (kd == n) = false := fun n h1 h2 => by simpa using hk n h1 h2
  have b0 : Below w.heap.size w (w.alloc (.cells #[.int .i64 kd, .int .i64 tk, .int .i64 id, .string v] AcT)) := (Below.refl _ _).alloc (Nat.le_refl _) _
  have y0 : (w.alloc (.cells #[.int .i64 kd, .int .i64 tk, .int .i64 id, .string v] AcT)).heap[w.heap.size]? = some (Obj.cells #[.int .i64 kd, .int .i64 tk, .int .i64 id, .string v] AcT) := heap_alloc_new _ _
  have H0 := Lib.hid (h.below b0)
  have B0 := Lib.hid (b0.mono h.ns)
  have Y0 := Lib.hid y0
  have HC := Lib.hid hc
  have HI := Lib.hid (show x.ids < 400000 ∧ x.pls < 400000 from ⟨hi, hp⟩)
  have tk1 : tk ≤ maxI := hc.2.1.2
  have TK := Lib.hid tk1
  clear h hc hi hp b0 y0 tk1
  have hk1 := hk 1 (by decide) (by decide)
  have hk2 := hk 2 (by decide) (by decide)
  have hk3 := hk 3 (by decide) (by decide)
  have hk4 := hk 4 (by decide) (by decide)
  have hk5 := hk 5 (by decide) (by decide)
  have hk6 := hk 6 (by decide) (by decide)
  clear hk
  go_enter Try.func12, Try.ntmps12
  go_wp2_with fail
  generalize (w.alloc (.cells #[.int .i64 kd, .int .i64 tk, .int .i64 id, .string v] AcT)) = w0 at *
  have d1 := cellB (j := 1) Y0.out rfl
  have d2 := cellB (j := 2) Y0.out rfl
  have d3 := cellB (j := 3) Y0.out rfl
  obtain ⟨sl, hr0⟩ := H0.out.r1
  have HR0 := Lib.hid hr0
  clear hr0
  clear d1 d2 d3
  go_wp2_with fail
  go_returns
  exact ⟨rfl, x, H0.out, by omega, by omega, B0.out⟩
theorem own_onR {w w' : World} {N r B n : Nat} {sl v : Value} {y : Wh} {xs : List Value} (hr : IsR w N r sl y) (ht : Touch (OwnR r sl) w w') (o : w.ownsRow B ElTS 1 v n xs) : w'.ownsRow B ElTS 1 v n xs := by
  refine own_keep o ht fun k hk e => ?_
  obtain ⟨_, cur, hc⟩ := own_type o hk
  rcases e with rfl | e
  · rw [hr.lay] at hc
    have := (Obj.cells.inj (Option.some.inj hc)).2.1
    revert this; decide
  · obtain ⟨_, cur2, hc2⟩ := own_type hr.row e
    rw [hc2] at hc
    have := (Obj.cells.inj (Option.some.inj hc)).2.1
    revert this; decide
theorem dueL_sub {ts : List Tm} {k : Int} {t : Tm} (h : t ∈ dueL ts k) : t ∈ ts := (List.mem_filter.1 h).1
theorem dueL_len (ts : List Tm) (k : Int) : (dueL ts k).length ≤ ts.length := List.length_filter_le _ _
set_option maxRecDepth 100000 in
set_option maxHeartbeats 3200000 in
theorem act_tick {w : World} {N a mb r : Nat} {x : Wh} (h : Two w N a mb r x) (c : Ac) (hc : AcOk c) (hk : c.kd = 5) (hi : x.ids < 400000) (hp : x.pls < 400000) :
    Calls Try.prog 12 #[.pointer (some ⟨a, 0, none⟩), .pointer (some ⟨r, 0, none⟩), actV c] w (ActP N a mb r x w) := by
  obtain ⟨kd, tk, id, v⟩ := c
  obtain rfl : kd = 5 := hk
  have b0 : Below w.heap.size w (w.alloc (.cells #[.int .i64 5, .int .i64 tk, .int .i64 id, .string v] AcT)) := (Below.refl _ _).alloc (Nat.le_refl _) _
  have y0 : (w.alloc (.cells #[.int .i64 5, .int .i64 tk, .int .i64 id, .string v] AcT)).heap[w.heap.size]? = some (Obj.cells #[.int .i64 5, .int .i64 tk, .int .i64 id, .string v] AcT) := heap_alloc_new _ _
  have H0 := Lib.hid (h.below b0)
  have B0 := Lib.hid (b0.mono h.ns)
  have Y0 := Lib.hid y0
  have HC := Lib.hid hc
  have HI := Lib.hid (show x.ids < 400000 ∧ x.pls < 400000 from ⟨hi, hp⟩)
  have tk1 : tk ≤ maxI := hc.2.1.2
  have TK := Lib.hid tk1
  clear h hc hi hp b0 y0 tk1
  go_enter Try.func12, Try.ntmps12
  go_wp2_with fail
  generalize (w.alloc (.cells #[.int .i64 5, .int .i64 tk, .int .i64 id, .string v] AcT)) = w0 at *
  have d1 := cellB (j := 1) Y0.out rfl
  have d2 := cellB (j := 2) Y0.out rfl
  have d3 := cellB (j := 3) Y0.out rfl
  obtain ⟨sl, hr0⟩ := H0.out.r1
  have HR0 := Lib.hid hr0
  clear hr0
  by_cases hM : x.now = maxI
  · refine (tick_noS H0.out.w1 hM).mono ?_
    rintro e w1 ⟨rfl, b1⟩
    have c0 := cellB (j := 0) (HR0.out.below b1).lay rfl
    have H1 := Lib.hid (H0.out.below b1)
    have B1 := Lib.hid (B0.out.trans (b1.mono H0.out.ns))
    have hm : (x.now == 9223372036854775807) = true := by rw [hM]; rfl
    clear b1 hM d1 d2 d3
    go_wp2_with fail
    go_returns
    exact ⟨rfl, x, H1.out, by omega, by omega, B1.out⟩
  · have h0 := H0.out.w1.good.now0
    have h1 : x.now < maxI := by have := H0.out.w1.good.nowM; omega
    have hm : (x.now == 9223372036854775807) = false := by unfold maxI at hM; simpa using hM
    have hw : IntKind.i64.wrap (x.now + 1) = x.now + 1 := IntWalk.i64_in _ (by unfold maxI at h1; omega)
    have HM := Lib.hid h1
    clear hM h0 h1
    obtain ⟨bs, hbs, hbl⟩ := vals_strs (l := dueL x.ts (x.now + 1)) (fun t ht => H0.out.w1.vals t (dueL_sub ht))
    have HBS := Lib.hid (show valsL (dueL x.ts (x.now + 1)) = strs bs ∧ (dueL x.ts (x.now + 1)).length = bs.length from ⟨hbs, hbl.symm⟩)
    have HDL := Lib.hid (show (dueL x.ts (x.now + 1)).length ≤ 4096 from Nat.le_trans (dueL_len _ _) H0.out.w1.good.len)
    clear hbs hbl
    refine (tickS H0.out.w1 HM.out).mono ?_
    rintro e w1 ⟨u, rfl, o1, h1, t1⟩
    have H1 := Lib.hid h1
    have T1 := Lib.hid t1
    have O1 := Lib.hid o1
    have hr1 := HR0.out.onW H0.out.w1 t1
    have c0 := cellB (j := 0) hr1.lay rfl
    have R1 := Lib.hid hr1
    have Y1 := Lib.hid (t1.boxW H0.out.w1 Y0.out (by decide))
    clear h1 t1 o1 hr1 d1 d2 d3
    go_wp2_with fail
    refine (rfires_any R1.out H0.out.w1.good.ord (Nat.le_trans H0.out.ns T1.out.size) (by have := H0.out.w1.good.len; omega) (x.now + 1)).mono ?_
    rintro e w2 ⟨u2, rfl, o2, h2⟩
    have H2 := Lib.hid (H0.out.step HR0.out H1.out T1.out h2)
    obtain ⟨sl2, g1, g2, g3⟩ := h2
    have O3 := Lib.hid (own_onR R1.out g2 O1.out)
    have O2 := Lib.hid o2
    clear g1 g2 g3 o2
    clear c0
    go_wp2_with fail
    refine (rvalues_any O2.out (fun t ht => H0.out.w1.vals t (dueL_sub ht)) (by have := HDL.out; omega)).mono ?_
    rintro e w3 ⟨u3, rfl, o3, b3⟩
    have R3 := Lib.hid (row_of_own o3)
    have O4 := Lib.hid (own_hold O3.out (Hold.below b3))
    have H3 := Lib.hid (H2.out.1.below b3)
    have B3 := Lib.hid (H2.out.2.trans (b3.mono H2.out.1.ns))
    clear o3 b3
    go_wp2_with fail
    refine (texts_any (xs := bs) (ys := bs) (by have h := row_of_own O4.out; rw [show List.map (fun x => x.v) (dueL x.ts (x.now + 1)) = strs bs from HBS.out.1, HBS.out.2] at h; exact h) (by have h := R3.out; rw [HBS.out.1, HBS.out.2] at h; exact h) (by have := HDL.out; have := HBS.out.2; omega) (by have := HDL.out; have := HBS.out.2; omega)).mono ?_
    rintro e w4 ⟨rfl, d4⟩
    rw [decide_eq_true (rfl : bs = bs)]
    have H4 := Lib.hid (H3.out.below d4.below)
    have B4 := Lib.hid (B3.out.trans (d4.below.mono H3.out.ns))
    clear d4
    go_wp2_with fail
    go_returns
    exact ⟨rfl, _, H4.out, by simp; omega, by simp; omega, B0.out.trans B4.out⟩
set_option maxRecDepth 100000 in
set_option maxHeartbeats 3200000 in
theorem act_turn {w : World} {N a mb r : Nat} {x : Wh} (h : Two w N a mb r x) (c : Ac) (hc : AcOk c) (hk : c.kd = 6) (hi : x.ids < 400000) (hp : x.pls < 400000) :
    Calls Try.prog 12 #[.pointer (some ⟨a, 0, none⟩), .pointer (some ⟨r, 0, none⟩), actV c] w (ActP N a mb r x w) := by
  obtain ⟨kd, tk, id, v⟩ := c
  obtain rfl : kd = 6 := hk
  have b0 : Below w.heap.size w (w.alloc (.cells #[.int .i64 6, .int .i64 tk, .int .i64 id, .string v] AcT)) := (Below.refl _ _).alloc (Nat.le_refl _) _
  have y0 : (w.alloc (.cells #[.int .i64 6, .int .i64 tk, .int .i64 id, .string v] AcT)).heap[w.heap.size]? = some (Obj.cells #[.int .i64 6, .int .i64 tk, .int .i64 id, .string v] AcT) := heap_alloc_new _ _
  have H0 := Lib.hid (h.below b0)
  have B0 := Lib.hid (b0.mono h.ns)
  have Y0 := Lib.hid y0
  have HC := Lib.hid hc
  have HI := Lib.hid (show x.ids < 400000 ∧ x.pls < 400000 from ⟨hi, hp⟩)
  have tk1 : tk ≤ maxI := hc.2.1.2
  have TK := Lib.hid tk1
  clear h hc hi hp b0 y0 tk1
  go_enter Try.func12, Try.ntmps12
  go_wp2_with fail
  generalize (w.alloc (.cells #[.int .i64 6, .int .i64 tk, .int .i64 id, .string v] AcT)) = w0 at *
  have d1 := cellB (j := 1) Y0.out rfl
  have d2 := cellB (j := 2) Y0.out rfl
  have d3 := cellB (j := 3) Y0.out rfl
  obtain ⟨sl, hr0⟩ := H0.out.r1
  have HR0 := Lib.hid hr0
  clear hr0
  by_cases hn : tk < 0 ∨ maxI - x.now < tk
  · refine (turn_noS H0.out.w1 (n := tk) hn).mono ?_
    rintro e w1 ⟨rfl, b1⟩
    have c0 := cellB (j := 0) (HR0.out.below b1).lay rfl
    have H1 := Lib.hid (H0.out.below b1)
    have B1 := Lib.hid (B0.out.trans (b1.mono H0.out.ns))
    have y1 := (b1.block _ (Array.getElem?_eq_some_iff.1 Y0.out).1).trans Y0.out
    clear d1 d2 d3
    have d1 := cellB (j := 1) y1 rfl
    have hw : IntKind.i64.wrap (9223372036854775807 - x.now) = 9223372036854775807 - x.now := IntWalk.i64_in _ (by have := H0.out.w1.good.now0; have := H0.out.w1.good.nowM; unfold maxI at this; omega)
    have HNN := Lib.hid hn
    clear b1 y1 hn
    by_cases hneg : tk < 0
    · have hd : decide (tk < 0) = true := by simpa using hneg
      clear HNN hneg hw
      go_wp2_with fail
      go_quiet (fail)
      go_wp2_with fail
      refine (num14 _ _).mono ?_
      rintro e w3 ⟨rfl, rfl⟩
      go_wp2_with fail
      go_returns
      exact ⟨rfl, x, H1.out.below (bdn _ _), by omega, by omega, B1.out.trans ((bdn _ _).mono H1.out.ns)⟩
    · have hd : decide (tk < 0) = false := by simpa using hneg
      have hd2 : decide (9223372036854775807 - x.now < tk) = true := by
        have h := HNN.out
        unfold maxI at h
        simpa using h.resolve_left hneg
      clear HNN hneg
      go_wp2_with fail
      go_quiet (fail)
      go_wp2_with fail
      refine (num14 _ _).mono ?_
      rintro e w3 ⟨rfl, rfl⟩
      go_wp2_with fail
      go_returns
      exact ⟨rfl, x, H1.out.below (bdn _ _), by omega, by omega, B1.out.trans ((bdn _ _).mono H1.out.ns)⟩
  · have hn0 : 0 ≤ tk := by omega
    have hn1 : tk ≤ maxI - x.now := by omega
    have hw0 := H0.out.w1.good.now0
    have hw1 := H0.out.w1.good.nowM
    have hw : IntKind.i64.wrap (9223372036854775807 - x.now) = 9223372036854775807 - x.now := IntWalk.i64_in _ (by unfold maxI at hw1; omega)
    have hw2 : IntKind.i64.wrap (x.now + tk) = x.now + tk := IntWalk.i64_in _ (by unfold maxI at hw1 hn1; omega)
    have hd : decide (tk < 0) = false := by simpa using hn0
    have hd2 : decide (9223372036854775807 - x.now < tk) = false := by unfold maxI at hn1; simpa using hn1
    have HM := Lib.hid (show 0 ≤ tk ∧ tk ≤ maxI - x.now from ⟨hn0, hn1⟩)
    clear hn hn0 hn1 hw0 hw1
    obtain ⟨bs, hbs, hbl⟩ := vals_strs (l := dueL x.ts (x.now + tk)) (fun t ht => H0.out.w1.vals t (dueL_sub ht))
    have HBS := Lib.hid (show valsL (dueL x.ts (x.now + tk)) = strs bs ∧ (dueL x.ts (x.now + tk)).length = bs.length from ⟨hbs, hbl.symm⟩)
    have HDL := Lib.hid (show (dueL x.ts (x.now + tk)).length ≤ 4096 from Nat.le_trans (dueL_len _ _) H0.out.w1.good.len)
    clear hbs hbl
    refine (turnS H0.out.w1 HM.out.1 HM.out.2).mono ?_
    rintro e w1 ⟨u, rfl, o1, h1, t1⟩
    have H1 := Lib.hid h1
    have T1 := Lib.hid t1
    have O1 := Lib.hid o1
    have hr1 := HR0.out.onW H0.out.w1 t1
    have c0 := cellB (j := 0) hr1.lay rfl
    have R1 := Lib.hid hr1
    have Y1 := Lib.hid (t1.boxW H0.out.w1 Y0.out (by decide))
    clear h1 t1 o1 hr1 d1 d2 d3
    have d1 := cellB (j := 1) Y1.out rfl
    go_wp2_with fail
    go_quiet (fail)
    have bq := bdn w1 nq
    have Y1' := Lib.hid ((bq.block _ (Array.getElem?_eq_some_iff.1 Y1.out).1).trans Y1.out)
    have R1' := Lib.hid (R1.out.below bq)
    have H1' := Lib.hid (H1.out.below bq)
    have T1' := Lib.hid (T1.out.trans (touch_of_below bq (OwnW a mb)))
    have O1' := Lib.hid (own_hold O1.out (Hold.below bq))
    clear Y1 R1 H1 T1 O1 bq c0 d1 hw
    have R1 := R1'
    have H1 := H1'
    have T1 := T1'
    have O1 := O1'
    clear R1' H1' T1' O1'
    go_wp2_with fail
    generalize (w1.drewN nq) = wq at *
    have bD := bd wq
    have HSF := Lib.hid (fun (W : World) (hy : W.heap[w.heap.size]? = some (Obj.cells #[.int .i64 6, .int .i64 tk, .int .i64 id, .string v] AcT)) => (show W.cell? ⟨w.heap.size, 1, none⟩ = some (.int .i64 tk) ∧ W.cell? ⟨w.heap.size, 2, none⟩ = some (.int .i64 id) from ⟨cellB (j := 1) hy rfl, cellB (j := 2) hy rfl⟩))
    refine lex_start (S := fun W => W.cell? ⟨w.heap.size, 1, none⟩ = some (.int .i64 tk) ∧ W.cell? ⟨w.heap.size, 2, none⟩ = some (.int .i64 id)) [0, 1, 2, 3, 4, 5, 6, 7, 8, 10, 11, 9, 12, 13, 14, 15, 16, 17] (by kernel_rfl) (HSF.out _ Y1'.out) (fun hS => ?_)
    simp only [inOrder, List.filterMap, List.getElem?_cons_succ, List.getElem?_cons_zero]
    have R2 := Lib.hid (R1.out.below bD)
    have H2' := Lib.hid (H1.out.below bD)
    have T2' := Lib.hid (T1.out.trans (touch_of_below bD (OwnW a mb)))
    have O2' := Lib.hid (own_hold O1.out (Hold.below bD))
    have Y2' : Hid (wq.drew.heap[w.heap.size]? = some (Obj.cells #[.int .i64 6, .int .i64 tk, .int .i64 id, .string v] AcT)) := Lib.hid Y1'.out
    clear R1 H1 T1 O1 bD Y1'
    have R1 := R2
    have H1 := H2'
    have T1 := T2'
    have O1 := O2'
    have Y1 := Y2'
    clear R2 H2' T2' O2' Y2'
    generalize wq.drew = wd at *
    refine lex_take (i := 0) (v := ?_) rfl (by kernel_rfl) (by kernel_rfl) (by kernel_rfl) (by rfl) hS ?_ ?_
    rotate_left
    · ((intro W k0; obtain ⟨k1, k2⟩ := k0; go_simp) <;> with_reducible rfl)
    (try simp only [Act.put, List.setIfInBounds_toArray, List.set_cons_zero, List.set_cons_succ])
    refine lex_do (i := 1) rfl (by kernel_rfl) (by rfl) (fun K hK => ?_)
    clear hS
    go_simp
    refine (num14 _ _).mono ?_
    rintro e w3 ⟨rfl, rfl⟩
    refine hK _ _ ⟨HSF.out _ Y1.out, ?_⟩
    clear hK K
    (try simp only [Act.put, List.setIfInBounds_toArray, List.set_cons_zero, List.set_cons_succ])
    have hS := HSF.out _ Y1.out
    refine lex_take (i := 2) (v := ?_) rfl (by kernel_rfl) (by kernel_rfl) (by kernel_rfl) (by rfl) hS ?_ ?_
    rotate_left
    · ((intro W k0; obtain ⟨k1, k2⟩ := k0; go_simp) <;> with_reducible rfl)
    (try simp only [Act.put, List.setIfInBounds_toArray, List.set_cons_zero, List.set_cons_succ])
    refine lex_take (i := 3) (v := ?_) rfl (by kernel_rfl) (by kernel_rfl) (by kernel_rfl) (by rfl) hS ?_ ?_
    rotate_left
    · ((intro W k0; obtain ⟨k1, k2⟩ := k0; go_simp) <;> with_reducible rfl)
    (try simp only [Act.put, List.setIfInBounds_toArray, List.set_cons_zero, List.set_cons_succ])
    refine lex_take (i := 4) (v := ?_) rfl (by kernel_rfl) (by kernel_rfl) (by kernel_rfl) (by rfl) hS ?_ ?_
    rotate_left
    · ((intro W k0; obtain ⟨k1, k2⟩ := k0; go_simp) <;> with_reducible rfl)
    (try simp only [Act.put, List.setIfInBounds_toArray, List.set_cons_zero, List.set_cons_succ])
    refine lex_take (i := 5) (v := ?_) rfl (by kernel_rfl) (by kernel_rfl) (by kernel_rfl) (by rfl) hS ?_ ?_
    rotate_left
    · ((intro W k0; obtain ⟨k1, k2⟩ := k0; go_simp) <;> with_reducible rfl)
    (try simp only [Act.put, List.setIfInBounds_toArray, List.set_cons_zero, List.set_cons_succ])
    refine lex_take (i := 6) (v := ?_) rfl (by kernel_rfl) (by kernel_rfl) (by kernel_rfl) (by rfl) hS ?_ ?_
    rotate_left
    · ((intro W k0; obtain ⟨k1, k2⟩ := k0; go_simp) <;> with_reducible rfl)
    (try simp only [Act.put, List.setIfInBounds_toArray, List.set_cons_zero, List.set_cons_succ])
    refine lex_take (i := 7) (v := ?_) rfl (by kernel_rfl) (by kernel_rfl) (by kernel_rfl) (by rfl) hS ?_ ?_
    rotate_left
    · ((intro W k0; obtain ⟨k1, k2⟩ := k0; go_simp) <;> with_reducible rfl)
    (try simp only [Act.put, List.setIfInBounds_toArray, List.set_cons_zero, List.set_cons_succ])
    refine lex_take (i := 8) (v := ?_) rfl (by kernel_rfl) (by kernel_rfl) (by kernel_rfl) (by rfl) hS ?_ ?_
    rotate_left
    · ((intro W k0; obtain ⟨k1, k2⟩ := k0; go_simp) <;> with_reducible rfl)
    (try simp only [Act.put, List.setIfInBounds_toArray, List.set_cons_zero, List.set_cons_succ])
    refine lex_take (i := 10) (v := ?_) rfl (by kernel_rfl) (by kernel_rfl) (by kernel_rfl) (by rfl) hS ?_ ?_
    rotate_left
    · ((intro W k0; obtain ⟨k1, k2⟩ := k0; go_simp) <;> with_reducible rfl)
    (try simp only [Act.put, List.setIfInBounds_toArray, List.set_cons_zero, List.set_cons_succ])
    refine lex_take (i := 11) (v := ?_) rfl (by kernel_rfl) (by kernel_rfl) (by kernel_rfl) (by rfl) hS ?_ ?_
    rotate_left
    · ((intro W k0; obtain ⟨k1, k2⟩ := k0; go_simp) <;> with_reducible rfl)
    (try simp only [Act.put, List.setIfInBounds_toArray, List.set_cons_zero, List.set_cons_succ])
    clear hS
    have c0 := cellB (j := 0) R1.out.lay rfl
    refine lex_do (i := 9) rfl (by kernel_rfl) (by rfl) (fun K hK => ?_)
    go_simp
    refine hK _ _ ⟨HSF.out _ Y1.out, ?_⟩
    clear hK K
    (try simp only [Act.put, List.setIfInBounds_toArray, List.set_cons_zero, List.set_cons_succ])
    clear c0
    refine lex_do (i := 12) rfl (by kernel_rfl) (by rfl) (fun K hK => ?_)
    go_simp
    refine hK _ _ ⟨HSF.out _ Y1.out, ?_⟩
    clear hK K
    (try simp only [Act.put, List.setIfInBounds_toArray, List.set_cons_zero, List.set_cons_succ])
    refine lex_do (i := 13) rfl (by kernel_rfl) (by rfl) (fun K hK => ?_)
    go_simp
    refine (rfires_any R1.out H0.out.w1.good.ord (Nat.le_trans H0.out.ns T1.out.size) (by have := H0.out.w1.good.len; omega) (x.now + tk)).mono ?_
    rintro e w2 ⟨u2, rfl, o2, h2⟩
    have H2 := Lib.hid (H0.out.step HR0.out H1.out T1.out h2)
    obtain ⟨sl2, g1, g2, g3⟩ := h2
    have O3 := Lib.hid (own_onR R1.out g2 O1.out)
    have Y2 := Lib.hid (g2.boxR R1.out Y1.out (by decide) (by decide))
    have O2 := Lib.hid o2
    clear g1 g2 g3 o2
    refine hK _ _ ⟨HSF.out _ Y2.out, ?_⟩
    clear hK K
    (try simp only [Act.put, List.setIfInBounds_toArray, List.set_cons_zero, List.set_cons_succ])
    refine lex_do (i := 14) rfl (by kernel_rfl) (by rfl) (fun K hK => ?_)
    go_simp
    refine (rvalues_any O2.out (fun t ht => H0.out.w1.vals t (dueL_sub ht)) (by have := HDL.out; omega)).mono ?_
    rintro e w3 ⟨u3, rfl, o3, b3⟩
    have R3 := Lib.hid (row_of_own o3)
    have O4 := Lib.hid (own_hold O3.out (Hold.below b3))
    have H3 := Lib.hid (H2.out.1.below b3)
    have B3 := Lib.hid (H2.out.2.trans (b3.mono H2.out.1.ns))
    have Y3 := Lib.hid ((b3.block _ (Array.getElem?_eq_some_iff.1 Y2.out).1).trans Y2.out)
    clear o3 b3
    refine hK _ _ ⟨HSF.out _ Y3.out, ?_⟩
    clear hK K
    (try simp only [Act.put, List.setIfInBounds_toArray, List.set_cons_zero, List.set_cons_succ])
    refine lex_do (i := 15) rfl (by kernel_rfl) (by rfl) (fun K hK => ?_)
    go_simp
    refine (texts_any (xs := bs) (ys := bs) (by have h := row_of_own O4.out; rw [show List.map (fun x => x.v) (dueL x.ts (x.now + tk)) = strs bs from HBS.out.1, HBS.out.2] at h; exact h) (by have h := R3.out; rw [HBS.out.1, HBS.out.2] at h; exact h) (by have := HDL.out; have := HBS.out.2; omega) (by have := HDL.out; have := HBS.out.2; omega)).mono ?_
    rintro e w4 ⟨rfl, d4⟩
    rw [decide_eq_true (rfl : bs = bs)]
    have H4 := Lib.hid (H3.out.below d4.below)
    have B4 := Lib.hid (B3.out.trans (d4.below.mono H3.out.ns))
    have Y4 := Lib.hid ((d4.below.block _ (Array.getElem?_eq_some_iff.1 Y3.out).1).trans Y3.out)
    clear d4
    refine hK _ _ ⟨HSF.out _ Y4.out, ?_⟩
    clear hK K
    (try simp only [Act.put, List.setIfInBounds_toArray, List.set_cons_zero, List.set_cons_succ])
    refine lex_do (i := 16) rfl (by kernel_rfl) (by rfl) (fun K hK => ?_)
    go_simp
    refine hK _ _ ⟨HSF.out _ Y4.out, ?_⟩
    clear hK K
    (try simp only [Act.put, List.setIfInBounds_toArray, List.set_cons_zero, List.set_cons_succ])
    refine lex_do (i := 17) rfl (by kernel_rfl) (by rfl) (fun K hK => ?_)
    go_simp
    refine hK _ _ ⟨HSF.out _ Y4.out, ?_⟩
    clear hK K
    refine lex_done (by kernel_rfl) ?_
    go_wp2_with fail
    go_returns
    exact ⟨rfl, _, H4.out, by simp; omega, by simp; omega, B0.out.trans B4.out⟩
end Go.Proofs.Ytbgnedeeeaapfaa
