/-
  What take does with the document's wheel in memory.
-/
import Derived.Test.YtbgnedeeeaapfaaWRf
import Derived.Laws.AppendOwnNone
import Derived.DeepKeys4
namespace Go.Proofs.Ytbgnedeeeaapfaa
open Go.RowKit
set_option linter.unusedVariables false
theorem tmsC_oneCell (l : List Tm) (h : ∀ t ∈ l, ∃ s : ByteArray, t.v = .string s) : ∀ u ∈ tmsC l, u.oneCell' = true := by
  intro u hu
  unfold tmsC at hu
  obtain ⟨t, ht, hx⟩ := List.mem_flatMap.1 hu
  obtain ⟨s, hs⟩ := h t ht
  simp only [List.mem_cons, List.mem_nil_iff, or_false, hs] at hx
  rcases hx with rfl | rfl | rfl <;> rfl
theorem Touch.newset {S : Nat → Prop} {w W : World} (h : Touch S w W) {a : Nat} (ha : w.heap.size ≤ a) (o : Nat) (u : Value) : Touch S w (W.setCell ⟨a, o, none⟩ u) :=
  ⟨h.os, h.tape, h.output, by simpa [World.setCell] using h.size, fun k hk hn => (Below.heap_setCell _ _ _ _ (by rintro rfl; omega)).trans (h.block k hk hn)⟩
theorem wp_apps {w : World} {o : Oper} {a : Act} {K : Act → World → Prop} {Q : Exit → Act → World → Prop} (s x : Operand)
    (ho : o.op = .call { callee := .builtin .append, args := #[s, x], argTypes := #[SlR, SlR] })
    (base : Nat) (v : Value) (xs : List Tm) (hs : a.eval s = v) (hown : w.ownsRow base RtT 3 v xs.length (tmsC xs)) (vx : Value) (l : List Tm) (hx : a.eval x = vx) (hrd : Row w 3 vx l.length (tmsC l))
    (hone : ∀ t ∈ l, ∃ s : ByteArray, t.v = .string s) (hlen : xs.length + l.length ≤ 1000000) (hbase : base ≤ w.heap.size)
    (h : ∀ v' w', w'.ownsRow base RtT 3 v' (xs ++ l).length (tmsC (xs ++ l)) → w.grownBy w' v.ownBlock → K (a.put o.dst v') w') : Oper.wp Try.prog o a w K Q := by
  obtain ⟨i0, hi, hz0, hz1, hz2⟩ := info_parts rowR
  rcases hrd with ⟨hl, ⟨rfl, h0⟩ | ⟨b, off, cap, rfl, h1, h2, h3, h4⟩⟩
  · obtain rfl : l = [] := List.eq_nil_of_length_eq_zero h0
    have hrun := run_append_owned_none (P := Try.prog) (w := w) base SlR o.type RtT i0 3 Try.underlying28 hi v _ _ hown
    unfold Oper.wp
    simp [execOp, ho, resolve, invoke, builtin, hs, hx, hrun, Result.andThen]
    exact h v w (by rw [List.append_nil]; exact hown) ⟨rfl, rfl, rfl, Nat.le_refl _, fun _ _ _ => rfl⟩
  · refine wp_append_own w s x SlR ho base RtT i0 (.agg #[.int .i64 0, .int .i64 0, .string ⟨#[]⟩]) 3 32 Try.underlying28 hi hz0 hz1 hz2 rfl (by decide) v _ _ hs hown ⟨b, off, none⟩ l.length cap (tmsC l) hx (by rw [tmsC_len]) (fun j u hj => by
      have := h4 j u hj
      by_cases h0 : j = 0 <;> simp_all [Addr.add]) (tmsC_oneCell l hone) (by unfold maxLen; omega) (by omega) hbase ?_
    intro v' w' h6 h7 _
    exact h v' w' (by rw [List.length_append, tmsC_append]; exact h6) h7
theorem sizeR (w : World) : (Go.sizeOf RtT).run Try.prog w = .ok 3 w := by kernel_rfl
theorem elemR : Try.prog.elem SlR = RtT := by simp [Program.elem, Try.underlying28]
theorem undR : Try.prog.underlying SlR = some (.slice (Try.prog.elem SlR)) := by rw [elemR]; exact Try.underlying28
/-- What stands ahead of a place. -/
theorem row_takeR {w : World} {b cap : Nat} {l : List Tm} (h : Row w 3 (.slice (some ⟨b, 0, none⟩) l.length cap) l.length (tmsC l)) {k : Nat} (hk : k ≤ l.length) :
    Row w 3 (.slice (some ⟨b, 0, none⟩) (l.take k).length cap) (l.take k).length (tmsC (l.take k)) ∧ ∀ W : World, (Instr.slice SlR (.slice (some ⟨b, 0, none⟩) l.length cap) none (some (.int .i64 (k : Int))) none).run Try.prog W = .ok (.slice (some ⟨b, 0, none⟩) (l.take k).length cap) W := by
  have hkl : (l.take k).length = k := by simp; omega
  obtain ⟨h1, h2⟩ := h
  rcases h2 with ⟨e, _⟩ | ⟨b', off, cap', e, h3, h4, h5, h6⟩
  · simp at e
  · simp only [Value.slice.injEq, Option.some.injEq, Addr.mk.injEq] at e
    obtain ⟨⟨rfl, rfl, _⟩, _, rfl⟩ := e
    refine ⟨⟨tmsC_len _, .inr ⟨b, 0, cap, rfl, h3, by omega, h5, fun j u hj => h6 j u ?_⟩⟩, fun W => ?_⟩
    · have : tmsC l = tmsC (l.take k) ++ tmsC (l.drop k) := by rw [← tmsC_append, List.take_append_drop]
      rw [this, List.getElem?_append_left (List.getElem?_eq_some_iff.1 hj).1]; exact hj
    · rw [run_slice_h W _ _ _ _ undR _ _ (by omega) (by omega), elemR, sizeR, hkl]
      simp only [Result.andThen_ok, sliced]
      by_cases hc : cap = 0
      · simp [hc]
      · simp [hc, Addr.add]
/-- What stands behind a place. -/
theorem row_dropR {w : World} {b cap : Nat} {l : List Tm} (h : Row w 3 (.slice (some ⟨b, 0, none⟩) l.length cap) l.length (tmsC l)) {k : Nat} (hk : k ≤ l.length) :
    ∃ v', v' = .slice (if cap = k then some ⟨b, 0, none⟩ else some ⟨b, k * 3, none⟩) (l.length - k) (cap - k) ∧ Row w 3 v' (l.drop k).length (tmsC (l.drop k)) ∧ ∀ W : World, (Instr.slice SlR (.slice (some ⟨b, 0, none⟩) l.length cap) (some (.int .i64 (k : Int))) none none).run Try.prog W = .ok v' W := by
  have hkl : (l.drop k).length = l.length - k := by simp
  obtain ⟨h1, h2⟩ := h
  rcases h2 with ⟨e, _⟩ | ⟨b', off, cap', e, h3, h4, h5, h6⟩
  · simp at e
  · simp only [Value.slice.injEq, Option.some.injEq, Addr.mk.injEq] at e
    obtain ⟨⟨rfl, rfl, _⟩, _, rfl⟩ := e
    refine ⟨.slice (some (if cap = k then ⟨b, 0, none⟩ else ⟨b, k * 3, none⟩)) (l.drop k).length (cap - k), (by rw [hkl]; split <;> rfl), ?_, fun W => ?_⟩
    · by_cases hc : cap = k
      · rw [if_pos hc]
        refine ⟨tmsC_len _, .inr ⟨b, 0, cap - k, rfl, h3, by omega, by omega, fun j u hj => ?_⟩⟩
        have : l.drop k = [] := List.drop_eq_nil_of_le (by omega)
        rw [this] at hj; simp [tmsC] at hj
      · rw [if_neg hc]
        refine ⟨tmsC_len _, .inr ⟨b, k * 3, cap - k, rfl, h3, by omega, by omega, fun j u hj => ?_⟩⟩
        have e : tmsC l = tmsC (l.take k) ++ tmsC (l.drop k) := by rw [← tmsC_append, List.take_append_drop]
        have := h6 (k * 3 + j) u (by
          rw [e, List.getElem?_append_right (by rw [tmsC_len]; simp; omega), tmsC_len]
          rw [show k * 3 + j - (l.take k).length * 3 = j by simp; omega]; exact hj)
        rw [← this]; congr 2; omega
    · rw [run_slice_l W _ _ _ _ undR _ _ (by omega) (by omega), elemR, sizeR, hkl]
      simp only [Result.andThen_ok, sliced]
      by_cases hc : cap = k
      · simp [hc]
      · simp [hc, Addr.add]
        omega
theorem own_newR {w : World} {B : Nat} (hB : B ≤ w.heap.size) : (w.alloc (.cells #[] RtT)).ownsRow B RtT 3 (.slice (some ⟨w.heap.size, 0, none⟩) 0 0) ([] : List Tm).length (tmsC []) :=
  ⟨rfl, .inr ⟨w.heap.size, 0, #[], rfl, hB, heap_alloc_new _ _, Nat.le_refl _, by unfold maxLen; omega, rfl, rfl⟩⟩
set_option maxRecDepth 100000 in
set_option maxHeartbeats 3200000 in
theorem rtake1 {w : World} {B r : Nat} {sl : Value} {x : Wh} (h : IsR w B r sl x) (hB : B ≤ w.heap.size) {A C : List Tm} {t : Tm} (hsp : x.ts = A ++ t :: C) (u : ByteArray) (hu : t.v = .string u) (hl : x.ts.length ≤ 5000) :
    Calls Try.prog 75 #[.pointer (some ⟨r, 0, none⟩), .int .i64 (A.length : Int)] w fun e w' => e = .returned (.agg #[.int .i64 t.id, .int .i64 t.tk, .string u]) ∧ ∃ sl', IsR w' B r sl' { x with ts := A ++ C } ∧ Touch (OwnR r sl) w w' ∧ ∀ k, sl'.ownBlock = some k → sl.ownBlock = some k ∨ w.heap.size ≤ k := by
  have hlen : x.ts.length = A.length + C.length + 1 := by rw [hsp]; simp; omega
  obtain ⟨gg, gc, hg⟩ := own_slice h.row (by omega)
  subst hg
  obtain ⟨hla, hgB, hgm, _⟩ := laid_of_own h.row
  have b0 : Below w.heap.size w ((w.alloc (.cells #[.int .i64 0, .int .i64 0, .string ⟨#[]⟩] RtT)).alloc (.cells #[.int .i64 t.id, .int .i64 t.tk, .string u] RtT)) := ((Below.refl _ _).alloc (Nat.le_refl _) _).alloc (by simp) _
  have y0 : ((w.alloc (.cells #[.int .i64 0, .int .i64 0, .string ⟨#[]⟩] RtT)).alloc (.cells #[.int .i64 t.id, .int .i64 t.tk, .string u] RtT)).heap[w.heap.size]? = some (Obj.cells #[.int .i64 0, .int .i64 0, .string ⟨#[]⟩] RtT) := by
    rw [(((Below.refl _ _).alloc (Nat.le_refl _) _ : Below (w.alloc (.cells #[.int .i64 0, .int .i64 0, .string ⟨#[]⟩] RtT)).heap.size (w.alloc (.cells #[.int .i64 0, .int .i64 0, .string ⟨#[]⟩] RtT)) _)).block _ (by simp)]; exact heap_alloc_new _ _
  have y1 : ((w.alloc (.cells #[.int .i64 0, .int .i64 0, .string ⟨#[]⟩] RtT)).alloc (.cells #[.int .i64 t.id, .int .i64 t.tk, .string u] RtT)).heap[w.heap.size + 1]? = some (Obj.cells #[.int .i64 t.id, .int .i64 t.tk, .string u] RtT) := by
    have e : w.heap.size + 1 = (w.alloc (.cells #[.int .i64 0, .int .i64 0, .string ⟨#[]⟩] RtT)).heap.size := by simp
    rw [e]; exact heap_alloc_new _ _
  have hsz : ((w.alloc (.cells #[.int .i64 0, .int .i64 0, .string ⟨#[]⟩] RtT)).alloc (.cells #[.int .i64 t.id, .int .i64 t.tk, .string u] RtT)).heap.size = w.heap.size + 2 := by simp
  have b00 : Below w.heap.size w (w.alloc (.cells #[.int .i64 0, .int .i64 0, .string ⟨#[]⟩] RtT)) := (Below.refl _ _).alloc (Nat.le_refl _) _
  have x2 := bcellAt b00 (cellB (j := 2) h.lay rfl)
  obtain ⟨t0, t1, t2⟩ := (hla.hold (Hold.below b00)).at3 (k := A.length) (t := t) (by rw [hsp, List.getElem?_append_right (Nat.le_refl _)]; simp)
  rw [hu] at t2
  have h' := h.below b0
  have HX := Lib.hid h'
  have HBB := Lib.hid hB
  have HU := Lib.hid hu
  have HL := Lib.hid hl
  have HSP := Lib.hid hsp
  have HLEN := Lib.hid hlen
  have HGB := Lib.hid (show B ≤ gg ∧ gg < w.heap.size from ⟨hgB, hla.lt⟩)
  have HRL := Lib.hid h.lt
  have HVV := Lib.hid h.vals
  have T0 := Lib.hid (touch_of_below b0 (OwnR r (.slice (some ⟨gg, 0, none⟩) x.ts.length gc)))
  have Y0 := Lib.hid y0
  have Y1 := Lib.hid y1
  have HSZ := Lib.hid hsz
  have HNR := Lib.hid (fun (e : r = gg) => (show False by
    obtain ⟨cur, hc, _⟩ := hla
    rw [← e, h.lay] at hc
    have := (Obj.cells.inj (Option.some.inj hc)).2.1
    revert this; decide))
  have hk0 : (0 : Int) ≤ (A.length : Int) := by omega
  have hk1 : (A.length : Int) < (x.ts.length : Int) := by omega
  have hrw := row_of_own h'.row
  obtain ⟨hra, hsa⟩ := row_takeR hrw (k := A.length) (by omega)
  obtain ⟨vc, hvc, hrc, hsc⟩ := row_dropR hrw (k := A.length + 1) (by omega)
  have eA : x.ts.take A.length = A := by rw [hsp]; simp
  have eC : x.ts.drop (A.length + 1) = C := by rw [hsp, ← List.drop_drop]; simp
  rw [eA] at hra hsa
  rw [eC] at hrc
  have HRA := Lib.hid hra
  have HRC := Lib.hid hrc
  have HSA := Lib.hid hsa
  have HSC := Lib.hid hsc
  have HVC := Lib.hid hvc
  have hwk : IntKind.i64.wrap ((A.length : Int) + 1) = ((A.length + 1 : Nat) : Int) := by rw [show (A.length : Int) + 1 = ((A.length + 1 : Nat) : Int) by omega]; exact IntWalk.i64_in _ (by omega)
  have HWK := Lib.hid hwk
  clear h h' b0 b00 y0 y1 hsz hla hgB hgm hB hu hl hsp hrw hra hrc hsa hsc hvc eA eC hlen hwk
  go_enter Try.func75, Try.ntmps75
  go_wp2_with fail
  generalize ((w.alloc (.cells #[.int .i64 0, .int .i64 0, .string ⟨#[]⟩] RtT)).alloc (.cells #[.int .i64 t.id, .int .i64 t.tk, .string u] RtT)) = W0 at *
  clear x2 t0 t1 t2
  have hF : ∀ W : World, Below W0.heap.size W0 W → W.cell? ⟨r, 2, none⟩ = some (.slice (some ⟨gg, 0, none⟩) x.ts.length gc) := fun W hW => bcellAt hW (cellB (j := 2) HX.out.lay rfl)
  have HK := Lib.hid hF
  clear hF
  have hsl1 := HSA.out
  have hsl2 := HSC.out
  have hw3 := HWK.out
  refine lext_start [0, 2, 3, 4, 5, 6, 7, 9, 10, 11, 12, 13, 14, 15, 1, 8, 16, 17, 18, 19] 17 19 (F := fun b W => b = false → W.cell? ⟨r, 2, none⟩ = some (.slice (some ⟨gg, 0, none⟩) x.ts.length gc)) (by kernel_rfl) ?_
  simp only [inOrder, List.filterMap, List.getElem?_cons_succ, List.getElem?_cons_zero]
  have hS : (false = false → W0.drew.cell? ⟨r, 2, none⟩ = some (.slice (some ⟨gg, 0, none⟩) x.ts.length gc)) := fun _ => HK.out _ (bd W0)
  refine lext_take (i := 0) (v := ?_) rfl (by decide) (by decide) (by kernel_rfl) (by kernel_rfl) (by kernel_rfl) (by kernel_rfl) (by kernel_rfl) (by kernel_rfl) (by rfl) hS ?_ ?_
  rotate_left
  · ((intro W hW; have k0 := hW rfl; go_simp) <;> with_reducible rfl)
  (try simp only [Act.put, List.setIfInBounds_toArray, List.set_cons_zero, List.set_cons_succ])
  refine lext_take (i := 2) (v := ?_) rfl (by decide) (by decide) (by kernel_rfl) (by kernel_rfl) (by kernel_rfl) (by kernel_rfl) (by kernel_rfl) (by kernel_rfl) (by rfl) hS ?_ ?_
  rotate_left
  · ((intro W hW; have k0 := hW rfl; go_simp) <;> with_reducible rfl)
  (try simp only [Act.put, List.setIfInBounds_toArray, List.set_cons_zero, List.set_cons_succ])
  refine lext_take (i := 3) (v := ?_) rfl (by decide) (by decide) (by kernel_rfl) (by kernel_rfl) (by kernel_rfl) (by kernel_rfl) (by kernel_rfl) (by kernel_rfl) (by rfl) hS ?_ ?_
  rotate_left
  · ((intro W hW; have k0 := hW rfl; go_simp) <;> with_reducible rfl)
  (try simp only [Act.put, List.setIfInBounds_toArray, List.set_cons_zero, List.set_cons_succ])
  refine lext_take (i := 4) (v := ?_) rfl (by decide) (by decide) (by kernel_rfl) (by kernel_rfl) (by kernel_rfl) (by kernel_rfl) (by kernel_rfl) (by kernel_rfl) (by rfl) hS ?_ ?_
  rotate_left
  · ((intro W hW; have k0 := hW rfl; go_simp) <;> with_reducible rfl)
  (try simp only [Act.put, List.setIfInBounds_toArray, List.set_cons_zero, List.set_cons_succ])
  refine lext_take (i := 5) (v := ?_) rfl (by decide) (by decide) (by kernel_rfl) (by kernel_rfl) (by kernel_rfl) (by kernel_rfl) (by kernel_rfl) (by kernel_rfl) (by rfl) hS ?_ ?_
  rotate_left
  · ((intro W hW; have k0 := hW rfl; go_simp) <;> with_reducible rfl)
  (try simp only [Act.put, List.setIfInBounds_toArray, List.set_cons_zero, List.set_cons_succ])
  refine lext_take (i := 6) (v := ?_) rfl (by decide) (by decide) (by kernel_rfl) (by kernel_rfl) (by kernel_rfl) (by kernel_rfl) (by kernel_rfl) (by kernel_rfl) (by rfl) hS ?_ ?_
  rotate_left
  · ((intro W hW; have k0 := hW rfl; go_simp) <;> with_reducible rfl)
  (try simp only [Act.put, List.setIfInBounds_toArray, List.set_cons_zero, List.set_cons_succ])
  refine lext_take (i := 7) (v := ?_) rfl (by decide) (by decide) (by kernel_rfl) (by kernel_rfl) (by kernel_rfl) (by kernel_rfl) (by kernel_rfl) (by kernel_rfl) (by rfl) hS ?_ ?_
  rotate_left
  · ((intro W hW; have k0 := hW rfl; go_simp) <;> with_reducible rfl)
  (try simp only [Act.put, List.setIfInBounds_toArray, List.set_cons_zero, List.set_cons_succ])
  refine lext_take (i := 9) (v := ?_) rfl (by decide) (by decide) (by kernel_rfl) (by kernel_rfl) (by kernel_rfl) (by kernel_rfl) (by kernel_rfl) (by kernel_rfl) (by rfl) hS ?_ ?_
  rotate_left
  · ((intro W hW; have k0 := hW rfl; go_simp) <;> with_reducible rfl)
  (try simp only [Act.put, List.setIfInBounds_toArray, List.set_cons_zero, List.set_cons_succ])
  refine lext_take (i := 10) (v := ?_) rfl (by decide) (by decide) (by kernel_rfl) (by kernel_rfl) (by kernel_rfl) (by kernel_rfl) (by kernel_rfl) (by kernel_rfl) (by rfl) hS ?_ ?_
  rotate_left
  · ((intro W hW; have k0 := hW rfl; go_simp) <;> with_reducible rfl)
  (try simp only [Act.put, List.setIfInBounds_toArray, List.set_cons_zero, List.set_cons_succ])
  refine lext_take (i := 11) (v := ?_) rfl (by decide) (by decide) (by kernel_rfl) (by kernel_rfl) (by kernel_rfl) (by kernel_rfl) (by kernel_rfl) (by kernel_rfl) (by rfl) hS ?_ ?_
  rotate_left
  · ((intro W hW; have k0 := hW rfl; go_simp) <;> with_reducible rfl)
  (try simp only [Act.put, List.setIfInBounds_toArray, List.set_cons_zero, List.set_cons_succ])
  refine lext_take (i := 12) (v := ?_) rfl (by decide) (by decide) (by kernel_rfl) (by kernel_rfl) (by kernel_rfl) (by kernel_rfl) (by kernel_rfl) (by kernel_rfl) (by rfl) hS ?_ ?_
  rotate_left
  · ((intro W hW; have k0 := hW rfl; go_simp) <;> with_reducible rfl)
  (try simp only [Act.put, List.setIfInBounds_toArray, List.set_cons_zero, List.set_cons_succ])
  refine lext_take (i := 13) (v := ?_) rfl (by decide) (by decide) (by kernel_rfl) (by kernel_rfl) (by kernel_rfl) (by kernel_rfl) (by kernel_rfl) (by kernel_rfl) (by rfl) hS ?_ ?_
  rotate_left
  · ((intro W hW; have k0 := hW rfl; go_simp) <;> with_reducible rfl)
  (try simp only [Act.put, List.setIfInBounds_toArray, List.set_cons_zero, List.set_cons_succ])
  refine lext_take (i := 14) (v := ?_) rfl (by decide) (by decide) (by kernel_rfl) (by kernel_rfl) (by kernel_rfl) (by kernel_rfl) (by kernel_rfl) (by kernel_rfl) (by rfl) hS ?_ ?_
  rotate_left
  · ((intro W hW; have k0 := hW rfl; go_simp) <;> with_reducible rfl)
  (try simp only [Act.put, List.setIfInBounds_toArray, List.set_cons_zero, List.set_cons_succ])
  refine lext_take (i := 15) (v := vc) rfl (by decide) (by decide) (by kernel_rfl) (by kernel_rfl) (by kernel_rfl) (by kernel_rfl) (by kernel_rfl) (by kernel_rfl) (by rfl) hS ?_ ?_
  · (intro W hW; have k0 := hW rfl; have e1 : (0 : Int) ≤ (A.length : Int) + 1 ∧ (A.length : Int) + 1 ≤ (x.ts.length : Int) := (by have := HLEN.out; omega); have E1 := Lib.hid e1; clear e1; go_simp; rw [if_pos E1.out, ← HVC.out])
  (try simp only [Act.put, List.setIfInBounds_toArray, List.set_cons_zero, List.set_cons_succ])
  refine lext_do (i := 1) (b := false) rfl (by kernel_rfl) (by kernel_rfl) (by rfl) (fun K hK => ?_)
  clear hS hsl1 hsl2 hw3
  go_simp
  refine hK _ _ ⟨fun _ _ => HK.out _ (balR W0 _), ?_⟩
  clear hK K
  (try simp only [Act.put, List.setIfInBounds_toArray, List.set_cons_zero, List.set_cons_succ])
  have O1 : Hid ((W0.alloc (.cells #[] RtT)).drew.ownsRow W0.heap.size RtT 3 (.slice (some ⟨W0.heap.size, 0, none⟩) 0 0) ([] : List Tm).length (tmsC [])) := Lib.hid (own_newR (Nat.le_refl _))
  have B1 := Lib.hid (balR W0 (.cells #[] RtT))
  have S1 : Hid (W0.heap.size + 1 = (W0.alloc (.cells #[] RtT)).drew.heap.size) := Lib.hid (by show _ = (W0.alloc _).heap.size; simp)
  generalize (W0.alloc (.cells #[] RtT)).drew = W1 at *
  refine lext_do (i := 8) (b := false) rfl (by kernel_rfl) (by kernel_rfl) (by rfl) (fun K hK => ?_)
  refine wp_apps (.tmp 14) (.tmp 20) rfl W0.heap.size (.slice (some ⟨W0.heap.size, 0, none⟩) 0 0) [] rfl O1.out _ A rfl (HRA.out.below B1.out) (fun y hy => HVV.out y (by rw [HSP.out]; simp [hy])) (by have := HL.out; have := HLEN.out; simp; omega) (by have := S1.out; omega) ?_
  intro v8 w8 o8 g8
  rw [List.nil_append] at o8
  have B8 := Lib.hid (B1.out.grown g8 (by have := S1.out; omega) (fun k e => by cases e; exact Nat.le_refl _))
  have O8 := Lib.hid o8
  refine hK _ _ ⟨fun _ _ => HK.out _ B8.out, ?_⟩
  clear hK K o8 g8
  (try simp only [Act.put, List.setIfInBounds_toArray, List.set_cons_zero, List.set_cons_succ])
  refine lext_do (i := 16) (b := false) rfl (by kernel_rfl) (by kernel_rfl) (by rfl) (fun K hK => ?_)
  refine wp_apps (.tmp 21) (.tmp 28) rfl W0.heap.size v8 A rfl O8.out vc C rfl (HRC.out.below B8.out) (fun y hy => HVV.out y (by rw [HSP.out]; simp [hy])) (by have := HL.out; have := HLEN.out; omega) (by have := B8.out.size; omega) ?_
  intro v9 w9 o9 g9
  obtain ⟨sa9, sc9, hv9⟩ := (row_of_own o9).shape
  rw [List.length_append] at hv9
  subst hv9
  have B9 := Lib.hid (B8.out.grown g9 B8.out.size (fun k e => (own_from O8.out e).1))
  have hr9 : w9.heap[r]? = some (Obj.cells #[.int .i64 x.now, .int .i64 x.ids, .slice (some ⟨gg, 0, none⟩) x.ts.length gc] RwT) := (B9.out.block r (by have := HRL.out; rw [HSZ.out]; omega)).trans HX.out.lay
  have HR9 := Lib.hid hr9
  have OF9 := Lib.hid (fun k (hk : (Value.slice sa9 (A.length + C.length) sc9).ownBlock = some k) => (own_from o9 hk).1)
  have O9 := Lib.hid (own_mono o9 (show B ≤ W0.heap.size by have := HBB.out; rw [HSZ.out]; omega))
  refine hK _ _ ⟨fun _ _ => cellB (j := 2) hr9 rfl, ?_⟩
  clear hK K o9 g9 hr9
  (try simp only [Act.put, List.setIfInBounds_toArray, List.set_cons_zero, List.set_cons_succ])
  refine lext_do (i := 17) (b := true) rfl (by kernel_rfl) (by kernel_rfl) (by rfl) (fun K hK => ?_)
  go_simp
  refine hK _ _ ⟨fun _ => (fun e => by cases e), ?_⟩
  clear hK K
  (try simp only [Act.put, List.setIfInBounds_toArray, List.set_cons_zero, List.set_cons_succ])
  refine lext_do (i := 18) (b := true) rfl (by kernel_rfl) (by kernel_rfl) (by rfl) (fun K hK => ?_)
  go_simp
  refine hK _ _ ⟨fun _ => (fun e => by cases e), ?_⟩
  clear hK K
  (try simp only [Act.put, List.setIfInBounds_toArray, List.set_cons_zero, List.set_cons_succ])
  have k2 := cellB (j := 2) HR9.out rfl
  have kf := frozenB (j := 2) HR9.out
  refine lext_do (i := 19) (b := true) rfl (by kernel_rfl) (by kernel_rfl) (by rfl) (fun K hK => ?_)
  go_simp
  refine hK _ _ ⟨fun e => absurd rfl e, ?_⟩
  clear hK K k2 kf
  refine lext_done (by kernel_rfl) ?_
  have HR10 : Hid ((w9.setCell ⟨r, 2, none⟩ (.slice sa9 (A.length + C.length) sc9)).heap[r]? = some (Obj.cells #[.int .i64 x.now, .int .i64 x.ids, .slice sa9 (A.length + C.length) sc9] RwT)) := Lib.hid (by
    have := setCellB (j := 2) (u := .slice sa9 (A.length + C.length) sc9) HR9.out
    simpa using this)
  have O10 := Lib.hid (own_hold O9.out (Hold.setCell (o := 2) (v := .slice sa9 (A.length + C.length) sc9) HR9.out (by decide)))
  have T10 := Lib.hid ((T0.out.trans (touch_of_below B9.out (OwnR r (.slice (some ⟨gg, 0, none⟩) x.ts.length gc)))).trans (touch_set w9 r 2 (.slice sa9 (A.length + C.length) sc9) (OwnR r (.slice (some ⟨gg, 0, none⟩) x.ts.length gc)) (.inl rfl)))
  have hy1 : (w9.setCell ⟨r, 2, none⟩ (.slice sa9 (A.length + C.length) sc9)).heap[w.heap.size + 1]? = some (Obj.cells #[.int .i64 t.id, .int .i64 t.tk, .string u] RtT) := by
    rw [Below.heap_setCell _ _ _ _ (show w.heap.size + 1 ≠ r by have := HRL.out; omega)]
    exact (B9.out.block _ (by rw [HSZ.out]; omega)).trans Y1.out
  have hy0 : (w9.setCell ⟨r, 2, none⟩ (.slice sa9 (A.length + C.length) sc9)).heap[w.heap.size]? = some (Obj.cells #[.int .i64 0, .int .i64 0, .string ⟨#[]⟩] RtT) := by
    rw [Below.heap_setCell _ _ _ _ (show w.heap.size ≠ r by have := HRL.out; omega)]
    exact (B9.out.block _ (by rw [HSZ.out]; omega)).trans Y0.out
  generalize (w9.setCell ⟨r, 2, none⟩ (.slice sa9 (A.length + C.length) sc9)) = W10 at *
  have p0 := cellB (j := 0) hy1 rfl
  have p1 := cellB (j := 1) hy1 rfl
  have p2 := cellB (j := 2) hy1 rfl
  have q0 := cellB (j := 0) hy0 rfl
  have q1 := cellB (j := 1) hy0 rfl
  have q2 := cellB (j := 2) hy0 rfl
  have qf0 := frozenB (j := 0) hy0
  have qf1 := frozenB (j := 1) hy0
  have qf2 := frozenB (j := 2) hy0
  have HY0 := Lib.hid hy0
  clear hy0 hy1
  go_wp2_with fail
  clear p0 p1 p2 q0 q1 q2 qf0 qf1 qf2
  have hy := HY0.out
  have hz0 := setCellB (j := 0) (u := .int .i64 t.id) hy
  have hz1 := setCellB (j := 1) (u := .int .i64 t.tk) hz0
  have hz2 := setCellB (j := 2) (u := .string u) hz1
  have q0 := cellB (j := 0) hz2 rfl
  have q1 := cellB (j := 1) hz2 rfl
  have q2 := cellB (j := 2) hz2 rfl
  have NR := HRL.out
  have hne : r ≠ w.heap.size := by omega
  have hr11 : (((W10.setCell ⟨w.heap.size, 0, none⟩ (.int .i64 t.id)).setCell ⟨w.heap.size, 1, none⟩ (.int .i64 t.tk)).setCell ⟨w.heap.size, 2, none⟩ (.string u)).heap[r]? = some (Obj.cells #[.int .i64 x.now, .int .i64 x.ids, .slice sa9 (A.length + C.length) sc9] RwT) := by
    rw [Below.heap_setCell _ _ _ _ hne, Below.heap_setCell _ _ _ _ hne, Below.heap_setCell _ _ _ _ hne]; exact HR10.out
  have t3 := ((touch_set W10 w.heap.size 0 (.int .i64 t.id) (fun k => k = w.heap.size) rfl).trans (touch_set _ w.heap.size 1 (.int .i64 t.tk) (fun k => k = w.heap.size) rfl)).trans (touch_set _ w.heap.size 2 (.string u) (fun k => k = w.heap.size) rfl)
  have hown := own_keep O10.out t3 (fun k hk e => by have := OF9.out k hk; have := HSZ.out; omega)
  have ht := ((T10.out.newset (Nat.le_refl _) 0 (.int .i64 t.id)).newset (Nat.le_refl _) 1 (.int .i64 t.tk)).newset (Nat.le_refl _) 2 (.string u)
  clear t3
  generalize (((W10.setCell ⟨w.heap.size, 0, none⟩ (.int .i64 t.id)).setCell ⟨w.heap.size, 1, none⟩ (.int .i64 t.tk)).setCell ⟨w.heap.size, 2, none⟩ (.string u)) = W11 at *
  refine bodyPost_ret (v := .agg #[.int .i64 t.id, .int .i64 t.tk, .string u]) (by simp [results, Try.results75, go_sem, q0, q1, q2]) rfl ⟨rfl, _, ⟨hr11, hown, fun y hy => ?_⟩, ht, fun k hk => .inr ?_⟩
  · refine HVV.out y ?_
    rw [HSP.out]
    rcases List.mem_append.1 hy with hy | hy
    · exact List.mem_append_left _ hy
    · exact List.mem_append_right _ (List.mem_cons_of_mem _ hy)
  · have := OF9.out k hk; have := HSZ.out; omega
end Go.Proofs.Ytbgnedeeeaapfaa
