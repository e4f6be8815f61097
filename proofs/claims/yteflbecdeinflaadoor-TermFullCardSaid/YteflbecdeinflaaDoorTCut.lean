/-
  The program's cut: that it returns, and how many terms there are behind it.
-/
import Derived.Test.YteflbecdeinflaaDoorTOf
import Derived.Laws.IdiomCopy
import Derived.Maps.OwnSet
namespace Go.Proofs.YteflbecdeinflaaDoor
open Go.RowKit Go.Maps
set_option linter.unusedVariables false

abbrev SlM : TypeId := 79
theorem setCells_at (b : Nat) : ∀ (vs : List Value) (o : Nat) (w : World), (∀ B, B ≤ b → Below B w (w.setCells b o vs)) ∧ ∀ k, k ≠ b → (w.setCells b o vs).heap[k]? = w.heap[k]?
  | [], o, w => ⟨fun B _ => Below.refl B w, fun _ _ => rfl⟩
  | v :: r, o, w => by
    obtain ⟨h1, h2⟩ := setCells_at b r (o + 1) (w.setCell ⟨b, o, none⟩ v)
    refine ⟨fun B hB => ((Below.refl B w).setCell (p := ⟨b, o, none⟩) hB v).trans (h1 B hB), fun k hk => ?_⟩
    show ((w.setCell ⟨b, o, none⟩ v).setCells b (o + 1) r).heap[k]? = _
    rw [h2 k hk, Below.heap_setCell _ _ _ _ hk]
abbrev zM : Value := .agg #[.int .i64 0, .int .i64 0, .int .i64 0, .int .u64 0, .string ⟨#[]⟩, .int .i64 0, .int .i64 0, .int .i64 0, .int .i64 0]
theorem zeroMade (w : World) : (zeroValue MadeT).run Tryd.prog w = .ok zM w := by kernel_rfl
theorem sizeMade (w : World) : (Go.sizeOf MadeT).run Tryd.prog w = .ok 9 w := by kernel_rfl
theorem elemMade : Tryd.prog.elem SlM = MadeT := by simp [Program.elem, Tryd.underlying79]
theorem undMade : Tryd.prog.underlying SlM = some (.slice (Tryd.prog.elem SlM)) := by rw [elemMade]; exact Tryd.underlying79
theorem zM_cells (n : Nat) : ∀ v ∈ (Builtin.zeroCells zM.cells n).toList, v.oneCell' = true := by
  intro v hv
  simp only [Builtin.zeroCells, Array.toList_map, List.mem_map] at hv
  obtain ⟨i, _, rfl⟩ := hv
  have h9 : zM.cells.size = 9 := rfl
  rw [h9]
  have : i % 9 < 9 := Nat.mod_lt _ (by omega)
  generalize i % 9 = m at *
  match m, this with
  | 0, _ => rfl
  | 1, _ => rfl
  | 2, _ => rfl
  | 3, _ => rfl
  | 4, _ => rfl
  | 5, _ => rfl
  | 6, _ => rfl
  | 7, _ => rfl
  | 8, _ => rfl
theorem zM_len (n : Nat) : (Builtin.zeroCells zM.cells n).toList.length = n * 9 := by
  simp [Builtin.zeroCells, Value.cells]
/-- 'clear' of a slice of things of nine cells. -/
theorem clear_made (w : World) (b o n c : Nat) (hc : ∀ j, j < n * 9 → (w.cell? ⟨b, o + j, none⟩).isSome = true) (hf : ∀ j, j < n * 9 → w.frozen? ⟨b, o + j, none⟩ = false) :
    ∃ w', (∀ ty, (Builtin.clear_ #[SlM] ty #[.slice (some ⟨b, o, none⟩) n c]).run Tryd.prog w = .ok (.tuple #[]) w') ∧ (∀ B, B ≤ b → Below B w w') ∧ ∀ k, k ≠ b → w'.heap[k]? = w.heap[k]? := by
  by_cases h0 : n = 0
  · subst h0
    refine ⟨w, fun ty => ?_, fun B _ => Below.refl B w, fun _ _ => rfl⟩
    simp [Builtin.clear_, run_underlying Tryd.underlying79]
  · have hst := run_storeCells_cells (P := Tryd.prog) b o (Builtin.zeroCells zM.cells n).toList 0 w (by rw [zM_len]; simpa using hc) (by rw [zM_len]; simpa using hf) (zM_cells n)
    simp only [Nat.add_zero] at hst
    obtain ⟨h1, h2⟩ := setCells_at b (Builtin.zeroCells zM.cells n).toList o w
    refine ⟨_, fun ty => ?_, h1, h2⟩
    obtain ⟨m, rfl⟩ : ∃ m, n = m + 1 := ⟨n - 1, by omega⟩
    simp [Builtin.clear_, run_underlying Tryd.underlying79, hst]
theorem turned_at {w w' : World} {b : Nat} (h : w.mapTurned w' b) : (∀ B, B ≤ b → Below B w w') ∧ (∀ k, k ≠ b → w'.heap[k]? = w.heap[k]?) := by
  obtain ⟨es, clock, es', clock', h1, rfl⟩ := h
  have e : ∀ k, k ≠ b → (ChangeMaps.setBlock w b (.map es' clock')).heap[k]? = w.heap[k]? := fun k hk => by
    unfold ChangeMaps.setBlock
    simp only
    rw [Array.getElem?_setIfInBounds_ne (Ne.symm hk)]
  exact ⟨fun B hB => ⟨rfl, rfl, rfl, by simp [ChangeMaps.setBlock], fun k hk => e k (by omega)⟩, e⟩

def tailO (cv n : Nat) : Nat := if cv = n then 0 else n * 9
section
variable {w : World} {B a b : Nat} {v : Value} {p : Pl}
/-- The list of a pool that is not empty, as cells. -/
theorem IsPool.cells (h : IsPool w B a b v p) (h0 : 0 < p.length) : ∃ g cv, v = .slice (some ⟨g, 0, none⟩) p.length cv ∧ B ≤ g ∧ p.length ≤ cv ∧ (∃ cur, w.heap[g]? = some (Obj.cells cur MadeT)) ∧
    ∀ j, j < p.length * 9 → w.cell? ⟨g, j, none⟩ = (mades p)[j]? := by
  have h' := h.row
  obtain ⟨h1, h2⟩ := h.row
  rcases h2 with ⟨rfl, h2⟩ | ⟨g, cap, cur, rfl, hb, hg, hle, hm, hc, ht⟩
  · omega
  · exact ⟨g, cap, rfl, hb, hle, ⟨cur, hg⟩, fun j hj => World.ownsRow.cellAt h' j hj⟩
/-- What stands behind a place. -/
theorem made_drop {g cv : Nat} {n : Nat} (hn : n ≤ p.length) (W : World) : (Instr.slice SlM (.slice (some ⟨g, 0, none⟩) p.length cv) (some (.int .i64 (n : Int))) none none).run Tryd.prog W = .ok (.slice (some ⟨g, tailO cv n, none⟩) (p.length - n) (cv - n)) W := by
  rw [run_slice_l W _ _ _ _ undMade _ _ (by omega) (by omega), elemMade, sizeMade]
  simp only [Result.andThen_ok, sliced, tailO]
  by_cases hc : cv = n
  · simp [hc]
  · simp [hc, Addr.add]
    omega
theorem made_take {g cv : Nat} {n : Nat} (hn : n ≤ cv) (W : World) : (Instr.slice SlM (.slice (some ⟨g, 0, none⟩) p.length cv) none (some (.int .i64 (n : Int))) none).run Tryd.prog W = .ok (.slice (some ⟨g, 0, none⟩) n cv) W := by
  rw [run_slice_h W _ _ _ _ undMade _ _ (by omega) (by omega), elemMade, sizeMade]
  simp only [Result.andThen_ok, sliced]
  by_cases hc : cv = 0
  · simp [hc]
  · simp [hc, Addr.add]

set_option maxRecDepth 100000 in
set_option maxHeartbeats 12800000 in
theorem pcut (h : IsPool w B a b v p) {n : Nat} (h0 : 0 < p.length) (hn : n ≤ p.length) : Calls Tryd.prog 57 #[.pointer (some ⟨a, 0, none⟩), .int .i64 (n : Int)] w fun e w' =>
    e = .returned (.tuple #[]) ∧ Below B w w' ∧ ∃ g cv, w'.cell? ⟨a, 1, none⟩ = some (.slice (some ⟨g, 0, none⟩) n cv) := by
  obtain ⟨g, cv, rfl, hBg, hle, ⟨cur, hcur⟩, hcell⟩ := h.cells h0
  have hap := h.apart
  have hga : g ≠ a ∧ g ≠ b ∧ g < w.heap.size ∧ B ≤ g := hap.2 g rfl
  have hlay := h.lay
  have hlen : p.length ≤ 65536 := h.ok.len
  obtain ⟨q, hql, hqn, hw⟩ : ∃ q : Pl, q.length = p.length - n ∧ (∀ m ∈ q, NdOk m.1) ∧ ∀ W : World, W.heap[g]? = w.heap[g]? → ∀ i (hi : i < q.length), W.cell? ⟨g, tailO cv n + i * 9, none⟩ = some (.int .i64 (q[i]).1.kind) ∧ W.cell? ⟨g, tailO cv n + i * 9 + 1, none⟩ = some (.int .i64 (q[i]).1.frm) ∧ W.cell? ⟨g, tailO cv n + i * 9 + 2, none⟩ = some (.int .i64 (q[i]).1.to) ∧ W.cell? ⟨g, tailO cv n + i * 9 + 3, none⟩ = some (.int .u64 (q[i]).1.num) ∧ W.cell? ⟨g, tailO cv n + i * 9 + 4, none⟩ = some (.string (q[i]).1.text) ∧ W.cell? ⟨g, tailO cv n + i * 9 + 5, none⟩ = some (.int .i64 (q[i]).1.a) ∧ W.cell? ⟨g, tailO cv n + i * 9 + 6, none⟩ = some (.int .i64 (q[i]).1.b) ∧ W.cell? ⟨g, tailO cv n + i * 9 + 7, none⟩ = some (.int .i64 (q[i]).2.1) ∧ W.cell? ⟨g, tailO cv n + i * 9 + 8, none⟩ = some (.int .i64 (q[i]).2.2) := by
    have hnn : p.length - n ≤ p.length := Nat.sub_le _ _
    refine ⟨p.drop n, by simp, fun m hm => h.nok m (List.mem_of_mem_drop hm), fun W hW i hi => ?_⟩
    have hi' : i < p.length - n := by simpa using hi
    have ht : tailO cv n = n * 9 := by unfold tailO; rw [if_neg (by omega)]
    have e : ∀ j, j < 9 → W.cell? ⟨g, tailO cv n + i * 9 + j, none⟩ = (mades p)[(n + i) * 9 + j]? := fun j hj => by
      rw [cell_of_heap hW, ht, ← hcell _ (by omega)]
      congr 2; omega
    obtain ⟨m0, m1, m2, m3, m4, m5, m6, m7, m8⟩ := mades_at p (n + i) (by omega)
    have hq : (p.drop n)[i] = p[n + i] := by rw [List.getElem_drop]
    rw [hq]
    exact ⟨(e 0 (by omega)).trans m0, (e 1 (by omega)).trans m1, (e 2 (by omega)).trans m2, (e 3 (by omega)).trans m3, (e 4 (by omega)).trans m4, (e 5 (by omega)).trans m5, (e 6 (by omega)).trans m6, (e 7 (by omega)).trans m7, (e 8 (by omega)).trans m8⟩
  have HW := Lib.hid hw
  have HNOK := Lib.hid hqn
  have HCL : Hid (∀ W : World, W.heap[g]? = w.heap[g]? → ∃ w', (∀ ty, (Builtin.clear_ #[SlM] ty #[.slice (some ⟨g, tailO cv n, none⟩) (p.length - n) (cv - n)]).run Tryd.prog W = .ok (.tuple #[]) w') ∧ (∀ B, B ≤ g → Below B W w') ∧ ∀ k, k ≠ g → w'.heap[k]? = W.heap[k]?) := Lib.hid (fun W hW => by
    refine clear_made W g (tailO cv n) (p.length - n) (cv - n) (fun j hj => ?_) (fun j hj => ?_)
    · have ht : tailO cv n = n * 9 := by unfold tailO; rw [if_neg (by omega)]
      rw [cell_of_heap hW, ht, hcell _ (by omega), List.getElem?_eq_getElem (by rw [mades_length]; omega)]
      rfl
    · exact frozenB (hW.trans hcur))
  have HAB := Lib.hid hap.1
  have HGA := Lib.hid h.ga
  have HGB := Lib.hid h.gb
  have HMAP : Hid (∃ D : DataW Unit, w.ownsMap Tryd.prog NodeT (plainElem Tryd.prog TermT) b p.length D) := Lib.hid (by obtain ⟨D, h1, _⟩ := h.dict; exact ⟨D, h1⟩)
  have hs1 := fun W => made_drop (p := p) (g := g) (cv := cv) hn W
  have HS2 := Lib.hid (fun W => made_take (p := p) (g := g) (cv := cv) (Nat.le_trans hn hle) W)
  have d1 : w.cell? ⟨a, 1, none⟩ = some (.slice (some ⟨g, 0, none⟩) p.length cv) := cellB hlay rfl
  clear h hw hap hcell hqn
  generalize tailO cv n = to at *
  rw [← hql] at hs1 HCL
  generalize cv - n = tc at *
  have htn : q.length ≤ 65536 := by omega
  have HQL := Lib.hid hql
  clear hql
  go_enter Tryd.func57, Tryd.ntmps57
  go_wp2_with fail
  go_loopw [13] (fun vi wr => ∃ (i : Nat) (D : DataW Unit), vi = .int .i64 (i : Int) ∧ i ≤ q.length ∧ Below B w wr ∧ wr.heap[g]? = w.heap[g]? ∧ wr.heap[a]? = w.heap[a]? ∧ wr.ownsMap Tryd.prog NodeT (plainElem Tryd.prog TermT) b p.length D) (fun v _ => q.length - (intOf v).toNat)
  case atStart =>
    obtain ⟨D, hD⟩ := HMAP.out
    exact ⟨0, D, rfl, Nat.zero_le _, Below.refl _ _, rfl, rfl, hD⟩
  case round =>
    obtain ⟨i, D, rfl, hi, hb, hg, ha, hm⟩ := hrel
    clear HMAP
    by_cases hlt : i < q.length
    · obtain ⟨c0, c1, c2, c3, c4, c5, c6, c7, c8⟩ := HW.out wr hg i hlt
      have HN := Lib.hid (HNOK.out _ (List.getElem_mem hlt))
      generalize hy : q[i] = m at *
      obtain ⟨⟨kk, ff, tt, uu, ss, xa, xb⟩, sz, dp⟩ := m
      simp only at c0 c1 c2 c3 c4 c5 c6 c7 c8
      have bN := bZ wr (.cells #[.int .i64 kk, .int .i64 ff, .int .i64 tt, .int .u64 uu, .string ss, .int .i64 xa, .int .i64 xb, .int .i64 sz, .int .i64 dp] MadeT)
      have hN : (wr.alloc (.cells #[.int .i64 kk, .int .i64 ff, .int .i64 tt, .int .u64 uu, .string ss, .int .i64 xa, .int .i64 xb, .int .i64 sz, .int .i64 dp] MadeT)).heap[wr.heap.size]? = some (Obj.cells #[.int .i64 kk, .int .i64 ff, .int .i64 tt, .int .u64 uu, .string ss, .int .i64 xa, .int .i64 xb, .int .i64 sz, .int .i64 dp] MadeT) := heap_alloc_new _ _
      have hi0 : (0 : Int) ≤ (i : Int) := by omega
      have hi1 : (i : Int) < (q.length : Int) := by omega
      go_wp2_with fail
      generalize (wr.alloc (.cells #[.int .i64 kk, .int .i64 ff, .int .i64 tt, .int .u64 uu, .string ss, .int .i64 xa, .int .i64 xb, .int .i64 sz, .int .i64 dp] MadeT)) = V at *
      have bD := bmore bN (bd V)
      have hm1 := ownsMap_below hm bD
      have ha1 : V.heap[a]? = some (Obj.cells #[.map (some b), .slice (some ⟨g, 0, none⟩) p.length cv] PoolT) := by rw [bN.block a (Array.getElem?_eq_some_iff.1 (ha.trans hlay)).1, ha]; exact hlay
      have e0 : V.cell? ⟨a, 0, none⟩ = some (.map (some b)) := cellB ha1 rfl
      have z0 : V.cell? ⟨wr.heap.size, 0, none⟩ = some (.int .i64 kk) := cellB hN rfl
      have z1 : V.cell? ⟨wr.heap.size, 1, none⟩ = some (.int .i64 ff) := cellB hN rfl
      have z2 : V.cell? ⟨wr.heap.size, 2, none⟩ = some (.int .i64 tt) := cellB hN rfl
      have z3 : V.cell? ⟨wr.heap.size, 3, none⟩ = some (.int .u64 uu) := cellB hN rfl
      have z4 : V.cell? ⟨wr.heap.size, 4, none⟩ = some (.string ss) := cellB hN rfl
      have z5 : V.cell? ⟨wr.heap.size, 5, none⟩ = some (.int .i64 xa) := cellB hN rfl
      have z6 : V.cell? ⟨wr.heap.size, 6, none⟩ = some (.int .i64 xb) := cellB hN rfl
      have HM1 := Lib.hid hm1
      clear hm1 hm c0 c1 c2 c3 c4 c5 c6 c7 c8
      go_still_tail 6, (by kernel_rfl)
      change wpList _ _ _ _ _ V.drew
      go_wp2_with (at_delete; refine wpList_delete_own _ rfl _ _ MapNT NodeT rfl TermT lawN Tryd.underlying78 _ b p.length D rfl HM1.out _ _ rfl (keyN_of (n := ⟨kk, ff, tt, uu, ss, xa, xb⟩) HN.out) ?_; intro w2 hown2 hturn2)
      obtain ⟨t1, t2⟩ := turned_at hturn2
      have hgb : V.drew.heap[g]? = w.heap[g]? := by rw [bD.block g (Array.getElem?_eq_some_iff.1 (hg.trans hcur)).1]; exact hg
      have hab : V.drew.heap[a]? = w.heap[a]? := by rw [bD.block a (Array.getElem?_eq_some_iff.1 (ha.trans hlay)).1]; exact ha
      have HR1 := Lib.hid (show w2.heap[g]? = w.heap[g]? by rw [t2 g hga.2.1]; exact hgb)
      have HR2 := Lib.hid (show w2.heap[a]? = w.heap[a]? by rw [t2 a HAB.out]; exact hab)
      have HR3 := Lib.hid (show Below B w w2 from (hb.trans (bD.mono (Nat.le_trans (Nat.le_trans HGA.out (Nat.le_of_lt (Array.getElem?_eq_some_iff.1 hlay).1)) hb.size))).trans (t1 B HGB.out))
      have HR4 := Lib.hid hown2
      clear t1 t2 hturn2 hown2 hgb hab bD bN hN z0 z1 z2 z3 z4 z5 z6 e0 ha1 hy
      go_wp2_with fail
      go_roundw
      case rel => exact ⟨i + 1, _, by go_num, by omega, HR3.out, HR1.out, HR2.out, HR4.out⟩
      case measure => simp [intOf]; omega
    · obtain rfl : i = q.length := by omega
      have ha1 := ha.trans hlay
      have e1 : wr.cell? ⟨a, 1, none⟩ = some (.slice (some ⟨g, 0, none⟩) p.length cv) := cellB ha1 rfl
      have f1 := frozenB (j := 1) ha1
      obtain ⟨w2, r1, r2, r3⟩ := HCL.out wr hg
      have ha2 : w2.heap[a]? = some (Obj.cells #[.map (some b), .slice (some ⟨g, 0, none⟩) p.length cv] PoolT) := by rw [r3 a (Ne.symm hga.1)]; exact ha1
      have e2 : w2.cell? ⟨a, 1, none⟩ = some (.slice (some ⟨g, 0, none⟩) p.length cv) := cellB ha2 rfl
      have f2 := frozenB (j := 1) ha2
      have hs2 := HS2.out
      have HF := Lib.hid (show Below B w (w2.setCell ⟨a, 1, none⟩ (.slice (some ⟨g, 0, none⟩) n cv)) from (hb.trans (r2 B hBg)).setCell (p := ⟨a, 1, none⟩) HGA.out _)
      have HE := Lib.hid (setCellB (j := 1) (u := .slice (some ⟨g, 0, none⟩) n cv) ha2)
      clear r2 r3 hb hg ha hm ha1 ha2
      go_wp2_with fail
      go_returns
      exact ⟨rfl, HF.out, g, cv, cellB HE.out rfl⟩
end
end Go.Proofs.YteflbecdeinflaaDoor
