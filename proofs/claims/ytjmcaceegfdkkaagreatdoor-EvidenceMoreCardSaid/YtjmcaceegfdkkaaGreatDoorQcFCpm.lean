/-
  The program's Of; the document's own Looks.
  The program's cut: that it returns, and how many terms there are behind it.
  slices.Compact at facts, in memory.
-/
import Derived.Laws.IdiomCopy
import Derived.Maps.OwnSet
import Derived.Test.YtjmcaceegfdkkaaGreatDoorQcTMkT
import Derived.Test.YtjmcaceegfdkkaaGreatDoorQcTLook
import Derived.Test.YtjmcaceegfdkkaaGreatDoorQcFCpt
namespace Go.Proofs.YtjmcaceegfdkkaaGreatDoor
open Go.RowKit Go.Maps
set_option linter.unusedVariables false
theorem lkT_good {n : Nd} {k : Fo} (h : (lkT n k 0 0).2 = 0) : Good (.cons n k .nil) ∧ ((Fo.cons n k .nil).size : Int) ≤ 4096 ∧ ((Fo.cons n k .nil).depth : Int) ≤ 64 := by
 have hk : (lk (.cons n k .nil) 0 0).2 = 0 := by rw [lk_cons, if_neg (by rw [h]; simp)]; rfl
 obtain ⟨a1, a2, a3, a4⟩ := lk_ok _ 0 0 hk (by omega) (by omega) (by omega)
 exact ⟨a3, by omega, by omega⟩
def OfPost (w : World) (B a b : Nat) (vv : Value) (q : Int × Int × Pl) (e : Ending) (w' : World) : Prop :=
 e = .returned (.tuple #[.int .i64 q.1, .int .i64 q.2.1]) ∧ Grew w B a b vv q.2.2 w'
section
variable {B a b : Nat}
set_option maxRecDepth 100000 in
set_option maxHeartbeats 6400000 in
theorem pof (hB : 1 < B) {w : World} {v vv : Value} {p : Pl} {n : Nd} {k : Fo} (hl : Laid w) (hp : IsPool w B a b vv p) (hk : IsK w (Safe w B) v k) (hn : NdOk n) (ha : n.a = 0) (hb : n.b = 0) (hok : OkF k) (hroom : (lkT n k 0 0).2 = 0 → (grT n k p).2.1 = 0) :
  Calls Tryz.prog 64 #[.pointer (some ⟨a, 0, none⟩), .agg (treeA n v)] w (OfPost w B a b vv (ofP n k p)) := by
 have b1 : Below w.heap.size w (w.alloc (.cells (treeA n v) TrT)) := bZ _ _
 have h1 : (w.alloc (.cells (treeA n v) TrT)).heap[w.heap.size]? = some (Obj.cells (treeA n v) TrT) := heap_alloc_new _ _
 obtain ⟨av, cv, rfl, _⟩ := hk.shape
 have HL := Lib.hid (hl.below b1)
 have HP := Lib.hid (hp.below b1)
 have HG := Lib.hid (GrewV.start hp b1)
 have HBW := Lib.hid (Nat.le_trans hp.ga (Nat.le_of_lt hp.lt))
 have HK := Lib.hid (hk.safe b1)
 have HSV := Lib.hid (survey_any n k _ (.slice av k.len cv) 0 0 (hl.below b1) (hk.safe b1) hn ha hb hok (by omega) (by omega) (by omega) (by omega))
 have HGR := Lib.hid (fun (W : World) (h1 : (lkT n k 0 0).2 = 0) (h2 : Laid W) (h3 : IsPool W B a b vv p) (h4 : IsK W (Safe W B) (.slice av k.len cv) k) =>
  grow_any hB n k W (.slice av k.len cv) vv p h2 h3 h4 hn hok (by obtain ⟨⟨g1, _, g2, _⟩, _⟩ := lkT_good h1; rw [g1]; exact kidsN_le _) (Good.two (lkT_good h1).1.2.2.1))
 have PL := Lib.hid (fun (W : World) (hW : IsPool W B a b vv p) => plen hW)
 have hpl := hp.ok.len
 have HR := Lib.hid hroom
 have HB1 := Lib.hid h1
 have HOF1 : Hid ((lkT n k 0 0).2 ≠ 0 → ofP n k p = (0, (lkT n k 0 0).2, p)) := Lib.hid (fun h => by unfold ofP; rw [if_pos h])
 have HOF2 : Hid ((lkT n k 0 0).2 = 0 → ofP n k p = grT n k p) := Lib.hid (fun h => by unfold ofP; rw [if_neg (by rw [h]; simp), if_neg (by rw [hroom h]; simp)])
 clear hl hk hp b1 hn ha hb hok hroom
 generalize lkT n k 0 0 = ll at *
 obtain ⟨l1, l2⟩ := ll
 generalize grT n k p = qq at *
 generalize ofP n k p = oo at *
 obtain ⟨kk, ff, tt, uu, ss, xa, xb⟩ := n
 simp only [treeA] at *
 obtain ⟨y0, y1, y2, y3, y4, y5⟩ := cs6 h1 rfl rfl rfl rfl rfl rfl
 clear h1
 by_cases hz : l2 = 0
 ·subst hz
  have HO := Lib.hid (HOF2.out rfl)
  have HR2 := Lib.hid (HR.out rfl)
  have HGR2 := Lib.hid (HGR.out · rfl)
  clear HOF1 HOF2 HR HGR
  obtain ⟨q1, q2, q3⟩ := qq
  have hq2 : q2 = 0 := HR2.out
  subst hq2
  go_enter Tryz.func64, Tryz.ntmps64
  go_wp2_with fail
  generalize (w.alloc (.cells #[.int .i64 kk, .int .i64 ff, .int .i64 tt, .int .u64 uu, .string ss, .slice av k.len cv] TrT)) = W at *
  refine HSV.out.mono ?_
  rintro e w1 ⟨rfl, u1⟩
  have HU1 := Lib.hid u1
  clear u1 y0 y1 y2 y3 y4 y5
  rw [survA_ok rfl]
  go_wp2_with fail
  refine (PL.out _ (HP.out.below HU1.out)).mono ?_
  rintro e w2 ⟨rfl, rfl⟩
  have hb1 := Hold.below HU1.out _ _ HB1.out
  obtain ⟨z0, z1, z2, z3, z4, z5⟩ := cs6 hb1 rfl rfl rfl rfl rfl rfl
  clear hb1
  go_wp2_with fail
  refine (HGR2.out w1 (HL.out.below HU1.out) (HP.out.below HU1.out) (HK.out.safe HU1.out)).mono ?_
  rintro e w3 ⟨rfl, g3⟩
  obtain ⟨v5, p5, gv5⟩ := (HG.out.below (Nat.le_trans HBW.out HG.out.1.size) HU1.out).step g3
  have HG5 := Lib.hid gv5
  have HP5 := Lib.hid p5
  clear g3 gv5 p5 z0 z1 z2 z3 z4 z5
  go_wp2_with fail
  go_returns
  exact ⟨by rw [HO.out]; rfl, by rw [HO.out]; exact HG5.out.fin HP5.out⟩
 ·have hz' : (l2 != 0) = true := by rw [bne_iff_ne]; exact hz
  have HO := Lib.hid (HOF1.out hz)
  clear HOF1 HOF2 HR HGR
  go_enter Tryz.func64, Tryz.ntmps64
  go_wp2_with fail
  generalize (w.alloc (.cells #[.int .i64 kk, .int .i64 ff, .int .i64 tt, .int .u64 uu, .string ss, .slice av k.len cv] TrT)) = W at *
  refine HSV.out.mono ?_
  rintro e w1 ⟨rfl, u1⟩
  have HU1 := Lib.hid u1
  clear u1 y0 y1 y2 y3 y4 y5
  rw [survA_err hz]
  go_wp2_with fail
  go_returns
  exact ⟨by rw [HO.out]; rfl, by rw [HO.out]; exact (HG.out.below (Nat.le_trans HBW.out HG.out.1.size) HU1.out).fin (HP.out.below HU1.out)⟩
end
section
variable {G : Nat → Prop}
set_option maxRecDepth 100000 in
set_option maxHeartbeats 3200000 in
theorem looks_any {w : World} {v : Value} {n : Nd} {k : Fo} (hk : IsK w G v k) (hn : NdOk n) (ha : n.a = 0) (hb : n.b = 0) (hok : OkF k) : Calls Tryz.prog 118 #[.agg (treeA n v)] w fun e w' => e = .returned (.int .i64 (lkT n k 0 0).2) ∧ Below w.heap.size w w' := by
 have b1 : Below w.heap.size w (w.alloc (.cells (treeA n v) TrT)) := bZ _ _
 have h1 : (w.alloc (.cells (treeA n v) TrT)).heap[w.heap.size]? = some (Obj.cells (treeA n v) TrT) := heap_alloc_new _ _
 have b2 : Below (w.alloc (.cells (treeA n v) TrT)).heap.size (w.alloc (.cells (treeA n v) TrT)) ((w.alloc (.cells (treeA n v) TrT)).alloc (.cells #[.int .i64 0] IntT)) := bZ _ _
 have h2 := Hold.below b2 _ _ h1
 have h3 : At1 ((w.alloc (.cells (treeA n v) TrT)).alloc (.cells #[.int .i64 0] IntT)) (w.heap.size + 1) 0 := by
  have e : w.heap.size + 1 = (w.alloc (.cells (treeA n v) TrT)).heap.size := by simp
  rw [e]; exact heap_alloc_new _ _
 have b12 := b1.trans (b2.mono b1.size)
 obtain ⟨av, cv, rfl, _⟩ := hk.shape
 have hk' : IsK ((w.alloc (.cells (treeA n (.slice av k.len cv)) TrT)).alloc (.cells #[.int .i64 0] IntT)) (fun b => b < w.heap.size) (.slice av k.len cv) k := hk.keep fun b _ hl => ⟨hl, b12.block b hl⟩
 have HL := Lib.hid (looked_any (G := fun b => b < w.heap.size) n k _ (.slice av k.len cv) 0 0 (w.heap.size + 1) hk' (by omega) h3 hn ha hb hok (by omega) (by omega) (by omega) (by omega))
 have HA := Lib.hid b12
 clear hk hk' hn ha hb hok h3 b1 b2 b12 h1
 generalize lkT n k 0 0 = ll at *
 obtain ⟨kk, ff, tt, uu, ss, xa, xb⟩ := n
 simp only [treeA] at *
 obtain ⟨y0, y1, y2, y3, y4, y5⟩ := cs6 h2 rfl rfl rfl rfl rfl rfl
 clear h2
 go_enter Tryz.func118, Tryz.ntmps118
 go_wp2_with fail
 refine HL.out.mono ?_
 rintro e w1 ⟨rfl, _, g1⟩
 have HB := Lib.hid (show Below w.heap.size w w1 from HA.out.grown g1 HA.out.size (fun k e => by cases e; omega))
 clear g1
 go_wp2_with fail
 go_returns
 exact ⟨rfl, HB.out⟩
end
end Go.Proofs.YtjmcaceegfdkkaaGreatDoor
namespace Go.Proofs.YtjmcaceegfdkkaaGreatDoor
open Go.RowKit Go.Maps
set_option linter.unusedVariables false
theorem setCells_at (b : Nat) : ∀ (vs : List Value) (o : Nat) (w : World), (∀ B, B ≤ b → Below B w (w.setCells b o vs)) ∧ ∀ k, k ≠ b → (w.setCells b o vs).heap[k]? = w.heap[k]?
 | [], o, w => ⟨fun B _ => Below.refl B w, fun _ _ => rfl⟩
 | v :: r, o, w => by
  obtain ⟨h1, h2⟩ := setCells_at b r (o + 1) (w.setCell ⟨b, o, none⟩ v)
  refine ⟨fun B hB => ((Below.refl B w).setCell (p := ⟨b, o, none⟩) hB v).trans (h1 B hB), fun k hk => ?_⟩
  show ((w.setCell ⟨b, o, none⟩ v).setCells b (o + 1) r).heap[k]? = _
  rw [h2 k hk, Below.heap_setCell _ _ _ _ hk]
section
variable {w : World} {B a b : Nat} {v : Value} {p : Pl}
end
end Go.Proofs.YtjmcaceegfdkkaaGreatDoor
namespace Go.Proofs.YtjmcaceegfdkkaaGreatDoor
open Go.RowKit Go.Maps Go.Lib
set_option linter.unusedVariables false
abbrev zF : Value := .agg #[.int .i64 0, .int .i64 0, .int .u64 0, .string ⟨#[]⟩]
theorem sizeFac (w : World) : (Go.sizeOf FacT).run Tryz.prog w = .ok 4 w := by kernel_rfl
theorem elemFac : Tryz.prog.elem FacsT = FacT := by simp [Program.elem, Tryz.underlying33]
theorem undFac : Tryz.prog.underlying FacsT = some (.slice (Tryz.prog.elem FacsT)) := by rw [elemFac]; exact Tryz.underlying33
theorem zF_cells (n : Nat) : ∀ v ∈ (Builtin.zeroCells zF.cells n).toList, v.oneCell' = true := by
 intro v hv
 simp only [Builtin.zeroCells, Array.toList_map, List.mem_map] at hv
 obtain ⟨i, _, rfl⟩ := hv
 have h9 : zF.cells.size = 4 := rfl
 rw [h9]
 have : i % 4 < 4 := Nat.mod_lt _ (by omega)
 generalize i % 4 = m at *
 match m, this with
 | 0, _ => rfl
 | 1, _ => rfl
 | 2, _ => rfl
 | 3, _ => rfl
theorem zF_len (n : Nat) : (Builtin.zeroCells zF.cells n).toList.length = n * 4 := by
 simp [Builtin.zeroCells, Value.cells]
theorem setCells_blk (b : Nat) {T : TypeId} : ∀ (vs : List Value) (o : Nat) (w : World) (cur : Array Value), w.heap[b]? = some (Obj.cells cur T) → ∃ cur', (w.setCells b o vs).heap[b]? = some (Obj.cells cur' T) ∧ cur'.size = cur.size ∧ cur'.toList.take o = cur.toList.take o
 | [], o, w, cur, h => ⟨cur, h, rfl, rfl⟩
 | v :: r, o, w, cur, h => by
  obtain ⟨c', h1, h2, h3⟩ := setCells_blk b r (o + 1) (w.setCell ⟨b, o, none⟩ v) _ (setCellB h)
  refine ⟨c', h1, by rw [h2]; simp, ?_⟩
  have e := congrArg (List.take o) h3
  rw [List.take_take, List.take_take, show min o (o + 1) = o from by omega] at e
  rw [e, Array.toList_setIfInBounds, List.take_set_of_le (Nat.le_refl _)]
theorem clear_fc (w : World) (b k n c : Nat) {cur : Array Value} (hb : w.heap[b]? = some (Obj.cells cur FacT)) (hn : k * 4 + n * 4 ≤ cur.size) :
  ∃ w' cur', (∀ ty, (Builtin.clear_ #[FacsT] ty #[.slice (some ⟨b, k * 4, none⟩) n c]).run Tryz.prog w = .ok (.tuple #[]) w') ∧ (∀ B, B ≤ b → Below B w w') ∧ w'.heap[b]? = some (Obj.cells cur' FacT) ∧ cur'.size = cur.size ∧ cur'.toList.take (k * 4) = cur.toList.take (k * 4) := by
 by_cases h0 : n = 0
 ·subst h0
  refine ⟨w, cur, fun ty => ?_, fun B _ => Below.refl B w, hb, rfl, rfl⟩
  simp [Builtin.clear_, run_underlying Tryz.underlying33]
 ·have hc : ∀ j, j < n * 4 → (w.cell? ⟨b, k * 4 + j, none⟩).isSome = true := fun j hj => by
   have : cur[k * 4 + j]? = some cur[k * 4 + j] := Array.getElem?_eq_getElem (by omega)
   rw [cellB hb this]; rfl
  have hf : ∀ j, j < n * 4 → w.frozen? ⟨b, k * 4 + j, none⟩ = false := fun j _ => frozenB hb
  have hst := run_storeCells_cells (P := Tryz.prog) b (k * 4) (Builtin.zeroCells zF.cells n).toList 0 w (by rw [zF_len]; simpa using hc) (by rw [zF_len]; simpa using hf) (zF_cells n)
  simp only [Nat.add_zero] at hst
  obtain ⟨h1, _⟩ := setCells_at b (Builtin.zeroCells zF.cells n).toList (k * 4) w
  obtain ⟨cur', h3, h4, h5⟩ := setCells_blk b (Builtin.zeroCells zF.cells n).toList (k * 4) w cur hb
  refine ⟨_, cur', fun ty => ?_, h1, h3, h4, h5⟩
  obtain ⟨m, rfl⟩ : ∃ m, n = m + 1 := ⟨n - 1, by omega⟩
  simp [Builtin.clear_, run_underlying Tryz.underlying33, hst]
theorem fac_drop {g cv m : Nat} {n : Nat} (hn : n ≤ m) (hlt : n < cv) (W : World) : (Instr.slice FacsT (.slice (some ⟨g, 0, none⟩) m cv) (some (.int .i64 (n : Int))) none none).run Tryz.prog W = .ok (.slice (some ⟨g, n * 4, none⟩) (m - n) (cv - n)) W := by
 rw [run_slice_l W _ _ _ _ undFac _ _ (by omega) (by omega), elemFac, sizeFac]
 simp only [Result.andThen_ok, sliced]
 have hc : ¬ cv = n := by omega
 simp [hc, Addr.add]
 omega
theorem fac_take {g cv m : Nat} {n : Nat} (hn : n ≤ cv) (W : World) : (Instr.slice FacsT (.slice (some ⟨g, 0, none⟩) m cv) none (some (.int .i64 (n : Int))) none).run Tryz.prog W = .ok (.slice (some ⟨g, 0, none⟩) n cv) W := by
 rw [run_slice_h W _ _ _ _ undFac _ _ (by omega) (by omega), elemFac, sizeFac]
 simp only [Result.andThen_ok, sliced]
 by_cases hc : cv = 0
 ·simp [hc]
 ·simp [hc, Addr.add]
theorem heq_fc (x y : Fc) (W : World) : (binOp .eql FacT (.agg (fcA x)) (.agg (fcA y))).run Tryz.prog W = .ok (.bool (decide (x = y))) W := by
 have h := eq_fc.1 x y W
 have e : eqF x y = decide (x = y) := by rw [Bool.eq_iff_iff, eqF_iff, decide_eq_true_eq]
 rw [← e]; exact h
end Go.Proofs.YtjmcaceegfdkkaaGreatDoor
