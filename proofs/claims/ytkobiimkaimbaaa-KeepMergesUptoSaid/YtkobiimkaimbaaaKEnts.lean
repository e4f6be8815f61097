/-
  What the law's entries makes of a map in memory.
-/
import Derived.Test.YtkobiimkaimbaaaKBuilt
namespace Go.Proofs.Ytkobiimkaimbaaa
open Go.RowKit Go.Shelf
attribute [local go_sem] Oper.semAt_some
set_option linter.unusedVariables false

theorem eql_func_nil (W : World) (fn : Fn) (x y : Array Value) : (binOp .eql 45 (.func fn x y) .nilFunc).run Try.prog W = .ok (.bool false) W := by
  have h : ∀ d : Nat, (Op.equalIn (d + 1) 45 (.func fn x y) .nilFunc).run Try.prog W = .ok false W := fun d => by
    simp [Op.equalIn, run_underlying Try.underlying45]
  simp only [binOp]
  simp [Op.equal, Op.maxDepth, h 9999]

set_option maxRecDepth 100000 in
set_option maxHeartbeats 3200000 in
theorem entries_in {w : World} {p : Option Addr} {t : Tr ByteArray Int} (h : IsTS w (.pointer p) t) (hs : t.size < 100000) :
    CallsIn Fence.wide 3 Try.prog 23 #[.agg #[.pointer p]] w fun e w' => ∃ v, e = .returned v ∧ w'.ownsRow w.heap.size 48 2 v t.toL.length (ents t.toL) ∧ Below w.heap.size w w' := by
  obtain ⟨i0, hi, hz0, hz1, hz2⟩ := info_parts rowE
  have HT := Lib.hid h
  have HL := Lib.hid (Tr.size_toL t)
  have hb3 : Below w.heap.size w (((w.alloc (.cells #[.pointer p] MapS)).alloc (.cells #[.slice none 0 0] 33)).alloc (.cells #[.pointer p] MapS)) := (((Below.refl _ _).alloc (Nat.le_refl _) _).alloc (by simp) _).alloc (by simp; omega) _
  have hL0 : (((w.alloc (.cells #[.pointer p] MapS)).alloc (.cells #[.slice none 0 0] 33)).alloc (.cells #[.pointer p] MapS)).heap[w.heap.size + 1]? = some (Obj.cells #[.slice none 0 0] 33) := by
    have e : w.heap.size + 1 = (w.alloc (.cells #[.pointer p] MapS)).heap.size := by simp
    rw [(((Below.refl _ _).alloc (Nat.le_refl _) (.cells #[.pointer p] MapS) : Below ((w.alloc (.cells #[.pointer p] MapS)).alloc (.cells #[.slice none 0 0] 33)).heap.size ((w.alloc (.cells #[.pointer p] MapS)).alloc (.cells #[.slice none 0 0] 33)) _)).block _ (by simp), e]; exact heap_alloc_new _ _
  have hbt : (((w.alloc (.cells #[.pointer p] MapS)).alloc (.cells #[.slice none 0 0] 33)).alloc (.cells #[.pointer p] MapS)).heap[w.heap.size + 2]? = some (Obj.cells #[.pointer p] MapS) := by
    have e : w.heap.size + 2 = ((w.alloc (.cells #[.pointer p] MapS)).alloc (.cells #[.slice none 0 0] 33)).heap.size := by simp
    rw [e]; exact heap_alloc_new _ _
  have HL0 := Lib.hid hL0
  have HBT := Lib.hid hbt
  have HB3 := Lib.hid hb3
  have hs3 : (((w.alloc (.cells #[.pointer p] MapS)).alloc (.cells #[.slice none 0 0] 33)).alloc (.cells #[.pointer p] MapS)).heap.size = w.heap.size + 3 := by simp
  have HS3 := Lib.hid hs3
  have hf := fun W fn x y => eql_func_nil W fn x y
  clear h hL0 hbt hb3 hs3
  refine callsIn_of_wp_marks Try.func23 rfl trivial ?_ rfl
  simp only [Try.ntmps23, List.size_toArray, List.length_cons, List.length_nil, Nat.reduceAdd, Nat.reduceSub, Array.replicate_succ, Array.replicate_zero, List.push_toArray, List.append_toArray, List.nil_append, List.cons_append]
  gi_wp2_with fail
  refine ⟨trivial, (callsIn_wide.2 (mallS p _)).mono ?_⟩
  rintro e w3 ⟨rfl, rfl⟩
  gi_wp2_with fail
  clear hf
  generalize (((w.alloc (.cells #[.pointer p] MapS)).alloc (.cells #[.slice none 0 0] 33)).alloc (.cells #[.pointer p] MapS)) = W3 at *
  have hLq : Hid (w.heap.size + 1 < W3.heap.size) := Lib.hid (by rw [HS3.out]; omega)
  have hw3 : w.heap.size ≤ W3.heap.size := HB3.out.size
  rw [show w.heap.size + 2 = w.heap.size + 1 + 1 from rfl] at HBT
  generalize hLe : w.heap.size + 1 = L at *
  have hwL : w.heap.size ≤ L := by omega
  have HO3 : Hid (W3.ownsRow w.heap.size 48 2 (.slice none 0 0) 0 []) := Lib.hid (World.ownsRow_nil _ _ _ 2)
  refine wpIn_rangeFunc_ownF rfl (by decide) (gf := 88) (lb := #[.pointer (some ⟨L + 1, 0, none⟩)]) rfl trivial (enters_of Try.func88 (by kernel_rfl) rfl)
    (stopsS 2 (L + 1) p t w W3 HB3.out (cellB HBT.out rfl) HT.out) belowK_t (belowK_b hw3) (Below.refl _ _) (fun _ => rfl)
    (fun pre W => Lst w L 33 48 2 pre.length (ents pre) W) (fun _ _ _ => False) (Lst.own (fun pre => ents pre) hw3) (fun _ _ _ _ _ hs _ _ => hs) ⟨_, HL0.out, HO3.out, HB3.out⟩
    ?a1 ?assign ?body ?done ?stop
  case assign =>
    intro l x W' K hK
    gi_wp2
    exact hK
  case stop => intro D c pre W' _ _ h; exact h.elim
  case body =>
    rintro l pre x W' ⟨v, hl, ho, hb⟩ hlt
    have hlen : pre.length < 100000 := by have := HL.out; omega
    have x1 : W'.cell? ⟨L, 0, none⟩ = some v := cellB hl rfl
    have f1 : W'.frozen? ⟨L, 0, none⟩ = false := frozenB hl
    have hLl : L < W'.heap.size := (Array.getElem?_eq_some_iff.1 hl).1
    have hneL : v.ownBlock ≠ some L := fun e => by
      obtain ⟨_, cur, hc⟩ := own_type ho e
      rw [hl] at hc
      simp at hc
    obtain ⟨av, cv, rfl⟩ := (row_of_own ho).shape
    have HLL := Lib.hid hl
    have HO := Lib.hid ho
    have HBB := Lib.hid hb
    have HNE := Lib.hid hneL
    have bA : Below W'.heap.size W' (W'.alloc (.cells #[.string x.1, .int .i64 x.2] 48)) := (Below.refl _ _).alloc (Nat.le_refl _) _
    have HOA := Lib.hid (own_hold ho (Hold.below bA))
    have HBA := Lib.hid bA
    have hsb := hb.size
    clear hl ho hb hneL bA
    gi_wp2_with (first
      | (gi_at_builtin; refine wpListIn_append_own _ rfl _ _ 33 rfl w.heap.size 48 i0 (.agg #[.string ⟨#[]⟩, .int .i64 0]) 2 24 Try.underlying33 hi hz0 hz1 hz2 rfl (by decide) _ _ _ rfl HOA.out ⟨W'.heap.size, 0, none⟩ 1 1 [.string x.1, .int .i64 x.2] rfl rfl (news2 _ _ _ _) (by simp [Value.oneCell']) (by unfold maxLen; omega) (by omega) (by simp; omega) ?_
         intro v' w5 hown' hg' _
         obtain ⟨sa, sc, rfl⟩ := (row_of_own hown').shape
         have hl5 : w5.heap[L]? = some (Obj.cells #[.slice av pre.length cv] 33) := by
           rw [hg'.block L (by simp; omega) (fun e => HNE.out e.symm), HBA.out.block L hLl]; exact HLL.out
         have x5 : w5.cell? ⟨L, 0, none⟩ = some (.slice av pre.length cv) := cellB hl5 rfl
         have f5 : w5.frozen? ⟨L, 0, none⟩ = false := frozenB hl5
         have HL5 := Lib.hid hl5
         have HO5 := Lib.hid hown'
         have HG5 := Lib.hid hg'
         clear hl5 hown' hg'))
    have hb5 : Below w.heap.size (W'.alloc (.cells #[.string x.1, .int .i64 x.2] 48)) w5 := grown_below HG5.out (by simp; omega) (fun k e => (own_type HO.out e).1)
    have hb6 : Below w.heap.size W' w5 := (HBA.out.mono hsb).trans hb5
    have hb7 : Below w.heap.size W' (w5.setCell ⟨L, 0, none⟩ (.slice sa (pre.length + 1) sc)) := hb6.setCell (p := ⟨L, 0, none⟩) (by show w.heap.size ≤ L; omega) _
    refine ⟨((KeepsOthers.alloc _ _).trans (KeepsOthers.of_grownBy HG5.out (fun j o e ho => ?_))).trans (KeepsOthers.setCell _ _ _), hb7, ⟨_, setCellB HL5.out, ?_, HBB.out.trans hb7⟩⟩
    · obtain ⟨_, cur, hc⟩ := own_type HOA.out e
      rw [ho] at hc
      cases hc
      rfl
    · have := own_hold HO5.out (Hold.setCell (o := 0) (v := .slice sa (pre.length + 1) sc) HL5.out (by decide))
      simpa [ents_append, ents] using this
  case done =>
    rintro D ys W' hD rfl ⟨v, hl, ho, hb⟩ hK
    have x1 : W'.cell? ⟨L, 0, none⟩ = some v := cellB hl rfl
    have HO := Lib.hid ho
    have HBB := Lib.hid hb
    have HK := Lib.hid hK
    have HLL := Lib.hid hl
    clear ho hb hl hK
    gi_wp2
    refine ⟨by simp, .inl ⟨_, _, rfl, run_takeDeferred HK.out, ?_⟩⟩
    exact ⟨_, results_tmp rfl _ _ _, v, rfl, own_kept HO.out (grownBy_putObj' W' D _) (fun r e => by cases e; exact ⟨_, HK.out, rfl⟩), HBB.out.grown (grownBy_putObj' W' D _) HBB.out.size (fun k e => by cases e; omega)⟩

end Go.Proofs.Ytkobiimkaimbaaa
