/-
  What the functions of the codes do: each operation makes what it says.
  The operations of each code in memory: what fits, what is made.
  One operation: what do makes.
-/
import Derived.Test.YtjpkeoenajlmeaaDoorYCode
import Derived.Test.YtjpkeoenajlmeaaDoorYLive
namespace Go.Proofs.YtjpkeoenajlmeaaDoor
open Go.RowKit Go.Maps
set_option linter.unusedVariables false

abbrev MakT : TypeId := 141
abbrev OpT : TypeId := 92
/-- At block mk stands how far the operations have come. -/
structure Mk (w : World) (B mk a : Nat) (kv mv : Value) (g m : List Int) : Prop where
  lay : w.heap[mk]? = some (Obj.cells #[.pointer (some ⟨a, 0, none⟩), kv, mv] MakT)
  kr : w.ownsRow B TermT 1 kv g.length (ints g)
  mr : w.ownsRow B TermT 1 mv m.length (ints m)
theorem Mk.below {w w' : World} {B mk a : Nat} {kv mv : Value} {g m : List Int} (h : Mk w B mk a kv mv g m) (hb : Below w.heap.size w w') : Mk w' B mk a kv mv g m :=
  ⟨Hold.below hb _ _ h.lay, own_hold h.kr (Hold.below hb), own_hold h.mr (Hold.below hb)⟩
theorem up_iff {m : List Int} {i : Int} : upB m i = (decide (0 ≤ i) && decide (i < (m.length : Int))) := rfl

theorem below_any (i e : Int) (w : World) : Calls Tryd.prog 86 #[.int .i64 i, .int .i64 e] w fun en w' => en = .returned (.bool (decide (0 ≤ i) && decide (i < e))) ∧ w = w' := by
  by_cases h1 : 0 ≤ i
  · rw [decide_eq_true h1, Bool.true_and]
    cases hd : decide (i < e)
    all_goals
      go_enter Tryd.func86, Tryd.ntmps86
      go_wp2_with fail
      go_returns
      exact ⟨by simp, rfl⟩
  · have h1' : decide (0 ≤ i) = false := decide_eq_false h1
    rw [h1', Bool.false_and]
    go_enter Tryd.func86, Tryd.ntmps86
    go_wp2_with fail
    go_returns
    exact ⟨rfl, rfl⟩
theorem nameOf_any {n : Int} (hn : 0 ≤ n ∧ n ≤ 18446744073709551615) (w : World) : Calls Tryd.prog 106 #[.int .u64 n] w fun en w' => en = .returned (.int .i64 (nmP n)) ∧ w = w' := by
  unfold nmP
  by_cases h : n ≤ 16
  · rw [if_pos h]
    go_enter Tryd.func106, Tryd.ntmps106
    go_wp2_with fail
    go_returns
    exact ⟨by go_num, rfl⟩
  · rw [if_neg h]
    have h' : 16 < n := by omega
    go_enter Tryd.func106, Tryd.ntmps106
    go_wp2_with fail
    go_returns
    exact ⟨by go_num, rfl⟩

section
theorem isAny_any (n : Nd) (w : World) : Calls Tryd.prog 91 #[.agg (nodeA n)] w fun e w' => e = .returned (.bool true) ∧ Below w.heap.size w w' := by
  have bA := bZ w (.cells (nodeA n) NodeT)
  have HA := Lib.hid bA
  clear bA
  obtain ⟨k, f, t, u, s, x, y⟩ := n
  simp only [nodeA] at *
  go_enter Tryd.func91, Tryd.ntmps91
  go_wp2_with fail
  go_returns
  exact ⟨rfl, HA.out⟩
theorem isPair_any (n : Nd) (w : World) : Calls Tryd.prog 95 #[.agg (nodeA n)] w fun e w' => e = .returned (.bool (n.kind == 4)) ∧ Below w.heap.size w w' := by
  have bA := bZ w (.cells (nodeA n) NodeT)
  have hb : (w.alloc (.cells (nodeA n) NodeT)).heap[w.heap.size]? = some (Obj.cells (nodeA n) NodeT) := heap_alloc_new _ _
  have HA := Lib.hid bA
  clear bA
  obtain ⟨k, f, t, u, s, x, y⟩ := n
  simp only [nodeA] at *
  have y0 := cellB (j := 0) hb rfl
  clear hb
  go_enter Tryd.func95, Tryd.ntmps95
  go_wp2_with fail
  go_returns
  exact ⟨rfl, HA.out⟩
theorem isKey_any (n : Nd) (w : World) : Calls Tryd.prog 101 #[.agg (nodeA n)] w fun e w' => e = .returned (.bool (n.kind == 6)) ∧ Below w.heap.size w w' := by
  have bA := bZ w (.cells (nodeA n) NodeT)
  have hb : (w.alloc (.cells (nodeA n) NodeT)).heap[w.heap.size]? = some (Obj.cells (nodeA n) NodeT) := heap_alloc_new _ _
  have HA := Lib.hid bA
  clear bA
  obtain ⟨k, f, t, u, s, x, y⟩ := n
  simp only [nodeA] at *
  have y0 := cellB (j := 0) hb rfl
  clear hb
  go_enter Tryd.func101, Tryd.ntmps101
  go_wp2_with fail
  go_returns
  exact ⟨rfl, HA.out⟩
theorem shows_any (n : Nd) (w : World) : Calls Tryd.prog 99 #[.agg (nodeA n)] w fun e w' => e = .returned (.bool (showB n.kind)) ∧ Below w.heap.size w w' := by
  have bA := bZ w (.cells (nodeA n) NodeT)
  have hb : (w.alloc (.cells (nodeA n) NodeT)).heap[w.heap.size]? = some (Obj.cells (nodeA n) NodeT) := heap_alloc_new _ _
  have HA := Lib.hid bA
  clear bA
  obtain ⟨k, f, t, u, s, x, y⟩ := n
  simp only [nodeA] at *
  have y0 := cellB (j := 0) hb rfl
  clear hb
  unfold showB
  cases h7 : (k == 7)
  · cases h8 : (k == 8)
    all_goals
      go_enter Tryd.func99, Tryd.ntmps99
      go_wp2_with fail
      go_returns
      exact ⟨rfl, HA.out⟩
  · go_enter Tryd.func99, Tryd.ntmps99
    go_wp2_with fail
    go_returns
    exact ⟨rfl, HA.out⟩
end
section
variable {w : World} {B a b : Nat} {v : Value} {p : Pl} {Bm mk : Nat} {kv mv : Value} {g m : List Int}
/-- The row that the operations made: the i-th stands in it. -/
theorem Mk.made (h : Mk w Bm mk a kv mv g m) {i : Int} (hu : upB m i = true) : ∃ (n : Nat) (mb mo mc : Nat), i = (n : Int) ∧ n < m.length ∧ mv = .slice (some ⟨mb, mo, none⟩) m.length mc ∧ w.cell? ⟨mb, mo + n, none⟩ = some (.int .i64 (mdP m i)) := by
  simp only [upB, Bool.and_eq_true, decide_eq_true_eq] at hu
  obtain ⟨n, rfl⟩ := Int.eq_ofNat_of_zero_le hu.1
  have hn : n < m.length := by omega
  obtain ⟨qa, qc, hqe, hqx⟩ := (row_of_own h.mr).at
  obtain ⟨gb, go, rfl, qq⟩ := hqx (by omega)
  refine ⟨n, gb, go, qc, rfl, hn, hqe, ?_⟩
  unfold mdP
  rw [show ((n : Int)).toNat = n by omega, List.getD_eq_getElem?_getD, List.getElem?_eq_getElem hn, Option.getD_some]
  exact qq n _ (ints_at m n hn)
set_option maxRecDepth 100000 in
set_option maxHeartbeats 1600000 in
theorem node_any (hp : IsPool w B a b v p) (hk : Mk w Bm mk a kv mv g m) {i : Int} (hu : upB m i = true) : Calls Tryd.prog 97 #[.pointer (some ⟨mk, 0, none⟩), .int .i64 i] w fun e w' => e = .returned (.agg (nodeA (ndP p m i))) ∧ Below w.heap.size w w' := by
  obtain ⟨n, mb, mo, mc, rfl, hn, rfl, hc⟩ := hk.made hu
  have bA := bZ w (.cells #[.int .i64 0, .int .i64 0, .int .i64 0, .int .u64 0, .string ⟨#[]⟩, .int .i64 0, .int .i64 0] NodeT)
  have PN := Lib.hid (fun (W : World) (h : Below w.heap.size w W) => pnode (hp.below h) (mdP m (n : Int)))
  have hz : (w.alloc (.cells #[.int .i64 0, .int .i64 0, .int .i64 0, .int .u64 0, .string ⟨#[]⟩, .int .i64 0, .int .i64 0] NodeT)).heap[w.heap.size]? = some (Obj.cells #[.int .i64 0, .int .i64 0, .int .i64 0, .int .u64 0, .string ⟨#[]⟩, .int .i64 0, .int .i64 0] NodeT) := heap_alloc_new _ _
  have HZ := Lib.hid hz
  have z0 := bcellAt bA (cellB (j := 0) hk.lay rfl)
  have z2 := bcellAt bA (cellB (j := 2) hk.lay rfl)
  have hc' := bcellAt bA hc
  have hn0 : (0 : Int) ≤ (n : Int) := by omega
  have hn1 : (n : Int) < (m.length : Int) := by omega
  have HA := Lib.hid bA
  have HK := Lib.hid hk
  unfold ndP
  generalize hnn : (atP p (mdP m (n : Int))).1 = nn at *
  obtain ⟨nk, nf, nt, nu, ns, nx, ny⟩ := nn
  simp only [nodeA] at *
  clear hz hk hp hc hnn bA
  go_enter Tryd.func97, Tryd.ntmps97
  go_wp2_with fail
  generalize mdP m (n : Int) = t at *
  have HK := Lib.hid (fun (V : World) (hb : Below (w.alloc (.cells #[.int .i64 0, .int .i64 0, .int .i64 0, .int .u64 0, .string ⟨#[]⟩, .int .i64 0, .int .i64 0] NodeT)).heap.size (w.alloc (.cells #[.int .i64 0, .int .i64 0, .int .i64 0, .int .u64 0, .string ⟨#[]⟩, .int .i64 0, .int .i64 0] NodeT)) V) => (show V.cell? ⟨mk, 0, none⟩ = some (.pointer (some ⟨a, 0, none⟩)) ∧ V.cell? ⟨mk, 2, none⟩ = some (.slice (some ⟨mb, mo, none⟩) m.length mc) ∧ V.cell? ⟨mb, mo + n, none⟩ = some (.int .i64 t) from ⟨bcellAt hb z0, bcellAt hb z2, bcellAt hb hc'⟩))
  have HRS := Lib.hid (fun (V : World) (hb : Below (w.alloc (.cells #[.int .i64 0, .int .i64 0, .int .i64 0, .int .u64 0, .string ⟨#[]⟩, .int .i64 0, .int .i64 0] NodeT)).heap.size (w.alloc (.cells #[.int .i64 0, .int .i64 0, .int .i64 0, .int .u64 0, .string ⟨#[]⟩, .int .i64 0, .int .i64 0] NodeT)) V) => Hold.below hb _ _ HZ.out)
  have hres : w.heap.size < (w.alloc (.cells #[.int .i64 0, .int .i64 0, .int .i64 0, .int .u64 0, .string ⟨#[]⟩, .int .i64 0, .int .i64 0] NodeT)).heap.size := by simp
  clear z0 z2 hc' HZ
  generalize (w.alloc (.cells #[.int .i64 0, .int .i64 0, .int .i64 0, .int .u64 0, .string ⟨#[]⟩, .int .i64 0, .int .i64 0] NodeT)) = W at *
  refine lex_start [0, 1, 2, 3, 4, 5, 6, 7, 8, 9, 10, 11, 12, 13, 14, 15, 16, 17] (S := fun V => V.cell? ⟨mk, 0, none⟩ = some (.pointer (some ⟨a, 0, none⟩)) ∧ V.cell? ⟨mk, 2, none⟩ = some (.slice (some ⟨mb, mo, none⟩) m.length mc) ∧ V.cell? ⟨mb, mo + n, none⟩ = some (.int .i64 t)) (by kernel_rfl) (HK.out _ (bd _)) (fun hS => ?_)
  clear hS
  simp only [inOrder, List.filterMap, List.getElem?_cons_succ, List.getElem?_cons_zero]
  have b0 := bd W
  refine lex_take (i := 0) (v := ?_) rfl (by kernel_rfl) (by kernel_rfl) (by kernel_rfl) (by rfl) (HK.out _ b0) ?_ ?_
  rotate_left
  · ((intro W hW; obtain ⟨k0, k1, k2⟩ := hW; go_simp) <;> with_reducible rfl)
  simp only [Act.put, List.setIfInBounds_toArray, List.set_cons_zero, List.set_cons_succ]
  refine lex_take (i := 1) (v := ?_) rfl (by kernel_rfl) (by kernel_rfl) (by kernel_rfl) (by rfl) (HK.out _ b0) ?_ ?_
  rotate_left
  · ((intro W hW; obtain ⟨k0, k1, k2⟩ := hW; go_simp) <;> with_reducible rfl)
  simp only [Act.put, List.setIfInBounds_toArray, List.set_cons_zero, List.set_cons_succ]
  refine lex_take (i := 2) (v := ?_) rfl (by kernel_rfl) (by kernel_rfl) (by kernel_rfl) (by rfl) (HK.out _ b0) ?_ ?_
  rotate_left
  · ((intro W hW; obtain ⟨k0, k1, k2⟩ := hW; go_simp) <;> with_reducible rfl)
  simp only [Act.put, List.setIfInBounds_toArray, List.set_cons_zero, List.set_cons_succ]
  refine lex_take (i := 3) (v := ?_) rfl (by kernel_rfl) (by kernel_rfl) (by kernel_rfl) (by rfl) (HK.out _ b0) ?_ ?_
  rotate_left
  · ((intro W hW; obtain ⟨k0, k1, k2⟩ := hW; go_simp) <;> with_reducible rfl)
  simp only [Act.put, List.setIfInBounds_toArray, List.set_cons_zero, List.set_cons_succ]
  refine lex_take (i := 4) (v := ?_) rfl (by kernel_rfl) (by kernel_rfl) (by kernel_rfl) (by rfl) (HK.out _ b0) ?_ ?_
  rotate_left
  · ((intro W hW; obtain ⟨k0, k1, k2⟩ := hW; go_simp) <;> with_reducible rfl)
  simp only [Act.put, List.setIfInBounds_toArray, List.set_cons_zero, List.set_cons_succ]
  refine lex_take (i := 5) (v := ?_) rfl (by kernel_rfl) (by kernel_rfl) (by kernel_rfl) (by rfl) (HK.out _ b0) ?_ ?_
  rotate_left
  · ((intro W hW; obtain ⟨k0, k1, k2⟩ := hW; go_simp) <;> with_reducible rfl)
  simp only [Act.put, List.setIfInBounds_toArray, List.set_cons_zero, List.set_cons_succ]
  refine lex_take (i := 6) (v := ?_) rfl (by kernel_rfl) (by kernel_rfl) (by kernel_rfl) (by rfl) (HK.out _ b0) ?_ ?_
  rotate_left
  · ((intro W hW; obtain ⟨k0, k1, k2⟩ := hW; go_simp) <;> with_reducible rfl)
  simp only [Act.put, List.setIfInBounds_toArray, List.set_cons_zero, List.set_cons_succ]
  refine lex_take (i := 7) (v := ?_) rfl (by kernel_rfl) (by kernel_rfl) (by kernel_rfl) (by rfl) (HK.out _ b0) ?_ ?_
  rotate_left
  · ((intro W hW; obtain ⟨k0, k1, k2⟩ := hW; go_simp) <;> with_reducible rfl)
  simp only [Act.put, List.setIfInBounds_toArray, List.set_cons_zero, List.set_cons_succ]
  refine lex_take (i := 8) (v := ?_) rfl (by kernel_rfl) (by kernel_rfl) (by kernel_rfl) (by rfl) (HK.out _ b0) ?_ ?_
  rotate_left
  · ((intro W hW; obtain ⟨k0, k1, k2⟩ := hW; go_simp) <;> with_reducible rfl)
  simp only [Act.put, List.setIfInBounds_toArray, List.set_cons_zero, List.set_cons_succ]
  refine lex_take (i := 9) (v := ?_) rfl (by kernel_rfl) (by kernel_rfl) (by kernel_rfl) (by rfl) (HK.out _ b0) ?_ ?_
  rotate_left
  · ((intro W hW; obtain ⟨k0, k1, k2⟩ := hW; go_simp) <;> with_reducible rfl)
  simp only [Act.put, List.setIfInBounds_toArray, List.set_cons_zero, List.set_cons_succ]
  refine lex_take (i := 10) (v := ?_) rfl (by kernel_rfl) (by kernel_rfl) (by kernel_rfl) (by rfl) (HK.out _ b0) ?_ ?_
  rotate_left
  · ((intro W hW; obtain ⟨k0, k1, k2⟩ := hW; go_simp) <;> with_reducible rfl)
  simp only [Act.put, List.setIfInBounds_toArray, List.set_cons_zero, List.set_cons_succ]
  refine lex_reorder [11, 15, 12, 13, 14, 16, 17] ?_
  simp only [inOrder, List.filterMap, List.getElem?_cons_succ, List.getElem?_cons_zero]
  refine lex_two (i := 11) (j := 15) rfl rfl (by kernel_rfl) (by rfl) (by rfl) (fun K hK => ?_) (fun K hK => ?_)
  · go_simp
    refine (PN.out _ (bmore HA.out b0)).mono ?_
    rintro e w1 ⟨rfl, u1⟩
    have b1 := bmore b0 u1
    refine hK _ _ ⟨HK.out _ b1, ?_⟩
    clear hK K
    refine lex_reorder [12, 13, 14, 15, 16, 17] ?_
    simp only [inOrder, List.filterMap, List.getElem?_cons_succ, List.getElem?_cons_zero]
    refine lex_take (i := 12) (v := ?_) rfl (by kernel_rfl) (by kernel_rfl) (by kernel_rfl) (by rfl) (HK.out _ b1) ?_ ?_
    rotate_left
    · ((intro W hW; obtain ⟨k0, k1, k2⟩ := hW; go_simp) <;> with_reducible rfl)
    simp only [Act.put, List.setIfInBounds_toArray, List.set_cons_zero, List.set_cons_succ]
    refine lex_take (i := 13) (v := ?_) rfl (by kernel_rfl) (by kernel_rfl) (by kernel_rfl) (by rfl) (HK.out _ b1) ?_ ?_
    rotate_left
    · ((intro W hW; obtain ⟨k0, k1, k2⟩ := hW; go_simp) <;> with_reducible rfl)
    simp only [Act.put, List.setIfInBounds_toArray, List.set_cons_zero, List.set_cons_succ]
    refine lex_take (i := 14) (v := ?_) rfl (by kernel_rfl) (by kernel_rfl) (by kernel_rfl) (by rfl) (HK.out _ b1) ?_ ?_
    rotate_left
    · ((intro W hW; obtain ⟨k0, k1, k2⟩ := hW; go_simp) <;> with_reducible rfl)
    simp only [Act.put, List.setIfInBounds_toArray, List.set_cons_zero, List.set_cons_succ]
    refine lex_do (i := 15) rfl (by kernel_rfl) (by rfl) (fun K hK => ?_)
    go_simp
    refine hK _ _ ⟨HK.out _ (bAl b1 _), ?_⟩
    clear hK K
    refine lex_do (i := 16) rfl (by kernel_rfl) (by rfl) (fun K hK => ?_)
    go_simp
    refine hK _ _ ⟨HK.out _ (bAl b1 _), ?_⟩
    clear hK K
    refine lex_take (i := 17) (v := ?_) rfl (by kernel_rfl) (by kernel_rfl) (by kernel_rfl) (by rfl) (HK.out _ (bAl b1 _)) ?_ ?_
    rotate_left
    · ((intro W hW; obtain ⟨k0, k1, k2⟩ := hW; go_simp) <;> with_reducible rfl)
    simp only [Act.put, List.setIfInBounds_toArray, List.set_cons_zero, List.set_cons_succ]
    refine lex_done (by kernel_rfl) ?_
    have hn := heap_alloc_new w1 (Obj.cells #[.int .i64 nk, .int .i64 nf, .int .i64 nt, .int .u64 nu, .string ns, .int .i64 nx, .int .i64 ny] NodeT)
    have hr := HRS.out _ (bAl b1 (Obj.cells #[.int .i64 nk, .int .i64 nf, .int .i64 nt, .int .u64 nu, .string ns, .int .i64 nx, .int .i64 ny] NodeT))
    have hbX := bmore HA.out (bAl b1 (Obj.cells #[.int .i64 nk, .int .i64 nf, .int .i64 nt, .int .u64 nu, .string ns, .int .i64 nx, .int .i64 ny] NodeT))
    clear HK
    revert hn hr hbX
    generalize (w1.alloc (Obj.cells #[.int .i64 nk, .int .i64 nf, .int .i64 nt, .int .u64 nu, .string ns, .int .i64 nx, .int .i64 ny] NodeT)) = X at *
    intro hn hr hbX
    have q0 := cellB (j := 0) hn rfl
    have y0 := cellB (j := 0) hr rfl
    have v0 := frozenB (j := 0) hr
    have q1 := cellB (j := 1) hn rfl
    have y1 := cellB (j := 1) hr rfl
    have v1 := frozenB (j := 1) hr
    have q2 := cellB (j := 2) hn rfl
    have y2 := cellB (j := 2) hr rfl
    have v2 := frozenB (j := 2) hr
    have q3 := cellB (j := 3) hn rfl
    have y3 := cellB (j := 3) hr rfl
    have v3 := frozenB (j := 3) hr
    have q4 := cellB (j := 4) hn rfl
    have y4 := cellB (j := 4) hr rfl
    have v4 := frozenB (j := 4) hr
    have q5 := cellB (j := 5) hn rfl
    have y5 := cellB (j := 5) hr rfl
    have v5 := frozenB (j := 5) hr
    have q6 := cellB (j := 6) hn rfl
    have y6 := cellB (j := 6) hr rfl
    have v6 := frozenB (j := 6) hr
    go_wp2_with fail
    have hb7 : (((((((X.setCell ⟨w.heap.size, 0, none⟩ (.int .i64 nk)).setCell ⟨w.heap.size, 1, none⟩ (.int .i64 nf)).setCell ⟨w.heap.size, 2, none⟩ (.int .i64 nt)).setCell ⟨w.heap.size, 3, none⟩ (.int .u64 nu)).setCell ⟨w.heap.size, 4, none⟩ (.string ns)).setCell ⟨w.heap.size, 5, none⟩ (.int .i64 nx)).setCell ⟨w.heap.size, 6, none⟩ (.int .i64 ny)).heap[w.heap.size]? = some (Obj.cells #[.int .i64 nk, .int .i64 nf, .int .i64 nt, .int .u64 nu, .string ns, .int .i64 nx, .int .i64 ny] NodeT) := (setCellB (j := 6) (u := .int .i64 ny) (setCellB (j := 5) (u := .int .i64 nx) (setCellB (j := 4) (u := .string ns) (setCellB (j := 3) (u := .int .u64 nu) (setCellB (j := 2) (u := .int .i64 nt) (setCellB (j := 1) (u := .int .i64 nf) (setCellB (j := 0) (u := .int .i64 nk) hr)))))))
    have hbl : Below w.heap.size w (((((((X.setCell ⟨w.heap.size, 0, none⟩ (.int .i64 nk)).setCell ⟨w.heap.size, 1, none⟩ (.int .i64 nf)).setCell ⟨w.heap.size, 2, none⟩ (.int .i64 nt)).setCell ⟨w.heap.size, 3, none⟩ (.int .u64 nu)).setCell ⟨w.heap.size, 4, none⟩ (.string ns)).setCell ⟨w.heap.size, 5, none⟩ (.int .i64 nx)).setCell ⟨w.heap.size, 6, none⟩ (.int .i64 ny)) := (((((((hbX.setCell (p := ⟨w.heap.size, 0, none⟩) (Nat.le_refl _) _).setCell (p := ⟨w.heap.size, 1, none⟩) (Nat.le_refl _) _).setCell (p := ⟨w.heap.size, 2, none⟩) (Nat.le_refl _) _).setCell (p := ⟨w.heap.size, 3, none⟩) (Nat.le_refl _) _).setCell (p := ⟨w.heap.size, 4, none⟩) (Nat.le_refl _) _).setCell (p := ⟨w.heap.size, 5, none⟩) (Nat.le_refl _) _).setCell (p := ⟨w.heap.size, 6, none⟩) (Nat.le_refl _) _)
    generalize (((((((X.setCell ⟨w.heap.size, 0, none⟩ (.int .i64 nk)).setCell ⟨w.heap.size, 1, none⟩ (.int .i64 nf)).setCell ⟨w.heap.size, 2, none⟩ (.int .i64 nt)).setCell ⟨w.heap.size, 3, none⟩ (.int .u64 nu)).setCell ⟨w.heap.size, 4, none⟩ (.string ns)).setCell ⟨w.heap.size, 5, none⟩ (.int .i64 nx)).setCell ⟨w.heap.size, 6, none⟩ (.int .i64 ny)) = W7 at *
    have c0 : W7.cell? ⟨w.heap.size, 0, none⟩ = some (.int .i64 nk) := cellB hb7 rfl
    have c1 : W7.cell? ⟨w.heap.size, 1, none⟩ = some (.int .i64 nf) := cellB hb7 rfl
    have c2 : W7.cell? ⟨w.heap.size, 2, none⟩ = some (.int .i64 nt) := cellB hb7 rfl
    have c3 : W7.cell? ⟨w.heap.size, 3, none⟩ = some (.int .u64 nu) := cellB hb7 rfl
    have c4 : W7.cell? ⟨w.heap.size, 4, none⟩ = some (.string ns) := cellB hb7 rfl
    have c5 : W7.cell? ⟨w.heap.size, 5, none⟩ = some (.int .i64 nx) := cellB hb7 rfl
    have c6 : W7.cell? ⟨w.heap.size, 6, none⟩ = some (.int .i64 ny) := cellB hb7 rfl
    refine bodyPost_ret (v := .agg #[.int .i64 nk, .int .i64 nf, .int .i64 nt, .int .u64 nu, .string ns, .int .i64 nx, .int .i64 ny]) (by simp [results, Tryd.results97, go_sem, c0, c1, c2, c3, c4, c5, c6]) rfl ⟨rfl, hbl⟩
  · go_simp
    have q := heap_alloc_new W.drew (Obj.cells #[.int .i64 0, .int .i64 0, .int .i64 0, .int .u64 0, .string ⟨#[]⟩, .int .i64 0, .int .i64 0] NodeT)
    have ba := bAl b0 (.cells #[.int .i64 0, .int .i64 0, .int .i64 0, .int .u64 0, .string ⟨#[]⟩, .int .i64 0, .int .i64 0] NodeT)
    refine hK _ _ ⟨HK.out _ ba, ?_⟩
    clear hK K
    have bx : Below W.heap.size W W := Below.refl _ _
    refine lex_reorder [11, 12, 13, 14, 16, 17] ?_
    simp only [inOrder, List.filterMap, List.getElem?_cons_succ, List.getElem?_cons_zero]
    refine lex_do (i := 11) rfl (by kernel_rfl) (by rfl) (fun K hK => ?_)
    go_simp
    refine (PN.out _ (bmore HA.out ba)).mono ?_
    rintro e w1 ⟨rfl, u1⟩
    have b1 := bmore ba u1
    have q := Hold.below u1 _ _ q
    refine hK _ _ ⟨HK.out _ b1, ?_⟩
    clear hK K
    refine lex_reorder [12, 13, 14, 16, 17] ?_
    simp only [inOrder, List.filterMap, List.getElem?_cons_succ, List.getElem?_cons_zero]
    refine lex_take (i := 12) (v := ?_) rfl (by kernel_rfl) (by kernel_rfl) (by kernel_rfl) (by rfl) (HK.out _ b1) ?_ ?_
    rotate_left
    · ((intro W hW; obtain ⟨k0, k1, k2⟩ := hW; go_simp) <;> with_reducible rfl)
    simp only [Act.put, List.setIfInBounds_toArray, List.set_cons_zero, List.set_cons_succ]
    refine lex_take (i := 13) (v := ?_) rfl (by kernel_rfl) (by kernel_rfl) (by kernel_rfl) (by rfl) (HK.out _ b1) ?_ ?_
    rotate_left
    · ((intro W hW; obtain ⟨k0, k1, k2⟩ := hW; go_simp) <;> with_reducible rfl)
    simp only [Act.put, List.setIfInBounds_toArray, List.set_cons_zero, List.set_cons_succ]
    refine lex_take (i := 14) (v := ?_) rfl (by kernel_rfl) (by kernel_rfl) (by kernel_rfl) (by rfl) (HK.out _ b1) ?_ ?_
    rotate_left
    · ((intro W hW; obtain ⟨k0, k1, k2⟩ := hW; go_simp) <;> with_reducible rfl)
    simp only [Act.put, List.setIfInBounds_toArray, List.set_cons_zero, List.set_cons_succ]
    have b5 : Below W.heap.size W (w1.setRow W.heap.size #[.int .i64 nk, .int .i64 nf, .int .i64 nt, .int .u64 nu, .string ns, .int .i64 nx, .int .i64 ny]) := bRow b1 bx _
    refine lex_do (i := 16) rfl (by kernel_rfl) (by rfl) (fun K hK => ?_)
    refine wp_store_row NodeT _ _ rfl W.heap.size #[.int .i64 nk, .int .i64 nf, .int .i64 nt, .int .u64 nu, .string ns, .int .i64 nx, .int .i64 ny] rfl rfl NodeT #[.int .i64 0, .int .i64 0, .int .i64 0, .int .u64 0, .string ⟨#[]⟩, .int .i64 0, .int .i64 0] q (by kernel_rfl) rfl (by simp [Value.oneCell']) ?_
    refine hK _ _ ⟨HK.out _ b5, ?_⟩
    clear hK K
    refine lex_take (i := 17) (v := ?_) rfl (by kernel_rfl) (by kernel_rfl) (by kernel_rfl) (by rfl) (HK.out _ b5) ?_ ?_
    rotate_left
    · ((intro W hW; obtain ⟨k0, k1, k2⟩ := hW; go_simp) <;> with_reducible rfl)
    simp only [Act.put, List.setIfInBounds_toArray, List.set_cons_zero, List.set_cons_succ]
    refine lex_done (by kernel_rfl) ?_
    have hn : (w1.setRow W.heap.size #[.int .i64 nk, .int .i64 nf, .int .i64 nt, .int .u64 nu, .string ns, .int .i64 nx, .int .i64 ny]).heap[W.heap.size]? = some (Obj.cells #[.int .i64 nk, .int .i64 nf, .int .i64 nt, .int .u64 nu, .string ns, .int .i64 nx, .int .i64 ny] NodeT) := setRow_heap _ _ _ _ _ _ q
    have hr := HRS.out _ b5
    have hbX := bmore HA.out b5
    clear HK
    revert hn hr hbX
    generalize (w1.setRow W.heap.size #[.int .i64 nk, .int .i64 nf, .int .i64 nt, .int .u64 nu, .string ns, .int .i64 nx, .int .i64 ny]) = X at *
    intro hn hr hbX
    have q0 := cellB (j := 0) hn rfl
    have y0 := cellB (j := 0) hr rfl
    have v0 := frozenB (j := 0) hr
    have q1 := cellB (j := 1) hn rfl
    have y1 := cellB (j := 1) hr rfl
    have v1 := frozenB (j := 1) hr
    have q2 := cellB (j := 2) hn rfl
    have y2 := cellB (j := 2) hr rfl
    have v2 := frozenB (j := 2) hr
    have q3 := cellB (j := 3) hn rfl
    have y3 := cellB (j := 3) hr rfl
    have v3 := frozenB (j := 3) hr
    have q4 := cellB (j := 4) hn rfl
    have y4 := cellB (j := 4) hr rfl
    have v4 := frozenB (j := 4) hr
    have q5 := cellB (j := 5) hn rfl
    have y5 := cellB (j := 5) hr rfl
    have v5 := frozenB (j := 5) hr
    have q6 := cellB (j := 6) hn rfl
    have y6 := cellB (j := 6) hr rfl
    have v6 := frozenB (j := 6) hr
    go_wp2_with fail
    have hb7 : (((((((X.setCell ⟨w.heap.size, 0, none⟩ (.int .i64 nk)).setCell ⟨w.heap.size, 1, none⟩ (.int .i64 nf)).setCell ⟨w.heap.size, 2, none⟩ (.int .i64 nt)).setCell ⟨w.heap.size, 3, none⟩ (.int .u64 nu)).setCell ⟨w.heap.size, 4, none⟩ (.string ns)).setCell ⟨w.heap.size, 5, none⟩ (.int .i64 nx)).setCell ⟨w.heap.size, 6, none⟩ (.int .i64 ny)).heap[w.heap.size]? = some (Obj.cells #[.int .i64 nk, .int .i64 nf, .int .i64 nt, .int .u64 nu, .string ns, .int .i64 nx, .int .i64 ny] NodeT) := (setCellB (j := 6) (u := .int .i64 ny) (setCellB (j := 5) (u := .int .i64 nx) (setCellB (j := 4) (u := .string ns) (setCellB (j := 3) (u := .int .u64 nu) (setCellB (j := 2) (u := .int .i64 nt) (setCellB (j := 1) (u := .int .i64 nf) (setCellB (j := 0) (u := .int .i64 nk) hr)))))))
    have hbl : Below w.heap.size w (((((((X.setCell ⟨w.heap.size, 0, none⟩ (.int .i64 nk)).setCell ⟨w.heap.size, 1, none⟩ (.int .i64 nf)).setCell ⟨w.heap.size, 2, none⟩ (.int .i64 nt)).setCell ⟨w.heap.size, 3, none⟩ (.int .u64 nu)).setCell ⟨w.heap.size, 4, none⟩ (.string ns)).setCell ⟨w.heap.size, 5, none⟩ (.int .i64 nx)).setCell ⟨w.heap.size, 6, none⟩ (.int .i64 ny)) := (((((((hbX.setCell (p := ⟨w.heap.size, 0, none⟩) (Nat.le_refl _) _).setCell (p := ⟨w.heap.size, 1, none⟩) (Nat.le_refl _) _).setCell (p := ⟨w.heap.size, 2, none⟩) (Nat.le_refl _) _).setCell (p := ⟨w.heap.size, 3, none⟩) (Nat.le_refl _) _).setCell (p := ⟨w.heap.size, 4, none⟩) (Nat.le_refl _) _).setCell (p := ⟨w.heap.size, 5, none⟩) (Nat.le_refl _) _).setCell (p := ⟨w.heap.size, 6, none⟩) (Nat.le_refl _) _)
    generalize (((((((X.setCell ⟨w.heap.size, 0, none⟩ (.int .i64 nk)).setCell ⟨w.heap.size, 1, none⟩ (.int .i64 nf)).setCell ⟨w.heap.size, 2, none⟩ (.int .i64 nt)).setCell ⟨w.heap.size, 3, none⟩ (.int .u64 nu)).setCell ⟨w.heap.size, 4, none⟩ (.string ns)).setCell ⟨w.heap.size, 5, none⟩ (.int .i64 nx)).setCell ⟨w.heap.size, 6, none⟩ (.int .i64 ny)) = W7 at *
    have c0 : W7.cell? ⟨w.heap.size, 0, none⟩ = some (.int .i64 nk) := cellB hb7 rfl
    have c1 : W7.cell? ⟨w.heap.size, 1, none⟩ = some (.int .i64 nf) := cellB hb7 rfl
    have c2 : W7.cell? ⟨w.heap.size, 2, none⟩ = some (.int .i64 nt) := cellB hb7 rfl
    have c3 : W7.cell? ⟨w.heap.size, 3, none⟩ = some (.int .u64 nu) := cellB hb7 rfl
    have c4 : W7.cell? ⟨w.heap.size, 4, none⟩ = some (.string ns) := cellB hb7 rfl
    have c5 : W7.cell? ⟨w.heap.size, 5, none⟩ = some (.int .i64 nx) := cellB hb7 rfl
    have c6 : W7.cell? ⟨w.heap.size, 6, none⟩ = some (.int .i64 ny) := cellB hb7 rfl
    refine bodyPost_ret (v := .agg #[.int .i64 nk, .int .i64 nf, .int .i64 nt, .int .u64 nu, .string ns, .int .i64 nx, .int .i64 ny]) (by simp [results, Tryd.results97, go_sem, c0, c1, c2, c3, c4, c5, c6]) rfl ⟨rfl, hbl⟩
end
end Go.Proofs.YtjpkeoenajlmeaaDoor
namespace Go.Proofs.YtjpkeoenajlmeaaDoor
open Go.RowKit Go.Maps
set_option linter.unusedVariables false

section
variable {w : World} {B a b : Nat} {v : Value} {p : Pl} {Bm mk : Nat} {kv mv : Value} {g m : List Int}
theorem fieldN_1 (W : World) (x0 x1 x2 x3 x4 x5 x6 : Value) : (Instr.field NodeT (.agg #[x0, x1, x2, x3, x4, x5, x6]) 1).run Tryd.prog W = .ok x1 W := by kernel_rfl
theorem fieldN_5 (W : World) (x0 x1 x2 x3 x4 x5 x6 : Value) : (Instr.field NodeT (.agg #[x0, x1, x2, x3, x4, x5, x6]) 5).run Tryd.prog W = .ok x5 W := by kernel_rfl
theorem fieldN_6 (W : World) (x0 x1 x2 x3 x4 x5 x6 : Value) : (Instr.field NodeT (.agg #[x0, x1, x2, x3, x4, x5, x6]) 6).run Tryd.prog W = .ok x6 W := by kernel_rfl
theorem eq_nil (W : World) : (binOp .eql 105 .nilFunc .nilFunc).run Tryd.prog W = .ok (.bool true) W := by kernel_rfl
theorem eq_fn (f : Nat) (W : World) : (binOp .eql 105 (.func (.func f) #[] #[]) .nilFunc).run Tryd.prog W = .ok (.bool false) W := by kernel_rfl
set_option maxRecDepth 100000 in
theorem fits_nil (i : Int) (w : World) : Calls Tryd.prog 109 #[.pointer (some ⟨mk, 0, none⟩), .nilFunc, .int .i64 i] w fun e w' => e = .returned (.bool true) ∧ Below w.heap.size w w' := by
  have hq := eq_nil
  go_enter Tryd.func109, Tryd.ntmps109
  go_wp2_with fail
  go_returns
  exact ⟨rfl, Below.refl _ _⟩
set_option maxRecDepth 100000 in
set_option maxHeartbeats 1600000 in
theorem fits_isAny (hp : IsPool w B a b v p) (hk : Mk w Bm mk a kv mv g m) (i : Int) : Calls Tryd.prog 109 #[.pointer (some ⟨mk, 0, none⟩), .func (.func 91) #[] #[], .int .i64 i] w fun e w' => e = .returned (.bool (upB m i)) ∧ Below w.heap.size w w' := by
  obtain ⟨ma, mc, rfl⟩ := (row_of_own hk.mr).shape
  have c2 := cellB (j := 2) hk.lay rfl
  have BL := Lib.hid (below_any i (m.length : Int) w)
  rw [← up_iff] at BL
  have HP := Lib.hid hp
  have HK := Lib.hid hk
  have hq := eq_fn 91
  clear hp hk
  cases hu : upB m i
  · rw [hu] at BL
    clear hu
    go_enter Tryd.func109, Tryd.ntmps109
    go_wp2_with fail
    refine BL.out.mono ?_
    rintro e w1 ⟨rfl, rfl⟩
    go_wp2_with fail
    go_returns
    exact ⟨rfl, Below.refl _ _⟩
  · rw [hu] at BL
    have NA := Lib.hid (node_any HP.out HK.out hu)
    generalize ndP p m i = nd at *
    clear hu
    go_enter Tryd.func109, Tryd.ntmps109
    go_wp2_with fail
    refine BL.out.mono ?_
    rintro e w1 ⟨rfl, rfl⟩
    go_wp2_with fail
    refine NA.out.mono ?_
    rintro e w2 ⟨rfl, u2⟩
    have U2 := Lib.hid u2
    clear u2
    go_wp2_with fail
    refine (isAny_any nd w2).mono ?_
    rintro e w3 ⟨rfl, u3⟩
    have U3 := Lib.hid (bmore U2.out u3)
    clear u3
    go_wp2_with fail
    go_returns
    exact ⟨rfl, U3.out⟩
set_option maxRecDepth 100000 in
set_option maxHeartbeats 1600000 in
theorem fits_isPair (hp : IsPool w B a b v p) (hk : Mk w Bm mk a kv mv g m) (i : Int) : Calls Tryd.prog 109 #[.pointer (some ⟨mk, 0, none⟩), .func (.func 95) #[] #[], .int .i64 i] w fun e w' => e = .returned (.bool (upB m i && (ndP p m i).kind == 4)) ∧ Below w.heap.size w w' := by
  obtain ⟨ma, mc, rfl⟩ := (row_of_own hk.mr).shape
  have c2 := cellB (j := 2) hk.lay rfl
  have BL := Lib.hid (below_any i (m.length : Int) w)
  rw [← up_iff] at BL
  have HP := Lib.hid hp
  have HK := Lib.hid hk
  have hq := eq_fn 95
  clear hp hk
  cases hu : upB m i
  · rw [hu] at BL
    rw [Bool.false_and]
    clear hu
    go_enter Tryd.func109, Tryd.ntmps109
    go_wp2_with fail
    refine BL.out.mono ?_
    rintro e w1 ⟨rfl, rfl⟩
    go_wp2_with fail
    go_returns
    exact ⟨rfl, Below.refl _ _⟩
  · rw [hu] at BL
    rw [Bool.true_and]
    have NA := Lib.hid (node_any HP.out HK.out hu)
    generalize ndP p m i = nd at *
    clear hu
    go_enter Tryd.func109, Tryd.ntmps109
    go_wp2_with fail
    refine BL.out.mono ?_
    rintro e w1 ⟨rfl, rfl⟩
    go_wp2_with fail
    refine NA.out.mono ?_
    rintro e w2 ⟨rfl, u2⟩
    have U2 := Lib.hid u2
    clear u2
    go_wp2_with fail
    refine (isPair_any nd w2).mono ?_
    rintro e w3 ⟨rfl, u3⟩
    have U3 := Lib.hid (bmore U2.out u3)
    clear u3
    go_wp2_with fail
    go_returns
    exact ⟨rfl, U3.out⟩
set_option maxRecDepth 100000 in
set_option maxHeartbeats 1600000 in
theorem fits_isKey (hp : IsPool w B a b v p) (hk : Mk w Bm mk a kv mv g m) (i : Int) : Calls Tryd.prog 109 #[.pointer (some ⟨mk, 0, none⟩), .func (.func 101) #[] #[], .int .i64 i] w fun e w' => e = .returned (.bool (upB m i && (ndP p m i).kind == 6)) ∧ Below w.heap.size w w' := by
  obtain ⟨ma, mc, rfl⟩ := (row_of_own hk.mr).shape
  have c2 := cellB (j := 2) hk.lay rfl
  have BL := Lib.hid (below_any i (m.length : Int) w)
  rw [← up_iff] at BL
  have HP := Lib.hid hp
  have HK := Lib.hid hk
  have hq := eq_fn 101
  clear hp hk
  cases hu : upB m i
  · rw [hu] at BL
    rw [Bool.false_and]
    clear hu
    go_enter Tryd.func109, Tryd.ntmps109
    go_wp2_with fail
    refine BL.out.mono ?_
    rintro e w1 ⟨rfl, rfl⟩
    go_wp2_with fail
    go_returns
    exact ⟨rfl, Below.refl _ _⟩
  · rw [hu] at BL
    rw [Bool.true_and]
    have NA := Lib.hid (node_any HP.out HK.out hu)
    generalize ndP p m i = nd at *
    clear hu
    go_enter Tryd.func109, Tryd.ntmps109
    go_wp2_with fail
    refine BL.out.mono ?_
    rintro e w1 ⟨rfl, rfl⟩
    go_wp2_with fail
    refine NA.out.mono ?_
    rintro e w2 ⟨rfl, u2⟩
    have U2 := Lib.hid u2
    clear u2
    go_wp2_with fail
    refine (isKey_any nd w2).mono ?_
    rintro e w3 ⟨rfl, u3⟩
    have U3 := Lib.hid (bmore U2.out u3)
    clear u3
    go_wp2_with fail
    go_returns
    exact ⟨rfl, U3.out⟩
set_option maxRecDepth 100000 in
set_option maxHeartbeats 1600000 in
theorem fits_shows (hp : IsPool w B a b v p) (hk : Mk w Bm mk a kv mv g m) (i : Int) : Calls Tryd.prog 109 #[.pointer (some ⟨mk, 0, none⟩), .func (.func 99) #[] #[], .int .i64 i] w fun e w' => e = .returned (.bool (upB m i && showB (ndP p m i).kind)) ∧ Below w.heap.size w w' := by
  obtain ⟨ma, mc, rfl⟩ := (row_of_own hk.mr).shape
  have c2 := cellB (j := 2) hk.lay rfl
  have BL := Lib.hid (below_any i (m.length : Int) w)
  rw [← up_iff] at BL
  have HP := Lib.hid hp
  have HK := Lib.hid hk
  have hq := eq_fn 99
  clear hp hk
  cases hu : upB m i
  · rw [hu] at BL
    rw [Bool.false_and]
    clear hu
    go_enter Tryd.func109, Tryd.ntmps109
    go_wp2_with fail
    refine BL.out.mono ?_
    rintro e w1 ⟨rfl, rfl⟩
    go_wp2_with fail
    go_returns
    exact ⟨rfl, Below.refl _ _⟩
  · rw [hu] at BL
    rw [Bool.true_and]
    have NA := Lib.hid (node_any HP.out HK.out hu)
    generalize ndP p m i = nd at *
    clear hu
    go_enter Tryd.func109, Tryd.ntmps109
    go_wp2_with fail
    refine BL.out.mono ?_
    rintro e w1 ⟨rfl, rfl⟩
    go_wp2_with fail
    refine NA.out.mono ?_
    rintro e w2 ⟨rfl, u2⟩
    have U2 := Lib.hid u2
    clear u2
    go_wp2_with fail
    refine (shows_any nd w2).mono ?_
    rintro e w3 ⟨rfl, u3⟩
    have U3 := Lib.hid (bmore U2.out u3)
    clear u3
    go_wp2_with fail
    go_returns
    exact ⟨rfl, U3.out⟩
/-- What the making of an operation leaves. -/
def DoPost (w : World) (B a b : Nat) (v : Value) (r : Int × Int × Pl) (e : Ending) (w' : World) : Prop :=
  e = .returned (.tuple #[.int .i64 r.1, .int .i64 r.2.1]) ∧ Grew w B a b v r.2.2 w'
set_option maxRecDepth 100000 in
set_option maxHeartbeats 3200000 in
theorem code_0 (hp : IsPool w B a b v p) (hl : Laid w) (hk : Mk w Bm mk a kv mv g m) {oc oa ob on : Int} {os : ByteArray} : Calls Tryd.prog 85 #[.pointer (some ⟨mk, 0, none⟩), .agg #[.int .i64 oc, .int .i64 oa, .int .i64 ob, .int .u64 on, .string os]] w (DoPost w B a b v (if upB g oa = true then (mdP g oa, 0, p) else noP p)) := by
  have bA := bZ w (.cells #[.int .i64 oc, .int .i64 oa, .int .i64 ob, .int .u64 on, .string os] OpT)
  have hz := heap_alloc_new w (.cells #[.int .i64 oc, .int .i64 oa, .int .i64 ob, .int .u64 on, .string os] OpT)
  have HP0 := Lib.hid hp
  obtain ⟨ga, gc, rfl⟩ := (row_of_own hk.kr).shape
  have BL := Lib.hid (fun (W : World) => below_any oa (g.length : Int) W)
  rw [← up_iff] at BL
  have z1 := bcellAt bA (cellB (j := 1) hk.lay rfl)
  have y1 := cellB (j := 1) hz rfl
  have HA := Lib.hid bA
  cases hu : upB g oa
  · rw [hu] at BL
    clear hu hk hz hl hp bA
    go_enter Tryd.func85, Tryd.ntmps85
    go_wp2_with fail
    go_quiet (exact Calls.quiet_of_same (still_of (BL.out _)))
    go_wp2_with fail
    go_returns
    exact ⟨rfl, Grew.same HP0.out (bmore HA.out (bdn _ _))⟩
  · rw [hu] at BL
    simp only [upB, Bool.and_eq_true, decide_eq_true_eq] at hu
    obtain ⟨n, rfl⟩ := Int.eq_ofNat_of_zero_le hu.1
    have hn : n < g.length := by omega
    obtain ⟨qa, qc, hqe, hqx⟩ := (row_of_own hk.kr).at
    obtain ⟨gb, go, rfl, qq⟩ := hqx (by omega)
    cases hqe
    have c0 := bcellAt bA (qq n _ (ints_at g n hn))
    have hmd : mdP g (n : Int) = g[n] := by
      unfold mdP
      rw [show ((n : Int)).toNat = n by omega, List.getD_eq_getElem?_getD, List.getElem?_eq_getElem hn, Option.getD_some]
    rw [if_pos rfl, hmd]
    have hn0 : (0 : Int) ≤ (n : Int) := by omega
    have hn1 : (n : Int) < (g.length : Int) := by omega
    clear hu hk hz hl hp bA qq hqx hmd
    generalize g[n] = t at *
    go_enter Tryd.func85, Tryd.ntmps85
    go_wp2_with fail
    generalize (w.alloc (.cells #[.int .i64 oc, .int .i64 (n : Int), .int .i64 ob, .int .u64 on, .string os] OpT)) = W at *
    go_quiet (exact Calls.quiet_of_same (still_of (BL.out _)))
    go_wp2_with fail
    go_quiet (fail)
    go_wp2_with fail
    go_returns
    exact ⟨rfl, Grew.same HP0.out (bmore HA.out (by first | exact bdn _ _ | exact bmore (bdn _ _) (bdn _ _)))⟩
theorem nm_i64 {n : Int} (h : 0 ≤ n ∧ n ≤ 18446744073709551615) : i64R (nmP n) := by
  unfold nmP i64R
  split <;> omega
set_option maxRecDepth 100000 in
set_option maxHeartbeats 3200000 in
theorem code_1 (hp : IsPool w B a b v p) (hl : Laid w) (hk : Mk w Bm mk a kv mv g m) {oc oa ob on : Int} {os : ByteArray} (ha : i64R oa) : Calls Tryd.prog 87 #[.pointer (some ⟨mk, 0, none⟩), .agg #[.int .i64 oc, .int .i64 oa, .int .i64 ob, .int .u64 on, .string os]] w (DoPost w B a b v (mkP p ⟨1, oa, 0, 0, emptyS, 0, 0⟩)) := by
  have bA := bZ w (.cells #[.int .i64 oc, .int .i64 oa, .int .i64 ob, .int .u64 on, .string os] OpT)
  have hz := heap_alloc_new w (.cells #[.int .i64 oc, .int .i64 oa, .int .i64 ob, .int .u64 on, .string os] OpT)
  have HP0 := Lib.hid hp
  have z0 := bcellAt bA (cellB (j := 0) hk.lay rfl)
  have hk0 := Hold.below bA _ _ hk.lay
  have hp1 := hp.below bA
  have HKQ := Lib.hid (fun (V : World) (h1 : Hold MakT (w.alloc (.cells #[.int .i64 oc, .int .i64 oa, .int .i64 ob, .int .u64 on, .string os] OpT)) V) (h2 : Hold OpT (w.alloc (.cells #[.int .i64 oc, .int .i64 oa, .int .i64 ob, .int .u64 on, .string os] OpT)) V) (h3 : Hold TermT (w.alloc (.cells #[.int .i64 oc, .int .i64 oa, .int .i64 ob, .int .u64 on, .string os] OpT)) V) => (show V.cell? ⟨mk, 0, none⟩ = some (.pointer (some ⟨a, 0, none⟩)) ∧ V.cell? ⟨w.heap.size, 0, none⟩ = some (.int .i64 oc) ∧ V.cell? ⟨w.heap.size, 1, none⟩ = some (.int .i64 oa) ∧ V.cell? ⟨w.heap.size, 2, none⟩ = some (.int .i64 ob) ∧ V.cell? ⟨w.heap.size, 3, none⟩ = some (.int .u64 on) ∧ V.cell? ⟨w.heap.size, 4, none⟩ = some (.string os) from ⟨cellB (j := 0) (h1 _ _ hk0) rfl, cellB (j := 0) (h2 _ _ hz) rfl, cellB (j := 1) (h2 _ _ hz) rfl, cellB (j := 2) (h2 _ _ hz) rfl, cellB (j := 3) (h2 _ _ hz) rfl, cellB (j := 4) (h2 _ _ hz) rfl⟩))
  have HM := Lib.hid (fun (W : World) (h : Below (w.alloc (.cells #[.int .i64 oc, .int .i64 oa, .int .i64 ob, .int .u64 on, .string os] OpT)).heap.size (w.alloc (.cells #[.int .i64 oc, .int .i64 oa, .int .i64 ob, .int .u64 on, .string os] OpT)) W) => pName (hp1.below h) (hl.below (bmore bA h)) oa ha)
  have HA := Lib.hid bA
  have HP1 := Lib.hid hp1
  clear hp hl hk hz bA hp1 z0 hk0
  go_enter Tryd.func87, Tryd.ntmps87
  go_wp2_with fail
  generalize w.alloc (.cells #[.int .i64 oc, .int .i64 oa, .int .i64 ob, .int .u64 on, .string os] OpT) = W at *
  go_region_held3 (fun V => V.cell? ⟨mk, 0, none⟩ = some (.pointer (some ⟨a, 0, none⟩)) ∧ V.cell? ⟨w.heap.size, 0, none⟩ = some (.int .i64 oc) ∧ V.cell? ⟨w.heap.size, 1, none⟩ = some (.int .i64 oa) ∧ V.cell? ⟨w.heap.size, 2, none⟩ = some (.int .i64 ob) ∧ V.cell? ⟨w.heap.size, 3, none⟩ = some (.int .u64 on) ∧ V.cell? ⟨w.heap.size, 4, none⟩ = some (.string os)) ((first | exact HKQ.out _ (HG.out.hold HP1.out (by decide) (by decide)) (HG.out.hold HP1.out (by decide) (by decide)) (HG.out.hold HP1.out (by decide) (by decide)) | exact HKQ.out _ (Hold.below (by first | exact bd _ | exact bdn _ _)) (Hold.below (by first | exact bd _ | exact bdn _ _)) (Hold.below (by first | exact bd _ | exact bdn _ _))))
    ((first
      | ((with_reducible refine (HM.out _ (by first | exact bd _ | exact bdn _ _)).mono ?_); rintro e w5 ⟨rfl, g5⟩; have HG := Lib.hid (Grew.after HP1.out (bd W) g5))))
  go_wp2_with fail
  go_returns
  exact ⟨rfl, Grew.after HP0.out HA.out HG.out⟩
set_option maxRecDepth 100000 in
set_option maxHeartbeats 3200000 in
theorem code_2 (hp : IsPool w B a b v p) (hl : Laid w) (hk : Mk w Bm mk a kv mv g m) {oc oa ob on : Int} {os : ByteArray} (hn : 0 ≤ on ∧ on ≤ 18446744073709551615) : Calls Tryd.prog 88 #[.pointer (some ⟨mk, 0, none⟩), .agg #[.int .i64 oc, .int .i64 oa, .int .i64 ob, .int .u64 on, .string os]] w (DoPost w B a b v (mkP p ⟨2, 0, 0, on, emptyS, 0, 0⟩)) := by
  have bA := bZ w (.cells #[.int .i64 oc, .int .i64 oa, .int .i64 ob, .int .u64 on, .string os] OpT)
  have hz := heap_alloc_new w (.cells #[.int .i64 oc, .int .i64 oa, .int .i64 ob, .int .u64 on, .string os] OpT)
  have HP0 := Lib.hid hp
  have z0 := bcellAt bA (cellB (j := 0) hk.lay rfl)
  have hk0 := Hold.below bA _ _ hk.lay
  have hp1 := hp.below bA
  have HKQ := Lib.hid (fun (V : World) (h1 : Hold MakT (w.alloc (.cells #[.int .i64 oc, .int .i64 oa, .int .i64 ob, .int .u64 on, .string os] OpT)) V) (h2 : Hold OpT (w.alloc (.cells #[.int .i64 oc, .int .i64 oa, .int .i64 ob, .int .u64 on, .string os] OpT)) V) (h3 : Hold TermT (w.alloc (.cells #[.int .i64 oc, .int .i64 oa, .int .i64 ob, .int .u64 on, .string os] OpT)) V) => (show V.cell? ⟨mk, 0, none⟩ = some (.pointer (some ⟨a, 0, none⟩)) ∧ V.cell? ⟨w.heap.size, 0, none⟩ = some (.int .i64 oc) ∧ V.cell? ⟨w.heap.size, 1, none⟩ = some (.int .i64 oa) ∧ V.cell? ⟨w.heap.size, 2, none⟩ = some (.int .i64 ob) ∧ V.cell? ⟨w.heap.size, 3, none⟩ = some (.int .u64 on) ∧ V.cell? ⟨w.heap.size, 4, none⟩ = some (.string os) from ⟨cellB (j := 0) (h1 _ _ hk0) rfl, cellB (j := 0) (h2 _ _ hz) rfl, cellB (j := 1) (h2 _ _ hz) rfl, cellB (j := 2) (h2 _ _ hz) rfl, cellB (j := 3) (h2 _ _ hz) rfl, cellB (j := 4) (h2 _ _ hz) rfl⟩))
  have HM := Lib.hid (fun (W : World) (h : Below (w.alloc (.cells #[.int .i64 oc, .int .i64 oa, .int .i64 ob, .int .u64 on, .string os] OpT)).heap.size (w.alloc (.cells #[.int .i64 oc, .int .i64 oa, .int .i64 ob, .int .u64 on, .string os] OpT)) W) => pNum (hp1.below h) (hl.below (bmore bA h)) on hn)
  have HA := Lib.hid bA
  have HP1 := Lib.hid hp1
  clear hp hl hk hz bA hp1 z0 hk0
  go_enter Tryd.func88, Tryd.ntmps88
  go_wp2_with fail
  generalize w.alloc (.cells #[.int .i64 oc, .int .i64 oa, .int .i64 ob, .int .u64 on, .string os] OpT) = W at *
  go_region_held3 (fun V => V.cell? ⟨mk, 0, none⟩ = some (.pointer (some ⟨a, 0, none⟩)) ∧ V.cell? ⟨w.heap.size, 0, none⟩ = some (.int .i64 oc) ∧ V.cell? ⟨w.heap.size, 1, none⟩ = some (.int .i64 oa) ∧ V.cell? ⟨w.heap.size, 2, none⟩ = some (.int .i64 ob) ∧ V.cell? ⟨w.heap.size, 3, none⟩ = some (.int .u64 on) ∧ V.cell? ⟨w.heap.size, 4, none⟩ = some (.string os)) ((first | exact HKQ.out _ (HG.out.hold HP1.out (by decide) (by decide)) (HG.out.hold HP1.out (by decide) (by decide)) (HG.out.hold HP1.out (by decide) (by decide)) | exact HKQ.out _ (Hold.below (by first | exact bd _ | exact bdn _ _)) (Hold.below (by first | exact bd _ | exact bdn _ _)) (Hold.below (by first | exact bd _ | exact bdn _ _))))
    ((first
      | ((with_reducible refine (HM.out _ (by first | exact bd _ | exact bdn _ _)).mono ?_); rintro e w5 ⟨rfl, g5⟩; have HG := Lib.hid (Grew.after HP1.out (bd W) g5))))
  go_wp2_with fail
  go_returns
  exact ⟨rfl, Grew.after HP0.out HA.out HG.out⟩
set_option maxRecDepth 100000 in
set_option maxHeartbeats 3200000 in
theorem code_3 (hp : IsPool w B a b v p) (hl : Laid w) (hk : Mk w Bm mk a kv mv g m) {oc oa ob on : Int} {os : ByteArray} (hs : os.size ≤ maxLen) : Calls Tryd.prog 90 #[.pointer (some ⟨mk, 0, none⟩), .agg #[.int .i64 oc, .int .i64 oa, .int .i64 ob, .int .u64 on, .string os]] w (DoPost w B a b v (mkP p ⟨3, 0, 0, 0, os, 0, 0⟩)) := by
  have bA := bZ w (.cells #[.int .i64 oc, .int .i64 oa, .int .i64 ob, .int .u64 on, .string os] OpT)
  have hz := heap_alloc_new w (.cells #[.int .i64 oc, .int .i64 oa, .int .i64 ob, .int .u64 on, .string os] OpT)
  have HP0 := Lib.hid hp
  have z0 := bcellAt bA (cellB (j := 0) hk.lay rfl)
  have hk0 := Hold.below bA _ _ hk.lay
  have hp1 := hp.below bA
  have HKQ := Lib.hid (fun (V : World) (h1 : Hold MakT (w.alloc (.cells #[.int .i64 oc, .int .i64 oa, .int .i64 ob, .int .u64 on, .string os] OpT)) V) (h2 : Hold OpT (w.alloc (.cells #[.int .i64 oc, .int .i64 oa, .int .i64 ob, .int .u64 on, .string os] OpT)) V) (h3 : Hold TermT (w.alloc (.cells #[.int .i64 oc, .int .i64 oa, .int .i64 ob, .int .u64 on, .string os] OpT)) V) => (show V.cell? ⟨mk, 0, none⟩ = some (.pointer (some ⟨a, 0, none⟩)) ∧ V.cell? ⟨w.heap.size, 0, none⟩ = some (.int .i64 oc) ∧ V.cell? ⟨w.heap.size, 1, none⟩ = some (.int .i64 oa) ∧ V.cell? ⟨w.heap.size, 2, none⟩ = some (.int .i64 ob) ∧ V.cell? ⟨w.heap.size, 3, none⟩ = some (.int .u64 on) ∧ V.cell? ⟨w.heap.size, 4, none⟩ = some (.string os) from ⟨cellB (j := 0) (h1 _ _ hk0) rfl, cellB (j := 0) (h2 _ _ hz) rfl, cellB (j := 1) (h2 _ _ hz) rfl, cellB (j := 2) (h2 _ _ hz) rfl, cellB (j := 3) (h2 _ _ hz) rfl, cellB (j := 4) (h2 _ _ hz) rfl⟩))
  have HM := Lib.hid (fun (W : World) (h : Below (w.alloc (.cells #[.int .i64 oc, .int .i64 oa, .int .i64 ob, .int .u64 on, .string os] OpT)).heap.size (w.alloc (.cells #[.int .i64 oc, .int .i64 oa, .int .i64 ob, .int .u64 on, .string os] OpT)) W) => pData (hp1.below h) (hl.below (bmore bA h)) os hs)
  have HA := Lib.hid bA
  have HP1 := Lib.hid hp1
  clear hp hl hk hz bA hp1 z0 hk0
  go_enter Tryd.func90, Tryd.ntmps90
  go_wp2_with fail
  generalize w.alloc (.cells #[.int .i64 oc, .int .i64 oa, .int .i64 ob, .int .u64 on, .string os] OpT) = W at *
  go_region_held3 (fun V => V.cell? ⟨mk, 0, none⟩ = some (.pointer (some ⟨a, 0, none⟩)) ∧ V.cell? ⟨w.heap.size, 0, none⟩ = some (.int .i64 oc) ∧ V.cell? ⟨w.heap.size, 1, none⟩ = some (.int .i64 oa) ∧ V.cell? ⟨w.heap.size, 2, none⟩ = some (.int .i64 ob) ∧ V.cell? ⟨w.heap.size, 3, none⟩ = some (.int .u64 on) ∧ V.cell? ⟨w.heap.size, 4, none⟩ = some (.string os)) ((first | exact HKQ.out _ (HG.out.hold HP1.out (by decide) (by decide)) (HG.out.hold HP1.out (by decide) (by decide)) (HG.out.hold HP1.out (by decide) (by decide)) | exact HKQ.out _ (Hold.below (by first | exact bd _ | exact bdn _ _)) (Hold.below (by first | exact bd _ | exact bdn _ _)) (Hold.below (by first | exact bd _ | exact bdn _ _))))
    ((first
      | ((with_reducible refine (HM.out _ (by first | exact bd _ | exact bdn _ _)).mono ?_); rintro e w5 ⟨rfl, g5⟩; have HG := Lib.hid (Grew.after HP1.out (bd W) g5))))
  go_wp2_with fail
  go_returns
  exact ⟨rfl, Grew.after HP0.out HA.out HG.out⟩
set_option maxRecDepth 100000 in
set_option maxHeartbeats 3200000 in
theorem code_4 (hp : IsPool w B a b v p) (hl : Laid w) (hk : Mk w Bm mk a kv mv g m) {oc oa ob on : Int} {os : ByteArray} (hua : upB m oa = true) (hub : upB m ob = true) (hia : i64R (mdP m oa)) (hib : i64R (mdP m ob)) : Calls Tryd.prog 92 #[.pointer (some ⟨mk, 0, none⟩), .agg #[.int .i64 oc, .int .i64 oa, .int .i64 ob, .int .u64 on, .string os]] w (DoPost w B a b v (mkP p ⟨4, 0, 0, 0, emptyS, mdP m oa, mdP m ob⟩)) := by
  have bA := bZ w (.cells #[.int .i64 oc, .int .i64 oa, .int .i64 ob, .int .u64 on, .string os] OpT)
  have hz := heap_alloc_new w (.cells #[.int .i64 oc, .int .i64 oa, .int .i64 ob, .int .u64 on, .string os] OpT)
  have HP0 := Lib.hid hp
  have z0 := bcellAt bA (cellB (j := 0) hk.lay rfl)
  obtain ⟨na, mb, mo, mc, hea, hna, rfl, hca⟩ := hk.made hua
  subst hea
  obtain ⟨nb, mb2, mo2, mc2, heb, hnb, hmv, hcb⟩ := hk.made hub
  subst heb
  cases hmv
  have ha0 : (0 : Int) ≤ (na : Int) := by omega
  have ha1 : (na : Int) < (m.length : Int) := by omega
  have hb0 : (0 : Int) ≤ (nb : Int) := by omega
  have hb1 : (nb : Int) < (m.length : Int) := by omega
  have hk0 := Hold.below bA _ _ hk.lay
  have hp1 := hp.below bA
  have hkA := hk.below bA
  have hrow : ∀ (V : World), Hold TermT (w.alloc (.cells #[.int .i64 oc, .int .i64 (na : Int), .int .i64 (nb : Int), .int .u64 on, .string os] OpT)) V → ∀ {i : Int}, upB m i = true → ∀ {n : Nat}, i = (n : Int) → V.cell? ⟨mb, mo + n, none⟩ = some (.int .i64 (mdP m i)) := fun V h3 i hu n hi => by
    have h9 := own_hold hkA.mr h3
    obtain ⟨qa, qc, hqe, hqx⟩ := (row_of_own h9).at
    simp only [upB, Bool.and_eq_true, decide_eq_true_eq] at hu
    obtain ⟨gb, go, rfl, qq⟩ := hqx (by omega)
    cases hqe
    have hn : n < m.length := by omega
    have e : mdP m i = m[n] := by
      unfold mdP
      rw [hi, show ((n : Int)).toNat = n by omega, List.getD_eq_getElem?_getD, List.getElem?_eq_getElem hn, Option.getD_some]
    rw [e]
    exact qq n _ (ints_at m n hn)
  have HKQ := Lib.hid (fun (V : World) (h1 : Hold MakT (w.alloc (.cells #[.int .i64 oc, .int .i64 (na : Int), .int .i64 (nb : Int), .int .u64 on, .string os] OpT)) V) (h2 : Hold OpT (w.alloc (.cells #[.int .i64 oc, .int .i64 (na : Int), .int .i64 (nb : Int), .int .u64 on, .string os] OpT)) V) (h3 : Hold TermT (w.alloc (.cells #[.int .i64 oc, .int .i64 (na : Int), .int .i64 (nb : Int), .int .u64 on, .string os] OpT)) V) => (show V.cell? ⟨mk, 0, none⟩ = some (.pointer (some ⟨a, 0, none⟩)) ∧ V.cell? ⟨w.heap.size, 0, none⟩ = some (.int .i64 oc) ∧ V.cell? ⟨w.heap.size, 1, none⟩ = some (.int .i64 (na : Int)) ∧ V.cell? ⟨w.heap.size, 2, none⟩ = some (.int .i64 (nb : Int)) ∧ V.cell? ⟨w.heap.size, 3, none⟩ = some (.int .u64 on) ∧ V.cell? ⟨w.heap.size, 4, none⟩ = some (.string os) ∧ V.cell? ⟨mk, 2, none⟩ = some (.slice (some ⟨mb, mo, none⟩) m.length mc) ∧ V.cell? ⟨mb, mo + na, none⟩ = some (.int .i64 (mdP m (na : Int))) ∧ V.cell? ⟨mb, mo + nb, none⟩ = some (.int .i64 (mdP m (nb : Int))) from ⟨cellB (j := 0) (h1 _ _ hk0) rfl, cellB (j := 0) (h2 _ _ hz) rfl, cellB (j := 1) (h2 _ _ hz) rfl, cellB (j := 2) (h2 _ _ hz) rfl, cellB (j := 3) (h2 _ _ hz) rfl, cellB (j := 4) (h2 _ _ hz) rfl, cellB (j := 2) (h1 _ _ hk0) rfl, hrow V h3 hua rfl, hrow V h3 hub rfl⟩))
  have HM := Lib.hid (fun (W : World) (h : Below (w.alloc (.cells #[.int .i64 oc, .int .i64 (na : Int), .int .i64 (nb : Int), .int .u64 on, .string os] OpT)).heap.size (w.alloc (.cells #[.int .i64 oc, .int .i64 (na : Int), .int .i64 (nb : Int), .int .u64 on, .string os] OpT)) W) => pPair (hp1.below h) (hl.below (bmore bA h)) (mdP m (na : Int)) (mdP m (nb : Int)) ⟨hia, hib⟩)
  have HA := Lib.hid bA
  have HP1 := Lib.hid hp1
  clear hp hl hk hz bA hp1 z0 hk0 hrow hca hkA hua hub hcb
  generalize mdP m (na : Int) = ta at *
  generalize mdP m (nb : Int) = tb at *
  go_enter Tryd.func92, Tryd.ntmps92
  go_wp2_with fail
  generalize w.alloc (.cells #[.int .i64 oc, .int .i64 (na : Int), .int .i64 (nb : Int), .int .u64 on, .string os] OpT) = W at *
  go_region_held3 (fun V => V.cell? ⟨mk, 0, none⟩ = some (.pointer (some ⟨a, 0, none⟩)) ∧ V.cell? ⟨w.heap.size, 0, none⟩ = some (.int .i64 oc) ∧ V.cell? ⟨w.heap.size, 1, none⟩ = some (.int .i64 (na : Int)) ∧ V.cell? ⟨w.heap.size, 2, none⟩ = some (.int .i64 (nb : Int)) ∧ V.cell? ⟨w.heap.size, 3, none⟩ = some (.int .u64 on) ∧ V.cell? ⟨w.heap.size, 4, none⟩ = some (.string os) ∧ V.cell? ⟨mk, 2, none⟩ = some (.slice (some ⟨mb, mo, none⟩) m.length mc) ∧ V.cell? ⟨mb, mo + na, none⟩ = some (.int .i64 (ta)) ∧ V.cell? ⟨mb, mo + nb, none⟩ = some (.int .i64 (tb))) ((first | exact HKQ.out _ (HG.out.hold HP1.out (by decide) (by decide)) (HG.out.hold HP1.out (by decide) (by decide)) (HG.out.hold HP1.out (by decide) (by decide)) | exact HKQ.out _ (Hold.below (by first | exact bd _ | exact bdn _ _)) (Hold.below (by first | exact bd _ | exact bdn _ _)) (Hold.below (by first | exact bd _ | exact bdn _ _))))
    ((first
      | ((with_reducible refine (HM.out _ (by first | exact bd _ | exact bdn _ _)).mono ?_); rintro e w5 ⟨rfl, g5⟩; have HG := Lib.hid (Grew.after HP1.out (bd W) g5))))
  go_wp2_with fail
  go_returns
  exact ⟨rfl, Grew.after HP0.out HA.out HG.out⟩
set_option maxRecDepth 100000 in
set_option maxHeartbeats 3200000 in
theorem code_5 (hp : IsPool w B a b v p) (hl : Laid w) (hk : Mk w Bm mk a kv mv g m) {oc oa ob on : Int} {os : ByteArray} (hua : upB m oa = true) (hia : i64R (mdP m oa)) : Calls Tryd.prog 93 #[.pointer (some ⟨mk, 0, none⟩), .agg #[.int .i64 oc, .int .i64 oa, .int .i64 ob, .int .u64 on, .string os]] w (DoPost w B a b v (mkP p ⟨5, 0, 0, 0, emptyS, mdP m oa, 0⟩)) := by
  have bA := bZ w (.cells #[.int .i64 oc, .int .i64 oa, .int .i64 ob, .int .u64 on, .string os] OpT)
  have hz := heap_alloc_new w (.cells #[.int .i64 oc, .int .i64 oa, .int .i64 ob, .int .u64 on, .string os] OpT)
  have HP0 := Lib.hid hp
  have z0 := bcellAt bA (cellB (j := 0) hk.lay rfl)
  obtain ⟨na, mb, mo, mc, hea, hna, rfl, hca⟩ := hk.made hua
  subst hea
  have ha0 : (0 : Int) ≤ (na : Int) := by omega
  have ha1 : (na : Int) < (m.length : Int) := by omega
  have hk0 := Hold.below bA _ _ hk.lay
  have hp1 := hp.below bA
  have hkA := hk.below bA
  have hrow : ∀ (V : World), Hold TermT (w.alloc (.cells #[.int .i64 oc, .int .i64 (na : Int), .int .i64 ob, .int .u64 on, .string os] OpT)) V → ∀ {i : Int}, upB m i = true → ∀ {n : Nat}, i = (n : Int) → V.cell? ⟨mb, mo + n, none⟩ = some (.int .i64 (mdP m i)) := fun V h3 i hu n hi => by
    have h9 := own_hold hkA.mr h3
    obtain ⟨qa, qc, hqe, hqx⟩ := (row_of_own h9).at
    simp only [upB, Bool.and_eq_true, decide_eq_true_eq] at hu
    obtain ⟨gb, go, rfl, qq⟩ := hqx (by omega)
    cases hqe
    have hn : n < m.length := by omega
    have e : mdP m i = m[n] := by
      unfold mdP
      rw [hi, show ((n : Int)).toNat = n by omega, List.getD_eq_getElem?_getD, List.getElem?_eq_getElem hn, Option.getD_some]
    rw [e]
    exact qq n _ (ints_at m n hn)
  have HKQ := Lib.hid (fun (V : World) (h1 : Hold MakT (w.alloc (.cells #[.int .i64 oc, .int .i64 (na : Int), .int .i64 ob, .int .u64 on, .string os] OpT)) V) (h2 : Hold OpT (w.alloc (.cells #[.int .i64 oc, .int .i64 (na : Int), .int .i64 ob, .int .u64 on, .string os] OpT)) V) (h3 : Hold TermT (w.alloc (.cells #[.int .i64 oc, .int .i64 (na : Int), .int .i64 ob, .int .u64 on, .string os] OpT)) V) => (show V.cell? ⟨mk, 0, none⟩ = some (.pointer (some ⟨a, 0, none⟩)) ∧ V.cell? ⟨w.heap.size, 0, none⟩ = some (.int .i64 oc) ∧ V.cell? ⟨w.heap.size, 1, none⟩ = some (.int .i64 (na : Int)) ∧ V.cell? ⟨w.heap.size, 2, none⟩ = some (.int .i64 ob) ∧ V.cell? ⟨w.heap.size, 3, none⟩ = some (.int .u64 on) ∧ V.cell? ⟨w.heap.size, 4, none⟩ = some (.string os) ∧ V.cell? ⟨mk, 2, none⟩ = some (.slice (some ⟨mb, mo, none⟩) m.length mc) ∧ V.cell? ⟨mb, mo + na, none⟩ = some (.int .i64 (mdP m (na : Int))) from ⟨cellB (j := 0) (h1 _ _ hk0) rfl, cellB (j := 0) (h2 _ _ hz) rfl, cellB (j := 1) (h2 _ _ hz) rfl, cellB (j := 2) (h2 _ _ hz) rfl, cellB (j := 3) (h2 _ _ hz) rfl, cellB (j := 4) (h2 _ _ hz) rfl, cellB (j := 2) (h1 _ _ hk0) rfl, hrow V h3 hua rfl⟩))
  have HM := Lib.hid (fun (W : World) (h : Below (w.alloc (.cells #[.int .i64 oc, .int .i64 (na : Int), .int .i64 ob, .int .u64 on, .string os] OpT)).heap.size (w.alloc (.cells #[.int .i64 oc, .int .i64 (na : Int), .int .i64 ob, .int .u64 on, .string os] OpT)) W) => pHash (hp1.below h) (hl.below (bmore bA h)) (mdP m (na : Int)) hia)
  have HA := Lib.hid bA
  have HP1 := Lib.hid hp1
  clear hp hl hk hz bA hp1 z0 hk0 hrow hca hkA hua
  generalize mdP m (na : Int) = ta at *
  go_enter Tryd.func93, Tryd.ntmps93
  go_wp2_with fail
  generalize w.alloc (.cells #[.int .i64 oc, .int .i64 (na : Int), .int .i64 ob, .int .u64 on, .string os] OpT) = W at *
  go_region_held3 (fun V => V.cell? ⟨mk, 0, none⟩ = some (.pointer (some ⟨a, 0, none⟩)) ∧ V.cell? ⟨w.heap.size, 0, none⟩ = some (.int .i64 oc) ∧ V.cell? ⟨w.heap.size, 1, none⟩ = some (.int .i64 (na : Int)) ∧ V.cell? ⟨w.heap.size, 2, none⟩ = some (.int .i64 ob) ∧ V.cell? ⟨w.heap.size, 3, none⟩ = some (.int .u64 on) ∧ V.cell? ⟨w.heap.size, 4, none⟩ = some (.string os) ∧ V.cell? ⟨mk, 2, none⟩ = some (.slice (some ⟨mb, mo, none⟩) m.length mc) ∧ V.cell? ⟨mb, mo + na, none⟩ = some (.int .i64 (ta))) ((first | exact HKQ.out _ (HG.out.hold HP1.out (by decide) (by decide)) (HG.out.hold HP1.out (by decide) (by decide)) (HG.out.hold HP1.out (by decide) (by decide)) | exact HKQ.out _ (Hold.below (by first | exact bd _ | exact bdn _ _)) (Hold.below (by first | exact bd _ | exact bdn _ _)) (Hold.below (by first | exact bd _ | exact bdn _ _))))
    ((first
      | ((with_reducible refine (HM.out _ (by first | exact bd _ | exact bdn _ _)).mono ?_); rintro e w5 ⟨rfl, g5⟩; have HG := Lib.hid (Grew.after HP1.out (bd W) g5))))
  go_wp2_with fail
  go_returns
  exact ⟨rfl, Grew.after HP0.out HA.out HG.out⟩
set_option maxRecDepth 100000 in
set_option maxHeartbeats 3200000 in
theorem code_9 (hp : IsPool w B a b v p) (hl : Laid w) (hk : Mk w Bm mk a kv mv g m) {oc oa ob on : Int} {os : ByteArray} (hua : upB m oa = true) (hub : upB m ob = true) (hia : i64R (mdP m oa)) (hif : i64R (ndP p m ob).frm) : Calls Tryd.prog 102 #[.pointer (some ⟨mk, 0, none⟩), .agg #[.int .i64 oc, .int .i64 oa, .int .i64 ob, .int .u64 on, .string os]] w (DoPost w B a b v (mkP p ⟨7, (ndP p m ob).frm, 0, 0, emptyS, mdP m oa, 0⟩)) := by
  have bA := bZ w (.cells #[.int .i64 oc, .int .i64 oa, .int .i64 ob, .int .u64 on, .string os] OpT)
  have hz := heap_alloc_new w (.cells #[.int .i64 oc, .int .i64 oa, .int .i64 ob, .int .u64 on, .string os] OpT)
  have HP0 := Lib.hid hp
  have z0 := bcellAt bA (cellB (j := 0) hk.lay rfl)
  obtain ⟨na, mb, mo, mc, hea, hna, rfl, hca⟩ := hk.made hua
  subst hea
  have ha0 : (0 : Int) ≤ (na : Int) := by omega
  have ha1 : (na : Int) < (m.length : Int) := by omega
  have hk0 := Hold.below bA _ _ hk.lay
  have hp1 := hp.below bA
  have hkA := hk.below bA
  have hrow : ∀ (V : World), Hold TermT (w.alloc (.cells #[.int .i64 oc, .int .i64 (na : Int), .int .i64 ob, .int .u64 on, .string os] OpT)) V → ∀ {i : Int}, upB m i = true → ∀ {n : Nat}, i = (n : Int) → V.cell? ⟨mb, mo + n, none⟩ = some (.int .i64 (mdP m i)) := fun V h3 i hu n hi => by
    have h9 := own_hold hkA.mr h3
    obtain ⟨qa, qc, hqe, hqx⟩ := (row_of_own h9).at
    simp only [upB, Bool.and_eq_true, decide_eq_true_eq] at hu
    obtain ⟨gb, go, rfl, qq⟩ := hqx (by omega)
    cases hqe
    have hn : n < m.length := by omega
    have e : mdP m i = m[n] := by
      unfold mdP
      rw [hi, show ((n : Int)).toNat = n by omega, List.getD_eq_getElem?_getD, List.getElem?_eq_getElem hn, Option.getD_some]
    rw [e]
    exact qq n _ (ints_at m n hn)
  have HKQ := Lib.hid (fun (V : World) (h1 : Hold MakT (w.alloc (.cells #[.int .i64 oc, .int .i64 (na : Int), .int .i64 ob, .int .u64 on, .string os] OpT)) V) (h2 : Hold OpT (w.alloc (.cells #[.int .i64 oc, .int .i64 (na : Int), .int .i64 ob, .int .u64 on, .string os] OpT)) V) (h3 : Hold TermT (w.alloc (.cells #[.int .i64 oc, .int .i64 (na : Int), .int .i64 ob, .int .u64 on, .string os] OpT)) V) => (show V.cell? ⟨mk, 0, none⟩ = some (.pointer (some ⟨a, 0, none⟩)) ∧ V.cell? ⟨w.heap.size, 0, none⟩ = some (.int .i64 oc) ∧ V.cell? ⟨w.heap.size, 1, none⟩ = some (.int .i64 (na : Int)) ∧ V.cell? ⟨w.heap.size, 2, none⟩ = some (.int .i64 ob) ∧ V.cell? ⟨w.heap.size, 3, none⟩ = some (.int .u64 on) ∧ V.cell? ⟨w.heap.size, 4, none⟩ = some (.string os) ∧ V.cell? ⟨mk, 2, none⟩ = some (.slice (some ⟨mb, mo, none⟩) m.length mc) ∧ V.cell? ⟨mb, mo + na, none⟩ = some (.int .i64 (mdP m (na : Int))) from ⟨cellB (j := 0) (h1 _ _ hk0) rfl, cellB (j := 0) (h2 _ _ hz) rfl, cellB (j := 1) (h2 _ _ hz) rfl, cellB (j := 2) (h2 _ _ hz) rfl, cellB (j := 3) (h2 _ _ hz) rfl, cellB (j := 4) (h2 _ _ hz) rfl, cellB (j := 2) (h1 _ _ hk0) rfl, hrow V h3 hua rfl⟩))
  have HM := Lib.hid (fun (W : World) (h : Below (w.alloc (.cells #[.int .i64 oc, .int .i64 (na : Int), .int .i64 ob, .int .u64 on, .string os] OpT)).heap.size (w.alloc (.cells #[.int .i64 oc, .int .i64 (na : Int), .int .i64 ob, .int .u64 on, .string os] OpT)) W) => pSign (hp1.below h) (hl.below (bmore bA h)) (ndP p m ob).frm (mdP m (na : Int)) ⟨hif, hia⟩)
  have HN := Lib.hid (fun (W : World) (h : Below (w.alloc (.cells #[.int .i64 oc, .int .i64 (na : Int), .int .i64 ob, .int .u64 on, .string os] OpT)).heap.size (w.alloc (.cells #[.int .i64 oc, .int .i64 (na : Int), .int .i64 ob, .int .u64 on, .string os] OpT)) W) => node_any (hp1.below h) ((hk.below bA).below h) hub)
  have HA := Lib.hid bA
  have HP1 := Lib.hid hp1
  clear hp hl hk hz bA hp1 z0 hk0 hrow hca hkA hua hub
  generalize hnd : ndP p m ob = nd at *
  clear hnd
  obtain ⟨nk, nf, nt, nu, ns, nx, ny⟩ := nd
  simp only [nodeA] at HN
  generalize mdP m (na : Int) = ta at *
  have hf := fieldN_1
  go_enter Tryd.func102, Tryd.ntmps102
  go_wp2_with fail
  generalize w.alloc (.cells #[.int .i64 oc, .int .i64 (na : Int), .int .i64 ob, .int .u64 on, .string os] OpT) = W at *
  go_region_held3 (fun V => V.cell? ⟨mk, 0, none⟩ = some (.pointer (some ⟨a, 0, none⟩)) ∧ V.cell? ⟨w.heap.size, 0, none⟩ = some (.int .i64 oc) ∧ V.cell? ⟨w.heap.size, 1, none⟩ = some (.int .i64 (na : Int)) ∧ V.cell? ⟨w.heap.size, 2, none⟩ = some (.int .i64 ob) ∧ V.cell? ⟨w.heap.size, 3, none⟩ = some (.int .u64 on) ∧ V.cell? ⟨w.heap.size, 4, none⟩ = some (.string os) ∧ V.cell? ⟨mk, 2, none⟩ = some (.slice (some ⟨mb, mo, none⟩) m.length mc) ∧ V.cell? ⟨mb, mo + na, none⟩ = some (.int .i64 (ta))) ((first | exact HKQ.out _ (HG.out.hold HP1.out (by decide) (by decide)) (HG.out.hold HP1.out (by decide) (by decide)) (HG.out.hold HP1.out (by decide) (by decide)) | exact HKQ.out _ (Hold.below (by first | exact bd _ | exact bdn _ _ | exact bmore (bd _) u4)) (Hold.below (by first | exact bd _ | exact bdn _ _ | exact bmore (bd _) u4)) (Hold.below (by first | exact bd _ | exact bdn _ _ | exact bmore (bd _) u4))))
    ((first
      | ((with_reducible refine (HN.out _ (by first | exact bd _ | exact bdn _ _ | exact bmore (bd _) u4)).mono ?_); rintro e w4 ⟨rfl, u4⟩)
      | ((with_reducible refine (HM.out _ (by first | exact bmore (bd _) u4)).mono ?_); rintro e w5 ⟨rfl, g5⟩; have HG := Lib.hid (Grew.after HP1.out (bmore (bd W) u4) g5))))
  go_wp2_with fail
  go_returns
  exact ⟨rfl, Grew.after HP0.out HA.out HG.out⟩
set_option maxRecDepth 100000 in
set_option maxHeartbeats 3200000 in
theorem code_10 (hp : IsPool w B a b v p) (hl : Laid w) (hk : Mk w Bm mk a kv mv g m) {oc oa ob on : Int} {os : ByteArray} (hua : upB m oa = true) (hub : upB m ob = true) (hia : i64R (mdP m oa)) (hif : i64R (ndP p m ob).frm) (hn : 0 ≤ on ∧ on ≤ 18446744073709551615) : Calls Tryd.prog 104 #[.pointer (some ⟨mk, 0, none⟩), .agg #[.int .i64 oc, .int .i64 oa, .int .i64 ob, .int .u64 on, .string os]] w (DoPost w B a b v (mkP p ⟨8, (ndP p m ob).frm, nmP on, 0, emptyS, mdP m oa, 0⟩)) := by
  have bA := bZ w (.cells #[.int .i64 oc, .int .i64 oa, .int .i64 ob, .int .u64 on, .string os] OpT)
  have hz := heap_alloc_new w (.cells #[.int .i64 oc, .int .i64 oa, .int .i64 ob, .int .u64 on, .string os] OpT)
  have HP0 := Lib.hid hp
  have z0 := bcellAt bA (cellB (j := 0) hk.lay rfl)
  obtain ⟨na, mb, mo, mc, hea, hna, rfl, hca⟩ := hk.made hua
  subst hea
  have ha0 : (0 : Int) ≤ (na : Int) := by omega
  have ha1 : (na : Int) < (m.length : Int) := by omega
  have hk0 := Hold.below bA _ _ hk.lay
  have hp1 := hp.below bA
  have hkA := hk.below bA
  have hrow : ∀ (V : World), Hold TermT (w.alloc (.cells #[.int .i64 oc, .int .i64 (na : Int), .int .i64 ob, .int .u64 on, .string os] OpT)) V → ∀ {i : Int}, upB m i = true → ∀ {n : Nat}, i = (n : Int) → V.cell? ⟨mb, mo + n, none⟩ = some (.int .i64 (mdP m i)) := fun V h3 i hu n hi => by
    have h9 := own_hold hkA.mr h3
    obtain ⟨qa, qc, hqe, hqx⟩ := (row_of_own h9).at
    simp only [upB, Bool.and_eq_true, decide_eq_true_eq] at hu
    obtain ⟨gb, go, rfl, qq⟩ := hqx (by omega)
    cases hqe
    have hn : n < m.length := by omega
    have e : mdP m i = m[n] := by
      unfold mdP
      rw [hi, show ((n : Int)).toNat = n by omega, List.getD_eq_getElem?_getD, List.getElem?_eq_getElem hn, Option.getD_some]
    rw [e]
    exact qq n _ (ints_at m n hn)
  have HKQ := Lib.hid (fun (V : World) (h1 : Hold MakT (w.alloc (.cells #[.int .i64 oc, .int .i64 (na : Int), .int .i64 ob, .int .u64 on, .string os] OpT)) V) (h2 : Hold OpT (w.alloc (.cells #[.int .i64 oc, .int .i64 (na : Int), .int .i64 ob, .int .u64 on, .string os] OpT)) V) (h3 : Hold TermT (w.alloc (.cells #[.int .i64 oc, .int .i64 (na : Int), .int .i64 ob, .int .u64 on, .string os] OpT)) V) => (show V.cell? ⟨mk, 0, none⟩ = some (.pointer (some ⟨a, 0, none⟩)) ∧ V.cell? ⟨w.heap.size, 0, none⟩ = some (.int .i64 oc) ∧ V.cell? ⟨w.heap.size, 1, none⟩ = some (.int .i64 (na : Int)) ∧ V.cell? ⟨w.heap.size, 2, none⟩ = some (.int .i64 ob) ∧ V.cell? ⟨w.heap.size, 3, none⟩ = some (.int .u64 on) ∧ V.cell? ⟨w.heap.size, 4, none⟩ = some (.string os) ∧ V.cell? ⟨mk, 2, none⟩ = some (.slice (some ⟨mb, mo, none⟩) m.length mc) ∧ V.cell? ⟨mb, mo + na, none⟩ = some (.int .i64 (mdP m (na : Int))) from ⟨cellB (j := 0) (h1 _ _ hk0) rfl, cellB (j := 0) (h2 _ _ hz) rfl, cellB (j := 1) (h2 _ _ hz) rfl, cellB (j := 2) (h2 _ _ hz) rfl, cellB (j := 3) (h2 _ _ hz) rfl, cellB (j := 4) (h2 _ _ hz) rfl, cellB (j := 2) (h1 _ _ hk0) rfl, hrow V h3 hua rfl⟩))
  have HM := Lib.hid (fun (W : World) (h : Below (w.alloc (.cells #[.int .i64 oc, .int .i64 (na : Int), .int .i64 ob, .int .u64 on, .string os] OpT)).heap.size (w.alloc (.cells #[.int .i64 oc, .int .i64 (na : Int), .int .i64 ob, .int .u64 on, .string os] OpT)) W) => pProm (hp1.below h) (hl.below (bmore bA h)) (ndP p m ob).frm (nmP on) (mdP m (na : Int)) ⟨hif, nm_i64 hn, hia⟩)
  have HN := Lib.hid (fun (W : World) (h : Below (w.alloc (.cells #[.int .i64 oc, .int .i64 (na : Int), .int .i64 ob, .int .u64 on, .string os] OpT)).heap.size (w.alloc (.cells #[.int .i64 oc, .int .i64 (na : Int), .int .i64 ob, .int .u64 on, .string os] OpT)) W) => node_any (hp1.below h) ((hk.below bA).below h) hub)
  have HNM := Lib.hid (fun (W : World) => nameOf_any hn W)
  have HA := Lib.hid bA
  have HP1 := Lib.hid hp1
  clear hp hl hk hz bA hp1 z0 hk0 hrow hca hkA hua hub
  generalize hnd : ndP p m ob = nd at *
  clear hnd
  obtain ⟨nk, nf, nt, nu, ns, nx, ny⟩ := nd
  simp only [nodeA] at HN
  generalize mdP m (na : Int) = ta at *
  generalize nmP on = tn at *
  have hf := fieldN_1
  go_enter Tryd.func104, Tryd.ntmps104
  go_wp2_with fail
  generalize w.alloc (.cells #[.int .i64 oc, .int .i64 (na : Int), .int .i64 ob, .int .u64 on, .string os] OpT) = W at *
  go_region_held3 (fun V => V.cell? ⟨mk, 0, none⟩ = some (.pointer (some ⟨a, 0, none⟩)) ∧ V.cell? ⟨w.heap.size, 0, none⟩ = some (.int .i64 oc) ∧ V.cell? ⟨w.heap.size, 1, none⟩ = some (.int .i64 (na : Int)) ∧ V.cell? ⟨w.heap.size, 2, none⟩ = some (.int .i64 ob) ∧ V.cell? ⟨w.heap.size, 3, none⟩ = some (.int .u64 on) ∧ V.cell? ⟨w.heap.size, 4, none⟩ = some (.string os) ∧ V.cell? ⟨mk, 2, none⟩ = some (.slice (some ⟨mb, mo, none⟩) m.length mc) ∧ V.cell? ⟨mb, mo + na, none⟩ = some (.int .i64 (ta))) ((first | exact HKQ.out _ (HG.out.hold HP1.out (by decide) (by decide)) (HG.out.hold HP1.out (by decide) (by decide)) (HG.out.hold HP1.out (by decide) (by decide)) | exact HKQ.out _ (Hold.below (by first | exact bd _ | exact bdn _ _ | exact bmore (bd _) u4)) (Hold.below (by first | exact bd _ | exact bdn _ _ | exact bmore (bd _) u4)) (Hold.below (by first | exact bd _ | exact bdn _ _ | exact bmore (bd _) u4))))
    ((first
      | ((with_reducible refine (HNM.out _).mono ?_); rintro e w3 ⟨rfl, rfl⟩)
      | ((with_reducible refine (HN.out _ (by first | exact bd _ | exact bdn _ _ | exact bmore (bd _) u4)).mono ?_); rintro e w4 ⟨rfl, u4⟩)
      | ((with_reducible refine (HM.out _ (by first | exact bmore (bd _) u4)).mono ?_); rintro e w5 ⟨rfl, g5⟩; have HG := Lib.hid (Grew.after HP1.out (bmore (bd W) u4) g5))))
  go_wp2_with fail
  go_returns
  exact ⟨rfl, Grew.after HP0.out HA.out HG.out⟩
set_option maxRecDepth 100000 in
set_option maxHeartbeats 3200000 in
theorem code_11 (hp : IsPool w B a b v p) (hl : Laid w) (hk : Mk w Bm mk a kv mv g m) {oc oa ob on : Int} {os : ByteArray} (hua : upB m oa = true) (hub : upB m ob = true) (hia : i64R (mdP m oa)) (hif : i64R (ndP p m ob).frm) (hn : 0 ≤ on ∧ on ≤ 18446744073709551615) : Calls Tryd.prog 107 #[.pointer (some ⟨mk, 0, none⟩), .agg #[.int .i64 oc, .int .i64 oa, .int .i64 ob, .int .u64 on, .string os]] w (DoPost w B a b v (mkP p ⟨9, nmP on, (ndP p m ob).frm, 0, emptyS, mdP m oa, 0⟩)) := by
  have bA := bZ w (.cells #[.int .i64 oc, .int .i64 oa, .int .i64 ob, .int .u64 on, .string os] OpT)
  have hz := heap_alloc_new w (.cells #[.int .i64 oc, .int .i64 oa, .int .i64 ob, .int .u64 on, .string os] OpT)
  have HP0 := Lib.hid hp
  have z0 := bcellAt bA (cellB (j := 0) hk.lay rfl)
  obtain ⟨na, mb, mo, mc, hea, hna, rfl, hca⟩ := hk.made hua
  subst hea
  have ha0 : (0 : Int) ≤ (na : Int) := by omega
  have ha1 : (na : Int) < (m.length : Int) := by omega
  have hk0 := Hold.below bA _ _ hk.lay
  have hp1 := hp.below bA
  have hkA := hk.below bA
  have hrow : ∀ (V : World), Hold TermT (w.alloc (.cells #[.int .i64 oc, .int .i64 (na : Int), .int .i64 ob, .int .u64 on, .string os] OpT)) V → ∀ {i : Int}, upB m i = true → ∀ {n : Nat}, i = (n : Int) → V.cell? ⟨mb, mo + n, none⟩ = some (.int .i64 (mdP m i)) := fun V h3 i hu n hi => by
    have h9 := own_hold hkA.mr h3
    obtain ⟨qa, qc, hqe, hqx⟩ := (row_of_own h9).at
    simp only [upB, Bool.and_eq_true, decide_eq_true_eq] at hu
    obtain ⟨gb, go, rfl, qq⟩ := hqx (by omega)
    cases hqe
    have hn : n < m.length := by omega
    have e : mdP m i = m[n] := by
      unfold mdP
      rw [hi, show ((n : Int)).toNat = n by omega, List.getD_eq_getElem?_getD, List.getElem?_eq_getElem hn, Option.getD_some]
    rw [e]
    exact qq n _ (ints_at m n hn)
  have HKQ := Lib.hid (fun (V : World) (h1 : Hold MakT (w.alloc (.cells #[.int .i64 oc, .int .i64 (na : Int), .int .i64 ob, .int .u64 on, .string os] OpT)) V) (h2 : Hold OpT (w.alloc (.cells #[.int .i64 oc, .int .i64 (na : Int), .int .i64 ob, .int .u64 on, .string os] OpT)) V) (h3 : Hold TermT (w.alloc (.cells #[.int .i64 oc, .int .i64 (na : Int), .int .i64 ob, .int .u64 on, .string os] OpT)) V) => (show V.cell? ⟨mk, 0, none⟩ = some (.pointer (some ⟨a, 0, none⟩)) ∧ V.cell? ⟨w.heap.size, 0, none⟩ = some (.int .i64 oc) ∧ V.cell? ⟨w.heap.size, 1, none⟩ = some (.int .i64 (na : Int)) ∧ V.cell? ⟨w.heap.size, 2, none⟩ = some (.int .i64 ob) ∧ V.cell? ⟨w.heap.size, 3, none⟩ = some (.int .u64 on) ∧ V.cell? ⟨w.heap.size, 4, none⟩ = some (.string os) ∧ V.cell? ⟨mk, 2, none⟩ = some (.slice (some ⟨mb, mo, none⟩) m.length mc) ∧ V.cell? ⟨mb, mo + na, none⟩ = some (.int .i64 (mdP m (na : Int))) from ⟨cellB (j := 0) (h1 _ _ hk0) rfl, cellB (j := 0) (h2 _ _ hz) rfl, cellB (j := 1) (h2 _ _ hz) rfl, cellB (j := 2) (h2 _ _ hz) rfl, cellB (j := 3) (h2 _ _ hz) rfl, cellB (j := 4) (h2 _ _ hz) rfl, cellB (j := 2) (h1 _ _ hk0) rfl, hrow V h3 hua rfl⟩))
  have HM := Lib.hid (fun (W : World) (h : Below (w.alloc (.cells #[.int .i64 oc, .int .i64 (na : Int), .int .i64 ob, .int .u64 on, .string os] OpT)).heap.size (w.alloc (.cells #[.int .i64 oc, .int .i64 (na : Int), .int .i64 ob, .int .u64 on, .string os] OpT)) W) => pFake (hp1.below h) (hl.below (bmore bA h)) (nmP on) (ndP p m ob).frm (mdP m (na : Int)) ⟨nm_i64 hn, hif, hia⟩)
  have HN := Lib.hid (fun (W : World) (h : Below (w.alloc (.cells #[.int .i64 oc, .int .i64 (na : Int), .int .i64 ob, .int .u64 on, .string os] OpT)).heap.size (w.alloc (.cells #[.int .i64 oc, .int .i64 (na : Int), .int .i64 ob, .int .u64 on, .string os] OpT)) W) => node_any (hp1.below h) ((hk.below bA).below h) hub)
  have HNM := Lib.hid (fun (W : World) => nameOf_any hn W)
  have HA := Lib.hid bA
  have HP1 := Lib.hid hp1
  clear hp hl hk hz bA hp1 z0 hk0 hrow hca hkA hua hub
  generalize hnd : ndP p m ob = nd at *
  clear hnd
  obtain ⟨nk, nf, nt, nu, ns, nx, ny⟩ := nd
  simp only [nodeA] at HN
  generalize mdP m (na : Int) = ta at *
  generalize nmP on = tn at *
  have hf := fieldN_1
  go_enter Tryd.func107, Tryd.ntmps107
  go_wp2_with fail
  generalize w.alloc (.cells #[.int .i64 oc, .int .i64 (na : Int), .int .i64 ob, .int .u64 on, .string os] OpT) = W at *
  go_region_held3 (fun V => V.cell? ⟨mk, 0, none⟩ = some (.pointer (some ⟨a, 0, none⟩)) ∧ V.cell? ⟨w.heap.size, 0, none⟩ = some (.int .i64 oc) ∧ V.cell? ⟨w.heap.size, 1, none⟩ = some (.int .i64 (na : Int)) ∧ V.cell? ⟨w.heap.size, 2, none⟩ = some (.int .i64 ob) ∧ V.cell? ⟨w.heap.size, 3, none⟩ = some (.int .u64 on) ∧ V.cell? ⟨w.heap.size, 4, none⟩ = some (.string os) ∧ V.cell? ⟨mk, 2, none⟩ = some (.slice (some ⟨mb, mo, none⟩) m.length mc) ∧ V.cell? ⟨mb, mo + na, none⟩ = some (.int .i64 (ta))) ((first | exact HKQ.out _ (HG.out.hold HP1.out (by decide) (by decide)) (HG.out.hold HP1.out (by decide) (by decide)) (HG.out.hold HP1.out (by decide) (by decide)) | exact HKQ.out _ (Hold.below (by first | exact bd _ | exact bdn _ _ | exact bmore (bd _) u4)) (Hold.below (by first | exact bd _ | exact bdn _ _ | exact bmore (bd _) u4)) (Hold.below (by first | exact bd _ | exact bdn _ _ | exact bmore (bd _) u4))))
    ((first
      | ((with_reducible refine (HNM.out _).mono ?_); rintro e w3 ⟨rfl, rfl⟩)
      | ((with_reducible refine (HN.out _ (by first | exact bd _ | exact bdn _ _ | exact bmore (bd _) u4)).mono ?_); rintro e w4 ⟨rfl, u4⟩)
      | ((with_reducible refine (HM.out _ (by first | exact bmore (bd _) u4)).mono ?_); rintro e w5 ⟨rfl, g5⟩; have HG := Lib.hid (Grew.after HP1.out (bmore (bd W) u4) g5))))
  go_wp2_with fail
  go_returns
  exact ⟨rfl, Grew.after HP0.out HA.out HG.out⟩
set_option maxRecDepth 100000 in
set_option maxHeartbeats 3200000 in
theorem code_6 (hp : IsPool w B a b v p) (hl : Laid w) (hk : Mk w Bm mk a kv mv g m) {oc oa ob on : Int} {os : ByteArray} (hua : upB m oa = true) : Calls Tryd.prog 96 #[.pointer (some ⟨mk, 0, none⟩), .agg #[.int .i64 oc, .int .i64 oa, .int .i64 ob, .int .u64 on, .string os]] w (DoPost w B a b v (((ndP p m oa).a, 0, p))) := by
  have bA := bZ w (.cells #[.int .i64 oc, .int .i64 oa, .int .i64 ob, .int .u64 on, .string os] OpT)
  have hz := heap_alloc_new w (.cells #[.int .i64 oc, .int .i64 oa, .int .i64 ob, .int .u64 on, .string os] OpT)
  have HP0 := Lib.hid hp
  have HN := Lib.hid (fun (W : World) (h : Below (w.alloc (.cells #[.int .i64 oc, .int .i64 oa, .int .i64 ob, .int .u64 on, .string os] OpT)).heap.size (w.alloc (.cells #[.int .i64 oc, .int .i64 oa, .int .i64 ob, .int .u64 on, .string os] OpT)) W) => node_any ((hp.below bA).below h) ((hk.below bA).below h) hua)
  have y1 := cellB (j := 1) hz rfl
  have HA := Lib.hid bA
  clear hp hl hk hz bA hua
  generalize ndP p m oa = nd at *
  obtain ⟨nk, nf, nt, nu, ns, nx, ny⟩ := nd
  simp only [nodeA] at HN
  have hf5 := fieldN_5
  have hf6 := fieldN_6
  go_enter Tryd.func96, Tryd.ntmps96
  go_wp2_with fail
  refine (HN.out _ (Below.refl _ _)).mono ?_
  rintro e w1 ⟨rfl, u1⟩
  have U1 := Lib.hid (bmore HA.out u1)
  clear u1 y1
  go_wp2_with fail
  go_returns
  exact ⟨rfl, Grew.same HP0.out U1.out⟩
set_option maxRecDepth 100000 in
set_option maxHeartbeats 3200000 in
theorem code_7 (hp : IsPool w B a b v p) (hl : Laid w) (hk : Mk w Bm mk a kv mv g m) {oc oa ob on : Int} {os : ByteArray} (hua : upB m oa = true) : Calls Tryd.prog 98 #[.pointer (some ⟨mk, 0, none⟩), .agg #[.int .i64 oc, .int .i64 oa, .int .i64 ob, .int .u64 on, .string os]] w (DoPost w B a b v (((ndP p m oa).b, 0, p))) := by
  have bA := bZ w (.cells #[.int .i64 oc, .int .i64 oa, .int .i64 ob, .int .u64 on, .string os] OpT)
  have hz := heap_alloc_new w (.cells #[.int .i64 oc, .int .i64 oa, .int .i64 ob, .int .u64 on, .string os] OpT)
  have HP0 := Lib.hid hp
  have HN := Lib.hid (fun (W : World) (h : Below (w.alloc (.cells #[.int .i64 oc, .int .i64 oa, .int .i64 ob, .int .u64 on, .string os] OpT)).heap.size (w.alloc (.cells #[.int .i64 oc, .int .i64 oa, .int .i64 ob, .int .u64 on, .string os] OpT)) W) => node_any ((hp.below bA).below h) ((hk.below bA).below h) hua)
  have y1 := cellB (j := 1) hz rfl
  have HA := Lib.hid bA
  clear hp hl hk hz bA hua
  generalize ndP p m oa = nd at *
  obtain ⟨nk, nf, nt, nu, ns, nx, ny⟩ := nd
  simp only [nodeA] at HN
  have hf5 := fieldN_5
  have hf6 := fieldN_6
  go_enter Tryd.func98, Tryd.ntmps98
  go_wp2_with fail
  refine (HN.out _ (Below.refl _ _)).mono ?_
  rintro e w1 ⟨rfl, u1⟩
  have U1 := Lib.hid (bmore HA.out u1)
  clear u1 y1
  go_wp2_with fail
  go_returns
  exact ⟨rfl, Grew.same HP0.out U1.out⟩
set_option maxRecDepth 100000 in
set_option maxHeartbeats 3200000 in
theorem code_8 (hp : IsPool w B a b v p) (hl : Laid w) (hk : Mk w Bm mk a kv mv g m) {oc oa ob on : Int} {os : ByteArray} (hua : upB m oa = true) : Calls Tryd.prog 100 #[.pointer (some ⟨mk, 0, none⟩), .agg #[.int .i64 oc, .int .i64 oa, .int .i64 ob, .int .u64 on, .string os]] w (DoPost w B a b v (((ndP p m oa).a, 0, p))) := by
  have bA := bZ w (.cells #[.int .i64 oc, .int .i64 oa, .int .i64 ob, .int .u64 on, .string os] OpT)
  have hz := heap_alloc_new w (.cells #[.int .i64 oc, .int .i64 oa, .int .i64 ob, .int .u64 on, .string os] OpT)
  have HP0 := Lib.hid hp
  have HN := Lib.hid (fun (W : World) (h : Below (w.alloc (.cells #[.int .i64 oc, .int .i64 oa, .int .i64 ob, .int .u64 on, .string os] OpT)).heap.size (w.alloc (.cells #[.int .i64 oc, .int .i64 oa, .int .i64 ob, .int .u64 on, .string os] OpT)) W) => node_any ((hp.below bA).below h) ((hk.below bA).below h) hua)
  have y1 := cellB (j := 1) hz rfl
  have HA := Lib.hid bA
  clear hp hl hk hz bA hua
  generalize ndP p m oa = nd at *
  obtain ⟨nk, nf, nt, nu, ns, nx, ny⟩ := nd
  simp only [nodeA] at HN
  have hf5 := fieldN_5
  have hf6 := fieldN_6
  go_enter Tryd.func100, Tryd.ntmps100
  go_wp2_with fail
  refine (HN.out _ (Below.refl _ _)).mono ?_
  rintro e w1 ⟨rfl, u1⟩
  have U1 := Lib.hid (bmore HA.out u1)
  clear u1 y1
  go_wp2_with fail
  go_returns
  exact ⟨rfl, Grew.same HP0.out U1.out⟩
end
end Go.Proofs.YtjpkeoenajlmeaaDoor
namespace Go.Proofs.YtjpkeoenajlmeaaDoor
open Go.RowKit Go.Maps
set_option linter.unusedVariables false

theorem eqm_nil (W : World) : (binOp .eql 143 .nilFunc .nilFunc).run Tryd.prog W = .ok (.bool true) W := by kernel_rfl
theorem eqm_fn (f : Nat) (W : World) : (binOp .eql 143 (.func (.func f) #[] #[]) .nilFunc).run Tryd.prog W = .ok (.bool false) W := by kernel_rfl
theorem two_boxes (w : World) (o0 o1 : Obj) : Below w.heap.size w ((w.alloc o0).alloc o1) ∧ ((w.alloc o0).alloc o1).heap[w.heap.size]? = some o0 ∧ ((w.alloc o0).alloc o1).heap[w.heap.size + 1]? = some o1 := by
  refine ⟨((Below.refl _ _).alloc (Nat.le_refl _) _).alloc (by simp) _, ?_, ?_⟩
  all_goals
    simp only [show ∀ (W : World) (o : Obj), (W.alloc o).heap = W.heap.push o from fun _ _ => rfl, Array.getElem?_push, Array.size_push]
    repeat (first | rw [if_pos rfl] | rw [if_neg (by omega)])
    try simp
theorem nd_i64 {w : World} {B a b : Nat} {v : Value} {p : Pl} (h : IsPool w B a b v p) (t : Int) : NdOk (atP p t).1 := by
  cases hin : inP p t with
  | false => rw [atP_out hin]; exact ⟨(by unfold i64R zeroM zeroN; simp), (by unfold i64R zeroM zeroN; simp), (by unfold i64R zeroM zeroN; simp), (by unfold zeroM zeroN; simp), (by decide), (by unfold i64R zeroM zeroN; simp), (by unfold i64R zeroM zeroN; simp)⟩
  | true =>
    simp only [inP, Bool.and_eq_true, decide_eq_true_eq] at hin
    obtain ⟨i, rfl⟩ : ∃ i : Nat, t = (i : Int) + 1 := ⟨(t - 1).toNat, by omega⟩
    rw [getD_at (show i < p.length by omega)]
    exact h.nok _ (List.getElem_mem _)
section
variable {w : World} {B a b : Nat} {v : Value} {p : Pl} {Bm mk : Nat} {kv mv : Value} {g m : List Int}
set_option maxRecDepth 100000 in
set_option maxHeartbeats 3200000 in
theorem do_0 (hp : IsPool w B a b v p) (hl : Laid w) (hk : Mk w Bm mk a kv mv g m) (hmi : ∀ x ∈ m, i64R x) {oc oa ob on : Int} {os : ByteArray} (hoa : i64R oa) (hon : 0 ≤ on ∧ on ≤ 18446744073709551615) (hos : os.size ≤ maxLen) : Calls Tryd.prog 75 #[.pointer (some ⟨mk, 0, none⟩), .agg #[.nilFunc, .nilFunc, .func (.func 85) #[] #[]], .agg #[.int .i64 oc, .int .i64 oa, .int .i64 ob, .int .u64 on, .string os]] w (DoPost w B a b v (doP p g m ⟨0, oa, ob, on, os⟩)) := by
  obtain ⟨bA, hx, hy⟩ := two_boxes w (.cells #[.nilFunc, .nilFunc, .func (.func 85) #[] #[]] CodeT) (.cells #[.int .i64 oc, .int .i64 oa, .int .i64 ob, .int .u64 on, .string os] OpT)
  have x0 := cellB (j := 0) hx rfl
  have x1 := cellB (j := 1) hx rfl
  have x2 := cellB (j := 2) hx rfl
  have y0 := cellB (j := 0) hy rfl
  have y1 := cellB (j := 1) hy rfl
  have y2 := cellB (j := 2) hy rfl
  have y3 := cellB (j := 3) hy rfl
  have y4 := cellB (j := 4) hy rfl
  have HP := Lib.hid (hp.below bA)
  have HL := Lib.hid (hl.below bA)
  have HK := Lib.hid (hk.below bA)
  have HA := Lib.hid bA
  have HP0 := Lib.hid hp
  have HMI := Lib.hid hmi
  have HON := Lib.hid hon
  have HOS := Lib.hid hos
  have HOA := Lib.hid hoa
  have hq := eqm_fn 85
  clear hp hl hk hx hy bA hmi hon hos hoa
  obtain ⟨r, hr⟩ : ∃ r, r = doP p g m ⟨0, oa, ob, on, os⟩ := ⟨_, rfl⟩
  rw [← hr]
  rw [show doP p g m ⟨0, oa, ob, on, os⟩ = (if upB g oa = true then (mdP g oa, 0, p) else noP p) from rfl] at hr
  have HR := Lib.hid hr
  clear hr
  go_enter Tryd.func75, Tryd.ntmps75
  go_wp2_with fail
  generalize ((w.alloc (.cells #[.nilFunc, .nilFunc, .func (.func 85) #[] #[]] CodeT)).alloc (.cells #[.int .i64 oc, .int .i64 oa, .int .i64 ob, .int .u64 on, .string os] OpT)) = W at *
  have HC := Lib.hid (show W.cell? ⟨w.heap.size, 0, none⟩ = some (.nilFunc) ∧ W.cell? ⟨w.heap.size, 1, none⟩ = some (.nilFunc) ∧ W.cell? ⟨w.heap.size, 2, none⟩ = some (.func (.func 85) #[] #[]) ∧ W.cell? ⟨w.heap.size + 1, 0, none⟩ = some (.int .i64 oc) ∧ W.cell? ⟨w.heap.size + 1, 1, none⟩ = some (.int .i64 oa) ∧ W.cell? ⟨w.heap.size + 1, 2, none⟩ = some (.int .i64 ob) ∧ W.cell? ⟨w.heap.size + 1, 3, none⟩ = some (.int .u64 on) ∧ W.cell? ⟨w.heap.size + 1, 4, none⟩ = some (.string os) from ⟨x0, x1, x2, y0, y1, y2, y3, y4⟩)
  refine (fits_nil (mk := mk) oa _).mono ?_
  rintro e w1 ⟨rfl, hu⟩
  have UA := Lib.hid hu
  clear hu
  clear x0 x1 x2 y0 y1 y2 y3 y4
  have x0 := bcellAt UA.out HC.out.1
  have x1 := bcellAt UA.out HC.out.2.1
  have x2 := bcellAt UA.out HC.out.2.2.1
  have y0 := bcellAt UA.out HC.out.2.2.2.1
  have y1 := bcellAt UA.out HC.out.2.2.2.2.1
  have y2 := bcellAt UA.out HC.out.2.2.2.2.2.1
  have y3 := bcellAt UA.out HC.out.2.2.2.2.2.2.1
  have y4 := bcellAt UA.out HC.out.2.2.2.2.2.2.2
  go_wp2_with fail
  refine (fits_nil (mk := mk) ob _).mono ?_
  rintro e w2 ⟨rfl, hu⟩
  have UB := Lib.hid (bmore UA.out hu)
  clear hu
  clear x0 x1 x2 y0 y1 y2 y3 y4
  have x0 := bcellAt UB.out HC.out.1
  have x1 := bcellAt UB.out HC.out.2.1
  have x2 := bcellAt UB.out HC.out.2.2.1
  have y0 := bcellAt UB.out HC.out.2.2.2.1
  have y1 := bcellAt UB.out HC.out.2.2.2.2.1
  have y2 := bcellAt UB.out HC.out.2.2.2.2.2.1
  have y3 := bcellAt UB.out HC.out.2.2.2.2.2.2.1
  have y4 := bcellAt UB.out HC.out.2.2.2.2.2.2.2
  go_wp2_with fail
  refine (code_0 (oc := oc) (HP.out.below UB.out) (HL.out.below UB.out) (HK.out.below UB.out) ).mono ?_
  rintro e w9 hp9
  have er := HR.out
  rw [← er] at hp9
  obtain ⟨rfl, g9⟩ := hp9
  have HG := Lib.hid (Grew.after HP0.out (bmore HA.out UB.out) g9)
  clear g9 er HR
  go_wp2_with fail
  go_returns
  exact ⟨rfl, HG.out⟩
set_option maxRecDepth 100000 in
set_option maxHeartbeats 3200000 in
theorem do_1 (hp : IsPool w B a b v p) (hl : Laid w) (hk : Mk w Bm mk a kv mv g m) (hmi : ∀ x ∈ m, i64R x) {oc oa ob on : Int} {os : ByteArray} (hoa : i64R oa) (hon : 0 ≤ on ∧ on ≤ 18446744073709551615) (hos : os.size ≤ maxLen) : Calls Tryd.prog 75 #[.pointer (some ⟨mk, 0, none⟩), .agg #[.nilFunc, .nilFunc, .func (.func 87) #[] #[]], .agg #[.int .i64 oc, .int .i64 oa, .int .i64 ob, .int .u64 on, .string os]] w (DoPost w B a b v (doP p g m ⟨1, oa, ob, on, os⟩)) := by
  obtain ⟨bA, hx, hy⟩ := two_boxes w (.cells #[.nilFunc, .nilFunc, .func (.func 87) #[] #[]] CodeT) (.cells #[.int .i64 oc, .int .i64 oa, .int .i64 ob, .int .u64 on, .string os] OpT)
  have x0 := cellB (j := 0) hx rfl
  have x1 := cellB (j := 1) hx rfl
  have x2 := cellB (j := 2) hx rfl
  have y0 := cellB (j := 0) hy rfl
  have y1 := cellB (j := 1) hy rfl
  have y2 := cellB (j := 2) hy rfl
  have y3 := cellB (j := 3) hy rfl
  have y4 := cellB (j := 4) hy rfl
  have HP := Lib.hid (hp.below bA)
  have HL := Lib.hid (hl.below bA)
  have HK := Lib.hid (hk.below bA)
  have HA := Lib.hid bA
  have HP0 := Lib.hid hp
  have HMI := Lib.hid hmi
  have HON := Lib.hid hon
  have HOS := Lib.hid hos
  have HOA := Lib.hid hoa
  have hq := eqm_fn 87
  clear hp hl hk hx hy bA hmi hon hos hoa
  obtain ⟨r, hr⟩ : ∃ r, r = doP p g m ⟨1, oa, ob, on, os⟩ := ⟨_, rfl⟩
  rw [← hr]
  rw [show doP p g m ⟨1, oa, ob, on, os⟩ = mkP p ⟨1, oa, 0, 0, emptyS, 0, 0⟩ from rfl] at hr
  have HR := Lib.hid hr
  clear hr
  go_enter Tryd.func75, Tryd.ntmps75
  go_wp2_with fail
  generalize ((w.alloc (.cells #[.nilFunc, .nilFunc, .func (.func 87) #[] #[]] CodeT)).alloc (.cells #[.int .i64 oc, .int .i64 oa, .int .i64 ob, .int .u64 on, .string os] OpT)) = W at *
  have HC := Lib.hid (show W.cell? ⟨w.heap.size, 0, none⟩ = some (.nilFunc) ∧ W.cell? ⟨w.heap.size, 1, none⟩ = some (.nilFunc) ∧ W.cell? ⟨w.heap.size, 2, none⟩ = some (.func (.func 87) #[] #[]) ∧ W.cell? ⟨w.heap.size + 1, 0, none⟩ = some (.int .i64 oc) ∧ W.cell? ⟨w.heap.size + 1, 1, none⟩ = some (.int .i64 oa) ∧ W.cell? ⟨w.heap.size + 1, 2, none⟩ = some (.int .i64 ob) ∧ W.cell? ⟨w.heap.size + 1, 3, none⟩ = some (.int .u64 on) ∧ W.cell? ⟨w.heap.size + 1, 4, none⟩ = some (.string os) from ⟨x0, x1, x2, y0, y1, y2, y3, y4⟩)
  refine (fits_nil (mk := mk) oa _).mono ?_
  rintro e w1 ⟨rfl, hu⟩
  have UA := Lib.hid hu
  clear hu
  clear x0 x1 x2 y0 y1 y2 y3 y4
  have x0 := bcellAt UA.out HC.out.1
  have x1 := bcellAt UA.out HC.out.2.1
  have x2 := bcellAt UA.out HC.out.2.2.1
  have y0 := bcellAt UA.out HC.out.2.2.2.1
  have y1 := bcellAt UA.out HC.out.2.2.2.2.1
  have y2 := bcellAt UA.out HC.out.2.2.2.2.2.1
  have y3 := bcellAt UA.out HC.out.2.2.2.2.2.2.1
  have y4 := bcellAt UA.out HC.out.2.2.2.2.2.2.2
  go_wp2_with fail
  refine (fits_nil (mk := mk) ob _).mono ?_
  rintro e w2 ⟨rfl, hu⟩
  have UB := Lib.hid (bmore UA.out hu)
  clear hu
  clear x0 x1 x2 y0 y1 y2 y3 y4
  have x0 := bcellAt UB.out HC.out.1
  have x1 := bcellAt UB.out HC.out.2.1
  have x2 := bcellAt UB.out HC.out.2.2.1
  have y0 := bcellAt UB.out HC.out.2.2.2.1
  have y1 := bcellAt UB.out HC.out.2.2.2.2.1
  have y2 := bcellAt UB.out HC.out.2.2.2.2.2.1
  have y3 := bcellAt UB.out HC.out.2.2.2.2.2.2.1
  have y4 := bcellAt UB.out HC.out.2.2.2.2.2.2.2
  go_wp2_with fail
  refine (code_1 (oc := oc) (HP.out.below UB.out) (HL.out.below UB.out) (HK.out.below UB.out) HOA.out).mono ?_
  rintro e w9 hp9
  have er := HR.out
  rw [← er] at hp9
  obtain ⟨rfl, g9⟩ := hp9
  have HG := Lib.hid (Grew.after HP0.out (bmore HA.out UB.out) g9)
  clear g9 er HR
  go_wp2_with fail
  go_returns
  exact ⟨rfl, HG.out⟩
set_option maxRecDepth 100000 in
set_option maxHeartbeats 3200000 in
theorem do_2 (hp : IsPool w B a b v p) (hl : Laid w) (hk : Mk w Bm mk a kv mv g m) (hmi : ∀ x ∈ m, i64R x) {oc oa ob on : Int} {os : ByteArray} (hoa : i64R oa) (hon : 0 ≤ on ∧ on ≤ 18446744073709551615) (hos : os.size ≤ maxLen) : Calls Tryd.prog 75 #[.pointer (some ⟨mk, 0, none⟩), .agg #[.nilFunc, .nilFunc, .func (.func 88) #[] #[]], .agg #[.int .i64 oc, .int .i64 oa, .int .i64 ob, .int .u64 on, .string os]] w (DoPost w B a b v (doP p g m ⟨2, oa, ob, on, os⟩)) := by
  obtain ⟨bA, hx, hy⟩ := two_boxes w (.cells #[.nilFunc, .nilFunc, .func (.func 88) #[] #[]] CodeT) (.cells #[.int .i64 oc, .int .i64 oa, .int .i64 ob, .int .u64 on, .string os] OpT)
  have x0 := cellB (j := 0) hx rfl
  have x1 := cellB (j := 1) hx rfl
  have x2 := cellB (j := 2) hx rfl
  have y0 := cellB (j := 0) hy rfl
  have y1 := cellB (j := 1) hy rfl
  have y2 := cellB (j := 2) hy rfl
  have y3 := cellB (j := 3) hy rfl
  have y4 := cellB (j := 4) hy rfl
  have HP := Lib.hid (hp.below bA)
  have HL := Lib.hid (hl.below bA)
  have HK := Lib.hid (hk.below bA)
  have HA := Lib.hid bA
  have HP0 := Lib.hid hp
  have HMI := Lib.hid hmi
  have HON := Lib.hid hon
  have HOS := Lib.hid hos
  have HOA := Lib.hid hoa
  have hq := eqm_fn 88
  clear hp hl hk hx hy bA hmi hon hos hoa
  obtain ⟨r, hr⟩ : ∃ r, r = doP p g m ⟨2, oa, ob, on, os⟩ := ⟨_, rfl⟩
  rw [← hr]
  rw [show doP p g m ⟨2, oa, ob, on, os⟩ = mkP p ⟨2, 0, 0, on, emptyS, 0, 0⟩ from rfl] at hr
  have HR := Lib.hid hr
  clear hr
  go_enter Tryd.func75, Tryd.ntmps75
  go_wp2_with fail
  generalize ((w.alloc (.cells #[.nilFunc, .nilFunc, .func (.func 88) #[] #[]] CodeT)).alloc (.cells #[.int .i64 oc, .int .i64 oa, .int .i64 ob, .int .u64 on, .string os] OpT)) = W at *
  have HC := Lib.hid (show W.cell? ⟨w.heap.size, 0, none⟩ = some (.nilFunc) ∧ W.cell? ⟨w.heap.size, 1, none⟩ = some (.nilFunc) ∧ W.cell? ⟨w.heap.size, 2, none⟩ = some (.func (.func 88) #[] #[]) ∧ W.cell? ⟨w.heap.size + 1, 0, none⟩ = some (.int .i64 oc) ∧ W.cell? ⟨w.heap.size + 1, 1, none⟩ = some (.int .i64 oa) ∧ W.cell? ⟨w.heap.size + 1, 2, none⟩ = some (.int .i64 ob) ∧ W.cell? ⟨w.heap.size + 1, 3, none⟩ = some (.int .u64 on) ∧ W.cell? ⟨w.heap.size + 1, 4, none⟩ = some (.string os) from ⟨x0, x1, x2, y0, y1, y2, y3, y4⟩)
  refine (fits_nil (mk := mk) oa _).mono ?_
  rintro e w1 ⟨rfl, hu⟩
  have UA := Lib.hid hu
  clear hu
  clear x0 x1 x2 y0 y1 y2 y3 y4
  have x0 := bcellAt UA.out HC.out.1
  have x1 := bcellAt UA.out HC.out.2.1
  have x2 := bcellAt UA.out HC.out.2.2.1
  have y0 := bcellAt UA.out HC.out.2.2.2.1
  have y1 := bcellAt UA.out HC.out.2.2.2.2.1
  have y2 := bcellAt UA.out HC.out.2.2.2.2.2.1
  have y3 := bcellAt UA.out HC.out.2.2.2.2.2.2.1
  have y4 := bcellAt UA.out HC.out.2.2.2.2.2.2.2
  go_wp2_with fail
  refine (fits_nil (mk := mk) ob _).mono ?_
  rintro e w2 ⟨rfl, hu⟩
  have UB := Lib.hid (bmore UA.out hu)
  clear hu
  clear x0 x1 x2 y0 y1 y2 y3 y4
  have x0 := bcellAt UB.out HC.out.1
  have x1 := bcellAt UB.out HC.out.2.1
  have x2 := bcellAt UB.out HC.out.2.2.1
  have y0 := bcellAt UB.out HC.out.2.2.2.1
  have y1 := bcellAt UB.out HC.out.2.2.2.2.1
  have y2 := bcellAt UB.out HC.out.2.2.2.2.2.1
  have y3 := bcellAt UB.out HC.out.2.2.2.2.2.2.1
  have y4 := bcellAt UB.out HC.out.2.2.2.2.2.2.2
  go_wp2_with fail
  refine (code_2 (oc := oc) (HP.out.below UB.out) (HL.out.below UB.out) (HK.out.below UB.out) HON.out).mono ?_
  rintro e w9 hp9
  have er := HR.out
  rw [← er] at hp9
  obtain ⟨rfl, g9⟩ := hp9
  have HG := Lib.hid (Grew.after HP0.out (bmore HA.out UB.out) g9)
  clear g9 er HR
  go_wp2_with fail
  go_returns
  exact ⟨rfl, HG.out⟩
set_option maxRecDepth 100000 in
set_option maxHeartbeats 3200000 in
theorem do_3 (hp : IsPool w B a b v p) (hl : Laid w) (hk : Mk w Bm mk a kv mv g m) (hmi : ∀ x ∈ m, i64R x) {oc oa ob on : Int} {os : ByteArray} (hoa : i64R oa) (hon : 0 ≤ on ∧ on ≤ 18446744073709551615) (hos : os.size ≤ maxLen) : Calls Tryd.prog 75 #[.pointer (some ⟨mk, 0, none⟩), .agg #[.nilFunc, .nilFunc, .func (.func 90) #[] #[]], .agg #[.int .i64 oc, .int .i64 oa, .int .i64 ob, .int .u64 on, .string os]] w (DoPost w B a b v (doP p g m ⟨3, oa, ob, on, os⟩)) := by
  obtain ⟨bA, hx, hy⟩ := two_boxes w (.cells #[.nilFunc, .nilFunc, .func (.func 90) #[] #[]] CodeT) (.cells #[.int .i64 oc, .int .i64 oa, .int .i64 ob, .int .u64 on, .string os] OpT)
  have x0 := cellB (j := 0) hx rfl
  have x1 := cellB (j := 1) hx rfl
  have x2 := cellB (j := 2) hx rfl
  have y0 := cellB (j := 0) hy rfl
  have y1 := cellB (j := 1) hy rfl
  have y2 := cellB (j := 2) hy rfl
  have y3 := cellB (j := 3) hy rfl
  have y4 := cellB (j := 4) hy rfl
  have HP := Lib.hid (hp.below bA)
  have HL := Lib.hid (hl.below bA)
  have HK := Lib.hid (hk.below bA)
  have HA := Lib.hid bA
  have HP0 := Lib.hid hp
  have HMI := Lib.hid hmi
  have HON := Lib.hid hon
  have HOS := Lib.hid hos
  have HOA := Lib.hid hoa
  have hq := eqm_fn 90
  clear hp hl hk hx hy bA hmi hon hos hoa
  obtain ⟨r, hr⟩ : ∃ r, r = doP p g m ⟨3, oa, ob, on, os⟩ := ⟨_, rfl⟩
  rw [← hr]
  rw [show doP p g m ⟨3, oa, ob, on, os⟩ = mkP p ⟨3, 0, 0, 0, os, 0, 0⟩ from rfl] at hr
  have HR := Lib.hid hr
  clear hr
  go_enter Tryd.func75, Tryd.ntmps75
  go_wp2_with fail
  generalize ((w.alloc (.cells #[.nilFunc, .nilFunc, .func (.func 90) #[] #[]] CodeT)).alloc (.cells #[.int .i64 oc, .int .i64 oa, .int .i64 ob, .int .u64 on, .string os] OpT)) = W at *
  have HC := Lib.hid (show W.cell? ⟨w.heap.size, 0, none⟩ = some (.nilFunc) ∧ W.cell? ⟨w.heap.size, 1, none⟩ = some (.nilFunc) ∧ W.cell? ⟨w.heap.size, 2, none⟩ = some (.func (.func 90) #[] #[]) ∧ W.cell? ⟨w.heap.size + 1, 0, none⟩ = some (.int .i64 oc) ∧ W.cell? ⟨w.heap.size + 1, 1, none⟩ = some (.int .i64 oa) ∧ W.cell? ⟨w.heap.size + 1, 2, none⟩ = some (.int .i64 ob) ∧ W.cell? ⟨w.heap.size + 1, 3, none⟩ = some (.int .u64 on) ∧ W.cell? ⟨w.heap.size + 1, 4, none⟩ = some (.string os) from ⟨x0, x1, x2, y0, y1, y2, y3, y4⟩)
  refine (fits_nil (mk := mk) oa _).mono ?_
  rintro e w1 ⟨rfl, hu⟩
  have UA := Lib.hid hu
  clear hu
  clear x0 x1 x2 y0 y1 y2 y3 y4
  have x0 := bcellAt UA.out HC.out.1
  have x1 := bcellAt UA.out HC.out.2.1
  have x2 := bcellAt UA.out HC.out.2.2.1
  have y0 := bcellAt UA.out HC.out.2.2.2.1
  have y1 := bcellAt UA.out HC.out.2.2.2.2.1
  have y2 := bcellAt UA.out HC.out.2.2.2.2.2.1
  have y3 := bcellAt UA.out HC.out.2.2.2.2.2.2.1
  have y4 := bcellAt UA.out HC.out.2.2.2.2.2.2.2
  go_wp2_with fail
  refine (fits_nil (mk := mk) ob _).mono ?_
  rintro e w2 ⟨rfl, hu⟩
  have UB := Lib.hid (bmore UA.out hu)
  clear hu
  clear x0 x1 x2 y0 y1 y2 y3 y4
  have x0 := bcellAt UB.out HC.out.1
  have x1 := bcellAt UB.out HC.out.2.1
  have x2 := bcellAt UB.out HC.out.2.2.1
  have y0 := bcellAt UB.out HC.out.2.2.2.1
  have y1 := bcellAt UB.out HC.out.2.2.2.2.1
  have y2 := bcellAt UB.out HC.out.2.2.2.2.2.1
  have y3 := bcellAt UB.out HC.out.2.2.2.2.2.2.1
  have y4 := bcellAt UB.out HC.out.2.2.2.2.2.2.2
  go_wp2_with fail
  refine (code_3 (oc := oc) (HP.out.below UB.out) (HL.out.below UB.out) (HK.out.below UB.out) HOS.out).mono ?_
  rintro e w9 hp9
  have er := HR.out
  rw [← er] at hp9
  obtain ⟨rfl, g9⟩ := hp9
  have HG := Lib.hid (Grew.after HP0.out (bmore HA.out UB.out) g9)
  clear g9 er HR
  go_wp2_with fail
  go_returns
  exact ⟨rfl, HG.out⟩
set_option maxRecDepth 100000 in
set_option maxHeartbeats 3200000 in
theorem do_4 (hp : IsPool w B a b v p) (hl : Laid w) (hk : Mk w Bm mk a kv mv g m) (hmi : ∀ x ∈ m, i64R x) {oc oa ob on : Int} {os : ByteArray} (hoa : i64R oa) (hon : 0 ≤ on ∧ on ≤ 18446744073709551615) (hos : os.size ≤ maxLen) : Calls Tryd.prog 75 #[.pointer (some ⟨mk, 0, none⟩), .agg #[.func (.func 91) #[] #[], .func (.func 91) #[] #[], .func (.func 92) #[] #[]], .agg #[.int .i64 oc, .int .i64 oa, .int .i64 ob, .int .u64 on, .string os]] w (DoPost w B a b v (doP p g m ⟨4, oa, ob, on, os⟩)) := by
  obtain ⟨bA, hx, hy⟩ := two_boxes w (.cells #[.func (.func 91) #[] #[], .func (.func 91) #[] #[], .func (.func 92) #[] #[]] CodeT) (.cells #[.int .i64 oc, .int .i64 oa, .int .i64 ob, .int .u64 on, .string os] OpT)
  have x0 := cellB (j := 0) hx rfl
  have x1 := cellB (j := 1) hx rfl
  have x2 := cellB (j := 2) hx rfl
  have y0 := cellB (j := 0) hy rfl
  have y1 := cellB (j := 1) hy rfl
  have y2 := cellB (j := 2) hy rfl
  have y3 := cellB (j := 3) hy rfl
  have y4 := cellB (j := 4) hy rfl
  have HP := Lib.hid (hp.below bA)
  have HL := Lib.hid (hl.below bA)
  have HK := Lib.hid (hk.below bA)
  have HA := Lib.hid bA
  have HP0 := Lib.hid hp
  have HMI := Lib.hid hmi
  have HON := Lib.hid hon
  have HOS := Lib.hid hos
  have HOA := Lib.hid hoa
  have hq := eqm_fn 92
  clear hp hl hk hx hy bA hmi hon hos hoa
  obtain ⟨r, hr⟩ : ∃ r, r = doP p g m ⟨4, oa, ob, on, os⟩ := ⟨_, rfl⟩
  rw [← hr]
  rw [show doP p g m ⟨4, oa, ob, on, os⟩ = (if (upB m oa && upB m ob) = true then mkP p ⟨4, 0, 0, 0, emptyS, mdP m oa, mdP m ob⟩ else noP p) from rfl] at hr
  have HR := Lib.hid hr
  clear hr
  go_enter Tryd.func75, Tryd.ntmps75
  go_wp2_with fail
  generalize ((w.alloc (.cells #[.func (.func 91) #[] #[], .func (.func 91) #[] #[], .func (.func 92) #[] #[]] CodeT)).alloc (.cells #[.int .i64 oc, .int .i64 oa, .int .i64 ob, .int .u64 on, .string os] OpT)) = W at *
  have HC := Lib.hid (show W.cell? ⟨w.heap.size, 0, none⟩ = some (.func (.func 91) #[] #[]) ∧ W.cell? ⟨w.heap.size, 1, none⟩ = some (.func (.func 91) #[] #[]) ∧ W.cell? ⟨w.heap.size, 2, none⟩ = some (.func (.func 92) #[] #[]) ∧ W.cell? ⟨w.heap.size + 1, 0, none⟩ = some (.int .i64 oc) ∧ W.cell? ⟨w.heap.size + 1, 1, none⟩ = some (.int .i64 oa) ∧ W.cell? ⟨w.heap.size + 1, 2, none⟩ = some (.int .i64 ob) ∧ W.cell? ⟨w.heap.size + 1, 3, none⟩ = some (.int .u64 on) ∧ W.cell? ⟨w.heap.size + 1, 4, none⟩ = some (.string os) from ⟨x0, x1, x2, y0, y1, y2, y3, y4⟩)
  refine (fits_isAny (HP.out.below (Below.refl _ _)) (HK.out.below (Below.refl _ _)) oa).mono ?_
  rintro e w1 ⟨rfl, hu⟩
  have UA := Lib.hid hu
  clear hu
  clear x0 x1 x2 y0 y1 y2 y3 y4
  have x0 := bcellAt UA.out HC.out.1
  have x1 := bcellAt UA.out HC.out.2.1
  have x2 := bcellAt UA.out HC.out.2.2.1
  have y0 := bcellAt UA.out HC.out.2.2.2.1
  have y1 := bcellAt UA.out HC.out.2.2.2.2.1
  have y2 := bcellAt UA.out HC.out.2.2.2.2.2.1
  have y3 := bcellAt UA.out HC.out.2.2.2.2.2.2.1
  have y4 := bcellAt UA.out HC.out.2.2.2.2.2.2.2
  cases hqa : (upB m oa)
  · have er : r = noP p := by rw [HR.out]; exact if_neg (by rw [hqa, Bool.false_and]; decide)
    go_wp2_with fail
    go_returns
    rw [er]
    exact ⟨rfl, Grew.same HP0.out (bmore HA.out UA.out)⟩
  · have hua : upB m oa = true := hqa
    go_wp2_with fail
    refine (fits_isAny (HP.out.below UA.out) (HK.out.below UA.out) ob).mono ?_
    rintro e w2 ⟨rfl, hu⟩
    have UB := Lib.hid (bmore UA.out hu)
    clear hu
    clear x0 x1 x2 y0 y1 y2 y3 y4
    have x0 := bcellAt UB.out HC.out.1
    have x1 := bcellAt UB.out HC.out.2.1
    have x2 := bcellAt UB.out HC.out.2.2.1
    have y0 := bcellAt UB.out HC.out.2.2.2.1
    have y1 := bcellAt UB.out HC.out.2.2.2.2.1
    have y2 := bcellAt UB.out HC.out.2.2.2.2.2.1
    have y3 := bcellAt UB.out HC.out.2.2.2.2.2.2.1
    have y4 := bcellAt UB.out HC.out.2.2.2.2.2.2.2
    cases hqb : (upB m ob)
    · have er : r = noP p := by rw [HR.out]; exact if_neg (by rw [hqa, hqb]; decide)
      go_wp2_with fail
      go_returns
      rw [er]
      exact ⟨rfl, Grew.same HP0.out (bmore HA.out UB.out)⟩
    · have hub : upB m ob = true := hqb
      go_wp2_with fail
      refine (code_4 (oc := oc) (HP.out.below UB.out) (HL.out.below UB.out) (HK.out.below UB.out) hua hub (HMI.out _ (md_in hua)) (HMI.out _ (md_in hub))).mono ?_
      rintro e w9 hp9
      have er : r = mkP p ⟨4, 0, 0, 0, emptyS, mdP m oa, mdP m ob⟩ := by rw [HR.out]; exact if_pos (by rw [hqa, hqb]; rfl)
      rw [← er] at hp9
      obtain ⟨rfl, g9⟩ := hp9
      have HG := Lib.hid (Grew.after HP0.out (bmore HA.out UB.out) g9)
      clear g9 er HR
      go_wp2_with fail
      go_returns
      exact ⟨rfl, HG.out⟩
set_option maxRecDepth 100000 in
set_option maxHeartbeats 3200000 in
theorem do_5 (hp : IsPool w B a b v p) (hl : Laid w) (hk : Mk w Bm mk a kv mv g m) (hmi : ∀ x ∈ m, i64R x) {oc oa ob on : Int} {os : ByteArray} (hoa : i64R oa) (hon : 0 ≤ on ∧ on ≤ 18446744073709551615) (hos : os.size ≤ maxLen) : Calls Tryd.prog 75 #[.pointer (some ⟨mk, 0, none⟩), .agg #[.func (.func 91) #[] #[], .nilFunc, .func (.func 93) #[] #[]], .agg #[.int .i64 oc, .int .i64 oa, .int .i64 ob, .int .u64 on, .string os]] w (DoPost w B a b v (doP p g m ⟨5, oa, ob, on, os⟩)) := by
  obtain ⟨bA, hx, hy⟩ := two_boxes w (.cells #[.func (.func 91) #[] #[], .nilFunc, .func (.func 93) #[] #[]] CodeT) (.cells #[.int .i64 oc, .int .i64 oa, .int .i64 ob, .int .u64 on, .string os] OpT)
  have x0 := cellB (j := 0) hx rfl
  have x1 := cellB (j := 1) hx rfl
  have x2 := cellB (j := 2) hx rfl
  have y0 := cellB (j := 0) hy rfl
  have y1 := cellB (j := 1) hy rfl
  have y2 := cellB (j := 2) hy rfl
  have y3 := cellB (j := 3) hy rfl
  have y4 := cellB (j := 4) hy rfl
  have HP := Lib.hid (hp.below bA)
  have HL := Lib.hid (hl.below bA)
  have HK := Lib.hid (hk.below bA)
  have HA := Lib.hid bA
  have HP0 := Lib.hid hp
  have HMI := Lib.hid hmi
  have HON := Lib.hid hon
  have HOS := Lib.hid hos
  have HOA := Lib.hid hoa
  have hq := eqm_fn 93
  clear hp hl hk hx hy bA hmi hon hos hoa
  obtain ⟨r, hr⟩ : ∃ r, r = doP p g m ⟨5, oa, ob, on, os⟩ := ⟨_, rfl⟩
  rw [← hr]
  rw [show doP p g m ⟨5, oa, ob, on, os⟩ = (if upB m oa = true then mkP p ⟨5, 0, 0, 0, emptyS, mdP m oa, 0⟩ else noP p) from rfl] at hr
  have HR := Lib.hid hr
  clear hr
  go_enter Tryd.func75, Tryd.ntmps75
  go_wp2_with fail
  generalize ((w.alloc (.cells #[.func (.func 91) #[] #[], .nilFunc, .func (.func 93) #[] #[]] CodeT)).alloc (.cells #[.int .i64 oc, .int .i64 oa, .int .i64 ob, .int .u64 on, .string os] OpT)) = W at *
  have HC := Lib.hid (show W.cell? ⟨w.heap.size, 0, none⟩ = some (.func (.func 91) #[] #[]) ∧ W.cell? ⟨w.heap.size, 1, none⟩ = some (.nilFunc) ∧ W.cell? ⟨w.heap.size, 2, none⟩ = some (.func (.func 93) #[] #[]) ∧ W.cell? ⟨w.heap.size + 1, 0, none⟩ = some (.int .i64 oc) ∧ W.cell? ⟨w.heap.size + 1, 1, none⟩ = some (.int .i64 oa) ∧ W.cell? ⟨w.heap.size + 1, 2, none⟩ = some (.int .i64 ob) ∧ W.cell? ⟨w.heap.size + 1, 3, none⟩ = some (.int .u64 on) ∧ W.cell? ⟨w.heap.size + 1, 4, none⟩ = some (.string os) from ⟨x0, x1, x2, y0, y1, y2, y3, y4⟩)
  refine (fits_isAny (HP.out.below (Below.refl _ _)) (HK.out.below (Below.refl _ _)) oa).mono ?_
  rintro e w1 ⟨rfl, hu⟩
  have UA := Lib.hid hu
  clear hu
  clear x0 x1 x2 y0 y1 y2 y3 y4
  have x0 := bcellAt UA.out HC.out.1
  have x1 := bcellAt UA.out HC.out.2.1
  have x2 := bcellAt UA.out HC.out.2.2.1
  have y0 := bcellAt UA.out HC.out.2.2.2.1
  have y1 := bcellAt UA.out HC.out.2.2.2.2.1
  have y2 := bcellAt UA.out HC.out.2.2.2.2.2.1
  have y3 := bcellAt UA.out HC.out.2.2.2.2.2.2.1
  have y4 := bcellAt UA.out HC.out.2.2.2.2.2.2.2
  cases hqa : (upB m oa)
  · have er : r = noP p := by rw [HR.out]; exact if_neg (by rw [hqa]; decide)
    go_wp2_with fail
    go_returns
    rw [er]
    exact ⟨rfl, Grew.same HP0.out (bmore HA.out UA.out)⟩
  · have hua : upB m oa = true := hqa
    go_wp2_with fail
    refine (fits_nil (mk := mk) ob _).mono ?_
    rintro e w2 ⟨rfl, hu⟩
    have UB := Lib.hid (bmore UA.out hu)
    clear hu
    clear x0 x1 x2 y0 y1 y2 y3 y4
    have x0 := bcellAt UB.out HC.out.1
    have x1 := bcellAt UB.out HC.out.2.1
    have x2 := bcellAt UB.out HC.out.2.2.1
    have y0 := bcellAt UB.out HC.out.2.2.2.1
    have y1 := bcellAt UB.out HC.out.2.2.2.2.1
    have y2 := bcellAt UB.out HC.out.2.2.2.2.2.1
    have y3 := bcellAt UB.out HC.out.2.2.2.2.2.2.1
    have y4 := bcellAt UB.out HC.out.2.2.2.2.2.2.2
    go_wp2_with fail
    refine (code_5 (oc := oc) (HP.out.below UB.out) (HL.out.below UB.out) (HK.out.below UB.out) hua (HMI.out _ (md_in hua))).mono ?_
    rintro e w9 hp9
    have er : r = mkP p ⟨5, 0, 0, 0, emptyS, mdP m oa, 0⟩ := by rw [HR.out]; exact if_pos (by rw [hqa])
    rw [← er] at hp9
    obtain ⟨rfl, g9⟩ := hp9
    have HG := Lib.hid (Grew.after HP0.out (bmore HA.out UB.out) g9)
    clear g9 er HR
    go_wp2_with fail
    go_returns
    exact ⟨rfl, HG.out⟩
set_option maxRecDepth 100000 in
set_option maxHeartbeats 3200000 in
theorem do_6 (hp : IsPool w B a b v p) (hl : Laid w) (hk : Mk w Bm mk a kv mv g m) (hmi : ∀ x ∈ m, i64R x) {oc oa ob on : Int} {os : ByteArray} (hoa : i64R oa) (hon : 0 ≤ on ∧ on ≤ 18446744073709551615) (hos : os.size ≤ maxLen) : Calls Tryd.prog 75 #[.pointer (some ⟨mk, 0, none⟩), .agg #[.func (.func 95) #[] #[], .nilFunc, .func (.func 96) #[] #[]], .agg #[.int .i64 oc, .int .i64 oa, .int .i64 ob, .int .u64 on, .string os]] w (DoPost w B a b v (doP p g m ⟨6, oa, ob, on, os⟩)) := by
  obtain ⟨bA, hx, hy⟩ := two_boxes w (.cells #[.func (.func 95) #[] #[], .nilFunc, .func (.func 96) #[] #[]] CodeT) (.cells #[.int .i64 oc, .int .i64 oa, .int .i64 ob, .int .u64 on, .string os] OpT)
  have x0 := cellB (j := 0) hx rfl
  have x1 := cellB (j := 1) hx rfl
  have x2 := cellB (j := 2) hx rfl
  have y0 := cellB (j := 0) hy rfl
  have y1 := cellB (j := 1) hy rfl
  have y2 := cellB (j := 2) hy rfl
  have y3 := cellB (j := 3) hy rfl
  have y4 := cellB (j := 4) hy rfl
  have HP := Lib.hid (hp.below bA)
  have HL := Lib.hid (hl.below bA)
  have HK := Lib.hid (hk.below bA)
  have HA := Lib.hid bA
  have HP0 := Lib.hid hp
  have HMI := Lib.hid hmi
  have HON := Lib.hid hon
  have HOS := Lib.hid hos
  have HOA := Lib.hid hoa
  have hq := eqm_fn 96
  clear hp hl hk hx hy bA hmi hon hos hoa
  obtain ⟨r, hr⟩ : ∃ r, r = doP p g m ⟨6, oa, ob, on, os⟩ := ⟨_, rfl⟩
  rw [← hr]
  rw [show doP p g m ⟨6, oa, ob, on, os⟩ = (if (upB m oa && (ndP p m oa).kind == 4) = true then ((ndP p m oa).a, 0, p) else noP p) from rfl] at hr
  have HR := Lib.hid hr
  clear hr
  go_enter Tryd.func75, Tryd.ntmps75
  go_wp2_with fail
  generalize ((w.alloc (.cells #[.func (.func 95) #[] #[], .nilFunc, .func (.func 96) #[] #[]] CodeT)).alloc (.cells #[.int .i64 oc, .int .i64 oa, .int .i64 ob, .int .u64 on, .string os] OpT)) = W at *
  have HC := Lib.hid (show W.cell? ⟨w.heap.size, 0, none⟩ = some (.func (.func 95) #[] #[]) ∧ W.cell? ⟨w.heap.size, 1, none⟩ = some (.nilFunc) ∧ W.cell? ⟨w.heap.size, 2, none⟩ = some (.func (.func 96) #[] #[]) ∧ W.cell? ⟨w.heap.size + 1, 0, none⟩ = some (.int .i64 oc) ∧ W.cell? ⟨w.heap.size + 1, 1, none⟩ = some (.int .i64 oa) ∧ W.cell? ⟨w.heap.size + 1, 2, none⟩ = some (.int .i64 ob) ∧ W.cell? ⟨w.heap.size + 1, 3, none⟩ = some (.int .u64 on) ∧ W.cell? ⟨w.heap.size + 1, 4, none⟩ = some (.string os) from ⟨x0, x1, x2, y0, y1, y2, y3, y4⟩)
  refine (fits_isPair (HP.out.below (Below.refl _ _)) (HK.out.below (Below.refl _ _)) oa).mono ?_
  rintro e w1 ⟨rfl, hu⟩
  have UA := Lib.hid hu
  clear hu
  clear x0 x1 x2 y0 y1 y2 y3 y4
  have x0 := bcellAt UA.out HC.out.1
  have x1 := bcellAt UA.out HC.out.2.1
  have x2 := bcellAt UA.out HC.out.2.2.1
  have y0 := bcellAt UA.out HC.out.2.2.2.1
  have y1 := bcellAt UA.out HC.out.2.2.2.2.1
  have y2 := bcellAt UA.out HC.out.2.2.2.2.2.1
  have y3 := bcellAt UA.out HC.out.2.2.2.2.2.2.1
  have y4 := bcellAt UA.out HC.out.2.2.2.2.2.2.2
  cases hqa : (upB m oa && (ndP p m oa).kind == 4)
  · have er : r = noP p := by rw [HR.out]; exact if_neg (by rw [hqa]; decide)
    go_wp2_with fail
    go_returns
    rw [er]
    exact ⟨rfl, Grew.same HP0.out (bmore HA.out UA.out)⟩
  · have hua : upB m oa = true := by simp only [Bool.and_eq_true] at hqa; exact hqa.1
    go_wp2_with fail
    refine (fits_nil (mk := mk) ob _).mono ?_
    rintro e w2 ⟨rfl, hu⟩
    have UB := Lib.hid (bmore UA.out hu)
    clear hu
    clear x0 x1 x2 y0 y1 y2 y3 y4
    have x0 := bcellAt UB.out HC.out.1
    have x1 := bcellAt UB.out HC.out.2.1
    have x2 := bcellAt UB.out HC.out.2.2.1
    have y0 := bcellAt UB.out HC.out.2.2.2.1
    have y1 := bcellAt UB.out HC.out.2.2.2.2.1
    have y2 := bcellAt UB.out HC.out.2.2.2.2.2.1
    have y3 := bcellAt UB.out HC.out.2.2.2.2.2.2.1
    have y4 := bcellAt UB.out HC.out.2.2.2.2.2.2.2
    go_wp2_with fail
    refine (code_6 (oc := oc) (HP.out.below UB.out) (HL.out.below UB.out) (HK.out.below UB.out) hua).mono ?_
    rintro e w9 hp9
    have er : r = ((ndP p m oa).a, 0, p) := by rw [HR.out]; exact if_pos (by rw [hqa])
    rw [← er] at hp9
    obtain ⟨rfl, g9⟩ := hp9
    have HG := Lib.hid (Grew.after HP0.out (bmore HA.out UB.out) g9)
    clear g9 er HR
    go_wp2_with fail
    go_returns
    exact ⟨rfl, HG.out⟩
set_option maxRecDepth 100000 in
set_option maxHeartbeats 3200000 in
theorem do_7 (hp : IsPool w B a b v p) (hl : Laid w) (hk : Mk w Bm mk a kv mv g m) (hmi : ∀ x ∈ m, i64R x) {oc oa ob on : Int} {os : ByteArray} (hoa : i64R oa) (hon : 0 ≤ on ∧ on ≤ 18446744073709551615) (hos : os.size ≤ maxLen) : Calls Tryd.prog 75 #[.pointer (some ⟨mk, 0, none⟩), .agg #[.func (.func 95) #[] #[], .nilFunc, .func (.func 98) #[] #[]], .agg #[.int .i64 oc, .int .i64 oa, .int .i64 ob, .int .u64 on, .string os]] w (DoPost w B a b v (doP p g m ⟨7, oa, ob, on, os⟩)) := by
  obtain ⟨bA, hx, hy⟩ := two_boxes w (.cells #[.func (.func 95) #[] #[], .nilFunc, .func (.func 98) #[] #[]] CodeT) (.cells #[.int .i64 oc, .int .i64 oa, .int .i64 ob, .int .u64 on, .string os] OpT)
  have x0 := cellB (j := 0) hx rfl
  have x1 := cellB (j := 1) hx rfl
  have x2 := cellB (j := 2) hx rfl
  have y0 := cellB (j := 0) hy rfl
  have y1 := cellB (j := 1) hy rfl
  have y2 := cellB (j := 2) hy rfl
  have y3 := cellB (j := 3) hy rfl
  have y4 := cellB (j := 4) hy rfl
  have HP := Lib.hid (hp.below bA)
  have HL := Lib.hid (hl.below bA)
  have HK := Lib.hid (hk.below bA)
  have HA := Lib.hid bA
  have HP0 := Lib.hid hp
  have HMI := Lib.hid hmi
  have HON := Lib.hid hon
  have HOS := Lib.hid hos
  have HOA := Lib.hid hoa
  have hq := eqm_fn 98
  clear hp hl hk hx hy bA hmi hon hos hoa
  obtain ⟨r, hr⟩ : ∃ r, r = doP p g m ⟨7, oa, ob, on, os⟩ := ⟨_, rfl⟩
  rw [← hr]
  rw [show doP p g m ⟨7, oa, ob, on, os⟩ = (if (upB m oa && (ndP p m oa).kind == 4) = true then ((ndP p m oa).b, 0, p) else noP p) from rfl] at hr
  have HR := Lib.hid hr
  clear hr
  go_enter Tryd.func75, Tryd.ntmps75
  go_wp2_with fail
  generalize ((w.alloc (.cells #[.func (.func 95) #[] #[], .nilFunc, .func (.func 98) #[] #[]] CodeT)).alloc (.cells #[.int .i64 oc, .int .i64 oa, .int .i64 ob, .int .u64 on, .string os] OpT)) = W at *
  have HC := Lib.hid (show W.cell? ⟨w.heap.size, 0, none⟩ = some (.func (.func 95) #[] #[]) ∧ W.cell? ⟨w.heap.size, 1, none⟩ = some (.nilFunc) ∧ W.cell? ⟨w.heap.size, 2, none⟩ = some (.func (.func 98) #[] #[]) ∧ W.cell? ⟨w.heap.size + 1, 0, none⟩ = some (.int .i64 oc) ∧ W.cell? ⟨w.heap.size + 1, 1, none⟩ = some (.int .i64 oa) ∧ W.cell? ⟨w.heap.size + 1, 2, none⟩ = some (.int .i64 ob) ∧ W.cell? ⟨w.heap.size + 1, 3, none⟩ = some (.int .u64 on) ∧ W.cell? ⟨w.heap.size + 1, 4, none⟩ = some (.string os) from ⟨x0, x1, x2, y0, y1, y2, y3, y4⟩)
  refine (fits_isPair (HP.out.below (Below.refl _ _)) (HK.out.below (Below.refl _ _)) oa).mono ?_
  rintro e w1 ⟨rfl, hu⟩
  have UA := Lib.hid hu
  clear hu
  clear x0 x1 x2 y0 y1 y2 y3 y4
  have x0 := bcellAt UA.out HC.out.1
  have x1 := bcellAt UA.out HC.out.2.1
  have x2 := bcellAt UA.out HC.out.2.2.1
  have y0 := bcellAt UA.out HC.out.2.2.2.1
  have y1 := bcellAt UA.out HC.out.2.2.2.2.1
  have y2 := bcellAt UA.out HC.out.2.2.2.2.2.1
  have y3 := bcellAt UA.out HC.out.2.2.2.2.2.2.1
  have y4 := bcellAt UA.out HC.out.2.2.2.2.2.2.2
  cases hqa : (upB m oa && (ndP p m oa).kind == 4)
  · have er : r = noP p := by rw [HR.out]; exact if_neg (by rw [hqa]; decide)
    go_wp2_with fail
    go_returns
    rw [er]
    exact ⟨rfl, Grew.same HP0.out (bmore HA.out UA.out)⟩
  · have hua : upB m oa = true := by simp only [Bool.and_eq_true] at hqa; exact hqa.1
    go_wp2_with fail
    refine (fits_nil (mk := mk) ob _).mono ?_
    rintro e w2 ⟨rfl, hu⟩
    have UB := Lib.hid (bmore UA.out hu)
    clear hu
    clear x0 x1 x2 y0 y1 y2 y3 y4
    have x0 := bcellAt UB.out HC.out.1
    have x1 := bcellAt UB.out HC.out.2.1
    have x2 := bcellAt UB.out HC.out.2.2.1
    have y0 := bcellAt UB.out HC.out.2.2.2.1
    have y1 := bcellAt UB.out HC.out.2.2.2.2.1
    have y2 := bcellAt UB.out HC.out.2.2.2.2.2.1
    have y3 := bcellAt UB.out HC.out.2.2.2.2.2.2.1
    have y4 := bcellAt UB.out HC.out.2.2.2.2.2.2.2
    go_wp2_with fail
    refine (code_7 (oc := oc) (HP.out.below UB.out) (HL.out.below UB.out) (HK.out.below UB.out) hua).mono ?_
    rintro e w9 hp9
    have er : r = ((ndP p m oa).b, 0, p) := by rw [HR.out]; exact if_pos (by rw [hqa])
    rw [← er] at hp9
    obtain ⟨rfl, g9⟩ := hp9
    have HG := Lib.hid (Grew.after HP0.out (bmore HA.out UB.out) g9)
    clear g9 er HR
    go_wp2_with fail
    go_returns
    exact ⟨rfl, HG.out⟩
set_option maxRecDepth 100000 in
set_option maxHeartbeats 3200000 in
theorem do_8 (hp : IsPool w B a b v p) (hl : Laid w) (hk : Mk w Bm mk a kv mv g m) (hmi : ∀ x ∈ m, i64R x) {oc oa ob on : Int} {os : ByteArray} (hoa : i64R oa) (hon : 0 ≤ on ∧ on ≤ 18446744073709551615) (hos : os.size ≤ maxLen) : Calls Tryd.prog 75 #[.pointer (some ⟨mk, 0, none⟩), .agg #[.func (.func 99) #[] #[], .nilFunc, .func (.func 100) #[] #[]], .agg #[.int .i64 oc, .int .i64 oa, .int .i64 ob, .int .u64 on, .string os]] w (DoPost w B a b v (doP p g m ⟨8, oa, ob, on, os⟩)) := by
  obtain ⟨bA, hx, hy⟩ := two_boxes w (.cells #[.func (.func 99) #[] #[], .nilFunc, .func (.func 100) #[] #[]] CodeT) (.cells #[.int .i64 oc, .int .i64 oa, .int .i64 ob, .int .u64 on, .string os] OpT)
  have x0 := cellB (j := 0) hx rfl
  have x1 := cellB (j := 1) hx rfl
  have x2 := cellB (j := 2) hx rfl
  have y0 := cellB (j := 0) hy rfl
  have y1 := cellB (j := 1) hy rfl
  have y2 := cellB (j := 2) hy rfl
  have y3 := cellB (j := 3) hy rfl
  have y4 := cellB (j := 4) hy rfl
  have HP := Lib.hid (hp.below bA)
  have HL := Lib.hid (hl.below bA)
  have HK := Lib.hid (hk.below bA)
  have HA := Lib.hid bA
  have HP0 := Lib.hid hp
  have HMI := Lib.hid hmi
  have HON := Lib.hid hon
  have HOS := Lib.hid hos
  have HOA := Lib.hid hoa
  have hq := eqm_fn 100
  clear hp hl hk hx hy bA hmi hon hos hoa
  obtain ⟨r, hr⟩ : ∃ r, r = doP p g m ⟨8, oa, ob, on, os⟩ := ⟨_, rfl⟩
  rw [← hr]
  rw [show doP p g m ⟨8, oa, ob, on, os⟩ = (if (upB m oa && showB (ndP p m oa).kind) = true then ((ndP p m oa).a, 0, p) else noP p) from rfl] at hr
  have HR := Lib.hid hr
  clear hr
  go_enter Tryd.func75, Tryd.ntmps75
  go_wp2_with fail
  generalize ((w.alloc (.cells #[.func (.func 99) #[] #[], .nilFunc, .func (.func 100) #[] #[]] CodeT)).alloc (.cells #[.int .i64 oc, .int .i64 oa, .int .i64 ob, .int .u64 on, .string os] OpT)) = W at *
  have HC := Lib.hid (show W.cell? ⟨w.heap.size, 0, none⟩ = some (.func (.func 99) #[] #[]) ∧ W.cell? ⟨w.heap.size, 1, none⟩ = some (.nilFunc) ∧ W.cell? ⟨w.heap.size, 2, none⟩ = some (.func (.func 100) #[] #[]) ∧ W.cell? ⟨w.heap.size + 1, 0, none⟩ = some (.int .i64 oc) ∧ W.cell? ⟨w.heap.size + 1, 1, none⟩ = some (.int .i64 oa) ∧ W.cell? ⟨w.heap.size + 1, 2, none⟩ = some (.int .i64 ob) ∧ W.cell? ⟨w.heap.size + 1, 3, none⟩ = some (.int .u64 on) ∧ W.cell? ⟨w.heap.size + 1, 4, none⟩ = some (.string os) from ⟨x0, x1, x2, y0, y1, y2, y3, y4⟩)
  refine (fits_shows (HP.out.below (Below.refl _ _)) (HK.out.below (Below.refl _ _)) oa).mono ?_
  rintro e w1 ⟨rfl, hu⟩
  have UA := Lib.hid hu
  clear hu
  clear x0 x1 x2 y0 y1 y2 y3 y4
  have x0 := bcellAt UA.out HC.out.1
  have x1 := bcellAt UA.out HC.out.2.1
  have x2 := bcellAt UA.out HC.out.2.2.1
  have y0 := bcellAt UA.out HC.out.2.2.2.1
  have y1 := bcellAt UA.out HC.out.2.2.2.2.1
  have y2 := bcellAt UA.out HC.out.2.2.2.2.2.1
  have y3 := bcellAt UA.out HC.out.2.2.2.2.2.2.1
  have y4 := bcellAt UA.out HC.out.2.2.2.2.2.2.2
  cases hqa : (upB m oa && showB (ndP p m oa).kind)
  · have er : r = noP p := by rw [HR.out]; exact if_neg (by rw [hqa]; decide)
    go_wp2_with fail
    go_returns
    rw [er]
    exact ⟨rfl, Grew.same HP0.out (bmore HA.out UA.out)⟩
  · have hua : upB m oa = true := by simp only [Bool.and_eq_true] at hqa; exact hqa.1
    go_wp2_with fail
    refine (fits_nil (mk := mk) ob _).mono ?_
    rintro e w2 ⟨rfl, hu⟩
    have UB := Lib.hid (bmore UA.out hu)
    clear hu
    clear x0 x1 x2 y0 y1 y2 y3 y4
    have x0 := bcellAt UB.out HC.out.1
    have x1 := bcellAt UB.out HC.out.2.1
    have x2 := bcellAt UB.out HC.out.2.2.1
    have y0 := bcellAt UB.out HC.out.2.2.2.1
    have y1 := bcellAt UB.out HC.out.2.2.2.2.1
    have y2 := bcellAt UB.out HC.out.2.2.2.2.2.1
    have y3 := bcellAt UB.out HC.out.2.2.2.2.2.2.1
    have y4 := bcellAt UB.out HC.out.2.2.2.2.2.2.2
    go_wp2_with fail
    refine (code_8 (oc := oc) (HP.out.below UB.out) (HL.out.below UB.out) (HK.out.below UB.out) hua).mono ?_
    rintro e w9 hp9
    have er : r = ((ndP p m oa).a, 0, p) := by rw [HR.out]; exact if_pos (by rw [hqa])
    rw [← er] at hp9
    obtain ⟨rfl, g9⟩ := hp9
    have HG := Lib.hid (Grew.after HP0.out (bmore HA.out UB.out) g9)
    clear g9 er HR
    go_wp2_with fail
    go_returns
    exact ⟨rfl, HG.out⟩
set_option maxRecDepth 100000 in
set_option maxHeartbeats 3200000 in
theorem do_9 (hp : IsPool w B a b v p) (hl : Laid w) (hk : Mk w Bm mk a kv mv g m) (hmi : ∀ x ∈ m, i64R x) {oc oa ob on : Int} {os : ByteArray} (hoa : i64R oa) (hon : 0 ≤ on ∧ on ≤ 18446744073709551615) (hos : os.size ≤ maxLen) : Calls Tryd.prog 75 #[.pointer (some ⟨mk, 0, none⟩), .agg #[.func (.func 91) #[] #[], .func (.func 101) #[] #[], .func (.func 102) #[] #[]], .agg #[.int .i64 oc, .int .i64 oa, .int .i64 ob, .int .u64 on, .string os]] w (DoPost w B a b v (doP p g m ⟨9, oa, ob, on, os⟩)) := by
  obtain ⟨bA, hx, hy⟩ := two_boxes w (.cells #[.func (.func 91) #[] #[], .func (.func 101) #[] #[], .func (.func 102) #[] #[]] CodeT) (.cells #[.int .i64 oc, .int .i64 oa, .int .i64 ob, .int .u64 on, .string os] OpT)
  have x0 := cellB (j := 0) hx rfl
  have x1 := cellB (j := 1) hx rfl
  have x2 := cellB (j := 2) hx rfl
  have y0 := cellB (j := 0) hy rfl
  have y1 := cellB (j := 1) hy rfl
  have y2 := cellB (j := 2) hy rfl
  have y3 := cellB (j := 3) hy rfl
  have y4 := cellB (j := 4) hy rfl
  have HP := Lib.hid (hp.below bA)
  have HL := Lib.hid (hl.below bA)
  have HK := Lib.hid (hk.below bA)
  have HA := Lib.hid bA
  have HP0 := Lib.hid hp
  have HMI := Lib.hid hmi
  have HON := Lib.hid hon
  have HOS := Lib.hid hos
  have HOA := Lib.hid hoa
  have hq := eqm_fn 102
  clear hp hl hk hx hy bA hmi hon hos hoa
  obtain ⟨r, hr⟩ : ∃ r, r = doP p g m ⟨9, oa, ob, on, os⟩ := ⟨_, rfl⟩
  rw [← hr]
  rw [show doP p g m ⟨9, oa, ob, on, os⟩ = (if (upB m oa && (upB m ob && (ndP p m ob).kind == 6)) = true then mkP p ⟨7, (ndP p m ob).frm, 0, 0, emptyS, mdP m oa, 0⟩ else noP p) from rfl] at hr
  have HR := Lib.hid hr
  clear hr
  go_enter Tryd.func75, Tryd.ntmps75
  go_wp2_with fail
  generalize ((w.alloc (.cells #[.func (.func 91) #[] #[], .func (.func 101) #[] #[], .func (.func 102) #[] #[]] CodeT)).alloc (.cells #[.int .i64 oc, .int .i64 oa, .int .i64 ob, .int .u64 on, .string os] OpT)) = W at *
  have HC := Lib.hid (show W.cell? ⟨w.heap.size, 0, none⟩ = some (.func (.func 91) #[] #[]) ∧ W.cell? ⟨w.heap.size, 1, none⟩ = some (.func (.func 101) #[] #[]) ∧ W.cell? ⟨w.heap.size, 2, none⟩ = some (.func (.func 102) #[] #[]) ∧ W.cell? ⟨w.heap.size + 1, 0, none⟩ = some (.int .i64 oc) ∧ W.cell? ⟨w.heap.size + 1, 1, none⟩ = some (.int .i64 oa) ∧ W.cell? ⟨w.heap.size + 1, 2, none⟩ = some (.int .i64 ob) ∧ W.cell? ⟨w.heap.size + 1, 3, none⟩ = some (.int .u64 on) ∧ W.cell? ⟨w.heap.size + 1, 4, none⟩ = some (.string os) from ⟨x0, x1, x2, y0, y1, y2, y3, y4⟩)
  refine (fits_isAny (HP.out.below (Below.refl _ _)) (HK.out.below (Below.refl _ _)) oa).mono ?_
  rintro e w1 ⟨rfl, hu⟩
  have UA := Lib.hid hu
  clear hu
  clear x0 x1 x2 y0 y1 y2 y3 y4
  have x0 := bcellAt UA.out HC.out.1
  have x1 := bcellAt UA.out HC.out.2.1
  have x2 := bcellAt UA.out HC.out.2.2.1
  have y0 := bcellAt UA.out HC.out.2.2.2.1
  have y1 := bcellAt UA.out HC.out.2.2.2.2.1
  have y2 := bcellAt UA.out HC.out.2.2.2.2.2.1
  have y3 := bcellAt UA.out HC.out.2.2.2.2.2.2.1
  have y4 := bcellAt UA.out HC.out.2.2.2.2.2.2.2
  cases hqa : (upB m oa)
  · have er : r = noP p := by rw [HR.out]; exact if_neg (by rw [hqa, Bool.false_and]; decide)
    go_wp2_with fail
    go_returns
    rw [er]
    exact ⟨rfl, Grew.same HP0.out (bmore HA.out UA.out)⟩
  · have hua : upB m oa = true := hqa
    go_wp2_with fail
    refine (fits_isKey (HP.out.below UA.out) (HK.out.below UA.out) ob).mono ?_
    rintro e w2 ⟨rfl, hu⟩
    have UB := Lib.hid (bmore UA.out hu)
    clear hu
    clear x0 x1 x2 y0 y1 y2 y3 y4
    have x0 := bcellAt UB.out HC.out.1
    have x1 := bcellAt UB.out HC.out.2.1
    have x2 := bcellAt UB.out HC.out.2.2.1
    have y0 := bcellAt UB.out HC.out.2.2.2.1
    have y1 := bcellAt UB.out HC.out.2.2.2.2.1
    have y2 := bcellAt UB.out HC.out.2.2.2.2.2.1
    have y3 := bcellAt UB.out HC.out.2.2.2.2.2.2.1
    have y4 := bcellAt UB.out HC.out.2.2.2.2.2.2.2
    cases hqb : (upB m ob && (ndP p m ob).kind == 6)
    · have er : r = noP p := by rw [HR.out]; exact if_neg (by rw [hqa, hqb]; decide)
      go_wp2_with fail
      go_returns
      rw [er]
      exact ⟨rfl, Grew.same HP0.out (bmore HA.out UB.out)⟩
    · have hub : upB m ob = true := by simp only [Bool.and_eq_true] at hqb; exact hqb.1
      go_wp2_with fail
      refine (code_9 (oc := oc) (HP.out.below UB.out) (HL.out.below UB.out) (HK.out.below UB.out) hua hub (HMI.out _ (md_in hua)) (nd_i64 HP0.out _).frm).mono ?_
      rintro e w9 hp9
      have er : r = mkP p ⟨7, (ndP p m ob).frm, 0, 0, emptyS, mdP m oa, 0⟩ := by rw [HR.out]; exact if_pos (by rw [hqa, hqb]; rfl)
      rw [← er] at hp9
      obtain ⟨rfl, g9⟩ := hp9
      have HG := Lib.hid (Grew.after HP0.out (bmore HA.out UB.out) g9)
      clear g9 er HR
      go_wp2_with fail
      go_returns
      exact ⟨rfl, HG.out⟩
set_option maxRecDepth 100000 in
set_option maxHeartbeats 3200000 in
theorem do_10 (hp : IsPool w B a b v p) (hl : Laid w) (hk : Mk w Bm mk a kv mv g m) (hmi : ∀ x ∈ m, i64R x) {oc oa ob on : Int} {os : ByteArray} (hoa : i64R oa) (hon : 0 ≤ on ∧ on ≤ 18446744073709551615) (hos : os.size ≤ maxLen) : Calls Tryd.prog 75 #[.pointer (some ⟨mk, 0, none⟩), .agg #[.func (.func 91) #[] #[], .func (.func 101) #[] #[], .func (.func 104) #[] #[]], .agg #[.int .i64 oc, .int .i64 oa, .int .i64 ob, .int .u64 on, .string os]] w (DoPost w B a b v (doP p g m ⟨10, oa, ob, on, os⟩)) := by
  obtain ⟨bA, hx, hy⟩ := two_boxes w (.cells #[.func (.func 91) #[] #[], .func (.func 101) #[] #[], .func (.func 104) #[] #[]] CodeT) (.cells #[.int .i64 oc, .int .i64 oa, .int .i64 ob, .int .u64 on, .string os] OpT)
  have x0 := cellB (j := 0) hx rfl
  have x1 := cellB (j := 1) hx rfl
  have x2 := cellB (j := 2) hx rfl
  have y0 := cellB (j := 0) hy rfl
  have y1 := cellB (j := 1) hy rfl
  have y2 := cellB (j := 2) hy rfl
  have y3 := cellB (j := 3) hy rfl
  have y4 := cellB (j := 4) hy rfl
  have HP := Lib.hid (hp.below bA)
  have HL := Lib.hid (hl.below bA)
  have HK := Lib.hid (hk.below bA)
  have HA := Lib.hid bA
  have HP0 := Lib.hid hp
  have HMI := Lib.hid hmi
  have HON := Lib.hid hon
  have HOS := Lib.hid hos
  have HOA := Lib.hid hoa
  have hq := eqm_fn 104
  clear hp hl hk hx hy bA hmi hon hos hoa
  obtain ⟨r, hr⟩ : ∃ r, r = doP p g m ⟨10, oa, ob, on, os⟩ := ⟨_, rfl⟩
  rw [← hr]
  rw [show doP p g m ⟨10, oa, ob, on, os⟩ = (if (upB m oa && (upB m ob && (ndP p m ob).kind == 6)) = true then mkP p ⟨8, (ndP p m ob).frm, nmP on, 0, emptyS, mdP m oa, 0⟩ else noP p) from rfl] at hr
  have HR := Lib.hid hr
  clear hr
  go_enter Tryd.func75, Tryd.ntmps75
  go_wp2_with fail
  generalize ((w.alloc (.cells #[.func (.func 91) #[] #[], .func (.func 101) #[] #[], .func (.func 104) #[] #[]] CodeT)).alloc (.cells #[.int .i64 oc, .int .i64 oa, .int .i64 ob, .int .u64 on, .string os] OpT)) = W at *
  have HC := Lib.hid (show W.cell? ⟨w.heap.size, 0, none⟩ = some (.func (.func 91) #[] #[]) ∧ W.cell? ⟨w.heap.size, 1, none⟩ = some (.func (.func 101) #[] #[]) ∧ W.cell? ⟨w.heap.size, 2, none⟩ = some (.func (.func 104) #[] #[]) ∧ W.cell? ⟨w.heap.size + 1, 0, none⟩ = some (.int .i64 oc) ∧ W.cell? ⟨w.heap.size + 1, 1, none⟩ = some (.int .i64 oa) ∧ W.cell? ⟨w.heap.size + 1, 2, none⟩ = some (.int .i64 ob) ∧ W.cell? ⟨w.heap.size + 1, 3, none⟩ = some (.int .u64 on) ∧ W.cell? ⟨w.heap.size + 1, 4, none⟩ = some (.string os) from ⟨x0, x1, x2, y0, y1, y2, y3, y4⟩)
  refine (fits_isAny (HP.out.below (Below.refl _ _)) (HK.out.below (Below.refl _ _)) oa).mono ?_
  rintro e w1 ⟨rfl, hu⟩
  have UA := Lib.hid hu
  clear hu
  clear x0 x1 x2 y0 y1 y2 y3 y4
  have x0 := bcellAt UA.out HC.out.1
  have x1 := bcellAt UA.out HC.out.2.1
  have x2 := bcellAt UA.out HC.out.2.2.1
  have y0 := bcellAt UA.out HC.out.2.2.2.1
  have y1 := bcellAt UA.out HC.out.2.2.2.2.1
  have y2 := bcellAt UA.out HC.out.2.2.2.2.2.1
  have y3 := bcellAt UA.out HC.out.2.2.2.2.2.2.1
  have y4 := bcellAt UA.out HC.out.2.2.2.2.2.2.2
  cases hqa : (upB m oa)
  · have er : r = noP p := by rw [HR.out]; exact if_neg (by rw [hqa, Bool.false_and]; decide)
    go_wp2_with fail
    go_returns
    rw [er]
    exact ⟨rfl, Grew.same HP0.out (bmore HA.out UA.out)⟩
  · have hua : upB m oa = true := hqa
    go_wp2_with fail
    refine (fits_isKey (HP.out.below UA.out) (HK.out.below UA.out) ob).mono ?_
    rintro e w2 ⟨rfl, hu⟩
    have UB := Lib.hid (bmore UA.out hu)
    clear hu
    clear x0 x1 x2 y0 y1 y2 y3 y4
    have x0 := bcellAt UB.out HC.out.1
    have x1 := bcellAt UB.out HC.out.2.1
    have x2 := bcellAt UB.out HC.out.2.2.1
    have y0 := bcellAt UB.out HC.out.2.2.2.1
    have y1 := bcellAt UB.out HC.out.2.2.2.2.1
    have y2 := bcellAt UB.out HC.out.2.2.2.2.2.1
    have y3 := bcellAt UB.out HC.out.2.2.2.2.2.2.1
    have y4 := bcellAt UB.out HC.out.2.2.2.2.2.2.2
    cases hqb : (upB m ob && (ndP p m ob).kind == 6)
    · have er : r = noP p := by rw [HR.out]; exact if_neg (by rw [hqa, hqb]; decide)
      go_wp2_with fail
      go_returns
      rw [er]
      exact ⟨rfl, Grew.same HP0.out (bmore HA.out UB.out)⟩
    · have hub : upB m ob = true := by simp only [Bool.and_eq_true] at hqb; exact hqb.1
      go_wp2_with fail
      refine (code_10 (oc := oc) (HP.out.below UB.out) (HL.out.below UB.out) (HK.out.below UB.out) hua hub (HMI.out _ (md_in hua)) (nd_i64 HP0.out _).frm HON.out).mono ?_
      rintro e w9 hp9
      have er : r = mkP p ⟨8, (ndP p m ob).frm, nmP on, 0, emptyS, mdP m oa, 0⟩ := by rw [HR.out]; exact if_pos (by rw [hqa, hqb]; rfl)
      rw [← er] at hp9
      obtain ⟨rfl, g9⟩ := hp9
      have HG := Lib.hid (Grew.after HP0.out (bmore HA.out UB.out) g9)
      clear g9 er HR
      go_wp2_with fail
      go_returns
      exact ⟨rfl, HG.out⟩
set_option maxRecDepth 100000 in
set_option maxHeartbeats 3200000 in
theorem do_11 (hp : IsPool w B a b v p) (hl : Laid w) (hk : Mk w Bm mk a kv mv g m) (hmi : ∀ x ∈ m, i64R x) {oc oa ob on : Int} {os : ByteArray} (hoa : i64R oa) (hon : 0 ≤ on ∧ on ≤ 18446744073709551615) (hos : os.size ≤ maxLen) : Calls Tryd.prog 75 #[.pointer (some ⟨mk, 0, none⟩), .agg #[.func (.func 91) #[] #[], .func (.func 101) #[] #[], .func (.func 107) #[] #[]], .agg #[.int .i64 oc, .int .i64 oa, .int .i64 ob, .int .u64 on, .string os]] w (DoPost w B a b v (doP p g m ⟨11, oa, ob, on, os⟩)) := by
  obtain ⟨bA, hx, hy⟩ := two_boxes w (.cells #[.func (.func 91) #[] #[], .func (.func 101) #[] #[], .func (.func 107) #[] #[]] CodeT) (.cells #[.int .i64 oc, .int .i64 oa, .int .i64 ob, .int .u64 on, .string os] OpT)
  have x0 := cellB (j := 0) hx rfl
  have x1 := cellB (j := 1) hx rfl
  have x2 := cellB (j := 2) hx rfl
  have y0 := cellB (j := 0) hy rfl
  have y1 := cellB (j := 1) hy rfl
  have y2 := cellB (j := 2) hy rfl
  have y3 := cellB (j := 3) hy rfl
  have y4 := cellB (j := 4) hy rfl
  have HP := Lib.hid (hp.below bA)
  have HL := Lib.hid (hl.below bA)
  have HK := Lib.hid (hk.below bA)
  have HA := Lib.hid bA
  have HP0 := Lib.hid hp
  have HMI := Lib.hid hmi
  have HON := Lib.hid hon
  have HOS := Lib.hid hos
  have HOA := Lib.hid hoa
  have hq := eqm_fn 107
  clear hp hl hk hx hy bA hmi hon hos hoa
  obtain ⟨r, hr⟩ : ∃ r, r = doP p g m ⟨11, oa, ob, on, os⟩ := ⟨_, rfl⟩
  rw [← hr]
  rw [show doP p g m ⟨11, oa, ob, on, os⟩ = (if (upB m oa && (upB m ob && (ndP p m ob).kind == 6)) = true then mkP p ⟨9, nmP on, (ndP p m ob).frm, 0, emptyS, mdP m oa, 0⟩ else noP p) from rfl] at hr
  have HR := Lib.hid hr
  clear hr
  go_enter Tryd.func75, Tryd.ntmps75
  go_wp2_with fail
  generalize ((w.alloc (.cells #[.func (.func 91) #[] #[], .func (.func 101) #[] #[], .func (.func 107) #[] #[]] CodeT)).alloc (.cells #[.int .i64 oc, .int .i64 oa, .int .i64 ob, .int .u64 on, .string os] OpT)) = W at *
  have HC := Lib.hid (show W.cell? ⟨w.heap.size, 0, none⟩ = some (.func (.func 91) #[] #[]) ∧ W.cell? ⟨w.heap.size, 1, none⟩ = some (.func (.func 101) #[] #[]) ∧ W.cell? ⟨w.heap.size, 2, none⟩ = some (.func (.func 107) #[] #[]) ∧ W.cell? ⟨w.heap.size + 1, 0, none⟩ = some (.int .i64 oc) ∧ W.cell? ⟨w.heap.size + 1, 1, none⟩ = some (.int .i64 oa) ∧ W.cell? ⟨w.heap.size + 1, 2, none⟩ = some (.int .i64 ob) ∧ W.cell? ⟨w.heap.size + 1, 3, none⟩ = some (.int .u64 on) ∧ W.cell? ⟨w.heap.size + 1, 4, none⟩ = some (.string os) from ⟨x0, x1, x2, y0, y1, y2, y3, y4⟩)
  refine (fits_isAny (HP.out.below (Below.refl _ _)) (HK.out.below (Below.refl _ _)) oa).mono ?_
  rintro e w1 ⟨rfl, hu⟩
  have UA := Lib.hid hu
  clear hu
  clear x0 x1 x2 y0 y1 y2 y3 y4
  have x0 := bcellAt UA.out HC.out.1
  have x1 := bcellAt UA.out HC.out.2.1
  have x2 := bcellAt UA.out HC.out.2.2.1
  have y0 := bcellAt UA.out HC.out.2.2.2.1
  have y1 := bcellAt UA.out HC.out.2.2.2.2.1
  have y2 := bcellAt UA.out HC.out.2.2.2.2.2.1
  have y3 := bcellAt UA.out HC.out.2.2.2.2.2.2.1
  have y4 := bcellAt UA.out HC.out.2.2.2.2.2.2.2
  cases hqa : (upB m oa)
  · have er : r = noP p := by rw [HR.out]; exact if_neg (by rw [hqa, Bool.false_and]; decide)
    go_wp2_with fail
    go_returns
    rw [er]
    exact ⟨rfl, Grew.same HP0.out (bmore HA.out UA.out)⟩
  · have hua : upB m oa = true := hqa
    go_wp2_with fail
    refine (fits_isKey (HP.out.below UA.out) (HK.out.below UA.out) ob).mono ?_
    rintro e w2 ⟨rfl, hu⟩
    have UB := Lib.hid (bmore UA.out hu)
    clear hu
    clear x0 x1 x2 y0 y1 y2 y3 y4
    have x0 := bcellAt UB.out HC.out.1
    have x1 := bcellAt UB.out HC.out.2.1
    have x2 := bcellAt UB.out HC.out.2.2.1
    have y0 := bcellAt UB.out HC.out.2.2.2.1
    have y1 := bcellAt UB.out HC.out.2.2.2.2.1
    have y2 := bcellAt UB.out HC.out.2.2.2.2.2.1
    have y3 := bcellAt UB.out HC.out.2.2.2.2.2.2.1
    have y4 := bcellAt UB.out HC.out.2.2.2.2.2.2.2
    cases hqb : (upB m ob && (ndP p m ob).kind == 6)
    · have er : r = noP p := by rw [HR.out]; exact if_neg (by rw [hqa, hqb]; decide)
      go_wp2_with fail
      go_returns
      rw [er]
      exact ⟨rfl, Grew.same HP0.out (bmore HA.out UB.out)⟩
    · have hub : upB m ob = true := by simp only [Bool.and_eq_true] at hqb; exact hqb.1
      go_wp2_with fail
      refine (code_11 (oc := oc) (HP.out.below UB.out) (HL.out.below UB.out) (HK.out.below UB.out) hua hub (HMI.out _ (md_in hua)) (nd_i64 HP0.out _).frm HON.out).mono ?_
      rintro e w9 hp9
      have er : r = mkP p ⟨9, nmP on, (ndP p m ob).frm, 0, emptyS, mdP m oa, 0⟩ := by rw [HR.out]; exact if_pos (by rw [hqa, hqb]; rfl)
      rw [← er] at hp9
      obtain ⟨rfl, g9⟩ := hp9
      have HG := Lib.hid (Grew.after HP0.out (bmore HA.out UB.out) g9)
      clear g9 er HR
      go_wp2_with fail
      go_returns
      exact ⟨rfl, HG.out⟩
set_option maxRecDepth 100000 in
theorem do_none (hp : IsPool w B a b v p) {oc oa ob on : Int} {os : ByteArray} : Calls Tryd.prog 75 #[.pointer (some ⟨mk, 0, none⟩), .agg #[.nilFunc, .nilFunc, .nilFunc], .agg #[.int .i64 oc, .int .i64 oa, .int .i64 ob, .int .u64 on, .string os]] w (DoPost w B a b v (noP p)) := by
  obtain ⟨bA, hx, hy⟩ := two_boxes w (.cells #[.nilFunc, .nilFunc, .nilFunc] CodeT) (.cells #[.int .i64 oc, .int .i64 oa, .int .i64 ob, .int .u64 on, .string os] OpT)
  have x2 := cellB (j := 2) hx rfl
  have HA := Lib.hid bA
  have HP0 := Lib.hid hp
  have hq := eqm_nil
  clear hp hx hy bA
  go_enter Tryd.func75, Tryd.ntmps75
  go_wp2_with fail
  go_returns
  exact ⟨rfl, Grew.same HP0.out HA.out⟩
/-- An operation, whatever its code. -/
theorem do_any (hp : IsPool w B a b v p) (hl : Laid w) (hk : Mk w Bm mk a kv mv g m) (hmi : ∀ x ∈ m, i64R x) {o : OpP} (ho : OpOk o) : Calls Tryd.prog 75 #[.pointer (some ⟨mk, 0, none⟩), codeV (tabP o.code), .agg (opA o)] w (DoPost w B a b v (doP p g m o)) := by
  obtain ⟨c, oa, ob, on, os⟩ := o
  obtain ⟨h1, h2, h3, h4, h5⟩ := ho
  simp only at h1 h2 h3 h4 h5 ⊢
  rcases (by omega : c = 0 ∨ c = 1 ∨ c = 2 ∨ c = 3 ∨ c = 4 ∨ c = 5 ∨ c = 6 ∨ c = 7 ∨ c = 8 ∨ c = 9 ∨ c = 10 ∨ c = 11 ∨ c < 0 ∨ 11 < c) with e | e | e | e | e | e | e | e | e | e | e | e | e | e
  · subst e; exact do_0 hp hl hk hmi h2 h4 h5
  · subst e; exact do_1 hp hl hk hmi h2 h4 h5
  · subst e; exact do_2 hp hl hk hmi h2 h4 h5
  · subst e; exact do_3 hp hl hk hmi h2 h4 h5
  · subst e; exact do_4 hp hl hk hmi h2 h4 h5
  · subst e; exact do_5 hp hl hk hmi h2 h4 h5
  · subst e; exact do_6 hp hl hk hmi h2 h4 h5
  · subst e; exact do_7 hp hl hk hmi h2 h4 h5
  · subst e; exact do_8 hp hl hk hmi h2 h4 h5
  · subst e; exact do_9 hp hl hk hmi h2 h4 h5
  · subst e; exact do_10 hp hl hk hmi h2 h4 h5
  · subst e; exact do_11 hp hl hk hmi h2 h4 h5
  all_goals
    have e1 : tabP c = (none, none, none) := by
      unfold tabP
      rw [if_neg (by omega), if_neg (by omega), if_neg (by omega), if_neg (by omega), if_neg (by omega), if_neg (by omega), if_neg (by omega), if_neg (by omega), if_neg (by omega), if_neg (by omega), if_neg (by omega), if_neg (by omega)]
    have e2 : doP p g m ⟨c, oa, ob, on, os⟩ = noP p := by
      unfold doP
      rw [if_neg (by simp only; omega), if_neg (by simp only; omega), if_neg (by simp only; omega), if_neg (by simp only; omega), if_neg (by simp only; omega), if_neg (by simp only; omega), if_neg (by simp only; omega), if_neg (by simp only; omega), if_neg (by simp only; omega), if_neg (by simp only; omega), if_neg (by simp only; omega), if_neg (by simp only; omega)]
    rw [e1, e2]
    exact do_none hp
end
end Go.Proofs.YtjpkeoenajlmeaaDoor
