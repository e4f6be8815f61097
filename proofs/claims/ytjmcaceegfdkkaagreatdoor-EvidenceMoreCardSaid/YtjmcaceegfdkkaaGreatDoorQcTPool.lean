/-
  A pool in memory; what is asked of it: Len, holds, look, Size, Depth, Node.
-/
import Derived.Test.YtjmcaceegfdkkaaGreatDoorQcTKey
namespace Go.Proofs.YtjmcaceegfdkkaaGreatDoor
open Go.RowKit Go.Maps
set_option linter.unusedVariables false
abbrev PoolT : TypeId := 126
abbrev MadeT : TypeId := 221
abbrev MapNT : TypeId := 123
abbrev TermT : TypeId := 23
def madeA (m : Md) : Array Value := #[.int .i64 m.1.kind, .int .i64 m.1.frm, .int .i64 m.1.to, .int .u64 m.1.num, .string m.1.text, .int .i64 m.1.a, .int .i64 m.1.b, .int .i64 m.2.1, .int .i64 m.2.2]
def mcs (m : Md) : List Value := [.int .i64 m.1.kind, .int .i64 m.1.frm, .int .i64 m.1.to, .int .u64 m.1.num, .string m.1.text, .int .i64 m.1.a, .int .i64 m.1.b, .int .i64 m.2.1, .int .i64 m.2.2]
def mades (l : Pl) : List Value := l.flatMap mcs
theorem mades_append (a b : Pl) : mades (a ++ b) = mades a ++ mades b := by simp [mades]
theorem mades_one (m : Md) : mades [m] = mcs m := by simp [mades]
theorem mades_at (l : Pl) : ∀ (i : Nat) (h : i < l.length), (mades l)[i * 9]? = some (.int .i64 (l[i]).1.kind) ∧ (mades l)[i * 9 + 1]? = some (.int .i64 (l[i]).1.frm) ∧ (mades l)[i * 9 + 2]? = some (.int .i64 (l[i]).1.to) ∧ (mades l)[i * 9 + 3]? = some (.int .u64 (l[i]).1.num) ∧ (mades l)[i * 9 + 4]? = some (.string (l[i]).1.text) ∧ (mades l)[i * 9 + 5]? = some (.int .i64 (l[i]).1.a) ∧ (mades l)[i * 9 + 6]? = some (.int .i64 (l[i]).1.b) ∧ (mades l)[i * 9 + 7]? = some (.int .i64 (l[i]).2.1) ∧ (mades l)[i * 9 + 8]? = some (.int .i64 (l[i]).2.2) := by
 induction l with
 | nil => intro i h; simp at h
 | cons a l ih =>
  intro i h
  have e : mades (a :: l) = .int .i64 a.1.kind :: .int .i64 a.1.frm :: .int .i64 a.1.to :: .int .u64 a.1.num :: .string a.1.text :: .int .i64 a.1.a :: .int .i64 a.1.b :: .int .i64 a.2.1 :: .int .i64 a.2.2 :: mades l := by simp [mades, mcs]
  cases i with
  | zero => simp [e]
  | succ i =>
   have := ih i (by simpa using h)
   have hx : ∀ j, (mades (a :: l))[(i + 1) * 9 + j]? = (mades l)[i * 9 + j]? := fun j => by
    rw [e, show (i + 1) * 9 + j = i * 9 + j + 1 + 1 + 1 + 1 + 1 + 1 + 1 + 1 + 1 by omega]
    simp
   have h0 := hx 0
   simp only [Nat.add_zero] at h0
   rw [h0, hx 1, hx 2, hx 3, hx 4, hx 5, hx 6, hx 7, hx 8]
   simpa using this
theorem numP_add {p : Pl} {n : Nd} (hn : numP p n = 0) (x : Nd) : numP (addP p n) x = if x = n then p.length + 1 else numP p x := by
 unfold numP addP
 rw [List.findIdx?_append]
 by_cases e : x = n
 ·subst e
  rw [if_pos rfl]
  have h0 : p.findIdx? (fun m => decide (m.1 = x)) = none := by
   rw [List.findIdx?_eq_none_iff]
   intro m hm
   simpa using numP_zero.1 hn m hm
  rw [h0]
  simp [List.findIdx?_cons]
 ·rw [if_neg e]
  cases h : p.findIdx? (fun m => decide (m.1 = x)) with
  | some i => simp
  | none =>
   have e' : ¬ n = x := fun h => e h.symm
   simp [List.findIdx?_cons, e']
structure DictN (p : Pl) (D : DataW Unit) : Prop where
 map : IsMap D
 has : ∀ n, NdOk n → (Maps.has D (keyN n) = true ↔ numP p n ≠ 0)
 at_ : ∀ n, NdOk n → numP p n ≠ 0 → D.atKey (keyN n) (.lit (.int .i64 0)) = .lit (.int .i64 (numP p n : Int))
theorem DictN.nil : DictN [] (.map []) := ⟨isMap_empty, fun n _ => by simp [Maps.has, numP], fun n _ h => by simp [numP] at h⟩
theorem DictN.snoc {p : Pl} {D : DataW Unit} (h : DictN p D) {n : Nd} (hn : numP p n = 0) (hok : NdOk n) : DictN (addP p n) (D.put (keyN n) (.lit (.int .i64 ((p.length : Int) + 1)))) := by
 have hk := lawN.key (keyN_of hok)
 refine ⟨h.map.put _ _, fun x hx => ?_, fun x hx h0 => ?_⟩
 ·rw [numP_add hn]
  by_cases e : x = n
  ·subst e
   rw [has_put_same h.map hk, if_pos rfl]; simp
  ·rw [has_put_other (fun e' => e (keyN_inj hx hok e')), h.has x hx, if_neg e]
 ·rw [numP_add hn] at h0 ⊢
  by_cases e : x = n
  ·subst e
   rw [atKey_put_same h.map hk, if_pos rfl]; simp
  ·rw [if_neg e] at h0 ⊢
   rw [atKey_put_other (fun e' => e (keyN_inj hx hok e'))]
   exact h.at_ x hx h0
structure IsPool (w : World) (B a b : Nat) (v : Value) (p : Pl) : Prop where
 lay : w.heap[a]? = some (Obj.cells #[.map (some b), v] PoolT)
 ga : B ≤ a
 gb : B ≤ b
 row : w.ownsRow B MadeT 9 v p.length (mades p)
 dict : ∃ D : DataW Unit, w.ownsMap Tryz.prog NodeT (plainElem Tryz.prog TermT) b p.length D ∧ DictN p D
 ok : Ok p
 nok : ∀ m ∈ p, NdOk m.1
theorem ownsMap_below {w w' : World} {b n : Nat} {D : DataW Unit} (h : w.ownsMap Tryz.prog NodeT (plainElem Tryz.prog TermT) b n D) (hb : Below w.heap.size w w') : w'.ownsMap Tryz.prog NodeT (plainElem Tryz.prog TermT) b n D := by
 have hl := h.lt
 obtain ⟨es, clock, h1, h2⟩ := h
 exact ⟨es, clock, by rw [hb.block b hl]; exact h1, h2⟩
theorem IsPool.below {w w' : World} {B a b : Nat} {v : Value} {p : Pl} (h : IsPool w B a b v p) (hb : Below w.heap.size w w') : IsPool w' B a b v p := by
 obtain ⟨D, h1, h2⟩ := h.dict
 exact ⟨Hold.below hb _ _ h.lay, h.ga, h.gb, own_hold h.row (Hold.below hb), ⟨D, ownsMap_below h1 hb, h2⟩, h.ok, h.nok⟩
section
variable {w : World} {B a b : Nat} {v : Value} {p : Pl}
theorem IsPool.lt (h : IsPool w B a b v p) : a < w.heap.size := (Array.getElem?_eq_some_iff.1 h.lay).1
set_option maxHeartbeats 400000 in
theorem plen (h : IsPool w B a b v p) : Calls Tryz.prog 22 #[.pointer (some ⟨a, 0, none⟩)] w fun e w' => e = .returned (.int .i64 (p.length : Int)) ∧ w = w' := by
 obtain ⟨av, cv, rfl⟩ := (row_of_own h.row).shape
 have c1 : w.cell? ⟨a, 1, none⟩ = some (.slice av p.length cv) := cellB h.lay rfl
 clear h
 go_enter Tryz.func22, Tryz.ntmps22
 go_wp2_with fail
 go_returns
 exact ⟨rfl, rfl⟩
set_option maxHeartbeats 800000 in
theorem pholds (h : IsPool w B a b v p) (t : Int) : Calls Tryz.prog 134 #[.pointer (some ⟨a, 0, none⟩), .int .i64 t] w fun e w' => e = .returned (.bool (inP p t)) ∧ w = w' := by
 have H := Lib.hid h
 clear h
 unfold inP
 by_cases h1 : 1 ≤ t
 ·rw [decide_eq_true h1, Bool.true_and]
  go_enter Tryz.func134, Tryz.ntmps134
  go_wp2_with fail
  refine (plen H.out).mono ?_
  rintro e w1 ⟨rfl, rfl⟩
  cases hd : decide (t ≤ (p.length : Int))
  all_goals
   go_wp2_with fail
   go_returns
   exact ⟨by simp [hd], rfl⟩
 ·have h1' : decide (1 ≤ t) = false := decide_eq_false h1
  rw [h1', Bool.false_and]
  go_enter Tryz.func134, Tryz.ntmps134
  go_wp2_with fail
  go_returns
  exact ⟨rfl, rfl⟩
theorem field_node (W : World) (x0 x1 x2 x3 x4 x5 x6 x7 x8 : Value) : (Instr.field MadeT (.agg #[x0, x1, x2, x3, x4, x5, x6, x7, x8]) 0).run Tryz.prog W = .ok (.agg #[x0, x1, x2, x3, x4, x5, x6]) W := by kernel_rfl
theorem field_size (W : World) (x0 x1 x2 x3 x4 x5 x6 x7 x8 : Value) : (Instr.field MadeT (.agg #[x0, x1, x2, x3, x4, x5, x6, x7, x8]) 1).run Tryz.prog W = .ok x7 W := by kernel_rfl
theorem field_depth (W : World) (x0 x1 x2 x3 x4 x5 x6 x7 x8 : Value) : (Instr.field MadeT (.agg #[x0, x1, x2, x3, x4, x5, x6, x7, x8]) 2).run Tryz.prog W = .ok x8 W := by kernel_rfl
theorem getD_at {p : Pl} {n : Nat} (hn : n < p.length) : atP p ((n : Int) + 1) = p[n] := by
 have h : inP p ((n : Int) + 1) = true := by simp [inP]; omega
 unfold atP
 rw [if_pos h, List.getD_eq_getElem?_getD, show ((n : Int) + 1).toNat - 1 = n by omega, List.getElem?_eq_getElem hn]
 rfl
set_option maxRecDepth 100000 in
set_option maxHeartbeats 1600000 in
theorem plook (h : IsPool w B a b v p) (t : Int) : Calls Tryz.prog 133 #[.pointer (some ⟨a, 0, none⟩), .int .i64 t] w fun e w' => e = .returned (.agg (madeA (atP p t))) ∧ Below w.heap.size w w' := by
 have bA : Below w.heap.size w (w.alloc (.cells #[.int .i64 0, .int .i64 0, .int .i64 0, .int .u64 0, .string ⟨#[]⟩, .int .i64 0, .int .i64 0, .int .i64 0, .int .i64 0] MadeT)) := (Below.refl _ _).alloc (Nat.le_refl _) _
 by_cases hin : inP p t = true
 ·have hi := hin
  simp only [inP, Bool.and_eq_true, decide_eq_true_eq] at hi
  obtain ⟨n, hn0⟩ := Int.eq_ofNat_of_zero_le (show 0 ≤ t - 1 by omega)
  obtain rfl : t = (n : Int) + 1 := by omega
  have hn : n < p.length := by omega
  have HI := Lib.hid hin
  clear hn0 hi hin
  rw [getD_at hn]
  obtain ⟨av, cv, hv, hx⟩ := (row_of_own h.row).at2
  obtain ⟨gb, go, rfl, q⟩ := hx (by omega)
  subst hv
  have d1 : w.cell? ⟨a, 1, none⟩ = some (.slice (some ⟨gb, go, none⟩) p.length cv) := cellB h.lay rfl
  have c0 := q _ _ (mades_at p n hn).1
  have c1 := q _ _ (mades_at p n hn).2.1
  have c2 := q _ _ (mades_at p n hn).2.2.1
  have c3 := q _ _ (mades_at p n hn).2.2.2.1
  have c4 := q _ _ (mades_at p n hn).2.2.2.2.1
  have c5 := q _ _ (mades_at p n hn).2.2.2.2.2.1
  have c6 := q _ _ (mades_at p n hn).2.2.2.2.2.2.1
  have c7 := q _ _ (mades_at p n hn).2.2.2.2.2.2.2.1
  have c8 := q _ _ (mades_at p n hn).2.2.2.2.2.2.2.2
  simp only [← Nat.add_assoc] at c1 c2 c3 c4 c5 c6 c7 c8
  clear q hx
  generalize p[n] = m at *
  have H := Lib.hid (h.below bA)
  clear h
  replace d1 := bcellAt bA d1
  replace c0 := bcellAt bA c0
  replace c1 := bcellAt bA c1
  replace c2 := bcellAt bA c2
  replace c3 := bcellAt bA c3
  replace c4 := bcellAt bA c4
  replace c5 := bcellAt bA c5
  replace c6 := bcellAt bA c6
  replace c7 := bcellAt bA c7
  replace c8 := bcellAt bA c8
  clear bA
  have hn0 : (0 : Int) ≤ (n : Int) := by omega
  have hn1 : (n : Int) < (p.length : Int) := by omega
  have hhold : ∀ W, IsPool W B a b (.slice (some ⟨gb, go, none⟩) p.length cv) p → Calls Tryz.prog 134 #[.pointer (some ⟨a, 0, none⟩), .int .i64 ((n : Int) + 1)] W fun e w' => e = .returned (.bool true) ∧ W = w' := fun W hW => by
   have := pholds hW ((n : Int) + 1)
   rwa [HI.out] at this
  have HH := Lib.hid hhold
  clear hhold
  have hlen : p.length ≤ 65536 := H.out.ok.len
  go_enter Tryz.func133, Tryz.ntmps133
  go_wp2_with fail
  refine (HH.out _ H.out).mono ?_
  rintro e w1 ⟨rfl, rfl⟩
  go_wp2_with fail
  refine bodyPost_ret (v := .agg (madeA m)) (by simp [madeA, results, Tryz.results133, go_sem]) rfl ⟨rfl, ?_⟩
  exact (Below.refl _ _).alloc (Nat.le_refl _) _
 ·have hin' : inP p t = false := by simpa using hin
  rw [atP_out hin']
  have HI := Lib.hid hin'
  have H := Lib.hid (h.below bA)
  clear h bA hin hin'
  have hhold : ∀ W, IsPool W B a b v p → Calls Tryz.prog 134 #[.pointer (some ⟨a, 0, none⟩), .int .i64 t] W fun e w' => e = .returned (.bool false) ∧ W = w' := fun W hW => by
   have := pholds hW t
   rwa [HI.out] at this
  have HH := Lib.hid hhold
  clear hhold
  go_enter Tryz.func133, Tryz.ntmps133
  go_wp2_with fail
  refine (HH.out _ H.out).mono ?_
  rintro e w1 ⟨rfl, rfl⟩
  go_wp2_with fail
  refine bodyPost_ret (v := .agg #[.int .i64 0, .int .i64 0, .int .i64 0, .int .u64 0, .string ⟨#[]⟩, .int .i64 0, .int .i64 0, .int .i64 0, .int .i64 0]) (by simp [results, Tryz.results133, go_sem]) rfl ⟨rfl, ?_⟩
  exact (Below.refl _ _).alloc (Nat.le_refl _) _
set_option maxRecDepth 100000 in
set_option maxHeartbeats 800000 in
theorem psize (h : IsPool w B a b v p) (t : Int) : Calls Tryz.prog 190 #[.pointer (some ⟨a, 0, none⟩), .int .i64 t] w fun e w' => e = .returned (.int .i64 (szP p t)) ∧ Below w.heap.size w w' := by
 have H := Lib.hid h
 clear h
 unfold szP
 have hfd := field_size
 go_enter Tryz.func190, Tryz.ntmps190
 go_wp2_with fail
 refine (plook H.out t).mono ?_
 rintro e w1 ⟨rfl, u1⟩
 have HU := Lib.hid u1
 clear u1
 simp only [madeA]
 go_wp2_with fail
 go_returns
 exact ⟨rfl, HU.out⟩
set_option maxRecDepth 100000 in
set_option maxHeartbeats 800000 in
theorem pdepth (h : IsPool w B a b v p) (t : Int) : Calls Tryz.prog 191 #[.pointer (some ⟨a, 0, none⟩), .int .i64 t] w fun e w' => e = .returned (.int .i64 (dpP p t)) ∧ Below w.heap.size w w' := by
 have H := Lib.hid h
 clear h
 unfold dpP
 have hfd := field_depth
 go_enter Tryz.func191, Tryz.ntmps191
 go_wp2_with fail
 refine (plook H.out t).mono ?_
 rintro e w1 ⟨rfl, u1⟩
 have HU := Lib.hid u1
 clear u1
 simp only [madeA]
 go_wp2_with fail
 go_returns
 exact ⟨rfl, HU.out⟩
set_option maxRecDepth 100000 in
set_option maxHeartbeats 1600000 in
theorem pnode (h : IsPool w B a b v p) (t : Int) : Calls Tryz.prog 87 #[.pointer (some ⟨a, 0, none⟩), .int .i64 t] w fun e w' => e = .returned (.tuple #[.agg (nodeA (atP p t).1), .bool (inP p t)]) ∧ Below w.heap.size w w' := by
 have bA : Below w.heap.size w (w.alloc (.cells #[.int .i64 0, .int .i64 0, .int .i64 0, .int .u64 0, .string ⟨#[]⟩, .int .i64 0, .int .i64 0] NodeT)) := (Below.refl _ _).alloc (Nat.le_refl _) _
 have hb : (w.alloc (.cells #[.int .i64 0, .int .i64 0, .int .i64 0, .int .u64 0, .string ⟨#[]⟩, .int .i64 0, .int .i64 0] NodeT)).heap[w.heap.size]? = some (Obj.cells #[.int .i64 0, .int .i64 0, .int .i64 0, .int .u64 0, .string ⟨#[]⟩, .int .i64 0, .int .i64 0] NodeT) := heap_alloc_new _ _
 have H := Lib.hid (h.below bA)
 have HB := Lib.hid hb
 have HA := Lib.hid bA
 clear h bA hb
 generalize hm : atP p t = m
 generalize hbb : inP p t = bb
 have HM := Lib.hid hm
 have HBB := Lib.hid hbb
 clear hm hbb
 have hfd := field_node
 go_enter Tryz.func87, Tryz.ntmps87
 go_wp2_with fail
 generalize (w.alloc (.cells #[.int .i64 0, .int .i64 0, .int .i64 0, .int .u64 0, .string ⟨#[]⟩, .int .i64 0, .int .i64 0] NodeT)) = W at *
 refine (plook H.out t).mono ?_
 rintro e w1 ⟨rfl, u1⟩
 have H1 := Lib.hid (H.out.below u1)
 have hb1 := Hold.below u1 _ _ HB.out
 have HA1 := Lib.hid (HA.out.trans (u1.mono HA.out.size))
 have x0 := frozenB (j := 0) hb1
 have y0 := cellB (j := 0) hb1 rfl
 have x1 := frozenB (j := 1) hb1
 have y1 := cellB (j := 1) hb1 rfl
 have x2 := frozenB (j := 2) hb1
 have y2 := cellB (j := 2) hb1 rfl
 have x3 := frozenB (j := 3) hb1
 have y3 := cellB (j := 3) hb1 rfl
 have x4 := frozenB (j := 4) hb1
 have y4 := cellB (j := 4) hb1 rfl
 have x5 := frozenB (j := 5) hb1
 have y5 := cellB (j := 5) hb1 rfl
 have x6 := frozenB (j := 6) hb1
 have y6 := cellB (j := 6) hb1 rfl
 clear u1
 rw [HM.out]
 simp only [madeA]
 go_wp2_with fail
 refine (pholds H1.out t).mono ?_
 rintro e w2 ⟨rfl, rfl⟩
 rw [HBB.out]
 go_wp2_with fail
 have hb7 : (((((((w1.setCell ⟨w.heap.size, 0, none⟩ (.int .i64 m.1.kind)).setCell ⟨w.heap.size, 1, none⟩ (.int .i64 m.1.frm)).setCell ⟨w.heap.size, 2, none⟩ (.int .i64 m.1.to)).setCell ⟨w.heap.size, 3, none⟩ (.int .u64 m.1.num)).setCell ⟨w.heap.size, 4, none⟩ (.string m.1.text)).setCell ⟨w.heap.size, 5, none⟩ (.int .i64 m.1.a)).setCell ⟨w.heap.size, 6, none⟩ (.int .i64 m.1.b)).heap[w.heap.size]? = some (Obj.cells #[.int .i64 m.1.kind, .int .i64 m.1.frm, .int .i64 m.1.to, .int .u64 m.1.num, .string m.1.text, .int .i64 m.1.a, .int .i64 m.1.b] NodeT) := (setCellB (j := 6) (u := .int .i64 m.1.b) (setCellB (j := 5) (u := .int .i64 m.1.a) (setCellB (j := 4) (u := .string m.1.text) (setCellB (j := 3) (u := .int .u64 m.1.num) (setCellB (j := 2) (u := .int .i64 m.1.to) (setCellB (j := 1) (u := .int .i64 m.1.frm) (setCellB (j := 0) (u := .int .i64 m.1.kind) hb1)))))))
 have hbl : Below w.heap.size w (((((((w1.setCell ⟨w.heap.size, 0, none⟩ (.int .i64 m.1.kind)).setCell ⟨w.heap.size, 1, none⟩ (.int .i64 m.1.frm)).setCell ⟨w.heap.size, 2, none⟩ (.int .i64 m.1.to)).setCell ⟨w.heap.size, 3, none⟩ (.int .u64 m.1.num)).setCell ⟨w.heap.size, 4, none⟩ (.string m.1.text)).setCell ⟨w.heap.size, 5, none⟩ (.int .i64 m.1.a)).setCell ⟨w.heap.size, 6, none⟩ (.int .i64 m.1.b)) := (((((((HA1.out.setCell (p := ⟨w.heap.size, 0, none⟩) (Nat.le_refl _) _).setCell (p := ⟨w.heap.size, 1, none⟩) (Nat.le_refl _) _).setCell (p := ⟨w.heap.size, 2, none⟩) (Nat.le_refl _) _).setCell (p := ⟨w.heap.size, 3, none⟩) (Nat.le_refl _) _).setCell (p := ⟨w.heap.size, 4, none⟩) (Nat.le_refl _) _).setCell (p := ⟨w.heap.size, 5, none⟩) (Nat.le_refl _) _).setCell (p := ⟨w.heap.size, 6, none⟩) (Nat.le_refl _) _)
 generalize (((((((w1.setCell ⟨w.heap.size, 0, none⟩ (.int .i64 m.1.kind)).setCell ⟨w.heap.size, 1, none⟩ (.int .i64 m.1.frm)).setCell ⟨w.heap.size, 2, none⟩ (.int .i64 m.1.to)).setCell ⟨w.heap.size, 3, none⟩ (.int .u64 m.1.num)).setCell ⟨w.heap.size, 4, none⟩ (.string m.1.text)).setCell ⟨w.heap.size, 5, none⟩ (.int .i64 m.1.a)).setCell ⟨w.heap.size, 6, none⟩ (.int .i64 m.1.b)) = W7 at *
 have c0 : W7.cell? ⟨w.heap.size, 0, none⟩ = some (.int .i64 m.1.kind) := cellB hb7 rfl
 have c1 : W7.cell? ⟨w.heap.size, 1, none⟩ = some (.int .i64 m.1.frm) := cellB hb7 rfl
 have c2 : W7.cell? ⟨w.heap.size, 2, none⟩ = some (.int .i64 m.1.to) := cellB hb7 rfl
 have c3 : W7.cell? ⟨w.heap.size, 3, none⟩ = some (.int .u64 m.1.num) := cellB hb7 rfl
 have c4 : W7.cell? ⟨w.heap.size, 4, none⟩ = some (.string m.1.text) := cellB hb7 rfl
 have c5 : W7.cell? ⟨w.heap.size, 5, none⟩ = some (.int .i64 m.1.a) := cellB hb7 rfl
 have c6 : W7.cell? ⟨w.heap.size, 6, none⟩ = some (.int .i64 m.1.b) := cellB hb7 rfl
 refine bodyPost_ret (v := .tuple #[.agg #[.int .i64 m.1.kind, .int .i64 m.1.frm, .int .i64 m.1.to, .int .u64 m.1.num, .string m.1.text, .int .i64 m.1.a, .int .i64 m.1.b], .bool bb]) (by simp [results, Tryz.results87, go_sem, c0, c1, c2, c3, c4, c5, c6]) rfl ⟨rfl, hbl⟩
end
end Go.Proofs.YtjmcaceegfdkkaaGreatDoor
