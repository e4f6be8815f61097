/-
  The calls of each kind; New; the law's live.
  The document's own pool in memory: In, Size, Depth, Node, Has.
-/
import Derived.Test.YtjmcaceegfdkkaaGreatDoorQcTMake
namespace Go.Proofs.YtjmcaceegfdkkaaGreatDoor
open Go.RowKit Go.Maps
set_option linter.unusedVariables false
theorem i64R_lit {n : Int} (h : -1000 ≤ n ∧ n ≤ 1000000) : i64R n := by unfold i64R; omega
theorem emptyS_le : emptyS.size ≤ maxLen := by decide
section
variable {w : World} {B a b : Nat} {v : Value} {p : Pl}
end
set_option maxHeartbeats 800000 in
theorem pnew (w : World) : Calls Tryz.prog 61 #[] w fun e w' => e = .returned (.pointer (some ⟨w.heap.size + 1, 0, none⟩)) ∧ IsPool w' w.heap.size (w.heap.size + 1) w.heap.size (.slice none 0 0) [] ∧ Below w.heap.size w w' := by
 have hmm := @run_makeMap Tryz.prog
 go_enter Tryz.func61, Tryz.ntmps61
 go_wp2_with fail
 go_returns
 refine ⟨rfl, ⟨?_, by omega, Nat.le_refl _, World.ownsRow_nil _ _ _ 9, ⟨_, (World.ownsMap_made w _ _ _).alloc _, DictN.nil⟩, Ok.nil, fun m hm => by cases hm⟩, ((Below.refl _ _).alloc (Nat.le_refl _) _).alloc (by simp) _⟩
 have e : w.heap.size + 1 = (w.alloc (.map #[] 0)).heap.size := by simp
 rw [e]
 exact heap_alloc_new _ _
theorem num12_any (n : Int) (w : World) : Calls Tryz.prog 31 #[.int .i64 n] w fun e w' => e = .returned (.int .i64 n) ∧ w = w' := by
 go_enter Tryz.func31, Tryz.ntmps31
 go_wp2_with fail
 go_returns
 exact ⟨rfl, rfl⟩
end Go.Proofs.YtjmcaceegfdkkaaGreatDoor
namespace Go.Proofs.YtjmcaceegfdkkaaGreatDoor
open Go.RowKit Go.Maps
set_option linter.unusedVariables false
def litsN (n : Nd) : List Lit := [.int .i64 n.kind, .int .i64 n.frm, .int .i64 n.to, .int .u64 n.num, .string n.text.data.toList, .int .i64 n.a, .int .i64 n.b]
theorem litsN_inj {x y : Nd} : litsN x = litsN y ↔ x = y := by
 constructor
 ·intro h
  obtain ⟨k, f, t, u, s, a, b⟩ := x
  obtain ⟨k', f', t', u', s', a', b'⟩ := y
  simp only [litsN, List.cons.injEq, Lit.int.injEq, true_and, Lit.string.injEq, and_true] at h
  obtain ⟨rfl, rfl, rfl, rfl, hs, rfl, rfl⟩ := h
  cases s; cases s'
  simp at hs
  subst hs
  rfl
 ·intro h; rw [h]
def ints (l : List Int) : List Value := l.map (Value.int .i64)
theorem ints_at (l : List Int) (i : Nat) (h : i < l.length) : (ints l)[i]? = some (.int .i64 (l[i])) := by simp [ints, h]
set_option maxRecDepth 100000 in
theorem keyL_of {n : Nd} (h : NdOk n) : Tryz.prog.keyLits 3 NodeT (Value.agg (nodeA n)).cells.toList = some (litsN n) := by
 have hu := Tryz.underlying146
 have u3 := Tryz.underlying3
 have u31 := Tryz.underlying24
 have u9 := Tryz.underlying9
 have u28 := Tryz.underlying23
 have c33 : Tryz.prog.cellsOf NodeT = 7 := by kernel_rfl
 have c3 : Tryz.prog.cellsOf 3 = 1 := by kernel_rfl
 have c31 : Tryz.prog.cellsOf 24 = 1 := by kernel_rfl
 have c9 : Tryz.prog.cellsOf 9 = 1 := by kernel_rfl
 have c28 : Tryz.prog.cellsOf 23 = 1 := by kernel_rfl
 simp [Program.keyLits, hu, u3, u31, u9, u28, c33, c3, c31, c9, c28, nodeA, Value.cells, litsN, wf_i64 h.kind, wf_i64 h.frm, wf_i64 h.to, wf_u64 h.num, h.text, wf_i64 h.a, wf_i64 h.b]
theorem formedN (n : Nd) : (Value.agg (nodeA n)).formed Tryz.prog NodeT = true := by
 have hu := Tryz.underlying146
 have c33 : Tryz.prog.cellsOf NodeT = 7 := by kernel_rfl
 simp [Value.formed, hu, c33, nodeA]
theorem equal_nodes {x y : Nd} (hx : NdOk x) (hy : NdOk y) (W : World) : (Op.equalIn 10000 NodeT (.agg (nodeA x)) (.agg (nodeA y))).run Tryz.prog W = .ok (decide (x = y)) W := by
 obtain ⟨r, hr, hi⟩ := run_equalIn_deep (P := Tryz.prog) 9997 3 NodeT (by kernel_rfl) W 3 3 (.agg (nodeA x)) (.agg (nodeA y)) (litsN x) (litsN y) (formedN x) (formedN y) (keyL_of hx) (keyL_of hy)
 rw [litsN_inj] at hi
 have e : r = decide (x = y) := by
  by_cases h : x = y
  ·rw [decide_eq_true h]; exact hi.2 h
  ·rw [decide_eq_false h]
   cases r
   ·rfl
   ·exact absurd (hi.1 rfl) h
 rw [← e]
 exact hr
theorem eq_nodes {x y : Nd} (hx : NdOk x) (hy : NdOk y) (W : World) : (binOp .eql NodeT (.agg (nodeA x)) (.agg (nodeA y))).run Tryz.prog W = .ok (.bool (decide (x = y))) W := by
 rw [run_eql_struct, equal_nodes hx hy]; rfl
abbrev RPoolT : TypeId := 43
abbrev IntT : TypeId := 3
def nds (p : Pl) : List Nd := p.map (·.1)
def szs (p : Pl) : List Int := p.map (·.2.1)
def dps (p : Pl) : List Int := p.map (·.2.2)
structure IsRef (w : World) (B a : Nat) (vl vs vd : Value) (p : Pl) : Prop where
 lay : w.heap[a]? = some (Obj.cells #[vl, vs, vd] RPoolT)
 ga : B ≤ a
 rl : w.ownsRow B NodeT 7 vl p.length (nodes (nds p))
 rs : w.ownsRow B IntT 1 vs p.length (ints (szs p))
 rd : w.ownsRow B IntT 1 vd p.length (ints (dps p))
 ap : ∀ g, vs.ownBlock = some g → vd.ownBlock ≠ some g
 ok : Ok p
 nok : ∀ m ∈ p, NdOk m.1
theorem IsRef.below {w w' : World} {B a : Nat} {vl vs vd : Value} {p : Pl} (h : IsRef w B a vl vs vd p) (hb : Below w.heap.size w w') : IsRef w' B a vl vs vd p :=
 ⟨Hold.below hb _ _ h.lay, h.ga, own_hold h.rl (Hold.below hb), own_hold h.rs (Hold.below hb), own_hold h.rd (Hold.below hb), h.ap, h.ok, h.nok⟩
section
variable {w : World} {B a : Nat} {vl vs vd : Value} {p : Pl}
theorem IsRef.lt (h : IsRef w B a vl vs vd p) : a < w.heap.size := (Array.getElem?_eq_some_iff.1 h.lay).1
set_option maxHeartbeats 800000 in
theorem rin (h : IsRef w B a vl vs vd p) (t : Int) : Calls Tryz.prog 66 #[.pointer (some ⟨a, 0, none⟩), .int .i64 t] w fun e w' => e = .returned (.bool (inP p t)) ∧ w = w' := by
 obtain ⟨av, cv, rfl⟩ := (row_of_own h.rl).shape
 have c0 : w.cell? ⟨a, 0, none⟩ = some (.slice av p.length cv) := cellB h.lay rfl
 clear h
 unfold inP
 by_cases h1 : 1 ≤ t
 ·rw [decide_eq_true h1, Bool.true_and]
  cases hd : decide (t ≤ (p.length : Int))
  all_goals
   go_enter Tryz.func66, Tryz.ntmps66
   go_wp2_with fail
   go_returns
   exact ⟨rfl, rfl⟩
 ·have h1' : decide (1 ≤ t) = false := decide_eq_false h1
  rw [h1', Bool.false_and]
  go_enter Tryz.func66, Tryz.ntmps66
  go_wp2_with fail
  go_returns
  exact ⟨rfl, rfl⟩
theorem rin_yes (h : IsRef w B a vl vs vd p) {t : Int} (ht : inP p t = true) : Calls Tryz.prog 66 #[.pointer (some ⟨a, 0, none⟩), .int .i64 t] w fun e w' => e = .returned (.bool true) ∧ w = w' := by
 have := rin h t
 rwa [ht] at this
theorem rin_no (h : IsRef w B a vl vs vd p) {t : Int} (ht : inP p t = false) : Calls Tryz.prog 66 #[.pointer (some ⟨a, 0, none⟩), .int .i64 t] w fun e w' => e = .returned (.bool false) ∧ w = w' := by
 have := rin h t
 rwa [ht] at this
set_option maxHeartbeats 1600000 in
theorem rsize (h : IsRef w B a vl vs vd p) (t : Int) : Calls Tryz.prog 100 #[.pointer (some ⟨a, 0, none⟩), .int .i64 t] w fun e w' => e = .returned (.int .i64 (szP p t)) ∧ w = w' := by
 by_cases hin : inP p t = true
 ·have hi := hin
  simp only [inP, Bool.and_eq_true, decide_eq_true_eq] at hi
  obtain ⟨n, hn0⟩ := Int.eq_ofNat_of_zero_le (show 0 ≤ t - 1 by omega)
  obtain rfl : t = (n : Int) + 1 := by omega
  have hn : n < p.length := by omega
  have HI := Lib.hid hin
  have hv : szP p ((n : Int) + 1) = (p[n]).2.1 := by unfold szP; rw [getD_at hn]
  rw [hv]
  obtain ⟨av, cv, hvv, hx⟩ := (row_of_own h.rs).at
  obtain ⟨gb, go, rfl, qq⟩ := hx (by omega)
  have c1 := qq n _ (ints_at (szs p) n (by simp [szs]; exact hn))
  rw [show (szs p)[n]'(by simp [szs]; exact hn) = (p[n]).2.1 by simp [szs]] at c1
  subst hvv
  have d1 : w.cell? ⟨a, 1, none⟩ = some (.slice (some ⟨gb, go, none⟩) p.length cv) := cellB h.lay rfl
  have H := Lib.hid h
  have hlen : p.length ≤ 65536 := h.ok.len
  clear hn0 hi hin hv hx qq h
  generalize (p[n]).2.1 = m at *
  have hn0 : (0 : Int) ≤ (n : Int) := by omega
  have hn1 : (n : Int) < (p.length : Int) := by omega
  go_enter Tryz.func100, Tryz.ntmps100
  go_wp2_with fail
  refine (rin_yes H.out HI.out).mono ?_
  rintro e w1 ⟨rfl, rfl⟩
  go_wp2_with fail
  go_returns
  exact ⟨rfl, rfl⟩
 ·have hin' : inP p t = false := by simpa using hin
  have hv : szP p t = 0 := by unfold szP; rw [atP_out hin']; rfl
  rw [hv]
  have HI := Lib.hid hin'
  have H := Lib.hid h
  clear hin hin' hv h
  go_enter Tryz.func100, Tryz.ntmps100
  go_wp2_with fail
  refine (rin_no H.out HI.out).mono ?_
  rintro e w1 ⟨rfl, rfl⟩
  go_wp2_with fail
  go_returns
  exact ⟨rfl, rfl⟩
set_option maxHeartbeats 1600000 in
theorem rdepth (h : IsRef w B a vl vs vd p) (t : Int) : Calls Tryz.prog 195 #[.pointer (some ⟨a, 0, none⟩), .int .i64 t] w fun e w' => e = .returned (.int .i64 (dpP p t)) ∧ w = w' := by
 by_cases hin : inP p t = true
 ·have hi := hin
  simp only [inP, Bool.and_eq_true, decide_eq_true_eq] at hi
  obtain ⟨n, hn0⟩ := Int.eq_ofNat_of_zero_le (show 0 ≤ t - 1 by omega)
  obtain rfl : t = (n : Int) + 1 := by omega
  have hn : n < p.length := by omega
  have HI := Lib.hid hin
  have hv : dpP p ((n : Int) + 1) = (p[n]).2.2 := by unfold dpP; rw [getD_at hn]
  rw [hv]
  obtain ⟨av, cv, hvv, hx⟩ := (row_of_own h.rd).at
  obtain ⟨gb, go, rfl, qq⟩ := hx (by omega)
  have c1 := qq n _ (ints_at (dps p) n (by simp [dps]; exact hn))
  rw [show (dps p)[n]'(by simp [dps]; exact hn) = (p[n]).2.2 by simp [dps]] at c1
  subst hvv
  have d1 : w.cell? ⟨a, 2, none⟩ = some (.slice (some ⟨gb, go, none⟩) p.length cv) := cellB h.lay rfl
  have H := Lib.hid h
  have hlen : p.length ≤ 65536 := h.ok.len
  clear hn0 hi hin hv hx qq h
  generalize (p[n]).2.2 = m at *
  have hn0 : (0 : Int) ≤ (n : Int) := by omega
  have hn1 : (n : Int) < (p.length : Int) := by omega
  go_enter Tryz.func195, Tryz.ntmps195
  go_wp2_with fail
  refine (rin_yes H.out HI.out).mono ?_
  rintro e w1 ⟨rfl, rfl⟩
  go_wp2_with fail
  go_returns
  exact ⟨rfl, rfl⟩
 ·have hin' : inP p t = false := by simpa using hin
  have hv : dpP p t = 0 := by unfold dpP; rw [atP_out hin']; rfl
  rw [hv]
  have HI := Lib.hid hin'
  have H := Lib.hid h
  clear hin hin' hv h
  go_enter Tryz.func195, Tryz.ntmps195
  go_wp2_with fail
  refine (rin_no H.out HI.out).mono ?_
  rintro e w1 ⟨rfl, rfl⟩
  go_wp2_with fail
  go_returns
  exact ⟨rfl, rfl⟩
set_option maxRecDepth 100000 in
set_option maxHeartbeats 3200000 in
theorem rnode (h : IsRef w B a vl vs vd p) (t : Int) : Calls Tryz.prog 89 #[.pointer (some ⟨a, 0, none⟩), .int .i64 t] w fun e w' => e = .returned (.tuple #[.agg (nodeA (atP p t).1), .bool (inP p t)]) ∧ Below w.heap.size w w' := by
 have bA : Below w.heap.size w (w.alloc (.cells #[.int .i64 0, .int .i64 0, .int .i64 0, .int .u64 0, .string ⟨#[]⟩, .int .i64 0, .int .i64 0] NodeT)) := (Below.refl _ _).alloc (Nat.le_refl _) _
 by_cases hin : inP p t = true
 ·have hi := hin
  simp only [inP, Bool.and_eq_true, decide_eq_true_eq] at hi
  obtain ⟨n, hn0⟩ := Int.eq_ofNat_of_zero_le (show 0 ≤ t - 1 by omega)
  obtain rfl : t = (n : Int) + 1 := by omega
  have hn : n < p.length := by omega
  have HI := Lib.hid hin
  rw [hin, getD_at hn]
  obtain ⟨av, cv, hvv, hx⟩ := (row_of_own h.rl).at2
  obtain ⟨gb, go, rfl, q⟩ := hx (by omega)
  have c0 := q _ _ (nodes_at (nds p) n (by simp [nds]; exact hn)).1
  have c1 := q _ _ (nodes_at (nds p) n (by simp [nds]; exact hn)).2.1
  have c2 := q _ _ (nodes_at (nds p) n (by simp [nds]; exact hn)).2.2.1
  have c3 := q _ _ (nodes_at (nds p) n (by simp [nds]; exact hn)).2.2.2.1
  have c4 := q _ _ (nodes_at (nds p) n (by simp [nds]; exact hn)).2.2.2.2.1
  have c5 := q _ _ (nodes_at (nds p) n (by simp [nds]; exact hn)).2.2.2.2.2.1
  have c6 := q _ _ (nodes_at (nds p) n (by simp [nds]; exact hn)).2.2.2.2.2.2
  simp only [← Nat.add_assoc] at c1 c2 c3 c4 c5 c6
  rw [show (nds p)[n]'(by simp [nds]; exact hn) = (p[n]).1 by simp [nds]] at c0 c1 c2 c3 c4 c5 c6
  subst hvv
  have d1 : w.cell? ⟨a, 0, none⟩ = some (.slice (some ⟨gb, go, none⟩) p.length cv) := cellB h.lay rfl
  replace d1 := bcellAt bA d1
  replace c0 := bcellAt bA c0
  replace c1 := bcellAt bA c1
  replace c2 := bcellAt bA c2
  replace c3 := bcellAt bA c3
  replace c4 := bcellAt bA c4
  replace c5 := bcellAt bA c5
  replace c6 := bcellAt bA c6
  have H := Lib.hid (h.below bA)
  have hlen : p.length ≤ 65536 := h.ok.len
  clear hn0 hi hin hx q h
  generalize (p[n]).1 = m at *
  have hn0 : (0 : Int) ≤ (n : Int) := by omega
  have hn1 : (n : Int) < (p.length : Int) := by omega
  have HA := Lib.hid bA
  clear bA
  go_enter Tryz.func89, Tryz.ntmps89
  go_wp2_with fail
  refine (rin_yes H.out HI.out).mono ?_
  rintro e w1 ⟨rfl, rfl⟩
  go_wp2_with fail
  refine bodyPost_ret (v := .tuple #[.agg #[.int .i64 m.kind, .int .i64 m.frm, .int .i64 m.to, .int .u64 m.num, .string m.text, .int .i64 m.a, .int .i64 m.b], .bool true]) (by simp [results, Tryz.results89, go_sem]) rfl ⟨rfl, ?_⟩
  exact (Below.refl _ _).alloc (Nat.le_refl _) _
 ·have hin' : inP p t = false := by simpa using hin
  rw [hin', atP_out hin']
  have HI := Lib.hid hin'
  have H := Lib.hid (h.below bA)
  clear hin hin' h bA
  go_enter Tryz.func89, Tryz.ntmps89
  go_wp2_with fail
  refine (rin_no H.out HI.out).mono ?_
  rintro e w1 ⟨rfl, rfl⟩
  go_wp2_with fail
  refine bodyPost_ret (v := .tuple #[.agg #[.int .i64 0, .int .i64 0, .int .i64 0, .int .u64 0, .string ⟨#[]⟩, .int .i64 0, .int .i64 0], .bool false]) (by simp [results, Tryz.results89, go_sem]) rfl ⟨rfl, ?_⟩
  exact (Below.refl _ _).alloc (Nat.le_refl _) _
set_option maxRecDepth 100000 in
set_option maxHeartbeats 6400000 in
theorem rhas_no (h : IsRef w B a vl vs vd p) {n : Nd} (hn : NdOk n) (h0 : numP p n = 0) : Calls Tryz.prog 196 #[.pointer (some ⟨a, 0, none⟩), .agg (nodeA n)] w fun e w' => e = .returned (.tuple #[.int .i64 0, .bool false]) ∧ Below w.heap.size w w' := by
 have HNO := Lib.hid (numP_zero.1 h0)
 have bA : Below w.heap.size w (w.alloc (.cells (nodeA n) NodeT)) := (Below.refl _ _).alloc (Nat.le_refl _) _
 have hb : (w.alloc (.cells (nodeA n) NodeT)).heap[w.heap.size]? = some (Obj.cells (nodeA n) NodeT) := heap_alloc_new _ _
 obtain ⟨av, cv, hvv, hx⟩ := (row_of_own (h.below bA).rl).at2
 have d0 : (w.alloc (.cells (nodeA n) NodeT)).cell? ⟨a, 0, none⟩ = some (.slice av p.length cv) := by rw [← hvv]; exact cellB (h.below bA).lay rfl
 have heq : ∀ m ∈ p, ∀ W : World, (binOp .eql NodeT (.agg (nodeA m.1)) (.agg (nodeA n))).run Tryz.prog W = .ok (.bool (decide (m.1 = n))) W := fun m hm W => eq_nodes (h.nok m hm) hn W
 have hlen : p.length ≤ 65536 := h.ok.len
 have HX := Lib.hid hx
 have HEQ := Lib.hid heq
 clear h0 heq hx hvv h hn 
 obtain ⟨k, f, q, u, s, y, z⟩ := n
 simp only [nodeA] at *
 have z0 : (w.alloc (.cells #[.int .i64 k, .int .i64 f, .int .i64 q, .int .u64 u, .string s, .int .i64 y, .int .i64 z] NodeT)).cell? ⟨w.heap.size, 0, none⟩ = some (.int .i64 k) := cellB hb rfl
 have z1 : (w.alloc (.cells #[.int .i64 k, .int .i64 f, .int .i64 q, .int .u64 u, .string s, .int .i64 y, .int .i64 z] NodeT)).cell? ⟨w.heap.size, 1, none⟩ = some (.int .i64 f) := cellB hb rfl
 have z2 : (w.alloc (.cells #[.int .i64 k, .int .i64 f, .int .i64 q, .int .u64 u, .string s, .int .i64 y, .int .i64 z] NodeT)).cell? ⟨w.heap.size, 2, none⟩ = some (.int .i64 q) := cellB hb rfl
 have z3 : (w.alloc (.cells #[.int .i64 k, .int .i64 f, .int .i64 q, .int .u64 u, .string s, .int .i64 y, .int .i64 z] NodeT)).cell? ⟨w.heap.size, 3, none⟩ = some (.int .u64 u) := cellB hb rfl
 have z4 : (w.alloc (.cells #[.int .i64 k, .int .i64 f, .int .i64 q, .int .u64 u, .string s, .int .i64 y, .int .i64 z] NodeT)).cell? ⟨w.heap.size, 4, none⟩ = some (.string s) := cellB hb rfl
 have z5 : (w.alloc (.cells #[.int .i64 k, .int .i64 f, .int .i64 q, .int .u64 u, .string s, .int .i64 y, .int .i64 z] NodeT)).cell? ⟨w.heap.size, 5, none⟩ = some (.int .i64 y) := cellB hb rfl
 have z6 : (w.alloc (.cells #[.int .i64 k, .int .i64 f, .int .i64 q, .int .u64 u, .string s, .int .i64 y, .int .i64 z] NodeT)).cell? ⟨w.heap.size, 6, none⟩ = some (.int .i64 z) := cellB hb rfl
 have HA := Lib.hid bA
 clear hb bA
 go_enter Tryz.func196, Tryz.ntmps196
 go_wp2_with fail
 generalize (w.alloc (.cells #[.int .i64 k, .int .i64 f, .int .i64 q, .int .u64 u, .string s, .int .i64 y, .int .i64 z] NodeT)) = W at *
 go_loopw [6] (fun v wr => ∃ k0 m0 : Nat, v = .int .i64 (k0 : Int) ∧ k0 ≤ p.length ∧ wr = W.drewN m0) (fun v _ => p.length - (intOf v).toNat)
 case atStart => exact ⟨0, 0, rfl, Nat.zero_le _, rfl⟩
 case round =>
  obtain ⟨k0, m0, rfl, hk0, rfl⟩ := hrel
  by_cases hlt : k0 < p.length
  ·have hki' := hlt
   obtain ⟨gb, go, rfl, qq⟩ := HX.out (by omega)
   have HLT : k0 < p.length := by omega
   have c0 := qq _ _ (nodes_at (nds p) k0 (by simp [nds]; exact HLT)).1
   have c1 := qq _ _ (nodes_at (nds p) k0 (by simp [nds]; exact HLT)).2.1
   have c2 := qq _ _ (nodes_at (nds p) k0 (by simp [nds]; exact HLT)).2.2.1
   have c3 := qq _ _ (nodes_at (nds p) k0 (by simp [nds]; exact HLT)).2.2.2.1
   have c4 := qq _ _ (nodes_at (nds p) k0 (by simp [nds]; exact HLT)).2.2.2.2.1
   have c5 := qq _ _ (nodes_at (nds p) k0 (by simp [nds]; exact HLT)).2.2.2.2.2.1
   have c6 := qq _ _ (nodes_at (nds p) k0 (by simp [nds]; exact HLT)).2.2.2.2.2.2
   simp only [← Nat.add_assoc] at c1 c2 c3 c4 c5 c6
   rw [show (nds p)[k0]'(by simp [nds]; exact HLT) = (p[k0]).1 by simp [nds]] at c0 c1 c2 c3 c4 c5 c6
   have he := HEQ.out (p[k0]) (List.getElem_mem HLT)
   have hd : decide ((p[k0]).1 = ⟨k, f, q, u, s, y, z⟩) = false := decide_eq_false (HNO.out _ (List.getElem_mem HLT))
   rw [hd] at he
   clear hd HNO
   clear qq HX HEQ
   generalize (p[k0]).1 = m at *
   have hk1 : (0 : Int) ≤ (k0 : Int) := by omega
   have hk2 : (k0 : Int) < (p.length : Int) := by omega
   go_wp2_with fail
   go_quiet (fail)
   go_wp2_with fail
   go_roundw
   case rel => exact ⟨k0 + 1, m0 + nq, by go_num, by omega, by first | rfl | rw [World.drewN_drewN]⟩
   case measure => simp [intOf]; omega
  ·obtain rfl : k0 = p.length := by omega
   clear HX HEQ HNO
   go_wp2_with fail
   go_returns
   exact ⟨rfl, bmore HA.out (bdn _ _)⟩
set_option maxRecDepth 100000 in
set_option maxHeartbeats 6400000 in
theorem rhas_yes (h : IsRef w B a vl vs vd p) {n : Nd} (hn : NdOk n) (h0 : numP p n ≠ 0) : Calls Tryz.prog 196 #[.pointer (some ⟨a, 0, none⟩), .agg (nodeA n)] w fun e w' => e = .returned (.tuple #[.int .i64 (numP p n : Int), .bool true]) ∧ Below w.heap.size w w' := by
 obtain ⟨i, hi, hnum, hat, hfst⟩ := numP_some h0
 rw [hnum]
 have HAT := Lib.hid hat
 have HFST := Lib.hid hfst
 have bA : Below w.heap.size w (w.alloc (.cells (nodeA n) NodeT)) := (Below.refl _ _).alloc (Nat.le_refl _) _
 have hb : (w.alloc (.cells (nodeA n) NodeT)).heap[w.heap.size]? = some (Obj.cells (nodeA n) NodeT) := heap_alloc_new _ _
 obtain ⟨av, cv, hvv, hx⟩ := (row_of_own (h.below bA).rl).at2
 have d0 : (w.alloc (.cells (nodeA n) NodeT)).cell? ⟨a, 0, none⟩ = some (.slice av p.length cv) := by rw [← hvv]; exact cellB (h.below bA).lay rfl
 have heq : ∀ m ∈ p, ∀ W : World, (binOp .eql NodeT (.agg (nodeA m.1)) (.agg (nodeA n))).run Tryz.prog W = .ok (.bool (decide (m.1 = n))) W := fun m hm W => eq_nodes (h.nok m hm) hn W
 have hlen : p.length ≤ 65536 := h.ok.len
 have HX := Lib.hid hx
 have HEQ := Lib.hid heq
 clear h0 heq hx hvv h hn hnum hat hfst
 obtain ⟨k, f, q, u, s, y, z⟩ := n
 simp only [nodeA] at *
 have z0 : (w.alloc (.cells #[.int .i64 k, .int .i64 f, .int .i64 q, .int .u64 u, .string s, .int .i64 y, .int .i64 z] NodeT)).cell? ⟨w.heap.size, 0, none⟩ = some (.int .i64 k) := cellB hb rfl
 have z1 : (w.alloc (.cells #[.int .i64 k, .int .i64 f, .int .i64 q, .int .u64 u, .string s, .int .i64 y, .int .i64 z] NodeT)).cell? ⟨w.heap.size, 1, none⟩ = some (.int .i64 f) := cellB hb rfl
 have z2 : (w.alloc (.cells #[.int .i64 k, .int .i64 f, .int .i64 q, .int .u64 u, .string s, .int .i64 y, .int .i64 z] NodeT)).cell? ⟨w.heap.size, 2, none⟩ = some (.int .i64 q) := cellB hb rfl
 have z3 : (w.alloc (.cells #[.int .i64 k, .int .i64 f, .int .i64 q, .int .u64 u, .string s, .int .i64 y, .int .i64 z] NodeT)).cell? ⟨w.heap.size, 3, none⟩ = some (.int .u64 u) := cellB hb rfl
 have z4 : (w.alloc (.cells #[.int .i64 k, .int .i64 f, .int .i64 q, .int .u64 u, .string s, .int .i64 y, .int .i64 z] NodeT)).cell? ⟨w.heap.size, 4, none⟩ = some (.string s) := cellB hb rfl
 have z5 : (w.alloc (.cells #[.int .i64 k, .int .i64 f, .int .i64 q, .int .u64 u, .string s, .int .i64 y, .int .i64 z] NodeT)).cell? ⟨w.heap.size, 5, none⟩ = some (.int .i64 y) := cellB hb rfl
 have z6 : (w.alloc (.cells #[.int .i64 k, .int .i64 f, .int .i64 q, .int .u64 u, .string s, .int .i64 y, .int .i64 z] NodeT)).cell? ⟨w.heap.size, 6, none⟩ = some (.int .i64 z) := cellB hb rfl
 have HA := Lib.hid bA
 clear hb bA
 go_enter Tryz.func196, Tryz.ntmps196
 go_wp2_with fail
 generalize (w.alloc (.cells #[.int .i64 k, .int .i64 f, .int .i64 q, .int .u64 u, .string s, .int .i64 y, .int .i64 z] NodeT)) = W at *
 go_loopw [6] (fun v wr => ∃ k0 m0 : Nat, v = .int .i64 (k0 : Int) ∧ k0 ≤ i ∧ wr = W.drewN m0) (fun v _ => p.length - (intOf v).toNat)
 case atStart => exact ⟨0, 0, rfl, Nat.zero_le _, rfl⟩
 case round =>
  obtain ⟨k0, m0, rfl, hk0, rfl⟩ := hrel
  by_cases hki : k0 = i
  ·subst hki
   obtain ⟨gb, go, rfl, qq⟩ := HX.out (by omega)
   have HLT : k0 < p.length := by omega
   have c0 := qq _ _ (nodes_at (nds p) k0 (by simp [nds]; exact HLT)).1
   have c1 := qq _ _ (nodes_at (nds p) k0 (by simp [nds]; exact HLT)).2.1
   have c2 := qq _ _ (nodes_at (nds p) k0 (by simp [nds]; exact HLT)).2.2.1
   have c3 := qq _ _ (nodes_at (nds p) k0 (by simp [nds]; exact HLT)).2.2.2.1
   have c4 := qq _ _ (nodes_at (nds p) k0 (by simp [nds]; exact HLT)).2.2.2.2.1
   have c5 := qq _ _ (nodes_at (nds p) k0 (by simp [nds]; exact HLT)).2.2.2.2.2.1
   have c6 := qq _ _ (nodes_at (nds p) k0 (by simp [nds]; exact HLT)).2.2.2.2.2.2
   simp only [← Nat.add_assoc] at c1 c2 c3 c4 c5 c6
   rw [show (nds p)[k0]'(by simp [nds]; exact HLT) = (p[k0]).1 by simp [nds]] at c0 c1 c2 c3 c4 c5 c6
   have he := HEQ.out (p[k0]) (List.getElem_mem HLT)
   rw [HAT.out] at he
   simp only [decide_true] at he
   have _hat := HAT.out
   clear HAT HFST hk0
   clear qq HX HEQ
   generalize (p[k0]).1 = m at *
   have hk1 : (0 : Int) ≤ (k0 : Int) := by omega
   have hk2 : (k0 : Int) < (p.length : Int) := by omega
   go_wp2_with fail
   go_quiet (fail)
   go_wp2_with fail
   go_returns
   exact ⟨by simp, bmore HA.out (bdn _ _)⟩
  ·have hki' : k0 < i := by omega
   clear hki
   obtain ⟨gb, go, rfl, qq⟩ := HX.out (by omega)
   have HLT : k0 < p.length := by omega
   have c0 := qq _ _ (nodes_at (nds p) k0 (by simp [nds]; exact HLT)).1
   have c1 := qq _ _ (nodes_at (nds p) k0 (by simp [nds]; exact HLT)).2.1
   have c2 := qq _ _ (nodes_at (nds p) k0 (by simp [nds]; exact HLT)).2.2.1
   have c3 := qq _ _ (nodes_at (nds p) k0 (by simp [nds]; exact HLT)).2.2.2.1
   have c4 := qq _ _ (nodes_at (nds p) k0 (by simp [nds]; exact HLT)).2.2.2.2.1
   have c5 := qq _ _ (nodes_at (nds p) k0 (by simp [nds]; exact HLT)).2.2.2.2.2.1
   have c6 := qq _ _ (nodes_at (nds p) k0 (by simp [nds]; exact HLT)).2.2.2.2.2.2
   simp only [← Nat.add_assoc] at c1 c2 c3 c4 c5 c6
   rw [show (nds p)[k0]'(by simp [nds]; exact HLT) = (p[k0]).1 by simp [nds]] at c0 c1 c2 c3 c4 c5 c6
   have he := HEQ.out (p[k0]) (List.getElem_mem HLT)
   have hd : decide ((p[k0]).1 = ⟨k, f, q, u, s, y, z⟩) = false := decide_eq_false (HFST.out k0 hki')
   rw [hd] at he
   clear hd HAT HFST
   clear qq HX HEQ
   generalize (p[k0]).1 = m at *
   have hk1 : (0 : Int) ≤ (k0 : Int) := by omega
   have hk2 : (k0 : Int) < (p.length : Int) := by omega
   go_wp2_with fail
   go_quiet (fail)
   go_wp2_with fail
   go_roundw
   case rel => exact ⟨k0 + 1, m0 + nq, by go_num, by omega, by first | rfl | rw [World.drewN_drewN]⟩
   case measure => simp [intOf]; omega
end
end Go.Proofs.YtjmcaceegfdkkaaGreatDoor
