/-
  Facts as plain data: what letters are evidence of.
  What an argument that is a list of nodes gives the walk.
  The table of the kinds' fields; what a node by itself is refused with: the program's own.
  A node as a key of a map.
-/
import Derived.Deep.Slices
import Derived.Deep.Fields
import Derived.ChangeSame
import Derived.SliceStrings
import Derived.Lib.SmallJoins
import Derived.ProofKit
import Derived.OpenShut
import Derived.ShutString
import Derived.ChangeOld
import Derived.DeepKeys4
import Derived.Test.YtjmcaceegfdkkaaGreatDoorQcLPln
import Derived.Test.YtjmcaceegfdkkaaGreatDoorQcTKit
namespace Go.Proofs.YtjmcaceegfdkkaaGreatDoor
set_option linter.unusedVariables false
structure Fc where
 kind : Int
 who : Int
 c : Int
 text : ByteArray
theorem Fc.eq_of {x y : Fc} (h1 : x.kind = y.kind) (h2 : x.who = y.who) (h3 : x.c = y.c) (h4 : x.text = y.text) : x = y := by
 cases x; cases y; simp at *; exact ⟨h1, h2, h3, h4⟩
instance : DecidableEq Fc := fun x y =>
 if h : x.kind = y.kind ∧ x.who = y.who ∧ x.c = y.c ∧ x.text = y.text then .isTrue (Fc.eq_of h.1 h.2.1 h.2.2.1 h.2.2.2)
 else .isFalse fun e => h (by subst e; exact ⟨rfl, rfl, rfl, rfl⟩)
def fcC (f : Fc) : List Value := [.int .i64 f.kind, .int .i64 f.who, .int .u64 f.c, .string f.text]
def fcA (f : Fc) : Array Value := #[.int .i64 f.kind, .int .i64 f.who, .int .u64 f.c, .string f.text]
def fcs (l : List Fc) : List Value := l.flatMap fcC
theorem fcs_length (l : List Fc) : (fcs l).length = l.length * 4 := by
 induction l with
 | nil => rfl
 | cons m l ih => simp only [fcs, List.flatMap_cons, List.length_append, List.length_cons] at ih ⊢; rw [ih]; simp [fcC]; omega
theorem fcs_append (a b : List Fc) : fcs (a ++ b) = fcs a ++ fcs b := by simp [fcs]
theorem fcs_at (l : List Fc) : ∀ (i : Nat) (h : i < l.length), (fcs l)[i * 4]? = some (.int .i64 (l[i]).kind) ∧ (fcs l)[i * 4 + 1]? = some (.int .i64 (l[i]).who) ∧ (fcs l)[i * 4 + 2]? = some (.int .u64 (l[i]).c) ∧ (fcs l)[i * 4 + 3]? = some (.string (l[i]).text) := by
 induction l with
 | nil => intro i h; simp at h
 | cons m l ih =>
  intro i h
  cases i with
  | zero => exact ⟨rfl, rfl, rfl, rfl⟩
  | succ j =>
   have hj : j < l.length := by simpa using h
   obtain ⟨a0, a1, a2, a3⟩ := ih j hj
   have e : ∀ k, (fcs (m :: l))[(j + 1) * 4 + k]? = (fcs l)[j * 4 + k]? := fun k => by
    show (fcC m ++ fcs l)[(j + 1) * 4 + k]? = _
    have hl : (fcC m).length = 4 := rfl
    rw [List.getElem?_append_right (by rw [hl]; omega), hl]
    congr 1; omega
   simp only [List.getElem_cons_succ]
   exact ⟨(e 0).trans a0, (e 1).trans a1, (e 2).trans a2, (e 3).trans a3⟩
def ofL (l : Lt) : List Fc :=
 if l.kind = 1 then (if l.fake = true then [] else [⟨1, l.frm, l.c, l.text⟩]) else
 if l.kind = 2 then [⟨2, l.frm, l.c, l.text⟩] else
 if l.kind = 3 then [⟨3, 0, l.c, l.text⟩] else
 if l.kind = 4 then (if l.fake = true then [⟨4, l.frm, l.c, l.text⟩] else [⟨4, l.frm, l.c, l.text⟩, ⟨1, 0, l.c, l.text⟩, ⟨1, 1, l.c, l.text⟩]) else
 if l.kind = 5 then [⟨5, 2, l.c, l.text⟩] else
 if l.kind = 6 then [⟨6, 2, l.c, l.text⟩, ⟨2, 0, l.c, l.text⟩, ⟨2, 1, l.c, l.text⟩] else []
def ofR (p : Pl) (t : Int) : List Fc := ofL ((rdP p t).getD zeroL)
theorem ofL_len (l : Lt) : (ofL l).length ≤ 3 := by
 unfold ofL
 split
 ·split <;> simp
 split
 ·simp
 split
 ·simp
 split
 ·split <;> simp
 split
 ·simp
 split <;> simp
def bndB (f : Fc) : Bool := f.kind == 2
def bonP (l : List Fc) (who : Int) : List Fc := l.filter fun f => bndB f && f.who == who
def whyP (p : Pl) (t who c : Int) (s : ByteArray) : Int :=
 if (⟨2, who, c, s⟩ : Fc) ∈ ofR p t then 0 else if (rdP p t).isSome = false then 1 else if ((ofR p t).any bndB) = false then 2 else
 match bonP (ofR p t) who with
 | [] => 3
 | f :: _ => if f.c ≠ c then 4 else 5
end Go.Proofs.YtjmcaceegfdkkaaGreatDoor
namespace Go.Proofs.YtjmcaceegfdkkaaGreatDoor
open Go.ChangeShapes Go.WideShapes Go.ChangeAt Go.RowKit
set_option linter.unusedVariables false
theorem list_of {α : Type} {Q : Nat → α → Prop} (n : Nat) (h : ∀ i, i < n → ∃ z, Q i z) : ∃ l : List α, l.length = n ∧ ∀ i (hi : i < l.length), Q i (l[i]) := by
 induction n with
 | zero => exact ⟨[], rfl, fun i hi => absurd hi (by simp)⟩
 | succ n ih =>
  obtain ⟨l, hl, hq⟩ := ih fun i hi => h i (by omega)
  obtain ⟨z, hz⟩ := h n (by omega)
  refine ⟨l ++ [z], by simp [hl], fun i hi => ?_⟩
  by_cases hin : i < l.length
  ·rw [List.getElem_append_left hin]; exact hq i hin
  ·have hi' : i = l.length := by simp at hi; omega
   subst hi'
   rw [List.getElem_append_right (by omega)]
   simp only [Nat.sub_self, List.getElem_cons_zero]
   rw [hl]; exact hz
theorem place_of {W : World} {base : Nat} {x : Addr} {e : TypeId} {cap : Nat} (h : W.has Tryz.prog .any base x e cap) : x.spot = none ∧ x.block < W.heap.size := by
 obtain ⟨_, hspot, row, cells, hshape, _⟩ := h
 refine ⟨hspot, ?_⟩
 rcases Nat.lt_or_ge x.block W.heap.size with h | h
 ·exact h
 ·simp [World.shape?, Array.getElem?_eq_none h] at hshape
theorem addr_add {b off : Nat} (i : Nat) : (⟨b, off, none⟩ : Addr).add i = ⟨b, off + i, none⟩ := by unfold Addr.add; split <;> simp_all
theorem cellsS : Tryz.prog.cellsOf 9 = 1 := by kernel_rfl
theorem places_lt {H : Type} {enc : TypeId × Value → H} {W : World} {t : TypeId} {v : Value} {d : DataW H} {p : List MemPlace} (hj : DataW.Trod enc Tryz.prog W 0 (fun _ => true) true t v d p) : ∀ x ∈ p, x.block < W.heap.size := by
 obtain ⟨m, hm⟩ := hj
 exact DataW.trod_lt m _ _ _ hm
theorem Row.small {w : World} {size n : Nat} {v : Value} {cs : List Value} (h : Row w size v n cs) : n ≤ maxLen := by
 rcases h.2 with ⟨_, rfl⟩ | ⟨b, off, cap, rfl, _, h4, h5, _⟩
 ·exact Nat.zero_le _
 ·omega
def ncs (n : Nd) : List Value := [.int .i64 n.kind, .int .i64 n.frm, .int .i64 n.to, .int .u64 n.num, .string n.text, .int .i64 n.a, .int .i64 n.b]
def nodes (l : List Nd) : List Value := l.flatMap ncs
theorem nodes_at (l : List Nd) : ∀ (i : Nat) (h : i < l.length), (nodes l)[i * 7]? = some (.int .i64 (l[i]).kind) ∧ (nodes l)[i * 7 + 1]? = some (.int .i64 (l[i]).frm) ∧ (nodes l)[i * 7 + 2]? = some (.int .i64 (l[i]).to) ∧ (nodes l)[i * 7 + 3]? = some (.int .u64 (l[i]).num) ∧ (nodes l)[i * 7 + 4]? = some (.string (l[i]).text) ∧ (nodes l)[i * 7 + 5]? = some (.int .i64 (l[i]).a) ∧ (nodes l)[i * 7 + 6]? = some (.int .i64 (l[i]).b) := by
 induction l with
 | nil => intro i h; simp at h
 | cons a l ih =>
  intro i h
  have e : nodes (a :: l) = .int .i64 a.kind :: .int .i64 a.frm :: .int .i64 a.to :: .int .u64 a.num :: .string a.text :: .int .i64 a.a :: .int .i64 a.b :: nodes l := by simp [nodes, ncs]
  cases i with
  | zero => simp [e]
  | succ i =>
   have := ih i (by simpa using h)
   have hx : ∀ j, (nodes (a :: l))[(i + 1) * 7 + j]? = (nodes l)[i * 7 + j]? := fun j => by
    rw [e, show (i + 1) * 7 + j = i * 7 + j + 1 + 1 + 1 + 1 + 1 + 1 + 1 by omega]
    simp
   have h0 := hx 0
   simp only [Nat.add_zero] at h0
   rw [h0, hx 1, hx 2, hx 3, hx 4, hx 5, hx 6]
   simpa using this
def i64R (n : Int) : Prop := -9223372036854775808 ≤ n ∧ n ≤ 9223372036854775807
structure NdOk (n : Nd) : Prop where
 kind : i64R n.kind
 frm : i64R n.frm
 to : i64R n.to
 num : 0 ≤ n.num ∧ n.num ≤ 18446744073709551615
 text : n.text.size ≤ maxLen
 a : i64R n.a
 b : i64R n.b
section
variable {H : Type} {enc : TypeId × Value → H} {W : World} {base : Nat}
end
end Go.Proofs.YtjmcaceegfdkkaaGreatDoor
namespace Go.Proofs.YtjmcaceegfdkkaaGreatDoor
open Go.RowKit
set_option linter.unusedVariables false
abbrev ShT : TypeId := 150
abbrev NodeT : TypeId := 146
def nodeA (n : Nd) : Array Value := #[.int .i64 n.kind, .int .i64 n.frm, .int .i64 n.to, .int .u64 n.num, .string n.text, .int .i64 n.a, .int .i64 n.b]
def Laid (w : World) : Prop := ∀ k : Nat, k < 10 → w.cell? ⟨1, k * 5, none⟩ = some (.bool (namedB (k : Int))) ∧ w.cell? ⟨1, k * 5 + 1, none⟩ = some (.bool (twoB (k : Int))) ∧
 w.cell? ⟨1, k * 5 + 2, none⟩ = some (.bool ((k : Int) == 2)) ∧ w.cell? ⟨1, k * 5 + 3, none⟩ = some (.bool ((k : Int) == 3)) ∧ w.cell? ⟨1, k * 5 + 4, none⟩ = some (.int .i64 (kidsN (k : Int) : Int))
theorem Laid.below {w w' : World} (h : Laid w) (hb : Below w.heap.size w w') : Laid w' := fun k hk => by
 obtain ⟨a, b, c, d, e⟩ := h k hk
 exact ⟨bcellAt hb a, bcellAt hb b, bcellAt hb c, bcellAt hb d, bcellAt hb e⟩
def shV (k : Int) : Value := .agg #[.bool (namedB k), .bool (twoB k), .bool (k == 2), .bool (k == 3), .int .i64 (kidsN k : Int)]
theorem shV_out {k : Int} (h : k < 1 ∨ 9 < k) : shV k = .agg #[.bool false, .bool false, .bool false, .bool false, .int .i64 0] := by
 have e (j : Int) (hj : 1 ≤ j ∧ j ≤ 9) : (k == j) = false := by simp; omega
 unfold shV namedB twoB
 rw [e 1 (by omega), e 2 (by omega), e 3 (by omega), e 6 (by omega), e 7 (by omega), e 8 (by omega), e 9 (by omega)]
 have hk : kidsN k = 0 := by unfold kidsN; rw [if_neg (by omega), if_neg (by omega)]
 rw [hk]; rfl
set_option maxRecDepth 100000 in
set_option maxHeartbeats 1600000 in
theorem shapeOf_any {w : World} (h : Laid w) (k : Int) :
  Calls Tryz.prog 88 #[.int .i64 k] w fun e w' => e = .returned (shV k) ∧ Below w.heap.size w w' := by
 by_cases h0 : k < 0
 ·rw [shV_out (by omega)]
  go_enter Tryz.func88, Tryz.ntmps88
  go_wp2_with fail
  refine bodyPost_ret (v := .agg #[.bool false, .bool false, .bool false, .bool false, .int .i64 0]) (by simp [results, Tryz.results88, go_sem]) rfl ⟨rfl, ?_⟩
  exact (Below.refl _ _).alloc (Nat.le_refl _) _
 ·by_cases h1 : 10 ≤ k
  ·rw [shV_out (by omega)]
   go_enter Tryz.func88, Tryz.ntmps88
   go_wp2_with fail
   refine bodyPost_ret (v := .agg #[.bool false, .bool false, .bool false, .bool false, .int .i64 0]) (by simp [results, Tryz.results88, go_sem]) rfl ⟨rfl, ?_⟩
   exact (Below.refl _ _).alloc (Nat.le_refl _) _
  ·obtain ⟨n, rfl⟩ := Int.eq_ofNat_of_zero_le (by omega : 0 ≤ k)
   have hn : n < 10 := by omega
   obtain ⟨c0, c1, c2, c3, c4⟩ := h n hn
   have hn0 : (0 : Int) ≤ (n : Int) := by omega
   have hn1 : (n : Int) < 10 := by omega
   unfold shV
   generalize namedB (n : Int) = x0 at *
   generalize twoB (n : Int) = x1 at *
   generalize ((n : Int) == 2) = x2 at *
   generalize ((n : Int) == 3) = x3 at *
   generalize (kidsN (n : Int) : Int) = x4 at *
   have bA : Below w.heap.size w (w.alloc (.cells #[.bool false, .bool false, .bool false, .bool false, .int .i64 0] ShT)) := (Below.refl _ _).alloc (Nat.le_refl _) _
   clear h h0 h1
   replace c0 := bcellAt bA c0
   replace c1 := bcellAt bA c1
   replace c2 := bcellAt bA c2
   replace c3 := bcellAt bA c3
   replace c4 := bcellAt bA c4
   clear bA
   go_enter Tryz.func88, Tryz.ntmps88
   go_wp2_with fail
   refine bodyPost_ret (v := .agg #[.bool x0, .bool x1, .bool x2, .bool x3, .int .i64 x4]) (by simp [results, Tryz.results88, go_sem]) rfl ⟨rfl, ?_⟩
   exact (Below.refl _ _).alloc (Nat.le_refl _) _
set_option maxHeartbeats 800000 in
theorem isName_any (n : Int) (w : World) : Calls Tryz.prog 208 #[.int .i64 n] w fun e w' => e = .returned (.bool (nameB n)) ∧ w = w' := by
 unfold nameB
 by_cases h0 : 0 ≤ n
 ·by_cases h1 : n < 16
  ·rw [decide_eq_true h0, decide_eq_true h1]
   go_enter Tryz.func208, Tryz.ntmps208
   go_wp2_with fail
   go_returns
   exact ⟨rfl, rfl⟩
  ·rw [decide_eq_true h0, decide_eq_false h1]
   have h1' : decide (n < 16) = false := decide_eq_false h1
   go_enter Tryz.func208, Tryz.ntmps208
   go_wp2_with fail
   go_returns
   exact ⟨rfl, rfl⟩
 ·rw [decide_eq_false h0]
  have h0' : decide (0 ≤ n) = false := decide_eq_false h0
  go_enter Tryz.func208, Tryz.ntmps208
  go_wp2_with fail
  go_returns
  exact ⟨rfl, rfl⟩
end Go.Proofs.YtjmcaceegfdkkaaGreatDoor
namespace Go.Proofs.YtjmcaceegfdkkaaGreatDoor
open Go.RowKit Go.Maps
set_option linter.unusedVariables false
theorem own : ownKnob Tryz.prog.godebug = none := by kernel_rfl
theorem laidOut : laidOutB Tryz.prog = true := by kernel_rfl
theorem lawN : Keyed Tryz.prog NodeT := Keyed.of_law (deep_law_laid laidOut (m := 3) (by decide) (of_decide_eq_true (by kernel_rfl)) (by kernel_rfl) (by kernel_rfl))
def keyN (n : Nd) : Lit := .string (keyBytes [.int .i64 n.kind, .int .i64 n.frm, .int .i64 n.to, .int .u64 n.num, .string n.text.data.toList, .int .i64 n.a, .int .i64 n.b])
theorem wf_i64 {n : Int} (h : i64R n) : (Lit.int .i64 n).wf = true := WalkArith.wf_i64 (by unfold i64R at h; omega)
theorem wf_u64 {n : Int} (h : 0 ≤ n ∧ n ≤ 18446744073709551615) : (Lit.int .u64 n).wf = true := by
 exact WalkArith.wf_u64 h
set_option maxRecDepth 100000 in
theorem keyN_of {n : Nd} (h : NdOk n) : keyOf Tryz.prog NodeT (.agg (nodeA n)) = some (keyN n) := by
 have hk : Tryz.prog.keyType NodeT = true := by kernel_rfl
 have hu := Tryz.underlying146
 have u3 := Tryz.underlying3
 have u31 := Tryz.underlying24
 have u9 := Tryz.underlying9
 have u28 := Tryz.underlying23
 have c33 : Tryz.prog.cellsOf NodeT = 7 := by kernel_rfl
 have c3 : Tryz.prog.cellsOf 3 = 1 := by kernel_rfl
 have c31 : Tryz.prog.cellsOf 24 = 1 := by kernel_rfl
 have c9 : Tryz.prog.cellsOf 9 = 1 := by kernel_rfl
 have c28 : Tryz.prog.cellsOf 23 = 1 := by kernel_rfl
 have h0 : 0 < Tryz.prog.types.size := of_decide_eq_true (by kernel_rfl)
 obtain ⟨m, hm⟩ : ∃ m, Tryz.prog.types.size = m + 1 := ⟨Tryz.prog.types.size - 1, by omega⟩
 have hf : (Value.agg (nodeA n)).formed Tryz.prog NodeT = true := by
  simp [Value.formed, hu, c33, nodeA]
 unfold keyOf
 rw [hu]
 simp only [hk, hf, Bool.and_self, if_true, hm]
 simp [Program.keyLits, hu, u3, u31, u9, u28, c33, c3, c31, c9, c28, nodeA, Value.cells, keyN, wf_i64 h.kind, wf_i64 h.frm, wf_i64 h.to, wf_u64 h.num, h.text, wf_i64 h.a, wf_i64 h.b]
theorem keyN_inj {a b : Nd} (ha : NdOk a) (hb : NdOk b) (h : keyN a = keyN b) : a = b := by
 have e := lawN.inj (keyN_of ha) (by rw [h]; exact keyN_of hb)
 obtain ⟨k, f, t, u, x, y, z⟩ := a
 obtain ⟨k', f', t', u', x', y', z'⟩ := b
 simp [nodeA] at e
 simp [e]
end Go.Proofs.YtjmcaceegfdkkaaGreatDoor
