/-
  cmp.Compare of ints, numbers and texts; cmp.Or of ints.
  Trees in memory; what an argument that is a tree, or a list of trees, gives the walk.
-/
import Derived.Test.YtjmcaceegfdkkaaGreatDoorQcTRefP
import Derived.Test.YtjmcaceegfdkkaaGreatDoorQcTKit
import Derived.Test.YtjmcaceegfdkkaaGreatDoorQcTKey
namespace Go.Proofs.YtjmcaceegfdkkaaGreatDoor
open Go.RowKit
set_option linter.unusedVariables false
class KOrd (K : Type) where
 lt : K → K → Bool
 irr : ∀ a, lt a a = false
 tr : ∀ {a b c}, lt a b = true → lt b c = true → lt a c = true
 tri : ∀ {a b}, lt a b = false → lt b a = false → a = b
theorem KOrd.asym {K : Type} [o : KOrd K] {a b : K} (h : o.lt a b = true) : o.lt b a = false := by
 cases hb : o.lt b a
 ·rfl
 ·have := o.tr h hb
  rw [o.irr] at this
  cases this
instance : KOrd ByteArray where
 lt a b := Op.bytesLess a.toList b.toList
 irr a := bytesLess_irr _
 tr h h' := bytesLess_tr _ _ _ h h'
 tri h h' := toList_inj (bytesLess_tri _ _ h h')
instance : KOrd Int where
 lt a b := decide (a < b)
 irr a := by simp
 tr h h' := by simp at *; omega
 tri h h' := by simp at *; omega
def cmpOf {K : Type} [o : KOrd K] (a b : K) : Int := if o.lt a b then -1 else if o.lt b a then 1 else 0
set_option maxHeartbeats 400000 in
theorem nanS (s : ByteArray) (w : World) : Calls Tryz.prog 131 #[.string s] w fun e w' => e = .returned (.bool false) ∧ w = w' := by
 have h := beq_self_list s
 go_enter Tryz.func131, Tryz.ntmps131
 go_wp2
 go_ret
 exact ⟨rfl, rfl⟩
set_option maxHeartbeats 400000 in
theorem nanI (n : Int) (w : World) : Calls Tryz.prog 130 #[.int .i64 n] w fun e w' => e = .returned (.bool false) ∧ w = w' := by
 go_enter Tryz.func130, Tryz.ntmps130
 go_wp2
 go_ret
 exact ⟨rfl, rfl⟩
set_option maxHeartbeats 400000 in
theorem cmpS_lt {a b : ByteArray} (w : World) (h : Op.bytesLess a.toList b.toList = true) : Calls Tryz.prog 81 #[.string a, .string b] w fun e w' => e = .returned (.int .i64 (-1)) ∧ w = w' := by
 go_enter Tryz.func81, Tryz.ntmps81
 go_wp2_with fail
 refine (nanS _ _).mono ?_
 rintro e w' ⟨rfl, rfl⟩
 go_wp2_with fail
 refine (nanS _ _).mono ?_
 rintro e w' ⟨rfl, rfl⟩
 go_wp2
 go_ret
 exact ⟨rfl, rfl⟩
set_option maxHeartbeats 400000 in
theorem cmpS_gt {a b : ByteArray} (w : World) (h : Op.bytesLess b.toList a.toList = true) : Calls Tryz.prog 81 #[.string a, .string b] w fun e w' => e = .returned (.int .i64 1) ∧ w = w' := by
 have h2 : Op.bytesLess a.toList b.toList = false := KOrd.asym (K := ByteArray) h
 have h3 : (a.toList == b.toList) = false := by
  cases e : a.toList == b.toList
  ·rfl
  ·rw [eq_of_beq e, bytesLess_irr] at h; cases h
 clear h
 go_enter Tryz.func81, Tryz.ntmps81
 go_wp2_with fail
 refine (nanS _ _).mono ?_
 rintro e w' ⟨rfl, rfl⟩
 go_wp2_with fail
 refine (nanS _ _).mono ?_
 rintro e w' ⟨rfl, rfl⟩
 go_wp2
 go_ret
 exact ⟨rfl, rfl⟩
set_option maxHeartbeats 400000 in
theorem cmpS_eq (a : ByteArray) (w : World) : Calls Tryz.prog 81 #[.string a, .string a] w fun e w' => e = .returned (.int .i64 0) ∧ w = w' := by
 have h2 := bytesLess_irr a.toList
 have h3 := beq_self_list a
 go_enter Tryz.func81, Tryz.ntmps81
 go_wp2_with fail
 refine (nanS _ _).mono ?_
 rintro e w' ⟨rfl, rfl⟩
 go_wp2_with fail
 refine (nanS _ _).mono ?_
 rintro e w' ⟨rfl, rfl⟩
 go_wp2
 go_ret
 exact ⟨rfl, rfl⟩
theorem cmpS_any (a b : ByteArray) (w : World) : Calls Tryz.prog 81 #[.string a, .string b] w fun e w' => e = .returned (.int .i64 (cmpOf a b)) ∧ w = w' := by
 unfold cmpOf
 split
 ·exact cmpS_lt w ‹_›
 ·split
  ·exact cmpS_gt w ‹_›
  ·rename_i h1 h2
   have e : a = b := KOrd.tri (by simpa using h1) (by simpa using h2)
   subst e
   exact cmpS_eq a w
set_option maxHeartbeats 400000 in
theorem cmpI_lt {a b : Int} (w : World) (h : a < b) : Calls Tryz.prog 80 #[.int .i64 a, .int .i64 b] w fun e w' => e = .returned (.int .i64 (-1)) ∧ w = w' := by
 go_enter Tryz.func80, Tryz.ntmps80
 go_wp2_with fail
 refine (nanI _ _).mono ?_
 rintro e w' ⟨rfl, rfl⟩
 go_wp2_with fail
 refine (nanI _ _).mono ?_
 rintro e w' ⟨rfl, rfl⟩
 go_wp2
 go_ret
 exact ⟨rfl, rfl⟩
set_option maxHeartbeats 400000 in
theorem cmpI_gt {a b : Int} (w : World) (h : b < a) : Calls Tryz.prog 80 #[.int .i64 a, .int .i64 b] w fun e w' => e = .returned (.int .i64 1) ∧ w = w' := by
 go_enter Tryz.func80, Tryz.ntmps80
 go_wp2_with fail
 refine (nanI _ _).mono ?_
 rintro e w' ⟨rfl, rfl⟩
 go_wp2_with fail
 refine (nanI _ _).mono ?_
 rintro e w' ⟨rfl, rfl⟩
 go_wp2
 go_ret
 exact ⟨rfl, rfl⟩
set_option maxHeartbeats 400000 in
theorem cmpI_eq (a : Int) (w : World) : Calls Tryz.prog 80 #[.int .i64 a, .int .i64 a] w fun e w' => e = .returned (.int .i64 0) ∧ w = w' := by
 go_enter Tryz.func80, Tryz.ntmps80
 go_wp2_with fail
 refine (nanI _ _).mono ?_
 rintro e w' ⟨rfl, rfl⟩
 go_wp2_with fail
 refine (nanI _ _).mono ?_
 rintro e w' ⟨rfl, rfl⟩
 go_wp2
 go_ret
 exact ⟨rfl, rfl⟩
theorem cmpI_any (a b : Int) (w : World) : Calls Tryz.prog 80 #[.int .i64 a, .int .i64 b] w fun e w' => e = .returned (.int .i64 (cmpOf a b)) ∧ w = w' := by
 unfold cmpOf
 split
 ·rename_i h1
  exact cmpI_lt w (of_decide_eq_true h1)
 ·split
  ·rename_i h1 h2
   exact cmpI_gt w (of_decide_eq_true h2)
  ·rename_i h1 h2
   have e : a = b := KOrd.tri (by simpa using h1) (by simpa using h2)
   subst e
   exact cmpI_eq a w
set_option maxHeartbeats 400000 in
theorem nanU (n : Int) (w : World) : Calls Tryz.prog 129 #[.int .u64 n] w fun e w' => e = .returned (.bool false) ∧ w = w' := by
 go_enter Tryz.func129, Tryz.ntmps129
 go_wp2
 go_ret
 exact ⟨rfl, rfl⟩
set_option maxHeartbeats 400000 in
theorem cmpU_lt {a b : Int} (w : World) (h : a < b) : Calls Tryz.prog 79 #[.int .u64 a, .int .u64 b] w fun e w' => e = .returned (.int .i64 (-1)) ∧ w = w' := by
 go_enter Tryz.func79, Tryz.ntmps79
 go_wp2_with fail
 refine (nanU _ _).mono ?_
 rintro e w' ⟨rfl, rfl⟩
 go_wp2_with fail
 refine (nanU _ _).mono ?_
 rintro e w' ⟨rfl, rfl⟩
 go_wp2
 go_ret
 exact ⟨rfl, rfl⟩
set_option maxHeartbeats 400000 in
theorem cmpU_gt {a b : Int} (w : World) (h : b < a) : Calls Tryz.prog 79 #[.int .u64 a, .int .u64 b] w fun e w' => e = .returned (.int .i64 1) ∧ w = w' := by
 go_enter Tryz.func79, Tryz.ntmps79
 go_wp2_with fail
 refine (nanU _ _).mono ?_
 rintro e w' ⟨rfl, rfl⟩
 go_wp2_with fail
 refine (nanU _ _).mono ?_
 rintro e w' ⟨rfl, rfl⟩
 go_wp2
 go_ret
 exact ⟨rfl, rfl⟩
set_option maxHeartbeats 400000 in
theorem cmpU_eq (a : Int) (w : World) : Calls Tryz.prog 79 #[.int .u64 a, .int .u64 a] w fun e w' => e = .returned (.int .i64 0) ∧ w = w' := by
 go_enter Tryz.func79, Tryz.ntmps79
 go_wp2_with fail
 refine (nanU _ _).mono ?_
 rintro e w' ⟨rfl, rfl⟩
 go_wp2_with fail
 refine (nanU _ _).mono ?_
 rintro e w' ⟨rfl, rfl⟩
 go_wp2
 go_ret
 exact ⟨rfl, rfl⟩
theorem cmpU_any (a b : Int) (w : World) : Calls Tryz.prog 79 #[.int .u64 a, .int .u64 b] w fun e w' => e = .returned (.int .i64 (cmpOf a b)) ∧ w = w' := by
 unfold cmpOf
 split
 ·rename_i h1
  exact cmpU_lt w (of_decide_eq_true h1)
 ·split
  ·rename_i h1 h2
   exact cmpU_gt w (of_decide_eq_true h2)
  ·rename_i h1 h2
   have e : a = b := KOrd.tri (by simpa using h1) (by simpa using h2)
   subst e
   exact cmpU_eq a w
def orI : List Int → Int
 | [] => 0
 | a :: l => if a = 0 then orI l else a
theorem orI_drop (l : List Int) : ∀ (k : Nat) (h : k < l.length), orI (l.drop k) = if l[k] = 0 then orI (l.drop (k + 1)) else l[k] := by
 intro k h
 rw [List.drop_eq_getElem_cons h]
 rfl
set_option maxRecDepth 100000 in
set_option maxHeartbeats 1600000 in
theorem or_any {w : World} {v : Value} {l : List Int} (h : Row w 1 v l.length (ints l)) (hl : l.length < 1000000) :
  Calls Tryz.prog 78 #[v] w fun e w' => e = .returned (.int .i64 (orI l)) ∧ w = w' := by
 obtain ⟨aa, ca, rfl, xa⟩ := h.at
 have XA := Lib.hid xa
 clear h xa
 go_enter Tryz.func78, Tryz.ntmps78
 go_wp2_with fail
 go_loop [8] (fun i => ∃ k : Nat, i = .int .i64 (k : Int) ∧ k ≤ l.length ∧ orI (l.drop k) = orI l) (fun i => l.length - (intOf i).toNat)
 case atStart => exact ⟨0, rfl, Nat.zero_le _, rfl⟩
 case round =>
  obtain ⟨k, rfl, hk, ho⟩ := hrel
  by_cases hlt : k < l.length
  ·obtain ⟨b1, o1, rfl, q1⟩ := XA.out (by omega)
   have c1 := q1 k _ (ints_at l k hlt)
   have hd := orI_drop l k hlt
   rw [ho] at hd
   have HD := Lib.hid hd
   clear q1 XA ho hd
   generalize l[k] = x at *
   have hk0 : (0 : Int) ≤ (k : Int) := by omega
   have hk1 : (k : Int) < (l.length : Int) := by omega
   by_cases hx : x = 0
   ·subst hx
    go_wp2_with fail
    go_round
    case rel => exact ⟨k + 1, by go_num, by omega, by have := HD.out; rw [if_pos rfl] at this; exact this.symm⟩
    case measure => simp [intOf]; omega
   ·have hx1 : (x != 0) = true := by rw [bne_iff_ne]; exact hx
    have hx2 : (x == 0) = false := by rw [beq_eq_false_iff_ne]; exact hx
    have HE : Hid (orI l = x) := Lib.hid (by have := HD.out; rwa [if_neg hx] at this)
    clear hx HD
    go_wp2_with fail
    go_returns
    exact ⟨congrArg (fun z => Ending.returned (Value.int .i64 z)) HE.out.symm, rfl⟩
  ·obtain rfl : k = l.length := by omega
   rw [List.drop_length] at ho
   have HE : Hid (orI l = 0) := Lib.hid ho.symm
   clear ho XA hlt
   go_wp2_with fail
   go_returns
   exact ⟨congrArg (fun z => Ending.returned (Value.int .i64 z)) HE.out.symm, rfl⟩
end Go.Proofs.YtjmcaceegfdkkaaGreatDoor
namespace Go.Proofs.YtjmcaceegfdkkaaGreatDoor
open Go.ChangeShapes Go.WideShapes Go.ChangeAt Go.RowKit
set_option linter.unusedVariables false
abbrev TrT : TypeId := 67
abbrev TreesT : TypeId := 22
def treeA (n : Nd) (v : Value) : Array Value := #[.int .i64 n.kind, .int .i64 n.frm, .int .i64 n.to, .int .u64 n.num, .string n.text, v]
def AtF (w : World) (G : Nat → Prop) : Fo → Nat → Nat → Prop
 | .nil, _, _ => True
 | .cons n k r, b, off =>
  (w.cell? ⟨b, off, none⟩ = some (.int .i64 n.kind) ∧ w.cell? ⟨b, off + 1, none⟩ = some (.int .i64 n.frm) ∧ w.cell? ⟨b, off + 2, none⟩ = some (.int .i64 n.to) ∧ w.cell? ⟨b, off + 3, none⟩ = some (.int .u64 n.num) ∧ w.cell? ⟨b, off + 4, none⟩ = some (.string n.text)) ∧
  (∃ v, w.cell? ⟨b, off + 5, none⟩ = some v ∧ ∃ a c, v = .slice a k.len c ∧ k.len ≤ c ∧ c ≤ maxLen ∧ (0 < k.len → ∃ b' o', a = some ⟨b', o', none⟩ ∧ G b' ∧ AtF w G k b' o')) ∧
  AtF w G r b (off + 6)
def IsK (w : World) (G : Nat → Prop) (v : Value) (k : Fo) : Prop :=
 ∃ a c, v = .slice a k.len c ∧ k.len ≤ c ∧ c ≤ maxLen ∧ (0 < k.len → ∃ b' o', a = some ⟨b', o', none⟩ ∧ G b' ∧ AtF w G k b' o')
theorem AtF.cons {w : World} {G : Nat → Prop} {n : Nd} {k r : Fo} {b off : Nat} (h : AtF w G (.cons n k r) b off) :
  w.cell? ⟨b, off, none⟩ = some (.int .i64 n.kind) ∧ w.cell? ⟨b, off + 1, none⟩ = some (.int .i64 n.frm) ∧ w.cell? ⟨b, off + 2, none⟩ = some (.int .i64 n.to) ∧ w.cell? ⟨b, off + 3, none⟩ = some (.int .u64 n.num) ∧ w.cell? ⟨b, off + 4, none⟩ = some (.string n.text) ∧
   ∃ v, w.cell? ⟨b, off + 5, none⟩ = some v ∧ IsK w G v k ∧ AtF w G r b (off + 6) := by
 obtain ⟨⟨h0, h1, h2, h3, h4⟩, ⟨v, h5, h6⟩, h7⟩ := h
 exact ⟨h0, h1, h2, h3, h4, v, h5, h6, h7⟩
theorem AtF.mk {w : World} {G : Nat → Prop} {n : Nd} {k r : Fo} {b off : Nat} {v : Value} (h0 : w.cell? ⟨b, off, none⟩ = some (.int .i64 n.kind)) (h1 : w.cell? ⟨b, off + 1, none⟩ = some (.int .i64 n.frm)) (h2 : w.cell? ⟨b, off + 2, none⟩ = some (.int .i64 n.to)) (h3 : w.cell? ⟨b, off + 3, none⟩ = some (.int .u64 n.num)) (h4 : w.cell? ⟨b, off + 4, none⟩ = some (.string n.text))
  (h5 : w.cell? ⟨b, off + 5, none⟩ = some v) (h6 : IsK w G v k) (h7 : AtF w G r b (off + 6)) : AtF w G (.cons n k r) b off := ⟨⟨h0, h1, h2, h3, h4⟩, ⟨v, h5, h6⟩, h7⟩
theorem IsK.shape {w : World} {G : Nat → Prop} {v : Value} {k : Fo} (h : IsK w G v k) : ∃ a c, v = .slice a k.len c ∧ (0 < k.len → ∃ b o, a = some ⟨b, o, none⟩ ∧ G b ∧ AtF w G k b o) := by
 obtain ⟨a, c, h1, _, _, h4⟩ := h; exact ⟨a, c, h1, h4⟩
theorem IsK.small {w : World} {G : Nat → Prop} {v : Value} {k : Fo} (h : IsK w G v k) : k.len ≤ maxLen := by
 obtain ⟨a, c, _, h2, h3, _⟩ := h; omega
theorem IsK.nils (w : World) (G : Nat → Prop) (a : Option Addr) (c : Nat) (hc : c ≤ maxLen) : IsK w G (.slice a 0 c) .nil := ⟨a, c, rfl, Nat.zero_le _, hc, fun h => absurd h (by simp [Fo.len])⟩
theorem cell_of_heap {w w' : World} {b : Nat} (h : w'.heap[b]? = w.heap[b]?) (o : Nat) : w'.cell? ⟨b, o, none⟩ = w.cell? ⟨b, o, none⟩ := by
 simp only [World.cell?, h]
theorem AtF.keep {w w' : World} {G G' : Nat → Prop} (hk : ∀ b, G b → b < w.heap.size → G' b ∧ w'.heap[b]? = w.heap[b]?) : ∀ (f : Fo) (b off : Nat), (b < w.heap.size → w'.heap[b]? = w.heap[b]?) → AtF w G f b off → AtF w' G' f b off := by
 intro f
 induction f with
 | nil => intro b off _ _; trivial
 | cons n k r ihk ihr =>
  intro b off hb h
  obtain ⟨⟨h0, h1, h2, h3, h4⟩, ⟨v, h5, a, c, h6, h7, h8, h9⟩, h10⟩ := h
  have hbs : b < w.heap.size := World.block_lt_of_cell? w _ h0
  have e := fun o => cell_of_heap (hb hbs) o
  refine ⟨⟨by rw [e]; exact h0, by rw [e]; exact h1, by rw [e]; exact h2, by rw [e]; exact h3, by rw [e]; exact h4⟩, ⟨v, by rw [e]; exact h5, a, c, h6, h7, h8, fun hp => ?_⟩, ihr b (off + 6) hb h10⟩
  obtain ⟨b', o', q1, q2, q3⟩ := h9 hp
  have hb' : b' < w.heap.size := by
   cases k with
   | nil => simp [Fo.len] at hp
   | cons n' k' r' => exact World.block_lt_of_cell? w _ q3.1.1
  exact ⟨b', o', q1, (hk b' q2 hb').1, ihk b' o' (fun hl => (hk b' q2 hl).2) q3⟩
theorem IsK.keep {w w' : World} {G G' : Nat → Prop} {v : Value} {k : Fo} (hk : ∀ b, G b → b < w.heap.size → G' b ∧ w'.heap[b]? = w.heap[b]?) (h : IsK w G v k) : IsK w' G' v k := by
 obtain ⟨a, c, h1, h2, h3, h4⟩ := h
 refine ⟨a, c, h1, h2, h3, fun hp => ?_⟩
 obtain ⟨b, o, q1, q2, q3⟩ := h4 hp
 have hb' : b < w.heap.size := by
  cases k with
  | nil => simp [Fo.len] at hp
  | cons n' k' r' => exact World.block_lt_of_cell? w _ q3.1.1
 exact ⟨b, o, q1, (hk b q2 hb').1, AtF.keep hk k b o (fun hl => (hk b q2 hl).2) q3⟩
theorem IsK.below {w w' : World} {G : Nat → Prop} {v : Value} {k : Fo} (h : IsK w G v k) (hb : Below w.heap.size w w') : IsK w' G v k :=
 h.keep fun b hg hl => ⟨hg, hb.block b hl⟩
def Safe (w : World) (B b : Nat) : Prop := b < B ∨ ∃ cs, w.heap[b]? = some (Obj.cells cs TrT)
theorem AtF.hold {w w' : World} {B : Nat} {k : Fo} {b off : Nat} (h : AtF w (Safe w B) k b off) (hs : Safe w B b) (h1 : Below B w w') (h2 : Hold TrT w w') : AtF w' (Safe w' B) k b off := by
 refine AtF.keep (fun b hg hl => ?_) k b off (fun hl => ?_) h
 ·rcases hg with hg | ⟨cs, hg⟩
  ·exact ⟨.inl hg, h1.block b hg⟩
  ·exact ⟨.inr ⟨cs, h2 b cs hg⟩, by rw [h2 b cs hg, hg]⟩
 ·rcases hs with hg | ⟨cs, hg⟩
  ·exact h1.block b hg
  ·rw [h2 b cs hg, hg]
theorem Safe.hold {w w' : World} {B b : Nat} (h : Safe w B b) (h2 : Hold TrT w w') : Safe w' B b := by
 rcases h with hg | ⟨cs, hg⟩
 ·exact .inl hg
 ·exact .inr ⟨cs, h2 b cs hg⟩
theorem Safe.below {w w' : World} {B b : Nat} (h : Safe w B b) (h2 : Below w.heap.size w w') : Safe w' B b := h.hold (Hold.below h2)
theorem IsK.safe {w w' : World} {B : Nat} {v : Value} {k : Fo} (h : IsK w (Safe w B) v k) (h1 : Below w.heap.size w w') : IsK w' (Safe w' B) v k :=
 h.keep fun b hg hl => ⟨hg.below h1, h1.block b hl⟩
theorem AtF.safe {w w' : World} {B : Nat} {k : Fo} {b off : Nat} (h : AtF w (Safe w B) k b off) (h1 : Below w.heap.size w w') : AtF w' (Safe w' B) k b off :=
 AtF.keep (fun b hg hl => ⟨hg.below h1, h1.block b hl⟩) k b off (fun hl => h1.block b hl) h
theorem IsK.of {w w' : World} {G G' : Nat → Prop} {v : Value} {k : Fo} (h : IsK w G v k) (hg : ∀ b, G b → b < w.heap.size → G' b) : IsK w G' v k := h.keep fun b h hl => ⟨hg b h hl, rfl⟩
def OkF : Fo → Prop
 | .nil => True
 | .cons n k r => NdOk n ∧ n.a = 0 ∧ n.b = 0 ∧ OkF k ∧ OkF r
theorem OkF.bare : ∀ {f : Fo}, OkF f → Bare f
 | .nil, _ => trivial
 | .cons n k r, ⟨_, h1, h2, h3, h4⟩ => ⟨h1, h2, OkF.bare h3, OkF.bare h4⟩
def foOf : List (Nd × Fo) → Fo
 | [] => .nil
 | x :: l => .cons x.1 x.2 (foOf l)
theorem foOf_len : ∀ l : List (Nd × Fo), (foOf l).len = l.length
 | [] => rfl
 | x :: l => by simp [foOf, Fo.len, foOf_len l]
theorem foOf_ok : ∀ l : List (Nd × Fo), (∀ x ∈ l, NdOk x.1 ∧ x.1.a = 0 ∧ x.1.b = 0 ∧ OkF x.2) → OkF (foOf l)
 | [], _ => trivial
 | x :: l, h => ⟨(h x (by simp)).1, (h x (by simp)).2.1, (h x (by simp)).2.2.1, (h x (by simp)).2.2.2, foOf_ok l fun y hy => h y (by simp [hy])⟩
theorem foOf_at {w : World} {G : Nat → Prop} {b : Nat} : ∀ (l : List (Nd × Fo)) (off : Nat),
  (∀ i (hi : i < l.length), w.cell? ⟨b, off + i * 6, none⟩ = some (.int .i64 (l[i]).1.kind) ∧ w.cell? ⟨b, off + i * 6 + 1, none⟩ = some (.int .i64 (l[i]).1.frm) ∧ w.cell? ⟨b, off + i * 6 + 2, none⟩ = some (.int .i64 (l[i]).1.to) ∧ w.cell? ⟨b, off + i * 6 + 3, none⟩ = some (.int .u64 (l[i]).1.num) ∧ w.cell? ⟨b, off + i * 6 + 4, none⟩ = some (.string (l[i]).1.text) ∧ ∃ v, w.cell? ⟨b, off + i * 6 + 5, none⟩ = some v ∧ IsK w G v (l[i]).2) → AtF w G (foOf l) b off
 | [], _, _ => trivial
 | x :: l, off, h => by
  have h0 := h 0 (by simp)
  simp only [Nat.zero_mul, Nat.add_zero, List.getElem_cons_zero] at h0
  obtain ⟨a0, a1, a2, a3, a4, v, a5, a6⟩ := h0
  refine AtF.mk a0 a1 a2 a3 a4 a5 a6 (foOf_at l (off + 6) fun i hi => ?_)
  have := h (i + 1) (by simp; omega)
  rw [show off + (i + 1) * 6 = off + 6 + i * 6 by omega] at this
  simpa using this
section
variable {H : Type} {enc : TypeId × Value → H} {W : World} {base : Nat}
set_option maxRecDepth 100000 in
theorem trod_tree {u0 u1 u2 u3 u4 u5 : Value} {fuel : Nat} {sp : Nat → Bool} {x : DataW H × List MemPlace} (ht : DataW.trod enc Tryz.prog W 0 sp true fuel TrT [u0, u1, u2, u3, u4, u5] = some x) :
  ∃ z : Nd, NdOk z ∧ z.a = 0 ∧ z.b = 0 ∧ u0 = .int .i64 z.kind ∧ u1 = .int .i64 z.frm ∧ u2 = .int .i64 z.to ∧ u3 = .int .u64 z.num ∧ u4 = .string z.text ∧ ∃ k y, k < fuel ∧ DataW.trod enc Tryz.prog W 0 sp true k TreesT [u5] = some y := by
 obtain ⟨ys, k, hk, _, _, hyl, hfld⟩ := DataW.trod_struct Tryz.underlying67 ht
 have hi1 : Tryz.prog.cellsOf 3 = 1 := by kernel_rfl
 have hi2 : Tryz.prog.cellsOf 24 = 1 := by kernel_rfl
 have hi3 : Tryz.prog.cellsOf TreesT = 1 := by kernel_rfl
 have f0 : DataW.trod enc Tryz.prog W 0 sp true k 3 (([u0, u1, u2, u3, u4, u5].drop 0).take (Tryz.prog.cellsOf 3)) = ys[0]? := hfld 0 _ rfl
 have f1 : DataW.trod enc Tryz.prog W 0 sp true k 3 (([u0, u1, u2, u3, u4, u5].drop 1).take (Tryz.prog.cellsOf 3)) = ys[1]? := hfld 1 _ rfl
 have f2 : DataW.trod enc Tryz.prog W 0 sp true k 3 (([u0, u1, u2, u3, u4, u5].drop 2).take (Tryz.prog.cellsOf 3)) = ys[2]? := hfld 2 _ rfl
 have f3 : DataW.trod enc Tryz.prog W 0 sp true k 24 (([u0, u1, u2, u3, u4, u5].drop 3).take (Tryz.prog.cellsOf 24)) = ys[3]? := hfld 3 _ rfl
 have f4 : DataW.trod enc Tryz.prog W 0 sp true k 9 (([u0, u1, u2, u3, u4, u5].drop 4).take (Tryz.prog.cellsOf 9)) = ys[4]? := hfld 4 _ rfl
 have f5 : DataW.trod enc Tryz.prog W 0 sp true k TreesT (([u0, u1, u2, u3, u4, u5].drop 5).take (Tryz.prog.cellsOf TreesT)) = ys[5]? := hfld 5 _ rfl
 rw [hi1] at f0 f1 f2
 rw [hi2] at f3
 rw [cellsS] at f4
 rw [hi3] at f5
 simp only [List.drop_zero, List.drop_succ_cons, List.take_succ_cons, List.take_zero] at f0 f1 f2 f3 f4 f5
 have y0 : ys[0]? = some (ys[0]'(by rw [hyl]; decide)) := List.getElem?_eq_getElem (by rw [hyl]; decide)
 rw [y0] at f0
 have y1 : ys[1]? = some (ys[1]'(by rw [hyl]; decide)) := List.getElem?_eq_getElem (by rw [hyl]; decide)
 rw [y1] at f1
 have y2 : ys[2]? = some (ys[2]'(by rw [hyl]; decide)) := List.getElem?_eq_getElem (by rw [hyl]; decide)
 rw [y2] at f2
 have y3 : ys[3]? = some (ys[3]'(by rw [hyl]; decide)) := List.getElem?_eq_getElem (by rw [hyl]; decide)
 rw [y3] at f3
 have y4 : ys[4]? = some (ys[4]'(by rw [hyl]; decide)) := List.getElem?_eq_getElem (by rw [hyl]; decide)
 rw [y4] at f4
 have y5 : ys[5]? = some (ys[5]'(by rw [hyl]; decide)) := List.getElem?_eq_getElem (by rw [hyl]; decide)
 rw [y5] at f5
 obtain ⟨n0, e0, _, w0⟩ := DataW.trod_int Tryz.underlying3 f0
 obtain ⟨n1, e1, _, w1⟩ := DataW.trod_int Tryz.underlying3 f1
 obtain ⟨n2, e2, _, w2⟩ := DataW.trod_int Tryz.underlying3 f2
 obtain ⟨n3, e3, _, w3⟩ := DataW.trod_int Tryz.underlying24 f3
 obtain ⟨n4, e4, _, w4⟩ := DataW.trod_string Tryz.underlying9 f4
 simp at e0 e1 e2 e3 e4
 subst e0 e1 e2 e3 e4
 have zz : i64R 0 := by unfold i64R; omega
 refine ⟨⟨n0, n1, n2, n3, n4, 0, 0⟩, ⟨?_, ?_, ?_, ?_, w4, zz, zz⟩, rfl, rfl, rfl, rfl, rfl, rfl, rfl, k, _, by omega, f5⟩
 ·have := bounds_i64 w0; unfold i64R; simp only; omega
 ·have := bounds_i64 w1; unfold i64R; simp only; omega
 ·have := bounds_i64 w2; unfold i64R; simp only; omega
 ·have := bounds_u64 w3; simp only; omega
theorem trod_forest : ∀ (fuel : Nat) (v : Value) (x : DataW H × List MemPlace), DataW.trod enc Tryz.prog W 0 (fun _ => true) true fuel TreesT [v] = some x → ∃ k, IsK W (fun b => b < W.heap.size) v k ∧ OkF k := by
 intro fuel
 induction fuel using Nat.strongRecOn with
 | _ fuel ih =>
  intro v x h
  rcases DataW.trod_slice Tryz.underlying22 h with ⟨hcs, _⟩ | ⟨a, len, cap, elems, rest, n, hfuel, hcs, _, _, hlc, hcm, hel, hat, _⟩
  ·simp at hcs
   subst hcs
   exact ⟨.nil, IsK.nils _ _ _ _ (Nat.zero_le _), trivial⟩
  ·simp at hcs
   subst hcs
   have each : ∀ i, i < len → ∃ z : Nd × Fo, (∃ u0 u1 u2 u3 u4 u5 : Value, (∀ j u, [u0, u1, u2, u3, u4, u5][j]? = some u → W.cell? ((a.add (i * 6)).add j) = some u) ∧ u0 = .int .i64 z.1.kind ∧ u1 = .int .i64 z.1.frm ∧ u2 = .int .i64 z.1.to ∧ u3 = .int .u64 z.1.num ∧ u4 = .string z.1.text ∧ IsK W (fun b => b < W.heap.size) u5 z.2) ∧ NdOk z.1 ∧ z.1.a = 0 ∧ z.1.b = 0 ∧ OkF z.2 := by
    intro i hi
    have hb := hat i hi
    rw [List.getElem?_eq_getElem (by omega)] at hb
    obtain ⟨cs', hc, ht⟩ := Option.bind_eq_some_iff.1 hb
    rw [show Tryz.prog.cellsOf 67 = 6 by kernel_rfl] at hc
    obtain ⟨_, hlen6, hcat⟩ := World.cells?_some hc
    match cs', hlen6 with
    | [u0, u1, u2, u3, u4, u5], _ =>
     obtain ⟨z, hz, za, zb, e0, e1, e2, e3, e4, k, y, hk, hy⟩ := trod_tree ht
     obtain ⟨kk, hkk, hok⟩ := ih k (by omega) u5 y hy
     refine ⟨(z, kk), ⟨u0, u1, u2, u3, u4, u5, fun j u hj => ?_, e0, e1, e2, e3, e4, hkk⟩, hz, za, zb, hok⟩
     have hjl : j < 6 := (List.getElem?_eq_some_iff.1 hj).1
     rw [hcat j (by simpa using hjl)]
     exact hj
   obtain ⟨l, hll, hq⟩ := list_of len each
   refine ⟨foOf l, ⟨some a, cap, by rw [foOf_len, hll], by rw [foOf_len, hll]; exact hlc, hcm, fun hp => ?_⟩, foOf_ok l fun z hz => ?_⟩
   ·rw [foOf_len] at hp
    obtain ⟨b, off, spot⟩ := a
    obtain ⟨⟨u0, _, _, _, _, _, h0, _⟩, _⟩ := hq 0 hp
    have h00 := h0 0 u0 rfl
    have hspot : spot = none := by simpa [Addr.add] using World.cell?_spot h00
    subst hspot
    have hblt : b < W.heap.size := by
     have := World.block_lt_of_cell? W _ h00
     simpa [Addr.add] using this
    refine ⟨b, off, rfl, hblt, foOf_at l off fun i hi => ?_⟩
    obtain ⟨⟨v0, v1, v2, v3, v4, v5, hc, rfl, rfl, rfl, rfl, rfl, hk⟩, _⟩ := hq i hi
    have g0 := hc 0 _ rfl
    have g1 := hc 1 _ rfl
    have g2 := hc 2 _ rfl
    have g3 := hc 3 _ rfl
    have g4 := hc 4 _ rfl
    have g5 := hc 5 _ rfl
    simp only [addr_add, Nat.add_zero] at g0 g1 g2 g3 g4 g5
    exact ⟨g0, g1, g2, g3, g4, _, g5, hk⟩
   ·obtain ⟨i, hi, rfl⟩ := List.getElem_of_mem hz
    exact (hq i hi).2
set_option maxRecDepth 100000 in
theorem open_trees {v : Value} {fuel : Nat} {x : DataW H × List MemPlace} (hval : Cell.okWide Tryz.prog W .any base 22 v) (hf : DataW.trod enc Tryz.prog W 0 (fun _ => true) true fuel 22 [v] = some x) :
  ∃ k : Fo, IsK W (fun b => b < W.heap.size) v k ∧ OkF k := trod_forest fuel v x hf
end
end Go.Proofs.YtjmcaceegfdkkaaGreatDoor
