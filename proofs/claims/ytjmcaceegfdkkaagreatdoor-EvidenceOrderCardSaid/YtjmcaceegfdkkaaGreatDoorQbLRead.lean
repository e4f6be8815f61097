/-
  Trees in memory; what an argument that is a tree, or a list of trees, gives the walk.
  The document's Parts, the law's large.
  Read in memory: what letter a term is; a pool, or none.
-/
import Derived.BigQuiet
import Derived.Deep.QuietTactic
import Derived.Test.YtjmcaceegfdkkaaGreatDoorQbTTree
import Derived.Test.YtjmcaceegfdkkaaGreatDoorQbTKey
import Derived.Test.YtjmcaceegfdkkaaGreatDoorQbTKit
import Derived.Test.YtjmcaceegfdkkaaGreatDoorQbLPln
import Derived.Test.YtjmcaceegfdkkaaGreatDoorQbTPool
namespace Go.Proofs.YtjmcaceegfdkkaaGreatDoor
open Go.ChangeShapes Go.WideShapes Go.ChangeAt Go.RowKit
set_option linter.unusedVariables false
abbrev TrT : TypeId := 67
abbrev TreesT : TypeId := 22
def treeA (n : Nd) (v : Value) : Array Value := #[.int .i64 n.kind, .int .i64 n.frm, .int .i64 n.to, .int .u64 n.num, .string n.text, v]
/-- From ⟨b, off⟩ on lie these trees; the blocks of their kids are of G. -/
def AtF (w : World) (G : Nat → Prop) : Fo → Nat → Nat → Prop
  | .nil, _, _ => True
  | .cons n k r, b, off =>
    (w.cell? ⟨b, off, none⟩ = some (.int .i64 n.kind) ∧ w.cell? ⟨b, off + 1, none⟩ = some (.int .i64 n.frm) ∧ w.cell? ⟨b, off + 2, none⟩ = some (.int .i64 n.to) ∧ w.cell? ⟨b, off + 3, none⟩ = some (.int .u64 n.num) ∧ w.cell? ⟨b, off + 4, none⟩ = some (.string n.text)) ∧
    (∃ v, w.cell? ⟨b, off + 5, none⟩ = some v ∧ ∃ a c, v = .slice a k.len c ∧ k.len ≤ c ∧ c ≤ maxLen ∧ (0 < k.len → ∃ b' o', a = some ⟨b', o', none⟩ ∧ G b' ∧ AtF w G k b' o')) ∧
    AtF w G r b (off + 6)
/-- v is a slice of these trees. -/
def IsK (w : World) (G : Nat → Prop) (v : Value) (k : Fo) : Prop :=
  ∃ a c, v = .slice a k.len c ∧ k.len ≤ c ∧ c ≤ maxLen ∧ (0 < k.len → ∃ b' o', a = some ⟨b', o', none⟩ ∧ G b' ∧ AtF w G k b' o')
theorem AtF.cons {w : World} {G : Nat → Prop} {n : Nd} {k r : Fo} {b off : Nat} (h : AtF w G (.cons n k r) b off) :
    w.cell? ⟨b, off, none⟩ = some (.int .i64 n.kind) ∧ w.cell? ⟨b, off + 1, none⟩ = some (.int .i64 n.frm) ∧ w.cell? ⟨b, off + 2, none⟩ = some (.int .i64 n.to) ∧ w.cell? ⟨b, off + 3, none⟩ = some (.int .u64 n.num) ∧ w.cell? ⟨b, off + 4, none⟩ = some (.string n.text) ∧
      ∃ v, w.cell? ⟨b, off + 5, none⟩ = some v ∧ IsK w G v k ∧ AtF w G r b (off + 6) := by
  obtain ⟨⟨h0, h1, h2, h3, h4⟩, ⟨v, h5, h6⟩, h7⟩ := h
  exact ⟨h0, h1, h2, h3, h4, v, h5, h6, h7⟩
theorem AtF.mk {w : World} {G : Nat → Prop} {n : Nd} {k r : Fo} {b off : Nat} {v : Value} (h0 : w.cell? ⟨b, off, none⟩ = some (.int .i64 n.kind)) (h1 : w.cell? ⟨b, off + 1, none⟩ = some (.int .i64 n.frm)) (h2 : w.cell? ⟨b, off + 2, none⟩ = some (.int .i64 n.to)) (h3 : w.cell? ⟨b, off + 3, none⟩ = some (.int .u64 n.num)) (h4 : w.cell? ⟨b, off + 4, none⟩ = some (.string n.text))
    (h5 : w.cell? ⟨b, off + 5, none⟩ = some v) (h6 : IsK w G v k) (h7 : AtF w G r b (off + 6)) : AtF w G (.cons n k r) b off := ⟨⟨h0, h1, h2, h3, h4⟩, ⟨v, h5, h6⟩, h7⟩
theorem IsK.shape {w : World} {G : Nat → Prop} {v : Value} {k : Fo} (h : IsK w G v k) : ∃ a c, v = .slice a k.len c ∧ (0 < k.len → ∃ b o, a = some ⟨b, o, none⟩ ∧ G b ∧ AtF w G k b o) := by
  obtain ⟨a, c, h1, _, _, h4⟩ := h; exact ⟨a, c, h1, h4⟩
theorem IsK.small {w : World} {G : Nat → Prop} {v : Value} {k : Fo} (h : IsK w G v k) : k.len ≤ maxLen := by
  obtain ⟨a, c, _, h2, h3, _⟩ := h; omega
theorem IsK.nils (w : World) (G : Nat → Prop) (a : Option Addr) (c : Nat) (hc : c ≤ maxLen) : IsK w G (.slice a 0 c) .nil := ⟨a, c, rfl, Nat.zero_le _, hc, fun h => absurd h (by simp [Fo.len])⟩
theorem cell_of_heap {w w' : World} {b : Nat} (h : w'.heap[b]? = w.heap[b]?) (o : Nat) : w'.cell? ⟨b, o, none⟩ = w.cell? ⟨b, o, none⟩ := by
  simp only [World.cell?, h]
/-- Where the blocks stay, the trees stay. -/
theorem AtF.keep {w w' : World} {G G' : Nat → Prop} (hk : ∀ b, G b → b < w.heap.size → G' b ∧ w'.heap[b]? = w.heap[b]?) : ∀ (f : Fo) (b off : Nat), (b < w.heap.size → w'.heap[b]? = w.heap[b]?) → AtF w G f b off → AtF w' G' f b off := by
  intro f
  induction f with
  | nil => intro b off _ _; trivial
  | cons n k r ihk ihr =>
    intro b off hb h
    obtain ⟨⟨h0, h1, h2, h3, h4⟩, ⟨v, h5, a, c, h6, h7, h8, h9⟩, h10⟩ := h
    have hbs : b < w.heap.size := World.block_lt_of_cell? w _ h0
    have e := fun o => cell_of_heap (hb hbs) o
    refine ⟨⟨by rw [e]; exact h0, by rw [e]; exact h1, by rw [e]; exact h2, by rw [e]; exact h3, by rw [e]; exact h4⟩, ⟨v, by rw [e]; exact h5, a, c, h6, h7, h8, fun hp => ?_⟩, ihr b (off + 6) hb h10⟩
    obtain ⟨b', o', q1, q2, q3⟩ := h9 hp
    have hb' : b' < w.heap.size := by
      cases k with
      | nil => simp [Fo.len] at hp
      | cons n' k' r' => exact World.block_lt_of_cell? w _ q3.1.1
    exact ⟨b', o', q1, (hk b' q2 hb').1, ihk b' o' (fun hl => (hk b' q2 hl).2) q3⟩
theorem IsK.keep {w w' : World} {G G' : Nat → Prop} {v : Value} {k : Fo} (hk : ∀ b, G b → b < w.heap.size → G' b ∧ w'.heap[b]? = w.heap[b]?) (h : IsK w G v k) : IsK w' G' v k := by
  obtain ⟨a, c, h1, h2, h3, h4⟩ := h
  refine ⟨a, c, h1, h2, h3, fun hp => ?_⟩
  obtain ⟨b, o, q1, q2, q3⟩ := h4 hp
  have hb' : b < w.heap.size := by
    cases k with
    | nil => simp [Fo.len] at hp
    | cons n' k' r' => exact World.block_lt_of_cell? w _ q3.1.1
  exact ⟨b, o, q1, (hk b q2 hb').1, AtF.keep hk k b o (fun hl => (hk b q2 hl).2) q3⟩
theorem IsK.below {w w' : World} {G : Nat → Prop} {v : Value} {k : Fo} (h : IsK w G v k) (hb : Below w.heap.size w w') : IsK w' G v k :=
  h.keep fun b hg hl => ⟨hg, hb.block b hl⟩
/-- A block that no pool turns: it was there, or it holds trees. -/
def Safe (w : World) (B b : Nat) : Prop := b < B ∨ ∃ cs, w.heap[b]? = some (Obj.cells cs TrT)
theorem AtF.hold {w w' : World} {B : Nat} {k : Fo} {b off : Nat} (h : AtF w (Safe w B) k b off) (hs : Safe w B b) (h1 : Below B w w') (h2 : Hold TrT w w') : AtF w' (Safe w' B) k b off := by
  refine AtF.keep (fun b hg hl => ?_) k b off (fun hl => ?_) h
  · rcases hg with hg | ⟨cs, hg⟩
    · exact ⟨.inl hg, h1.block b hg⟩
    · exact ⟨.inr ⟨cs, h2 b cs hg⟩, by rw [h2 b cs hg, hg]⟩
  · rcases hs with hg | ⟨cs, hg⟩
    · exact h1.block b hg
    · rw [h2 b cs hg, hg]
theorem Safe.hold {w w' : World} {B b : Nat} (h : Safe w B b) (h2 : Hold TrT w w') : Safe w' B b := by
  rcases h with hg | ⟨cs, hg⟩
  · exact .inl hg
  · exact .inr ⟨cs, h2 b cs hg⟩
theorem Safe.below {w w' : World} {B b : Nat} (h : Safe w B b) (h2 : Below w.heap.size w w') : Safe w' B b := h.hold (Hold.below h2)
theorem IsK.safe {w w' : World} {B : Nat} {v : Value} {k : Fo} (h : IsK w (Safe w B) v k) (h1 : Below w.heap.size w w') : IsK w' (Safe w' B) v k :=
  h.keep fun b hg hl => ⟨hg.below h1, h1.block b hl⟩
theorem AtF.safe {w w' : World} {B : Nat} {k : Fo} {b off : Nat} (h : AtF w (Safe w B) k b off) (h1 : Below w.heap.size w w') : AtF w' (Safe w' B) k b off :=
  AtF.keep (fun b hg hl => ⟨hg.below h1, h1.block b hl⟩) k b off (fun hl => h1.block b hl) h
theorem IsK.of {w w' : World} {G G' : Nat → Prop} {v : Value} {k : Fo} (h : IsK w G v k) (hg : ∀ b, G b → b < w.heap.size → G' b) : IsK w G' v k := h.keep fun b h hl => ⟨hg b h hl, rfl⟩
/-- What may stand in a tree; the labels have no terms. -/
def OkF : Fo → Prop
  | .nil => True
  | .cons n k r => NdOk n ∧ n.a = 0 ∧ n.b = 0 ∧ OkF k ∧ OkF r
theorem OkF.bare : ∀ {f : Fo}, OkF f → Bare f
  | .nil, _ => trivial
  | .cons n k r, ⟨_, h1, h2, h3, h4⟩ => ⟨h1, h2, OkF.bare h3, OkF.bare h4⟩
def foOf : List (Nd × Fo) → Fo
  | [] => .nil
  | x :: l => .cons x.1 x.2 (foOf l)
section
variable {H : Type} {enc : TypeId × Value → H} {W : World} {base : Nat}
end
end Go.Proofs.YtjmcaceegfdkkaaGreatDoor
namespace Go.Proofs.YtjmcaceegfdkkaaGreatDoor
open Go.RowKit Go.Maps
set_option linter.unusedVariables false
theorem fo_nil {r : Fo} (h : r.len = 0) : r = .nil := by cases r with | nil => rfl | cons _ _ _ => simp [Fo.len] at h
theorem fo_pos {r : Fo} (h : 0 < r.len) : ∃ n k q, r = .cons n k q := by cases r with | nil => simp [Fo.len] at h | cons n k q => exact ⟨n, k, q, rfl⟩
theorem bZ (w : World) (o : Obj) : Below w.heap.size w (w.alloc o) := (Below.refl _ _).alloc (Nat.le_refl _) _
section
variable {G : Nat → Prop}
end
end Go.Proofs.YtjmcaceegfdkkaaGreatDoor
namespace Go.Proofs.YtjmcaceegfdkkaaGreatDoor
open Go.RowKit Go.Maps
set_option linter.unusedVariables false
abbrev LtT : TypeId := 72
def ltA (l : Lt) : Array Value := #[.int .i64 l.kind, .int .i64 l.frm, .int .u64 l.c, .string l.text, .bool l.fake]
/-- Whatever Node is asked at this pool, it answers this node. -/
def Nodes (w : World) (pv : Value) (p : Pl) : Prop := ∀ W, Below w.heap.size w W → ∀ t : Int, Calls Tryz.prog 87 #[pv, .int .i64 t] W fun e w' => ∃ b, e = .returned (.tuple #[.agg (nodeA (atP p t).1), .bool b]) ∧ Below W.heap.size W w'
theorem Nodes.below {w w' : World} {pv : Value} {p : Pl} (h : Nodes w pv p) (hb : Below w.heap.size w w') : Nodes w' pv p := fun W h1 t => h W (bmore hb h1) t
theorem nodes_pool {w : World} {B a b : Nat} {v : Value} {p : Pl} (h : IsPool w B a b v p) : Nodes w (.pointer (some ⟨a, 0, none⟩)) p := fun W hb t => (pnode (h.below hb) t).mono fun e w' ⟨h1, h2⟩ => ⟨_, h1, h2⟩
theorem litL (a : Array UInt8) : (⟨a⟩ : ByteArray).toList = a.toList := by rw [Lib.toList_data]
theorem lit_no {s d : ByteArray} (h : s ≠ d) {l : List UInt8} (hl : d.toList = l) : (s.toList == l) = false := by rw [← hl]; exact ne_bytes h
theorem lit_yes {s d : ByteArray} (h : s = d) {l : List UInt8} (hl : d.toList = l) : (s.toList == l) = true := by rw [← hl, h]; exact beq_self_list _
section
variable {w : World} {pv : Value} {p : Pl}
set_option maxRecDepth 100000 in
set_option maxHeartbeats 1600000 in
theorem split_any (h : Nodes w pv p) (t : Int) : Calls Tryz.prog 94 #[pv, .int .i64 t] w fun e w' => e = .returned (.tuple #[.string (ahP p t), .int .i64 (bhP p t)]) ∧ Below w.heap.size w w' := by
  have F1 := Lib.hid (h w (Below.refl _ _) t)
  have F2 := Lib.hid (fun W hb => h W hb (atP p t).1.a)
  clear h
  unfold ahP bhP
  generalize (atP p t).1 = n at *
  obtain ⟨k1, f1, t1, n1, s1, x1, y1⟩ := n
  dsimp only at *
  generalize (atP p x1).1 = m at *
  obtain ⟨k2, f2, t2, n2, s2, x2, y2⟩ := m
  simp only [nodeA] at *
  go_enter Tryz.func94, Tryz.ntmps94
  go_wp2_with fail
  refine F1.out.mono ?_
  rintro e w1 ⟨b1, rfl, u1⟩
  have b2 := bmore u1 (bZ w1 (.cells #[.int .i64 k1, .int .i64 f1, .int .i64 t1, .int .u64 n1, .string s1, .int .i64 x1, .int .i64 y1] NodeT))
  have h2 := heap_alloc_new w1 (.cells #[.int .i64 k1, .int .i64 f1, .int .i64 t1, .int .u64 n1, .string s1, .int .i64 x1, .int .i64 y1] NodeT)
  have HB2 := Lib.hid b2
  have HH2 := Lib.hid h2
  have x5 := cellB (j := 5) h2 rfl
  clear u1 b2 h2 F1
  go_wp2_with fail
  generalize (w1.alloc (.cells #[.int .i64 k1, .int .i64 f1, .int .i64 t1, .int .u64 n1, .string s1, .int .i64 x1, .int .i64 y1] NodeT)) = w2 at *
  generalize w1.heap.size = nb at *
  refine (F2.out _ HB2.out).mono ?_
  rintro e w3 ⟨b3, rfl, u3⟩
  have b4 := bmore u3 (bZ w3 (.cells #[.int .i64 k2, .int .i64 f2, .int .i64 t2, .int .u64 n2, .string s2, .int .i64 x2, .int .i64 y2] NodeT))
  have h4 := heap_alloc_new w3 (.cells #[.int .i64 k2, .int .i64 f2, .int .i64 t2, .int .u64 n2, .string s2, .int .i64 x2, .int .i64 y2] NodeT)
  have h5 := Hold.below b4 _ _ HH2.out
  have z6 := cellB (j := 6) h5 rfl
  have z4 := cellB (j := 4) h4 rfl
  have HB4 := Lib.hid (bmore HB2.out b4)
  clear u3 b4 h4 h5 F2 HH2 x5
  go_wp2_with fail
  generalize (w3.alloc (.cells #[.int .i64 k2, .int .i64 f2, .int .i64 t2, .int .u64 n2, .string s2, .int .i64 x2, .int .i64 y2] NodeT)) = w4 at *
  go_quiet (fail)
  go_wp2_with fail
  go_returns
  exact ⟨rfl, bmore HB4.out (bdn _ _)⟩
set_option maxRecDepth 100000 in
set_option maxHeartbeats 1600000 in
theorem rnumber_any (h : Nodes w pv p) (t : Int) : Calls Tryz.prog 99 #[pv, .int .i64 t] w fun e w' => e = .returned (.tuple #[.int .u64 (atP p t).1.num, .bool ((atP p t).1.kind == 2)]) ∧ Below w.heap.size w w' := by
  have F1 := Lib.hid (h w (Below.refl _ _) t)
  clear h
  generalize (atP p t).1 = n at *
  obtain ⟨k1, f1, t1, n1, s1, x1, y1⟩ := n
  simp only [nodeA] at *
  go_enter Tryz.func99, Tryz.ntmps99
  go_wp2_with fail
  refine F1.out.mono ?_
  rintro e w1 ⟨b1, rfl, u1⟩
  have b2 := bmore u1 (bZ w1 (.cells #[.int .i64 k1, .int .i64 f1, .int .i64 t1, .int .u64 n1, .string s1, .int .i64 x1, .int .i64 y1] NodeT))
  have h2 := heap_alloc_new w1 (.cells #[.int .i64 k1, .int .i64 f1, .int .i64 t1, .int .u64 n1, .string s1, .int .i64 x1, .int .i64 y1] NodeT)
  have HB2 := Lib.hid b2
  have x0 := cellB (j := 0) h2 rfl
  have x3 := cellB (j := 3) h2 rfl
  clear u1 b2 h2 F1
  go_wp2_with fail
  generalize (w1.alloc (.cells #[.int .i64 k1, .int .i64 f1, .int .i64 t1, .int .u64 n1, .string s1, .int .i64 x1, .int .i64 y1] NodeT)) = w2 at *
  go_quiet (fail)
  go_wp2_with fail
  go_returns
  exact ⟨rfl, bmore HB2.out (bdn _ _)⟩
theorem isParty_any (n : Int) (w : World) : Calls Tryz.prog 96 #[.int .i64 n] w fun e w' => e = .returned (.bool (ptyB n)) ∧ w = w' := by
  unfold ptyB
  go_enter Tryz.func96, Tryz.ntmps96
  cases h0 : (n == 0) with
  | true =>
    go_wp2_with fail
    go_returns
    exact ⟨rfl, rfl⟩
  | false =>
    go_wp2_with fail
    go_returns
    exact ⟨rfl, rfl⟩
def dlV (o : Option (Int × ByteArray)) : Value := match o with | some (c, s) => .tuple #[.int .u64 c, .string s, .bool true] | none => .tuple #[.int .u64 0, .string emptyS, .bool false]
set_option maxRecDepth 100000 in
set_option maxHeartbeats 1600000 in
theorem readDeal_any (h : Nodes w pv p) (t : Int) : Calls Tryz.prog 97 #[pv, .int .i64 t] w fun e w' => e = .returned (dlV (dlP p t)) ∧ Below w.heap.size w w' := by
  have SP := Lib.hid (split_any h t)
  have F1 := Lib.hid (fun W hb => h W hb (bhP p t))
  have F2 := Lib.hid (fun W (hb : Below w.heap.size w W) => rnumber_any (h.below hb) (atP p (bhP p t)).1.a)
  have F3 := Lib.hid (fun W hb => h W hb (atP p (bhP p t)).1.b)
  clear h
  unfold dlP
  generalize ahP p t = ds at *
  generalize bhP p t = body at *
  generalize (atP p body).1 = n at *
  obtain ⟨k1, f1, t1, n1, s1, x1, y1⟩ := n
  dsimp only at *
  generalize (atP p x1).1 = nx at *
  obtain ⟨k2, f2, t2, n2, s2, x2, y2⟩ := nx
  generalize (atP p y1).1 = ny at *
  obtain ⟨k3, f3, t3, n3, s3, x3, y3⟩ := ny
  simp only [nodeA] at *
  obtain ⟨rr, hrr⟩ : ∃ rr, rr = dlV (if ds = dealS ∧ k2 = 2 ∧ k3 = 3 then some (n2, s3) else none) := ⟨_, rfl⟩
  rw [← hrr]
  have HR := Lib.hid hrr
  clear hrr
  go_enter Tryz.func97, Tryz.ntmps97
  go_wp2_with fail
  refine SP.out.mono ?_
  rintro e w1 ⟨rfl, u1⟩
  have HU1 := Lib.hid u1
  clear u1 SP
  go_wp2_with fail
  refine (F1.out _ HU1.out).mono ?_
  rintro e w2 ⟨b2, rfl, u2⟩
  have b3 := bmore HU1.out (bmore u2 (bZ w2 (.cells #[.int .i64 k1, .int .i64 f1, .int .i64 t1, .int .u64 n1, .string s1, .int .i64 x1, .int .i64 y1] NodeT)))
  have h3 := heap_alloc_new w2 (.cells #[.int .i64 k1, .int .i64 f1, .int .i64 t1, .int .u64 n1, .string s1, .int .i64 x1, .int .i64 y1] NodeT)
  have HB3 := Lib.hid b3
  have HH3 := Lib.hid h3
  have c5 := cellB (j := 5) h3 rfl
  clear u2 b3 h3 F1
  go_wp2_with fail
  generalize (w2.alloc (.cells #[.int .i64 k1, .int .i64 f1, .int .i64 t1, .int .u64 n1, .string s1, .int .i64 x1, .int .i64 y1] NodeT)) = w3 at *
  generalize w2.heap.size = nb at *
  refine (F2.out _ HB3.out).mono ?_
  rintro e w4 ⟨rfl, u4⟩
  have HB4 := Lib.hid (bmore HB3.out u4)
  have HH4 := Lib.hid (Hold.below u4 _ _ HH3.out)
  have d6 := cellB (j := 6) HH4.out rfl
  clear u4 F2 c5
  go_wp2_with fail
  refine (F3.out _ HB4.out).mono ?_
  rintro e w5 ⟨b5, rfl, u5⟩
  have b6 := bmore HB4.out (bmore u5 (bZ w5 (.cells #[.int .i64 k3, .int .i64 f3, .int .i64 t3, .int .u64 n3, .string s3, .int .i64 x3, .int .i64 y3] NodeT)))
  have h6 := heap_alloc_new w5 (.cells #[.int .i64 k3, .int .i64 f3, .int .i64 t3, .int .u64 n3, .string s3, .int .i64 x3, .int .i64 y3] NodeT)
  have HB6 := Lib.hid b6
  have g0 := cellB (j := 0) h6 rfl
  have g4 := cellB (j := 4) h6 rfl
  clear u5 b6 h6 F3 d6
  by_cases hd : ds = dealS
  case neg =>
    have hdb : (ds.toList == [100, 101, 97, 108]) = false := lit_no hd (litL _)
    go_wp2_with fail
    go_returns
    exact ⟨by rw [HR.out, if_neg (fun h => hd h.1)]; rfl, HB6.out⟩
  have hdb : (ds.toList == [100, 101, 97, 108]) = true := lit_yes hd (litL _)
  have HD := Lib.hid hd
  clear hd
  by_cases h2 : k2 = 2
  case neg =>
    have h2b : (k2 == 2) = false := by simpa using h2
    go_wp2_with fail
    go_returns
    exact ⟨by rw [HR.out, if_neg (fun h => h2 h.2.1)]; rfl, HB6.out⟩
  have h2b : (k2 == 2) = true := by simpa using h2
  by_cases h3 : k3 = 3
  case neg =>
    have h3b : (k3 != 3) = true := by simpa using h3
    go_wp2_with fail
    go_returns
    exact ⟨by rw [HR.out, if_neg (fun h => h3 h.2.2)]; rfl, HB6.out⟩
  have h3b : (k3 != 3) = false := by simpa using h3
  have H3 := Lib.hid h3
  clear h3
  go_wp2_with fail
  go_quiet (fail)
  go_wp2_with fail
  go_returns
  exact ⟨by rw [HR.out, if_pos ⟨HD.out, h2, H3.out⟩]; rfl, bmore HB6.out (bdn _ _)⟩
end
end Go.Proofs.YtjmcaceegfdkkaaGreatDoor
