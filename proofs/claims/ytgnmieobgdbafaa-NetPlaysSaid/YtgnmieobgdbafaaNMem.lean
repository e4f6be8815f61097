/-
  The net in memory; its small functions.
-/
import Derived.Test.YtgnmieobgdbafaaNBas
namespace Go.Proofs.Ytgnmieobgdbafaa
open Go.RowKit
set_option linter.unusedVariables false
/-- A net: how many numbers were given, what flies, what was heard; of each link whether it is cut, how many were sent, came. -/
structure Nt where
  ids : Nat
  fl : List Pk
  hd : List Pk
  cut : Nat → Bool
  st : Nat → Int
  cm : Nat → Int
def lk (i j : Nat) : Nat := i * 3 + j
def upd {α : Type} (f : Nat → α) (k : Nat) (v : α) : Nat → α := fun j => if j = k then v else f j
theorem upd_self {α : Type} (f : Nat → α) (k : Nat) (v : α) : upd f k v k = v := by simp [upd]
theorem upd_ne {α : Type} (f : Nat → α) {k j : Nat} (v : α) (h : j ≠ k) : upd f k v j = f j := by simp [upd, h]
def nodeB (n : Int) : Bool := decide (0 ≤ n) && decide (n < 3)
def areB (a b : Int) : Bool := (nodeB a && nodeB b) && decide (a ≠ b)
def newNt : Nt := ⟨0, [], [], fun _ => false, fun _ => 0, fun _ => 0⟩
def getP (l : List Pk) (i : Int) : Option Pk := if 0 ≤ i then l[i.toNat]? else none
def outP (l : List Pk) (i : Nat) : List Pk := l.take i ++ l.drop (i + 1)
def inP (l : List Pk) (i : Nat) (p : Pk) : List Pk := l.take i ++ p :: l.drop i
def sendP (x : Nt) (f t : Int) (b : ByteArray) : Nt × Nat × Int :=
  if areB f t = false then (x, 0, 150)
  else if 4096 < b.size then (x, 0, 1)
  else if 1024 ≤ x.fl.length ∨ 65536 ≤ x.hd.length then (x, 0, 6)
  else ({ x with ids := x.ids + 1, fl := x.fl ++ [⟨x.ids + 1, f.toNat, t.toNat, b, 0⟩], hd := x.hd ++ [⟨x.ids + 1, f.toNat, t.toNat, b, 0⟩], st := upd x.st (lk f.toNat t.toNat) (x.st (lk f.toNat t.toNat) + 1) }, x.ids + 1, 0)
def stopP (x : Nt) (p : Pk) : Int := if 0 < p.hl then 152 else if x.cut (lk p.fr p.tt) then 151 else 0
def delP (x : Nt) (i : Int) : Nt × Pk × Int := match getP x.fl i with
  | none => (x, zeroP, 7)
  | some p => if stopP x p ≠ 0 then (x, zeroP, stopP x p) else ({ x with fl := outP x.fl i.toNat, cm := upd x.cm (lk p.fr p.tt) (x.cm (lk p.fr p.tt) + 1) }, p, 0)
def dropP (x : Nt) (i : Int) : Nt × Int := match getP x.fl i with
  | none => (x, 7)
  | some p => ({ x with fl := outP x.fl i.toNat }, 0)
def dblP (x : Nt) (i : Int) : Nt × Nat × Int := match getP x.fl i with
  | none => (x, 0, 7)
  | some p => if 1024 ≤ x.fl.length then (x, 0, 6) else ({ x with ids := x.ids + 1, fl := x.fl ++ [{ p with id := x.ids + 1, hl := 0 }] }, x.ids + 1, 0)
def movP (x : Nt) (i t : Int) : Nt × Int := match getP x.fl i, getP x.fl t with
  | some p, some _ => ({ x with fl := inP (outP x.fl i.toNat) t.toNat p }, 0)
  | _, _ => (x, 7)
def holdP (x : Nt) (i t : Int) : Nt × Int := match getP x.fl i with
  | none => (x, 7)
  | some p => if t < 0 ∨ 1000 < t then (x, 2) else ({ x with fl := x.fl.set i.toNat { p with hl := t } }, 0)
def tick1 (p : Pk) : Pk := { p with hl := if 0 < p.hl then p.hl - 1 else 0 }
def tickP (x : Nt) : Nt := { x with fl := x.fl.map tick1 }
def cutP (x : Nt) (a b : Int) (c : Bool) : Nt × Int := if areB a b = false then (x, 150) else ({ x with cut := upd (upd x.cut (lk a.toNat b.toNat) c) (lk b.toNat a.toNat) c }, 0)
/-- The places, rising, from k on, of those that may come. -/
def readyP (x : Nt) : List Pk → Nat → List Int
  | [], _ => []
  | p :: l, k => if stopP x p = 0 then (k : Int) :: readyP x l (k + 1) else readyP x l (k + 1)
def sentP (x : Nt) (a b : Int) : Int := if areB a b then x.st (lk a.toNat b.toNat) else 0
def cameP (x : Nt) (a b : Int) : Int := if areB a b then x.cm (lk a.toNat b.toNat) else 0
/-- A net's block. -/
def CellsN (cur : Array Value) (F H : Value) (x : Nt) : Prop := cur.size = 30 ∧ cur[0]? = some (.int .i64 (x.ids : Int)) ∧ cur[1]? = some F ∧ cur[2]? = some H ∧
    ∀ k, k < 9 → cur[3 + k * 3]? = some (.bool (x.cut k)) ∧ cur[3 + k * 3 + 1]? = some (.int .i64 (x.st k)) ∧ cur[3 + k * 3 + 2]? = some (.int .i64 (x.cm k))
theorem CellsN.lists {cur : Array Value} {F H : Value} {x : Nt} (h : CellsN cur F H x) (fl hd : List Pk) : CellsN cur F H { x with fl := fl, hd := hd } := h
theorem CellsN.set0 {cur : Array Value} {F H : Value} {x : Nt} (h : CellsN cur F H x) (n : Nat) : CellsN (cur.setIfInBounds 0 (.int .i64 (n : Int))) F H { x with ids := n } := by
  obtain ⟨h1, h2, h3, h4, h5⟩ := h
  refine ⟨by simp [h1], by rw [Array.getElem?_setIfInBounds_self_of_lt (by omega)], by rw [Array.getElem?_setIfInBounds_ne (by omega)]; exact h3, by rw [Array.getElem?_setIfInBounds_ne (by omega)]; exact h4, fun k hk => ?_⟩
  obtain ⟨q0, q1, q2⟩ := h5 k hk
  refine ⟨?_, ?_, ?_⟩ <;> (rw [Array.getElem?_setIfInBounds_ne (by omega)]; assumption)
theorem CellsN.set1 {cur : Array Value} {F H : Value} {x : Nt} (h : CellsN cur F H x) (F' : Value) : CellsN (cur.setIfInBounds 1 F') F' H x := by
  obtain ⟨h1, h2, h3, h4, h5⟩ := h
  refine ⟨by simp [h1], by rw [Array.getElem?_setIfInBounds_ne (by omega)]; exact h2, by rw [Array.getElem?_setIfInBounds_self_of_lt (by omega)], by rw [Array.getElem?_setIfInBounds_ne (by omega)]; exact h4, fun k hk => ?_⟩
  obtain ⟨q0, q1, q2⟩ := h5 k hk
  refine ⟨?_, ?_, ?_⟩ <;> (rw [Array.getElem?_setIfInBounds_ne (by omega)]; assumption)
theorem CellsN.set2 {cur : Array Value} {F H : Value} {x : Nt} (h : CellsN cur F H x) (H' : Value) : CellsN (cur.setIfInBounds 2 H') F H' x := by
  obtain ⟨h1, h2, h3, h4, h5⟩ := h
  refine ⟨by simp [h1], by rw [Array.getElem?_setIfInBounds_ne (by omega)]; exact h2, by rw [Array.getElem?_setIfInBounds_ne (by omega)]; exact h3, by rw [Array.getElem?_setIfInBounds_self_of_lt (by omega)], fun k hk => ?_⟩
  obtain ⟨q0, q1, q2⟩ := h5 k hk
  refine ⟨?_, ?_, ?_⟩ <;> (rw [Array.getElem?_setIfInBounds_ne (by omega)]; assumption)
theorem CellsN.setC {cur : Array Value} {F H : Value} {x : Nt} (h : CellsN cur F H x) {j : Nat} (hj : j < 9) (c : Bool) : CellsN (cur.setIfInBounds (3 + j * 3) (.bool c)) F H { x with cut := upd x.cut j c } := by
  obtain ⟨h1, h2, h3, h4, h5⟩ := h
  refine ⟨by simp [h1], by rw [Array.getElem?_setIfInBounds_ne (by omega)]; exact h2, by rw [Array.getElem?_setIfInBounds_ne (by omega)]; exact h3, by rw [Array.getElem?_setIfInBounds_ne (by omega)]; exact h4, fun k hk => ?_⟩
  obtain ⟨q0, q1, q2⟩ := h5 k hk
  refine ⟨?_, ?_, ?_⟩
  · by_cases e : k = j
    · subst e; rw [Array.getElem?_setIfInBounds_self_of_lt (by omega)]; simp [upd]
    · rw [Array.getElem?_setIfInBounds_ne (by omega)]; simpa [upd, e] using q0
  · rw [Array.getElem?_setIfInBounds_ne (by omega)]; exact q1
  · rw [Array.getElem?_setIfInBounds_ne (by omega)]; exact q2
theorem CellsN.setS {cur : Array Value} {F H : Value} {x : Nt} (h : CellsN cur F H x) {j : Nat} (hj : j < 9) (c : Int) : CellsN (cur.setIfInBounds (3 + j * 3 + 1) (.int .i64 c)) F H { x with st := upd x.st j c } := by
  obtain ⟨h1, h2, h3, h4, h5⟩ := h
  refine ⟨by simp [h1], by rw [Array.getElem?_setIfInBounds_ne (by omega)]; exact h2, by rw [Array.getElem?_setIfInBounds_ne (by omega)]; exact h3, by rw [Array.getElem?_setIfInBounds_ne (by omega)]; exact h4, fun k hk => ?_⟩
  obtain ⟨q0, q1, q2⟩ := h5 k hk
  refine ⟨?_, ?_, ?_⟩
  · rw [Array.getElem?_setIfInBounds_ne (by omega)]; exact q0
  · by_cases e : k = j
    · subst e; rw [Array.getElem?_setIfInBounds_self_of_lt (by omega)]; simp [upd]
    · rw [Array.getElem?_setIfInBounds_ne (by omega)]; simpa [upd, e] using q1
  · rw [Array.getElem?_setIfInBounds_ne (by omega)]; exact q2
theorem CellsN.setM {cur : Array Value} {F H : Value} {x : Nt} (h : CellsN cur F H x) {j : Nat} (hj : j < 9) (c : Int) : CellsN (cur.setIfInBounds (3 + j * 3 + 2) (.int .i64 c)) F H { x with cm := upd x.cm j c } := by
  obtain ⟨h1, h2, h3, h4, h5⟩ := h
  refine ⟨by simp [h1], by rw [Array.getElem?_setIfInBounds_ne (by omega)]; exact h2, by rw [Array.getElem?_setIfInBounds_ne (by omega)]; exact h3, by rw [Array.getElem?_setIfInBounds_ne (by omega)]; exact h4, fun k hk => ?_⟩
  obtain ⟨q0, q1, q2⟩ := h5 k hk
  refine ⟨?_, ?_, ?_⟩
  · rw [Array.getElem?_setIfInBounds_ne (by omega)]; exact q0
  · rw [Array.getElem?_setIfInBounds_ne (by omega)]; exact q1
  · by_cases e : k = j
    · subst e; rw [Array.getElem?_setIfInBounds_self_of_lt (by omega)]; simp [upd]
    · rw [Array.getElem?_setIfInBounds_ne (by omega)]; simpa [upd, e] using q2
/-- At a stands the program's net x: what flies at F, what was heard at H, from B on. -/
structure IsN (w : World) (B a : Nat) (F H : Value) (x : Nt) : Prop where
  lay : ∃ cur, w.heap[a]? = some (Obj.cells cur NetT) ∧ CellsN cur F H x
  rowF : w.ownsRow B PkT 5 F x.fl.length (pks x.fl)
  rowH : w.ownsRow B PkT 5 H x.hd.length (pks x.hd)
  ne : ∀ k, F.ownBlock = some k → H.ownBlock ≠ some k
  from_ : B ≤ a
theorem IsN.lt {w : World} {B a : Nat} {F H : Value} {x : Nt} (h : IsN w B a F H x) : a < w.heap.size := by
  obtain ⟨cur, h1, _⟩ := h.lay
  exact (Array.getElem?_eq_some_iff.1 h1).1
/-- The blocks that are the net's own. -/
abbrev OwnN (a : Nat) (F H : Value) : Nat → Prop := fun k => k = a ∨ F.ownBlock = some k ∨ H.ownBlock = some k
theorem IsN.keep {w w' : World} {B a : Nat} {F H : Value} {x : Nt} (h : IsN w B a F H x) {S : Nat → Prop} (ht : Touch S w w') (h1 : ∀ k, OwnN a F H k → ¬ S k) : IsN w' B a F H x := by
  have hlt := h.lt
  obtain ⟨cur, h2, h3⟩ := h.lay
  exact ⟨⟨cur, (ht.block a hlt (h1 a (.inl rfl))).trans h2, h3⟩, own_keep h.rowF ht (fun k hk => h1 k (.inr (.inl hk))), own_keep h.rowH ht (fun k hk => h1 k (.inr (.inr hk))), h.ne, h.from_⟩
theorem IsN.below {w w' : World} {B a : Nat} {F H : Value} {x : Nt} (h : IsN w B a F H x) (hb : Below w.heap.size w w') : IsN w' B a F H x := h.keep (S := fun _ => False) (touch_of_below hb _) (fun _ _ h => h)
theorem IsN.own_lt {w : World} {B a : Nat} {F H : Value} {x : Nt} (h : IsN w B a F H x) {k : Nat} (hk : OwnN a F H k) : B ≤ k ∧ k < w.heap.size := by
  rcases hk with rfl | hk | hk
  · exact ⟨h.from_, h.lt⟩
  · exact own_from h.rowF hk
  · exact own_from h.rowH hk
theorem IsN.c0 {w : World} {B a : Nat} {F H : Value} {x : Nt} (h : IsN w B a F H x) : w.cell? ⟨a, 0, none⟩ = some (.int .i64 (x.ids : Int)) ∧ w.cell? ⟨a, 1, none⟩ = some F ∧ w.cell? ⟨a, 2, none⟩ = some H := by
  obtain ⟨cur, h1, h2, h3, h4, h5, h6⟩ := h.lay
  exact ⟨cellB h1 h3, cellB h1 h4, cellB h1 h5⟩
theorem IsN.frz {w : World} {B a : Nat} {F H : Value} {x : Nt} (h : IsN w B a F H x) (o : Nat) : w.frozen? ⟨a, o, none⟩ = false := by
  obtain ⟨cur, h1, h2⟩ := h.lay
  simp [World.frozen?, h1]
theorem IsN.link {w : World} {B a : Nat} {F H : Value} {x : Nt} (h : IsN w B a F H x) {k : Nat} (hk : k < 9) : w.cell? ⟨a, 3 + k * 3, none⟩ = some (.bool (x.cut k)) ∧ w.cell? ⟨a, 3 + k * 3 + 1, none⟩ = some (.int .i64 (x.st k)) ∧ w.cell? ⟨a, 3 + k * 3 + 2, none⟩ = some (.int .i64 (x.cm k)) := by
  obtain ⟨cur, h1, h2, h3, h4, h5, h6⟩ := h.lay
  obtain ⟨q0, q1, q2⟩ := h6 k hk
  exact ⟨cellB h1 q0, cellB h1 q1, cellB h1 q2⟩
/-- A net's block is none of its rows' blocks. -/
theorem IsN.ne_row {w : World} {B a : Nat} {F H : Value} {x : Nt} (h : IsN w B a F H x) : F.ownBlock ≠ some a ∧ H.ownBlock ≠ some a := by
  obtain ⟨cur, h1, h2⟩ := h.lay
  constructor
  · intro e
    obtain ⟨_, cs, hcs⟩ := own_type h.rowF e
    rw [h1] at hcs
    have := (Obj.cells.inj (Option.some.inj hcs)).2.1
    revert this; decide
  · intro e
    obtain ⟨_, cs, hcs⟩ := own_type h.rowH e
    rw [h1] at hcs
    have := (Obj.cells.inj (Option.some.inj hcs)).2.1
    revert this; decide
/-- A store into the net's block. -/
theorem IsN.set {w : World} {B a : Nat} {F H : Value} {x y : Nt} (h : IsN w B a F H x) (o : Nat) (v : Value) (h1 : y.fl = x.fl) (h2 : y.hd = x.hd) (hc : ∀ cur, CellsN cur F H x → CellsN (cur.setIfInBounds o v) F H y) : IsN (w.setCell ⟨a, o, none⟩ v) B a F H y := by
  have ht := touch_set w a o v (fun k => k = a) rfl
  have hn := h.ne_row
  obtain ⟨cur, hb, hcur⟩ := h.lay
  refine ⟨⟨_, setCellB hb, hc cur hcur⟩, ?_, ?_, h.ne, h.from_⟩
  · rw [h1]; exact own_keep h.rowF ht (fun k hk e => hn.1 (e ▸ hk))
  · rw [h2]; exact own_keep h.rowH ht (fun k hk e => hn.2 (e ▸ hk))
/-- The row of what flies was made anew, or grew. -/
theorem IsN.newF {w w' : World} {B a : Nat} {F H v : Value} {x : Nt} {L : List Pk} (h : IsN w B a F H x) (ht : Touch (fun k => F.ownBlock = some k) w w') (ho : w'.ownsRow B PkT 5 v L.length (pks L)) (hv : ∀ k, v.ownBlock = some k → F.ownBlock = some k ∨ w.heap.size ≤ k) : IsN (w'.setCell ⟨a, 1, none⟩ v) B a v H { x with fl := L } := by
  have hn := h.ne_row
  have hlt := h.lt
  obtain ⟨cur, hb, hcur⟩ := h.lay
  have hb' := (ht.block a hlt (fun e => hn.1 e)).trans hb
  have ts := touch_set w' a 1 v (fun k => k = a) rfl
  refine ⟨⟨_, setCellB hb', (hcur.set1 v).lists _ _⟩, ?_, ?_, ?_, h.from_⟩
  · exact own_keep ho ts (fun k hk e => by subst e; rcases hv _ hk with e | e; exact hn.1 e; omega)
  · exact own_keep (own_keep h.rowH ht (fun k hk e => h.ne k e hk)) ts (fun k hk e => hn.2 (e ▸ hk))
  · intro k hk hk2
    rcases hv k hk with e | e
    · exact h.ne k e hk2
    · have := (own_from h.rowH hk2).2; omega
theorem IsN.newH {w w' : World} {B a : Nat} {F H v : Value} {x : Nt} {L : List Pk} (h : IsN w B a F H x) (ht : Touch (fun k => H.ownBlock = some k) w w') (ho : w'.ownsRow B PkT 5 v L.length (pks L)) (hv : ∀ k, v.ownBlock = some k → H.ownBlock = some k ∨ w.heap.size ≤ k) : IsN (w'.setCell ⟨a, 2, none⟩ v) B a F v { x with hd := L } := by
  have hn := h.ne_row
  have hlt := h.lt
  obtain ⟨cur, hb, hcur⟩ := h.lay
  have hb' := (ht.block a hlt (fun e => hn.2 e)).trans hb
  have ts := touch_set w' a 2 v (fun k => k = a) rfl
  refine ⟨⟨_, setCellB hb', (hcur.set2 v).lists _ _⟩, ?_, ?_, ?_, h.from_⟩
  · exact own_keep (own_keep h.rowF ht (fun k hk e => h.ne k hk e)) ts (fun k hk e => hn.1 (e ▸ hk))
  · exact own_keep ho ts (fun k hk e => by subst e; rcases hv _ hk with e | e; exact hn.2 e; omega)
  · intro k hk hk2
    rcases hv k hk2 with e | e
    · exact h.ne k hk e
    · have := (own_from h.rowF hk).2; omega
/-- The row of what flies was written in its place. -/
theorem IsN.wroteF {w w' : World} {B a g n cap : Nat} {H : Value} {x : Nt} {L : List Pk} (h : IsN w B a (.slice (some ⟨g, 0, none⟩) n cap) H x) (ht : Touch (fun k => k = g) w w') (hl : LaidP w' g cap L) (hn : L.length = n) : IsN w' B a (.slice (some ⟨g, 0, none⟩) n cap) H { x with fl := L } := by
  have hne := h.ne_row
  have hlt := h.lt
  obtain ⟨_, hB, hm, _⟩ := laid_of_own (by have := h.rowF; have e := this.2; exact this)
  obtain ⟨cur, hb, hcur⟩ := h.lay
  refine ⟨⟨_, (ht.block a hlt (fun e => hne.1 (by rw [e]; rfl))).trans hb, hcur.lists _ _⟩, ?_, ?_, h.ne, h.from_⟩
  · subst hn; exact own_of_laid hl hB hm
  · exact own_keep h.rowH ht (fun k hk e => h.ne g rfl (by rw [← e]; exact hk))
/-- What a call leaves of a net. -/
def WentN (B a : Nat) (F H : Value) (x' : Nt) (w w' : World) : Prop := ∃ F' H', IsN w' B a F' H' x' ∧ Touch (OwnN a F H) w w' ∧ ∀ k, OwnN a F' H' k → OwnN a F H k ∨ w.heap.size ≤ k
theorem WentN.trans {B a : Nat} {F H : Value} {x y : Nt} {w w1 w2 : World} (h : WentN B a F H x w w1) (k : ∀ F' H', IsN w1 B a F' H' x → WentN B a F' H' y w1 w2) : WentN B a F H y w w2 := by
  obtain ⟨F1, H1, i1, t1, o1⟩ := h
  obtain ⟨F2, H2, i2, t2, o2⟩ := k F1 H1 i1
  refine ⟨F2, H2, i2, t1.step t2 o1, fun j hj => ?_⟩
  rcases o2 j hj with h | h
  · exact o1 j h
  · exact .inr (Nat.le_trans t1.size h)
theorem WentN.same {B a : Nat} {F H : Value} {x : Nt} {w w' : World} (h : IsN w B a F H x) (hb : Below w.heap.size w w') : WentN B a F H x w w' := ⟨F, H, h.below hb, touch_of_below hb _, fun k hk => .inl hk⟩
theorem WentN.below {B a : Nat} {F H : Value} {x y : Nt} {w w' : World} (h : WentN B a F H y w w') (h0 : IsN w B a F H x) (hB : B ≤ w.heap.size) : Below B w w' := by
  obtain ⟨F1, H1, i1, t1, o1⟩ := h
  exact t1.below hB fun k hk => (h0.own_lt hk).1
set_option maxRecDepth 20000 in
theorem isNode_any (w : World) (n : Int) : Calls Try.prog 54 #[.int .i64 n] w fun e w' => e = .returned (.bool (nodeB n)) ∧ w = w' := by
  unfold nodeB
  by_cases h : 0 ≤ n <;> by_cases h3 : n < 3
  all_goals
    have h1 : decide (0 ≤ n) = decide (0 ≤ n) := rfl
    go_enter Try.func54, Try.ntmps54
    go_wp2_with fail
    go_returns
    simp [h, h3]
theorem areB_nodes {a b : Int} (h : areB a b = true) : 0 ≤ a ∧ a < 3 ∧ 0 ≤ b ∧ b < 3 ∧ a ≠ b := by
  unfold areB nodeB at h
  simp only [Bool.and_eq_true, decide_eq_true_eq] at h
  exact ⟨h.1.1.1, h.1.1.2, h.1.2.1, h.1.2.2, h.2⟩
set_option maxRecDepth 20000 in
theorem areNodes_any (w : World) (a b : Int) : Calls Try.prog 41 #[.int .i64 a, .int .i64 b] w fun e w' => e = .returned (.bool (areB a b)) ∧ w = w' := by
  have hA := isNode_any w a
  have hB := isNode_any w b
  have HE := Lib.hid (show areB a b = ((nodeB a && nodeB b) && decide (a ≠ b)) from rfl)
  generalize areB a b = r at *
  generalize nodeB a = na at *
  generalize nodeB b = nb at *
  cases na
  · go_enter Try.func41, Try.ntmps41
    go_wp2_with fail
    refine hA.mono ?_
    rintro e w1 ⟨rfl, rfl⟩
    go_wp2_with fail
    go_returns
    have := HE.out; simp_all
  · cases nb
    · go_enter Try.func41, Try.ntmps41
      go_wp2_with fail
      refine hA.mono ?_
      rintro e w1 ⟨rfl, rfl⟩
      go_wp2_with fail
      refine hB.mono ?_
      rintro e w1 ⟨rfl, rfl⟩
      go_wp2_with fail
      go_returns
      have := HE.out; simp_all
    · by_cases hab : a = b
      · subst hab
        go_enter Try.func41, Try.ntmps41
        go_wp2_with fail
        refine hA.mono ?_
        rintro e w1 ⟨rfl, rfl⟩
        go_wp2_with fail
        refine hB.mono ?_
        rintro e w1 ⟨rfl, rfl⟩
        go_wp2_with fail
        go_returns
        have := HE.out; simp_all
      · go_enter Try.func41, Try.ntmps41
        go_wp2_with fail
        refine hA.mono ?_
        rintro e w1 ⟨rfl, rfl⟩
        go_wp2_with fail
        refine hB.mono ?_
        rintro e w1 ⟨rfl, rfl⟩
        go_wp2_with fail
        go_returns
        have := HE.out; simp_all
theorem slice_of {w : World} {B : Nat} {e : TypeId} {size n : Nat} {v : Value} {xs : List Value} (h : w.ownsRow B e size v n xs) : ∃ a c, v = .slice a n c := (row_of_own h).shape
theorem getP_none {l : List Pk} {i : Int} : getP l i = none ↔ i < 0 ∨ (l.length : Int) ≤ i := by
  unfold getP
  split
  · rw [List.getElem?_eq_none_iff]; omega
  · simp; omega
theorem getP_some {l : List Pk} {i : Int} {p : Pk} (h : getP l i = some p) : ∃ k : Nat, i = (k : Int) ∧ l[k]? = some p ∧ k < l.length ∧ i.toNat = k := by
  unfold getP at h
  split at h
  · exact ⟨i.toNat, by omega, h, (List.getElem?_eq_some_iff.1 h).1, rfl⟩
  · cases h
set_option maxRecDepth 20000 in
/-- Is there such a place? -/
theorem has_any {w : World} {B a : Nat} {F H : Value} {x : Nt} (h : IsN w B a F H x) (i : Int) : Calls Try.prog 44 #[.pointer (some ⟨a, 0, none⟩), .int .i64 i] w fun e w' => e = .returned (.bool (getP x.fl i).isSome) ∧ w = w' := by
  have c1 := h.c0.2.1
  obtain ⟨fa, fc, hF⟩ := slice_of h.rowF
  subst hF
  have HE := Lib.hid (@getP_none x.fl i)
  clear h
  generalize getP x.fl i = r at *
  by_cases h0 : 0 ≤ i <;> by_cases h1 : i < (x.fl.length : Int)
  all_goals
    go_enter Try.func44, Try.ntmps44
    go_wp2_with fail
    go_returns
    have := HE.out
    cases r <;> simp_all
    try omega
set_option maxRecDepth 20000 in
theorem has_nil (w : World) (i : Int) : Calls Try.prog 44 #[.pointer none, .int .i64 i] w fun e w' => e = .returned (.bool false) ∧ w = w' := by
  go_enter Try.func44, Try.ntmps44
  go_wp2_with fail
  go_returns
  exact ⟨rfl, rfl⟩
set_option maxRecDepth 20000 in
theorem full_any {w : World} {B a : Nat} {F H : Value} {x : Nt} (h : IsN w B a F H x) : Calls Try.prog 42 #[.pointer (some ⟨a, 0, none⟩)] w fun e w' => e = .returned (.bool (decide (1024 ≤ x.fl.length))) ∧ w = w' := by
  have c1 := h.c0.2.1
  obtain ⟨fa, fc, hF⟩ := slice_of h.rowF
  subst hF
  clear h
  go_enter Try.func42, Try.ntmps42
  go_wp2_with fail
  go_returns
  rw [← show decide ((1024 : Int) ≤ (x.fl.length : Int)) = decide (1024 ≤ x.fl.length) from decide_eq_decide.2 (by omega)]
  exact ⟨rfl, rfl⟩
set_option maxRecDepth 20000 in
/-- Why a packet can't be delivered now. -/
theorem stops_any {w : World} {B a : Nat} {F H : Value} {x : Nt} (h : IsN w B a F H x) (p : Pk) (hf : p.fr < 3) (ht : p.tt < 3) : Calls Try.prog 45 #[.pointer (some ⟨a, 0, none⟩), p.val] w fun e w' => e = .returned (.int .i64 (stopP x p)) ∧ Below w.heap.size w w' := by
  have hk : lk p.fr p.tt < 9 := by unfold lk; omega
  obtain ⟨l0, _, _⟩ := h.link hk
  unfold lk at l0 hk
  have HE := Lib.hid (show stopP x p = if 0 < p.hl then 152 else if x.cut (p.fr * 3 + p.tt) then 151 else 0 from rfl)
  generalize stopP x p = r at *
  generalize x.cut (p.fr * 3 + p.tt) = c at *
  clear h
  by_cases h0 : 0 < p.hl
  · go_enter Try.func45, Try.ntmps45
    go_wp2_with fail
    go_returns
    have := HE.out
    rw [if_pos h0] at this
    subst this
    exact ⟨rfl, (Below.refl _ _).alloc (Nat.le_refl _) _⟩
  · have b0 : Below w.heap.size w (w.alloc (.cells #[.int .i64 p.id, .int .i64 (p.fr : Int), .int .i64 (p.tt : Int), .string p.bd, .int .i64 p.hl] PkT)) := (Below.refl _ _).alloc (Nat.le_refl _) _
    have l1 := bcellAt b0 l0
    rw [show 3 + (p.fr * 3 + p.tt) * 3 = 3 + p.fr * 9 + p.tt * 3 by omega] at l1
    have f0 : (0 : Int) ≤ (p.fr : Int) := by omega
    have f1 : (p.fr : Int) < 3 := by omega
    have f2 : (0 : Int) ≤ (p.tt : Int) := by omega
    have f3 : (p.tt : Int) < 3 := by omega
    have a1 : Try.prog.arrayLen 63 = 3 := by kernel_rfl
    have a2 : Try.prog.arrayLen 62 = 3 := by kernel_rfl
    go_enter Try.func45, Try.ntmps45
    go_wp2_with fail
    go_region
    cases c
    · go_wp2_with fail
      go_returns
      have := HE.out
      rw [if_neg (by omega), if_neg (by simp)] at this
      subst this
      exact ⟨rfl, ((Below.refl _ _).alloc (Nat.le_refl _) _).drew⟩
    · go_wp2_with fail
      go_returns
      have := HE.out
      rw [if_neg (by omega), if_pos trivial] at this
      subst this
      exact ⟨rfl, ((Below.refl _ _).alloc (Nat.le_refl _) _).drew⟩
end Go.Proofs.Ytgnmieobgdbafaa
