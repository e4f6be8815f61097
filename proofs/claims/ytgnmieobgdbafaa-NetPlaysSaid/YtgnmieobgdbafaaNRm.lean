/-
  The document's net in memory. (Written by gen_nrm.py out of XNMem.)
-/
import Derived.Test.YtgnmieobgdbafaaNLst
namespace Go.Proofs.Ytgnmieobgdbafaa
open Go.RowKit
set_option linter.unusedVariables false
/-- The document's net's block. -/
def CellsM (cur : Array Value) (F H : Value) (x : Nt) : Prop := cur.size = 30 ∧ cur[2]? = some (.int .i64 (x.ids : Int)) ∧ cur[0]? = some F ∧ cur[1]? = some H ∧
    ∀ k, k < 9 → cur[3 + k]? = some (.bool (x.cut k)) ∧ cur[12 + k]? = some (.int .i64 (x.st k)) ∧ cur[21 + k]? = some (.int .i64 (x.cm k))
theorem CellsM.lists {cur : Array Value} {F H : Value} {x : Nt} (h : CellsM cur F H x) (fl hd : List Pk) : CellsM cur F H { x with fl := fl, hd := hd } := h
theorem CellsM.set0 {cur : Array Value} {F H : Value} {x : Nt} (h : CellsM cur F H x) (n : Nat) : CellsM (cur.setIfInBounds 2 (.int .i64 (n : Int))) F H { x with ids := n } := by
  obtain ⟨h1, h2, h3, h4, h5⟩ := h
  refine ⟨by simp [h1], by rw [Array.getElem?_setIfInBounds_self_of_lt (by omega)], by rw [Array.getElem?_setIfInBounds_ne (by omega)]; exact h3, by rw [Array.getElem?_setIfInBounds_ne (by omega)]; exact h4, fun k hk => ?_⟩
  obtain ⟨q0, q1, q2⟩ := h5 k hk
  refine ⟨?_, ?_, ?_⟩ <;> (rw [Array.getElem?_setIfInBounds_ne (by omega)]; assumption)
theorem CellsM.set1 {cur : Array Value} {F H : Value} {x : Nt} (h : CellsM cur F H x) (F' : Value) : CellsM (cur.setIfInBounds 0 F') F' H x := by
  obtain ⟨h1, h2, h3, h4, h5⟩ := h
  refine ⟨by simp [h1], by rw [Array.getElem?_setIfInBounds_ne (by omega)]; exact h2, by rw [Array.getElem?_setIfInBounds_self_of_lt (by omega)], by rw [Array.getElem?_setIfInBounds_ne (by omega)]; exact h4, fun k hk => ?_⟩
  obtain ⟨q0, q1, q2⟩ := h5 k hk
  refine ⟨?_, ?_, ?_⟩ <;> (rw [Array.getElem?_setIfInBounds_ne (by omega)]; assumption)
theorem CellsM.set2 {cur : Array Value} {F H : Value} {x : Nt} (h : CellsM cur F H x) (H' : Value) : CellsM (cur.setIfInBounds 1 H') F H' x := by
  obtain ⟨h1, h2, h3, h4, h5⟩ := h
  refine ⟨by simp [h1], by rw [Array.getElem?_setIfInBounds_ne (by omega)]; exact h2, by rw [Array.getElem?_setIfInBounds_ne (by omega)]; exact h3, by rw [Array.getElem?_setIfInBounds_self_of_lt (by omega)], fun k hk => ?_⟩
  obtain ⟨q0, q1, q2⟩ := h5 k hk
  refine ⟨?_, ?_, ?_⟩ <;> (rw [Array.getElem?_setIfInBounds_ne (by omega)]; assumption)
theorem CellsM.setC {cur : Array Value} {F H : Value} {x : Nt} (h : CellsM cur F H x) {j : Nat} (hj : j < 9) (c : Bool) : CellsM (cur.setIfInBounds (3 + j) (.bool c)) F H { x with cut := upd x.cut j c } := by
  obtain ⟨h1, h2, h3, h4, h5⟩ := h
  refine ⟨by simp [h1], by rw [Array.getElem?_setIfInBounds_ne (by omega)]; exact h2, by rw [Array.getElem?_setIfInBounds_ne (by omega)]; exact h3, by rw [Array.getElem?_setIfInBounds_ne (by omega)]; exact h4, fun k hk => ?_⟩
  obtain ⟨q0, q1, q2⟩ := h5 k hk
  refine ⟨?_, ?_, ?_⟩
  · by_cases e : k = j
    · subst e; rw [Array.getElem?_setIfInBounds_self_of_lt (by omega)]; simp [upd]
    · rw [Array.getElem?_setIfInBounds_ne (by omega)]; simpa [upd, e] using q0
  · rw [Array.getElem?_setIfInBounds_ne (by omega)]; exact q1
  · rw [Array.getElem?_setIfInBounds_ne (by omega)]; exact q2
theorem CellsM.setS {cur : Array Value} {F H : Value} {x : Nt} (h : CellsM cur F H x) {j : Nat} (hj : j < 9) (c : Int) : CellsM (cur.setIfInBounds (12 + j) (.int .i64 c)) F H { x with st := upd x.st j c } := by
  obtain ⟨h1, h2, h3, h4, h5⟩ := h
  refine ⟨by simp [h1], by rw [Array.getElem?_setIfInBounds_ne (by omega)]; exact h2, by rw [Array.getElem?_setIfInBounds_ne (by omega)]; exact h3, by rw [Array.getElem?_setIfInBounds_ne (by omega)]; exact h4, fun k hk => ?_⟩
  obtain ⟨q0, q1, q2⟩ := h5 k hk
  refine ⟨?_, ?_, ?_⟩
  · rw [Array.getElem?_setIfInBounds_ne (by omega)]; exact q0
  · by_cases e : k = j
    · subst e; rw [Array.getElem?_setIfInBounds_self_of_lt (by omega)]; simp [upd]
    · rw [Array.getElem?_setIfInBounds_ne (by omega)]; simpa [upd, e] using q1
  · rw [Array.getElem?_setIfInBounds_ne (by omega)]; exact q2
theorem CellsM.setM {cur : Array Value} {F H : Value} {x : Nt} (h : CellsM cur F H x) {j : Nat} (hj : j < 9) (c : Int) : CellsM (cur.setIfInBounds (21 + j) (.int .i64 c)) F H { x with cm := upd x.cm j c } := by
  obtain ⟨h1, h2, h3, h4, h5⟩ := h
  refine ⟨by simp [h1], by rw [Array.getElem?_setIfInBounds_ne (by omega)]; exact h2, by rw [Array.getElem?_setIfInBounds_ne (by omega)]; exact h3, by rw [Array.getElem?_setIfInBounds_ne (by omega)]; exact h4, fun k hk => ?_⟩
  obtain ⟨q0, q1, q2⟩ := h5 k hk
  refine ⟨?_, ?_, ?_⟩
  · rw [Array.getElem?_setIfInBounds_ne (by omega)]; exact q0
  · rw [Array.getElem?_setIfInBounds_ne (by omega)]; exact q1
  · by_cases e : k = j
    · subst e; rw [Array.getElem?_setIfInBounds_self_of_lt (by omega)]; simp [upd]
    · rw [Array.getElem?_setIfInBounds_ne (by omega)]; simpa [upd, e] using q2
/-- At a stands the document's net x: what flies at F, what was heard at H, from B on. -/
structure IsM (w : World) (B a : Nat) (F H : Value) (x : Nt) : Prop where
  lay : ∃ cur, w.heap[a]? = some (Obj.cells cur RNT) ∧ CellsM cur F H x
  rowF : w.ownsRow B PkT 5 F x.fl.length (pks x.fl)
  rowH : w.ownsRow B PkT 5 H x.hd.length (pks x.hd)
  ne : ∀ k, F.ownBlock = some k → H.ownBlock ≠ some k
  from_ : B ≤ a
theorem IsM.lt {w : World} {B a : Nat} {F H : Value} {x : Nt} (h : IsM w B a F H x) : a < w.heap.size := by
  obtain ⟨cur, h1, _⟩ := h.lay
  exact (Array.getElem?_eq_some_iff.1 h1).1
theorem IsM.keep {w w' : World} {B a : Nat} {F H : Value} {x : Nt} (h : IsM w B a F H x) {S : Nat → Prop} (ht : Touch S w w') (h1 : ∀ k, OwnN a F H k → ¬ S k) : IsM w' B a F H x := by
  have hlt := h.lt
  obtain ⟨cur, h2, h3⟩ := h.lay
  exact ⟨⟨cur, (ht.block a hlt (h1 a (.inl rfl))).trans h2, h3⟩, own_keep h.rowF ht (fun k hk => h1 k (.inr (.inl hk))), own_keep h.rowH ht (fun k hk => h1 k (.inr (.inr hk))), h.ne, h.from_⟩
theorem IsM.below {w w' : World} {B a : Nat} {F H : Value} {x : Nt} (h : IsM w B a F H x) (hb : Below w.heap.size w w') : IsM w' B a F H x := h.keep (S := fun _ => False) (touch_of_below hb _) (fun _ _ h => h)
theorem IsM.own_lt {w : World} {B a : Nat} {F H : Value} {x : Nt} (h : IsM w B a F H x) {k : Nat} (hk : OwnN a F H k) : B ≤ k ∧ k < w.heap.size := by
  rcases hk with rfl | hk | hk
  · exact ⟨h.from_, h.lt⟩
  · exact own_from h.rowF hk
  · exact own_from h.rowH hk
theorem IsM.c0 {w : World} {B a : Nat} {F H : Value} {x : Nt} (h : IsM w B a F H x) : w.cell? ⟨a, 2, none⟩ = some (.int .i64 (x.ids : Int)) ∧ w.cell? ⟨a, 0, none⟩ = some F ∧ w.cell? ⟨a, 1, none⟩ = some H := by
  obtain ⟨cur, h1, h2, h3, h4, h5, h6⟩ := h.lay
  exact ⟨cellB h1 h3, cellB h1 h4, cellB h1 h5⟩
theorem IsM.frz {w : World} {B a : Nat} {F H : Value} {x : Nt} (h : IsM w B a F H x) (o : Nat) : w.frozen? ⟨a, o, none⟩ = false := by
  obtain ⟨cur, h1, h2⟩ := h.lay
  simp [World.frozen?, h1]
theorem IsM.link {w : World} {B a : Nat} {F H : Value} {x : Nt} (h : IsM w B a F H x) {k : Nat} (hk : k < 9) : w.cell? ⟨a, 3 + k, none⟩ = some (.bool (x.cut k)) ∧ w.cell? ⟨a, 12 + k, none⟩ = some (.int .i64 (x.st k)) ∧ w.cell? ⟨a, 21 + k, none⟩ = some (.int .i64 (x.cm k)) := by
  obtain ⟨cur, h1, h2, h3, h4, h5, h6⟩ := h.lay
  obtain ⟨q0, q1, q2⟩ := h6 k hk
  exact ⟨cellB h1 q0, cellB h1 q1, cellB h1 q2⟩
/-- A net's block is none of its rows' blocks. -/
theorem IsM.ne_row {w : World} {B a : Nat} {F H : Value} {x : Nt} (h : IsM w B a F H x) : F.ownBlock ≠ some a ∧ H.ownBlock ≠ some a := by
  obtain ⟨cur, h1, h2⟩ := h.lay
  constructor
  · intro e
    obtain ⟨_, cs, hcs⟩ := own_type h.rowF e
    rw [h1] at hcs
    have := (Obj.cells.inj (Option.some.inj hcs)).2.1
    revert this; decide
  · intro e
    obtain ⟨_, cs, hcs⟩ := own_type h.rowH e
    rw [h1] at hcs
    have := (Obj.cells.inj (Option.some.inj hcs)).2.1
    revert this; decide
/-- A store into the net's block. -/
theorem IsM.set {w : World} {B a : Nat} {F H : Value} {x y : Nt} (h : IsM w B a F H x) (o : Nat) (v : Value) (h1 : y.fl = x.fl) (h2 : y.hd = x.hd) (hc : ∀ cur, CellsM cur F H x → CellsM (cur.setIfInBounds o v) F H y) : IsM (w.setCell ⟨a, o, none⟩ v) B a F H y := by
  have ht := touch_set w a o v (fun k => k = a) rfl
  have hn := h.ne_row
  obtain ⟨cur, hb, hcur⟩ := h.lay
  refine ⟨⟨_, setCellB hb, hc cur hcur⟩, ?_, ?_, h.ne, h.from_⟩
  · rw [h1]; exact own_keep h.rowF ht (fun k hk e => hn.1 (e ▸ hk))
  · rw [h2]; exact own_keep h.rowH ht (fun k hk e => hn.2 (e ▸ hk))
/-- The row of what flies was made anew, or grew. -/
theorem IsM.newF {w w' : World} {B a : Nat} {F H v : Value} {x : Nt} {L : List Pk} (h : IsM w B a F H x) (ht : Touch (fun k => F.ownBlock = some k) w w') (ho : w'.ownsRow B PkT 5 v L.length (pks L)) (hv : ∀ k, v.ownBlock = some k → F.ownBlock = some k ∨ w.heap.size ≤ k) : IsM (w'.setCell ⟨a, 0, none⟩ v) B a v H { x with fl := L } := by
  have hn := h.ne_row
  have hlt := h.lt
  obtain ⟨cur, hb, hcur⟩ := h.lay
  have hb' := (ht.block a hlt (fun e => hn.1 e)).trans hb
  have ts := touch_set w' a 0 v (fun k => k = a) rfl
  refine ⟨⟨_, setCellB hb', (hcur.set1 v).lists _ _⟩, ?_, ?_, ?_, h.from_⟩
  · exact own_keep ho ts (fun k hk e => by subst e; rcases hv _ hk with e | e; exact hn.1 e; omega)
  · exact own_keep (own_keep h.rowH ht (fun k hk e => h.ne k e hk)) ts (fun k hk e => hn.2 (e ▸ hk))
  · intro k hk hk2
    rcases hv k hk with e | e
    · exact h.ne k e hk2
    · have := (own_from h.rowH hk2).2; omega
theorem IsM.newH {w w' : World} {B a : Nat} {F H v : Value} {x : Nt} {L : List Pk} (h : IsM w B a F H x) (ht : Touch (fun k => H.ownBlock = some k) w w') (ho : w'.ownsRow B PkT 5 v L.length (pks L)) (hv : ∀ k, v.ownBlock = some k → H.ownBlock = some k ∨ w.heap.size ≤ k) : IsM (w'.setCell ⟨a, 1, none⟩ v) B a F v { x with hd := L } := by
  have hn := h.ne_row
  have hlt := h.lt
  obtain ⟨cur, hb, hcur⟩ := h.lay
  have hb' := (ht.block a hlt (fun e => hn.2 e)).trans hb
  have ts := touch_set w' a 1 v (fun k => k = a) rfl
  refine ⟨⟨_, setCellB hb', (hcur.set2 v).lists _ _⟩, ?_, ?_, ?_, h.from_⟩
  · exact own_keep (own_keep h.rowF ht (fun k hk e => h.ne k hk e)) ts (fun k hk e => hn.1 (e ▸ hk))
  · exact own_keep ho ts (fun k hk e => by subst e; rcases hv _ hk with e | e; exact hn.2 e; omega)
  · intro k hk hk2
    rcases hv k hk2 with e | e
    · exact h.ne k hk e
    · have := (own_from h.rowF hk).2; omega
/-- The row of what flies was written in its place. -/
theorem IsM.wroteF {w w' : World} {B a g n cap : Nat} {H : Value} {x : Nt} {L : List Pk} (h : IsM w B a (.slice (some ⟨g, 0, none⟩) n cap) H x) (ht : Touch (fun k => k = g) w w') (hl : LaidP w' g cap L) (hn : L.length = n) : IsM w' B a (.slice (some ⟨g, 0, none⟩) n cap) H { x with fl := L } := by
  have hne := h.ne_row
  have hlt := h.lt
  obtain ⟨_, hB, hm, _⟩ := laid_of_own (by have := h.rowF; have e := this.2; exact this)
  obtain ⟨cur, hb, hcur⟩ := h.lay
  refine ⟨⟨_, (ht.block a hlt (fun e => hne.1 (by rw [e]; rfl))).trans hb, hcur.lists _ _⟩, ?_, ?_, h.ne, h.from_⟩
  · subst hn; exact own_of_laid hl hB hm
  · exact own_keep h.rowH ht (fun k hk e => h.ne g rfl (by rw [← e]; exact hk))
/-- What a call leaves of a net. -/
def WentM (B a : Nat) (F H : Value) (x' : Nt) (w w' : World) : Prop := ∃ F' H', IsM w' B a F' H' x' ∧ Touch (OwnN a F H) w w' ∧ ∀ k, OwnN a F' H' k → OwnN a F H k ∨ w.heap.size ≤ k
theorem WentM.trans {B a : Nat} {F H : Value} {x y : Nt} {w w1 w2 : World} (h : WentM B a F H x w w1) (k : ∀ F' H', IsM w1 B a F' H' x → WentM B a F' H' y w1 w2) : WentM B a F H y w w2 := by
  obtain ⟨F1, H1, i1, t1, o1⟩ := h
  obtain ⟨F2, H2, i2, t2, o2⟩ := k F1 H1 i1
  refine ⟨F2, H2, i2, t1.step t2 o1, fun j hj => ?_⟩
  rcases o2 j hj with h | h
  · exact o1 j h
  · exact .inr (Nat.le_trans t1.size h)
theorem WentM.same {B a : Nat} {F H : Value} {x : Nt} {w w' : World} (h : IsM w B a F H x) (hb : Below w.heap.size w w') : WentM B a F H x w w' := ⟨F, H, h.below hb, touch_of_below hb _, fun k hk => .inl hk⟩
theorem WentM.below {B a : Nat} {F H : Value} {x y : Nt} {w w' : World} (h : WentM B a F H y w w') (h0 : IsM w B a F H x) (hB : B ≤ w.heap.size) : Below B w w' := by
  obtain ⟨F1, H1, i1, t1, o1⟩ := h
  exact t1.below hB fun k hk => (h0.own_lt hk).1
theorem WentM.box {B a k : Nat} {F H : Value} {x y : Nt} {w w1 w' : World} (h0 : IsM w B a F H x) (h : WentM B a F H y w1 w') (hk : w.heap.size ≤ k) (hlt : k < w1.heap.size) : w'.heap[k]? = w1.heap[k]? := by
  obtain ⟨F', H', i1, t1, o1⟩ := h
  exact t1.block k hlt (fun e => by have := (h0.own_lt e).2; omega)
theorem WentM.boxed {B a k : Nat} {F H : Value} {x y : Nt} {w w1 w2 : World} (h0 : IsM w B a F H x) (h : WentM B a F H y w w1) (hk : w.heap.size ≤ k) (hf : ∀ F' H', IsM w1 B a F' H' y → ¬ OwnN a F' H' k) (ht : Touch (fun j => j = k) w1 w2) : WentM B a F H y w w2 := by
  obtain ⟨F', H', i1, t1, o1⟩ := h
  exact ⟨F', H', i1.keep ht (fun j hj e => hf F' H' i1 (e ▸ hj)), t1.step ht (fun j hj => .inr (by omega)), o1⟩
theorem WentM.from_ {B a : Nat} {F H : Value} {y : Nt} {w w1 w2 : World} (ht : Touch (OwnN a F H) w w1) (h : WentM B a F H y w1 w2) : WentM B a F H y w w2 := by
  obtain ⟨F', H', i1, t1, o1⟩ := h
  exact ⟨F', H', i1, ht.trans t1, fun k hk => (o1 k hk).imp id (fun h => Nat.le_trans ht.size h)⟩
theorem WentM.fresh {B a k : Nat} {F H : Value} {x y : Nt} {w w1 w2 : World} (h0 : IsM w B a F H x) (h : WentM B a F H y w1 w2) (hk : w.heap.size ≤ k) (hlt : k < w1.heap.size) : ∀ F' H', IsM w2 B a F' H' y → (∀ j, OwnN a F' H' j → OwnN a F H j ∨ w1.heap.size ≤ j) → ¬ OwnN a F' H' k := fun F' H' _ ho e => by
  rcases ho k e with h1 | h1
  · have := (h0.own_lt h1).2; omega
  · omega
theorem WentM.box2 {B a k : Nat} {F H : Value} {x y : Nt} {w w1 w2 w3 : World} (h0 : IsM w B a F H x) (hT : Touch (OwnN a F H) w w1) (h : WentM B a F H y w1 w2) (hk : w.heap.size ≤ k) (hlt : k < w1.heap.size) (ht : Touch (fun j => j = k) w2 w3) : WentM B a F H y w w3 := by
  obtain ⟨F', H', i1, t1, o1⟩ := h
  refine ⟨F', H', i1.keep ht (fun j hj e => ?_), (hT.trans t1).step ht (fun j hj => .inr (by omega)), fun j hj => (o1 j hj).imp id (fun h => Nat.le_trans hT.size h)⟩
  subst e
  rcases o1 j hj with h1 | h1
  · have := (h0.own_lt h1).2; omega
  · omega
theorem arrM : Try.prog.arrayLen 51 = 3 ∧ Try.prog.arrayLen 50 = 3 ∧ Try.prog.arrayLen 53 = 3 ∧ Try.prog.arrayLen 52 = 3 := by refine ⟨?_, ?_, ?_, ?_⟩ <;> kernel_rfl
end Go.Proofs.Ytgnmieobgdbafaa
