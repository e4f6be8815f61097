/-
  Keys of texts and of ints in order; what cmp.Compare and cmp.Less answer; blocks of one type stay.
-/
import Derived.Test.YtgnmieobgdbafaaKTree
import Derived.Test.YtgnmieobgdbafaaRows
import Derived.WalkKit
import Derived.WalkSpells
import Derived.WalkLawsBesides
import Derived.Lib.Hide
import Derived.Deep.QuietTactic
import Derived.BigQuiet
import Derived.StillTailTactics
import Derived.Deep.RegionHeld3
namespace Go.Proofs.Ytgnmieobgdbafaa
open Go.RowKit
set_option linter.unusedVariables false
theorem bytesLess_irr : ∀ l : List UInt8, Op.bytesLess l l = false
  | [] => rfl
  | a :: l => by simp [Op.bytesLess, bytesLess_irr l]
theorem bytesLess_tr : ∀ a b c : List UInt8, Op.bytesLess a b = true → Op.bytesLess b c = true → Op.bytesLess a c = true
  | _, [], _, h, _ => by cases ‹List UInt8› <;> simp [Op.bytesLess] at h
  | _, _ :: _, [], _, h => by simp [Op.bytesLess] at h
  | [], _ :: _, _ :: _, _, _ => rfl
  | x :: a, y :: b, z :: c, h1, h2 => by
    simp only [Op.bytesLess, Bool.or_eq_true, decide_eq_true_eq, Bool.and_eq_true, beq_iff_eq] at h1 h2 ⊢
    rcases h1 with h1 | ⟨rfl, h1⟩
    · rcases h2 with h2 | ⟨rfl, h2⟩
      · exact .inl (UInt8.lt_trans h1 h2)
      · exact .inl h1
    · rcases h2 with h2 | ⟨rfl, h2⟩
      · exact .inl h2
      · exact .inr ⟨rfl, bytesLess_tr a b c h1 h2⟩
theorem bytesLess_tri : ∀ a b : List UInt8, Op.bytesLess a b = false → Op.bytesLess b a = false → a = b
  | [], [], _, _ => rfl
  | [], _ :: _, h, _ => by simp [Op.bytesLess] at h
  | _ :: _, [], _, h => by simp [Op.bytesLess] at h
  | x :: a, y :: b, h1, h2 => by
    simp only [Op.bytesLess, Bool.or_eq_false_iff, decide_eq_false_iff_not, Bool.and_eq_false_iff, beq_eq_false_iff_ne] at h1 h2
    have e : x = y := UInt8.le_antisymm (UInt8.not_lt.1 h2.1) (UInt8.not_lt.1 h1.1)
    subst e
    rw [bytesLess_tri a b (by simpa using h1.2) (by simpa using h2.2)]
theorem toList_inj {a b : ByteArray} (h : a.toList = b.toList) : a = b := by
  rw [ByteArray.toList_eq, ByteArray.toList_eq] at h
  cases a; cases b
  simpa using h
instance : KOrd ByteArray where
  lt a b := Op.bytesLess a.toList b.toList
  irr a := bytesLess_irr _
  tr h h' := bytesLess_tr _ _ _ h h'
  tri h h' := toList_inj (bytesLess_tri _ _ h h')
instance : KOrd Int where
  lt a b := decide (a < b)
  irr a := by simp
  tr h h' := by simp at *; omega
  tri h h' := by simp at *; omega
/-- What cmp.Compare answers. -/
def cmpOf {K : Type} [o : KOrd K] (a b : K) : Int := if o.lt a b then -1 else if o.lt b a then 1 else 0
theorem beq_self_list (s : ByteArray) : (s.toList == s.toList) = true := by simp
/-- The blocks of one type stay as they are. -/
def Hold (T : TypeId) (w w' : World) : Prop := ∀ (b : Nat) (cs : Array Value), w.heap[b]? = some (Obj.cells cs T) → w'.heap[b]? = some (Obj.cells cs T)
theorem Hold.refl (T : TypeId) (w : World) : Hold T w w := fun _ _ h => h
theorem Hold.trans {T : TypeId} {a b c : World} (h : Hold T a b) (k : Hold T b c) : Hold T a c := fun i cs hi => k i cs (h i cs hi)
theorem Hold.below {T : TypeId} {w w' : World} (h : Below w.heap.size w w') : Hold T w w' := fun b cs hb => by
  rw [h.block b (Array.getElem?_eq_some_iff.1 hb).1]; exact hb
theorem still_of {P : Program} {f : FuncId} {args : Array Value} {w : World} {v : Value} (h : Calls P f args w fun e w' => e = .returned v ∧ w = w') : Calls P f args w fun e w' => e = .returned v ∧ w' = w :=
  h.mono fun _ _ ⟨a, b⟩ => ⟨a, b.symm⟩
theorem bmore {w a b : World} (h : Below w.heap.size w a) (hb : Below a.heap.size a b) : Below w.heap.size w b := h.trans (hb.mono h.size)
theorem bdd (w : World) (n : Nat) : Below w.heap.size w (w.drewN n).drew := ⟨rfl, rfl, rfl, Nat.le_refl _, fun _ _ => rfl⟩
theorem bd (w : World) : Below w.heap.size w w.drew := ⟨rfl, rfl, rfl, Nat.le_refl _, fun _ _ => rfl⟩
theorem bdn (w : World) (n : Nat) : Below w.heap.size w (w.drewN n) := ⟨rfl, rfl, rfl, Nat.le_refl _, fun _ _ => rfl⟩
theorem bcellAt {w w' : World} {b o : Nat} {u : Value} (h : Below w.heap.size w w') (hc : w.cell? ⟨b, o, none⟩ = some u) : w'.cell? ⟨b, o, none⟩ = some u := by
  rw [h.cell (p := ⟨b, o, none⟩) (World.block_lt_of_cell? w _ hc)]; exact hc
theorem bfrozenAt {w w' : World} {b o : Nat} {f : Bool} {u : Value} (h : Below w.heap.size w w') (hc : w.cell? ⟨b, o, none⟩ = some u) (hf : w.frozen? ⟨b, o, none⟩ = f) : w'.frozen? ⟨b, o, none⟩ = f := by
  rw [h.frozen (p := ⟨b, o, none⟩) (World.block_lt_of_cell? w _ hc)]; exact hf
theorem Hold.setCell {T T' : TypeId} {w : World} {c o : Nat} {cs : Array Value} {fr : Nat × Nat} {v : Value} (hc : w.heap[c]? = some (Obj.cells cs T' fr)) (hne : T' ≠ T) : Hold T w (w.setCell ⟨c, o, none⟩ v) := by
  intro b cs' hb
  have hbc : b ≠ c := by
    rintro rfl
    rw [hc] at hb
    simp only [Option.some.injEq, Obj.cells.injEq] at hb
    exact hne hb.2.1
  rw [Below.heap_setCell _ _ _ _ hbc]
  exact hb
theorem frozenB {w : World} {b j : Nat} {cs : Array Value} {T : TypeId} (hb : w.heap[b]? = some (Obj.cells cs T)) : w.frozen? ⟨b, j, none⟩ = false := by
  unfold World.frozen?
  rw [hb]
  simp
theorem setCellB {w : World} {b j : Nat} {cs : Array Value} {T : TypeId} {u : Value} (hb : w.heap[b]? = some (Obj.cells cs T)) : (w.setCell ⟨b, j, none⟩ u).heap[b]? = some (Obj.cells (cs.setIfInBounds j u) T) := by
  simp [World.setCell, Array.getElem?_modify, hb]
theorem own_hold {w w' : World} {base n size : Nat} {e : TypeId} {v : Value} {xs : List Value} (h : w.ownsRow base e size v n xs) (hh : Hold e w w') : w'.ownsRow base e size v n xs := by
  obtain ⟨h1, h2⟩ := h
  refine ⟨h1, ?_⟩
  rcases h2 with h2 | ⟨g, cap, cur, rfl, hb, hg', rest⟩
  · exact .inl h2
  · exact .inr ⟨g, cap, cur, rfl, hb, hh _ _ hg', rest⟩
/-- The block of a row of the call's own is of the row's type. -/
theorem own_type {w : World} {base n size : Nat} {e : TypeId} {v : Value} {xs : List Value} {g : Nat} (h : w.ownsRow base e size v n xs) (hg : v.ownBlock = some g) : base ≤ g ∧ ∃ cur, w.heap[g]? = some (Obj.cells cur e) := by
  rcases h.2 with ⟨rfl, _⟩ | ⟨g', cap, cur, rfl, hb, hg', _⟩
  · simp [Value.ownBlock] at hg
  · simp only [Value.ownBlock, Option.some.injEq] at hg
    subst hg
    exact ⟨hb, cur, hg'⟩
theorem cellB {w : World} {b j : Nat} {cs : Array Value} {T : TypeId} {u : Value} (hb : w.heap[b]? = some (Obj.cells cs T)) (hj : cs[j]? = some u) : w.cell? ⟨b, j, none⟩ = some u := by
  unfold World.cell?
  simp [hb, hj]
end Go.Proofs.Ytgnmieobgdbafaa
