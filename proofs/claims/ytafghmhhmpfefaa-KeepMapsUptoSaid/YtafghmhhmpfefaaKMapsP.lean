/-
  Maps and lists side by side in two slices of the call's own.
-/
import Derived.Test.YtafghmhhmpfefaaKTells
import Derived.Test.YtafghmhhmpfefaaKLong
namespace Go.Proofs.Ytafghmhhmpfefaa
open Go.RowKit
set_option linter.unusedVariables false

abbrev SlE : TypeId := 33
/-- At bm stand maps, at bl lists: the first n + 1 of each tell the same. -/
structure KM (w : World) (B bm bl : Nat) (cm cl : Array Value) (n m : Nat) : Prop where
  mb : w.heap[bm]? = some (Obj.cells cm MapS)
  lb : w.heap[bl]? = some (Obj.cells cl SlE)
  ms : cm.size = m
  ls : cl.size = m
  gm : B ≤ bm
  gl : B ≤ bl
  each : ∀ j, j ≤ n → ∃ q v, ∃ t : Tr ByteArray Int, cm[j]? = some (.pointer q) ∧ cl[j]? = some v ∧ IsTS w (.pointer q) t ∧ w.ownsRow B EntR 2 v t.toL.length (ents t.toL) ∧ Srt t.toL ∧ Tr.Bal t ∧ t.size ≤ j
  free : ∀ j, n < j → j < m → cm[j]? = some (.pointer none) ∧ cl[j]? = some (.slice none 0 0)

section
variable {w w' : World} {B bm bl n m : Nat} {cm cl : Array Value}
theorem KM.below (h : KM w B bm bl cm cl n m) (hb : Below w.heap.size w w') : KM w' B bm bl cm cl n m :=
  ⟨Hold.below hb _ _ h.mb, Hold.below hb _ _ h.lb, h.ms, h.ls, h.gm, h.gl, fun j hj => by
    obtain ⟨q, v, t, h1, h2, h3, h4, h5⟩ := h.each j hj
    exact ⟨q, v, t, h1, h2, h3.below hb, own_hold h4 (Hold.below hb), h5⟩, h.free⟩
theorem KM.ne (h : KM w B bm bl cm cl n m) : bm ≠ bl := by
  rintro rfl
  have := h.mb.symm.trans h.lb
  simp only [Option.some.injEq, Obj.cells.injEq] at this
  exact absurd this.2.1 (by decide)
/-- The next map, and the next list, laid. -/
theorem KM.next (h : KM w B bm bl cm cl n m) {W : World} {q : Option Addr} {v : Value} {t : Tr ByteArray Int}
    (hm : W.heap[bm]? = some (Obj.cells (cm.setIfInBounds (n + 1) (.pointer q)) MapS)) (hl : W.heap[bl]? = some (Obj.cells (cl.setIfInBounds (n + 1) v) SlE)) (hn : n + 1 < m)
    (ht : IsTS W (.pointer q) t) (ho : W.ownsRow B EntR 2 v t.toL.length (ents t.toL)) (hs : Srt t.toL) (hb : Tr.Bal t) (hz : t.size ≤ n + 1)
    (hold : ∀ j, j ≤ n → ∀ q v, ∀ t : Tr ByteArray Int, IsTS w (.pointer q) t → w.ownsRow B EntR 2 v t.toL.length (ents t.toL) → IsTS W (.pointer q) t ∧ W.ownsRow B EntR 2 v t.toL.length (ents t.toL)) :
    KM W B bm bl (cm.setIfInBounds (n + 1) (.pointer q)) (cl.setIfInBounds (n + 1) v) (n + 1) m := by
  refine ⟨hm, hl, by simp [h.ms], by simp [h.ls], h.gm, h.gl, fun j hj => ?_, fun j h1 h2 => ?_⟩
  · by_cases e : j = n + 1
    · subst e
      exact ⟨q, v, t, by simp [h.ms, hn], by simp [h.ls, hn], ht, ho, hs, hb, hz⟩
    · obtain ⟨q', v', t', h1, h2, h3, h4, h5⟩ := h.each j (by omega)
      obtain ⟨k3, k4⟩ := hold j (by omega) _ _ _ h3 h4
      exact ⟨q', v', t', by rw [Array.getElem?_setIfInBounds_ne (by omega)]; exact h1, by rw [Array.getElem?_setIfInBounds_ne (by omega)]; exact h2, k3, k4, h5⟩
  · obtain ⟨k1, k2⟩ := h.free j (by omega) h2
    exact ⟨by rw [Array.getElem?_setIfInBounds_ne (by omega)]; exact k1, by rw [Array.getElem?_setIfInBounds_ne (by omega)]; exact k2⟩
end

theorem set_at {cm : Array Value} {i m : Nat} {v : Value} (h : cm.size = m) (hi : i < m) : (cm.setIfInBounds i v)[i]? = some v := by simp [h, hi]
/-- A list of maps, and of lists, that were just made. -/
theorem KM.made {w : World} {B bm bl m : Nat} (hm : w.heap[bm]? = some (Obj.cells (List.replicate m (Value.pointer none)).toArray MapS)) (hl : w.heap[bl]? = some (Obj.cells (List.replicate m (Value.slice none 0 0)).toArray SlE)) (gm : B ≤ bm) (gl : B ≤ bl) (h0 : 0 < m) :
    KM w B bm bl (List.replicate m (Value.pointer none)).toArray (List.replicate m (Value.slice none 0 0)).toArray 0 m := by
  refine ⟨hm, hl, by simp, by simp, gm, gl, fun j hj => ?_, fun j h1 h2 => ?_⟩
  · obtain rfl : j = 0 := by omega
    exact ⟨none, .slice none 0 0, .nil, by simp [h0], by simp [h0], rfl, World.ownsRow_nil _ _ _ 2, Srt.nil, trivial, Nat.le_refl _⟩
  · simp [h2]
end Go.Proofs.Ytafghmhhmpfefaa
