/-
  For the statement DiskEach: Load in one word, Each's answer, the blocks that are not empty.
-/
import Derived.Test.YthamjlhkiabcnaaDEach1
namespace Go.Proofs.Ythamjlhkiabcnaa
open Go.RowKit Go.Shelf
set_option linter.unusedVariables false

def fresh0 (l : List ByteArray) : Dk := ⟨l, l, [], false, -1⟩
def LoadEach (B : Nat) (l : List ByteArray) (w : World) (e : Ending) (w' : World) : Prop :=
  ∃ p c, e = .returned (.tuple #[.pointer p, .int .i64 c]) ∧ Below w.heap.size w w' ∧
    (c ≠ 0 ∨ (c = 0 ∧ ∃ a S, p = some ⟨a, 0, none⟩ ∧ IsDisk w' B a S (fresh0 l) ∧ ∀ q, S q → w.heap.size ≤ q))
theorem load_each {w : World} {B : Nat} {v : Value} {l : List ByteArray} (h : Row w 1 v l.length (strs l)) (hl : l.length ≤ 40) (hs : ∀ s ∈ l, s.size ≤ maxLen) (hB : B ≤ w.heap.size) :
    Calls Try.prog 12 #[v] w (LoadEach B l w) := by
  by_cases hp : 1 ≤ l.length
  · by_cases hlong : anyLong l = true
    · exact (load_long h hp (by omega) hs hlong).mono fun e w' ⟨he, hw⟩ => by
        subst he; subst hw
        exact ⟨_, _, rfl, Below.refl _ _, .inl (by decide)⟩
    · exact (load_ok h hp (by omega) hs (by simpa using hlong) hB).mono fun e w' ⟨a, S, he, hd, hS, hb⟩ => by
        subst he
        exact ⟨_, _, rfl, hb, .inr ⟨rfl, a, S, rfl, hd, hS⟩⟩
  · exact (load_arg h (by omega) (by omega)).mono fun e w' ⟨he, hw⟩ => by
      subst he; subst hw
      exact ⟨_, _, rfl, Below.refl _ _, .inl (by decide)⟩

/-- What Each answers. -/
def EachGives (l : List ByteArray) (w : World) (e : Ending) (w' : World) : Prop :=
  ∃ Bn v, e = .returned (.func (.func 51) #[] #[.pointer (some ⟨Bn, 0, none⟩)]) ∧ w.heap.size ≤ Bn ∧ Boxed w' Bn 22 v ∧
    w'.ownsRow w.heap.size 9 1 v l.length (strs l) ∧ Below w.heap.size w w'
set_option maxHeartbeats 400000 in
theorem each_any {w : World} {B a : Nat} {S : Nat → Prop} {d : Dk} (h : IsDisk w B a S d) : Calls Try.prog 31 #[.pointer (some ⟨a, 0, none⟩)] w (EachGives d.now w) := by
  have HI := Lib.hid (image_any h)
  clear h
  go_enter Try.func31, Try.ntmps31
  go_wp2_with fail
  refine HI.out.mono ?_
  rintro e w1 ⟨v1, rfl, o1, b1⟩
  have O1 := Lib.hid o1
  obtain ⟨a1, c1, rfl⟩ := (row_of_own o1).shape
  clear o1
  go_wp2_with fail
  go_ret
  refine ⟨_, _, rfl, b1.size, Boxed.new _ _ _, own_keep O1.out (touch_of_below ((Below.refl w1.heap.size w1).alloc (Nat.le_refl _) _) fun _ => False) fun _ _ h => h, b1.alloc b1.size _⟩

theorem nonE_succ (l : List ByteArray) {k : Nat} (hk : k < l.length) : nonE l (k + 1) = nonE l k ++ (if (l[k]).toList.isEmpty then [] else [((k : Int), l[k])]) := by
  simp only [nonE, List.getD_eq_getElem?_getD, List.getElem?_eq_getElem hk, Option.getD_some]
theorem nonE_empty (l : List ByteArray) {k : Nat} (hk : k < l.length) (he : (l[k]).toList = []) : nonE l (k + 1) = nonE l k := by
  rw [nonE_succ l hk, he]; simp
theorem nonE_full (l : List ByteArray) {k : Nat} (hk : k < l.length) (he : (l[k]).toList ≠ []) : nonE l (k + 1) = nonE l k ++ [((k : Int), l[k])] := by
  rw [nonE_succ l hk]
  have : (l[k]).toList.isEmpty = false := by simpa using he
  rw [this]; simp
/-- One that came does not fit: so much is no beginning of what is to come. -/
theorem nonE_other (l : List ByteArray) {k : Nat} (hk : k < l.length) (he : (l[k]).toList ≠ []) (x : EachX) (hx : x ≠ ((k : Int), l[k])) : ¬ (nonE l k ++ [x]) <+: nonE l l.length := by
  intro h
  have h1 := nonE_pre l (k := k + 1) (m := l.length) (by omega)
  rw [nonE_full l hk he] at h1
  have := List.prefix_of_prefix_length_le h h1 (by simp)
  have := this.eq_of_length (by simp)
  simp at this
  exact hx this
theorem nonE_over (l : List ByteArray) (x : EachX) : ¬ (nonE l l.length ++ [x]) <+: nonE l l.length := by
  intro h
  have := h.length_le
  simp at this
  omega
theorem nonE_rest (l : List ByteArray) {k : Nat} (hk : k < l.length) (h : nonE l k = nonE l l.length) : (l[k]).toList = [] := by
  apply Classical.byContradiction
  intro he
  have h1 := (nonE_pre l (k := k + 1) (m := l.length) (by omega)).length_le
  rw [nonE_full l hk he, ← h] at h1
  simp at h1
  omega

end Go.Proofs.Ythamjlhkiabcnaa
