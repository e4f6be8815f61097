/-
  No more than needed, as plain data: which operations are kept, how they are renumbered; what is left makes the same.
  Flags and numbers in memory; the fields in which an operation names one that is ahead of it.
  No more than needed, as plain data: marks and numbers by the fields that name.
  The program's Trim.
  The document's one, two; its Same of two lists that are one.
  The document's Trim.
-/
import Derived.Test.YtlckneajppfmbaaDoorYOpM
import Derived.Test.YtlckneajppfmbaaDoorYDoA
import Derived.Test.YtlckneajppfmbaaDoorEApart
import Derived.Test.YtlckneajppfmbaaDoorYLivW
import Derived.Test.YtlckneajppfmbaaDoorYFol
import Derived.Test.YtlckneajppfmbaaDoorTRefMake
import Derived.Deep.DeepCutAuto
namespace Go.Proofs.YtlckneajppfmbaaDoor
set_option linter.unusedVariables false

def useA (c : Int) : Bool := decide (4 ≤ c) && decide (c ≤ 11)
def useB (c : Int) : Bool := (c == 4) || (decide (9 ≤ c) && decide (c ≤ 11))
def zeroO : OpP := ⟨0, 0, 0, 0, emptyS⟩
/-- Does an operation with this number name one ahead of it by A, by B? -/
def refA (o : OpP) (i : Nat) : Bool := useA o.code && (decide (0 ≤ o.a) && decide (o.a < (i : Int)))
def refB (o : OpP) (i : Nat) : Bool := useB o.code && (decide (0 ≤ o.b) && decide (o.b < (i : Int)))
def orAt (f : Nat → Bool) (j : Nat) (b : Bool) : Nat → Bool := fun x => if x = j then f j || b else f x
def markA (f : Nat → Bool) (o : OpP) (i : Nat) : Nat → Bool := if refA o i = true then orAt f o.a.toNat (f i) else f
def markB (f : Nat → Bool) (o : OpP) (i : Nat) : Nat → Bool := if refB o i = true then orAt f o.b.toNat (f i) else f
/-- What one operation marks. -/
def mark1 (f : Nat → Bool) (o : OpP) (i : Nat) : Nat → Bool := markB (markA f o i) o i
/-- From behind: those below i are still to come. -/
def markF (l : List OpP) : Nat → (Nat → Bool) → (Nat → Bool)
  | 0, f => f
  | i + 1, f => markF l i (mark1 f (l.getD i zeroO) i)
def partF (l : List OpP) : Nat → Bool := markF l l.length (fun x => x == l.length - 1)
def movA (o : OpP) (i : Nat) (now : Nat → Int) : Int := if refA o i = true then now o.a.toNat else o.a
def movB (o : OpP) (i : Nat) (now : Nat → Int) : Int := if refB o i = true then now o.b.toNat else o.b
def movP (o : OpP) (i : Nat) (now : Nat → Int) : OpP := ⟨o.code, movA o i now, movB o i now, o.num, o.text⟩
/-- Those that are kept, renumbered. -/
def keepP (f : Nat → Bool) : List OpP → Nat → (Nat → Int) → List OpP → List OpP
  | [], _, _, kept => kept
  | o :: r, i, now, kept => if f i = true then keepP f r (i + 1) (fun x => if x = i then (kept.length : Int) else now x) (kept ++ [movP o i now]) else keepP f r (i + 1) now kept
def trimP (l : List OpP) : List OpP := if l = [] then [] else keepP (partF l) l 0 (fun _ => 0) []

theorem refA_lt {o : OpP} {i : Nat} (h : refA o i = true) : o.a.toNat < i := by
  simp only [refA, Bool.and_eq_true, decide_eq_true_eq] at h; omega
theorem refB_lt {o : OpP} {i : Nat} (h : refB o i = true) : o.b.toNat < i := by
  simp only [refB, Bool.and_eq_true, decide_eq_true_eq] at h; omega
theorem mark1_at (f : Nat → Bool) (o : OpP) (i x : Nat) (hx : i ≤ x) : mark1 f o i x = f x := by
  have hA : ∀ y, i ≤ y → markA f o i y = f y := fun y hy => by
    unfold markA
    split
    · rename_i h; unfold orAt; rw [if_neg (by have := refA_lt h; omega)]
    · rfl
  unfold mark1 markB
  split
  · rename_i h; unfold orAt; rw [if_neg (by have := refB_lt h; omega)]; exact hA x hx
  · exact hA x hx
theorem mark1_up (f : Nat → Bool) (o : OpP) (i x : Nat) (h : f x = true) : mark1 f o i x = true := by
  have hA : ∀ y, f y = true → markA f o i y = true := fun y hy => by
    unfold markA
    split
    · unfold orAt; split
      · rename_i e; rw [← e, hy]; rfl
      · exact hy
    · exact hy
  unfold mark1 markB
  split
  · unfold orAt; split
    · rename_i e; rw [← e, hA x h]; rfl
    · exact hA x h
  · exact hA x h
theorem mark1_refs {f : Nat → Bool} {o : OpP} {i : Nat} (h : f i = true) : (refA o i = true → mark1 f o i o.a.toNat = true) ∧ (refB o i = true → mark1 f o i o.b.toNat = true) := by
  have hAi : markA f o i i = true := by
    unfold markA
    split
    · rename_i hr; unfold orAt; rw [if_neg (by have := refA_lt hr; omega)]; exact h
    · exact h
  constructor
  · intro hr
    have h1 : markA f o i o.a.toNat = true := by unfold markA orAt; rw [if_pos hr, if_pos rfl, h]; simp
    unfold mark1 markB
    split
    · unfold orAt; split
      · rename_i e; rw [← e, h1]; rfl
      · exact h1
    · exact h1
  · intro hr
    unfold mark1 markB orAt
    rw [if_pos hr, if_pos rfl, hAi]; simp
theorem markF_at (l : List OpP) : ∀ (i : Nat) (f : Nat → Bool) (x : Nat), i ≤ x → markF l i f x = f x
  | 0, f, x, _ => rfl
  | i + 1, f, x, h => by
    unfold markF
    rw [markF_at l i _ x (by omega), mark1_at _ _ _ _ (by omega)]
theorem markF_up (l : List OpP) : ∀ (i : Nat) (f : Nat → Bool) (x : Nat), f x = true → markF l i f x = true
  | 0, f, x, h => h
  | i + 1, f, x, h => markF_up l i _ x (mark1_up _ _ _ _ h)
/-- Whatever a kept operation names is kept. -/
theorem markF_closed (l : List OpP) : ∀ (i : Nat) (f : Nat → Bool) (j : Nat), j < i → markF l i f j = true →
    (refA (l.getD j zeroO) j = true → markF l i f (l.getD j zeroO).a.toNat = true) ∧ (refB (l.getD j zeroO) j = true → markF l i f (l.getD j zeroO).b.toNat = true)
  | 0, f, j, h, _ => by omega
  | i + 1, f, j, h, hj => by
    unfold markF at hj ⊢
    by_cases e : j = i
    · subst e
      rw [markF_at l j _ j (Nat.le_refl _), mark1_at _ _ _ _ (Nat.le_refl _)] at hj
      have h2 := mark1_refs (o := l.getD j zeroO) hj
      exact ⟨fun hr => markF_up l j _ _ (h2.1 hr), fun hr => markF_up l j _ _ (h2.2 hr)⟩
    · exact markF_closed l i _ j (by omega) hj
theorem part_last {l : List OpP} (h : l ≠ []) : partF l (l.length - 1) = true := markF_up l _ _ _ (by simp)

/-- What an operation made once it makes again, in a pool that has it. -/
theorem mk_again {p P e : Pl} (hP : Ok P) {n : Nd} {t : Int} {p' : Pl} (hp : Ok p) (h : mkP p n = (t, 0, p')) (he : P = p' ++ e) : mkP P n = (t, 0, P) := by
  have hm := mkP_made hp (n := n) (by rw [h])
  have hok' := mkP_ok hp n
  rw [h] at hm hok'
  simp only at hm hok'
  obtain ⟨h1, h2, h3⟩ := hm
  have hin := h2
  simp only [inP, Bool.and_eq_true, decide_eq_true_eq] at h2
  obtain ⟨i, rfl⟩ : ∃ i : Nat, t = (i : Int) + 1 := ⟨(t - 1).toNat, by omega⟩
  have hi : i < p'.length := by omega
  rw [getD_at hi] at h3
  have hn : numP p' n = i + 1 := by rw [← h3]; exact hok'.first i hi
  have hN : numP P n = i + 1 := by rw [he, numP_app (by omega), hn]
  have hE : errP P n = 0 := hP.err (by omega)
  unfold mkP
  rw [if_neg (fun h => h hE), if_pos (by omega), hN]
  congr 1
theorem md_take {M : List Int} {i : Nat} {j : Int} (h : upB (M.take i) j = true) : mdP (M.take i) j = mdP M j := by
  simp only [upB, Bool.and_eq_true, decide_eq_true_eq, List.length_take] at h
  unfold mdP
  rw [List.getD_eq_getElem?_getD, List.getD_eq_getElem?_getD, List.getElem?_take, if_pos (by omega)]
/-- An operation that was done is done again behind others, where what it names makes the same. -/
theorem do_again {p P e : Pl} (hp : Ok p) (hP : Ok P) {g m m' : List Int} {o o' : OpP} {t : Int} {p' : Pl} (h : doP p g m o = (t, 0, p')) (he : P = p' ++ e) (hin : ∀ x ∈ m, inP p x = true)
    (hc : o'.code = o.code) (hn : o'.num = o.num) (ht : o'.text = o.text) (ha0 : useA o.code = false → o'.a = o.a)
    (ha : useA o.code = true → upB m o.a = true → upB m' o'.a = true ∧ mdP m' o'.a = mdP m o.a) (hb : useB o.code = true → upB m o.b = true → upB m' o'.b = true ∧ mdP m' o'.b = mdP m o.b) :
    doP P g m' o' = (t, 0, P) := by
  obtain ⟨c, a, b, u, s⟩ := o
  obtain ⟨c', a', b', u', s'⟩ := o'
  simp only at hc hn ht ha0 ha hb
  subst hc hn ht
  have hpp : ∃ e2, P = p ++ e2 := by
    obtain ⟨e1, h1⟩ := (doP_out p g m ⟨c', a, b, u', s'⟩).1
    rw [h] at h1
    exact ⟨e1 ++ e, by rw [he]; simp only at h1; rw [h1, List.append_assoc]⟩
  obtain ⟨e2, he2⟩ := hpp
  have hnd : ∀ j j' : Int, upB m j = true → mdP m' j' = mdP m j → ndP P m' j' = ndP p m j := fun j j' hu hm => by
    unfold ndP
    rw [hm, he2, atP_append (hin _ (md_in hu))]
  have hmk : ∀ n, mkP p n = (t, 0, p') → mkP P n = (t, 0, P) := fun n hn => mk_again hP hp hn he
  have no : ∀ {Q : Prop}, noP p = (t, 0, p') → Q := fun h => by
    unfold noP at h
    simp at h
  by_cases k0 : c' = 0
  · subst k0
    have := ha0 rfl
    subst this
    unfold doP at h ⊢
    rw [if_pos rfl] at h ⊢
    by_cases hu : upB g a' = true
    · rw [if_pos hu] at h ⊢; cases h; rfl
    · rw [if_neg hu] at h; exact no h
  by_cases k1 : c' = 1
  · subst k1
    have := ha0 rfl
    subst this
    exact hmk _ h
  by_cases k2 : c' = 2
  · subst k2; exact hmk _ h
  by_cases k3 : c' = 3
  · subst k3; exact hmk _ h
  by_cases k4 : c' = 4
  · subst k4
    have hd : ∀ (q : Pl) (m : List Int) (a b : Int), doP q g m ⟨4, a, b, u', s'⟩ = if (upB m a && upB m b) = true then mkP q ⟨4, 0, 0, 0, emptyS, mdP m a, mdP m b⟩ else noP q := fun _ _ _ _ => rfl
    rw [hd] at h ⊢
    by_cases hu : (upB m a && upB m b) = true
    · rw [if_pos hu] at h
      simp only [Bool.and_eq_true] at hu
      obtain ⟨a1, a2⟩ := ha rfl hu.1
      obtain ⟨b1, b2⟩ := hb rfl hu.2
      rw [if_pos (by rw [a1, b1]; rfl), a2, b2]
      exact hmk _ h
    · rw [if_neg hu] at h; exact no h
  by_cases k5 : c' = 5
  · subst k5
    have hd : ∀ (q : Pl) (m : List Int) (a b : Int), doP q g m ⟨5, a, b, u', s'⟩ = if upB m a = true then mkP q ⟨5, 0, 0, 0, emptyS, mdP m a, 0⟩ else noP q := fun _ _ _ _ => rfl
    rw [hd] at h ⊢
    by_cases hu : upB m a = true
    · rw [if_pos hu] at h
      obtain ⟨a1, a2⟩ := ha rfl hu
      rw [if_pos a1, a2]
      exact hmk _ h
    · rw [if_neg hu] at h; exact no h
  by_cases k6 : c' = 6
  · subst k6
    have hd : ∀ (q : Pl) (m : List Int) (a b : Int), doP q g m ⟨6, a, b, u', s'⟩ = if (upB m a && (ndP q m a).kind == 4) = true then ((ndP q m a).a, 0, q) else noP q := fun _ _ _ _ => rfl
    rw [hd] at h ⊢
    by_cases hu : (upB m a && (ndP p m a).kind == 4) = true
    · rw [if_pos hu] at h
      have hu' := hu
      simp only [Bool.and_eq_true] at hu
      obtain ⟨a1, a2⟩ := ha rfl hu.1
      rw [hnd _ _ hu.1 a2, if_pos (by rw [a1, hu.2]; rfl)]
      cases h; rfl
    · rw [if_neg hu] at h; exact no h
  by_cases k7 : c' = 7
  · subst k7
    have hd : ∀ (q : Pl) (m : List Int) (a b : Int), doP q g m ⟨7, a, b, u', s'⟩ = if (upB m a && (ndP q m a).kind == 4) = true then ((ndP q m a).b, 0, q) else noP q := fun _ _ _ _ => rfl
    rw [hd] at h ⊢
    by_cases hu : (upB m a && (ndP p m a).kind == 4) = true
    · rw [if_pos hu] at h
      simp only [Bool.and_eq_true] at hu
      obtain ⟨a1, a2⟩ := ha rfl hu.1
      rw [hnd _ _ hu.1 a2, if_pos (by rw [a1, hu.2]; rfl)]
      cases h; rfl
    · rw [if_neg hu] at h; exact no h
  by_cases k8 : c' = 8
  · subst k8
    have hd : ∀ (q : Pl) (m : List Int) (a b : Int), doP q g m ⟨8, a, b, u', s'⟩ = if (upB m a && showB (ndP q m a).kind) = true then ((ndP q m a).a, 0, q) else noP q := fun _ _ _ _ => rfl
    rw [hd] at h ⊢
    by_cases hu : (upB m a && showB (ndP p m a).kind) = true
    · rw [if_pos hu] at h
      simp only [Bool.and_eq_true] at hu
      obtain ⟨a1, a2⟩ := ha rfl hu.1
      rw [hnd _ _ hu.1 a2, if_pos (by rw [a1, hu.2]; rfl)]
      cases h; rfl
    · rw [if_neg hu] at h; exact no h
  have key : ∀ (n n' : Nd), (if (upB m a && (upB m b && (ndP p m b).kind == 6)) = true then mkP p n else noP p) = (t, 0, p') → useA c' = true → useB c' = true → (upB m a = true → upB m b = true → mdP m' a' = mdP m a → ndP P m' b' = ndP p m b → n' = n) →
      (if (upB m' a' && (upB m' b' && (ndP P m' b').kind == 6)) = true then mkP P n' else noP P) = (t, 0, P) := fun n n' h u1 u2 hn => by
    by_cases hu : (upB m a && (upB m b && (ndP p m b).kind == 6)) = true
    · rw [if_pos hu] at h
      simp only [Bool.and_eq_true] at hu
      obtain ⟨a1, a2⟩ := ha u1 hu.1
      obtain ⟨b1, b2⟩ := hb u2 hu.2.1
      have hk := hnd _ _ hu.2.1 b2
      rw [hn hu.1 hu.2.1 a2 hk, hk, if_pos (by rw [a1, b1, hu.2.2]; rfl)]
      exact hmk _ h
    · rw [if_neg hu] at h; exact no h
  by_cases k9 : c' = 9
  · subst k9
    exact key _ _ h rfl rfl (fun _ _ q1 q2 => by rw [q1, q2])
  by_cases k10 : c' = 10
  · subst k10
    exact key _ _ h rfl rfl (fun _ _ q1 q2 => by rw [q1, q2])
  by_cases k11 : c' = 11
  · subst k11
    exact key _ _ h rfl rfl (fun _ _ q1 q2 => by rw [q1, q2])
  have hz : doP p g m ⟨c', a, b, u', s'⟩ = noP p := by
    unfold doP
    rw [if_neg k0, if_neg k1, if_neg k2, if_neg k3, if_neg k4, if_neg k5, if_neg k6, if_neg k7, if_neg k8, if_neg k9, if_neg k10, if_neg k11]
  rw [hz] at h
  exact no h
/-- What is used is there: else the operation could not be done. -/
theorem do_used {p : Pl} {g m : List Int} {o : OpP} {t : Int} {p' : Pl} (h : doP p g m o = (t, 0, p')) : (useA o.code = true → upB m o.a = true) ∧ (useB o.code = true → upB m o.b = true) := by
  obtain ⟨c, a, b, u, s⟩ := o
  have no : ∀ {Q : Prop}, noP p = (t, 0, p') → Q := fun h => by
    unfold noP at h
    simp at h
  have one : ∀ {cond : Bool} {x : Int × Int × Pl}, (if (upB m a && cond) = true then x else noP p) = (t, 0, p') → upB m a = true := fun {cond x} h => by
    by_cases hu : (upB m a && cond) = true
    · simp only [Bool.and_eq_true] at hu; exact hu.1
    · rw [if_neg hu] at h; exact no h
  have two : ∀ {cond : Bool} {x : Int × Int × Pl}, (if (upB m a && (upB m b && cond)) = true then x else noP p) = (t, 0, p') → upB m b = true := fun {cond x} h => by
    by_cases hu : (upB m a && (upB m b && cond)) = true
    · simp only [Bool.and_eq_true] at hu; exact hu.2.1
    · rw [if_neg hu] at h; exact no h
  simp only
  constructor
  · intro hc
    simp only [useA, Bool.and_eq_true, decide_eq_true_eq] at hc
    rcases (by omega : c = 4 ∨ c = 5 ∨ c = 6 ∨ c = 7 ∨ c = 8 ∨ c = 9 ∨ c = 10 ∨ c = 11) with e | e | e | e | e | e | e | e
    · subst e; exact one (cond := upB m b) h
    · subst e; exact one (cond := true) (x := mkP p ⟨5, 0, 0, 0, emptyS, mdP m a, 0⟩) (by rw [Bool.and_true]; exact h)
    all_goals (subst e; exact one h)
  · intro hc
    simp only [useB, Bool.or_eq_true, Bool.and_eq_true, decide_eq_true_eq, beq_iff_eq] at hc
    rcases (by omega : c = 4 ∨ c = 9 ∨ c = 10 ∨ c = 11) with e | e | e | e
    · subst e; exact two (cond := true) (x := mkP p ⟨4, 0, 0, 0, emptyS, mdP m a, mdP m b⟩) (by rw [Bool.and_true]; exact h)
    all_goals (subst e; exact two h)
end Go.Proofs.YtlckneajppfmbaaDoor
namespace Go.Proofs.YtlckneajppfmbaaDoor
open Go.RowKit Go.Maps
set_option linter.unusedVariables false

abbrev BoT9 : TypeId := 4
abbrev IntT9 : TypeId := 3
def upF9 {α : Type} (f : Nat → α) (i : Nat) (b : α) : Nat → α := fun x => if x = i then b else f x
def bo9 (n : Nat) : Array Value := madeCells (Value.bool false).cells (n * 1)
theorem bo9_size (n : Nat) : (bo9 n).size = n := by rw [bo9, size_madeCells, Nat.mul_one]
theorem bo9_at (n j : Nat) (h : j < n) : (bo9 n)[j]? = some (.bool false) := by
  unfold bo9 madeCells
  rw [show (Value.bool false).cells = #[Value.bool false] from rfl]
  simp [h, Nat.mod_one]
def in9 (n : Nat) : Array Value := madeCells (Value.int .i64 0).cells (n * 1)
theorem in9_size (n : Nat) : (in9 n).size = n := by rw [in9, size_madeCells, Nat.mul_one]
theorem in9_at (n j : Nat) (h : j < n) : (in9 n)[j]? = some (.int .i64 0) := by
  unfold in9 madeCells
  rw [show (Value.int .i64 0).cells = #[Value.int .i64 0] from rfl]
  simp [h, Nat.mod_one]
theorem rowBo9 : (Tryd.prog.info? BoT9).map (fun i => (i.zero, i.size, i.bytes)) = some (some (.bool false), 1, 1) := by kernel_rfl
theorem rowIn9 : (Tryd.prog.info? IntT9).map (fun i => (i.zero, i.size, i.bytes)) = some (some (.int .i64 0), 1, 8) := by kernel_rfl
theorem mk_bo9 {n : Nat} (hn : n ≤ 65536) (W : World) : (Instr.makeSlice 120 (.int .i64 (n : Int)) (.int .i64 (n : Int))).run Tryd.prog W = .ok (.slice (some ⟨W.heap.size, 0, none⟩) n n) (W.alloc (.cells (bo9 n) BoT9)) := by
  obtain ⟨i1, hi, hz0, hz1, hz2⟩ := info_parts rowBo9
  have := run_make (P := Tryd.prog) W 120 BoT9 i1 (.bool false) Tryd.underlying120 hi hz0 .i64 .i64 (n : Int) (n : Int) (by omega) (Int.le_refl _) (by rw [hz2]; omega) (by omega)
  rw [hz1] at this
  simpa [bo9] using this
theorem mk_in9 {n : Nat} (hn : n ≤ 65536) (W : World) : (Instr.makeSlice 79 (.int .i64 (n : Int)) (.int .i64 (n : Int))).run Tryd.prog W = .ok (.slice (some ⟨W.heap.size, 0, none⟩) n n) (W.alloc (.cells (in9 n) IntT9)) := by
  obtain ⟨i1, hi, hz0, hz1, hz2⟩ := info_parts rowIn9
  have := run_make (P := Tryd.prog) W 79 IntT9 i1 (.int .i64 0) Tryd.underlying79 hi hz0 .i64 .i64 (n : Int) (n : Int) (by omega) (Int.le_refl _) (by rw [hz2]; omega) (by omega)
  rw [hz1] at this
  simpa [in9] using this
/-- A block of n things of one cell each, told by their numbers. -/
structure IsCol (w : World) (B sb n : Nat) (T : TypeId) (f : Nat → Value) : Prop where
  lay : ∃ C, w.heap[sb]? = some (.cells C T) ∧ C.size = n ∧ ∀ x, x < n → C[x]? = some (f x)
  gs : B ≤ sb
section
variable {w w' : World} {B sb n : Nat} {T : TypeId} {f : Nat → Value}
theorem IsCol.hold (h : IsCol w B sb n T f) (hh : Hold T w w') : IsCol w' B sb n T f := by
  obtain ⟨C, h1, h2⟩ := h.lay
  exact ⟨⟨C, hh _ _ h1, h2⟩, h.gs⟩
theorem IsCol.below (h : IsCol w B sb n T f) (hb : Below w.heap.size w w') : IsCol w' B sb n T f := h.hold (Hold.below hb)
theorem IsCol.cell (h : IsCol w B sb n T f) {x : Nat} (hx : x < n) : w.cell? ⟨sb, x, none⟩ = some (f x) := by
  obtain ⟨C, h1, _, h3⟩ := h.lay
  exact cellB h1 (h3 x hx)
theorem IsCol.warm (h : IsCol w B sb n T f) (x : Nat) : w.frozen? ⟨sb, x, none⟩ = false := by
  obtain ⟨C, h1, _⟩ := h.lay
  exact frozenB (j := x) h1
theorem IsCol.put (h : IsCol w B sb n T f) {x : Nat} (hx : x < n) (u : Value) : IsCol (w.setCell ⟨sb, x, none⟩ u) B sb n T (upF9 f x u) := by
  obtain ⟨C, h1, h2, h3⟩ := h.lay
  refine ⟨⟨C.setIfInBounds x u, setCellB h1, by simpa using h2, fun y hy => ?_⟩, h.gs⟩
  by_cases e : y = x
  · subst e
    rw [show upF9 f y u y = u from if_pos rfl, Array.getElem?_setIfInBounds_self_of_lt (by omega)]
  · rw [show upF9 f x u y = f y from if_neg e, Array.getElem?_setIfInBounds_ne (fun h => e h.symm)]
    exact h3 y hy
theorem IsCol.still (h : IsCol w B sb n T f) {T' : TypeId} (hT : T ≠ T') (x : Nat) (u : Value) : Hold T' w (w.setCell ⟨sb, x, none⟩ u) := by
  obtain ⟨C, h1, _⟩ := h.lay
  exact Hold.setCell h1 hT
theorem IsCol.lt (h : IsCol w B sb n T f) : sb < w.heap.size := by
  obtain ⟨C, h1, _⟩ := h.lay
  exact (Array.getElem?_eq_some_iff.1 h1).1
end
theorem IsCol.bo (w : World) {B : Nat} (hB : B ≤ w.heap.size) (n : Nat) : IsCol (w.alloc (.cells (bo9 n) BoT9)) B w.heap.size n BoT9 (fun _ => .bool false) := ⟨⟨_, heap_alloc_new _ _, bo9_size _, fun x hx => bo9_at _ _ hx⟩, hB⟩
theorem IsCol.int (w : World) {B : Nat} (hB : B ≤ w.heap.size) (n : Nat) : IsCol (w.alloc (.cells (in9 n) IntT9)) B w.heap.size n IntT9 (fun _ => .int .i64 0) := ⟨⟨_, heap_alloc_new _ _, in9_size _, fun x hx => in9_at _ _ hx⟩, hB⟩

abbrev PtT : TypeId := 127
/-- Pointers to fields of one block. -/
def ptV (b : Nat) (js : List Nat) : List Value := js.map fun j => .pointer (some ⟨b, j, none⟩)
theorem rowPt : (Tryd.prog.info? PtT).map (fun i => (i.zero, i.size, i.bytes)) = some (some (.pointer none), 1, 8) := by kernel_rfl
theorem wpList_append_pt {w : World} {ops : Array Oper} {rest : List Oper} {o : Oper} {a : Act} {Q : Exit → Act → World → Prop} (hg : o.guard = none) (s x : Operand)
    (ho : o.op = .call { callee := .builtin .append, args := #[s, x], argTypes := #[121, 121] })
    (base : Nat) (v : Value) (ob : Nat) (js : List Nat) (hs : a.eval s = v) (hown : w.ownsRow base PtT 1 v js.length (ptV ob js)) (b j : Nat) (hx : a.eval x = .slice (some ⟨b, 0, none⟩) 1 1) (hb : w.cell? ⟨b, 0, none⟩ = some (.pointer (some ⟨ob, j, none⟩)))
    (hlen : js.length ≤ 1000000) (hbase : base ≤ w.heap.size)
    (h : ∀ v' w', w'.ownsRow base PtT 1 v' (js ++ [j]).length (ptV ob (js ++ [j])) → w.grownBy w' v.ownBlock → wpList Tryd.prog ops Q rest (a.put o.dst v') w') : wpList Tryd.prog ops Q (o :: rest) a w := by
  obtain ⟨i0, hi, hz0, hz1, hz2⟩ := info_parts rowPt
  refine wpList_append_at w hg s x 121 ho base PtT i0 (.pointer none) 1 8 Tryd.underlying121 hi hz0 hz1 hz2 rfl (by decide) v _ _ hs hown ⟨b, 0, none⟩ 1 1 [.pointer (some ⟨ob, j, none⟩)] hx (by decide) rfl (fun k u hk => by
    cases k with
    | zero => simp at hk; subst hk; exact hb
    | succ k => simp at hk) (by simp; rfl) (by unfold maxLen; omega) (by omega) hbase ?_
  intro v' w' h6 h7 _
  exact h v' w' (by simpa [ptV] using h6) h7
theorem ne_nil (W : World) : (binOp .neq 106 .nilFunc .nilFunc).run Tryd.prog W = .ok (.bool false) W := by kernel_rfl
theorem ne_fn (f : Nat) (W : World) : (binOp .neq 106 (.func (.func f) #[] #[]) .nilFunc).run Tryd.prog W = .ok (.bool true) W := by kernel_rfl
def NamesPost (w : World) (ob : Nat) (js : List Nat) (e : Ending) (w' : World) : Prop := ∃ v, e = .returned v ∧ w'.ownsRow w.heap.size PtT 1 v js.length (ptV ob js) ∧ Below w.heap.size w w'
section
variable {w : World} {ob i : Nat} {oc oa obb on : Int} {os : ByteArray}
set_option maxRecDepth 100000 in
set_option maxHeartbeats 1600000 in
theorem names_nn (ho : w.heap[ob]? = some (Obj.cells #[.int .i64 oc, .int .i64 oa, .int .i64 obb, .int .u64 on, .string os] OpT)) (mk : Value) :
    Calls Tryd.prog 65 #[.agg #[.nilFunc, .nilFunc, mk], .pointer (some ⟨ob, 0, none⟩), .int .i64 (i : Int)] w (NamesPost w ob []) := by
  have hx := heap_alloc_new w (.cells #[.nilFunc, .nilFunc, mk] CodeT)
  have bA := bA0 w (.cells #[.nilFunc, .nilFunc, mk] CodeT)
  have hs : w.heap.size ≤ (w.alloc (.cells #[.nilFunc, .nilFunc, mk] CodeT)).heap.size := bA.size
  have x0 := cellB (j := 0) hx rfl
  have x1 := cellB (j := 1) hx rfl
  have hob := Hold.below bA _ _ ho
  have y1 := cellB (j := 1) hob rfl
  have y2 := cellB (j := 2) hob rfl
  have HA := Lib.hid bA
  have HX1 := Lib.hid x1
  have HY2 := Lib.hid y2
  have hq := ne_nil
  clear hx bA hob ho
  go_enter Tryd.func65, Tryd.ntmps65
  go_upto_region 2 with fail
  generalize (w.alloc (.cells #[.nilFunc, .nilFunc, mk] CodeT)) = W at *
  go_wp2_with fail
  go_returns
  exact ⟨_, rfl, World.ownsRow_nil _ _ _ 1, HA.out⟩
set_option maxRecDepth 100000 in
set_option maxHeartbeats 1600000 in
theorem names_no (ho : w.heap[ob]? = some (Obj.cells #[.int .i64 oc, .int .i64 oa, .int .i64 obb, .int .u64 on, .string os] OpT)) (mk : Value) (h : Nat) (hB : (decide (0 ≤ obb) && decide (obb < (i : Int))) = false) :
    Calls Tryd.prog 65 #[.agg #[.nilFunc, .func (.func h) #[] #[], mk], .pointer (some ⟨ob, 0, none⟩), .int .i64 (i : Int)] w (NamesPost w ob []) := by
  have hx := heap_alloc_new w (.cells #[.nilFunc, .func (.func h) #[] #[], mk] CodeT)
  have bA := bA0 w (.cells #[.nilFunc, .func (.func h) #[] #[], mk] CodeT)
  have hs : w.heap.size ≤ (w.alloc (.cells #[.nilFunc, .func (.func h) #[] #[], mk] CodeT)).heap.size := bA.size
  have x0 := cellB (j := 0) hx rfl
  have x1 := cellB (j := 1) hx rfl
  have hob := Hold.below bA _ _ ho
  have y1 := cellB (j := 1) hob rfl
  have y2 := cellB (j := 2) hob rfl
  have HA := Lib.hid bA
  have HX1 := Lib.hid x1
  have HY2 := Lib.hid y2
  have hq := ne_nil
  have hqh := ne_fn h
  have BB := Lib.hid (fun W => below_any obb (i : Int) W)
  rw [hB] at BB
  clear hx bA hob ho hB
  go_enter Tryd.func65, Tryd.ntmps65
  go_upto_region 2 with fail
  generalize (w.alloc (.cells #[.nilFunc, .func (.func h) #[] #[], mk] CodeT)) = W at *
  go_wp2_with fail
  refine (BB.out _).mono ?_
  rintro e w2 ⟨rfl, rfl⟩
  go_wp2_with fail
  go_returns
  exact ⟨_, rfl, World.ownsRow_nil _ _ _ 1, HA.out⟩
set_option maxRecDepth 100000 in
set_option maxHeartbeats 1600000 in
theorem names_ni (ho : w.heap[ob]? = some (Obj.cells #[.int .i64 oc, .int .i64 oa, .int .i64 obb, .int .u64 on, .string os] OpT)) (mk : Value) (h : Nat) (hB : (decide (0 ≤ obb) && decide (obb < (i : Int))) = true) :
    Calls Tryd.prog 65 #[.agg #[.nilFunc, .func (.func h) #[] #[], mk], .pointer (some ⟨ob, 0, none⟩), .int .i64 (i : Int)] w (NamesPost w ob [2]) := by
  have hx := heap_alloc_new w (.cells #[.nilFunc, .func (.func h) #[] #[], mk] CodeT)
  have bA := bA0 w (.cells #[.nilFunc, .func (.func h) #[] #[], mk] CodeT)
  have hs : w.heap.size ≤ (w.alloc (.cells #[.nilFunc, .func (.func h) #[] #[], mk] CodeT)).heap.size := bA.size
  have x0 := cellB (j := 0) hx rfl
  have x1 := cellB (j := 1) hx rfl
  have hob := Hold.below bA _ _ ho
  have y1 := cellB (j := 1) hob rfl
  have y2 := cellB (j := 2) hob rfl
  have HA := Lib.hid bA
  have HX1 := Lib.hid x1
  have HY2 := Lib.hid y2
  have hq := ne_nil
  have hqh := ne_fn h
  have BB := Lib.hid (fun W => below_any obb (i : Int) W)
  rw [hB] at BB
  clear hx bA hob ho hB
  go_enter Tryd.func65, Tryd.ntmps65
  go_upto_region 2 with fail
  generalize (w.alloc (.cells #[.nilFunc, .func (.func h) #[] #[], mk] CodeT)) = W at *
  go_wp2_with fail
  refine (BB.out _).mono ?_
  rintro e w2 ⟨rfl, rfl⟩
  go_upto_region 6 with (at_builtin; refine wpList_append_pt rfl _ _ rfl w.heap.size (.slice none 0 0) ob [] rfl (World.ownsRow_nil _ _ _ 1) _ 2 rfl (cellB (j := 0) (heap_alloc_new _ _) rfl) (by simp) (Nat.le_trans hs (bA0 _ _).size) ?_; intro v8 w8 hrow8 hg8)
  have g8 := bmore (bA0 W _) (grown_below hg8 (Nat.le_refl _) (fun k e => by simp [Value.ownBlock] at e))
  have HG8 := Lib.hid (bmore HA.out g8)
  have HR8 := Lib.hid hrow8
  obtain ⟨vb, vd, rfl⟩ := (row_of_own hrow8).shape
  clear hg8 g8 hrow8 x0 x1 y1 y2
  go_wp2_with fail
  go_returns
  exact ⟨_, rfl, HR8.out, HG8.out⟩
set_option maxRecDepth 100000 in
set_option maxHeartbeats 1600000 in
theorem names_on (ho : w.heap[ob]? = some (Obj.cells #[.int .i64 oc, .int .i64 oa, .int .i64 obb, .int .u64 on, .string os] OpT)) (mk : Value) (f : Nat) (hA : (decide (0 ≤ oa) && decide (oa < (i : Int))) = false) :
    Calls Tryd.prog 65 #[.agg #[.func (.func f) #[] #[], .nilFunc, mk], .pointer (some ⟨ob, 0, none⟩), .int .i64 (i : Int)] w (NamesPost w ob []) := by
  have hx := heap_alloc_new w (.cells #[.func (.func f) #[] #[], .nilFunc, mk] CodeT)
  have bA := bA0 w (.cells #[.func (.func f) #[] #[], .nilFunc, mk] CodeT)
  have hs : w.heap.size ≤ (w.alloc (.cells #[.func (.func f) #[] #[], .nilFunc, mk] CodeT)).heap.size := bA.size
  have x0 := cellB (j := 0) hx rfl
  have x1 := cellB (j := 1) hx rfl
  have hob := Hold.below bA _ _ ho
  have y1 := cellB (j := 1) hob rfl
  have y2 := cellB (j := 2) hob rfl
  have HA := Lib.hid bA
  have HX1 := Lib.hid x1
  have HY2 := Lib.hid y2
  have hq := ne_nil
  have hqf := ne_fn f
  have BA := Lib.hid (fun W => below_any oa (i : Int) W)
  rw [hA] at BA
  clear hx bA hob ho hA
  go_enter Tryd.func65, Tryd.ntmps65
  go_upto_region 2 with fail
  generalize (w.alloc (.cells #[.func (.func f) #[] #[], .nilFunc, mk] CodeT)) = W at *
  go_wp2_with fail
  refine (BA.out _).mono ?_
  rintro e w1 ⟨rfl, rfl⟩
  go_wp2_with fail
  go_returns
  exact ⟨_, rfl, World.ownsRow_nil _ _ _ 1, HA.out⟩
set_option maxRecDepth 100000 in
set_option maxHeartbeats 1600000 in
theorem names_oo (ho : w.heap[ob]? = some (Obj.cells #[.int .i64 oc, .int .i64 oa, .int .i64 obb, .int .u64 on, .string os] OpT)) (mk : Value) (f : Nat) (hA : (decide (0 ≤ oa) && decide (oa < (i : Int))) = false) (h : Nat) (hB : (decide (0 ≤ obb) && decide (obb < (i : Int))) = false) :
    Calls Tryd.prog 65 #[.agg #[.func (.func f) #[] #[], .func (.func h) #[] #[], mk], .pointer (some ⟨ob, 0, none⟩), .int .i64 (i : Int)] w (NamesPost w ob []) := by
  have hx := heap_alloc_new w (.cells #[.func (.func f) #[] #[], .func (.func h) #[] #[], mk] CodeT)
  have bA := bA0 w (.cells #[.func (.func f) #[] #[], .func (.func h) #[] #[], mk] CodeT)
  have hs : w.heap.size ≤ (w.alloc (.cells #[.func (.func f) #[] #[], .func (.func h) #[] #[], mk] CodeT)).heap.size := bA.size
  have x0 := cellB (j := 0) hx rfl
  have x1 := cellB (j := 1) hx rfl
  have hob := Hold.below bA _ _ ho
  have y1 := cellB (j := 1) hob rfl
  have y2 := cellB (j := 2) hob rfl
  have HA := Lib.hid bA
  have HX1 := Lib.hid x1
  have HY2 := Lib.hid y2
  have hqf := ne_fn f
  have BA := Lib.hid (fun W => below_any oa (i : Int) W)
  rw [hA] at BA
  have hqh := ne_fn h
  have BB := Lib.hid (fun W => below_any obb (i : Int) W)
  rw [hB] at BB
  clear hx bA hob ho hA hB
  go_enter Tryd.func65, Tryd.ntmps65
  go_upto_region 2 with fail
  generalize (w.alloc (.cells #[.func (.func f) #[] #[], .func (.func h) #[] #[], mk] CodeT)) = W at *
  go_wp2_with fail
  refine (BA.out _).mono ?_
  rintro e w1 ⟨rfl, rfl⟩
  go_wp2_with fail
  refine (BB.out _).mono ?_
  rintro e w2 ⟨rfl, rfl⟩
  go_wp2_with fail
  go_returns
  exact ⟨_, rfl, World.ownsRow_nil _ _ _ 1, HA.out⟩
set_option maxRecDepth 100000 in
set_option maxHeartbeats 1600000 in
theorem names_oi (ho : w.heap[ob]? = some (Obj.cells #[.int .i64 oc, .int .i64 oa, .int .i64 obb, .int .u64 on, .string os] OpT)) (mk : Value) (f : Nat) (hA : (decide (0 ≤ oa) && decide (oa < (i : Int))) = false) (h : Nat) (hB : (decide (0 ≤ obb) && decide (obb < (i : Int))) = true) :
    Calls Tryd.prog 65 #[.agg #[.func (.func f) #[] #[], .func (.func h) #[] #[], mk], .pointer (some ⟨ob, 0, none⟩), .int .i64 (i : Int)] w (NamesPost w ob [2]) := by
  have hx := heap_alloc_new w (.cells #[.func (.func f) #[] #[], .func (.func h) #[] #[], mk] CodeT)
  have bA := bA0 w (.cells #[.func (.func f) #[] #[], .func (.func h) #[] #[], mk] CodeT)
  have hs : w.heap.size ≤ (w.alloc (.cells #[.func (.func f) #[] #[], .func (.func h) #[] #[], mk] CodeT)).heap.size := bA.size
  have x0 := cellB (j := 0) hx rfl
  have x1 := cellB (j := 1) hx rfl
  have hob := Hold.below bA _ _ ho
  have y1 := cellB (j := 1) hob rfl
  have y2 := cellB (j := 2) hob rfl
  have HA := Lib.hid bA
  have HX1 := Lib.hid x1
  have HY2 := Lib.hid y2
  have hqf := ne_fn f
  have BA := Lib.hid (fun W => below_any oa (i : Int) W)
  rw [hA] at BA
  have hqh := ne_fn h
  have BB := Lib.hid (fun W => below_any obb (i : Int) W)
  rw [hB] at BB
  clear hx bA hob ho hA hB
  go_enter Tryd.func65, Tryd.ntmps65
  go_upto_region 2 with fail
  generalize (w.alloc (.cells #[.func (.func f) #[] #[], .func (.func h) #[] #[], mk] CodeT)) = W at *
  go_wp2_with fail
  refine (BA.out _).mono ?_
  rintro e w1 ⟨rfl, rfl⟩
  go_wp2_with fail
  refine (BB.out _).mono ?_
  rintro e w2 ⟨rfl, rfl⟩
  go_upto_region 6 with (at_builtin; refine wpList_append_pt rfl _ _ rfl w.heap.size (.slice none 0 0) ob [] rfl (World.ownsRow_nil _ _ _ 1) _ 2 rfl (cellB (j := 0) (heap_alloc_new _ _) rfl) (by simp) (Nat.le_trans hs (bA0 _ _).size) ?_; intro v8 w8 hrow8 hg8)
  have g8 := bmore (bA0 W _) (grown_below hg8 (Nat.le_refl _) (fun k e => by simp [Value.ownBlock] at e))
  have HG8 := Lib.hid (bmore HA.out g8)
  have HR8 := Lib.hid hrow8
  obtain ⟨vb, vd, rfl⟩ := (row_of_own hrow8).shape
  clear hg8 g8 hrow8 x0 x1 y1 y2
  go_wp2_with fail
  go_returns
  exact ⟨_, rfl, HR8.out, HG8.out⟩
set_option maxRecDepth 100000 in
set_option maxHeartbeats 1600000 in
theorem names_in (ho : w.heap[ob]? = some (Obj.cells #[.int .i64 oc, .int .i64 oa, .int .i64 obb, .int .u64 on, .string os] OpT)) (mk : Value) (f : Nat) (hA : (decide (0 ≤ oa) && decide (oa < (i : Int))) = true) :
    Calls Tryd.prog 65 #[.agg #[.func (.func f) #[] #[], .nilFunc, mk], .pointer (some ⟨ob, 0, none⟩), .int .i64 (i : Int)] w (NamesPost w ob [1]) := by
  have hx := heap_alloc_new w (.cells #[.func (.func f) #[] #[], .nilFunc, mk] CodeT)
  have bA := bA0 w (.cells #[.func (.func f) #[] #[], .nilFunc, mk] CodeT)
  have hs : w.heap.size ≤ (w.alloc (.cells #[.func (.func f) #[] #[], .nilFunc, mk] CodeT)).heap.size := bA.size
  have x0 := cellB (j := 0) hx rfl
  have x1 := cellB (j := 1) hx rfl
  have hob := Hold.below bA _ _ ho
  have y1 := cellB (j := 1) hob rfl
  have y2 := cellB (j := 2) hob rfl
  have HA := Lib.hid bA
  have HX1 := Lib.hid x1
  have HY2 := Lib.hid y2
  have hq := ne_nil
  have hqf := ne_fn f
  have BA := Lib.hid (fun W => below_any oa (i : Int) W)
  rw [hA] at BA
  clear hx bA hob ho hA
  go_enter Tryd.func65, Tryd.ntmps65
  go_upto_region 2 with fail
  generalize (w.alloc (.cells #[.func (.func f) #[] #[], .nilFunc, mk] CodeT)) = W at *
  go_wp2_with fail
  refine (BA.out _).mono ?_
  rintro e w1 ⟨rfl, rfl⟩
  go_upto_region 4 with (at_builtin; refine wpList_append_pt rfl _ _ rfl w.heap.size (.slice none 0 0) ob [] rfl (World.ownsRow_nil _ _ _ 1) _ 1 rfl (cellB (j := 0) (heap_alloc_new _ _) rfl) (by simp) (Nat.le_trans hs (bA0 _ _).size) ?_; intro v9 w9 hrow9 hg9)
  have g9 := bmore (bA0 W _) (grown_below hg9 (Nat.le_refl _) (fun k e => by simp [Value.ownBlock] at e))
  have HG9 := Lib.hid g9
  have HR9 := Lib.hid hrow9
  obtain ⟨va, vc, rfl⟩ := (row_of_own hrow9).shape
  have hs9 : w.heap.size ≤ w9.heap.size := Nat.le_trans hs g9.size
  clear x0 x1 y1 y2 hg9
  have x1 := bcellAt g9 HX1.out
  have y2 := bcellAt g9 HY2.out
  clear g9 hrow9
  go_wp2_with fail
  go_returns
  exact ⟨_, rfl, HR9.out, bmore HA.out HG9.out⟩
set_option maxRecDepth 100000 in
set_option maxHeartbeats 1600000 in
theorem names_io (ho : w.heap[ob]? = some (Obj.cells #[.int .i64 oc, .int .i64 oa, .int .i64 obb, .int .u64 on, .string os] OpT)) (mk : Value) (f : Nat) (hA : (decide (0 ≤ oa) && decide (oa < (i : Int))) = true) (h : Nat) (hB : (decide (0 ≤ obb) && decide (obb < (i : Int))) = false) :
    Calls Tryd.prog 65 #[.agg #[.func (.func f) #[] #[], .func (.func h) #[] #[], mk], .pointer (some ⟨ob, 0, none⟩), .int .i64 (i : Int)] w (NamesPost w ob [1]) := by
  have hx := heap_alloc_new w (.cells #[.func (.func f) #[] #[], .func (.func h) #[] #[], mk] CodeT)
  have bA := bA0 w (.cells #[.func (.func f) #[] #[], .func (.func h) #[] #[], mk] CodeT)
  have hs : w.heap.size ≤ (w.alloc (.cells #[.func (.func f) #[] #[], .func (.func h) #[] #[], mk] CodeT)).heap.size := bA.size
  have x0 := cellB (j := 0) hx rfl
  have x1 := cellB (j := 1) hx rfl
  have hob := Hold.below bA _ _ ho
  have y1 := cellB (j := 1) hob rfl
  have y2 := cellB (j := 2) hob rfl
  have HA := Lib.hid bA
  have HX1 := Lib.hid x1
  have HY2 := Lib.hid y2
  have hqf := ne_fn f
  have BA := Lib.hid (fun W => below_any oa (i : Int) W)
  rw [hA] at BA
  have hqh := ne_fn h
  have BB := Lib.hid (fun W => below_any obb (i : Int) W)
  rw [hB] at BB
  clear hx bA hob ho hA hB
  go_enter Tryd.func65, Tryd.ntmps65
  go_upto_region 2 with fail
  generalize (w.alloc (.cells #[.func (.func f) #[] #[], .func (.func h) #[] #[], mk] CodeT)) = W at *
  go_wp2_with fail
  refine (BA.out _).mono ?_
  rintro e w1 ⟨rfl, rfl⟩
  go_upto_region 4 with (at_builtin; refine wpList_append_pt rfl _ _ rfl w.heap.size (.slice none 0 0) ob [] rfl (World.ownsRow_nil _ _ _ 1) _ 1 rfl (cellB (j := 0) (heap_alloc_new _ _) rfl) (by simp) (Nat.le_trans hs (bA0 _ _).size) ?_; intro v9 w9 hrow9 hg9)
  have g9 := bmore (bA0 W _) (grown_below hg9 (Nat.le_refl _) (fun k e => by simp [Value.ownBlock] at e))
  have HG9 := Lib.hid g9
  have HR9 := Lib.hid hrow9
  obtain ⟨va, vc, rfl⟩ := (row_of_own hrow9).shape
  have hs9 : w.heap.size ≤ w9.heap.size := Nat.le_trans hs g9.size
  clear x0 x1 y1 y2 hg9
  have x1 := bcellAt g9 HX1.out
  have y2 := bcellAt g9 HY2.out
  clear g9 hrow9
  go_wp2_with fail
  refine (BB.out _).mono ?_
  rintro e w2 ⟨rfl, rfl⟩
  go_wp2_with fail
  go_returns
  exact ⟨_, rfl, HR9.out, bmore HA.out HG9.out⟩
set_option maxRecDepth 100000 in
set_option maxHeartbeats 1600000 in
theorem names_ii (ho : w.heap[ob]? = some (Obj.cells #[.int .i64 oc, .int .i64 oa, .int .i64 obb, .int .u64 on, .string os] OpT)) (mk : Value) (f : Nat) (hA : (decide (0 ≤ oa) && decide (oa < (i : Int))) = true) (h : Nat) (hB : (decide (0 ≤ obb) && decide (obb < (i : Int))) = true) :
    Calls Tryd.prog 65 #[.agg #[.func (.func f) #[] #[], .func (.func h) #[] #[], mk], .pointer (some ⟨ob, 0, none⟩), .int .i64 (i : Int)] w (NamesPost w ob [1, 2]) := by
  have hx := heap_alloc_new w (.cells #[.func (.func f) #[] #[], .func (.func h) #[] #[], mk] CodeT)
  have bA := bA0 w (.cells #[.func (.func f) #[] #[], .func (.func h) #[] #[], mk] CodeT)
  have hs : w.heap.size ≤ (w.alloc (.cells #[.func (.func f) #[] #[], .func (.func h) #[] #[], mk] CodeT)).heap.size := bA.size
  have x0 := cellB (j := 0) hx rfl
  have x1 := cellB (j := 1) hx rfl
  have hob := Hold.below bA _ _ ho
  have y1 := cellB (j := 1) hob rfl
  have y2 := cellB (j := 2) hob rfl
  have HA := Lib.hid bA
  have HX1 := Lib.hid x1
  have HY2 := Lib.hid y2
  have hqf := ne_fn f
  have BA := Lib.hid (fun W => below_any oa (i : Int) W)
  rw [hA] at BA
  have hqh := ne_fn h
  have BB := Lib.hid (fun W => below_any obb (i : Int) W)
  rw [hB] at BB
  clear hx bA hob ho hA hB
  go_enter Tryd.func65, Tryd.ntmps65
  go_upto_region 2 with fail
  generalize (w.alloc (.cells #[.func (.func f) #[] #[], .func (.func h) #[] #[], mk] CodeT)) = W at *
  go_wp2_with fail
  refine (BA.out _).mono ?_
  rintro e w1 ⟨rfl, rfl⟩
  go_upto_region 4 with (at_builtin; refine wpList_append_pt rfl _ _ rfl w.heap.size (.slice none 0 0) ob [] rfl (World.ownsRow_nil _ _ _ 1) _ 1 rfl (cellB (j := 0) (heap_alloc_new _ _) rfl) (by simp) (Nat.le_trans hs (bA0 _ _).size) ?_; intro v9 w9 hrow9 hg9)
  have g9 := bmore (bA0 W _) (grown_below hg9 (Nat.le_refl _) (fun k e => by simp [Value.ownBlock] at e))
  have HG9 := Lib.hid g9
  have HR9 := Lib.hid hrow9
  obtain ⟨va, vc, rfl⟩ := (row_of_own hrow9).shape
  have hs9 : w.heap.size ≤ w9.heap.size := Nat.le_trans hs g9.size
  clear x0 x1 y1 y2 hg9
  have x1 := bcellAt g9 HX1.out
  have y2 := bcellAt g9 HY2.out
  clear g9 hrow9
  go_wp2_with fail
  refine (BB.out _).mono ?_
  rintro e w2 ⟨rfl, rfl⟩
  have HRB := Lib.hid (own_hold HR9.out (Hold.below (bA0 w9 (.cells #[.pointer (some ⟨ob, 2, none⟩)] PtT))))
  go_upto_region 6 with (at_builtin; refine wpList_append_pt rfl _ _ rfl w.heap.size _ ob ([] ++ [1]) rfl HRB.out _ 2 rfl (cellB (j := 0) (heap_alloc_new _ _) rfl) (by simp) (Nat.le_trans hs9 (bA0 _ _).size) ?_; intro v8 w8 hrow8 hg8)
  have g8 := grown_below (hg8) (Nat.le_trans hs9 (bA0 _ _).size) (fun k e => (own_type HRB.out e).1)
  have HG8 := Lib.hid (bmore (bmore HA.out HG9.out) (bA0 w9 (.cells #[.pointer (some ⟨ob, 2, none⟩)] PtT)) |>.trans g8)
  have HR8 := Lib.hid hrow8
  obtain ⟨vb, vd, rfl⟩ := (row_of_own hrow8).shape
  clear hg8 g8 hrow8 x1 y2
  go_wp2_with fail
  go_returns
  exact ⟨_, rfl, HR8.out, HG8.out⟩
end
theorem tab_a (c : Int) : ((tabP c).1 = none ∧ useA c = false) ∨ ∃ f, (tabP c).1 = some f ∧ useA c = true := by
  rcases (by omega : c = 0 ∨ c = 1 ∨ c = 2 ∨ c = 3 ∨ c = 4 ∨ c = 5 ∨ c = 6 ∨ c = 7 ∨ c = 8 ∨ c = 9 ∨ c = 10 ∨ c = 11 ∨ (c < 0 ∨ 11 < c)) with e | e | e | e | e | e | e | e | e | e | e | e | e
  iterate 4 (subst e; exact .inl ⟨rfl, rfl⟩)
  iterate 8 (subst e; exact .inr ⟨_, rfl, rfl⟩)
  refine .inl ⟨?_, ?_⟩
  · unfold tabP
    rw [if_neg (by omega), if_neg (by omega), if_neg (by omega), if_neg (by omega), if_neg (by omega), if_neg (by omega), if_neg (by omega), if_neg (by omega), if_neg (by omega), if_neg (by omega), if_neg (by omega), if_neg (by omega)]
  · simp only [useA, Bool.and_eq_false_iff, decide_eq_false_iff_not]; omega
theorem tab_b (c : Int) : ((tabP c).2.1 = none ∧ useB c = false) ∨ ∃ f, (tabP c).2.1 = some f ∧ useB c = true := by
  rcases (by omega : c = 0 ∨ c = 1 ∨ c = 2 ∨ c = 3 ∨ c = 4 ∨ c = 5 ∨ c = 6 ∨ c = 7 ∨ c = 8 ∨ c = 9 ∨ c = 10 ∨ c = 11 ∨ (c < 0 ∨ 11 < c)) with e | e | e | e | e | e | e | e | e | e | e | e | e
  iterate 4 (subst e; exact .inl ⟨rfl, rfl⟩)
  · subst e; exact .inr ⟨_, rfl, rfl⟩
  iterate 4 (subst e; exact .inl ⟨rfl, rfl⟩)
  iterate 3 (subst e; exact .inr ⟨_, rfl, rfl⟩)
  refine .inl ⟨?_, ?_⟩
  · unfold tabP
    rw [if_neg (by omega), if_neg (by omega), if_neg (by omega), if_neg (by omega), if_neg (by omega), if_neg (by omega), if_neg (by omega), if_neg (by omega), if_neg (by omega), if_neg (by omega), if_neg (by omega), if_neg (by omega)]
  · simp only [useB, Bool.or_eq_false_iff, Bool.and_eq_false_iff, decide_eq_false_iff_not, beq_eq_false_iff_ne]; omega
/-- The fields of an operation with this number in which it names one ahead of it. -/
def refsJ (o : OpP) (i : Nat) : List Nat := (if refA o i = true then [1] else []) ++ (if refB o i = true then [2] else [])
theorem names_any {w : World} {ob i : Nat} (o : OpP) (ho : w.heap[ob]? = some (Obj.cells #[.int .i64 o.code, .int .i64 o.a, .int .i64 o.b, .int .u64 o.num, .string o.text] OpT)) :
    Calls Tryd.prog 65 #[codeV (tabP o.code), .pointer (some ⟨ob, 0, none⟩), .int .i64 (i : Int)] w (NamesPost w ob (refsJ o i)) := by
  have e : codeV (tabP o.code) = .agg #[fnO (tabP o.code).1, fnO (tabP o.code).2.1, fnO (tabP o.code).2.2] := rfl
  rw [e]
  unfold refsJ refA refB
  generalize fnO (tabP o.code).2.2 = mk
  rcases tab_a o.code with ⟨h1, h2⟩ | ⟨f, h1, h2⟩ <;> rcases tab_b o.code with ⟨k1, k2⟩ | ⟨h, k1, k2⟩ <;> rw [h1, k1, h2, k2]
  · exact names_nn ho mk
  · cases hB : (decide (0 ≤ o.b) && decide (o.b < (i : Int)))
    · exact names_no ho mk h hB
    · exact names_ni ho mk h hB
  · cases hA : (decide (0 ≤ o.a) && decide (o.a < (i : Int)))
    · exact names_on ho mk f hA
    · exact names_in ho mk f hA
  · cases hA : (decide (0 ≤ o.a) && decide (o.a < (i : Int))) <;> cases hB : (decide (0 ≤ o.b) && decide (o.b < (i : Int)))
    · exact names_oo ho mk f hA h hB
    · exact names_oi ho mk f hA h hB
    · exact names_io ho mk f hA h hB
    · exact names_ii ho mk f hA h hB
end Go.Proofs.YtlckneajppfmbaaDoor
namespace Go.Proofs.YtlckneajppfmbaaDoor
open Go.RowKit Go.Maps
set_option linter.unusedVariables false

def fieldJ (o : OpP) (j : Nat) : Int := if j = 1 then o.a else o.b
def setJ (o : OpP) (j : Nat) (x : Int) : OpP := if j = 1 then ⟨o.code, x, o.b, o.num, o.text⟩ else ⟨o.code, o.a, x, o.num, o.text⟩
def markJ (o : OpP) (i : Nat) (f : Nat → Bool) (js : List Nat) : Nat → Bool := js.foldl (fun f j => orAt f (fieldJ o j).toNat (f i)) f
def movJ (now : Nat → Int) (o : OpP) (js : List Nat) : OpP := js.foldl (fun o j => setJ o j (now (fieldJ o j).toNat)) o
theorem markJ_all (o : OpP) (i : Nat) (f : Nat → Bool) : markJ o i f (refsJ o i) = mark1 f o i := by
  unfold refsJ mark1 markB markA
  cases refA o i <;> cases refB o i <;> rfl
theorem movJ_all (o : OpP) (i : Nat) (now : Nat → Int) : movJ now o (refsJ o i) = movP o i now := by
  unfold refsJ movP movA movB
  cases refA o i <;> cases refB o i <;> rfl
theorem refA_nat {o : OpP} {i : Nat} (h : refA o i = true) : ∃ x : Nat, o.a = (x : Int) ∧ x < i := by
  simp only [refA, Bool.and_eq_true, decide_eq_true_eq] at h
  exact ⟨o.a.toNat, by omega, by omega⟩
theorem refB_nat {o : OpP} {i : Nat} (h : refB o i = true) : ∃ x : Nat, o.b = (x : Int) ∧ x < i := by
  simp only [refB, Bool.and_eq_true, decide_eq_true_eq] at h
  exact ⟨o.b.toNat, by omega, by omega⟩
theorem refsJ_len (o : OpP) (i : Nat) : (refsJ o i).length ≤ 2 := by
  unfold refsJ
  split <;> split <;> simp
theorem markJ_at (o : OpP) (i : Nat) (f : Nat → Bool) {q : Nat} (hq : q < (refsJ o i).length) : ∃ j x : Nat, (refsJ o i)[q]? = some j ∧ (j = 1 ∨ j = 2) ∧ fieldJ o j = (x : Int) ∧ x < i ∧
    markJ o i f ((refsJ o i).take (q + 1)) = orAt (markJ o i f ((refsJ o i).take q)) x (markJ o i f ((refsJ o i).take q) i) := by
  have hst : ∀ (js : List Nat) (j x : Nat) (hq : q < js.length), js[q]? = some j → fieldJ o j = (x : Int) → markJ o i f (js.take (q + 1)) = orAt (markJ o i f (js.take q)) x (markJ o i f (js.take q) i) := fun js j x hq hj hx => by
    rw [List.take_add_one, hj]
    unfold markJ
    rw [List.foldl_append]
    simp only [Option.toList_some, List.foldl_cons, List.foldl_nil]
    rw [hx]
    rfl
  have hcase : ∃ j x : Nat, (refsJ o i)[q]? = some j ∧ (j = 1 ∨ j = 2) ∧ fieldJ o j = (x : Int) ∧ x < i := by
    unfold refsJ at hq ⊢
    by_cases hA : refA o i = true
    · obtain ⟨x, hx, hx2⟩ := refA_nat hA
      rw [if_pos hA] at hq ⊢
      cases q with
      | zero => exact ⟨1, x, rfl, .inl rfl, hx, hx2⟩
      | succ q =>
        by_cases hB : refB o i = true
        · obtain ⟨y, hy, hy2⟩ := refB_nat hB
          rw [if_pos hB] at hq ⊢
          obtain rfl : q = 0 := by simp at hq; omega
          exact ⟨2, y, rfl, .inr rfl, hy, hy2⟩
        · rw [if_neg hB] at hq
          simp at hq
    · rw [if_neg hA] at hq ⊢
      by_cases hB : refB o i = true
      · obtain ⟨y, hy, hy2⟩ := refB_nat hB
        rw [if_pos hB] at hq ⊢
        obtain rfl : q = 0 := by simp at hq; omega
        exact ⟨2, y, rfl, .inr rfl, hy, hy2⟩
      · rw [if_neg hB] at hq
        simp at hq
  obtain ⟨j, x, h1, h2, h3, h4⟩ := hcase
  exact ⟨j, x, h1, h2, h3, h4, hst _ j x hq h1 h3⟩
theorem movJ_at (o : OpP) (i : Nat) (now : Nat → Int) {q : Nat} (hq : q < (refsJ o i).length) : ∃ j x : Nat, (refsJ o i)[q]? = some j ∧ (j = 1 ∨ j = 2) ∧ fieldJ (movJ now o ((refsJ o i).take q)) j = (x : Int) ∧ x < i ∧
    movJ now o ((refsJ o i).take (q + 1)) = setJ (movJ now o ((refsJ o i).take q)) j (now x) := by
  unfold refsJ at hq ⊢
  by_cases hA : refA o i = true
  · obtain ⟨x, hx, hx2⟩ := refA_nat hA
    rw [if_pos hA] at hq ⊢
    cases q with
    | zero => exact ⟨1, x, rfl, .inl rfl, hx, hx2, by simp [movJ, setJ, fieldJ, hx]⟩
    | succ q =>
      by_cases hB : refB o i = true
      · obtain ⟨y, hy, hy2⟩ := refB_nat hB
        rw [if_pos hB] at hq ⊢
        obtain rfl : q = 0 := by simp at hq; omega
        exact ⟨2, y, rfl, .inr rfl, by simp [movJ, setJ, fieldJ, hy], hy2, by simp [movJ, setJ, fieldJ, hy]⟩
      · rw [if_neg hB] at hq
        simp at hq
  · rw [if_neg hA] at hq ⊢
    by_cases hB : refB o i = true
    · obtain ⟨y, hy, hy2⟩ := refB_nat hB
      rw [if_pos hB] at hq ⊢
      obtain rfl : q = 0 := by simp at hq; omega
      exact ⟨2, y, rfl, .inr rfl, by simp [movJ, fieldJ, hy], hy2, by simp [movJ, setJ, fieldJ, hy]⟩
    · rw [if_neg hB] at hq
      simp at hq
theorem movJ_code (now : Nat → Int) : ∀ (js : List Nat) (o : OpP), (movJ now o js).code = o.code ∧ (movJ now o js).num = o.num ∧ (movJ now o js).text = o.text
  | [], o => ⟨rfl, rfl, rfl⟩
  | j :: js, o => by
    obtain ⟨h1, h2, h3⟩ := movJ_code now js (setJ o j (now (fieldJ o j).toNat))
    unfold movJ at h1 h2 h3 ⊢
    rw [List.foldl_cons, h1, h2, h3]
    unfold setJ
    split <;> exact ⟨rfl, rfl, rfl⟩
/-- A row of the call's own stays where its block stays. -/
theorem own_blk {w w' : World} {base n size : Nat} {e : TypeId} {v : Value} {xs : List Value} (h : w.ownsRow base e size v n xs) (hk : ∀ j, v.ownBlock = some j → w'.heap[j]? = w.heap[j]?) : w'.ownsRow base e size v n xs := by
  obtain ⟨h0, h1⟩ := h
  refine ⟨h0, ?_⟩
  rcases h1 with h1 | ⟨b, cap, cur, rfl, h2, h3, h4⟩
  · exact .inl h1
  · exact .inr ⟨b, cap, cur, rfl, h2, (hk b rfl).trans h3, h4⟩
theorem codes_set {w : World} {cb n c x : Nat} {m : Int → Code3} {C : Array Value} {T : TypeId} {fr} {u : Value} (h : CodesP w cb n m) (hc : w.heap[c]? = some (Obj.cells C T fr)) : CodesP (w.setCell ⟨c, x, none⟩ u) cb n m :=
  h.same fun es k hm => by
    rw [Below.heap_setCell _ _ _ _ (fun e => by rw [e] at hm; rw [hc] at hm; cases hm)]
    exact hm
theorem IsCol.ext {w : World} {B sb n : Nat} {T : TypeId} {f g : Nat → Value} (h : IsCol w B sb n T f) (e : ∀ x, f x = g x) : IsCol w B sb n T g := by
  obtain ⟨C, h1, h2, h3⟩ := h.lay
  exact ⟨⟨C, h1, h2, fun x hx => by rw [h3 x hx, e]⟩, h.gs⟩
theorem IsCol.putB {w : World} {B sb n : Nat} {T : TypeId} {f : Nat → Bool} (h : IsCol w B sb n T (fun x => .bool (f x))) {x : Nat} (hx : x < n) (b : Bool) : IsCol (w.setCell ⟨sb, x, none⟩ (.bool b)) B sb n T (fun y => .bool (upF9 f x b y)) :=
  (h.put hx (.bool b)).ext fun y => by unfold upF9; split <;> rfl
theorem IsCol.putI {w : World} {B sb n : Nat} {T : TypeId} {f : Nat → Int} (h : IsCol w B sb n T (fun x => .int .i64 (f x))) {x : Nat} (hx : x < n) (b : Int) : IsCol (w.setCell ⟨sb, x, none⟩ (.int .i64 b)) B sb n T (fun y => .int .i64 (upF9 f x b y)) :=
  (h.put hx (.int .i64 b)).ext fun y => by unfold upF9; split <;> rfl
theorem row_oneO {w : World} {nb : Nat} {o : OpP} (h : w.heap[nb]? = some (Obj.cells #[.int .i64 o.code, .int .i64 o.a, .int .i64 o.b, .int .u64 o.num, .string o.text] OpT)) : Row w 5 (.slice (some ⟨nb, 0, none⟩) 1 1) 1 (opsV [o]) := by
  have hz : opsV [o] = [.int .i64 o.code, .int .i64 o.a, .int .i64 o.b, .int .u64 o.num, .string o.text] := by simp [opsV, opC]
  rw [hz]
  refine ⟨rfl, .inr ⟨nb, 0, 1, rfl, (Array.getElem?_eq_some_iff.1 h).1, Nat.le_refl _, by unfold maxLen; omega, fun j u hj => ?_⟩⟩
  refine cellB h ?_
  rw [Nat.zero_add]
  simpa using hj
end Go.Proofs.YtlckneajppfmbaaDoor
namespace Go.Proofs.YtlckneajppfmbaaDoor
open Go.RowKit Go.Maps
set_option linter.unusedVariables false

theorem wpList_append_opsF {w : World} {ops : Array Oper} {rest : List Oper} {o : Oper} {a : Act} {Q : Exit → Act → World → Prop} (hgd : o.guard = none) (s x : Operand)
    (ho : o.op = .call { callee := .builtin .append, args := #[s, x], argTypes := #[45, 45] })
    (base : Nat) (v : Value) (xs : List OpP) (hs : a.eval s = v) (hown : w.ownsRow base OpT 5 v xs.length (opsV xs)) (vx : Value) (l : List OpP) (hx : a.eval x = vx) (hrd : Row w 5 vx l.length (opsV l))
    (hlen : xs.length + l.length ≤ 1000000) (hbase : base ≤ w.heap.size)
    (h : ∀ v' w', w'.ownsRow base OpT 5 v' (xs ++ l).length (opsV (xs ++ l)) → w.grownBy w' v.ownBlock → wpList Tryd.prog ops Q rest (a.put o.dst v') w') : wpList Tryd.prog ops Q (o :: rest) a w :=
  wpList_plain hgd fun _ hK => wp_append_ops s x ho base v xs hs hown vx l hx hrd hlen hbase fun v' w' h1 h2 => hK _ _ (h v' w' h1 h2)
def TrimPost (w : World) (r : List OpP) (e : Ending) (w' : World) : Prop := ∃ v, e = .returned v ∧ w'.ownsRow w.heap.size OpT 5 v r.length (opsV r) ∧ Below w.heap.size w w'

set_option maxRecDepth 100000 in
set_option maxHeartbeats 12800000 in
theorem trim_any {w : World} {vl : Value} {l : List OpP} (hl : Row w 5 vl l.length (opsV l)) (hok : ∀ o ∈ l, OpOk o) (hlen : l.length ≤ 1000) : Calls Tryd.prog 30 #[vl] w (TrimPost w (trimP l)) := by
  obtain ⟨la, lc, rfl, hlx⟩ := hl.at2
  have HLX := Lib.hid hlx
  have HOK := Lib.hid hok
  clear hl hlx hok
  obtain ⟨n, hm⟩ : ∃ n, l.length = n := ⟨_, rfl⟩
  rw [hm]
  cases n with
  | zero =>
    obtain rfl := List.eq_nil_of_length_eq_zero hm
    clear HLX HOK hm
    go_enter Tryd.func30, Tryd.ntmps30
    go_wp2_with fail
    go_returns
    exact ⟨_, rfl, World.ownsRow_nil _ _ _ 5, Below.refl _ _⟩
  | succ m =>
  obtain ⟨n, hnm⟩ : ∃ n, n = m + 1 := ⟨_, rfl⟩
  rw [← hnm] at hm
  rw [← hnm]
  have HM := Lib.hid hm
  have hmb : n ≤ 1000 := by omega
  have h0 : ((n : Int) == 0) = false := by simp; omega
  have hm0 : (0 : Int) ≤ (n : Int) - 1 := by omega
  have hm1 : (n : Int) - 1 < (n : Int) := by omega
  have hmk := mk_bo9 (n := n) (by omega)
  have hmi := mk_in9 (n := n) (by omega)
  have HNM := Lib.hid hnm
  clear hm hnm
  go_enter Tryd.func30, Tryd.ntmps30
  go_wp2_with fail
  refine (codes_any w).mono ?_
  rintro e w1 ⟨rfl, c1, u1⟩
  have hB1 : w.heap.size ≤ w1.heap.size := u1.size
  have C2 := Lib.hid (c1.below (bA0 w1 (.cells (bo9 n) BoT9)))
  have P2 := Lib.hid (IsCol.bo w1 hB1 n)
  have U2 := Lib.hid (bmore u1 (bA0 w1 (.cells (bo9 n) BoT9)))
  clear c1 u1
  go_upto_region 5 with fail
  generalize (w1.alloc (.cells (bo9 n) BoT9)) = w2 at *
  generalize w1.heap.size = pb at *
  have p2 := P2.out.cell (x := n - 1) (by have := HNM.out; omega)
  have p2f := P2.out.warm (n - 1)
  have P3 := Lib.hid (P2.out.putB (f := fun _ => false) (x := n - 1) (by have := HNM.out; omega) true)
  have C3 := Lib.hid (by obtain ⟨C, h1, _⟩ := P2.out.lay; exact codes_set (x := n - 1) (u := .bool true) C2.out h1)
  have U3 := Lib.hid (U2.out.setCell (p := ⟨pb, n - 1, none⟩) P2.out.gs (.bool true))
  go_wp2_with fail
  generalize (w2.setCell ⟨pb, n - 1, none⟩ (.bool true)) = w3 at *
  clear p2 p2f P2 C2 U2
  go_loopw [5] (fun v5 wr => ∃ (j : Nat) (z : Int) (f : Nat → Bool), v5 = .int .i64 z ∧ z = (j : Int) - 1 ∧ j ≤ n ∧ markF l j f = partF l ∧ IsCol wr w.heap.size pb n BoT9 (fun x => .bool (f x)) ∧ CodesP wr w.heap.size 12 tabP ∧ Below w.heap.size w wr) (fun v _ => (intOf v + 1).toNat)
  case atStart => exact ⟨n, _, _, rfl, by omega, Nat.le_refl _, by
      unfold partF
      rw [HM.out]
      congr 1, P3.out, C3.out, U3.out⟩
  case round =>
    clear P3 C3 U3
    obtain ⟨j, z, f, rfl, hz, hj, hf, hp, hc, hb⟩ := hrel
    have HF := Lib.hid hf
    have HP := Lib.hid hp
    have HC := Lib.hid hc
    have HB := Lib.hid hb
    have hBr : w.heap.size ≤ wr.heap.size := hb.size
    have hpb : pb < wr.heap.size := hp.lt
    clear hf hp hc
    cases j with
    | succ k =>
      obtain rfl : z = (k : Int) := by omega
      clear hz
      have hk : k < l.length := by rw [HM.out]; omega
      obtain ⟨lb, lo, rfl, qq⟩ := HLX.out (by rw [HM.out]; omega)
      obtain ⟨a0, a1, a2, a3, a4⟩ := opsV_at l k hk
      have c0 := bcellAt hb (qq _ _ a0)
      have c1 := bcellAt hb (qq _ _ a1)
      have c2 := bcellAt hb (qq _ _ a2)
      have c3 := bcellAt hb (qq _ _ a3)
      have c4 := bcellAt hb (qq _ _ a4)
      simp only [← Nat.add_assoc] at c1 c2 c3 c4
      have hoo := HOK.out _ (List.getElem_mem hk)
      have hgd : l.getD k zeroO = l[k] := by rw [List.getD_eq_getElem?_getD, List.getElem?_eq_getElem hk]; rfl
      have hf := HF.out
      unfold markF at hf
      rw [hgd, ← markJ_all] at hf
      have HF2 := Lib.hid hf
      have hk0 : (0 : Int) ≤ (k : Int) := by omega
      have hk1 : (k : Int) < (n : Int) := by omega
      clear qq a0 a1 a2 a3 a4 hb hgd hf HF
      generalize l[k] = o at *
      have HOO := Lib.hid hoo
      have NM := Lib.hid (fun (W : World) (h : W.heap[wr.heap.size]? = some (Obj.cells #[.int .i64 o.code, .int .i64 o.a, .int .i64 o.b, .int .u64 o.num, .string o.text] OpT)) => names_any (i := k) o h)
      have bO := bA0 wr (.cells #[.int .i64 o.code, .int .i64 o.a, .int .i64 o.b, .int .u64 o.num, .string o.text] OpT)
      have hO := heap_alloc_new wr (.cells #[.int .i64 o.code, .int .i64 o.a, .int .i64 o.b, .int .u64 o.num, .string o.text] OpT)
      have y0 := cellB (j := 0) hO rfl
      have hlk := (HC.out.below bO).look hoo.code
      have HO := Lib.hid hO
      have HBO := Lib.hid bO
      clear hoo bO hO
      generalize codeV (tabP o.code) = cd at *
      go_wp2_with fail
      refine (NM.out _ HO.out).mono ?_
      rintro e w4 ⟨pv, rfl, hpv, u4⟩
      obtain ⟨pa, pc, rfl, _⟩ := (row_of_own hpv).at
      have hjl := refsJ_len o k
      have hpo : wr.heap.size ≤ (wr.alloc (.cells #[.int .i64 o.code, .int .i64 o.a, .int .i64 o.b, .int .u64 o.num, .string o.text] OpT)).heap.size := HBO.out.size
      have b4 := (HB.out.trans ((bmore HBO.out u4).mono hBr))
      have HPV := Lib.hid hpv
      have HO4 := Lib.hid (Hold.below u4 _ _ HO.out)
      have HC4 := Lib.hid ((HC.out.below HBO.out).below u4)
      have HP4 := Lib.hid ((HP.out.below HBO.out).below u4)
      have HB4 := Lib.hid b4
      clear hpv u4 b4 y0 hlk c0 c1 c2 c3 c4 HO HBO HB HC HP NM
      generalize (wr.alloc (.cells #[.int .i64 o.code, .int .i64 o.a, .int .i64 o.b, .int .u64 o.num, .string o.text] OpT)) = w3x at *
      generalize wr.heap.size = ob at *
      go_wp2_with fail
      go_loopw [45] (fun v45 wq => ∃ q : Nat, v45 = .int .i64 (q : Int) ∧ q ≤ (refsJ o k).length ∧ IsCol wq w.heap.size pb n BoT9 (fun x => .bool (markJ o k f ((refsJ o k).take q) x)) ∧ CodesP wq w.heap.size 12 tabP ∧ wq.heap[ob]? = some (Obj.cells #[.int .i64 o.code, .int .i64 o.a, .int .i64 o.b, .int .u64 o.num, .string o.text] OpT) ∧ wq.ownsRow w3x.heap.size PtT 1 (.slice pa (refsJ o k).length pc) (refsJ o k).length (ptV ob (refsJ o k)) ∧ Below w.heap.size w wq) (fun v _ => (refsJ o k).length - (intOf v).toNat)
      case atStart => exact ⟨0, rfl, Nat.zero_le _, HP4.out, HC4.out, HO4.out, HPV.out, HB4.out⟩
      case round =>
        clear HPV HO4 HC4 HP4 HB4
        obtain ⟨q, rfl, hq, hp, hc, ho, hr, hb⟩ := hrel
        have HP := Lib.hid hp
        have HC := Lib.hid hc
        have HO := Lib.hid ho
        have HR := Lib.hid hr
        have HB := Lib.hid hb
        by_cases hlt : q < (refsJ o k).length
        · obtain ⟨jj, x, hj1, hj2, hj3, hj4, hj5⟩ := markJ_at o k f hlt
          obtain ⟨pa', pc', he, hx⟩ := (row_of_own hr).at
          cases he
          obtain ⟨qb, qo, rfl, qc⟩ := hx (by omega)
          have z0 := qc q _ (show (ptV ob (refsJ o k))[q]? = some (.pointer (some ⟨ob, jj, none⟩)) by unfold ptV; rw [List.getElem?_map, hj1]; rfl)
          have zx : wr.cell? ⟨ob, jj, none⟩ = some (.int .i64 (x : Int)) := by
            rw [← hj3]
            rcases hj2 with rfl | rfl
            · exact cellB (j := 1) ho rfl
            · exact cellB (j := 2) ho rfl
          have hM := Lib.hid hj5
          have hxn : x < n := by omega
          generalize markJ o k f ((refsJ o k).take q) = F at *
          have pf := hp.cell (x := x) hxn
          have pw := hp.warm x
          have pk := hp.cell (x := k) (by omega)
          have hq0 : (0 : Int) ≤ (q : Int) := by omega
          have hq1 : (q : Int) < ((refsJ o k).length : Int) := by omega
          have hx0 : (0 : Int) ≤ (x : Int) := by omega
          have hx1 : (x : Int) < (n : Int) := by omega
          have HPU := Lib.hid (fun (v : Bool) (hv : (F x || F k) = v) => show IsCol (wr.setCell ⟨pb, x, none⟩ (.bool v)).drew w.heap.size pb n BoT9 (fun y => .bool (markJ o k f ((refsJ o k).take (q + 1)) y)) from by
            rw [hM.out]; subst hv
            exact ((HP.out.putB hxn _).ext (fun y => rfl)).below (bd _))
          have HCU := Lib.hid (fun (v : Value) => show CodesP (wr.setCell ⟨pb, x, none⟩ v).drew w.heap.size 12 tabP from by
            obtain ⟨C, h1, _⟩ := HP.out.lay
            exact (codes_set (x := x) (u := v) HC.out h1).below (bd _))
          have HOU := Lib.hid (fun (v : Value) => show (wr.setCell ⟨pb, x, none⟩ v).drew.heap[ob]? = _ from Hold.below (bd _) _ _ (HP.out.still (T' := OpT) (by decide) x v _ _ HO.out))
          have HRU := Lib.hid (fun (v : Value) => show (wr.setCell ⟨pb, x, none⟩ v).drew.ownsRow _ PtT 1 _ _ _ from own_hold (own_hold HR.out (HP.out.still (T' := PtT) (by decide) x v)) (Hold.below (bd _)))
          have HBU := Lib.hid (fun (v : Value) => show Below w.heap.size w (wr.setCell ⟨pb, x, none⟩ v).drew from (HB.out.setCell (p := ⟨pb, x, none⟩) HP.out.gs v).drew)
          clear hp hc ho hr hb hx qc hj1 hj5 hj3 HP HC HO HR HB
          go_wp2_with fail
          cases hFx : F x with
          | true =>
            rw [hFx] at pf
            have HPV := Lib.hid (HPU.out true (by rw [hFx]; rfl))
            clear HPU hFx
            go_region
            go_wp2_with fail
            go_roundw
            case rel => exact ⟨q + 1, by go_num, by omega, HPV.out, HCU.out _, HOU.out _, HRU.out _, HBU.out _⟩
            case measure => simp [intOf] <;> omega
          | false =>
            rw [hFx] at pf
            have HPV := Lib.hid (HPU.out (F k) (by rw [hFx]; rfl))
            clear HPU hFx
            go_region
            go_wp2_with fail
            go_roundw
            case rel => exact ⟨q + 1, by go_num, by omega, HPV.out, HCU.out _, HOU.out _, HRU.out _, HBU.out _⟩
            case measure => simp [intOf] <;> omega
        · obtain rfl : q = (refsJ o k).length := by omega
          have HF3 : Hid (IsCol wr w.heap.size pb n BoT9 (fun x => .bool (markJ o k f (refsJ o k) x))) := Lib.hid (by have h := HP.out; rwa [List.take_of_length_le (Nat.le_refl _)] at h)
          clear hp hc ho hr hb hlt
          go_wp2_with fail
          go_roundw
          case rel => exact ⟨k, (k : Int) - 1, _, by go_num, rfl, by omega, HF2.out, HF3.out, HC.out, HB.out⟩
          case measure => simp [intOf] <;> omega
    | zero =>
      have hz0 : decide ((0 : Int) ≤ z) = false := decide_eq_false (by omega)
      have hfz : f = partF l := HF.out
      subst hfz
      have N0 := Lib.hid (IsCol.int wr hBr n)
      have P0 := Lib.hid (HP.out.below (bA0 wr (.cells (in9 n) IntT9)))
      have C0 := Lib.hid (HC.out.below (bA0 wr (.cells (in9 n) IntT9)))
      have B0 := Lib.hid (HB.out.trans ((bA0 wr (.cells (in9 n) IntT9)).mono hBr))
      have hnb : pb < wr.heap.size := hpb
      clear hb HP HC HB HF hz hj hmk hm0 hm1
      go_wp2_with fail
      generalize (wr.alloc (.cells (in9 n) IntT9)) = wa at *
      generalize wr.heap.size = nb at *
      clear hpb hBr
      go_loopw [72, 9] (fun v72 v9 wq => ∃ (i : Nat) (now : Nat → Int) (kept : List OpP), v72 = .int .i64 (i : Int) ∧ i ≤ n ∧ keepP (partF l) (l.drop i) i now kept = trimP l ∧ (∀ x, i64R (now x)) ∧ kept.length ≤ i ∧ IsCol wq w.heap.size pb n BoT9 (fun x => .bool (partF l x)) ∧ IsCol wq w.heap.size nb n IntT9 (fun x => .int .i64 (now x)) ∧ CodesP wq w.heap.size 12 tabP ∧ wq.ownsRow w.heap.size OpT 5 v9 kept.length (opsV kept) ∧ Below w.heap.size w wq) (fun v _ _ => n - (intOf v).toNat)
      case atStart => exact ⟨0, fun _ => 0, [], rfl, Nat.zero_le _, by
          have h1 := HM.out
          have h2 := HNM.out
          unfold trimP
          rw [if_neg (fun e => by rw [e] at h1; simp at h1; omega), List.drop_zero], fun x => by unfold i64R; simp, Nat.le_refl _, P0.out, N0.out, C0.out, World.ownsRow_nil _ _ _ 5, B0.out⟩
      case round =>
        clear P0 N0 C0 B0
        obtain ⟨i, now, kept, rfl, hi, hkp, hnow, hkl, hp, hn, hc, hr, hb⟩ := hrel
        have HKP := Lib.hid hkp
        have HNW := Lib.hid hnow
        have HP := Lib.hid hp
        have HN := Lib.hid hn
        have HC := Lib.hid hc
        have HR := Lib.hid hr
        have HB := Lib.hid hb
        have hBr : w.heap.size ≤ wr.heap.size := hb.size
        have hpl := hp.lt
        have hnl := hn.lt
        have hkb := own_lt hr
        have HKB := Lib.hid hkb
        obtain ⟨ka, kc, rfl⟩ := (row_of_own hr).shape
        by_cases hlt : i < n
        · have hil : i < l.length := by rw [HM.out]; exact hlt
          obtain ⟨lb, lo, rfl, qq⟩ := HLX.out (by rw [HM.out]; omega)
          obtain ⟨a0, a1, a2, a3, a4⟩ := opsV_at l i hil
          have c0 := bcellAt hb (qq _ _ a0)
          have c1 := bcellAt hb (qq _ _ a1)
          have c2 := bcellAt hb (qq _ _ a2)
          have c3 := bcellAt hb (qq _ _ a3)
          have c4 := bcellAt hb (qq _ _ a4)
          simp only [← Nat.add_assoc] at c1 c2 c3 c4
          have hoo := HOK.out _ (List.getElem_mem hil)
          have hdr : l.drop i = l[i] :: l.drop (i + 1) := List.drop_eq_getElem_cons hil
          rw [hdr] at hkp
          unfold keepP at hkp
          have HKQ := Lib.hid hkp
          have hi0 : (0 : Int) ≤ (i : Int) := by omega
          have hi1 : (i : Int) < (n : Int) := by omega
          have pk := (hp.below (bA0 wr (.cells #[.int .i64 l[i].code, .int .i64 l[i].a, .int .i64 l[i].b, .int .u64 l[i].num, .string l[i].text] OpT))).cell (x := i) (by omega)
          clear qq a0 a1 a2 a3 a4 hdr hkp hp hn hc hr hb hnow hkb HKP
          generalize l[i] = o at *
          have bO := bA0 wr (.cells #[.int .i64 o.code, .int .i64 o.a, .int .i64 o.b, .int .u64 o.num, .string o.text] OpT)
          have hO := heap_alloc_new wr (.cells #[.int .i64 o.code, .int .i64 o.a, .int .i64 o.b, .int .u64 o.num, .string o.text] OpT)
          have y0 := cellB (j := 0) hO rfl
          have hlk := (HC.out.below bO).look hoo.code
          have NM := Lib.hid (names_any (i := i) o hO)
          have HO := Lib.hid hO
          have HBO := Lib.hid bO
          have hpo : wr.heap.size ≤ (wr.alloc (.cells #[.int .i64 o.code, .int .i64 o.a, .int .i64 o.b, .int .u64 o.num, .string o.text] OpT)).heap.size := bO.size
          clear hoo bO hO
          generalize codeV (tabP o.code) = cd at *
          go_upto_region 20 with fail
          cases hpi : partF l i with
          | false =>
            have hkq := HKQ.out
            rw [hpi] at hkq pk
            rw [if_neg (by decide)] at hkq
            have HKQ2 := Lib.hid hkq
            clear hkq HKQ hpi
            go_wp2_with fail
            go_roundw
            case rel => exact ⟨i + 1, now, kept, by go_num, by omega, HKQ2.out, HNW.out, by omega, HP.out.below HBO.out, HN.out.below HBO.out, HC.out.below HBO.out, own_hold HR.out (Hold.below HBO.out), HB.out.trans (HBO.out.mono hBr)⟩
            case measure => simp [intOf] <;> omega
          | true =>
            have hkq := HKQ.out
            rw [hpi] at hkq pk
            rw [if_pos rfl] at hkq
            have HKQ2 := Lib.hid hkq
            clear hkq HKQ hpi
            go_wp2_with fail
            refine NM.out.mono ?_
            rintro e w4 ⟨pv, rfl, hpv, u4⟩
            obtain ⟨pa, pc, rfl, _⟩ := (row_of_own hpv).at
            have hjl := refsJ_len o i
            have b4 := (HB.out.trans ((bmore HBO.out u4).mono hBr))
            have HPV := Lib.hid hpv
            have HO4 := Lib.hid (Hold.below u4 _ _ HO.out)
            have HC4 := Lib.hid ((HC.out.below HBO.out).below u4)
            have HP4 := Lib.hid ((HP.out.below HBO.out).below u4)
            have HN4 := Lib.hid ((HN.out.below HBO.out).below u4)
            have HR4 := Lib.hid (own_hold HR.out ((Hold.below HBO.out).trans (Hold.below u4)))
            have HB4 := Lib.hid b4
            clear hpv u4 b4 y0 hlk c0 c1 c2 c3 c4 pk HO HBO HB HC HP HN HR NM
            generalize (wr.alloc (.cells #[.int .i64 o.code, .int .i64 o.a, .int .i64 o.b, .int .u64 o.num, .string o.text] OpT)) = w3x at *
            generalize wr.heap.size = ob at *
            go_wp2_with fail
            go_loopw [89] (fun v89 wq => ∃ q : Nat, v89 = .int .i64 (q : Int) ∧ q ≤ (refsJ o i).length ∧ wq.heap[ob]? = some (Obj.cells (opA (movJ now o ((refsJ o i).take q))) OpT) ∧ IsCol wq w.heap.size pb n BoT9 (fun x => .bool (partF l x)) ∧ IsCol wq w.heap.size nb n IntT9 (fun x => .int .i64 (now x)) ∧ CodesP wq w.heap.size 12 tabP ∧ wq.ownsRow w3x.heap.size PtT 1 (.slice pa (refsJ o i).length pc) (refsJ o i).length (ptV ob (refsJ o i)) ∧ wq.ownsRow w.heap.size OpT 5 (.slice ka kept.length kc) kept.length (opsV kept) ∧ Below w.heap.size w wq) (fun v _ => (refsJ o i).length - (intOf v).toNat)
            case atStart => exact ⟨0, rfl, Nat.zero_le _, HO4.out, HP4.out, HN4.out, HC4.out, HPV.out, HR4.out, HB4.out⟩
            case round =>
              clear HPV HO4 HC4 HP4 HN4 HR4 HB4
              obtain ⟨q, rfl, hq, ho, hp, hn, hc, hpr, hr, hb⟩ := hrel
              have HO := Lib.hid ho
              have HP := Lib.hid hp
              have HN := Lib.hid hn
              have HC := Lib.hid hc
              have HPR := Lib.hid hpr
              have HR := Lib.hid hr
              have HB := Lib.hid hb
              by_cases hltq : q < (refsJ o i).length
              · obtain ⟨jj, x, hj1, hj2, hj3, hj4, hj5⟩ := movJ_at o i now hltq
                obtain ⟨pa', pc', he, hx⟩ := (row_of_own hpr).at
                cases he
                obtain ⟨qb, qo, rfl, qc⟩ := hx (by omega)
                have z0 := qc q _ (show (ptV ob (refsJ o i))[q]? = some (.pointer (some ⟨ob, jj, none⟩)) by unfold ptV; rw [List.getElem?_map, hj1]; rfl)
                have hM := Lib.hid hj5
                have hxn : x < n := by omega
                generalize movJ now o ((refsJ o i).take q) = oq at *
                have zx : wr.cell? ⟨ob, jj, none⟩ = some (.int .i64 (x : Int)) := by
                  rw [← hj3]
                  rcases hj2 with rfl | rfl
                  · exact cellB (j := 1) ho rfl
                  · exact cellB (j := 2) ho rfl
                have zf : wr.frozen? ⟨ob, jj, none⟩ = false := frozenB (j := jj) ho
                have np := hn.cell (x := x) hxn
                have hq0 : (0 : Int) ≤ (q : Int) := by omega
                have hq1 : (q : Int) < ((refsJ o i).length : Int) := by omega
                have hx0 : (0 : Int) ≤ (x : Int) := by omega
                have hx1 : (x : Int) < (n : Int) := by omega
                have HOU : Hid ((wr.setCell ⟨ob, jj, none⟩ (.int .i64 (now x))).heap[ob]? = some (Obj.cells (opA (movJ now o ((refsJ o i).take (q + 1)))) OpT)) := Lib.hid (by
                  rw [hM.out]
                  have h := setCellB (j := jj) (u := .int .i64 (now x)) ho
                  rw [h]
                  rcases hj2 with rfl | rfl <;> simp [opA, setJ])
                have HPU := Lib.hid (hp.hold (Hold.setCell (o := jj) (v := .int .i64 (now x)) ho (T := BoT9) (by decide)))
                have HNU := Lib.hid (hn.hold (Hold.setCell (o := jj) (v := .int .i64 (now x)) ho (T := IntT9) (by decide)))
                have HCU := Lib.hid (codes_set (x := jj) (u := .int .i64 (now x)) hc ho)
                have HPRU := Lib.hid (own_hold hpr (Hold.setCell (o := jj) (v := .int .i64 (now x)) ho (T := PtT) (by decide)))
                have HRU := Lib.hid (own_blk hr (w' := wr.setCell ⟨ob, jj, none⟩ (.int .i64 (now x))) (fun r hrr => Below.heap_setCell _ _ _ _ (fun e => by have := HKB.out r hrr; first | omega | (simp only at e; omega))))
                have HBU := Lib.hid (hb.setCell (p := ⟨ob, jj, none⟩) hBr (.int .i64 (now x)))
                clear hp hn hc ho hr hpr hb hx qc hj1 hj5 hj3 HP HN HC HO HR HPR HB
                go_wp2_with fail
                go_roundw
                case rel => exact ⟨q + 1, by go_num, by omega, HOU.out, HPU.out, HNU.out, HCU.out, HPRU.out, HRU.out, HBU.out⟩
                case measure => simp [intOf] <;> omega
              · obtain rfl : q = (refsJ o i).length := by omega
                have HO5 : Hid (wr.heap[ob]? = some (Obj.cells (opA (movP o i now)) OpT)) := Lib.hid (by rw [List.take_of_length_le (Nat.le_refl _), movJ_all] at ho; exact ho)
                obtain ⟨om, hom⟩ : ∃ om, movP o i now = om := ⟨_, rfl⟩
                rw [hom] at HO5 HKQ2
                have nc := hn.cell (x := i) (by omega)
                have nw := hn.warm i
                have HN1 := Lib.hid (hn.putI (x := i) (by omega) (kept.length : Int))
                have HP1 := Lib.hid (hp.hold (hn.still (T' := BoT9) (by decide) i (.int .i64 (kept.length : Int))))
                have HC1 : Hid (CodesP (wr.setCell ⟨nb, i, none⟩ (.int .i64 (kept.length : Int))) w.heap.size 12 tabP) := Lib.hid (by obtain ⟨C, h1, _⟩ := hn.lay; exact codes_set (x := i) hc h1)
                have HO6 := Lib.hid (hn.still (T' := OpT) (by decide) i (.int .i64 (kept.length : Int)) _ _ HO5.out)
                have HR1 := Lib.hid (own_hold hr (hn.still (T' := OpT) (by decide) i (.int .i64 (kept.length : Int))))
                have HB1 := Lib.hid (hb.setCell (p := ⟨nb, i, none⟩) hn.gs (.int .i64 (kept.length : Int)))
                clear hp hn hc ho hr hpr hb HP HN HC HO HR HPR HB hltq hq HO5
                go_upto_region 27 with fail
                generalize (wr.setCell ⟨nb, i, none⟩ (.int .i64 (kept.length : Int))) = w5 at *
                have y0 : w5.cell? ⟨ob, 0, none⟩ = some (.int .i64 om.code) := cellB (j := 0) HO6.out rfl
                have y1 : w5.cell? ⟨ob, 1, none⟩ = some (.int .i64 om.a) := cellB (j := 1) HO6.out rfl
                have y2 : w5.cell? ⟨ob, 2, none⟩ = some (.int .i64 om.b) := cellB (j := 2) HO6.out rfl
                have y3 : w5.cell? ⟨ob, 3, none⟩ = some (.int .u64 om.num) := cellB (j := 3) HO6.out rfl
                have y4 : w5.cell? ⟨ob, 4, none⟩ = some (.string om.text) := cellB (j := 4) HO6.out rfl
                have hA := bA0 w5 (.cells #[.int .i64 om.code, .int .i64 om.a, .int .i64 om.b, .int .u64 om.num, .string om.text] OpT)
                have HA := Lib.hid hA
                have HR2 := Lib.hid (own_hold HR1.out (Hold.below hA))
                have hb5 : w.heap.size ≤ w5.heap.size := HB1.out.size
                clear hA nc nw
                go_wp2_with (at_builtin; refine wpList_append_opsF rfl _ _ rfl w.heap.size (.slice ka kept.length kc) kept rfl HR2.out _ [om] rfl (row_oneO (heap_alloc_new _ _)) (by simp; omega) (Nat.le_trans hb5 (bA0 _ _).size) ?_; intro v9 w9 hrow9 hg9; obtain ⟨sa, sc, rfl⟩ := (row_of_own hrow9).shape; have HG9 := Lib.hid hg9; have HR9 := Lib.hid hrow9; clear hg9 hrow9)
                have hT : ∀ T, T ≠ OpT → Hold T w5 w9 := fun T h => (Hold.below HA.out).trans (hold_row HR2.out HG9.out h)
                have HC9 : Hid (CodesP w9 w.heap.size 12 tabP) := Lib.hid (HC1.out.same (fun es c hm => map_row HR2.out HG9.out ((HA.out.block _ (Array.getElem?_eq_some_iff.1 hm).1).trans hm)))
                have HB9 := Lib.hid ((HB1.out.trans (HA.out.mono hb5)).trans (grown_below HG9.out (Nat.le_trans hb5 (bA0 _ _).size) (fun k e => (own_type HR2.out e).1)))
                have HP9 := Lib.hid (HP1.out.hold (hT _ (by decide)))
                have HN9 := Lib.hid (HN1.out.hold (hT _ (by decide)))
                have HNW9 : Hid (∀ y, i64R (upF9 now i (kept.length : Int) y)) := Lib.hid (fun y => by
                  unfold upF9
                  split
                  · unfold i64R; omega
                  · exact HNW.out y)
                clear hT
                go_roundw
                case rel => exact ⟨i + 1, _, kept ++ [om], by go_num, by omega, HKQ2.out, HNW9.out, by simp; omega, HP9.out, HN9.out, HC9.out, by have h := HR9.out; simp only [List.length_append, List.length_cons, List.length_nil, Nat.zero_add] at h ⊢; exact h, HB9.out⟩
                case measure => simp [intOf] <;> omega
        · obtain rfl : i = n := by omega
          have hkp := HKP.out
          rw [List.drop_eq_nil_of_le (by rw [HM.out]; exact Nat.le_refl _)] at hkp
          have hkq : kept = trimP l := hkp
          clear hp hn hc hr hb hnow hkb HKP HNW
          go_wp2_with fail
          go_returns
          exact ⟨.slice ka kept.length kc, rfl, by rw [← hkq]; exact HR.out, HB.out⟩
end Go.Proofs.YtlckneajppfmbaaDoor
namespace Go.Proofs.YtlckneajppfmbaaDoor
open Go.RowKit Go.Maps
set_option linter.unusedVariables false

def oneB (c : Int) : Bool := decide (4 ≤ c) && decide (c ≤ 11)
def twoB9 (c : Int) : Bool := (c == 4) || (decide (9 ≤ c) && decide (c ≤ 11))
theorem one_any (c : Int) (w : World) : Calls Tryd.prog 66 #[.int .i64 c] w fun e w' => e = .returned (.bool (oneB c)) ∧ w = w' := by
  unfold oneB
  by_cases h : 4 ≤ c
  · rw [decide_eq_true h, Bool.true_and]
    cases hd : decide (c ≤ 11)
    all_goals
      go_enter Tryd.func66, Tryd.ntmps66
      go_wp2_with fail
      go_returns
      exact ⟨by simp, rfl⟩
  · have h' : decide (4 ≤ c) = false := decide_eq_false h
    rw [h', Bool.false_and]
    go_enter Tryd.func66, Tryd.ntmps66
    go_wp2_with fail
    go_returns
    exact ⟨rfl, rfl⟩
theorem two9_any (c : Int) (w : World) : Calls Tryd.prog 67 #[.int .i64 c] w fun e w' => e = .returned (.bool (twoB9 c)) ∧ w = w' := by
  unfold twoB9
  cases h4 : (c == 4)
  · rw [Bool.false_or]
    by_cases h : 9 ≤ c
    · rw [decide_eq_true h, Bool.true_and]
      cases hd : decide (c ≤ 11)
      all_goals
        go_enter Tryd.func67, Tryd.ntmps67
        go_wp2_with fail
        go_returns
        exact ⟨by simp, rfl⟩
    · have h' : decide (9 ≤ c) = false := decide_eq_false h
      rw [h', Bool.false_and]
      go_enter Tryd.func67, Tryd.ntmps67
      go_wp2_with fail
      go_returns
      exact ⟨rfl, rfl⟩
  · rw [Bool.true_or]
    go_enter Tryd.func67, Tryd.ntmps67
    go_wp2_with fail
    go_returns
    exact ⟨rfl, rfl⟩
def litsO (z : OpP) : List Lit := [.int .i64 z.code, .int .i64 z.a, .int .i64 z.b, .int .u64 z.num, .string z.text.data.toList]
set_option maxRecDepth 100000 in
theorem keyO_of {z : OpP} (h : OpOk z) : Tryd.prog.keyLits 3 OpT (Value.agg (opA z)).cells.toList = some (litsO z) := by
  have hu := Tryd.underlying98
  have u3 := Tryd.underlying3
  have u31 := Tryd.underlying25
  have u9 := Tryd.underlying9
  have c33 : Tryd.prog.cellsOf OpT = 5 := by kernel_rfl
  have c3 : Tryd.prog.cellsOf 3 = 1 := by kernel_rfl
  have c31 : Tryd.prog.cellsOf 25 = 1 := by kernel_rfl
  have c9 : Tryd.prog.cellsOf 9 = 1 := by kernel_rfl
  simp [Program.keyLits, hu, u3, u31, u9, c33, c3, c31, c9, opA, Value.cells, litsO, wf_i64 h.code, wf_i64 h.a, wf_i64 h.b, wf_u64 h.num, h.text]
theorem formedO (z : OpP) : (Value.agg (opA z)).formed Tryd.prog OpT = true := by
  have hu := Tryd.underlying98
  have c33 : Tryd.prog.cellsOf OpT = 5 := by kernel_rfl
  simp [Value.formed, hu, c33, opA]
/-- An operation is itself. -/
theorem neq_op {x : OpP} (hx : OpOk x) (W : World) : (binOp .neq OpT (.agg (opA x)) (.agg (opA x))).run Tryd.prog W = .ok (.bool false) W := by
  obtain ⟨r, hr, hi⟩ := run_equalIn_deep (P := Tryd.prog) 9997 3 OpT (by kernel_rfl) W 3 3 (.agg (opA x)) (.agg (opA x)) (litsO x) (litsO x) (formedO x) (formedO x) (keyO_of hx) (keyO_of hx)
  have e : r = true := hi.2 rfl
  subst e
  rw [run_neq_struct, hr]; rfl
set_option maxRecDepth 100000 in
set_option maxHeartbeats 1600000 in
theorem rsame9_any {w : World} {va vb : Value} {l : List OpP} (ha : Row w 5 va l.length (opsV l)) (hb : Row w 5 vb l.length (opsV l)) (hok : ∀ o ∈ l, OpOk o) : Calls Tryd.prog 31 #[va, vb] w fun e w' => e = .returned (.bool true) ∧ Below w.heap.size w w' := by
  obtain ⟨aa, ac, rfl, hax⟩ := ha.at2
  obtain ⟨ba, bc, rfl, hbx⟩ := hb.at2
  have HAX := Lib.hid hax
  have HBX := Lib.hid hbx
  have HOK := Lib.hid hok
  have hll := ha.small
  unfold maxLen at hll
  clear ha hb hax hbx hok
  go_enter Tryd.func31, Tryd.ntmps31
  go_wp2_with fail
  go_loopw [5] (fun v5 wr => ∃ i : Nat, v5 = .int .i64 (i : Int) ∧ i ≤ l.length ∧ Below w.heap.size w wr) (fun v _ => l.length - (intOf v).toNat)
  case atStart => exact ⟨0, rfl, Nat.zero_le _, Below.refl _ _⟩
  case round =>
    obtain ⟨i, rfl, hi, hb⟩ := hrel
    have HB := Lib.hid hb
    by_cases hlt : i < l.length
    · obtain ⟨b1, o1, rfl, q1⟩ := HAX.out (by omega)
      obtain ⟨b2, o2, rfl, q2⟩ := HBX.out (by omega)
      obtain ⟨a0, a1, a2, a3, a4⟩ := opsV_at l i hlt
      have c0 := bcellAt hb (q1 _ _ a0)
      have c1 := bcellAt hb (q1 _ _ a1)
      have c2 := bcellAt hb (q1 _ _ a2)
      have c3 := bcellAt hb (q1 _ _ a3)
      have c4 := bcellAt hb (q1 _ _ a4)
      have e0 := bcellAt hb (q2 _ _ a0)
      have e1 := bcellAt hb (q2 _ _ a1)
      have e2 := bcellAt hb (q2 _ _ a2)
      have e3 := bcellAt hb (q2 _ _ a3)
      have e4 := bcellAt hb (q2 _ _ a4)
      simp only [← Nat.add_assoc] at c1 c2 c3 c4 e1 e2 e3 e4
      have hq := fun (W : World) => neq_op (HOK.out _ (List.getElem_mem hlt)) W
      clear q1 q2 a0 a1 a2 a3 a4 hb
      generalize l[i] = o at *
      obtain ⟨oc, oa, ob, on, os⟩ := o
      simp only [opA] at c0 c1 c2 c3 c4 e0 e1 e2 e3 e4 hq
      have hi0 : (0 : Int) ≤ (i : Int) := by omega
      have hi1 : (i : Int) < (l.length : Int) := by omega
      go_wp2_with fail
      go_quiet (fail)
      have HBQ := Lib.hid (bmore HB.out (bdn wr nq))
      clear c0 c1 c2 c3 c4 e0 e1 e2 e3 e4
      go_wp2_with fail
      go_roundw
      case rel => exact ⟨i + 1, by go_num, by omega, HBQ.out⟩
      case measure => simp [intOf] <;> omega
    · obtain rfl : i = l.length := by omega
      clear hb hlt
      go_wp2_with fail
      go_returns
      exact ⟨rfl, HB.out⟩

theorem one_use (c : Int) : oneB c = useA c := rfl
theorem two_use (c : Int) : twoB9 c = useB c := rfl
end Go.Proofs.YtlckneajppfmbaaDoor
namespace Go.Proofs.YtlckneajppfmbaaDoor
open Go.RowKit Go.Maps
set_option linter.unusedVariables false

theorem mark1_false {f : Nat → Bool} {o : OpP} {i : Nat} (h : f i = false) : mark1 f o i = f := by
  have hA : markA f o i = f := by
    unfold markA
    split
    · funext x; unfold orAt; split
      · rename_i e; rw [h, e]; simp
      · rfl
    · rfl
  unfold mark1 markB
  rw [hA]
  split
  · funext x; unfold orAt; split
    · rename_i e; rw [h, e]; simp
    · rfl
  · rfl
theorem orAt_true {f : Nat → Bool} {i x : Nat} (h : f i = true) : orAt f x (f i) = upF9 f x true := by
  funext y
  unfold orAt upF9
  split
  · rw [h]; simp
  · rfl
theorem upF9_at {f : Nat → Bool} {i x : Nat} (h : f i = true) : upF9 f x true i = true := by
  unfold upF9; split
  · rfl
  · exact h
theorem markA_up {f : Nat → Bool} {o : OpP} {i : Nat} (h : f i = true) : markA f o i i = true := by
  unfold markA
  split
  · rw [orAt_true h]; exact upF9_at h
  · exact h
theorem trimP_eq (l : List OpP) : trimP l = keepP (partF l) l 0 (fun _ => 0) [] := by
  unfold trimP
  split
  · rename_i h; rw [h]; rfl
  · rfl
theorem IsCol.extn {w : World} {B sb n : Nat} {T : TypeId} {f g : Nat → Value} (h : IsCol w B sb n T f) (e : ∀ x, x < n → f x = g x) : IsCol w B sb n T g := by
  obtain ⟨C, h1, h2, h3⟩ := h.lay
  exact ⟨⟨C, h1, h2, fun x hx => by rw [h3 x hx, e x hx]⟩, h.gs⟩
set_option maxRecDepth 100000 in
set_option maxHeartbeats 12800000 in
theorem rtrim_any {w : World} {vl : Value} {l : List OpP} (hl : Row w 5 vl l.length (opsV l)) (hok : ∀ o ∈ l, OpOk o) (hlen : l.length ≤ 1000) : Calls Tryd.prog 32 #[vl] w (TrimPost w (trimP l)) := by
  obtain ⟨la, lc, rfl, hlx⟩ := hl.at2
  have HLX := Lib.hid hlx
  have HOK := Lib.hid hok
  clear hl hlx hok
  obtain ⟨n, hm⟩ : ∃ n, l.length = n := ⟨_, rfl⟩
  rw [hm]
  have HM := Lib.hid hm
  have hmb : n ≤ 1000 := by omega
  have hmk := mk_bo9 (n := n) (by omega)
  have hmi := mk_in9 (n := n) (by omega)
  have P2 := Lib.hid (IsCol.bo w (Nat.le_refl _) n)
  have U2 := Lib.hid (bA0 w (.cells (bo9 n) BoT9))
  clear hm
  go_enter Tryd.func32, Tryd.ntmps32
  go_wp2_with fail
  generalize (w.alloc (.cells (bo9 n) BoT9)) = w2 at *
  go_loopw [4] (fun v4 wr => ∃ (j : Nat) (z : Int) (f : Nat → Bool), v4 = .int .i64 z ∧ z = (j : Int) - 1 ∧ j ≤ n ∧ (j = n → ∀ x, f x = false) ∧ (j < n → markF l j f = partF l) ∧ IsCol wr w.heap.size w.heap.size n BoT9 (fun x => .bool (f x)) ∧ Below w.heap.size w wr) (fun v _ => (intOf v + 1).toNat)
  case atStart => exact ⟨n, _, _, rfl, rfl, Nat.le_refl _, fun _ _ => rfl, fun h => absurd h (Nat.lt_irrefl _), P2.out, U2.out⟩
  case round =>
    clear P2 U2
    obtain ⟨j, z, f, rfl, hz, hj, hf0, hf, hp, hb⟩ := hrel
    have HF0 := Lib.hid hf0
    have HF := Lib.hid hf
    have HP := Lib.hid hp
    have HB := Lib.hid hb
    have hBr : w.heap.size ≤ wr.heap.size := hb.size
    clear hf hf0 hp
    cases j with
    | succ k =>
      obtain rfl : z = (k : Int) := by omega
      clear hz
      have hk : k < l.length := by rw [HM.out]; omega
      obtain ⟨lb, lo, rfl, qq⟩ := HLX.out (by rw [HM.out]; omega)
      obtain ⟨a0, a1, a2, a3, a4⟩ := opsV_at l k hk
      have c0 := qq _ _ a0
      have c1 := qq _ _ a1
      have c2 := qq _ _ a2
      simp only [← Nat.add_assoc] at c1 c2
      have hoo := HOK.out _ (List.getElem_mem hk)
      have hgd : l.getD k zeroO = l[k] := by rw [List.getD_eq_getElem?_getD, List.getElem?_eq_getElem hk]; rfl
      have HMK : Hid (∀ g : Nat → Bool, markF l (k + 1) g = markF l k (mark1 g l[k] k)) := Lib.hid (fun g => by rw [← hgd]; rfl)
      have hk0 : (0 : Int) ≤ (k : Int) := by omega
      have hk1 : (k : Int) < (n : Int) := by omega
      have hkn1 : k < n := by omega
      have HLL := HM
      clear qq a0 a1 a2 a3 a4 hgd
      generalize l[k] = o at *
      have C0 := Lib.hid c0
      have C1 := Lib.hid c1
      have C2 := Lib.hid c2
      clear c0 c1 c2 hoo hb
      go_upto_if 23 with fail
      go_cut [] (fun wx => ∃ f2 : Nat → Bool, markF l (k + 1) f2 = partF l ∧ IsCol wx w.heap.size w.heap.size n BoT9 (fun x => .bool (f2 x)) ∧ Below w.heap.size w wx)
      case first =>
        by_cases hkn : k + 1 = n
        · have hk5 : ((k : Int) == (n : Int) - 1) = true := by simp; omega
          have p0 := HP.out.cell (x := k) hkn1
          have pf := HP.out.warm k
          have HFZ : Hid (∀ x, f x = false) := Lib.hid (HF0.out hkn)
          have HPX := Lib.hid (HP.out.putB (x := k) hkn1 true)
          have HBX := Lib.hid (HB.out.setCell (p := ⟨w.heap.size, k, none⟩) (Nat.le_refl _) (.bool true))
          have HFX : Hid (markF l (k + 1) (upF9 f k true) = partF l) := Lib.hid (by
            unfold partF
            rw [HM.out, ← hkn]
            congr 1
            funext x
            unfold upF9
            by_cases e : x = k
            · subst e; simp
            · rw [if_neg e, HFZ.out]; simp; omega)
          clear hkn
          go_wp2_with fail
          go_meet
          exact ⟨_, HFX.out, HPX.out, HBX.out⟩
        · have hk5 : ((k : Int) == (n : Int) - 1) = false := by simp; omega
          have HFX := Lib.hid (HF.out (by omega))
          clear hkn
          go_wp2_with fail
          go_meet
          exact ⟨f, HFX.out, HP.out, HB.out⟩
      case rest =>
      obtain ⟨f2, hf2, hp2, hb2⟩ := hcut
      clear HF HF0 HP HB
      have HF := Lib.hid hf2
      have HP := Lib.hid hp2
      have HB := Lib.hid hb2
      have p0 := hp2.cell (x := k) hkn1
      clear hf2 hp2 hb2
      go_upto_if 31 with fail
      cases hfk : f2 k with
      | false =>
        rw [hfk] at p0
        have HFX : Hid (markF l k f2 = partF l) := Lib.hid (by have h := HF.out; rw [HMK.out, mark1_false hfk] at h; exact h)
        clear hfk
        go_wp2_with fail
        go_roundw
        case rel => exact ⟨k, (k : Int) - 1, f2, by go_num, rfl, by omega, fun h => by omega, fun _ => HFX.out, HP.out, HB.out⟩
        case measure => simp [intOf] <;> omega
      | true =>
        rw [hfk] at p0
        have FK := Lib.hid hfk
        have FK3 : Hid (markA f2 o k k = true) := Lib.hid (markA_up hfk)
        have HFX : Hid (markF l k (mark1 f2 o k) = partF l) := Lib.hid (by have h := HF.out; rw [HMK.out] at h; exact h)
        have d0 := bcellAt HB.out C0.out
        have d1 := bcellAt HB.out C1.out
        have d2 := bcellAt HB.out C2.out
        clear hfk HF
        go_upto_region 8 with fail
        go_cut [54] (fun s wx => wc = wx ∧ s = .bool (refA o k))
        case first =>
          go_wp2_with fail
          refine (one_any _ _).mono ?_
          rintro e w9 ⟨rfl, rfl⟩
          cases h1 : oneB o.code
          · go_wp2_with fail
            go_meet
            exact ⟨rfl, by unfold refA; rw [← one_use, h1]; simp⟩
          · by_cases h2 : 0 ≤ o.a
            · by_cases h3 : o.a < (k : Int)
              · have h3' : decide (o.a < (k : Int)) = true := decide_eq_true h3
                go_wp2_with fail
                go_meet
                exact ⟨rfl, by unfold refA; rw [← one_use, h1]; simp [h2, h3]⟩
              · have h3' : decide (o.a < (k : Int)) = false := decide_eq_false h3
                go_wp2_with fail
                go_meet
                exact ⟨rfl, by unfold refA; rw [← one_use, h1]; simp [h2, h3]⟩
            · have h2' : decide (0 ≤ o.a) = false := decide_eq_false h2
              go_wp2_with fail
              go_meet
              exact ⟨rfl, by unfold refA; rw [← one_use, h1, h2']; simp⟩
        case rest =>
        obtain ⟨rfl, rfl⟩ := hcut
        go_upto_if 54 with fail
        go_cut [] (fun wx => IsCol wx w.heap.size w.heap.size n BoT9 (fun x => .bool (markA f2 o k x)) ∧ Below w.heap.size w wx)
        case first =>
          cases hr : refA o k with
          | true =>
            obtain ⟨x, hx, hxk⟩ := refA_nat hr
            rw [hx] at d1
            have hx0 : (0 : Int) ≤ (x : Int) := by omega
            have hx1 : (x : Int) < (n : Int) := by omega
            have hxn : x < n := by omega
            have e0 := HP.out.cell (x := x) hxn
            have e1 := HP.out.warm x
            have HPX := Lib.hid (HP.out.putB (x := x) hxn true)
            have HBX := Lib.hid (HB.out.setCell (p := ⟨w.heap.size, x, none⟩) (Nat.le_refl _) (.bool true))
            have HE : Hid (upF9 (f2) x true = markA f2 o k) := Lib.hid (by
              show _ = markA (f2) o k
              unfold markA
              rw [if_pos hr, hx]
              exact (orAt_true FK.out).symm)
            clear hr hx hxk hxn
            go_wp2_with fail
            go_meet
            exact ⟨by rw [← HE.out]; exact HPX.out, HBX.out⟩
          | false =>
            have HE : Hid (f2 = markA f2 o k) := Lib.hid (by
              show _ = markA (f2) o k
              unfold markA
              rw [if_neg (by rw [hr]; decide)])
            clear hr
            go_wp2_with fail
            go_meet
            exact ⟨by rw [← HE.out]; exact HP.out, HB.out⟩
        case rest =>
        obtain ⟨hp3, hb3⟩ := hcut
        clear HP HB d0 d1 d2 p0
        have HP := Lib.hid hp3
        have HB := Lib.hid hb3
        have p0 := hp3.cell (x := k) hkn1
        have d0 := bcellAt hb3 C0.out
        have d1 := bcellAt hb3 C1.out
        have d2 := bcellAt hb3 C2.out
        clear hp3 hb3
        go_upto_region 10 with fail
        go_cut [84] (fun s wx => wc = wx ∧ s = .bool (refB o k))
        case first =>
          go_wp2_with fail
          refine (two9_any _ _).mono ?_
          rintro e w9 ⟨rfl, rfl⟩
          cases h1 : twoB9 o.code
          · go_wp2_with fail
            go_meet
            exact ⟨rfl, by unfold refB; rw [← two_use, h1]; simp⟩
          · by_cases h2 : 0 ≤ o.b
            · by_cases h3 : o.b < (k : Int)
              · have h3' : decide (o.b < (k : Int)) = true := decide_eq_true h3
                go_wp2_with fail
                go_meet
                exact ⟨rfl, by unfold refB; rw [← two_use, h1]; simp [h2, h3]⟩
              · have h3' : decide (o.b < (k : Int)) = false := decide_eq_false h3
                go_wp2_with fail
                go_meet
                exact ⟨rfl, by unfold refB; rw [← two_use, h1]; simp [h2, h3]⟩
            · have h2' : decide (0 ≤ o.b) = false := decide_eq_false h2
              go_wp2_with fail
              go_meet
              exact ⟨rfl, by unfold refB; rw [← two_use, h1, h2']; simp⟩
        case rest =>
        obtain ⟨rfl, rfl⟩ := hcut
        cases hr : refB o k with
        | true =>
          obtain ⟨x, hx, hxk⟩ := refB_nat hr
          rw [hx] at d2
          have hx0 : (0 : Int) ≤ (x : Int) := by omega
          have hx1 : (x : Int) < (n : Int) := by omega
          have hxn : x < n := by omega
          have e0 := HP.out.cell (x := x) hxn
          have e1 := HP.out.warm x
          have HPX := Lib.hid (HP.out.putB (x := x) hxn true)
          have HBX := Lib.hid (HB.out.setCell (p := ⟨w.heap.size, x, none⟩) (Nat.le_refl _) (.bool true))
          have HE : Hid (upF9 (markA f2 o k) x true = mark1 f2 o k) := Lib.hid (by
            show _ = markB (markA f2 o k) o k
            unfold markB
            rw [if_pos hr, hx]
            exact (orAt_true FK3.out).symm)
          clear hr hx hxk hxn
          go_wp2_with fail
          go_roundw
          case rel => exact ⟨k, (k : Int) - 1, _, by go_num, rfl, by omega, fun h => by omega, fun _ => by rw [HE.out]; exact HFX.out, HPX.out, HBX.out⟩
          case measure => simp [intOf] <;> omega
        | false =>
          have HE : Hid (markA f2 o k = mark1 f2 o k) := Lib.hid (by
            show _ = markB (markA f2 o k) o k
            unfold markB
            rw [if_neg (by rw [hr]; decide)])
          clear hr
          go_wp2_with fail
          go_roundw
          case rel => exact ⟨k, (k : Int) - 1, _, by go_num, rfl, by omega, fun h => by omega, fun _ => by rw [HE.out]; exact HFX.out, HP.out, HB.out⟩
          case measure => simp [intOf] <;> omega
    | zero =>
      have hz0 : decide ((0 : Int) ≤ z) = false := decide_eq_false (by omega)
      have HP0 : Hid (IsCol wr w.heap.size w.heap.size n BoT9 (fun x => .bool (partF l x))) := Lib.hid (HP.out.extn (fun x hx => by
        have h := HF.out (by omega)
        have e : f = partF l := h
        rw [e]))
      have N0 := Lib.hid (IsCol.int wr hBr n)
      have P0 := Lib.hid (HP0.out.below (bA0 wr (.cells (in9 n) IntT9)))
      have B0 := Lib.hid (HB.out.trans ((bA0 wr (.cells (in9 n) IntT9)).mono hBr))
      clear hb HP HP0 HB HF HF0 hz hj hmk
      go_wp2_with fail
      generalize (wr.alloc (.cells (in9 n) IntT9)) = wa at *
      generalize wr.heap.size = nb at *
      clear hBr
      go_loopw [7, 6] (fun v7 v6 wq => ∃ (i : Nat) (now : Nat → Int) (kept : List OpP), v7 = .int .i64 (i : Int) ∧ i ≤ n ∧ keepP (partF l) (l.drop i) i now kept = trimP l ∧ (∀ x, i64R (now x)) ∧ kept.length ≤ i ∧ IsCol wq w.heap.size w.heap.size n BoT9 (fun x => .bool (partF l x)) ∧ IsCol wq w.heap.size nb n IntT9 (fun x => .int .i64 (now x)) ∧ wq.ownsRow w.heap.size OpT 5 v6 kept.length (opsV kept) ∧ Below w.heap.size w wq) (fun v _ _ => n - (intOf v).toNat)
      case atStart => exact ⟨0, fun _ => 0, [], rfl, Nat.zero_le _, by rw [List.drop_zero, trimP_eq], fun x => by unfold i64R; simp, Nat.le_refl _, P0.out, N0.out, World.ownsRow_nil _ _ _ 5, B0.out⟩
      case round =>
        clear P0 N0 B0
        obtain ⟨i, now, kept, rfl, hi, hkp, hnow, hkl, hp, hn, hr, hb⟩ := hrel
        have HKP := Lib.hid hkp
        have HNW := Lib.hid hnow
        have HP := Lib.hid hp
        have HN := Lib.hid hn
        have HR := Lib.hid hr
        have HB := Lib.hid hb
        have hBr : w.heap.size ≤ wr.heap.size := hb.size
        have hkb := own_lt hr
        have HKB := Lib.hid hkb
        obtain ⟨ka, kc, rfl⟩ := (row_of_own hr).shape
        by_cases hlt : i < n
        · have hil : i < l.length := by rw [HM.out]; exact hlt
          obtain ⟨lb, lo, rfl, qq⟩ := HLX.out (by rw [HM.out]; omega)
          obtain ⟨a0, a1, a2, a3, a4⟩ := opsV_at l i hil
          have c0 := bcellAt hb (qq _ _ a0)
          have c1 := bcellAt hb (qq _ _ a1)
          have c2 := bcellAt hb (qq _ _ a2)
          have c3 := bcellAt hb (qq _ _ a3)
          have c4 := bcellAt hb (qq _ _ a4)
          simp only [← Nat.add_assoc] at c1 c2 c3 c4
          have hdr : l.drop i = l[i] :: l.drop (i + 1) := List.drop_eq_getElem_cons hil
          rw [hdr] at hkp
          unfold keepP at hkp
          have HKQ := Lib.hid hkp
          have hi0 : (0 : Int) ≤ (i : Int) := by omega
          have hi1 : (i : Int) < (n : Int) := by omega
          have pk := hp.cell (x := i) (by omega)
          clear qq a0 a1 a2 a3 a4 hdr hkp hp hn hr hb hnow hkb HKP
          generalize l[i] = o at *
          go_upto_if 105 with fail
          cases hpi : partF l i with
          | false =>
            have hkq := HKQ.out
            rw [hpi] at hkq pk
            rw [if_neg (by decide)] at hkq
            have HKQ2 := Lib.hid hkq
            clear hkq HKQ hpi
            go_wp2_with fail
            go_roundw
            case rel => exact ⟨i + 1, now, kept, by go_num, by omega, HKQ2.out, HNW.out, by omega, HP.out, HN.out, HR.out, HB.out⟩
            case measure => simp [intOf] <;> omega
          | true =>
            have hkq := HKQ.out
            rw [hpi] at hkq pk
            rw [if_pos rfl] at hkq
            have HKQ2 := Lib.hid hkq
            have bO := bA0 wr (.cells #[.int .i64 o.code, .int .i64 o.a, .int .i64 o.b, .int .u64 o.num, .string o.text] OpT)
            have HO0 := Lib.hid (heap_alloc_new wr (.cells #[.int .i64 o.code, .int .i64 o.a, .int .i64 o.b, .int .u64 o.num, .string o.text] OpT))
            have HP0 := Lib.hid (HP.out.below bO)
            have HN0 := Lib.hid (HN.out.below bO)
            have HR0 := Lib.hid (own_hold HR.out (Hold.below bO))
            have HB0 := Lib.hid (HB.out.trans (bO.mono hBr))
            clear hkq HKQ hpi bO HP HN HR HB pk
            go_upto_region 19 with fail
            generalize (wr.alloc (.cells #[.int .i64 o.code, .int .i64 o.a, .int .i64 o.b, .int .u64 o.num, .string o.text] OpT)) = wb at *
            generalize wr.heap.size = ob at *
            have HO : Hid (wb.heap[ob]? = some (Obj.cells (opA o) OpT)) := HO0
            have HP := HP0
            have HN := HN0
            have HR := HR0
            have HB := HB0
            clear HO0 HP0 HN0 HR0 HB0 c0 c1 c2 c3 c4
            have y0 : wb.cell? ⟨ob, 0, none⟩ = some (.int .i64 o.code) := cellB (j := 0) HO.out rfl
            have y1 : wb.cell? ⟨ob, 1, none⟩ = some (.int .i64 o.a) := cellB (j := 1) HO.out rfl
            have y2 : wb.cell? ⟨ob, 2, none⟩ = some (.int .i64 o.b) := cellB (j := 2) HO.out rfl
            have y3 := HO
            have y4 := HO
            go_cut [123] (fun s wx => wb = wx ∧ s = .bool (refA o i))
            case first =>
              go_wp2_with fail
              refine (one_any _ _).mono ?_
              rintro e w9 ⟨rfl, rfl⟩
              cases h1 : oneB o.code
              · go_wp2_with fail
                go_meet
                exact ⟨rfl, by unfold refA; rw [← one_use, h1]; simp⟩
              · by_cases h2 : 0 ≤ o.a
                · by_cases h3 : o.a < (i : Int)
                  · have h3' : decide (o.a < (i : Int)) = true := decide_eq_true h3
                    go_wp2_with fail
                    go_meet
                    exact ⟨rfl, by unfold refA; rw [← one_use, h1]; simp [h2, h3]⟩
                  · have h3' : decide (o.a < (i : Int)) = false := decide_eq_false h3
                    go_wp2_with fail
                    go_meet
                    exact ⟨rfl, by unfold refA; rw [← one_use, h1]; simp [h2, h3]⟩
                · have h2' : decide (0 ≤ o.a) = false := decide_eq_false h2
                  go_wp2_with fail
                  go_meet
                  exact ⟨rfl, by unfold refA; rw [← one_use, h1, h2']; simp⟩
            case rest =>
            obtain ⟨rfl, rfl⟩ := hcut
            go_upto_if 123 with fail
            go_cut [] (fun wx => wx.heap[ob]? = some (Obj.cells (opA (⟨o.code, movA o i now, o.b, o.num, o.text⟩ : OpP)) OpT) ∧ IsCol wx w.heap.size w.heap.size n BoT9 (fun x => .bool (partF l x)) ∧ IsCol wx w.heap.size nb n IntT9 (fun x => .int .i64 (now x)) ∧ wx.ownsRow w.heap.size OpT 5 (.slice ka kept.length kc) kept.length (opsV kept) ∧ Below w.heap.size w wx)
            case first =>
              cases hr : refA o i with
              | true =>
                obtain ⟨x, hx, hxi⟩ := refA_nat hr
                rw [hx] at y1
                have hx0 : (0 : Int) ≤ (x : Int) := by omega
                have hx1 : (x : Int) < (n : Int) := by omega
                have hxn : x < n := by omega
                have np := HN.out.cell (x := x) hxn
                have zf := frozenB (j := 1) HO.out
                have HOU : Hid ((wb.setCell ⟨ob, 1, none⟩ (.int .i64 (now x))).heap[ob]? = some (Obj.cells (opA (⟨o.code, movA o i now, o.b, o.num, o.text⟩ : OpP)) OpT)) := Lib.hid (by
                  have h := setCellB (j := 1) (u := .int .i64 (now x)) HO.out
                  rw [h]
                  unfold movA
                  rw [if_pos hr, hx]
                  simp [opA])
                have HPU := Lib.hid (HP.out.hold (Hold.setCell (o := 1) (v := .int .i64 (now x)) HO.out (T := BoT9) (by decide)))
                have HNU := Lib.hid (HN.out.hold (Hold.setCell (o := 1) (v := .int .i64 (now x)) HO.out (T := IntT9) (by decide)))
                have HRU := Lib.hid (own_blk HR.out (w' := wb.setCell ⟨ob, 1, none⟩ (.int .i64 (now x))) (fun r hrr => Below.heap_setCell _ _ _ _ (fun e => by have := HKB.out r hrr; first | omega | (simp only at e; omega))))
                have HBU := Lib.hid (HB.out.setCell (p := ⟨ob, 1, none⟩) hBr (.int .i64 (now x)))
                clear hr hx hxi hxn
                go_wp2_with fail
                go_meet
                exact ⟨HOU.out, HPU.out, HNU.out, HRU.out, HBU.out⟩
              | false =>
                have HOU : Hid (wb.heap[ob]? = some (Obj.cells (opA (⟨o.code, movA o i now, o.b, o.num, o.text⟩ : OpP)) OpT)) := Lib.hid (by
                  unfold movA
                  rw [if_neg (by rw [hr]; decide)]
                  exact HO.out)
                clear hr
                go_wp2_with fail
                go_meet
                exact ⟨HOU.out, HP.out, HN.out, HR.out, HB.out⟩
            case rest =>
            obtain ⟨ho3, hp3, hn3, hr3, hb3⟩ := hcut
            clear HO HP HN HR HB y0 y1 y2 y3 y4
            have HO := Lib.hid ho3
            have HP := Lib.hid hp3
            have HN := Lib.hid hn3
            have HR := Lib.hid hr3
            have HB := Lib.hid hb3
            clear ho3 hp3 hn3 hr3 hb3
            have y0 : wc.cell? ⟨ob, 0, none⟩ = some (.int .i64 o.code) := cellB (j := 0) HO.out rfl
            have y2 : wc.cell? ⟨ob, 2, none⟩ = some (.int .i64 o.b) := cellB (j := 2) HO.out rfl
            have y1 := HO
            have y3 := HO
            have y4 := HO
            go_upto_region 21 with fail
            go_cut [143] (fun s wx => wc = wx ∧ s = .bool (refB o i))
            case first =>
              go_wp2_with fail
              refine (two9_any _ _).mono ?_
              rintro e w9 ⟨rfl, rfl⟩
              cases h1 : twoB9 o.code
              · go_wp2_with fail
                go_meet
                exact ⟨rfl, by unfold refB; rw [← two_use, h1]; simp⟩
              · by_cases h2 : 0 ≤ o.b
                · by_cases h3 : o.b < (i : Int)
                  · have h3' : decide (o.b < (i : Int)) = true := decide_eq_true h3
                    go_wp2_with fail
                    go_meet
                    exact ⟨rfl, by unfold refB; rw [← two_use, h1]; simp [h2, h3]⟩
                  · have h3' : decide (o.b < (i : Int)) = false := decide_eq_false h3
                    go_wp2_with fail
                    go_meet
                    exact ⟨rfl, by unfold refB; rw [← two_use, h1]; simp [h2, h3]⟩
                · have h2' : decide (0 ≤ o.b) = false := decide_eq_false h2
                  go_wp2_with fail
                  go_meet
                  exact ⟨rfl, by unfold refB; rw [← two_use, h1, h2']; simp⟩
            case rest =>
            obtain ⟨rfl, rfl⟩ := hcut
            go_upto_if 143 with fail
            go_cut [] (fun wx => wx.heap[ob]? = some (Obj.cells (opA (movP o i now)) OpT) ∧ IsCol wx w.heap.size w.heap.size n BoT9 (fun x => .bool (partF l x)) ∧ IsCol wx w.heap.size nb n IntT9 (fun x => .int .i64 (now x)) ∧ wx.ownsRow w.heap.size OpT 5 (.slice ka kept.length kc) kept.length (opsV kept) ∧ Below w.heap.size w wx)
            case first =>
              cases hr : refB o i with
              | true =>
                obtain ⟨x, hx, hxi⟩ := refB_nat hr
                rw [hx] at y2
                have hx0 : (0 : Int) ≤ (x : Int) := by omega
                have hx1 : (x : Int) < (n : Int) := by omega
                have hxn : x < n := by omega
                have np := HN.out.cell (x := x) hxn
                have zf := frozenB (j := 2) HO.out
                have HOU : Hid ((wc.setCell ⟨ob, 2, none⟩ (.int .i64 (now x))).heap[ob]? = some (Obj.cells (opA (movP o i now)) OpT)) := Lib.hid (by
                  have h := setCellB (j := 2) (u := .int .i64 (now x)) HO.out
                  rw [h]
                  unfold movP movB
                  rw [if_pos hr, hx]
                  simp [opA])
                have HPU := Lib.hid (HP.out.hold (Hold.setCell (o := 2) (v := .int .i64 (now x)) HO.out (T := BoT9) (by decide)))
                have HNU := Lib.hid (HN.out.hold (Hold.setCell (o := 2) (v := .int .i64 (now x)) HO.out (T := IntT9) (by decide)))
                have HRU := Lib.hid (own_blk HR.out (w' := wc.setCell ⟨ob, 2, none⟩ (.int .i64 (now x))) (fun r hrr => Below.heap_setCell _ _ _ _ (fun e => by have := HKB.out r hrr; first | omega | (simp only at e; omega))))
                have HBU := Lib.hid (HB.out.setCell (p := ⟨ob, 2, none⟩) hBr (.int .i64 (now x)))
                clear hr hx hxi hxn
                go_wp2_with fail
                go_meet
                exact ⟨HOU.out, HPU.out, HNU.out, HRU.out, HBU.out⟩
              | false =>
                have HOU : Hid (wc.heap[ob]? = some (Obj.cells (opA (movP o i now)) OpT)) := Lib.hid (by
                  unfold movP movB
                  rw [if_neg (by rw [hr]; decide)]
                  exact HO.out)
                clear hr
                go_wp2_with fail
                go_meet
                exact ⟨HOU.out, HP.out, HN.out, HR.out, HB.out⟩
            case rest =>
            obtain ⟨ho3, hp3, hn3, hr3, hb3⟩ := hcut
            clear HO HP HN HR HB y0 y1 y2 y3 y4
            have HO := Lib.hid ho3
            have HP := Lib.hid hp3
            have HN := Lib.hid hn3
            have HR := Lib.hid hr3
            have HB := Lib.hid hb3
            clear ho3 hp3 hn3 hr3 hb3
            obtain ⟨om, hom⟩ : ∃ om, movP o i now = om := ⟨_, rfl⟩
            rw [hom] at HO HKQ2
            have nc := HN.out.cell (x := i) (by omega)
            have nw := HN.out.warm i
            have HN1 := Lib.hid (HN.out.putI (x := i) (by omega) (kept.length : Int))
            have HP1 : Hid (IsCol (wc.setCell ⟨nb, i, none⟩ (.int .i64 (kept.length : Int))) w.heap.size w.heap.size n BoT9 (fun x => .bool (partF l x))) := Lib.hid (HP.out.hold (HN.out.still (T' := BoT9) (by decide) i (.int .i64 (kept.length : Int))))
            have HO6 := Lib.hid (HN.out.still (T' := OpT) (by decide) i (.int .i64 (kept.length : Int)) _ _ HO.out)
            have HR1 := Lib.hid (own_hold HR.out (HN.out.still (T' := OpT) (by decide) i (.int .i64 (kept.length : Int))))
            have HB1 := Lib.hid (HB.out.setCell (p := ⟨nb, i, none⟩) HN.out.gs (.int .i64 (kept.length : Int)))
            clear HP HN HO HR HB
            go_upto_region 24 with fail
            generalize (wc.setCell ⟨nb, i, none⟩ (.int .i64 (kept.length : Int))) = w5 at *
            have y0 : w5.cell? ⟨ob, 0, none⟩ = some (.int .i64 om.code) := cellB (j := 0) HO6.out rfl
            have y1 : w5.cell? ⟨ob, 1, none⟩ = some (.int .i64 om.a) := cellB (j := 1) HO6.out rfl
            have y2 : w5.cell? ⟨ob, 2, none⟩ = some (.int .i64 om.b) := cellB (j := 2) HO6.out rfl
            have y3 : w5.cell? ⟨ob, 3, none⟩ = some (.int .u64 om.num) := cellB (j := 3) HO6.out rfl
            have y4 : w5.cell? ⟨ob, 4, none⟩ = some (.string om.text) := cellB (j := 4) HO6.out rfl
            have hA := bA0 w5 (.cells #[.int .i64 om.code, .int .i64 om.a, .int .i64 om.b, .int .u64 om.num, .string om.text] OpT)
            have HA := Lib.hid hA
            have HR2 := Lib.hid (own_hold HR1.out (Hold.below hA))
            have hb5 : w.heap.size ≤ w5.heap.size := HB1.out.size
            clear hA nc nw
            go_wp2_with (at_builtin; refine wpList_append_opsF rfl _ _ rfl w.heap.size (.slice ka kept.length kc) kept rfl HR2.out _ [om] rfl (row_oneO (heap_alloc_new _ _)) (by simp; omega) (Nat.le_trans hb5 (bA0 _ _).size) ?_; intro v9 w9 hrow9 hg9; obtain ⟨sa, sc, rfl⟩ := (row_of_own hrow9).shape; have HG9 := Lib.hid hg9; have HR9 := Lib.hid hrow9; clear hg9 hrow9)
            have hT : ∀ T, T ≠ OpT → Hold T w5 w9 := fun T h => (Hold.below HA.out).trans (hold_row HR2.out HG9.out h)
            have HB9 := Lib.hid ((HB1.out.trans (HA.out.mono hb5)).trans (grown_below HG9.out (Nat.le_trans hb5 (bA0 _ _).size) (fun k e => (own_type HR2.out e).1)))
            have HP9 := Lib.hid (HP1.out.hold (hT _ (by decide)))
            have HN9 := Lib.hid (HN1.out.hold (hT _ (by decide)))
            have HNW9 : Hid (∀ y, i64R (upF9 now i (kept.length : Int) y)) := Lib.hid (fun y => by
              unfold upF9
              split
              · unfold i64R; omega
              · exact HNW.out y)
            clear hT
            go_roundw
            case rel => exact ⟨i + 1, _, kept ++ [om], by go_num, by omega, HKQ2.out, HNW9.out, by simp; omega, HP9.out, HN9.out, by have h := HR9.out; simp only [List.length_append, List.length_cons, List.length_nil, Nat.zero_add] at h ⊢; exact h, HB9.out⟩
            case measure => simp [intOf] <;> omega
        · have hie : i = n := by omega
          have hkp := HKP.out
          rw [List.drop_eq_nil_of_le (by rw [HM.out]; omega)] at hkp
          have hkq : kept = trimP l := hkp
          subst hie
          clear hp hn hr hb hnow hkb HKP HNW
          go_wp2_with fail
          go_returns
          exact ⟨.slice ka kept.length kc, rfl, by rw [← hkq]; exact HR.out, HB.out⟩
end Go.Proofs.YtlckneajppfmbaaDoor
