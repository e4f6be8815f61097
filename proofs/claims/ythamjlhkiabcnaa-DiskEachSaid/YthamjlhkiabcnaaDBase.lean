/-
  Plain lemmas on worlds, on slices of texts and of writes, and on a disk in memory. No function of the program is named here.
-/
import Derived.Test.YthamjlhkiabcnaaRows
import Derived.WalkKit
import Derived.WalkSpells
import Derived.WalkLawsBesides
import Derived.Lib.Hide
import Derived.Deep.QuietTactic
import Derived.BigQuiet
import Derived.Laws.AppendOwnNone
namespace Go.Proofs.Ythamjlhkiabcnaa
open Go.RowKit

/-- Only blocks of S have turned, and new ones have come. -/
structure Touch (S : Nat → Prop) (w w' : World) : Prop where
  os : w'.os = w.os
  tape : w'.tape = w.tape
  output : w'.output = w.output
  size : w.heap.size ≤ w'.heap.size
  block : ∀ k, k < w.heap.size → ¬ S k → w'.heap[k]? = w.heap[k]?

theorem Touch.refl (S : Nat → Prop) (w : World) : Touch S w w := ⟨rfl, rfl, rfl, Nat.le_refl _, fun _ _ _ => rfl⟩
theorem Touch.trans {S : Nat → Prop} {a b c : World} (h : Touch S a b) (k : Touch S b c) : Touch S a c :=
  ⟨k.os.trans h.os, k.tape.trans h.tape, k.output.trans h.output, Nat.le_trans h.size k.size, fun i hi hn => (k.block i (Nat.lt_of_lt_of_le hi h.size) hn).trans (h.block i hi hn)⟩
theorem Touch.mono {S T : Nat → Prop} {a b : World} (h : Touch S a b) (hs : ∀ k, k < a.heap.size → S k → T k) : Touch T a b :=
  ⟨h.os, h.tape, h.output, h.size, fun k hk hn => h.block k hk fun hS => hn (hs k hk hS)⟩
/-- A second step may also turn what the first one has made. -/
theorem Touch.step {S T : Nat → Prop} {a b c : World} (h : Touch S a b) (k : Touch T b c) (hT : ∀ k, T k → S k ∨ a.heap.size ≤ k) : Touch S a c :=
  ⟨k.os.trans h.os, k.tape.trans h.tape, k.output.trans h.output, Nat.le_trans h.size k.size, fun i hi hn => (k.block i (Nat.lt_of_lt_of_le hi h.size) (fun hT' => by rcases hT i hT' with h1 | h1; exact hn h1; omega)).trans (h.block i hi hn)⟩
theorem Touch.below {S : Nat → Prop} {w w' : World} (h : Touch S w w') {B : Nat} (hB : B ≤ w.heap.size) (hS : ∀ k, S k → B ≤ k) : Below B w w' :=
  ⟨h.os, h.tape, h.output, h.size, fun k hk => h.block k (by omega) fun hk' => by have := hS k hk'; omega⟩
theorem touch_of_below {w w' : World} (h : Below w.heap.size w w') (S : Nat → Prop) : Touch S w w' := ⟨h.os, h.tape, h.output, h.size, fun k hk _ => h.block k hk⟩
theorem touch_of_grown {w w' : World} {row : Option Nat} (h : w.grownBy w' row) (S : Nat → Prop) (hS : ∀ k, row = some k → S k) : Touch S w w' :=
  ⟨h.os, h.tape, h.output, h.size, fun k hk hn => h.block k hk fun e => hn (hS k e.symm)⟩
theorem touch_set (w : World) (a o : Nat) (u : Value) (S : Nat → Prop) (hS : S a) : Touch S w (w.setCell ⟨a, o, none⟩ u) :=
  ⟨rfl, rfl, rfl, by simp [World.setCell], fun k _ hn => Below.heap_setCell _ _ _ _ (by rintro rfl; exact hn hS)⟩
theorem touch_drewN (w : World) (n : Nat) (S : Nat → Prop) : Touch S w (w.drewN n) := ⟨rfl, rfl, rfl, Nat.le_refl _, fun _ _ _ => rfl⟩
theorem touch_drew (w : World) (S : Nat → Prop) : Touch S w w.drew := ⟨rfl, rfl, rfl, Nat.le_refl _, fun _ _ _ => rfl⟩
theorem touch_alloc (w : World) (o : Obj) (S : Nat → Prop) : Touch S w (w.alloc o) :=
  ⟨rfl, rfl, rfl, by simp, fun k hk _ => Below.heap_alloc _ _ _ hk⟩

/-- The slice value v reads as the cells cs: n elements of size cells each. -/
def Row (w : World) (size : Nat) (v : Value) (n : Nat) (cs : List Value) : Prop :=
  cs.length = n * size ∧ ((v = .slice none 0 0 ∧ n = 0) ∨
    ∃ b off cap, v = .slice (some ⟨b, off, none⟩) n cap ∧ b < w.heap.size ∧ n ≤ cap ∧ cap ≤ maxLen ∧ ∀ j u, cs[j]? = some u → w.cell? ⟨b, off + j, none⟩ = some u)

theorem Row.nils (w : World) (size : Nat) : Row w size (.slice none 0 0) 0 [] := ⟨by simp, .inl ⟨rfl, rfl⟩⟩

theorem Row.keep {w w' : World} {size n : Nat} {v : Value} {cs : List Value} (h : Row w size v n cs) {S : Nat → Prop} (ht : Touch S w w') (hS : ∀ k, v.ownBlock = some k → ¬ S k) : Row w' size v n cs := by
  obtain ⟨h1, h2⟩ := h
  refine ⟨h1, ?_⟩
  rcases h2 with h2 | ⟨b, off, cap, rfl, h3, h4, h5, h6⟩
  · exact .inl h2
  · refine .inr ⟨b, off, cap, rfl, Nat.lt_of_lt_of_le h3 ht.size, h4, h5, fun j u hj => ?_⟩
    rw [World.cell?_of_block (w := w) (ht.block b h3 (hS b rfl))]
    exact h6 j u hj

theorem Row.below {w w' : World} {size n : Nat} {v : Value} {cs : List Value} (h : Row w size v n cs) (hb : Below w.heap.size w w') : Row w' size v n cs :=
  h.keep (touch_of_below hb fun _ => False) (fun _ _ h => h)

theorem Row.shape {w : World} {size n : Nat} {v : Value} {cs : List Value} (h : Row w size v n cs) : ∃ a c, v = .slice a n c := by
  rcases h.2 with ⟨rfl, rfl⟩ | ⟨b, off, cap, rfl, _⟩
  · exact ⟨_, _, rfl⟩
  · exact ⟨_, _, rfl⟩

theorem Row.lt {w : World} {size n : Nat} {v : Value} {cs : List Value} (h : Row w size v n cs) : ∀ k, v.ownBlock = some k → k < w.heap.size := by
  intro k hk
  rcases h.2 with ⟨rfl, rfl⟩ | ⟨b, off, cap, rfl, h3, _⟩
  · simp [Value.ownBlock] at hk
  · simp [Value.ownBlock] at hk; omega

theorem row_of_own {w : World} {base : Nat} {e : TypeId} {size n : Nat} {v : Value} {xs : List Value} (h : w.ownsRow base e size v n xs) : Row w size v n xs := by
  have h' := h
  obtain ⟨h1, h2⟩ := h
  refine ⟨h1, ?_⟩
  rcases h2 with h2 | ⟨g, cap, cur, rfl, hb, hg, hle, hm, hc, ht⟩
  · exact .inl h2
  · refine .inr ⟨g, 0, cap, rfl, (Array.getElem?_eq_some_iff.1 hg).1, hle, hm, fun j u hj => ?_⟩
    rw [Nat.zero_add, World.ownsRow.cellAt h' j (by rw [← h1]; exact (List.getElem?_eq_some_iff.1 hj).1)]
    exact hj

theorem own_keep {w w' : World} {base : Nat} {e : TypeId} {size n : Nat} {v : Value} {xs : List Value} (h : w.ownsRow base e size v n xs) {S : Nat → Prop} (ht : Touch S w w') (hS : ∀ k, v.ownBlock = some k → ¬ S k) : w'.ownsRow base e size v n xs := by
  obtain ⟨h1, h2⟩ := h
  refine ⟨h1, ?_⟩
  rcases h2 with h2 | ⟨g, cap, cur, rfl, hb, hg, rest⟩
  · exact .inl h2
  · refine .inr ⟨g, cap, cur, rfl, hb, ?_, rest⟩
    rw [ht.block g (Array.getElem?_eq_some_iff.1 hg).1 (hS g rfl)]
    exact hg

theorem own_mono {w : World} {base base' : Nat} {e : TypeId} {size n : Nat} {v : Value} {xs : List Value} (h : w.ownsRow base e size v n xs) (hb : base' ≤ base) : w.ownsRow base' e size v n xs := by
  obtain ⟨h1, h2⟩ := h
  refine ⟨h1, ?_⟩
  rcases h2 with h2 | ⟨g, cap, cur, rfl, hb', rest⟩
  · exact .inl h2
  · exact .inr ⟨g, cap, cur, rfl, by omega, rest⟩

theorem row_news {w : World} {b off : Nat} {cs : List Value} (h : ∀ j u, cs[j]? = some u → w.cell? ⟨b, off + j, none⟩ = some u) : ∀ j u, cs[j]? = some u → w.cell? ((⟨b, off, none⟩ : Addr).add j) = some u := by
  intro j u hu
  have e := h j u hu
  by_cases h0 : j = 0
  · subst h0; simpa [Addr.add] using e
  · simp only [Addr.add, h0, if_false]; exact e

/-- A list of texts, of writes, as cells. -/
def strs (l : List ByteArray) : List Value := l.map Value.string
def wrs (l : List (Int × ByteArray)) : List Value := l.flatMap fun x => [.int .i64 x.1, .string x.2]
theorem strs_length (l : List ByteArray) : (strs l).length = l.length := by simp [strs]
theorem wrs_length (l : List (Int × ByteArray)) : (wrs l).length = l.length * 2 := by
  induction l with
  | nil => rfl
  | cons a l ih => simp [wrs, List.flatMap_cons] at ih ⊢; omega
theorem strs_append (a b : List ByteArray) : strs (a ++ b) = strs a ++ strs b := by simp [strs]
theorem wrs_append (a b : List (Int × ByteArray)) : wrs (a ++ b) = wrs a ++ wrs b := by simp [wrs]
theorem strs_oneCell (l : List ByteArray) : ∀ u ∈ strs l, u.oneCell' = true := by
  intro u hu
  simp only [strs, List.mem_map] at hu
  obtain ⟨b, _, rfl⟩ := hu
  rfl
theorem wrs_oneCell (l : List (Int × ByteArray)) : ∀ u ∈ wrs l, u.oneCell' = true := by
  intro u hu
  simp only [wrs, List.mem_flatMap] at hu
  obtain ⟨b, _, hb⟩ := hu
  simp at hb
  rcases hb with rfl | rfl <;> rfl
theorem strs_at (l : List ByteArray) (i : Nat) (h : i < l.length) : (strs l)[i]? = some (.string (l[i])) := by simp [strs, h]
theorem strs_set (l : List ByteArray) (i : Nat) (s : ByteArray) : strs (l.set i s) = (strs l).set i (.string s) := by simp [strs, List.map_set]
theorem wrs_at (l : List (Int × ByteArray)) : ∀ (i : Nat) (h : i < l.length), (wrs l)[i * 2]? = some (.int .i64 (l[i]).1) ∧ (wrs l)[i * 2 + 1]? = some (.string (l[i]).2) := by
  induction l with
  | nil => intro i h; simp at h
  | cons a l ih =>
    intro i h
    have e : wrs (a :: l) = .int .i64 a.1 :: .string a.2 :: wrs l := by simp [wrs]
    cases i with
    | zero => simp [e]
    | succ i =>
      have := ih i (by simpa using h)
      rw [e, show (i + 1) * 2 = i * 2 + 1 + 1 by omega, show i * 2 + 1 + 1 + 1 = (i * 2 + 1) + 1 + 1 by omega]
      simpa using this
theorem wrs_take (l : List (Int × ByteArray)) (k : Nat) : wrs (l.take k) = (wrs l).take (k * 2) := by
  induction l generalizing k with
  | nil => simp [wrs]
  | cons a l ih =>
    cases k with
    | zero => simp [wrs]
    | succ k =>
      have e : wrs (a :: l) = .int .i64 a.1 :: .string a.2 :: wrs l := by simp [wrs]
      have e' : wrs (a :: l.take k) = .int .i64 a.1 :: .string a.2 :: wrs (l.take k) := by simp [wrs]
      rw [e, List.take_succ_cons, e', ih, show (k + 1) * 2 = k * 2 + 1 + 1 by omega]
      simp

theorem Row.strAt {w : World} {v : Value} {n : Nat} {l : List ByteArray} (h : Row w 1 v n (strs l)) {b off cap : Nat} (hv : v = .slice (some ⟨b, off, none⟩) n cap) (i : Nat) (hi : i < l.length) : w.cell? ⟨b, off + i, none⟩ = some (.string (l[i])) := by
  rcases h.2 with ⟨rfl, _⟩ | ⟨b', off', cap', hv', h3, h4, h5, h6⟩
  · simp at hv
  · rw [hv] at hv'
    simp only [Value.slice.injEq, Option.some.injEq, Addr.mk.injEq, and_true, true_and] at hv'
    obtain ⟨⟨rfl, rfl⟩, rfl⟩ := hv'
    exact h6 i _ (strs_at l i hi)

theorem rowS : (Try.prog.info? 9).map (fun i => (i.zero, i.size, i.bytes)) = some (some (.string ⟨#[]⟩), 1, 16) := by kernel_rfl
theorem rowW : (Try.prog.info? 51).map (fun i => (i.zero, i.size, i.bytes)) = some (some (.agg #[.int .i64 0, .string ⟨#[]⟩]), 2, 24) := by kernel_rfl

theorem ret_int {k : IntKind} {a b : Int} (h : a = b) : Ending.returned (.int k a) = .returned (.int k b) := by rw [h]
theorem ret_bool {a b : Bool} (h : a = b) : Ending.returned (.bool a) = .returned (.bool b) := by rw [h]

end Go.Proofs.Ythamjlhkiabcnaa
