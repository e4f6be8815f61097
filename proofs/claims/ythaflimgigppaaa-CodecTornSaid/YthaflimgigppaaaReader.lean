/-
  codec's Reader in memory; what At, Left, Why, Done and next do.
-/
import Derived.Test.YthaflimgigppaaaPuts
import Derived.Deep.QuietTactic
import Derived.BigQuiet
import Derived.WalkSmall
namespace Go.Proofs.Ythaflimgigppaaa
open Go.RowKit

theorem grown_trans {a b c : World} {row : Option Nat} (h : a.grownBy b row) (k : b.grownBy c row) : a.grownBy c row :=
  ⟨k.os.trans h.os, k.tape.trans h.tape, k.output.trans h.output, Nat.le_trans h.size k.size, fun i hi hn => (k.block i (Nat.lt_of_lt_of_le hi h.size) hn).trans (h.block i hi hn)⟩
theorem grown_of_below {w w' : World} (h : Below w.heap.size w w') (row : Option Nat) : w.grownBy w' row :=
  ⟨h.os, h.tape, h.output, h.size, fun k hk _ => h.block k hk⟩
theorem below_of_grown {w w' : World} {row : Option Nat} (h : w.grownBy w' row) {B : Nat} (hB : B ≤ w.heap.size) (hr : ∀ k, row = some k → B ≤ k) : Below B w w' :=
  (Below.refl B w).grown h hB hr
theorem grown_refl (w : World) (row : Option Nat) : w.grownBy w row := ⟨rfl, rfl, rfl, Nat.le_refl _, fun _ _ _ => rfl⟩
theorem grown_drewN (w : World) (n : Nat) (row : Option Nat) : w.grownBy (w.drewN n) row := ⟨rfl, rfl, rfl, Nat.le_refl _, fun _ _ _ => rfl⟩
theorem grown_set (w : World) (a o : Nat) (u : Value) : w.grownBy (w.setCell ⟨a, o, none⟩ u) (some a) :=
  ⟨rfl, rfl, rfl, by simp [World.setCell], fun k _ hn => Below.heap_setCell _ _ _ _ (by simpa using hn)⟩

/-- Slices of bytes outside block a read as they did. -/
theorem Rd.grown {B : Nat} {w w' : World} {v : Value} {l : List UInt8} {row : Option Nat} (h : Rd B w v l) (hg : w.grownBy w' row) (hne : v.ownBlock = none ∨ v.ownBlock ≠ row) : Rd B w' v l := by
  rcases h with h | ⟨b, off, cap, hv, h1, h2, h3, h4, h5⟩
  · exact .inl h
  · refine .inr ⟨b, off, cap, hv, h1, Nat.lt_of_lt_of_le h2 hg.size, h3, h4, fun i hi => hg.cell (h5 i hi) ?_⟩
    subst hv
    simpa [Value.ownBlock] using hne

/-- At block a lies a codec.Reader over the bytes p, at the place k, with the error e. -/
structure IsReader (w : World) (a : Nat) (v : Value) (p : List UInt8) (k e : Nat) : Prop where
  block : w.heap[a]? = some (.cells #[v, .int .i64 (k : Int), .int .i64 (e : Int)] 47 (0, 0))
  rd : Rd 0 w v p
  apart : v.ownBlock ≠ some a
  le : k ≤ p.length
  small : p.length ≤ 1099511627776
  esmall : e < 200

theorem IsReader.lt {w : World} {a : Nat} {v : Value} {p : List UInt8} {k e : Nat} (h : IsReader w a v p k e) : a < w.heap.size := (Array.getElem?_eq_some_iff.1 h.block).1
theorem IsReader.c0 {w : World} {a : Nat} {v : Value} {p : List UInt8} {k e : Nat} (h : IsReader w a v p k e) : w.cell? ⟨a, 0, none⟩ = some v := by simp [World.cell?, h.block]
theorem IsReader.c1 {w : World} {a : Nat} {v : Value} {p : List UInt8} {k e : Nat} (h : IsReader w a v p k e) : w.cell? ⟨a, 1, none⟩ = some (.int .i64 (k : Int)) := by simp [World.cell?, h.block]
theorem IsReader.c2 {w : World} {a : Nat} {v : Value} {p : List UInt8} {k e : Nat} (h : IsReader w a v p k e) : w.cell? ⟨a, 2, none⟩ = some (.int .i64 (e : Int)) := by simp [World.cell?, h.block]
theorem IsReader.f1 {w : World} {a : Nat} {v : Value} {p : List UInt8} {k e : Nat} (h : IsReader w a v p k e) (o : Nat) : w.frozen? ⟨a, o, none⟩ = false := by simp [World.frozen?, h.block]

theorem IsReader.grown {w w' : World} {a : Nat} {v : Value} {p : List UInt8} {k e : Nat} (h : IsReader w a v p k e) {row : Option Nat} (hg : w.grownBy w' row) (hn : some a ≠ row) (hv : v.ownBlock = none ∨ v.ownBlock ≠ row) : IsReader w' a v p k e :=
  ⟨by rw [hg.block a h.lt hn]; exact h.block, h.rd.grown hg hv, h.apart, h.le, h.small, h.esmall⟩
theorem IsReader.below {w w' : World} {a : Nat} {v : Value} {p : List UInt8} {k e : Nat} (h : IsReader w a v p k e) (hb : Below w.heap.size w w') : IsReader w' a v p k e :=
  ⟨by rw [hb.block a h.lt]; exact h.block, h.rd.keep hb, h.apart, h.le, h.small, h.esmall⟩
theorem IsReader.drewN {w : World} {a : Nat} {v : Value} {p : List UInt8} {k e : Nat} (h : IsReader w a v p k e) (n : Nat) : IsReader (w.drewN n) a v p k e := h.below (below_drewN (Below.refl _ _) n)
theorem IsReader.at_ {w : World} {a : Nat} {v : Value} {p : List UInt8} {k e : Nat} (h : IsReader w a v p k e) {k' : Nat} (hk : k' ≤ p.length) : IsReader (w.setCell ⟨a, 1, none⟩ (.int .i64 (k' : Int))) a v p k' e := by
  refine ⟨?_, h.rd.grown (grown_set w a 1 _) (.inr h.apart), h.apart, hk, h.small, h.esmall⟩
  simp [World.setCell, Array.getElem?_modify, h.block]
theorem IsReader.why_ {w : World} {a : Nat} {v : Value} {p : List UInt8} {k e : Nat} (h : IsReader w a v p k e) {e' : Nat} (he : e' < 200) : IsReader (w.setCell ⟨a, 2, none⟩ (.int .i64 (e' : Int))) a v p k e' := by
  refine ⟨?_, h.rd.grown (grown_set w a 2 _) (.inr h.apart), h.apart, h.le, h.small, he⟩
  simp [World.setCell, Array.getElem?_modify, h.block]

set_option maxHeartbeats 400000 in
theorem left_nil (w : World) : Calls Try.prog 23 #[.pointer none] w fun e w' => e = .returned (.int .i64 0) ∧ w = w' := by
  go_enter Try.func23, Try.ntmps23
  go_wp2
  go_ret
  exact ⟨rfl, rfl⟩

set_option maxHeartbeats 400000 in
theorem left_any {w : World} {a : Nat} {v : Value} {p : List UInt8} {k e : Nat} (h : IsReader w a v p k e) :
    Calls Try.prog 23 #[.pointer (some ⟨a, 0, none⟩)] w fun e' w' => e' = .returned (.int .i64 ((p.length : Int) - (k : Int))) ∧ ∃ n, w' = w.drewN n := by
  obtain ⟨sa, sc, rfl⟩ := h.rd.shape
  have h0 := h.c0
  have h1 := h.c1
  have hle := h.le
  have hs := h.small
  go_enter Try.func23, Try.ntmps23
  go_wp2
  go_quiet (fail)
  go_wp2
  go_ret
  exact ⟨rfl, _, rfl⟩

set_option maxHeartbeats 400000 in
theorem at_nil (w : World) : Calls Try.prog 24 #[.pointer none] w fun e w' => e = .returned (.int .i64 0) ∧ w = w' := by
  go_enter Try.func24, Try.ntmps24
  go_wp2
  go_ret
  exact ⟨rfl, rfl⟩

set_option maxHeartbeats 400000 in
theorem at_any {w : World} {a : Nat} {v : Value} {p : List UInt8} {k e : Nat} (h : IsReader w a v p k e) :
    Calls Try.prog 24 #[.pointer (some ⟨a, 0, none⟩)] w fun e' w' => e' = .returned (.int .i64 (k : Int)) ∧ w = w' := by
  have h1 := h.c1
  go_enter Try.func24, Try.ntmps24
  go_wp2
  go_ret
  exact ⟨rfl, rfl⟩

set_option maxHeartbeats 400000 in
theorem why_nil (w : World) : Calls Try.prog 22 #[.pointer none] w fun e w' => e = .returned (.tuple #[.int .i64 0, .int .i64 0]) ∧ w = w' := by
  go_enter Try.func22, Try.ntmps22
  go_wp2
  go_ret2
  exact ⟨rfl, rfl⟩

set_option maxHeartbeats 400000 in
theorem why_ok {w : World} {a : Nat} {v : Value} {p : List UInt8} {k : Nat} (h : IsReader w a v p k 0) :
    Calls Try.prog 22 #[.pointer (some ⟨a, 0, none⟩)] w fun e' w' => e' = .returned (.tuple #[.int .i64 0, .int .i64 0]) ∧ w = w' := by
  have h1 := h.c2
  have h2 := h.c1
  go_enter Try.func22, Try.ntmps22
  go_wp2
  go_ret2
  exact ⟨rfl, rfl⟩

set_option maxHeartbeats 400000 in
theorem why_bad {w : World} {a : Nat} {v : Value} {p : List UInt8} {k e : Nat} (h : IsReader w a v p k e) (he : 0 < e) :
    Calls Try.prog 22 #[.pointer (some ⟨a, 0, none⟩)] w fun e' w' => e' = .returned (.tuple #[.int .i64 (e : Int), .int .i64 (k : Int)]) ∧ ∃ n, w' = w.drewN n := by
  have h1 := h.c2
  have h2 := h.c1
  have hne : ((e : Int) == 0) = false := by simp; omega
  go_enter Try.func22, Try.ntmps22
  go_wp2
  go_quiet (fail)
  go_wp2
  go_ret2
  exact ⟨rfl, _, rfl⟩

end Go.Proofs.Ythaflimgigppaaa
