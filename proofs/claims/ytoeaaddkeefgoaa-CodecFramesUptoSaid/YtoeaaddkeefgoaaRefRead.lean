/-
  The document's own reader in memory: what its New, fail and Left do.
-/
import Derived.Test.YtoeaaddkeefgoaaRefSum
import Derived.Test.YtoeaaddkeefgoaaAppend
import Derived.Test.YtoeaaddkeefgoaaNew
namespace Go.Proofs.Ytoeaaddkeefgoaa
open Go.RowKit

/-- At block a lies a reader of the document's own over the bytes p, at the place k, with the error e at the place q. -/
structure IsRefR (w : World) (a : Nat) (v : Value) (p : List UInt8) (k e q : Nat) : Prop where
  block : w.heap[a]? = some (.cells #[v, .int .i64 (k : Int), .int .i64 (e : Int), .int .i64 (q : Int)] 64 (0, 0))
  rd : Rd 0 w v p
  apart : v.ownBlock ≠ some a
  le : k ≤ p.length
  small : p.length ≤ 1099511627776

theorem IsRefR.lt {w : World} {a : Nat} {v : Value} {p : List UInt8} {k e q : Nat} (h : IsRefR w a v p k e q) : a < w.heap.size := (Array.getElem?_eq_some_iff.1 h.block).1
theorem IsRefR.c0 {w : World} {a : Nat} {v : Value} {p : List UInt8} {k e q : Nat} (h : IsRefR w a v p k e q) : w.cell? ⟨a, 0, none⟩ = some v := by simp [World.cell?, h.block]
theorem IsRefR.c1 {w : World} {a : Nat} {v : Value} {p : List UInt8} {k e q : Nat} (h : IsRefR w a v p k e q) : w.cell? ⟨a, 1, none⟩ = some (.int .i64 (k : Int)) := by simp [World.cell?, h.block]
theorem IsRefR.c2 {w : World} {a : Nat} {v : Value} {p : List UInt8} {k e q : Nat} (h : IsRefR w a v p k e q) : w.cell? ⟨a, 2, none⟩ = some (.int .i64 (e : Int)) := by simp [World.cell?, h.block]
theorem IsRefR.c3 {w : World} {a : Nat} {v : Value} {p : List UInt8} {k e q : Nat} (h : IsRefR w a v p k e q) : w.cell? ⟨a, 3, none⟩ = some (.int .i64 (q : Int)) := by simp [World.cell?, h.block]
theorem IsRefR.f1 {w : World} {a : Nat} {v : Value} {p : List UInt8} {k e q : Nat} (h : IsRefR w a v p k e q) (o : Nat) : w.frozen? ⟨a, o, none⟩ = false := by simp [World.frozen?, h.block]
theorem IsRefR.below {w w' : World} {a : Nat} {v : Value} {p : List UInt8} {k e q : Nat} (h : IsRefR w a v p k e q) (hb : Below w.heap.size w w') : IsRefR w' a v p k e q :=
  ⟨by rw [hb.block a h.lt]; exact h.block, h.rd.keep hb, h.apart, h.le, h.small⟩
theorem IsRefR.drewN {w : World} {a : Nat} {v : Value} {p : List UInt8} {k e q : Nat} (h : IsRefR w a v p k e q) (n : Nat) : IsRefR (w.drewN n) a v p k e q := h.below (below_drewN (Below.refl _ _) n)
theorem IsRefR.at_ {w : World} {a : Nat} {v : Value} {p : List UInt8} {k e q : Nat} (h : IsRefR w a v p k e q) {k' : Nat} (hk : k' ≤ p.length) : IsRefR (w.setCell ⟨a, 1, none⟩ (.int .i64 (k' : Int))) a v p k' e q := by
  refine ⟨?_, h.rd.grown (grown_set w a 1 _) (.inr h.apart), h.apart, hk, h.small⟩
  simp [World.setCell, Array.getElem?_modify, h.block]
theorem IsRefR.why_ {w : World} {a : Nat} {v : Value} {p : List UInt8} {k e q : Nat} (h : IsRefR w a v p k e q) (e' : Nat) : IsRefR (w.setCell ⟨a, 2, none⟩ (.int .i64 (e' : Int))) a v p k e' q := by
  refine ⟨?_, h.rd.grown (grown_set w a 2 _) (.inr h.apart), h.apart, h.le, h.small⟩
  simp [World.setCell, Array.getElem?_modify, h.block]
theorem IsRefR.place_ {w : World} {a : Nat} {v : Value} {p : List UInt8} {k e q : Nat} (h : IsRefR w a v p k e q) (q' : Nat) : IsRefR (w.setCell ⟨a, 3, none⟩ (.int .i64 (q' : Int))) a v p k e q' := by
  refine ⟨?_, h.rd.grown (grown_set w a 3 _) (.inr h.apart), h.apart, h.le, h.small⟩
  simp [World.setCell, Array.getElem?_modify, h.block]

theorem IsRefR.made {w : World} {v : Value} {p : List UInt8} (h : Rd 0 w v p) (hs : p.length ≤ 1099511627776) :
    IsRefR (w.alloc (.cells #[v, .int .i64 0, .int .i64 0, .int .i64 0] 64)) w.heap.size v p 0 0 0 := by
  refine ⟨heap_alloc_new w _, h.keep ((Below.refl _ _).alloc (Nat.le_refl _) _), ?_, Nat.zero_le _, hs⟩
  intro e
  have := h.own_lt _ e
  omega

set_option maxHeartbeats 400000 in
theorem refLeft_any {w : World} {a : Nat} {v : Value} {p : List UInt8} {k e q : Nat} (h : IsRefR w a v p k e q) :
    Calls Try.prog 29 #[.pointer (some ⟨a, 0, none⟩)] w fun e' w' => e' = .returned (.int .i64 ((p.length : Int) - (k : Int))) ∧ ∃ n, w' = w.drewN n := by
  obtain ⟨sa, sc, rfl⟩ := h.rd.shape
  have h0 := h.c0
  have h1 := h.c1
  have hle := h.le
  have hs := h.small
  go_enter Try.func29, Try.ntmps29
  go_wp2
  go_quiet (fail)
  go_wp2
  go_ret
  exact ⟨rfl, _, rfl⟩

set_option maxHeartbeats 400000 in
theorem refFail_any {w : World} {a : Nat} {v : Value} {p : List UInt8} {k q : Nat} (h : IsRefR w a v p k 0 q) (er pl : Nat) (x : Int) (hx : x = (er : Int)) :
    Calls Try.prog 36 #[.pointer (some ⟨a, 0, none⟩), .int .i64 x, .int .i64 (pl : Int)] w fun e' w' => e' = .returned (.tuple #[]) ∧ w.grownBy w' (some a) ∧ IsRefR w' a v p k er pl := by
  subst hx
  have h2 := h.c2
  have h3 := h.c3
  have hf2 := h.f1 2
  have hf3 := h.f1 3
  go_enter Try.func36, Try.ntmps36
  go_wp2_with fail
  go_end0
  exact ⟨rfl, grown_trans (grown_set w a 2 _) (grown_set _ a 3 _), (h.why_ er).place_ pl⟩

set_option maxHeartbeats 400000 in
theorem refNew_any {w : World} {v : Value} {p : List UInt8} (h : Rd 0 w v p) (hs : p.length ≤ 1099511627776) :
    Calls Try.prog 27 #[v] w fun e w' => ∃ a, e = .returned (.pointer (some ⟨a, 0, none⟩)) ∧ w.heap.size ≤ a ∧ (∃ v', IsRefR w' a v' p 0 0 0) ∧ Below w.heap.size w w' := by
  have hA := (Below.refl w.heap.size w).alloc (Nat.le_refl _) (.cells #[] 5)
  have hO := own_made w (Nat.le_refl _)
  have hR := h.keep hA
  have HA := Lib.hid (And.intro hA (And.intro hO hR))
  clear hA hO hR
  go_enter Try.func27, Try.ntmps27
  go_wp2_with (at_builtin; refine wpList_append_rd rfl _ _ rfl w.heap.size _ _ rfl HA.out.2.1 _ _ rfl HA.out.2.2 (by simp; omega) (by simp) ?_)
  intro v1 w1 hown1 hg1
  have hb1 := below_append HA.out.1 HA.out.2.1 hg1 (by simp)
  have hr := IsRefR.made hown1.rd.zero hs
  have HR := Lib.hid hr
  clear hr HA hg1
  obtain ⟨sa, sc, rfl⟩ := hown1.rd.shape
  go_wp2_with fail
  go_ret
  exact ⟨_, rfl, hb1.size, ⟨_, HR.out⟩, hb1.alloc hb1.size _⟩

end Go.Proofs.Ytoeaaddkeefgoaa
