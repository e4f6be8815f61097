/-
  codec's (*Reader).Num.
-/
import Derived.Test.YthaflimgigppaaaRead
namespace Go.Proofs.Ythaflimgigppaaa
open Go.RowKit

theorem Rd.own_lt {B : Nat} {w : World} {v : Value} {l : List UInt8} (h : Rd B w v l) : ∀ g, v.ownBlock = some g → g < w.heap.size := by
  intro g hg
  rcases h with ⟨rfl, _⟩ | ⟨b, off, cap, rfl, _, h2, _⟩
  · simp [Value.ownBlock] at hg
  · simp [Value.ownBlock] at hg
    omega
theorem IsReader.set_other {w : World} {a : Nat} {v : Value} {p : List UInt8} {k e : Nat} (h : IsReader w a v p k e) {g : Nat} (hg : g ≠ a) (hv : v.ownBlock ≠ some g) (o : Nat) (u : Value) : IsReader (w.setCell ⟨g, o, none⟩ u) a v p k e :=
  h.grown (grown_set w g o u) (by simpa using fun e => hg e.symm) (.inr hv)
theorem grown_set_new {w w1 : World} {row : Option Nat} (h : w.grownBy w1 row) {g : Nat} (hg : w.heap.size ≤ g) (o : Nat) (u : Value) : w.grownBy (w1.setCell ⟨g, o, none⟩ u) row :=
  ⟨h.os, h.tape, h.output, by simp [World.setCell]; exact h.size, fun k hk hn => (Below.heap_setCell _ _ _ _ (by simp; omega)).trans (h.block k hk hn)⟩
theorem below_set_new {B : Nat} {w w1 : World} (h : Below B w w1) {g : Nat} (hg : B ≤ g) (o : Nat) (u : Value) : Below B w (w1.setCell ⟨g, o, none⟩ u) := h.setCell hg u

/-- The world with two new variables. -/
def two (w : World) (x y : Value) (t u : TypeId) : World := (w.alloc (.cells #[x] t)).alloc (.cells #[y] u)
theorem two_size (w : World) (x y : Value) (t u : TypeId) : (two w x y t u).heap.size = w.heap.size + 2 := by simp [two]
theorem two_c0 (w : World) (x y : Value) (t u : TypeId) : (two w x y t u).cell? ⟨w.heap.size, 0, none⟩ = some x := by simp [two, go_sem]
theorem two_c1 (w : World) (x y : Value) (t u : TypeId) : (two w x y t u).cell? ⟨w.heap.size + 1, 0, none⟩ = some y := by simp [two, go_sem]
theorem two_f1 (w : World) (x y : Value) (t u : TypeId) : (two w x y t u).frozen? ⟨w.heap.size + 1, 0, none⟩ = false := by simp [two, go_sem]
theorem two_below (w : World) (x y : Value) (t u : TypeId) : Below w.heap.size w (two w x y t u) := ((Below.refl _ _).alloc (Nat.le_refl _) _).alloc (by simp) _

theorem two_facts (w : World) (x y : Value) (t u : TypeId) : Below w.heap.size w (two w x y t u) ∧ (two w x y t u).cell? ⟨w.heap.size, 0, none⟩ = some x ∧ (two w x y t u).cell? ⟨w.heap.size + 1, 0, none⟩ = some y ∧ (two w x y t u).frozen? ⟨w.heap.size + 1, 0, none⟩ = false ∧ (two w x y t u).heap.size = w.heap.size + 2 :=
  ⟨two_below w x y t u, two_c0 w x y t u, two_c1 w x y t u, two_f1 w x y t u, two_size w x y t u⟩

theorem frozen_grown {w w' : World} {row : Option Nat} (h : w.grownBy w' row) {a : Addr} (hl : a.block < w.heap.size) (hn : some a.block ≠ row) : w'.frozen? a = w.frozen? a :=
  World.frozen?_of_block (h.block a.block hl hn)

set_option maxHeartbeats 400000 in
theorem Num1_ok {W : World} {a : Nat} {v : Value} {p : List UInt8} {k : Nat} (h : IsReader W a v p k 0) {n len : Nat} (hs : numS (p.drop k) = .inr (n, len)) (rc nc : Nat) (x : Value)
    (hrc : W.cell? ⟨rc, 0, none⟩ = some (.pointer (some ⟨a, 0, none⟩))) (hnc : W.cell? ⟨nc, 0, none⟩ = some x) (hf : W.frozen? ⟨nc, 0, none⟩ = false) (hna : nc ≠ a) :
    Calls Try.prog 18 #[.pointer (some ⟨rc, 0, none⟩), .pointer (some ⟨nc, 0, none⟩)] W fun e' w' => e' = .returned (.tuple #[]) ∧
      ∃ w1, W.grownBy w1 (some a) ∧ IsReader w1 a v p (k + len) 0 ∧ w' = w1.setCell ⟨nc, 0, none⟩ (.int .u64 (n : Int)) := by
  have hnum := num_any h
  rw [hs] at hnum
  have HN := Lib.hid hnum
  clear hnum
  have hs' := Lib.hid hs
  clear hs
  go_enter Try.func18, Try.ntmps18
  go_wp2_with fail
  refine HN.out.mono ?_
  rintro e' w1 ⟨hg, rfl, hr⟩
  have c1 := hg.cell hnc (by simpa using hna)
  have f1 := (frozen_grown hg (World.block_lt_of_cell? W _ hnc) (by simpa using hna)).trans hf
  go_wp2_with fail
  go_end0
  exact ⟨rfl, w1, hg, hr, rfl⟩

set_option maxHeartbeats 400000 in
theorem Num1_bad {W : World} {a : Nat} {v : Value} {p : List UInt8} {k : Nat} (h : IsReader W a v p k 0) {er : Nat} (hs : numS (p.drop k) = .inl er) (rc nc : Nat)
    (hrc : W.cell? ⟨rc, 0, none⟩ = some (.pointer (some ⟨a, 0, none⟩))) :
    Calls Try.prog 18 #[.pointer (some ⟨rc, 0, none⟩), .pointer (some ⟨nc, 0, none⟩)] W fun e' w' => e' = .panicked (faultOf er) ∧ W.grownBy w' (some a) ∧ ∃ k', IsReader w' a v p k' 0 := by
  have hnum := num_any h
  rw [hs] at hnum
  have HN := Lib.hid hnum
  clear hnum hs
  go_enter Try.func18, Try.ntmps18
  go_wp2_with fail
  refine HN.out.mono ?_
  rintro e' w1 ⟨hg, rfl, hr⟩
  go_wp2_with fail
  exact ⟨rfl, rfl, hg, hr⟩

theorem callF_Num (cap : Array Value) (w : World) : (callFunc 18 cap).run Try.prog w = .ok (.enter 18 cap) w := by kernel_rfl

set_option maxHeartbeats 400000 in
theorem Num_nil (w : World) :
    Calls Try.prog 9 #[.pointer none] w fun e' w' => e' = .returned (.int .u64 0) ∧ Below w.heap.size w w' := by
  have hmf : ∀ (fn : Fn) (first cap : Array Value) (w : World), (Instr.makeFunc fn first cap).run Try.prog w = .ok (.func fn first cap) w := fun _ _ _ _ => rfl
  have G := Lib.hid (two_facts w (.pointer none) (.int .u64 0) 33 35)
  go_enter Try.func9, Try.ntmps9
  go_wp2_with fail
  obtain ⟨g0, _, g1, g2, g3⟩ := G.out
  clear G
  change Calls _ _ _ (two w (.pointer none) (.int .u64 0) 33 35) _
  generalize two w (.pointer none) (.int .u64 0) 33 35 = wA at *
  refine (read_nil _ _).mono ?_
  rintro e' w1 ⟨rfl, hb⟩
  have c1 := cell_later hb g1
  have f1 := (hb.frozen (p := ⟨w.heap.size + 1, 0, none⟩) (by simp; omega)).trans g2
  have hb1 := g0.trans (hb.mono (by omega))
  clear g0 g1 g2 hb
  go_wp2_with fail
  exact bodyPost_ret (v := .int .u64 0) (by simp [results, Try.results9, go_sem, c1]) rfl ⟨rfl, below_set_new hb1 (by omega) _ _⟩

set_option maxHeartbeats 400000 in
theorem Num_after {w : World} {a : Nat} {v : Value} {p : List UInt8} {k e : Nat} (h : IsReader w a v p k e) (he : 0 < e) :
    Calls Try.prog 9 #[.pointer (some ⟨a, 0, none⟩)] w fun e' w' => e' = .returned (.int .u64 0) ∧ Below w.heap.size w w' := by
  have hmf : ∀ (fn : Fn) (first cap : Array Value) (w : World), (Instr.makeFunc fn first cap).run Try.prog w = .ok (.func fn first cap) w := fun _ _ _ _ => rfl
  have G := Lib.hid (two_facts w (.pointer (some ⟨a, 0, none⟩)) (.int .u64 0) 33 35)
  go_enter Try.func9, Try.ntmps9
  go_wp2_with fail
  obtain ⟨g0, _, g1, g2, g3⟩ := G.out
  clear G
  change Calls _ _ _ (two w (.pointer (some ⟨a, 0, none⟩)) (.int .u64 0) 33 35) _
  have hA := h.below g0
  generalize two w (.pointer (some ⟨a, 0, none⟩)) (.int .u64 0) 33 35 = wA at *
  refine (read_after hA he _).mono ?_
  rintro e' w1 ⟨rfl, hb⟩
  have c1 := cell_later hb g1
  have f1 := (hb.frozen (p := ⟨w.heap.size + 1, 0, none⟩) (by simp; omega)).trans g2
  have hb1 := g0.trans (hb.mono (by omega))
  clear g0 g1 g2 hb hA h
  go_wp2_with fail
  exact bodyPost_ret (v := .int .u64 0) (by simp [results, Try.results9, go_sem, c1]) rfl ⟨rfl, below_set_new hb1 (by omega) _ _⟩

set_option maxHeartbeats 400000 in
theorem Num_ok {w : World} {a : Nat} {v : Value} {p : List UInt8} {k : Nat} (h : IsReader w a v p k 0) {n len : Nat} (hs : numS (p.drop k) = .inr (n, len)) :
    Calls Try.prog 9 #[.pointer (some ⟨a, 0, none⟩)] w fun e' w' => e' = .returned (.int .u64 (n : Int)) ∧ w.grownBy w' (some a) ∧ IsReader w' a v p (k + len) 0 := by
  have hmf : ∀ (fn : Fn) (first cap : Array Value) (w : World), (Instr.makeFunc fn first cap).run Try.prog w = .ok (.func fn first cap) w := fun _ _ _ _ => rfl
  have hs' := Lib.hid hs
  clear hs
  have la := h.lt
  have G := Lib.hid (two_facts w (.pointer (some ⟨a, 0, none⟩)) (.int .u64 0) 33 35)
  go_enter Try.func9, Try.ntmps9
  go_wp2_with fail
  obtain ⟨g0, g4, g1, g2, g3⟩ := G.out
  clear G
  change Calls _ _ _ (two w (.pointer (some ⟨a, 0, none⟩)) (.int .u64 0) 33 35) _
  have hA := h.below g0
  generalize two w (.pointer (some ⟨a, 0, none⟩)) (.int .u64 0) 33 35 = wA at *
  have hI := inRead_grown wA a k none
  have hA' := hA.grown hI (by simp) (by cases v.ownBlock <;> simp)
  have q1 := frozen_grown hI (a := ⟨w.heap.size + 1, 0, none⟩) (by simp; omega) (by simp)
  refine (read_ok hA 18 _ _ (fun w => callF_Num _ w) (Num1_ok hA' hs'.out w.heap.size (w.heap.size + 1) _ (hI.cell g4 (by simp)) (hI.cell g1 (by simp)) (q1.trans g2) (by omega))).mono ?_
  rintro e' w2 ⟨rfl, w1, hg, hr, rfl⟩
  have hb1 : w.grownBy w1 (some a) := grown_trans (grown_of_below g0 _) (grown_trans (inRead_grown wA a k _) hg)
  have hw1 : w.heap.size + 1 < w1.heap.size := by have := hI.size; have := hg.size; omega
  have hv : v.ownBlock ≠ some (w.heap.size + 1) := fun e => by have := h.rd.own_lt _ e; omega
  obtain ⟨x, hx⟩ : ∃ x, w1.cell? ⟨w.heap.size + 1, 0, none⟩ = some x := ⟨_, hg.cell (hI.cell g1 (by simp)) (by simp; omega)⟩
  have f1 := ((frozen_grown hg (a := ⟨w.heap.size + 1, 0, none⟩) (by have := hI.size; simp; omega) (by simp; omega)).trans q1).trans g2
  have hr2 := hr.set_other (g := w.heap.size + 1) (by omega) hv 0 (.int .u64 (n : Int))
  have hr3 := hr2.set_other (g := w.heap.size + 1) (by omega) hv 0 (.int .u64 (n : Int))
  have hb2 := grown_set_new hb1 (g := w.heap.size + 1) (by omega) 0 (.int .u64 (n : Int))
  have hb3 := grown_set_new hb2 (g := w.heap.size + 1) (by omega) 0 (.int .u64 (n : Int))
  have c2 : (w1.setCell ⟨w.heap.size + 1, 0, none⟩ (.int .u64 (n : Int))).cell? ⟨w.heap.size + 1, 0, none⟩ = some (.int .u64 (n : Int)) := by simp [go_sem, hx]
  have f2 : (w1.setCell ⟨w.heap.size + 1, 0, none⟩ (.int .u64 (n : Int))).frozen? ⟨w.heap.size + 1, 0, none⟩ = false := by simp [go_sem, f1]
  clear hb1 hb2 hr2 hr hI hA hA' q1 g0 g1 g2 g4 hg f1
  generalize w1.setCell ⟨w.heap.size + 1, 0, none⟩ (.int .u64 (n : Int)) = w2 at *
  go_wp2_with fail
  exact bodyPost_ret (v := .int .u64 (n : Int)) (by simp [results, Try.results9, go_sem, c2]) rfl ⟨rfl, hb3, hr3⟩

set_option maxHeartbeats 400000 in
theorem Num_bad {w : World} {a : Nat} {v : Value} {p : List UInt8} {k : Nat} (h : IsReader w a v p k 0) {er : Nat} (hs : numS (p.drop k) = .inl er) (hel : er < 200) :
    Calls Try.prog 9 #[.pointer (some ⟨a, 0, none⟩)] w fun e' w' => e' = .returned (.int .u64 0) ∧ w.grownBy w' (some a) ∧ IsReader w' a v p k er := by
  have hmf : ∀ (fn : Fn) (first cap : Array Value) (w : World), (Instr.makeFunc fn first cap).run Try.prog w = .ok (.func fn first cap) w := fun _ _ _ _ => rfl
  have hs' := Lib.hid hs
  clear hs
  have la := h.lt
  have G := Lib.hid (two_facts w (.pointer (some ⟨a, 0, none⟩)) (.int .u64 0) 33 35)
  go_enter Try.func9, Try.ntmps9
  go_wp2_with fail
  obtain ⟨g0, g4, g1, g2, g3⟩ := G.out
  clear G
  change Calls _ _ _ (two w (.pointer (some ⟨a, 0, none⟩)) (.int .u64 0) 33 35) _
  have hA := h.below g0
  generalize two w (.pointer (some ⟨a, 0, none⟩)) (.int .u64 0) 33 35 = wA at *
  have hI := inRead_grown wA a k none
  have hA' := hA.grown hI (by simp) (by cases v.ownBlock <;> simp)
  refine (read_bad hA 18 _ er hel (fun w => callF_Num _ w) (Num1_bad hA' hs'.out w.heap.size (w.heap.size + 1) (hI.cell g4 (by simp)))).mono ?_
  rintro e' w1 ⟨rfl, hg, hr⟩
  have hb1 : w.grownBy w1 (some a) := grown_trans (grown_of_below g0 _) hg
  have hv : v.ownBlock ≠ some (w.heap.size + 1) := fun e => by have := h.rd.own_lt _ e; omega
  have c2 := hg.cell g1 (by simp; omega)
  have f2 := (frozen_grown hg (a := ⟨w.heap.size + 1, 0, none⟩) (by simp; omega) (by simp; omega)).trans g2
  have hr3 := hr.set_other (g := w.heap.size + 1) (by omega) hv 0 (.int .u64 0)
  have hb3 := grown_set_new hb1 (g := w.heap.size + 1) (by omega) 0 (.int .u64 0)
  clear hb1 hr hI hA hA' g0 g1 g2 g4 hg
  go_wp2_with fail
  exact bodyPost_ret (v := .int .u64 0) (by simp [results, Try.results9, go_sem, c2]) rfl ⟨rfl, hb3, hr3⟩

end Go.Proofs.Ythaflimgigppaaa
