/-
  codec's reader: what the deferred function of read does with a fault; read; Num, Text, Int.
-/
import Derived.Test.YthaflimgigppaaaText
namespace Go.Proofs.Ythaflimgigppaaa
open Go.RowKit

theorem assert_fault (x : Value) (w : World) : (Instr.typeAssert (.iface 56 x) 20 56 true).run Try.prog w = .ok (.tuple #[x, .bool true]) w := by kernel_rfl

set_option maxHeartbeats 400000 in
theorem catch_fault {w : World} {a : Nat} {v : Value} {p : List UInt8} {k e : Nat} (h : IsReader w a v p k e) (bb br : Nat) (k0 er : Nat) (older : List PanicEntry)
    (hb : w.cell? ⟨bb, 0, none⟩ = some (.int .i64 (k0 : Int))) (hr : w.cell? ⟨br, 0, none⟩ = some (.pointer (some ⟨a, 0, none⟩))) :
    CallsD Try.prog 27 #[.pointer (some ⟨bb, 0, none⟩), .pointer (some ⟨br, 0, none⟩)] (.panicking ({ v := .iface 56 (.agg #[.int .i64 (er : Int)]), recovered := false } :: older)) w fun e' u' w' =>
      e' = .returned (.tuple #[]) ∧ u' = .panicking ({ v := .iface 56 (.agg #[.int .i64 (er : Int)]), recovered := true } :: older) ∧
        w' = ((w.setCell ⟨a, 2, none⟩ (.int .i64 (er : Int))).setCell ⟨a, 1, none⟩ (.int .i64 (k0 : Int))).alloc (.cells #[.int .i64 (er : Int)] 56) := by
  refine callsD_of_wpS Try.func27 rfl fun c₀ cs hu => ?_
  simp only [Try.ntmps27, List.size_toArray, List.length_cons, List.length_nil, Nat.reduceAdd, Nat.reduceSub, Array.replicate_succ, Array.replicate_zero, List.push_toArray, List.append_toArray, List.nil_append, List.cons_append]
  apply wpS_seq
  apply wpS_region
  have c0 := h.c0
  have c1 := h.c1
  have c2 := h.c2
  have f1 := h.f1
  have la := h.lt
  have lb := World.block_lt_of_cell? w _ hb
  have lr := World.block_lt_of_cell? w _ hr
  simp [wpOpsS, go_sem, recoverD, hu, Exit.thenS]
  refine wpS_of_wp ?_
  have HU := Lib.hid hu
  clear hu
  have hta := assert_fault
  go_wp2_with fail
  simp [bodyPostS, results, Try.results27, go_sem]

set_option maxHeartbeats 400000 in
theorem catch_idle {w : World} (bb br : Nat) :
    CallsD Try.prog 27 #[.pointer (some ⟨bb, 0, none⟩), .pointer (some ⟨br, 0, none⟩)] .returning w fun e' u' w' => e' = .returned (.tuple #[]) ∧ u' = .returning ∧ w' = w := by
  refine callsD_of_wpS Try.func27 rfl fun c₀ cs hu => ?_
  simp only [Try.ntmps27, List.size_toArray, List.length_cons, List.length_nil, Nat.reduceAdd, Nat.reduceSub, Array.replicate_succ, Array.replicate_zero, List.push_toArray, List.append_toArray, List.nil_append, List.cons_append]
  apply wpS_seq
  apply wpS_region
  simp [wpOpsS, go_sem, recoverD, hu, Exit.thenS]
  refine wpS_of_wp ?_
  have HU := Lib.hid hu
  clear hu
  go_wp2_with fail
  have hu := HU.out
  cases c₀
  simp_all [bodyPostS, results, Try.results27, go_sem]

/-- The world in which read calls what it was given. -/
def inRead (w : World) (a k : Nat) : World := (w.alloc (.cells #[.pointer (some ⟨a, 0, none⟩)] 33)).alloc (.cells #[.int .i64 (k : Int)] 3)

set_option maxHeartbeats 400000 in
theorem read_ok {w : World} {a : Nat} {v : Value} {p : List UInt8} {k : Nat} (h : IsReader w a v p k 0) (F : Nat) (cap : Array Value) (R : World → Prop)
    (hcf : ∀ w : World, (callFunc F cap).run Try.prog w = .ok (.enter F cap) w)
    (hone : Calls Try.prog F cap (inRead w a k) fun e' w' => e' = .returned (.tuple #[]) ∧ R w') :
    Calls Try.prog 17 #[.pointer (some ⟨a, 0, none⟩), .func (.func F) #[] cap] w fun e' w' => e' = .returned (.tuple #[]) ∧ R w' := by
  have hmf : ∀ (fn : Fn) (first cap : Array Value) (w : World), (Instr.makeFunc fn first cap).run Try.prog w = .ok (.func fn first cap) w := fun _ _ _ _ => rfl
  have c1 := h.c1
  have c2 := h.c2
  have la := h.lt
  go_enter_defers Try.func17, Try.ntmps17
  go_wp2_with fail
  refine hone.mono ?_
  rintro e' w1 ⟨rfl, hR⟩
  go_wp2_with fail
  refine leaves_cons (f := 27) (args := #[.pointer (some ⟨w.heap.size + 1, 0, none⟩), .pointer (some ⟨w.heap.size, 0, none⟩)]) (by simp) (by simp [go_sem]) ?_
  refine (catch_idle _ _).mono ?_
  rintro e u' w'' ⟨rfl, rfl, rfl⟩
  simp [Leaves, settle, results, Try.results17, go_sem]
  exact hR

theorem inRead_grown (w : World) (a k : Nat) (row : Option Nat) : w.grownBy (inRead w a k) row :=
  grown_trans (World.grownBy_alloc w _ row) (World.grownBy_alloc _ _ row)
theorem inRead_begin (w : World) (a k : Nat) : (inRead w a k).cell? ⟨w.heap.size + 1, 0, none⟩ = some (.int .i64 (k : Int)) := by simp [inRead, go_sem]
theorem inRead_reader (w : World) (a k : Nat) : (inRead w a k).cell? ⟨w.heap.size, 0, none⟩ = some (.pointer (some ⟨a, 0, none⟩)) := by simp [inRead, go_sem]

set_option maxHeartbeats 400000 in
theorem read_bad {w : World} {a : Nat} {v : Value} {p : List UInt8} {k : Nat} (h : IsReader w a v p k 0) (F : Nat) (cap : Array Value) (er : Nat) (he : er < 200) 
    (hcf : ∀ w : World, (callFunc F cap).run Try.prog w = .ok (.enter F cap) w)
    (hone : Calls Try.prog F cap (inRead w a k) fun e' w' => e' = .panicked (faultOf er) ∧ (inRead w a k).grownBy w' (some a) ∧ ∃ k', IsReader w' a v p k' 0) :
    Calls Try.prog 17 #[.pointer (some ⟨a, 0, none⟩), .func (.func F) #[] cap] w fun e' w' => e' = .returned (.tuple #[]) ∧ w.grownBy w' (some a) ∧ IsReader w' a v p k er := by
  have hmf : ∀ (fn : Fn) (first cap : Array Value) (w : World), (Instr.makeFunc fn first cap).run Try.prog w = .ok (.func fn first cap) w := fun _ _ _ _ => rfl
  have c1 := h.c1
  have c2 := h.c2
  have la := h.lt
  go_enter_defers Try.func17, Try.ntmps17
  go_wp2_with fail
  refine hone.mono ?_
  rintro e' w1 ⟨rfl, hg, k', hr⟩
  go_wp2_with fail
  refine leaves_cons (f := 27) (args := #[.pointer (some ⟨w.heap.size + 1, 0, none⟩), .pointer (some ⟨w.heap.size, 0, none⟩)]) (by simp) (by simp [go_sem]) ?_
  refine (catch_fault hr (w.heap.size + 1) w.heap.size k er [] ?_ ?_).mono ?_
  · exact hg.cell (inRead_begin w a k) (by simp; omega)
  · exact hg.cell (inRead_reader w a k) (by simp; omega)
  rintro e u' w'' ⟨rfl, rfl, rfl⟩
  have h2 := (hr.why_ he).at_ (k' := k) h.le
  have g2 : w.grownBy ((w1.setCell ⟨a, 2, none⟩ (.int .i64 (er : Int))).setCell ⟨a, 1, none⟩ (.int .i64 (k : Int))) (some a) :=
    grown_trans (grown_trans (grown_trans (inRead_grown w a k _) hg) (grown_set _ _ _ _)) (grown_set _ _ _ _)
  generalize (w1.setCell ⟨a, 2, none⟩ (.int .i64 (er : Int))).setCell ⟨a, 1, none⟩ (.int .i64 (k : Int)) = w2 at h2 g2 ⊢
  have hh := h2.grown (World.grownBy_alloc w2 (.cells #[.int .i64 (er : Int)] 56) none) (by simp) (by cases v.ownBlock <;> simp)
  have gg := grown_trans g2 (World.grownBy_alloc w2 (.cells #[.int .i64 (er : Int)] 56) (some a))
  simp [Leaves, settle, results, Try.results17, go_sem]
  exact ⟨gg, hh⟩

set_option maxHeartbeats 400000 in
theorem read_nil (w : World) (x : Value) :
    Calls Try.prog 17 #[.pointer none, x] w fun e' w' => e' = .returned (.tuple #[]) ∧ Below w.heap.size w w' := by
  go_enter_defers Try.func17, Try.ntmps17
  go_wp2_with fail
  simp [bodyPostD, Leaves, results, Try.results17, go_sem]
  exact (Below.refl _ _).alloc (Nat.le_refl _) _

set_option maxHeartbeats 400000 in
theorem read_after {w : World} {a : Nat} {v : Value} {p : List UInt8} {k e : Nat} (h : IsReader w a v p k e) (he : 0 < e) (x : Value) :
    Calls Try.prog 17 #[.pointer (some ⟨a, 0, none⟩), x] w fun e' w' => e' = .returned (.tuple #[]) ∧ Below w.heap.size w w' := by
  have c2 := h.c2
  have la := h.lt
  have hne : (!((e : Int) == 0)) = true := by simp; omega
  go_enter_defers Try.func17, Try.ntmps17
  go_wp2_with fail
  simp [bodyPostD, Leaves, results, Try.results17, go_sem]
  exact (Below.refl _ _).alloc (Nat.le_refl _) _

end Go.Proofs.Ythaflimgigppaaa
