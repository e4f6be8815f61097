/-
  Whether a node is in a pool; what a pool refuses a node with.
-/
import Derived.Test.YtjpkeoenajlmeaaDoorTPool
import Derived.Test.YtjpkeoenajlmeaaDoorTWrong
namespace Go.Proofs.YtjpkeoenajlmeaaDoor
open Go.RowKit Go.Maps
set_option linter.unusedVariables false

theorem zeroT (w : World) : (zeroValue TermT).run Tryd.prog w = .ok (.int .i64 0) w := by kernel_rfl

section
variable {w : World} {B a b : Nat} {v : Value} {p : Pl}
theorem IsPool.find (h : IsPool w B a b v p) {n : Nd} (hn : NdOk n) : (Instr.lookup MapNT (.map (some b)) (.agg (nodeA n)) true).run Tryd.prog w = .ok (.tuple #[.int .i64 (numP p n : Int), .bool (decide (numP p n ≠ 0))]) w := by
  obtain ⟨D, ho, hd⟩ := h.dict
  obtain ⟨x, ps, h1, h2⟩ := ho.look_ok lawN Tryd.underlying68 (zeroT w) (plainElem_int Tryd.underlying23 (by decide)) (keyN_of hn)
  obtain ⟨m, rfl, h3, _⟩ := plainElem_int_inv Tryd.underlying23 h2
  by_cases h0 : numP p n = 0
  · have hf : Maps.has D (keyN n) = false := by
      cases e : Maps.has D (keyN n)
      · rfl
      · exact absurd h0 ((hd.has n hn).1 e)
    rw [atKey_of_not_has hf] at h3
    simp at h3
    obtain ⟨rfl, _⟩ := h3
    rw [hf] at h1
    rw [h1, h0]
    rfl
  · rw [hd.at_ n hn h0] at h3
    simp at h3
    obtain ⟨rfl, _⟩ := h3
    rw [(hd.has n hn).2 h0] at h1
    rw [h1, decide_eq_true h0]

theorem Ok.bounds {p : Pl} (h : Ok p) : ∀ m ∈ p, (1 ≤ m.2.1 ∧ m.2.1 ≤ 4096) ∧ (1 ≤ m.2.2 ∧ m.2.2 ≤ 64) := by
  induction h with
  | nil => intro m hm; cases hm
  | @add p n hp he hn hl ih =>
    intro m hm
    rcases List.mem_append.1 hm with h | h
    · exact ih m h
    · rw [List.mem_singleton] at h
      subst h
      have hat : ∀ t, (0 ≤ szP p t) ∧ (0 ≤ dpP p t) := fun t => by
        unfold szP dpP atP
        split
        · rename_i hi
          simp only [inP, Bool.and_eq_true, decide_eq_true_eq] at hi
          rw [List.getD_eq_getElem?_getD, List.getElem?_eq_getElem (show t.toNat - 1 < p.length by omega)]
          have := ih _ (List.getElem_mem (show t.toNat - 1 < p.length by omega))
          simp only [Option.getD_some]
          omega
        · exact ⟨Int.le_refl _, Int.le_refl _⟩
      have h1 := hat n.a
      have h2 := hat n.b
      have he' : ¬ (4096 < szN p n ∨ 64 < dpN p n) := by
        intro hc
        unfold errP at he
        split at he
        · rename_i q; exact absurd he q
        · split at he
          · cases he
          · first | cases he | (rw [if_pos hc] at he; cases he)
      simp only
      unfold szN dpN at he' ⊢
      omega
theorem Ok.at_bounds {p : Pl} (h : Ok p) (t : Int) : (0 ≤ szP p t ∧ szP p t ≤ 4096) ∧ (0 ≤ dpP p t ∧ dpP p t ≤ 64) := by
  unfold szP dpP atP
  split
  · rename_i hi
    simp only [inP, Bool.and_eq_true, decide_eq_true_eq] at hi
    rw [List.getD_eq_getElem?_getD, List.getElem?_eq_getElem (show t.toNat - 1 < p.length by omega)]
    have := h.bounds _ (List.getElem_mem (show t.toNat - 1 < p.length by omega))
    simp only [Option.getD_some]
    omega
  · simp [zeroM]

set_option maxRecDepth 100000 in
set_option maxHeartbeats 1600000 in
theorem phas (h : IsPool w B a b v p) {n : Nd} (hn : NdOk n) : Calls Tryd.prog 84 #[.pointer (some ⟨a, 0, none⟩), .agg (nodeA n)] w fun e w' => e = .returned (.tuple #[.int .i64 (numP p n : Int), .bool (decide (numP p n ≠ 0))]) ∧ Below w.heap.size w w' := by
  have bA : Below w.heap.size w (w.alloc (.cells (nodeA n) NodeT)) := (Below.refl _ _).alloc (Nat.le_refl _) _
  have hb : (w.alloc (.cells (nodeA n) NodeT)).heap[w.heap.size]? = some (Obj.cells (nodeA n) NodeT) := heap_alloc_new _ _
  have H := h.below bA
  have c0 : (w.alloc (.cells (nodeA n) NodeT)).cell? ⟨a, 0, none⟩ = some (.map (some b)) := cellB H.lay rfl
  have hrun : ∀ nq, (Instr.lookup MapNT (.map (some b)) (.agg (nodeA n)) true).run Tryd.prog ((w.alloc (.cells (nodeA n) NodeT)).drewN nq) = .ok (.tuple #[.int .i64 (numP p n : Int), .bool (decide (numP p n ≠ 0))]) ((w.alloc (.cells (nodeA n) NodeT)).drewN nq) := fun nq => (H.below (bdn _ nq)).find hn
  clear h hn H
  obtain ⟨k, f, t, u, x, y, z⟩ := n
  simp only [nodeA] at *
  generalize numP p ⟨k, f, t, u, x, y, z⟩ = N at *
  generalize decide (N ≠ 0) = nb at *
  have z0 := cellB (j := 0) hb rfl
  have z1 := cellB (j := 1) hb rfl
  have z2 := cellB (j := 2) hb rfl
  have z3 := cellB (j := 3) hb rfl
  have z4 := cellB (j := 4) hb rfl
  have z5 := cellB (j := 5) hb rfl
  have z6 := cellB (j := 6) hb rfl
  have HA := Lib.hid bA
  clear hb bA
  go_enter Tryd.func84, Tryd.ntmps84
  go_wp2_with fail
  generalize (w.alloc (.cells #[.int .i64 k, .int .i64 f, .int .i64 t, .int .u64 u, .string x, .int .i64 y, .int .i64 z] NodeT)) = W at *
  go_quiet (fail)
  go_wp2_with fail
  go_returns
  exact ⟨rfl, bmore HA.out (bdn _ _)⟩
end
end Go.Proofs.YtjpkeoenajlmeaaDoor
