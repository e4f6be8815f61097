/-
  Whether a node is in a pool; what a pool refuses a node with.
-/
import Derived.Test.YtjmcaceegfdkkaaGreatDoorQbTPool
import Derived.Test.YtjmcaceegfdkkaaGreatDoorQbTWrong
namespace Go.Proofs.YtjmcaceegfdkkaaGreatDoor
open Go.RowKit Go.Maps
set_option linter.unusedVariables false
theorem zeroT (w : World) : (zeroValue TermT).run Tryz.prog w = .ok (.int .i64 0) w := by kernel_rfl
section
variable {w : World} {B a b : Nat} {v : Value} {p : Pl}
theorem IsPool.find (h : IsPool w B a b v p) {n : Nd} (hn : NdOk n) : (Instr.lookup MapNT (.map (some b)) (.agg (nodeA n)) true).run Tryz.prog w = .ok (.tuple #[.int .i64 (numP p n : Int), .bool (decide (numP p n ≠ 0))]) w := by
  obtain ⟨D, ho, hd⟩ := h.dict
  obtain ⟨x, ps, h1, h2⟩ := ho.look_ok lawN Tryz.underlying123 (zeroT w) (plainElem_int Tryz.underlying23 (by decide)) (keyN_of hn)
  obtain ⟨m, rfl, h3, _⟩ := plainElem_int_inv Tryz.underlying23 h2
  by_cases h0 : numP p n = 0
  · have hf : Maps.has D (keyN n) = false := by
      cases e : Maps.has D (keyN n)
      · rfl
      · exact absurd h0 ((hd.has n hn).1 e)
    rw [atKey_of_not_has hf] at h3
    simp at h3
    obtain ⟨rfl, _⟩ := h3
    rw [hf] at h1
    rw [h1, h0]
    rfl
  · rw [hd.at_ n hn h0] at h3
    simp at h3
    obtain ⟨rfl, _⟩ := h3
    rw [(hd.has n hn).2 h0] at h1
    rw [h1, decide_eq_true h0]
theorem Ok.bounds {p : Pl} (h : Ok p) : ∀ m ∈ p, (1 ≤ m.2.1 ∧ m.2.1 ≤ 4096) ∧ (1 ≤ m.2.2 ∧ m.2.2 ≤ 64) := by
  induction h with
  | nil => intro m hm; cases hm
  | @add p n hp he hn hl ih =>
    intro m hm
    rcases List.mem_append.1 hm with h | h
    · exact ih m h
    · rw [List.mem_singleton] at h
      subst h
      have hat : ∀ t, (0 ≤ szP p t) ∧ (0 ≤ dpP p t) := fun t => by
        unfold szP dpP atP
        split
        · rename_i hi
          simp only [inP, Bool.and_eq_true, decide_eq_true_eq] at hi
          rw [List.getD_eq_getElem?_getD, List.getElem?_eq_getElem (show t.toNat - 1 < p.length by omega)]
          have := ih _ (List.getElem_mem (show t.toNat - 1 < p.length by omega))
          simp only [Option.getD_some]
          omega
        · exact ⟨Int.le_refl _, Int.le_refl _⟩
      have h1 := hat n.a
      have h2 := hat n.b
      have he' : ¬ (4096 < szN p n ∨ 64 < dpN p n) := by
        intro hc
        unfold errP at he
        split at he
        · rename_i q; exact absurd he q
        · split at he
          · cases he
          · first | cases he | (rw [if_pos hc] at he; cases he)
      simp only
      unfold szN dpN at he' ⊢
      omega
theorem Ok.at_bounds {p : Pl} (h : Ok p) (t : Int) : (0 ≤ szP p t ∧ szP p t ≤ 4096) ∧ (0 ≤ dpP p t ∧ dpP p t ≤ 64) := by
  unfold szP dpP atP
  split
  · rename_i hi
    simp only [inP, Bool.and_eq_true, decide_eq_true_eq] at hi
    rw [List.getD_eq_getElem?_getD, List.getElem?_eq_getElem (show t.toNat - 1 < p.length by omega)]
    have := h.bounds _ (List.getElem_mem (show t.toNat - 1 < p.length by omega))
    simp only [Option.getD_some]
    omega
  · simp [zeroM]
end
end Go.Proofs.YtjmcaceegfdkkaaGreatDoor
