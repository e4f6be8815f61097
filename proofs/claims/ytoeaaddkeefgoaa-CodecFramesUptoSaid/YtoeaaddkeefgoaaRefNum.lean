/-
  What the document's own reader does with a number.
-/
import Derived.Test.YtoeaaddkeefgoaaRefRead
namespace Go.Proofs.Ytoeaaddkeefgoaa
open Go.RowKit

/-- What Num ends in. -/
def RefNumPost (w : World) (a : Nat) (v : Value) (p : List UInt8) (k : Nat) (s : Nat ⊕ (Nat × Nat)) (e' : Ending) (w' : World) : Prop :=
  w.grownBy w' (some a) ∧ match s with
    | .inl er => e' = .returned (.int .u64 0) ∧ ∃ q, IsRefR w' a v p k er q
    | .inr (val, len) => e' = .returned (.int .u64 (val : Int)) ∧ ∃ q, IsRefR w' a v p (k + len) 0 q

theorem refVal {n i : Nat} {c : UInt8} (hn : n < 2 ^ (7 * i)) (hi : i ≤ 8) :
    IntKind.u64.wrap ((n : Int) + IntKind.u64.wrap ((c.toNat : Int) % 128 * 2 ^ (7 * i))) = ((n + c.toNat % 128 * 2 ^ (7 * i) : Nat) : Int) := by
  have h1 := num_bound (m := c.toNat % 128) hn (by omega)
  have h2 := num_fits hi
  have e1 : ((c.toNat : Int) % 128 * 2 ^ (7 * i)) = ((c.toNat % 128 * 2 ^ (7 * i) : Nat) : Int) := by push_cast; rfl
  rw [e1, wrap_u64_nat (by omega), ← Int.natCast_add, wrap_u64_nat (by omega)]
theorem refVal9 {n : Nat} {c : UInt8} (hn : n < 2 ^ (7 * 9)) (hc : c.toNat ≤ 1) :
    IntKind.u64.wrap ((n : Int) + (c.toNat : Int) % 128 * 9223372036854775808) = ((n + c.toNat * 2 ^ (7 * 9) : Nat) : Int) := by
  have e0 : (c.toNat : Int) % 128 = (c.toNat : Int) := by omega
  rw [e0, show (9223372036854775808 : Int) = ((9223372036854775808 : Nat) : Int) from rfl, ← Int.natCast_mul, ← Int.natCast_add]
  exact wrap_u64_nat (by omega)

set_option maxRecDepth 20000 in
set_option maxHeartbeats 800000 in
theorem refNum_any {w : World} {a : Nat} {v : Value} {p : List UInt8} {k q : Nat} (h : IsRefR w a v p k 0 q) :
    Calls Try.prog 28 #[.pointer (some ⟨a, 0, none⟩)] w (RefNumPost w a v p k (numS (p.drop k))) := by
  have h1 := h.c1
  have h2 := h.c2
  have h3 := h.f1 1
  have hle := h.le
  have hs := h.small
  go_enter Try.func28, Try.ntmps28
  go_wp2_with fail
  go_loopw [3, 4, 5] (fun n i _ wr => ∃ n' i' d : Nat, n = .int .u64 (n' : Int) ∧ i = .int .i64 (i' : Int) ∧ i' ≤ 9 ∧ k + i' ≤ p.length ∧ wr = w.drewN d ∧ NumAt p k i' n') (fun _ i _ _ => 10 - (intOf i).toNat)
  case atStart => exact ⟨0, 0, 0, rfl, rfl, by omega, by omega, rfl, rfl, by simp⟩
  case round =>
    obtain ⟨n', i', d, rfl, rfl, hi, hil, rfl, hat⟩ := hrel
    have hr := h.drewN d
    by_cases hend : k + i' = p.length
    · obtain ⟨sa, sc, rfl⟩ := h.rd.shape
      have h0 := h.c0
      go_wp2_with fail
      go_quiet (fail)
      go_wp2_with fail
      refine (refFail_any (h.drewN _) 3 k 3 rfl).mono ?_
      rintro e' w1 ⟨rfl, hg, hr1⟩
      go_wp2_with fail
      go_ret
      refine ⟨grown_trans (grown_drewN w _ _) hg, ?_⟩
      rw [hat.short hi hend]
      exact ⟨rfl, _, hr1⟩
    · have hlt : k + i' < p.length := by omega
      obtain ⟨c, hc⟩ : ∃ c, c = p.getD (k + i') 0 := ⟨_, rfl⟩
      rcases h.rd with ⟨rfl, rfl⟩ | ⟨b, off, cap, rfl, g1, g2, g3, g4, g5⟩
      · simp at hlt
      have hg5 := g5 (k + i') hlt
      have h0 := h.c0
      clear g5
      rw [← hc] at hg5
      unfold u8v at hg5
      have HC := Lib.hid hc
      clear hc
      have hc0 := c.toNat_lt
      have HT := Lib.hid hat
      clear hat
      by_cases h9 : i' = 9
      · subst h9
        by_cases hc1 : 1 < c.toNat
        · have hb : ((c.toNat : Int) == 0) = false := by simp; omega
          go_wp2_with fail
          go_quiet (fail)
          go_wp2_with fail
          go_quiet (fail)
          go_wp2_with fail
          refine (refFail_any (h.drewN _) 11 k 11 rfl).mono ?_
          rintro e' w1 ⟨rfl, hg, hr1⟩
          go_wp2_with fail
          go_ret
          refine ⟨grown_trans (grown_drewN w _ _) hg, ?_⟩
          rw [HT.out.wide hlt HC.out hc1]
          exact ⟨rfl, _, hr1⟩
        · by_cases hc2 : c.toNat = 0
          · have hb : ((c.toNat : Int) == 0) = true := by simp; omega
            have Hc2 := Lib.hid hc2
            clear hc2
            go_wp2_with fail
            go_quiet (fail)
            go_wp2_with fail
            go_quiet (fail)
            go_wp2_with fail
            refine (refFail_any (h.drewN _) 10 k 10 rfl).mono ?_
            rintro e' w1 ⟨rfl, hg, hr1⟩
            go_wp2_with fail
            go_ret
            refine ⟨grown_trans (grown_drewN w _ _) hg, ?_⟩
            rw [HT.out.form (by omega) hlt HC.out (by omega) Hc2.out]
            exact ⟨rfl, _, hr1⟩
          · have hb : ((c.toNat : Int) == 0) = false := by simp; omega
            go_wp2_with fail
            go_quiet (fail)
            go_wp2_with fail
            go_quiet (fail)
            go_wp2_with fail
            go_ret
            refine ⟨grown_trans (grown_drewN w _ _) (grown_set _ a 1 _), ?_⟩
            rw [HT.out.last (by omega) hlt HC.out (by omega) (by omega) (by omega)]
            refine ⟨ret_int (refVal9 HT.out.2 (by omega)), q, ?_⟩
            exact (h.drewN _).at_ (k' := k + (9 + 1)) (by omega)
      · have hi8 : i' ≤ 8 := by omega
        have h9' : ((i' : Int) == 9) = false := by simp; omega
        by_cases hc2 : 0 < i' ∧ c.toNat = 0
        · obtain ⟨hc2, hc3⟩ := hc2
          have hb : ((c.toNat : Int) == 0) = true := by simp; omega
          have hc6 : c.toNat < 128 := by omega
          have Hc3 := Lib.hid hc3
          clear hc3
          go_wp2_with fail
          go_quiet (fail)
          go_wp2_with fail
          go_quiet (fail)
          go_wp2_with fail
          refine (refFail_any (h.drewN _) 10 k 10 rfl).mono ?_
          rintro e' w1 ⟨rfl, hg, hr1⟩
          go_wp2_with fail
          go_ret
          refine ⟨grown_trans (grown_drewN w _ _) hg, ?_⟩
          rw [HT.out.form (by omega) hlt HC.out hc2 Hc3.out]
          exact ⟨rfl, _, hr1⟩
        · have Hc2 := Lib.hid hc2
          clear hc2
          by_cases hc4 : c.toNat < 128
          · by_cases hp : 0 < i'
            · have hb : ((c.toNat : Int) == 0) = false := by have := Hc2.out; simp; omega
              go_wp2_with fail
              go_quiet (fail)
              go_wp2_with fail
              go_quiet (fail)
              go_wp2_with fail
              go_ret
              refine ⟨grown_trans (grown_drewN w _ _) (grown_set _ a 1 _), ?_⟩
              rw [HT.out.last (by omega) hlt HC.out (by omega) Hc2.out hc4]
              refine ⟨ret_int ((refVal HT.out.2 hi8).trans (by rw [Nat.mod_eq_of_lt hc4])), q, ?_⟩
              exact (h.drewN _).at_ (k' := k + (i' + 1)) (by omega)
            · by_cases hc5 : c.toNat = 0
              · have hb : ((c.toNat : Int) == 0) = true := by simp; omega
                have Hc5 := Lib.hid hc5
                clear hc5
                go_wp2_with fail
                go_quiet (fail)
                go_wp2_with fail
                go_quiet (fail)
                go_wp2_with fail
                go_ret
                refine ⟨grown_trans (grown_drewN w _ _) (grown_set _ a 1 _), ?_⟩
                rw [HT.out.last (by omega) hlt HC.out (by omega) Hc2.out hc4]
                refine ⟨ret_int ((refVal HT.out.2 hi8).trans (by rw [Nat.mod_eq_of_lt hc4])), q, ?_⟩
                exact (h.drewN _).at_ (k' := k + (i' + 1)) (by omega)
              · have hb : ((c.toNat : Int) == 0) = false := by simp; omega
                go_wp2_with fail
                go_quiet (fail)
                go_wp2_with fail
                go_quiet (fail)
                go_wp2_with fail
                go_ret
                refine ⟨grown_trans (grown_drewN w _ _) (grown_set _ a 1 _), ?_⟩
                rw [HT.out.last (by omega) hlt HC.out (by omega) Hc2.out hc4]
                refine ⟨ret_int ((refVal HT.out.2 hi8).trans (by rw [Nat.mod_eq_of_lt hc4])), q, ?_⟩
                exact (h.drewN _).at_ (k' := k + (i' + 1)) (by omega)
          · have hb : ((c.toNat : Int) == 0) = false := by simp; omega
            go_wp2_with fail
            go_quiet (fail)
            go_wp2_with fail
            go_quiet (fail)
            go_wp2_with fail
            all_goals
              go_roundw
              case rel => exact ⟨_, i' + 1, _, by rw [refVal HT.out.2 hi8], by go_num, by omega, by omega, rfl, HT.out.more hi8 hlt HC.out hc4⟩
              case measure => simp [intOf]; omega

end Go.Proofs.Ytoeaaddkeefgoaa
