/-
  What codec's reader does with a byte and a number: (*Reader).next, (*Reader).num.
-/
import Derived.Test.YthaflimgigppaaaReader
namespace Go.Proofs.Ythaflimgigppaaa
open Go.RowKit

/-- The panic of the reader's own: a fault with the error e. -/
def faultOf (e : Nat) : List PanicEntry := [{ v := .iface 56 (.agg #[.int .i64 (e : Int)]), recovered := false }]

set_option maxHeartbeats 400000 in
theorem next_end {w : World} {a : Nat} {v : Value} {p : List UInt8} {k e : Nat} (h : IsReader w a v p k e) (hk : k = p.length) :
    Calls Try.prog 28 #[.pointer (some ⟨a, 0, none⟩)] w fun e' w' => e' = .panicked (faultOf 3) ∧ ∃ n, w' = w.drewN n := by
  have hl := left_any h
  have hz : ((p.length : Int) - (k : Int)) = 0 := by omega
  rw [hz] at hl
  clear hz
  have HL := Lib.hid hl
  clear hl
  go_enter Try.func28, Try.ntmps28
  go_wp2_with fail
  refine HL.out.mono ?_
  rintro e' w1 ⟨rfl, n, rfl⟩
  go_wp2_with fail
  exact ⟨rfl, rfl, n, rfl⟩

set_option maxHeartbeats 400000 in
theorem next_byte {w : World} {a : Nat} {v : Value} {p : List UInt8} {k e : Nat} (h : IsReader w a v p k e) (hk : k < p.length) :
    Calls Try.prog 28 #[.pointer (some ⟨a, 0, none⟩)] w fun e' w' => e' = .returned (u8v (p.getD k 0)) ∧ w.grownBy w' (some a) ∧ IsReader w' a v p (k + 1) e := by
  have hl := left_any h
  have HL := Lib.hid hl
  clear hl
  go_enter Try.func28, Try.ntmps28
  go_wp2_with fail
  refine HL.out.mono ?_
  rintro e' w1 ⟨rfl, n, rfl⟩
  have h0 := h.c0
  have h1 := h.c1
  have hf := h.f1
  have hs := h.small
  rcases h.rd with ⟨rfl, rfl⟩ | ⟨b, off, cap, rfl, g1, g2, g3, g4, g5⟩
  · simp at hk
  have hc := g5 k hk
  go_wp2_with fail
  go_quiet (fail)
  go_wp2
  go_ret
  refine ⟨?_, grown_trans (grown_drewN w _ _) (grown_set _ a 1 _), ?_⟩
  · simp only [List.getD_eq_getElem?_getD, List.getElem?_eq_getElem hk, Option.getD_some]; rfl
  · exact (h.drewN (n + nq)).at_ (k' := k + 1) (by omega)

/-- What num ends in, at the place k of the bytes p. -/
def NumPost (w : World) (a : Nat) (v : Value) (p : List UInt8) (k e : Nat) (s : Nat ⊕ (Nat × Nat)) (e' : Ending) (w' : World) : Prop :=
  w.grownBy w' (some a) ∧ match s with
    | .inl er => e' = .panicked (faultOf er) ∧ ∃ k', IsReader w' a v p k' e
    | .inr (val, len) => e' = .returned (.int .u64 (val : Int)) ∧ IsReader w' a v p (k + len) e

set_option maxRecDepth 20000 in
set_option maxHeartbeats 400000 in
theorem num_any {w : World} {a : Nat} {v : Value} {p : List UInt8} {k e : Nat} (h : IsReader w a v p k e) :
    Calls Try.prog 19 #[.pointer (some ⟨a, 0, none⟩)] w (NumPost w a v p k e (numS (p.drop k))) := by
  go_enter Try.func19, Try.ntmps19
  go_wp2_with fail
  go_loopw [3, 4] (fun n i wr => ∃ n' i' : Nat, n = .int .u64 (n' : Int) ∧ i = .int .i64 (i' : Int) ∧ i' ≤ 9 ∧ w.grownBy wr (some a) ∧ IsReader wr a v p (k + i') e ∧ NumAt p k i' n') (fun _ i _ => 10 - (intOf i).toNat)
  case atStart => exact ⟨0, 0, rfl, rfl, by omega, grown_refl _ _, h, rfl, by simp⟩
  case round =>
    obtain ⟨n', i', rfl, rfl, hi, hg, hr, hat⟩ := hrel
    by_cases hend : k + i' = p.length
    · go_wp2_with fail
      refine (next_end hr hend).mono ?_
      rintro e' w1 ⟨rfl, n, rfl⟩
      go_wp2_with fail
      refine ⟨rfl, grown_trans hg (grown_drewN wr n _), ?_⟩
      rw [hat.short hi hend]
      exact ⟨rfl, _, hr.drewN n⟩
    · have hlt : k + i' < p.length := by have := hr.le; omega
      obtain ⟨c, hc⟩ : ∃ c, c = p.getD (k + i') 0 := ⟨_, rfl⟩
      have hnext := next_byte hr hlt
      rw [← hc] at hnext
      unfold u8v at hnext
      have HN := Lib.hid hnext
      have HC := Lib.hid hc
      clear hc hnext
      have hc0 := c.toNat_lt
      by_cases h9 : i' = 9
      · subst h9
        have hat9 := Lib.hid hat
        clear hat
        by_cases hc1 : 1 < c.toNat
        · go_wp2_with fail
          refine HN.out.mono ?_
          rintro e' w1 ⟨rfl, hg1, hr1⟩
          go_wp2_with fail
          refine ⟨rfl, grown_trans hg hg1, ?_⟩
          rw [hat9.out.wide hlt HC.out hc1]
          exact ⟨rfl, _, hr1⟩
        · by_cases hc2 : c.toNat = 0
          · have hb : ((c.toNat : Int) == 0) = true := by simp; omega
            have Hc2 := Lib.hid hc2
            clear hc2
            go_wp2_with fail
            refine HN.out.mono ?_
            rintro e' w1 ⟨rfl, hg1, hr1⟩
            go_wp2_with fail
            refine ⟨rfl, grown_trans hg hg1, ?_⟩
            rw [hat9.out.form (by omega) hlt HC.out (by omega) Hc2.out]
            exact ⟨rfl, _, hr1⟩
          · have hb : ((c.toNat : Int) == 0) = false := by simp; omega
            go_wp2_with fail
            refine HN.out.mono ?_
            rintro e' w1 ⟨rfl, hg1, hr1⟩
            go_wp2_with fail
            go_ret
            refine ⟨grown_trans hg hg1, ?_⟩
            rw [hat9.out.last (by omega) hlt HC.out (by omega) (by omega) (by omega)]
            refine ⟨ret_int (num_val9 hat9.out.2 (by omega)), ?_⟩
            exact hr1
      · have hi8 : i' ≤ 8 := by omega
        have h9' : ((i' : Int) == 9) = false := by simp; omega
        by_cases hc2 : 0 < i' ∧ c.toNat = 0
        · obtain ⟨hc2, hc3⟩ := hc2
          have hb : ((c.toNat : Int) == 0) = true := by simp; omega
          have Hc3 := Lib.hid hc3
          clear hc3
          go_wp2_with fail
          refine HN.out.mono ?_
          rintro e' w1 ⟨rfl, hg1, hr1⟩
          go_wp2_with fail
          refine ⟨rfl, grown_trans hg hg1, ?_⟩
          rw [hat.form (by omega) hlt HC.out hc2 Hc3.out]
          exact ⟨rfl, _, hr1⟩
        · have Hat := Lib.hid hat
          have Hc2 := Lib.hid hc2
          clear hat hc2
          by_cases hc4 : c.toNat < 128
          · by_cases hp : 0 < i'
            · have hb : ((c.toNat : Int) == 0) = false := by have := Hc2.out; simp; omega
              go_wp2_with fail
              refine HN.out.mono ?_
              rintro e' w1 ⟨rfl, hg1, hr1⟩
              go_wp2_with fail
              go_ret
              refine ⟨grown_trans hg hg1, ?_⟩
              rw [Hat.out.last (by omega) hlt HC.out (by omega) Hc2.out hc4]
              exact ⟨ret_int ((num_val Hat.out.2 hi8).trans (by rw [Nat.mod_eq_of_lt hc4])), hr1⟩
            · go_wp2_with fail
              refine HN.out.mono ?_
              rintro e' w1 ⟨rfl, hg1, hr1⟩
              go_wp2_with fail
              go_ret
              refine ⟨grown_trans hg hg1, ?_⟩
              rw [Hat.out.last (by omega) hlt HC.out (by omega) Hc2.out hc4]
              exact ⟨ret_int ((num_val Hat.out.2 hi8).trans (by rw [Nat.mod_eq_of_lt hc4])), hr1⟩
          · have hb : ((c.toNat : Int) == 0) = false := by simp; omega
            go_wp2_with fail
            refine HN.out.mono ?_
            rintro e' w1 ⟨rfl, hg1, hr1⟩
            go_wp2_with fail
            all_goals
              go_roundw
              case rel => exact ⟨_, i' + 1, by rw [num_val Hat.out.2 hi8], by go_num, by omega, grown_trans hg hg1, hr1, Hat.out.more hi8 hlt HC.out hc4⟩
              case measure => simp [intOf]; omega

end Go.Proofs.Ythaflimgigppaaa
