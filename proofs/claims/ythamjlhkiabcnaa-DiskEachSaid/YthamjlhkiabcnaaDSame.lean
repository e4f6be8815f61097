/-
  Two lists held against each other: slices.Equal of texts, the document's Texts; and Same.
-/
import Derived.Test.YthamjlhkiabcnaaDRest
import Derived.Laws.StructEq
namespace Go.Proofs.Ythamjlhkiabcnaa
open Go.RowKit

theorem take_step {α : Type} {l m : List α} {k : Nat} (hk : k < l.length) (hm : k < m.length) (h : l.take k = m.take k) (he : l[k] = m[k]) : l.take (k + 1) = m.take (k + 1) := by
  rw [List.take_succ_eq_append_getElem hk, List.take_succ_eq_append_getElem hm, h, he]
theorem take_all {α : Type} {l m : List α} {k : Nat} (hk : k = l.length) (hm : k = m.length) (h : l.take k = m.take k) : l = m := by
  rw [List.take_of_length_le (by omega), List.take_of_length_le (by omega)] at h; exact h
theorem ne_of_at {α : Type} {l m : List α} {k : Nat} (hk : k < l.length) (hm : k < m.length) (h : l[k] ≠ m[k]) : l ≠ m := by
  rintro rfl; exact h rfl

theorem beq_text (x y : ByteArray) : (x.toList == y.toList) = decide (x = y) := by
  rw [ByteArray.toList_eq, ByteArray.toList_eq, Bool.eq_iff_iff]
  simp only [beq_iff_eq, decide_eq_true_eq]
  constructor
  · intro h; cases x; cases y; simp_all [Array.ext_iff]
  · rintro rfl; rfl
theorem drewN_two (w : World) (n m : Nat) : (w.drewN n).drewN m = w.drewN (n + m) := by simp

/-- Held against each other: a bool, and no memory turned. -/
def Told (b : Bool) (w : World) (e : Ending) (w' : World) : Prop := e = .returned (.bool b) ∧ ∃ n, w' = w.drewN n

section
variable {w : World} {v1 v2 : Value} {l m : List ByteArray}

set_option maxHeartbeats 1600000 in
theorem texts_any (h1 : Row w 1 v1 l.length (strs l)) (h2 : Row w 1 v2 m.length (strs m)) (hl : l.length ≤ 1099511627776) :
    Calls Try.prog 24 #[v1, v2] w (Told (decide (l = m)) w) := by
  obtain ⟨a1, c1, rfl, _, r1⟩ := h1.room
  obtain ⟨a2, c2, rfl, _, r2⟩ := h2.room
  clear h1 h2
  by_cases hlen : l.length = m.length
  · have hb : ((l.length : Int) != (m.length : Int)) = false := by simp [hlen]
    have HL := Lib.hid hlen
    have R1 := Lib.hid r1
    have R2 := Lib.hid r2
    clear hlen r1 r2
    go_enter Try.func24, Try.ntmps24
    go_wp2_with fail
    go_loopw [5] (fun i wr => ∃ k n : Nat, k ≤ l.length ∧ i = .int .i64 (k : Int) ∧ wr = w.drewN n ∧ l.take k = m.take k) (fun i _ => l.length - (intOf i).toNat)
    case atStart => exact ⟨0, 0, Nat.zero_le _, rfl, rfl, rfl⟩
    case round =>
      obtain ⟨k, n, hk, rfl, rfl, ht⟩ := hrel
      have HT := Lib.hid ht
      clear ht
      by_cases hlt : k < l.length
      · have hltm : k < m.length := by rw [← HL.out]; exact hlt
        obtain ⟨b1, o1, rfl, _, q1⟩ := R1.out (by omega)
        obtain ⟨b2, o2, rfl, _, q2⟩ := R2.out (by omega)
        have x1 := q1 k _ (strs_at l k hlt)
        have x2 := q2 k _ (strs_at m k hltm)
        have hstep := Lib.hid (take_step hlt hltm HT.out)
        have hbad := Lib.hid (ne_of_at hlt hltm)
        clear q1 q2
        by_cases he : l[k] = m[k]
        · have hq : ((l[k]).toList == (m[k]).toList) = true := by rw [beq_text]; exact decide_eq_true he
          have HE := Lib.hid he
          clear he
          generalize l[k] = x at *
          generalize m[k] = y at *
          go_wp2_with fail
          go_quiet (fail)
          go_wp2_with fail
          go_roundw
          case rel => exact ⟨k + 1, _, by omega, by go_num, rfl, hstep.out HE.out⟩
          case measure => simp [intOf]; omega
        · have hq : ((l[k]).toList == (m[k]).toList) = false := by rw [beq_text]; exact decide_eq_false he
          have HE := Lib.hid he
          clear he
          generalize l[k] = x at *
          generalize m[k] = y at *
          go_wp2_with fail
          go_quiet (fail)
          go_wp2_with fail
          go_ret
          exact ⟨by rw [decide_eq_false (hbad.out HE.out)]; rfl, _, drewN_two _ _ _⟩
      · obtain rfl : k = l.length := by omega
        go_wp2_with fail
        go_ret
        exact ⟨by rw [decide_eq_true (take_all rfl HL.out HT.out)]; rfl, _, rfl⟩
  · have hb : ((l.length : Int) != (m.length : Int)) = true := by simp; omega
    have hne : decide (l = m) = false := decide_eq_false fun e => hlen (by rw [e])
    rw [hne]
    clear hlen r1 r2 hne
    go_enter Try.func24, Try.ntmps24
    go_wp2_with fail
    go_ret
    exact ⟨rfl, 0, rfl⟩
set_option maxHeartbeats 1600000 in
theorem equal_any (h1 : Row w 1 v1 l.length (strs l)) (h2 : Row w 1 v2 m.length (strs m)) (hl : l.length ≤ 1099511627776) :
    Calls Try.prog 50 #[v1, v2] w (Told (decide (l = m)) w) := by
  obtain ⟨a1, c1, rfl, _, r1⟩ := h1.room
  obtain ⟨a2, c2, rfl, _, r2⟩ := h2.room
  clear h1 h2
  by_cases hlen : l.length = m.length
  · have hb : ((l.length : Int) != (m.length : Int)) = false := by simp [hlen]
    have HL := Lib.hid hlen
    have R1 := Lib.hid r1
    have R2 := Lib.hid r2
    clear hlen r1 r2
    go_enter Try.func50, Try.ntmps50
    go_wp2_with fail
    go_loopw [13] (fun i wr => ∃ k n : Nat, k ≤ l.length ∧ i = .int .i64 (k : Int) ∧ wr = w.drewN n ∧ l.take k = m.take k) (fun i _ => l.length - (intOf i).toNat)
    case atStart => exact ⟨0, 0, Nat.zero_le _, rfl, rfl, rfl⟩
    case round =>
      obtain ⟨k, n, hk, rfl, rfl, ht⟩ := hrel
      have HT := Lib.hid ht
      clear ht
      by_cases hlt : k < l.length
      · have hltm : k < m.length := by rw [← HL.out]; exact hlt
        obtain ⟨b1, o1, rfl, _, q1⟩ := R1.out (by omega)
        obtain ⟨b2, o2, rfl, _, q2⟩ := R2.out (by omega)
        have x1 := q1 k _ (strs_at l k hlt)
        have x2 := q2 k _ (strs_at m k hltm)
        have hstep := Lib.hid (take_step hlt hltm HT.out)
        have hbad := Lib.hid (ne_of_at hlt hltm)
        clear q1 q2
        by_cases he : l[k] = m[k]
        · have hq : ((l[k]).toList == (m[k]).toList) = true := by rw [beq_text]; exact decide_eq_true he
          have HE := Lib.hid he
          clear he
          generalize l[k] = x at *
          generalize m[k] = y at *
          go_wp2_with fail
          go_quiet (fail)
          go_wp2_with fail
          go_roundw
          case rel => exact ⟨k + 1, _, by omega, by go_num, rfl, hstep.out HE.out⟩
          case measure => simp [intOf]; omega
        · have hq : ((l[k]).toList == (m[k]).toList) = false := by rw [beq_text]; exact decide_eq_false he
          have HE := Lib.hid he
          clear he
          generalize l[k] = x at *
          generalize m[k] = y at *
          go_wp2_with fail
          go_quiet (fail)
          go_wp2_with fail
          go_ret
          exact ⟨by rw [decide_eq_false (hbad.out HE.out)]; rfl, _, drewN_two _ _ _⟩
      · obtain rfl : k = l.length := by omega
        go_wp2_with fail
        go_ret
        exact ⟨by rw [decide_eq_true (take_all rfl HL.out HT.out)]; rfl, _, rfl⟩
  · have hb : ((l.length : Int) != (m.length : Int)) = true := by simp; omega
    have hne : decide (l = m) = false := decide_eq_false fun e => hlen (by rw [e])
    rw [hne]
    clear hlen r1 r2 hne
    go_enter Try.func50, Try.ntmps50
    go_wp2_with fail
    go_ret
    exact ⟨rfl, 0, rfl⟩
end

section
variable {w : World} {v1 v2 : Value} {l m : List (Int × ByteArray)}

theorem neq_write (W : World) (a b : Int) (s t : ByteArray) : (binOp .neq 51 (.agg #[.int .i64 a, .string s]) (.agg #[.int .i64 b, .string t])).run Try.prog W = .ok (.bool (!(a == b && s.toList == t.toList))) W := by
  have hp : Try.prog.stoodInHeld 51 = false := by kernel_rfl
  have hu := Try.underlying51
  rw [run_neq_struct]
  rw [run_equalIn_agg (P := Try.prog) W 9999 51 _ _ (by simp [Program.fieldsOf, hu]) hp]
  simp only [Program.fieldsOf, hu]
  simp [Op.eqFields, go_sem]
  split
  · split <;> simp_all
  · simp_all

theorem beq_write (x y : Int × ByteArray) : (x.1 == y.1 && (x.2.toList == y.2.toList)) = decide (x = y) := by
  rw [beq_text, Bool.eq_iff_iff]
  obtain ⟨a, b⟩ := x
  obtain ⟨c, d⟩ := y
  simp

set_option maxHeartbeats 1600000 in
theorem writesEq_any (h1 : Row w 2 v1 l.length (wrs l)) (h2 : Row w 2 v2 m.length (wrs m)) (hl : l.length ≤ 1099511627776) :
    Calls Try.prog 29 #[v1, v2] w (Told (decide (l = m)) w) := by
  have hm : Try.prog.eqGuardType Try.prog.depth 51 = false := by kernel_rfl
  have hnw := neq_write
  obtain ⟨a1, c1, rfl, _, r1⟩ := h1.room
  obtain ⟨a2, c2, rfl, _, r2⟩ := h2.room
  clear h1 h2
  by_cases hlen : l.length = m.length
  · have hb : ((l.length : Int) != (m.length : Int)) = false := by simp [hlen]
    have HL := Lib.hid hlen
    have R1 := Lib.hid r1
    have R2 := Lib.hid r2
    clear hlen r1 r2
    go_enter Try.func29, Try.ntmps29
    go_wp2_with fail
    go_loopw [5] (fun i wr => ∃ k n : Nat, k ≤ l.length ∧ i = .int .i64 (k : Int) ∧ wr = w.drewN n ∧ l.take k = m.take k) (fun i _ => l.length - (intOf i).toNat)
    case atStart => exact ⟨0, 0, Nat.zero_le _, rfl, rfl, rfl⟩
    case round =>
      obtain ⟨k, n, hk, rfl, rfl, ht⟩ := hrel
      have HT := Lib.hid ht
      clear ht
      by_cases hlt : k < l.length
      · have hltm : k < m.length := by rw [← HL.out]; exact hlt
        obtain ⟨b1, o1, rfl, _, q1⟩ := R1.out (by omega)
        obtain ⟨b2, o2, rfl, _, q2⟩ := R2.out (by omega)
        have x1 := q1 _ _ (wrs_at l k hlt).1
        have x1' := q1 _ _ (wrs_at l k hlt).2
        have x2 := q2 _ _ (wrs_at m k hltm).1
        have x2' := q2 _ _ (wrs_at m k hltm).2
        rw [show o1 + (k * 2 + 1) = o1 + k * 2 + 1 by omega] at x1'
        rw [show o2 + (k * 2 + 1) = o2 + k * 2 + 1 by omega] at x2'
        have hstep := Lib.hid (take_step hlt hltm HT.out)
        have hbad := Lib.hid (ne_of_at hlt hltm)
        clear q1 q2
        by_cases he : l[k] = m[k]
        · have hq : ((l[k]).1 == (m[k]).1 && ((l[k]).2.toList == (m[k]).2.toList)) = true := by rw [beq_write]; exact decide_eq_true he
          have HE := Lib.hid he
          clear he
          generalize l[k] = x at *
          generalize m[k] = y at *
          obtain ⟨xi, xs⟩ := x
          obtain ⟨yi, ys⟩ := y
          simp only at x1 x1' x2 x2' hq
          go_wp2_with fail
          go_quiet (fail)
          go_wp2_with fail
          go_roundw
          case rel => exact ⟨k + 1, _, by omega, by go_num, rfl, hstep.out HE.out⟩
          case measure => simp [intOf]; omega
        · have hq : ((l[k]).1 == (m[k]).1 && ((l[k]).2.toList == (m[k]).2.toList)) = false := by rw [beq_write]; exact decide_eq_false he
          have HE := Lib.hid he
          clear he
          generalize l[k] = x at *
          generalize m[k] = y at *
          obtain ⟨xi, xs⟩ := x
          obtain ⟨yi, ys⟩ := y
          simp only at x1 x1' x2 x2' hq
          go_wp2_with fail
          go_quiet (fail)
          go_wp2_with fail
          go_ret
          exact ⟨by rw [decide_eq_false (hbad.out HE.out)]; rfl, _, drewN_two _ _ _⟩
      · obtain rfl : k = l.length := by omega
        go_wp2_with fail
        go_ret
        exact ⟨by rw [decide_eq_true (take_all rfl HL.out HT.out)]; rfl, _, rfl⟩
  · have hb : ((l.length : Int) != (m.length : Int)) = true := by simp; omega
    have hne : decide (l = m) = false := decide_eq_false fun e => hlen (by rw [e])
    rw [hne]
    clear hlen r1 r2 hne
    go_enter Try.func29, Try.ntmps29
    go_wp2_with fail
    go_ret
    exact ⟨rfl, 0, rfl⟩
end

end Go.Proofs.Ythamjlhkiabcnaa
