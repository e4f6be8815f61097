/-
  Plain: bits of a frame are turned, one behind the other.
-/
import Derived.Test.YtfjigkpgoalbnaaBurst
import Derived.Test.YtfjigkpgoalbnaaBack
import Derived.Test.YtfjigkpgoalbnaaOpen
namespace Go.Proofs.Ytfjigkpgoalbnaa
open Go.RowKit

theorem frameOf_length (l : List UInt8) : (frameOf l).length = (enc l.length).length + l.length + 4 := by simp only [frameOf, List.length_append, sumB_length]
theorem enc_pos (n : Nat) : 0 < (enc n).length := by
  unfold enc
  by_cases h : n < 128
  · rw [encF_small h]; simp
  · rw [encF_big h]; simp

/-- Which bit is turned behind k rounds. -/
def turnedBit (a k m n : Nat) : Bool := decide (a ≤ n) && decide (n < a + k) && m.testBit (n - a)
theorem turned_out {a k m n : Nat} (h : n < a ∨ a + k ≤ n) : turnedBit a k m n = false := by
  unfold turnedBit
  rcases h with h | h
  · rw [decide_eq_false (by omega : ¬ a ≤ n)]; rfl
  · rw [decide_eq_false (by omega : ¬ n < a + k), Bool.and_false]; rfl
/-- The frame of l, its bits from 'a' on turned by the first k bits of m. -/
structure Flipped (l g : List UInt8) (a k m : Nat) (t : Bool) : Prop where
  length : g.length = (frameOf l).length
  head : g.take (enc l.length).length = enc l.length
  bits : ∀ n, n < 8 * l.length + 32 → bitsOf (g.drop (enc l.length).length) n = (bitsOf (l ++ sumB (crc l)) n ^^ turnedBit a k m n)
  none : t = false → g = frameOf l
  some : t = true → ∃ n, n < 8 * l.length + 32 ∧ turnedBit a k m n = true

theorem Flipped.start (l : List UInt8) (a m : Nat) : Flipped l (frameOf l) a 0 m false := by
  have hd : (frameOf l).drop (enc l.length).length = l ++ sumB (crc l) := by rw [frameOf, List.append_assoc, List.drop_left]
  have ht : (frameOf l).take (enc l.length).length = enc l.length := by rw [frameOf, List.append_assoc, List.take_left]
  refine ⟨rfl, ht, fun n _ => ?_, fun _ => rfl, fun h => by cases h⟩
  rw [hd]
  have : turnedBit a 0 m n = false := turned_out (by omega)
  rw [this, Bool.xor_false]

theorem turned_next (a k m n : Nat) : turnedBit a (k + 1) m n = (turnedBit a k m n ^^ (decide (n = a + k) && m.testBit k)) := by
  unfold turnedBit
  by_cases h1 : n = a + k
  · subst h1
    simp
  · by_cases h2 : a ≤ n <;> by_cases h3 : n < a + k
    · have : n < a + (k + 1) := by omega
      simp [h1, h2, h3, this]
    · have : ¬ n < a + (k + 1) := by omega
      simp [h1, h2, h3, this]
    · simp [h1, h2]
    · simp [h1, h2]

theorem Flipped.stay {l g : List UInt8} {a k m : Nat} {t : Bool} (h : Flipped l g a k m t) (hk : m.testBit k = false ∨ 8 * l.length + 32 ≤ a + k) : Flipped l g a (k + 1) m t := by
  have e : ∀ n, n < 8 * l.length + 32 → turnedBit a (k + 1) m n = turnedBit a k m n := by
    intro n hn
    rw [turned_next]
    rcases hk with hk | hk
    · simp [hk]
    · have : ¬ n = a + k := by omega
      simp [this]
  refine ⟨h.length, h.head, fun n hn => by rw [e n hn]; exact h.bits n hn, h.none, fun ht => ?_⟩
  obtain ⟨n, hn, hb⟩ := h.some ht
  exact ⟨n, hn, by rw [e n hn]; exact hb⟩

/-- The byte with one bit turned. -/
def turnByte (c : UInt8) (i : Nat) : UInt8 := UInt8.ofNat (c.toNat ^^^ 2 ^ i)
theorem turnByte_toNat (c : UInt8) {i : Nat} (hi : i < 8) : (turnByte c i).toNat = c.toNat ^^^ 2 ^ i := by
  have h : c.toNat ^^^ 2 ^ i < 2 ^ 8 := Nat.xor_lt_two_pow c.toNat_lt (Nat.pow_lt_pow_right (by omega) hi)
  unfold turnByte
  rw [UInt8.toNat_ofNat', Nat.mod_eq_of_lt h]
theorem turnByte_bit (c : UInt8) {i j : Nat} (hi : i < 8) : (turnByte c i).toNat.testBit j = (c.toNat.testBit j ^^ decide (j = i)) := by
  rw [turnByte_toNat c hi, Nat.testBit_xor, Nat.testBit_two_pow]
  congr 1
  rw [decide_eq_decide]
  exact eq_comm

theorem Flipped.turn {l g : List UInt8} {a k m : Nat} {t : Bool} (h : Flipped l g a k m t) (hk : m.testBit k = true) (hl : a + k < 8 * l.length + 32) :
    Flipped l (g.set ((enc l.length).length + (a + k) / 8) (turnByte (g.getD ((enc l.length).length + (a + k) / 8) 0) ((a + k) % 8))) a (k + 1) m true := by
  have hlen := h.length
  rw [frameOf_length] at hlen
  refine ⟨by rw [List.length_set]; exact h.length, ?_, fun n hn => ?_, (fun e => by cases e), fun _ => ⟨a + k, hl, ?_⟩⟩
  · rw [List.take_set_of_le (by omega)]; exact h.head
  · rw [turned_next, ← Bool.xor_assoc, ← h.bits n hn]
    have hdrop : (g.set ((enc l.length).length + (a + k) / 8) (turnByte (g.getD ((enc l.length).length + (a + k) / 8) 0) ((a + k) % 8))).drop (enc l.length).length = (g.drop (enc l.length).length).set ((a + k) / 8) (turnByte (g.getD ((enc l.length).length + (a + k) / 8) 0) ((a + k) % 8)) := by
      rw [List.drop_set, if_neg (by omega), Nat.add_sub_cancel_left]
    rw [hdrop]
    unfold bitsOf
    have hq : (a + k) / 8 < (g.drop (enc l.length).length).length := by rw [List.length_drop]; omega
    by_cases hn8 : n / 8 = (a + k) / 8
    · have e1 : ((g.drop (enc l.length).length).set ((a + k) / 8) (turnByte (g.getD ((enc l.length).length + (a + k) / 8) 0) ((a + k) % 8))).getD (n / 8) 0 = turnByte (g.getD ((enc l.length).length + (a + k) / 8) 0) ((a + k) % 8) := by
        rw [hn8, List.getD_eq_getElem?_getD, List.getElem?_set_self hq]; rfl
      have e2 : (g.drop (enc l.length).length).getD (n / 8) 0 = g.getD ((enc l.length).length + (a + k) / 8) 0 := by
        rw [hn8, List.getD_eq_getElem?_getD, List.getElem?_drop, ← List.getD_eq_getElem?_getD]
      rw [e1, e2, turnByte_bit _ (by omega), hk, Bool.and_true]
      congr 1
      rw [decide_eq_decide]
      omega
    · have e1 : ((g.drop (enc l.length).length).set ((a + k) / 8) (turnByte (g.getD ((enc l.length).length + (a + k) / 8) 0) ((a + k) % 8))).getD (n / 8) 0 = (g.drop (enc l.length).length).getD (n / 8) 0 := by
        rw [List.getD_eq_getElem?_getD, List.getElem?_set_ne (fun e => hn8 e.symm), ← List.getD_eq_getElem?_getD]
      have : ¬ n = a + k := fun e => hn8 (by rw [e])
      rw [e1]
      simp [this]
  · unfold turnedBit
    simp [hk]

/-- What Open answers of it. -/
theorem Flipped.opened {l g : List UInt8} {a m : Nat} {t : Bool} (h : Flipped l g a 32 m t) (hl : l.length ≤ 4096) : openS g = if t then .inl 12 else .inr (l, (frameOf l).length) := by
  have hlen := h.length
  rw [frameOf_length] at hlen
  have hg : g = enc l.length ++ g.drop (enc l.length).length := by conv => lhs; rw [← List.take_append_drop (enc l.length).length g, h.head]
  have hn : numS g = .inr (l.length, (enc l.length).length) := by rw [hg]; exact numS_enc _ (by omega)
  have hll : ((g.drop (enc l.length).length).take l.length).length = l.length := by rw [List.length_take, List.length_drop]; omega
  have hyl : ((g.drop ((enc l.length).length + l.length)).take 4).length = 4 := by rw [List.length_take, List.length_drop]; omega
  have hsplit : (g.drop (enc l.length).length).take l.length ++ (g.drop ((enc l.length).length + l.length)).take 4 = g.drop (enc l.length).length := by
    have h1 : (g.drop ((enc l.length).length + l.length)).take 4 = (g.drop (enc l.length).length).drop l.length := by
      rw [List.drop_drop]; exact List.take_of_length_le (by rw [List.length_drop]; omega)
    rw [h1, List.take_append_drop]
  have hO : openS g = if sumB (crc ((g.drop (enc l.length).length).take l.length)) = (g.drop ((enc l.length).length + l.length)).take 4 then .inr ((g.drop (enc l.length).length).take l.length, (enc l.length).length + l.length + 4) else .inl 12 := by
    simp only [openS, hn]
    rw [if_neg (by omega), if_neg (by omega)]
  rw [hO]
  cases t with
  | false =>
    have e := h.none rfl
    have e1 : g.drop (enc l.length).length = l ++ sumB (crc l) := by rw [e, frameOf, List.append_assoc, List.drop_left]
    have e2 : (g.drop (enc l.length).length).take l.length = l := by rw [e1, List.take_left]
    have e3 : (g.drop ((enc l.length).length + l.length)).take 4 = sumB (crc l) := by rw [← List.drop_drop, e1, List.drop_left]; rfl
    rw [e2, e3, if_pos rfl, frameOf_length]
    rfl
  | true =>
    obtain ⟨n, hn1, hn2⟩ := h.some rfl
    have hn2' := hn2
    unfold turnedBit at hn2'
    simp only [Bool.and_eq_true, decide_eq_true_eq] at hn2'
    rw [if_neg (burst (y := (g.drop ((enc l.length).length + l.length)).take 4) hll hyl a (turnedBit a 32 m) (fun q hq => by rw [hsplit]; exact h.bits q hq)
      (fun q hq => turned_out (.inl hq)) (fun q hq _ => turned_out (.inr hq)) n hn2'.1.1 hn1 hn2)]
    rfl

end Go.Proofs.Ytfjigkpgoalbnaa
