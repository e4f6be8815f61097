/-
  Plain: what is laid as a number is read as that number, and what is read is what would be laid.
-/
import Derived.Test.YthaflimgigppaaaText
namespace Go.Proofs.Ythaflimgigppaaa
open Go.RowKit

theorem hib_toNat (m : Nat) : (hib m).toNat = m % 128 + 128 := by
  simp [hib, UInt8.toNat_ofNat']; omega

theorem numF_encF : ∀ (k i acc m : Nat) (rest : List UInt8), m < 128 ^ (k + 1) → i + k + 1 = 10 → acc + m * 2 ^ (7 * i) < 18446744073709551616 → (0 < i → 0 < m) →
    numF (k + 1) i acc (encF (k + 1) m ++ rest) = .inr (acc + m * 2 ^ (7 * i), i + (encF (k + 1) m).length) := by
  intro k
  induction k with
  | zero =>
    intro i acc m rest hm hi hb hp
    have hm' : m < 128 := by simpa using hm
    have h9 : i = 9 := by omega
    subst h9
    rw [encF_small hm', List.singleton_append, numF]
    have e : (UInt8.ofNat m).toNat = m := by have := byte_small hm'; omega
    have : m ≤ 1 := by omega
    rw [e, if_neg (by omega), if_neg (by have := hp (by omega); omega), if_pos hm']
    rfl
  | succ k ih =>
    intro i acc m rest hm hi hb hp
    by_cases hs : m < 128
    · rw [encF_small hs, List.singleton_append, numF]
      have e : (UInt8.ofNat m).toNat = m := by have := byte_small hs; omega
      rw [e, if_neg (by omega), if_neg (fun h => by have := hp h.1; omega), if_pos hs]
      rfl
    · rw [encF_big hs, List.cons_append, numF, hib_toNat]
      rw [if_neg (by omega), if_neg (by omega), if_neg (by omega)]
      have e1 : (m % 128 + 128) % 128 = m % 128 := by omega
      have e2 : 2 ^ (7 * (i + 1)) = 128 * 2 ^ (7 * i) := by rw [Nat.mul_add, Nat.pow_add]; omega
      have e3 : acc + m % 128 * 2 ^ (7 * i) + m / 128 * 2 ^ (7 * (i + 1)) = acc + m * 2 ^ (7 * i) := by
        rw [e2, ← Nat.mul_assoc, Nat.add_assoc, ← Nat.add_mul]
        congr 2
        omega
      have hd : m / 128 < 128 ^ (k + 1) := by
        rw [Nat.pow_succ] at hm
        exact Nat.div_lt_of_lt_mul (by omega)
      rw [e1, ih (i + 1) _ (m / 128) rest hd (by omega) (by rw [e3]; exact hb) (fun _ => by omega), e3]
      simp only [List.length_cons]
      congr 2
      omega

theorem numS_enc {n : Nat} (rest : List UInt8) (hn : n < 18446744073709551616) : numS (enc n ++ rest) = .inr (n, (enc n).length) := by
  have := numF_encF 9 0 0 n rest (by omega) rfl (by omega) (by omega)
  simp only [Nat.mul_zero, Nat.pow_zero, Nat.mul_one, Nat.zero_add, Nat.reduceAdd] at this
  exact this

theorem encF_numF : ∀ (k i acc : Nat) (p : List UInt8) (v L : Nat), i + k + 1 = 10 → numF (k + 1) i acc p = .inr (v, L) →
    ∃ m, v = acc + m * 2 ^ (7 * i) ∧ i < L ∧ p.take (L - i) = encF (k + 1) m ∧ (0 < i → 0 < m) := by
  intro k
  induction k with
  | zero =>
    intro i acc p v L hi h
    cases p with
    | nil => simp [numF] at h
    | cons c r =>
      rw [numF] at h
      by_cases h1 : i = 9 ∧ 1 < c.toNat
      · simp [h1] at h
      rw [if_neg h1] at h
      by_cases h2 : 0 < i ∧ c.toNat = 0
      · simp [h2] at h
      rw [if_neg h2] at h
      have h3 : c.toNat < 128 := by omega
      rw [if_pos h3] at h
      simp only [Sum.inr.injEq, Prod.mk.injEq] at h
      obtain ⟨rfl, rfl⟩ := h
      refine ⟨c.toNat, rfl, by omega, ?_, by omega⟩
      rw [encF_small h3, show i + 1 - i = 1 by omega]
      simp
  | succ k ih =>
    intro i acc p v L hi h
    cases p with
    | nil => simp [numF] at h
    | cons c r =>
      rw [numF] at h
      by_cases h1 : i = 9 ∧ 1 < c.toNat
      · simp [h1] at h
      rw [if_neg h1] at h
      by_cases h2 : 0 < i ∧ c.toNat = 0
      · simp [h2] at h
      rw [if_neg h2] at h
      by_cases h3 : c.toNat < 128
      · rw [if_pos h3] at h
        simp only [Sum.inr.injEq, Prod.mk.injEq] at h
        obtain ⟨rfl, rfl⟩ := h
        refine ⟨c.toNat, rfl, by omega, ?_, by omega⟩
        rw [encF_small h3, show i + 1 - i = 1 by omega]
        simp
      · rw [if_neg h3] at h
        obtain ⟨m, hv, hL, hp, hm⟩ := ih (i + 1) _ r v L (by omega) h
        have hm0 := hm (by omega)
        have hc := c.toNat_lt
        have e2 : 2 ^ (7 * (i + 1)) = 128 * 2 ^ (7 * i) := by rw [Nat.mul_add, Nat.pow_add]; omega
        refine ⟨c.toNat % 128 + 128 * m, ?_, by omega, ?_, fun _ => by omega⟩
        · rw [hv, e2, Nat.add_mul, ← Nat.mul_assoc, Nat.mul_comm m 128, Nat.add_assoc]
        · rw [encF_big (by omega), show L - i = (L - (i + 1)) + 1 by omega, List.take_succ_cons, hp]
          congr 1
          · apply UInt8.toNat_inj.1
            rw [hib_toNat]
            omega
          · congr 1
            omega

theorem enc_numS {p : List UInt8} {n len : Nat} (h : numS p = .inr (n, len)) : enc n = p.take len := by
  obtain ⟨m, hv, _, hp, _⟩ := encF_numF 9 0 0 p n len rfl h
  have : n = m := by simpa using hv
  subst this
  exact hp.symm

theorem textS_enc (l : List UInt8) (hl : l.length ≤ 1099511627776) : textS (enc l.length ++ l) (l.length : Int) = .inr (l, (enc l.length).length + l.length) := by
  have h := numS_enc (n := l.length) l (by omega)
  simp only [textS, h]
  rw [if_neg (by omega), if_neg (by simp)]
  simp

end Go.Proofs.Ythaflimgigppaaa
