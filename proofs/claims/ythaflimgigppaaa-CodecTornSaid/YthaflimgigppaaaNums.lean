/-
  Plain: the bytes of a number, seven bits each.
-/
import Derived.Test.YthaflimgigppaaaBase
namespace Go.Proofs.Ythaflimgigppaaa
open Go.RowKit

/-- The byte of n's lowest seven bits, where more follow. -/
def hib (n : Nat) : UInt8 := UInt8.ofNat (n % 128 + 128)
/-- The bytes of n, at most k of them. -/
def encF : Nat → Nat → List UInt8
  | 0, _ => []
  | k + 1, n => if n < 128 then [UInt8.ofNat n] else hib n :: encF k (n / 128)
def enc (n : Nat) : List UInt8 := encF 10 n

theorem encF_small {k n : Nat} (h : n < 128) : encF (k + 1) n = [UInt8.ofNat n] := by simp [encF, h]
theorem encF_big {k n : Nat} (h : ¬ n < 128) : encF (k + 1) n = hib n :: encF k (n / 128) := by simp [encF, h]
theorem encF_len (k n : Nat) : (encF k n).length ≤ k := by
  induction k generalizing n with
  | zero => simp [encF]
  | succ k ih =>
    by_cases h : n < 128
    · simp [encF_small h]
    · simp [encF_big h]; exact ih _

theorem byte_small {n : Nat} (h : n < 128) : ((UInt8.ofNat n).toNat : Int) = (n : Int) := by
  simp [UInt8.toNat_ofNat']; omega
theorem byte_big (n : Nat) : ((hib n).toNat : Int) = ((n % 128 + 128 : Nat) : Int) := by
  simp [hib, UInt8.toNat_ofNat']; omega

theorem or128_all : ∀ x : Fin 256, bits BinOp.or IntKind.u8 (x.val : Int) 128 = ((x.val % 128 + 128 : Nat) : Int) := by decide +kernel
theorem or128 (m : Nat) : bits BinOp.or IntKind.u8 ((m : Int) % 256) 128 = ((m % 128 + 128 : Nat) : Int) := by
  have h := or128_all ⟨m % 256, by omega⟩
  have e : ((m : Int) % 256) = ((m % 256 : Nat) : Int) := by omega
  rw [e, h]
  simp only
  omega

theorem u8v_small {m : Nat} (h : m < 128) : cellsOf [UInt8.ofNat m] = [Value.int IntKind.u8 (m : Int)] := by
  simp only [cellsOf, List.map_cons, List.map_nil, u8v, byte_small h]
theorem u8v_big (m : Nat) : cellsOf [hib m] = [Value.int IntKind.u8 (bits BinOp.or IntKind.u8 ((m : Int) % 256) 128)] := by
  simp only [cellsOf, List.map_cons, List.map_nil, u8v, byte_big, or128]

/-- Where the loop that lays a number stands: m is left, k more bytes may come. -/
def Laid (n k m : Nat) (done : List UInt8) : Prop := enc n = done ++ encF (k + 1) m ∧ m < 128 ^ (k + 1) ∧ done.length + k + 1 ≤ 10
theorem Laid.start {n : Nat} (h : n < 18446744073709551616) : Laid n 9 n [] := ⟨rfl, by omega, by simp⟩
theorem Laid.last {n k m : Nat} {done : List UInt8} (h : Laid n k m done) (hm : m < 128) : enc n = done ++ [UInt8.ofNat m] := by rw [h.1, encF_small hm]
theorem Laid.next {n k m : Nat} {done : List UInt8} (h : Laid n k m done) (hm : ¬ m < 128) : ∃ k', Laid n k' (m / 128) (done ++ [hib m]) := by
  obtain ⟨h1, h2, h3⟩ := h
  cases k with
  | zero => simp at h2; omega
  | succ k =>
    refine ⟨k, ?_, ?_, ?_⟩
    · rw [h1, encF_big hm]; simp
    · rw [Nat.pow_succ] at h2; exact Nat.div_lt_of_lt_mul (by omega)
    · simp; omega
theorem Laid.len {n k m : Nat} {done : List UInt8} (h : Laid n k m done) : done.length ≤ 9 := by have := h.2.2; omega
theorem enc_len (n : Nat) : (enc n).length ≤ 10 := encF_len 10 n

theorem and127_all : ∀ x : Fin 256, IntKind.u64.wrap (bits BinOp.and IntKind.u8 (x.val : Int) 127) = ((x.val % 128 : Nat) : Int) := by decide +kernel
theorem and127 (c : UInt8) : IntKind.u64.wrap (bits BinOp.and IntKind.u8 (c.toNat : Int) 127) = ((c.toNat % 128 : Nat) : Int) := and127_all ⟨c.toNat, c.toNat_lt⟩
theorem wrap_u64_nat {m : Nat} (h : m < 18446744073709551616) : IntKind.u64.wrap (m : Int) = (m : Int) := by
  rw [IntKind.wrap_u64]; omega
theorem shl_or {n m i : Nat} (hn : n < 2 ^ i) (h : n + m * 2 ^ i < 18446744073709551616) :
    bits BinOp.or IntKind.u64 (n : Int) (IntKind.u64.wrap ((m : Int) * 2 ^ i)) = ((n + m * 2 ^ i : Nat) : Int) := by
  have e : ((m : Int) * 2 ^ i) = ((m * 2 ^ i : Nat) : Int) := by push_cast; rfl
  rw [e, wrap_u64_nat (by omega), bits_or_u64_nat _ _ (by omega) (by omega)]
  rw [Nat.or_comm, ← Nat.shiftLeft_eq, ← Nat.shiftLeft_add_eq_or_of_lt hn, Nat.shiftLeft_eq]
  congr 1
  omega

/-- A number out of bytes: fuel, place, what has been read, the rest: an error, or the number and how many bytes it takes. -/
def numF : Nat → Nat → Nat → List UInt8 → Nat ⊕ (Nat × Nat)
  | 0, _, _, _ => .inl 11
  | _ + 1, _, _, [] => .inl 3
  | f + 1, i, n, c :: r =>
    if i = 9 ∧ 1 < c.toNat then .inl 11 else if 0 < i ∧ c.toNat = 0 then .inl 10
    else if c.toNat < 128 then .inr (n + c.toNat * 2 ^ (7 * i), i + 1) else numF f (i + 1) (n + c.toNat % 128 * 2 ^ (7 * i)) r
def numS (p : List UInt8) : Nat ⊕ (Nat × Nat) := numF 10 0 0 p

/-- Where the loop of num stands. -/
def NumAt (p : List UInt8) (k i n : Nat) : Prop := numS (p.drop k) = numF (10 - i) i n (p.drop (k + i)) ∧ n < 2 ^ (7 * i)

theorem NumAt.short {p : List UInt8} {k i n : Nat} (h : NumAt p k i n) (hi : i ≤ 9) (he : k + i = p.length) : numS (p.drop k) = .inl 3 := by
  rw [h.1, he, List.drop_length, show 10 - i = (9 - i) + 1 by omega]
  rfl
theorem NumAt.step {p : List UInt8} {k i n : Nat} (h : NumAt p k i n) (hi : i ≤ 9) (hl : k + i < p.length) {c : UInt8} (hc : c = p.getD (k + i) 0) :
    numS (p.drop k) = if i = 9 ∧ 1 < c.toNat then .inl 11 else if 0 < i ∧ c.toNat = 0 then .inl 10
    else if c.toNat < 128 then .inr (n + c.toNat * 2 ^ (7 * i), i + 1) else numF (9 - i) (i + 1) (n + c.toNat % 128 * 2 ^ (7 * i)) (p.drop (k + (i + 1))) := by
  rw [h.1, List.drop_eq_getElem_cons hl, show 10 - i = (9 - i) + 1 by omega, numF]
  have : p[k + i] = c := by rw [hc, List.getD_eq_getElem?_getD, List.getElem?_eq_getElem hl]; rfl
  rw [this, show k + i + 1 = k + (i + 1) by omega]
theorem NumAt.wide {p : List UInt8} {k n : Nat} (h : NumAt p k 9 n) (hl : k + 9 < p.length) {c : UInt8} (hc : c = p.getD (k + 9) 0) (h1 : 1 < c.toNat) : numS (p.drop k) = .inl 11 := by
  rw [h.step (by omega) hl hc, if_pos ⟨rfl, h1⟩]
theorem NumAt.form {p : List UInt8} {k i n : Nat} (h : NumAt p k i n) (hi : i ≤ 9) (hl : k + i < p.length) {c : UInt8} (hc : c = p.getD (k + i) 0) (h0 : 0 < i) (h1 : c.toNat = 0) : numS (p.drop k) = .inl 10 := by
  rw [h.step hi hl hc, if_neg (by omega), if_pos ⟨h0, h1⟩]
theorem NumAt.last {p : List UInt8} {k i n : Nat} (h : NumAt p k i n) (hi : i ≤ 9) (hl : k + i < p.length) {c : UInt8} (hc : c = p.getD (k + i) 0) (h9 : ¬ (i = 9 ∧ 1 < c.toNat)) (h0 : ¬ (0 < i ∧ c.toNat = 0)) (h1 : c.toNat < 128) :
    numS (p.drop k) = .inr (n + c.toNat * 2 ^ (7 * i), i + 1) := by
  rw [h.step hi hl hc, if_neg h9, if_neg h0, if_pos h1]
theorem num_bound {n m i : Nat} (hn : n < 2 ^ (7 * i)) (hm : m < 128) : n + m * 2 ^ (7 * i) < 2 ^ (7 * (i + 1)) := by
  have e : 2 ^ (7 * (i + 1)) = 128 * 2 ^ (7 * i) := by rw [Nat.mul_add, Nat.pow_add]; omega
  rw [e]
  generalize 2 ^ (7 * i) = q at *
  have := Nat.mul_le_mul_right q (show m ≤ 127 by omega)
  omega
theorem NumAt.more {p : List UInt8} {k i n : Nat} (h : NumAt p k i n) (hi : i ≤ 8) (hl : k + i < p.length) {c : UInt8} (hc : c = p.getD (k + i) 0) (h1 : ¬ c.toNat < 128) :
    NumAt p k (i + 1) (n + c.toNat % 128 * 2 ^ (7 * i)) := by
  refine ⟨?_, num_bound h.2 (by omega)⟩
  rw [h.step (by omega) hl hc, if_neg (by omega), if_neg (by omega), if_neg h1, show 10 - (i + 1) = 9 - i by omega]
theorem num_fits {i : Nat} (hi : i ≤ 8) : 2 ^ (7 * (i + 1)) < 18446744073709551616 :=
  Nat.lt_of_le_of_lt (Nat.pow_le_pow_right (by decide) (show 7 * (i + 1) ≤ 63 by omega)) (by decide)
theorem num_val {n i : Nat} {c : UInt8} (hn : n < 2 ^ (7 * i)) (hi : i ≤ 8) :
    bits BinOp.or IntKind.u64 (n : Int) (IntKind.u64.wrap (IntKind.u64.wrap (bits BinOp.and IntKind.u8 (c.toNat : Int) 127) * 2 ^ (7 * i))) = ((n + c.toNat % 128 * 2 ^ (7 * i) : Nat) : Int) := by
  rw [and127]
  have h1 := num_bound (m := c.toNat % 128) hn (by omega)
  have h2 := num_fits hi
  exact shl_or hn (by omega)
theorem num_val9 {n : Nat} {c : UInt8} (hn : n < 2 ^ (7 * 9)) (hc : c.toNat ≤ 1) :
    bits BinOp.or IntKind.u64 (n : Int) (IntKind.u64.wrap (IntKind.u64.wrap (bits BinOp.and IntKind.u8 (c.toNat : Int) 127) * 9223372036854775808)) = ((n + c.toNat * 2 ^ (7 * 9) : Nat) : Int) := by
  rw [and127]
  have h := shl_or (m := c.toNat % 128) hn (by omega)
  rw [show c.toNat % 128 = c.toNat by omega] at h ⊢
  exact h

end Go.Proofs.Ythaflimgigppaaa
