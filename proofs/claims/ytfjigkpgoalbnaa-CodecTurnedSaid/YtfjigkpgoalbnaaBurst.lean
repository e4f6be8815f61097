/-
  Plain: the sum tells bits that are turned within 32 neighbouring ones.
-/
import Derived.Test.YtfjigkpgoalbnaaSumBytes
namespace Go.Proofs.Ytfjigkpgoalbnaa
open Go.RowKit

theorem odd_iff (r : BitVec 32) : r.toNat % 2 = 1 ↔ r.getLsbD 0 = true := by
  simp [BitVec.getLsbD, Nat.testBit_zero]
theorem crcBit_def (r : BitVec 32) : crcBit r = (r >>> 1) ^^^ (if r.getLsbD 0 = true then 2197175160#32 else 0#32) := by
  unfold crcBit
  by_cases h : r.getLsbD 0 = true
  · rw [if_pos ((odd_iff r).2 h), if_pos h]
  · rw [if_neg (fun e => h ((odd_iff r).1 e)), if_neg h, BitVec.xor_zero]
theorem crcBit_xor (a b : BitVec 32) : crcBit (a ^^^ b) = crcBit a ^^^ crcBit b := by
  simp only [crcBit_def, BitVec.ushiftRight_xor_distrib, BitVec.getLsbD_xor]
  generalize a >>> 1 = x
  generalize b >>> 1 = y
  generalize 2197175160#32 = q
  cases a.getLsbD 0 <;> cases b.getLsbD 0 <;> (ext i hi; simp only [BitVec.getElem_xor, Bool.xor_self, Bool.false_xor, Bool.true_xor, Bool.not_false, Bool.false_eq_true, if_true, if_false, BitVec.getElem_zero]; cases x[i] <;> cases y[i] <;> cases q[i] <;> rfl)
theorem crcBit_zero : crcBit 0#32 = 0#32 := by decide
theorem crcBit_inj {a : BitVec 32} (h : crcBit a = 0#32) : a = 0#32 := by
  unfold crcBit at h
  have hs : (a >>> 1).toNat = a.toNat / 2 := by rw [BitVec.toNat_ushiftRight, Nat.shiftRight_eq_div_pow]
  have hl := a.isLt
  by_cases ho : a.toNat % 2 = 1
  · rw [if_pos ho] at h
    have h2 : a >>> 1 = 2197175160#32 := by
      have := congrArg (· ^^^ 2197175160#32) h
      simpa [BitVec.xor_assoc] using this
    have h3 := congrArg BitVec.toNat h2
    rw [hs] at h3
    simp at h3
    omega
  · rw [if_neg ho] at h
    have h3 := congrArg BitVec.toNat h
    rw [hs] at h3
    simp at h3
    apply BitVec.eq_of_toNat_eq
    simp
    omega

theorem crcBits_xor (n : Nat) (a b : BitVec 32) : crcBits n (a ^^^ b) = crcBits n a ^^^ crcBits n b := by
  induction n with
  | zero => rfl
  | succ n ih => simp only [crcBits, ih, crcBit_xor]
theorem crcBits_zero (n : Nat) : crcBits n 0#32 = 0#32 := by
  induction n with
  | zero => rfl
  | succ n ih => simp only [crcBits, ih, crcBit_zero]
theorem crcBits_inj {n : Nat} {a : BitVec 32} (h : crcBits n a = 0#32) : a = 0#32 := by
  induction n with
  | zero => exact h
  | succ n ih => exact ih (crcBit_inj h)
theorem crcBits_add (m n : Nat) (a : BitVec 32) : crcBits (m + n) a = crcBits n (crcBits m a) := by
  induction n with
  | zero => rfl
  | succ n ih => rw [Nat.add_succ]; simp only [crcBits, ih]

/-- One bit as a register. -/
def bitV (b : Bool) (j : Nat) : BitVec 32 := if b then 1#32 <<< j else 0#32
/-- The register behind j bits of the stream E, from the place p on. -/
def run (r : BitVec 32) (E : Nat → Bool) (p : Nat) : Nat → BitVec 32
  | 0 => r
  | j + 1 => crcBit (run r E p j ^^^ bitV (E (p + j)) 0)
/-- j bits of the stream from p on, the first the lowest. -/
def bitsV (E : Nat → Bool) (p : Nat) : Nat → BitVec 32
  | 0 => 0#32
  | j + 1 => bitsV E p j ^^^ bitV (E (p + j)) j

theorem crcBits_one : ∀ j : Fin 32, crcBits j.val (1#32 <<< j.val) = 1#32 := by decide +kernel
theorem crcBits_bitV {j : Nat} (hj : j < 32) (b : Bool) : crcBits j (bitV b j) = bitV b 0 := by
  unfold bitV
  cases b
  · simp [crcBits_zero]
  · simp only [if_true]
    exact crcBits_one ⟨j, hj⟩

theorem run_bits (r : BitVec 32) (E : Nat → Bool) (p : Nat) : ∀ j, j ≤ 32 → run r E p j = crcBits j (r ^^^ bitsV E p j) := by
  intro j
  induction j with
  | zero => intro _; simp [run, crcBits, bitsV]
  | succ j ih =>
    intro hj
    rw [run, ih (by omega), bitsV, crcBits, ← BitVec.xor_assoc, crcBits_xor j (r ^^^ bitsV E p j), crcBits_bitV (by omega)]

theorem run_add (r : BitVec 32) (E : Nat → Bool) (p j k : Nat) : run r E p (j + k) = run (run r E p j) E (p + j) k := by
  induction k with
  | zero => rfl
  | succ k ih => rw [Nat.add_succ, run, run, ih, Nat.add_assoc]

theorem run_xor (r s : BitVec 32) (E F : Nat → Bool) (p : Nat) : ∀ j, run (r ^^^ s) (fun i => E i ^^ F i) p j = run r E p j ^^^ run s F p j := by
  intro j
  induction j with
  | zero => rfl
  | succ j ih =>
    simp only [run, ih]
    rw [← crcBit_xor]
    congr 1
    unfold bitV
    cases E (p + j) <;> cases F (p + j) <;> simp <;> ext i hi <;> simp <;> (cases (run r E p j)[i] <;> cases (run s F p j)[i] <;> cases (decide (i = 0)) <;> rfl)

theorem run_congr (r : BitVec 32) {E F : Nat → Bool} {p : Nat} : ∀ j, (∀ i, i < j → E (p + i) = F (p + i)) → run r E p j = run r F p j := by
  intro j
  induction j with
  | zero => intro _; rfl
  | succ j ih => intro h; rw [run, run, ih (fun i hi => h i (by omega)), h j (by omega)]
theorem run_none (r : BitVec 32) {E : Nat → Bool} {p : Nat} : ∀ j, (∀ i, i < j → E (p + i) = false) → run r E p j = crcBits j r := by
  intro j
  induction j with
  | zero => intro _; rfl
  | succ j ih => intro h; rw [run, ih (fun i hi => h i (by omega)), h j (by omega)]; simp [bitV, crcBits]

theorem bitV_get (b : Bool) (j k : Nat) (hj : j < 32) : (bitV b j).getLsbD k = (b && decide (k = j)) := by
  unfold bitV
  cases b
  · simp
  · simp only [if_true, Bool.true_and, BitVec.getLsbD_shiftLeft, BitVec.getLsbD_one]
    by_cases h : k = j
    · subst h; simp [hj]
    · by_cases h2 : k < j
      · simp [h, h2]
      · have : ¬ k - j = 0 := by omega
        simp [h, this]
theorem bitsV_get (E : Nat → Bool) (p : Nat) : ∀ k, k ≤ 32 → ∀ j, (bitsV E p k).getLsbD j = (decide (j < k) && E (p + j)) := by
  intro k
  induction k with
  | zero => intro _ j; simp [bitsV]
  | succ k ih =>
    intro hk j
    rw [bitsV, BitVec.getLsbD_xor, ih (by omega), bitV_get _ _ _ (by omega)]
    by_cases h1 : j = k
    · subst h1; simp
    · by_cases h2 : j < k
      · have : j < k + 1 := by omega
        simp [h1, h2, this]
      · have : ¬ j < k + 1 := by omega
        simp [h1, h2, this]

theorem byte_bits (c : UInt8) (E : Nat → Bool) (p : Nat) (h : ∀ i, i < 8 → E (p + i) = c.toNat.testBit i) : bitsV E p 8 = BitVec.ofNat 32 c.toNat := by
  apply BitVec.eq_of_getLsbD_eq
  intro j hj
  rw [bitsV_get E p 8 (by omega), BitVec.getLsbD_ofNat]
  by_cases h8 : j < 8
  · simp [h8, h j h8, hj]
  · have : c.toNat.testBit j = false := Nat.testBit_lt_two_pow (Nat.lt_of_lt_of_le c.toNat_lt (Nat.pow_le_pow_right (by omega) (by omega)))
    simp [h8, this]

theorem crcAll_run : ∀ (l : List UInt8) (p : Nat) (E : Nat → Bool) (r : BitVec 32), (∀ j i, j < l.length → i < 8 → E (p + (8 * j + i)) = (l.getD j 0).toNat.testBit i) → crcAll r l = run r E p (8 * l.length) := by
  intro l
  induction l with
  | nil => intro p E r _; rfl
  | cons c l ih =>
    intro p E r h
    have h0 : ∀ i, i < 8 → E (p + i) = c.toNat.testBit i := fun i hi => by have := h 0 i (by simp) hi; simpa using this
    have hb : run r E p 8 = crcByte r c := by rw [run_bits r E p 8 (by omega), byte_bits c E p h0]; rfl
    show crcAll (crcByte r c) l = _
    rw [List.length_cons, show 8 * (l.length + 1) = 8 + 8 * l.length by omega, run_add, hb]
    refine ih (p + 8) E _ fun j i hj hi => ?_
    have := h (j + 1) i (by simp; omega) hi
    rw [show p + 8 + (8 * j + i) = p + (8 * (j + 1) + i) by omega, this]
    simp

theorem sumB_bits (r : BitVec 32) (E : Nat → Bool) (p : Nat) (h : ∀ j i, j < 4 → i < 8 → E (p + (8 * j + i)) = ((sumB r).getD j 0).toNat.testBit i) : bitsV E p 32 = r := by
  apply BitVec.eq_of_getLsbD_eq
  intro k hk
  rw [bitsV_get E p 32 (by omega)]
  have hkj := h (k / 8) (k % 8) (by omega) (by omega)
  rw [show 8 * (k / 8) + k % 8 = k by omega] at hkj
  rw [hkj]
  simp only [hk, decide_true, Bool.true_and]
  have hm : ∀ (x i : Nat), i < 8 → (x % 256).testBit i = x.testBit i := fun x i hi => by
    rw [show 256 = 2 ^ 8 from rfl, Nat.testBit_mod_two_pow]; simp [hi]
  have hq : k / 8 = 0 ∨ k / 8 = 1 ∨ k / 8 = 2 ∨ k / 8 = 3 := by omega
  rw [BitVec.getLsbD]
  rcases hq with hq | hq | hq | hq <;> simp only [hq, sumB, List.getD_cons_zero, List.getD_cons_succ, UInt8.toNat_ofNat']
  · rw [show 2 ^ 8 = 256 from rfl, hm _ _ (by omega)]
    congr 1; omega
  · rw [show 2 ^ 8 = 256 from rfl, hm _ _ (by omega), show r.toNat / 256 = r.toNat / 2 ^ 8 from rfl, Nat.testBit_div_two_pow]
    congr 1; omega
  · rw [show 2 ^ 8 = 256 from rfl, hm _ _ (by omega), show r.toNat / 65536 = r.toNat / 2 ^ 16 from rfl, Nat.testBit_div_two_pow]
    congr 1; omega
  · rw [show 2 ^ 8 = 256 from rfl, hm _ _ (by omega), show r.toNat / 16777216 = r.toNat / 2 ^ 24 from rfl, Nat.testBit_div_two_pow]
    congr 1; omega

/-- The bits of a list of bytes, the lowest of the first first. -/
def bitsOf (l : List UInt8) (n : Nat) : Bool := (l.getD (n / 8) 0).toNat.testBit (n % 8)
theorem bitsOf_at (l : List UInt8) {j i : Nat} (hi : i < 8) : bitsOf l (8 * j + i) = (l.getD j 0).toNat.testBit i := by
  unfold bitsOf
  rw [show (8 * j + i) / 8 = j by omega, show (8 * j + i) % 8 = i by omega]

theorem bitsOf_left (a b : List UInt8) {j i : Nat} (hj : j < a.length) (hi : i < 8) : bitsOf (a ++ b) (8 * j + i) = (a.getD j 0).toNat.testBit i := by
  rw [bitsOf_at _ hi]
  simp [List.getD_eq_getElem?_getD, List.getElem?_append_left hj]
theorem bitsOf_right (a b : List UInt8) {j i : Nat} (hi : i < 8) : bitsOf (a ++ b) (8 * a.length + (8 * j + i)) = (b.getD j 0).toNat.testBit i := by
  rw [show 8 * a.length + (8 * j + i) = 8 * (a.length + j) + i by omega, bitsOf_at _ hi]
  rw [List.getD_eq_getElem?_getD, List.getD_eq_getElem?_getD, List.getElem?_append_right (by omega), Nat.add_sub_cancel_left]

theorem not_ones (r : BitVec 32) : r ^^^ ~~~ r = 4294967295#32 := by
  have h : (BitVec.allOnes 32 ^^^ r) = ~~~ r := BitVec.allOnes_xor
  rw [← h, BitVec.xor_comm (BitVec.allOnes 32) r, ← BitVec.xor_assoc, BitVec.xor_self, BitVec.zero_xor]
  rfl

/-- A load and its sum leave the register at one and the same value. -/
theorem run_whole (l : List UInt8) : run 4294967295#32 (bitsOf (l ++ sumB (crc l))) 0 (8 * l.length + 32) = crcBits 32 4294967295#32 := by
  rw [run_add, Nat.zero_add, ← crcAll_run l 0 (bitsOf (l ++ sumB (crc l))) 4294967295#32 (fun j i hj hi => by rw [Nat.zero_add]; exact bitsOf_left _ _ hj hi)]
  rw [run_bits _ _ _ 32 (by omega), sumB_bits (crc l) _ _ (fun j i hj hi => bitsOf_right _ _ hi)]
  congr 1
  exact not_ones _

/-- Bits that are turned within 32 neighbouring ones are told. -/
theorem burst {l l' y : List UInt8} (hl : l'.length = l.length) (hy : y.length = 4) (at_ : Nat) (E : Nat → Bool)
    (hE : ∀ n, n < 8 * l.length + 32 → bitsOf (l' ++ y) n = (bitsOf (l ++ sumB (crc l)) n ^^ E n)) (h0 : ∀ n, n < at_ → E n = false) (h1 : ∀ n, at_ + 32 ≤ n → n < 8 * l.length + 32 → E n = false)
    (k : Nat) (hk : at_ ≤ k) (hkt : k < 8 * l.length + 32) (hkE : E k = true) : ¬ sumB (crc l') = y := by
  intro hs
  subst hs
  have hk32 : k < at_ + 32 := by
    rcases Nat.lt_or_ge k (at_ + 32) with h | h
    · exact h
    · rw [h1 k h hkt] at hkE; cases hkE
  have e1 := run_whole l
  have e2 := run_whole l'
  rw [hl] at e2
  have e3 : run 4294967295#32 (bitsOf (l' ++ sumB (crc l'))) 0 (8 * l.length + 32) = run (4294967295#32 ^^^ 0#32) (fun n => bitsOf (l ++ sumB (crc l)) n ^^ E n) 0 (8 * l.length + 32) := by
    rw [BitVec.xor_zero]
    exact run_congr _ _ fun i hi => by rw [Nat.zero_add]; exact hE i hi
  rw [run_xor, e1, e2] at e3
  have e4 : run 0#32 E 0 (8 * l.length + 32) = 0#32 := by
    have := congrArg (crcBits 32 4294967295#32 ^^^ ·) e3
    simp only [← BitVec.xor_assoc, BitVec.xor_self, BitVec.zero_xor] at this
    exact this.symm
  obtain ⟨m, hm, hmt⟩ : ∃ m, m ≤ 32 ∧ (8 * l.length + 32 - at_ = m ∨ (m = 32 ∧ 32 ≤ 8 * l.length + 32 - at_)) := by
    rcases Nat.lt_or_ge (8 * l.length + 32 - at_) 32 with h | h
    · exact ⟨_, by omega, .inl rfl⟩
    · exact ⟨32, by omega, .inr ⟨rfl, h⟩⟩
  rw [show 8 * l.length + 32 = at_ + (m + (8 * l.length + 32 - at_ - m)) by omega, run_add, run_none 0#32 at_ (fun i hi => by rw [Nat.zero_add]; exact h0 i hi), crcBits_zero, run_add, Nat.zero_add] at e4
  rw [run_none _ _ (fun i hi => h1 _ (by omega) (by omega)), run_bits _ _ _ m hm] at e4
  have e5 := crcBits_inj (crcBits_inj e4)
  rw [BitVec.zero_xor] at e5
  have e6 := bitsV_get E at_ m hm (k - at_)
  rw [e5, show at_ + (k - at_) = k by omega, hkE] at e6
  simp at e6
  omega

end Go.Proofs.Ytfjigkpgoalbnaa
