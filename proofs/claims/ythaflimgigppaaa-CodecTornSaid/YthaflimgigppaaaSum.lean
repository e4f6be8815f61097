/-
  What codec.Sum does: the document's sum, on bit vectors.
-/
import Derived.Test.YthaflimgigppaaaRuns
namespace Go.Proofs.Ythaflimgigppaaa
open Go.RowKit

/-- One bit of the sum. -/
def crcBit (r : BitVec 32) : BitVec 32 := if r.toNat % 2 = 1 then (r >>> 1) ^^^ 2197175160#32 else r >>> 1
def crcBits : Nat → BitVec 32 → BitVec 32
  | 0, r => r
  | n + 1, r => crcBit (crcBits n r)
/-- One byte of the sum. -/
def crcByte (r : BitVec 32) (c : UInt8) : BitVec 32 := crcBits 8 (r ^^^ BitVec.ofNat 32 c.toNat)
def crcAll (r : BitVec 32) (l : List UInt8) : BitVec 32 := l.foldl crcByte r
/-- The sum of bytes. -/
def crc (l : List UInt8) : BitVec 32 := ~~~ (crcAll 4294967295#32 l)
def r32 (r : BitVec 32) : Value := .int .u32 (r.toNat : Int)

theorem ofInt_nat (r : BitVec 32) : BitVec.ofInt 32 (r.toNat : Int) = r := by
  apply BitVec.eq_of_toNat_eq
  rw [BitVec.ofInt_natCast, BitVec.toNat_ofNat]
  exact Nat.mod_eq_of_lt r.isLt
theorem wrap_u32_bv (r : BitVec 32) : IntKind.u32.wrap (r.toNat : Int) = (r.toNat : Int) := by
  have := r.isLt
  rw [IntKind.wrap_u32]; omega
theorem xor_u32 (r s : BitVec 32) : bits BinOp.xor IntKind.u32 (r.toNat : Int) (s.toNat : Int) = ((r ^^^ s).toNat : Int) := by
  show IntKind.u32.wrap ((BitVec.ofInt 32 (r.toNat : Int) ^^^ BitVec.ofInt 32 (s.toNat : Int)).toNat : Int) = _
  rw [ofInt_nat, ofInt_nat, wrap_u32_bv]
theorem not_u32 (r : BitVec 32) : bits BinOp.xor IntKind.u32 IntKind.u32.max (r.toNat : Int) = ((~~~ r).toNat : Int) := by
  have h := xor_u32 4294967295#32 r
  rw [show (4294967295#32 ^^^ r) = ~~~ r from BitVec.allOnes_xor] at h
  exact h
theorem and_one_u32 (r : BitVec 32) : bits BinOp.and IntKind.u32 (r.toNat : Int) 1 = ((r.toNat % 2 : Nat) : Int) := by
  show IntKind.u32.wrap ((BitVec.ofInt 32 (r.toNat : Int) &&& BitVec.ofInt 32 1).toNat : Int) = _
  rw [ofInt_nat, wrap_u32_bv]
  congr 1
  rw [BitVec.toNat_and]
  show r.toNat &&& 1 = _
  rw [Nat.and_one_is_mod]
theorem shr_one (r : BitVec 32) : ((r.toNat : Int) / (2 : Int)) = ((r >>> 1).toNat : Int) := by
  rw [BitVec.toNat_ushiftRight, Nat.shiftRight_eq_div_pow]; simp
theorem byte_u32 (c : UInt8) : (c.toNat : Int) = ((BitVec.ofNat 32 c.toNat).toNat : Int) := by
  have := c.toNat_lt
  rw [BitVec.toNat_ofNat, Nat.mod_eq_of_lt (by omega)]
theorem crcBit_eq (r : BitVec 32) : bits BinOp.xor IntKind.u32 ((r.toNat : Int) / 2) (2197175160 * bits BinOp.and IntKind.u32 (r.toNat : Int) 1 % 4294967296) = ((crcBit r).toNat : Int) := by
  rw [and_one_u32, shr_one]
  unfold crcBit
  by_cases h : r.toNat % 2 = 1
  · rw [if_pos h, h]
    exact xor_u32 (r >>> 1) 2197175160#32
  · rw [if_neg h, show r.toNat % 2 = 0 by omega]
    have := xor_u32 (r >>> 1) 0#32
    rw [BitVec.xor_zero] at this
    exact this

theorem crcAll_snoc (r : BitVec 32) (l : List UInt8) {k : Nat} (h : k < l.length) : crcAll r (l.take (k + 1)) = crcByte (crcAll r (l.take k)) (l.getD k 0) := by
  unfold crcAll
  rw [List.take_succ_eq_append_getElem h, List.foldl_append, List.getD_eq_getElem?_getD, List.getElem?_eq_getElem h]
  rfl

set_option maxRecDepth 20000 in
set_option maxHeartbeats 800000 in
theorem sum_any {w : World} {v : Value} {l : List UInt8} (h : Rd 0 w v l) (hl : l.length ≤ 1099511627776) :
    Calls Try.prog 26 #[v] w fun e w' => e = .returned (r32 (crc l)) ∧ w = w' := by
  rcases h with ⟨rfl, rfl⟩ | ⟨b, off, cap, rfl, g1, g2, g3, g4, g5⟩
  · go_enter Try.func26, Try.ntmps26
    go_wp2_with fail
    go_loop [3, 9] (fun r i => i = .int .i64 0 ∧ r = r32 4294967295#32) (fun _ _ => 0)
    case atStart => exact ⟨rfl, rfl⟩
    case round =>
      obtain ⟨rfl, rfl⟩ := hrel
      unfold r32
      go_wp2_with fail
      go_ret
      exact ⟨ret_int (by decide +kernel), rfl⟩
  · go_enter Try.func26, Try.ntmps26
    go_wp2_with fail
    go_loop [3, 9] (fun r i => ∃ k : Nat, k ≤ l.length ∧ i = .int .i64 (k : Int) ∧ r = r32 (crcAll 4294967295#32 (l.take k))) (fun _ i => l.length - (intOf i).toNat)
    case atStart => exact ⟨0, by omega, rfl, rfl⟩
    case round =>
      obtain ⟨k, hk, rfl, rfl⟩ := hrel
      by_cases hlt : k < l.length
      · have hc := g5 k hlt
        generalize hr0 : crcAll 4294967295#32 (l.take k) = r0
        generalize hcc : l.getD k 0 = c at hc
        unfold u8v at hc
        unfold r32
        have H0 := Lib.hid (And.intro hr0 hcc)
        clear hr0 hcc g5
        go_wp2_with fail
        have hx : bits BinOp.xor IntKind.u32 (r0.toNat : Int) ((c.toNat : Int) % 4294967296) = ((r0 ^^^ BitVec.ofNat 32 c.toNat).toNat : Int) := by
          rw [show ((c.toNat : Int) % 4294967296) = (c.toNat : Int) by have := c.toNat_lt; omega, byte_u32, xor_u32]
        rw [hx]
        clear hx
        generalize hs0 : r0 ^^^ BitVec.ofNat 32 c.toNat = s0
        have H1 := Lib.hid hs0
        clear hs0
        go_loop [3, 17] (fun r j => ∃ m : Nat, m ≤ 8 ∧ j = .int .i64 (m : Int) ∧ r = r32 (crcBits m s0)) (fun _ j => 8 - (intOf j).toNat)
        case atStart => exact ⟨0, by omega, rfl, rfl⟩
        case round =>
          obtain ⟨m, hm, rfl, rfl⟩ := hrel
          by_cases hm8 : m < 8
          · have hq : crcBits (m + 1) s0 = crcBit (crcBits m s0) := rfl
            generalize crcBits m s0 = q at hq
            have H2 := Lib.hid hq
            clear hq
            unfold r32
            go_wp2_with fail
            go_round
            case rel => exact ⟨m + 1, by omega, by go_num, by rw [crcBit_eq, H2.out]⟩
            case measure => simp [intOf]; omega
          · obtain rfl : m = 8 := by omega
            unfold r32
            go_wp2_with fail
            go_round
            case rel =>
              refine ⟨k + 1, by omega, by go_num, ?_⟩
              have hstep := crcAll_snoc 4294967295#32 l hlt
              rw [H0.out.1, H0.out.2] at hstep
              rw [hstep, ← H1.out]
              rfl
            case measure => simp [intOf]; omega
      · unfold r32
        go_wp2_with fail
        go_ret
        refine ⟨?_, rfl⟩
        obtain rfl : k = l.length := by omega
        rw [List.take_length]
        exact ret_int (not_u32 _)

end Go.Proofs.Ythaflimgigppaaa
