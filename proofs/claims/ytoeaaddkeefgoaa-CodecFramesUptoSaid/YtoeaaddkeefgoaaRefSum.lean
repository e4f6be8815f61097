/-
  What the document's own Sum does.
-/
import Derived.Test.YtoeaaddkeefgoaaSum
namespace Go.Proofs.Ytoeaaddkeefgoaa
open Go.RowKit

theorem crcBit_odd {r : BitVec 32} (h : (bits BinOp.and IntKind.u32 (r.toNat : Int) 1 == 1) = true) : bits BinOp.xor IntKind.u32 ((r.toNat : Int) / 2) 2197175160 = ((crcBit r).toNat : Int) := by
  rw [and_one_u32] at h
  have h1 : r.toNat % 2 = 1 := by simp at h; omega
  rw [crcBit, if_pos h1, shr_one]
  exact xor_u32 (r >>> 1) 2197175160#32
theorem crcBit_even {r : BitVec 32} (h : (bits BinOp.and IntKind.u32 (r.toNat : Int) 1 == 1) = false) : ((r.toNat : Int) / 2) = ((crcBit r).toNat : Int) := by
  rw [and_one_u32] at h
  have h1 : ¬ r.toNat % 2 = 1 := by simp at h; omega
  rw [crcBit, if_neg h1, shr_one]

set_option maxRecDepth 20000 in
set_option maxHeartbeats 800000 in
theorem refSum_any {w : World} {v : Value} {l : List UInt8} (h : Rd 0 w v l) (hl : l.length ≤ 1099511627776) :
    Calls Try.prog 14 #[v] w fun e w' => e = .returned (r32 (crc l)) ∧ w = w' := by
  rcases h with ⟨rfl, rfl⟩ | ⟨b, off, cap, rfl, g1, g2, g3, g4, g5⟩
  · go_enter Try.func14, Try.ntmps14
    go_wp2_with fail
    go_loop [3, 4, 5, 6] (fun r i _ _ => i = .int .i64 0 ∧ r = r32 4294967295#32) (fun _ _ _ _ => 0)
    case atStart => exact ⟨rfl, rfl⟩
    case round =>
      obtain ⟨rfl, rfl⟩ := hrel
      unfold r32
      go_wp2_with fail
      go_ret
      exact ⟨ret_int (by decide +kernel), rfl⟩
  · go_enter Try.func14, Try.ntmps14
    go_wp2_with fail
    go_loop [3, 4, 5, 6] (fun r i _ _ => ∃ k : Nat, k ≤ l.length ∧ i = .int .i64 (k : Int) ∧ r = r32 (crcAll 4294967295#32 (l.take k))) (fun _ i _ _ => l.length - (intOf i).toNat)
    case atStart => exact ⟨0, by omega, rfl, rfl⟩
    case round =>
      obtain ⟨k, hk, rfl, rfl⟩ := hrel
      by_cases hlt : k < l.length
      · have hc := g5 k hlt
        generalize hr0 : crcAll 4294967295#32 (l.take k) = r0
        generalize hcc : l.getD k 0 = c at hc
        unfold u8v at hc
        unfold r32
        have H0 := Lib.hid (And.intro hr0 hcc)
        clear hr0 hcc g5
        go_wp2_with fail
        have hx : bits BinOp.xor IntKind.u32 (r0.toNat : Int) ((c.toNat : Int) % 4294967296) = ((r0 ^^^ BitVec.ofNat 32 c.toNat).toNat : Int) := by
          rw [show ((c.toNat : Int) % 4294967296) = (c.toNat : Int) by have := c.toNat_lt; omega, byte_u32, xor_u32]
        rw [hx]
        clear hx
        generalize hs0 : r0 ^^^ BitVec.ofNat 32 c.toNat = s0
        have H1 := Lib.hid hs0
        clear hs0
        go_loop [3, 5, 6] (fun r j _ => ∃ m : Nat, m ≤ 8 ∧ j = .int .i64 (m : Int) ∧ r = r32 (crcBits m s0)) (fun _ j _ => 8 - (intOf j).toNat)
        case atStart => exact ⟨0, by omega, rfl, rfl⟩
        case round =>
          obtain ⟨m, hm, rfl, rfl⟩ := hrel
          by_cases hm8 : m < 8
          · have hq : crcBits (m + 1) s0 = crcBit (crcBits m s0) := rfl
            generalize crcBits m s0 = q at hq
            have H2 := Lib.hid hq
            clear hq
            unfold r32
            go_wp2_with fail
            · go_round
              case rel => exact ⟨m + 1, by omega, by go_num, by rw [crcBit_odd ‹_›, H2.out]⟩
              case measure => simp [intOf]; omega
            · go_round
              case rel => exact ⟨m + 1, by omega, by go_num, by rw [crcBit_even ‹_›, H2.out]⟩
              case measure => simp [intOf]; omega
          · obtain rfl : m = 8 := by omega
            unfold r32
            go_wp2_with fail
            go_round
            case rel =>
              refine ⟨k + 1, by omega, by go_num, ?_⟩
              have hstep := crcAll_snoc 4294967295#32 l hlt
              rw [H0.out.1, H0.out.2] at hstep
              rw [hstep, ← H1.out]
              rfl
            case measure => simp [intOf]; omega
      · unfold r32
        go_wp2_with fail
        go_ret
        refine ⟨?_, rfl⟩
        obtain rfl : k = l.length := by omega
        rw [List.take_length]
        exact ret_int (not_u32 _)

end Go.Proofs.Ytoeaaddkeefgoaa
