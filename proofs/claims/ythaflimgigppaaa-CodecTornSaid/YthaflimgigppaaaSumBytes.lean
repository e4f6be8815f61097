/-
  What codec.sumBytes does: the sum in four bytes, the lowest first.
-/
import Derived.Test.YthaflimgigppaaaSum
namespace Go.Proofs.Ythaflimgigppaaa
open Go.RowKit

/-- The sum's four bytes. -/
def sumB (r : BitVec 32) : List UInt8 := [UInt8.ofNat r.toNat, UInt8.ofNat (r.toNat / 256), UInt8.ofNat (r.toNat / 65536), UInt8.ofNat (r.toNat / 16777216)]
theorem sumB_length (r : BitVec 32) : (sumB r).length = 4 := rfl
theorem u8_of_nat (n : Nat) : ((UInt8.ofNat n).toNat : Int) = (n : Int) % 256 := by
  rw [UInt8.toNat_ofNat']; omega
theorem sumB_cells (r : BitVec 32) : (cellsOf (sumB r)) = [.int .u8 ((r.toNat : Int) % 256), .int .u8 ((r.toNat : Int) / 256 % 256), .int .u8 ((r.toNat : Int) / 65536 % 256), .int .u8 ((r.toNat : Int) / 16777216)] := by
  simp only [cellsOf, sumB, List.map_cons, List.map_nil, u8v, u8_of_nat]
  have := r.isLt
  simp
  omega

set_option maxRecDepth 20000 in
set_option maxHeartbeats 800000 in
theorem sumBytes_any {w : World} {v : Value} {l : List UInt8} (h : Rd 0 w v l) (hl : l.length ≤ 1099511627776) :
    Calls Try.prog 14 #[v] w fun e w' => e = .returned (.agg (cellsOf (sumB (crc l))).toArray) ∧ Below w.heap.size w w' := by
  have hs := sum_any (h.keep ((Below.refl w.heap.size w).alloc (Nat.le_refl _) (.cells #[.int .u8 0, .int .u8 0, .int .u8 0, .int .u8 0] 42))) hl
  have HS := Lib.hid hs
  rw [sumB_cells]
  clear hs h hl
  generalize crc l = r at *
  unfold r32 at HS
  go_enter Try.func14, Try.ntmps14
  go_wp2_with fail
  refine HS.out.mono ?_
  rintro e w1 ⟨rfl, rfl⟩
  go_wp2_with fail
  exact bodyPost_ret (v := .agg #[.int .u8 ((r.toNat : Int) % 256), .int .u8 ((r.toNat : Int) / 256 % 256), .int .u8 ((r.toNat : Int) / 65536 % 256), .int .u8 ((r.toNat : Int) / 16777216)])
    (by simp [results, Try.results14, go_sem]) rfl ⟨rfl, (Below.refl _ _).alloc (Nat.le_refl _) _⟩

end Go.Proofs.Ythaflimgigppaaa
