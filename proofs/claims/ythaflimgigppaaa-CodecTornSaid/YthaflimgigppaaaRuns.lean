/-
  A slice of bytes: cut out of another, and turned into a string.
-/
import Derived.Test.YthaflimgigppaaaReader
namespace Go.Proofs.Ythaflimgigppaaa
open Go.RowKit

/-- The string of the bytes l. -/
def strOf (l : List UInt8) : ByteArray := ⟨l.toArray⟩
theorem strOf_toList (l : List UInt8) : (strOf l).data.toList = l := by simp [strOf]
theorem strOf_size (l : List UInt8) : (strOf l).size = l.length := by simp [strOf, ByteArray.size]
theorem strOf_data (s : ByteArray) : strOf s.data.toList = s := by cases s; simp [strOf]

theorem rd_string {B : Nat} {w : World} {v : Value} {l : List UInt8} (h : Rd B w v l) : (convert 24 9 v).run Try.prog w = .ok (.string (strOf l)) w := by
  rcases h with ⟨rfl, rfl⟩ | ⟨b, off, cap, rfl, h1, h2, h3, h4, h5⟩
  · exact run_convert_bytes_nil w 24 5 Try.underlying24 Try.underlying5 0 0 9 Try.underlying9
  · have h := run_convert_bytes_arg (P := Try.prog) w 24 5 Try.underlying24 Try.underlying5 b off l.length cap (l.map fun x => (x.toNat : Int)) (by simp) (fun i hi => by
      rw [h5 i hi]
      simp [u8v, List.getD_eq_getElem?_getD, hi]) 9 Try.underlying9
    rw [h]
    congr 2
    apply ByteArray.ext
    apply Array.toList_inj.1
    rw [strOfNums_data, strOf_toList, List.map_map]
    conv => rhs; rw [← List.map_id l]
    apply List.map_congr_left
    intro x _
    simp

theorem size5 (w : World) : (Go.sizeOf 5).run Try.prog w = .ok 1 w := by kernel_rfl

theorem rd_cut {B : Nat} {w : World} {v : Value} {l : List UInt8} (h : Rd B w v l) (lo hi : Nat) (h1 : lo ≤ hi) (h2 : hi ≤ l.length) :
    ∃ v', Rd B w v' ((l.drop lo).take (hi - lo)) ∧ v'.ownBlock = v.ownBlock ∧ ∀ W : World, (Instr.slice 24 v (some (.int .i64 (lo : Int))) (some (.int .i64 (hi : Int))) none).run Try.prog W = .ok v' W := by
  have he : Try.prog.elem 24 = 5 := by simp [Program.elem, Try.underlying24]
  have ht : Try.prog.underlying 24 = some (.slice (Try.prog.elem 24)) := by rw [he]; exact Try.underlying24
  rcases h with ⟨rfl, rfl⟩ | ⟨b, off, cap, rfl, g1, g2, g3, g4, g5⟩
  · have : hi = 0 := by simpa using h2
    subst this
    have : lo = 0 := by omega
    subst this
    refine ⟨.slice none 0 0, .inl ⟨rfl, rfl⟩, rfl, fun W => ?_⟩
    rw [run_slice_lh W _ _ _ _ ht _ _ _ _ (by omega) (by omega) (by omega), he, size5]
    rfl
  · have hlen : ((l.drop lo).take (hi - lo)).length = hi - lo := by simp; omega
    refine ⟨.slice (some (if cap = lo then ⟨b, off, none⟩ else ⟨b, off + lo, none⟩)) (hi - lo) (cap - lo), ?_, by simp only [Value.ownBlock]; split <;> rfl, fun W => ?_⟩
    · by_cases hc : cap = lo
      · have hz : (l.drop lo).take (hi - lo) = [] := List.eq_nil_of_length_eq_zero (by omega)
        have hz' : hi - lo = 0 := by omega
        rw [if_pos hc, hz, hz']
        exact .inr ⟨b, off, _, rfl, g1, g2, by simp, by unfold maxLen at *; omega, by simp⟩
      · rw [if_neg hc]
        refine .inr ⟨b, off + lo, cap - lo, by rw [hlen], g1, g2, by omega, by unfold maxLen at *; omega, fun i hi' => ?_⟩
        rw [hlen] at hi'
        rw [Nat.add_assoc, g5 (lo + i) (by omega)]
        simp [List.getD_eq_getElem?_getD, hi']
    · rw [run_slice_lh W _ _ _ _ ht _ _ _ _ (by omega) (by omega) (by omega), he, size5]
      simp only [Result.andThen_ok, sliced, Int.toNat_natCast]
      by_cases hc : cap = lo
      · simp [hc]
      · simp only [hc, if_false, Option.map_some, Nat.mul_one]
        by_cases h0 : lo = 0
        · simp [h0, Addr.add]
        · simp [h0, Addr.add]

end Go.Proofs.Ythaflimgigppaaa
