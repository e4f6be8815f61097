/-
  What the document's own Open does where there is no whole frame.
-/
import Derived.Test.YtoeaaddkeefgoaaRefNum
import Derived.Test.YtoeaaddkeefgoaaOpen
namespace Go.Proofs.Ytoeaaddkeefgoaa
open Go.RowKit

theorem rd_from {B : Nat} {w : World} {v : Value} {l : List UInt8} (h : Rd B w v l) (lo : Nat) (h1 : lo ≤ l.length) :
    ∃ v', Rd B w v' (l.drop lo) ∧ v'.ownBlock = v.ownBlock ∧ ∀ W : World, (Instr.slice 22 v (some (.int .i64 (lo : Int))) none none).run Try.prog W = .ok v' W := by
  have he : Try.prog.elem 22 = 5 := by simp [Program.elem, Try.underlying22]
  have ht : Try.prog.underlying 22 = some (.slice (Try.prog.elem 22)) := by rw [he]; exact Try.underlying22
  obtain ⟨v', h2, h3, h4⟩ := rd_cut h lo l.length h1 (Nat.le_refl _)
  refine ⟨v', by rwa [List.take_of_length_le (by simp)] at h2, h3, fun W => ?_⟩
  rw [← h4 W]
  rcases h with ⟨rfl, rfl⟩ | ⟨b, off, cap, rfl, _, _, g3, _, _⟩
  · simp only [List.length_nil, Nat.le_zero_eq] at h1
    subst h1
    rw [run_slice_l W _ _ _ _ ht _ _ (by omega) (by simp), run_slice_lh W _ _ _ _ ht _ _ _ _ (by omega) (by simp) (by simp)]
    rfl
  · rw [run_slice_l W _ _ _ _ ht _ _ (by omega) (by omega), run_slice_lh W _ _ _ _ ht _ _ _ _ (by omega) (by omega) (by omega)]
    rfl

theorem or_u32 {a b k : Nat} (ha : a < 2 ^ k) (hb : b * 2 ^ k + a < 4294967296) : bits BinOp.or IntKind.u32 (a : Int) ((b * 2 ^ k : Nat) : Int) = ((a + b * 2 ^ k : Nat) : Int) := by
  have h : (BitVec.ofInt 32 (a : Int) ||| BitVec.ofInt 32 ((b * 2 ^ k : Nat) : Int)).toNat = a + b * 2 ^ k := by
    rw [BitVec.ofInt_natCast, BitVec.ofInt_natCast, BitVec.toNat_or, BitVec.toNat_ofNat, BitVec.toNat_ofNat, Nat.mod_eq_of_lt (by omega), Nat.mod_eq_of_lt (by omega), Nat.or_comm, Nat.mul_comm b, ← Nat.two_pow_add_eq_or_of_lt ha, Nat.add_comm]
  show IntKind.u32.wrap ((BitVec.ofInt 32 (a : Int) ||| BitVec.ofInt 32 ((b * 2 ^ k : Nat) : Int)).toNat : Int) = _
  rw [h, IntKind.wrap_u32]
  omega

/-- Four bytes, the lowest first. -/
theorem four_u32 (y0 y1 y2 y3 : UInt8) :
    bits BinOp.or IntKind.u32 (bits BinOp.or IntKind.u32 (bits BinOp.or IntKind.u32 ((y0.toNat : Int) % 4294967296) ((y1.toNat : Int) % 4294967296 * 256 % 4294967296)) ((y2.toNat : Int) % 4294967296 * 65536 % 4294967296)) ((y3.toNat : Int) % 4294967296 * 16777216 % 4294967296)
      = ((y0.toNat + y1.toNat * 2 ^ 8 + y2.toNat * 2 ^ 16 + y3.toNat * 2 ^ 24 : Nat) : Int) := by
  have h0 := y0.toNat_lt
  have h1 := y1.toNat_lt
  have h2 := y2.toNat_lt
  have h3 := y3.toNat_lt
  rw [show (y0.toNat : Int) % 4294967296 = (y0.toNat : Int) by omega, show (y1.toNat : Int) % 4294967296 * 256 % 4294967296 = ((y1.toNat * 2 ^ 8 : Nat) : Int) by omega,
    show (y2.toNat : Int) % 4294967296 * 65536 % 4294967296 = ((y2.toNat * 2 ^ 16 : Nat) : Int) by omega, show (y3.toNat : Int) % 4294967296 * 16777216 % 4294967296 = ((y3.toNat * 2 ^ 24 : Nat) : Int) by omega,
    or_u32 (by omega) (by omega), or_u32 (by omega) (by omega), or_u32 (by omega) (by omega)]
theorem four_eq {r : BitVec 32} {y0 y1 y2 y3 : UInt8} : ((y0.toNat + y1.toNat * 2 ^ 8 + y2.toNat * 2 ^ 16 + y3.toNat * 2 ^ 24 : Nat) : Int) = (r.toNat : Int) ↔ sumB r = [y0, y1, y2, y3] := by
  rw [← u8_ints]
  have h0 := y0.toNat_lt
  have h1 := y1.toNat_lt
  have h2 := y2.toNat_lt
  have h3 := y3.toNat_lt
  have hr := r.isLt
  simp only [List.cons.injEq, and_true]
  omega

set_option maxHeartbeats 800000 in
theorem refOpen_form {w : World} {v : Value} {p : List UInt8} (h : Rd 0 w v p) (hp : p.length ≤ 1099511627776) {er : Nat} (hs : numS p = .inl er) :
    Calls Try.prog 9 #[v] w fun e w' => e = .returned (.tuple #[.slice none 0 0, .int .i64 0, .int .i64 (er : Int)]) ∧ Below w.heap.size w w' := by
  have her := numF_err _ _ _ _ _ hs
  have hne : ((er : Int) == 0) = false := by simp; omega
  have hs' := Lib.hid hs
  clear hs her
  go_enter Try.func9, Try.ntmps9
  go_wp2_with fail
  refine (refNew_any h hp).mono ?_
  rintro e w1 ⟨a, rfl, hsz, ⟨v1, hr⟩, hb1⟩
  go_wp2_with fail
  refine (refNum_any hr).mono ?_
  rintro e w2 ⟨hg, hx⟩
  rw [List.drop_zero, hs'.out] at hx
  obtain ⟨rfl, q, hr2⟩ := hx
  have c2 := hr2.c2
  go_wp2_with fail
  go_quiet (fail)
  go_wp2_with fail
  go_ret3
  exact ⟨rfl, below_drewN (hb1.grown hg hb1.size fun k hk => by simp at hk; omega) _⟩

set_option maxHeartbeats 800000 in
theorem refOpen_long {w : World} {v : Value} {p : List UInt8} (h : Rd 0 w v p) (hp : p.length ≤ 1099511627776) {n len : Nat} (hs : numS p = .inr (n, len)) (hn : 4096 < n) :
    Calls Try.prog 9 #[v] w fun e w' => e = .returned (.tuple #[.slice none 0 0, .int .i64 0, .int .i64 1]) ∧ Below w.heap.size w w' := by
  have hs' := Lib.hid hs
  clear hs
  go_enter Try.func9, Try.ntmps9
  go_wp2_with fail
  refine (refNew_any h hp).mono ?_
  rintro e w1 ⟨a, rfl, hsz, ⟨v1, hr⟩, hb1⟩
  go_wp2_with fail
  refine (refNum_any hr).mono ?_
  rintro e w2 ⟨hg, hx⟩
  rw [List.drop_zero, hs'.out] at hx
  obtain ⟨rfl, q, hr2⟩ := hx
  have c2 := hr2.c2
  go_wp2_with fail
  go_ret3
  exact ⟨rfl, hb1.grown hg hb1.size fun k hk => by simp at hk; omega⟩

set_option maxHeartbeats 800000 in
theorem refOpen_short {w : World} {v : Value} {p : List UInt8} (h : Rd 0 w v p) (hp : p.length ≤ 1099511627776) {n len : Nat} (hs : numS p = .inr (n, len)) (hn : n ≤ 4096) (hl : p.length < len + n + 4) :
    Calls Try.prog 9 #[v] w fun e w' => e = .returned (.tuple #[.slice none 0 0, .int .i64 0, .int .i64 3]) ∧ Below w.heap.size w w' := by
  have hle := (numS_lt hs).2.1
  have hs' := Lib.hid hs
  clear hs
  go_enter Try.func9, Try.ntmps9
  go_wp2_with fail
  refine (refNew_any h hp).mono ?_
  rintro e w1 ⟨a, rfl, hsz, ⟨v1, hr⟩, hb1⟩
  go_wp2_with fail
  refine (refNum_any hr).mono ?_
  rintro e w2 ⟨hg, hx⟩
  rw [List.drop_zero, hs'.out] at hx
  obtain ⟨rfl, q, hr2⟩ := hx
  rw [Nat.zero_add] at hr2
  have c2 := hr2.c2
  have hL := Lib.hid (refLeft_any hr2)
  go_wp2_with fail
  refine hL.out.mono ?_
  rintro e w3 ⟨rfl, m, rfl⟩
  go_wp2_with fail
  go_ret3
  exact ⟨rfl, below_drewN (hb1.grown hg hb1.size fun k hk => by simp at hk; omega) _⟩

end Go.Proofs.Ytoeaaddkeefgoaa
