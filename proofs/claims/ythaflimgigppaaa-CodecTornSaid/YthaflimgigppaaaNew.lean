/-
  codec's New and Done; the law's own num.
-/
import Derived.Test.YthaflimgigppaaaTextM
namespace Go.Proofs.Ythaflimgigppaaa
open Go.RowKit

theorem IsReader.made {w : World} {e : Nat} {v : Value} {p : List UInt8} (h : Rd 0 w v p) (hs : p.length ≤ 1099511627776) (he : e < 200) :
    IsReader (w.alloc (.cells #[v, .int .i64 0, .int .i64 (e : Int)] 47)) w.heap.size v p 0 e := by
  refine ⟨heap_alloc_new w _, h.keep ((Below.refl _ _).alloc (Nat.le_refl _) _), ?_, Nat.zero_le _, hs, he⟩
  intro e
  have := h.own_lt _ e
  omega

set_option maxHeartbeats 400000 in
theorem new_any {w : World} {v : Value} {p : List UInt8} (h : Rd 0 w v p) (hs : p.length ≤ 1099511627776) :
    Calls Try.prog 8 #[v] w fun e w' => ∃ a, e = .returned (.pointer (some ⟨a, 0, none⟩)) ∧ w.heap.size ≤ a ∧ (∃ v', IsReader w' a v' p 0 0) ∧ Below w.heap.size w w' := by
  go_enter Try.func8, Try.ntmps8
  go_wp2_with fail
  refine (fresh_any p 0 v w h hs (by omega)).mono ?_
  rintro e w1 ⟨v1, rfl, hown, hbel⟩
  have hr := IsReader.made (e := 0) hown.rd.zero hs (by omega)
  have HR := Lib.hid hr
  clear hr
  obtain ⟨sa, sc, rfl⟩ := hown.rd.shape
  go_wp2_with fail
  go_ret
  exact ⟨_, rfl, hbel.size, ⟨_, HR.out⟩, hbel.alloc hbel.size _⟩

set_option maxHeartbeats 400000 in
theorem done_nil (w : World) : Calls Try.prog 11 #[.pointer none] w fun e w' => e = .returned (.int .i64 0) ∧ w = w' := by
  go_enter Try.func11, Try.ntmps11
  go_wp2_with fail
  refine (why_nil w).mono ?_
  rintro e w1 ⟨rfl, rfl⟩
  go_wp2_with fail
  refine (left_nil w).mono ?_
  rintro e w1 ⟨rfl, rfl⟩
  go_wp2_with fail
  go_ret
  exact ⟨rfl, rfl⟩

set_option maxHeartbeats 400000 in
theorem done_ok {w : World} {a : Nat} {v : Value} {p : List UInt8} {k : Nat} (h : IsReader w a v p k 0) (hk : k = p.length) :
    Calls Try.prog 11 #[.pointer (some ⟨a, 0, none⟩)] w fun e' w' => e' = .returned (.int .i64 0) ∧ ∃ n, w' = w.drewN n := by
  have hl := left_any h
  have hz : ((p.length : Int) - (k : Int)) = 0 := by omega
  rw [hz] at hl
  clear hz hk
  have HL := Lib.hid hl
  clear hl
  go_enter Try.func11, Try.ntmps11
  go_wp2_with fail
  refine (why_ok h).mono ?_
  rintro e w1 ⟨rfl, rfl⟩
  go_wp2_with fail
  refine HL.out.mono ?_
  rintro e w1 ⟨rfl, n, rfl⟩
  go_wp2_with fail
  go_ret
  exact ⟨rfl, _, rfl⟩

set_option maxHeartbeats 400000 in
theorem done_tail {w : World} {a : Nat} {v : Value} {p : List UInt8} {k : Nat} (h : IsReader w a v p k 0) (hk : k < p.length) :
    Calls Try.prog 11 #[.pointer (some ⟨a, 0, none⟩)] w fun e' w' => e' = .returned (.int .i64 4) ∧ ∃ n, w' = w.drewN n := by
  have hs := h.small
  go_enter Try.func11, Try.ntmps11
  go_wp2_with fail
  refine (why_ok h).mono ?_
  rintro e w1 ⟨rfl, rfl⟩
  go_wp2_with fail
  refine (left_any h).mono ?_
  rintro e w1 ⟨rfl, n, rfl⟩
  go_wp2_with fail
  go_ret
  exact ⟨rfl, _, rfl⟩

set_option maxHeartbeats 400000 in
theorem done_bad {w : World} {a : Nat} {v : Value} {p : List UInt8} {k e : Nat} (h : IsReader w a v p k e) (he : 0 < e) :
    Calls Try.prog 11 #[.pointer (some ⟨a, 0, none⟩)] w fun e' w' => e' = .returned (.int .i64 (e : Int)) ∧ ∃ n, w' = w.drewN n := by
  have hne : ((e : Int) == 0) = false := by simp; omega
  go_enter Try.func11, Try.ntmps11
  go_wp2_with fail
  refine (why_bad h he).mono ?_
  rintro e' w1 ⟨rfl, n, rfl⟩
  go_wp2_with fail
  go_ret
  exact ⟨rfl, _, rfl⟩

theorem lawnum_any (n : Int) (w : World) : Calls Try.prog 6 #[.int .i64 n] w fun e w' => e = .returned (.int .i64 n) ∧ w = w' := by
  go_enter Try.func6, Try.ntmps6
  go_wp2
  go_ret
  exact ⟨rfl, rfl⟩

end Go.Proofs.Ythaflimgigppaaa
