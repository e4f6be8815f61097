/-
  R.Least of a list of things: the first of the least keys.
-/
import Derived.Test.YtmbaedldikobcaaKHeapM
namespace Go.Proofs.Ytmbaedldikobcaa
open Go.RowKit
set_option linter.unusedVariables false

/-- Things, as a slice has them. -/
def ths (l : List (Int × Int)) : List Value := l.flatMap fun x => [.int .i64 x.1, .int .i64 x.2]
theorem ths_length (l : List (Int × Int)) : (ths l).length = l.length * 2 := by
  induction l with
  | nil => rfl
  | cons a l ih => simp only [ths, List.flatMap_cons, List.length_append, List.length_cons, List.length_nil] at ih ⊢; omega
theorem ths_append (a b : List (Int × Int)) : ths (a ++ b) = ths a ++ ths b := by simp [ths]
theorem ths_at {l : List (Int × Int)} : ∀ {k : Nat} {x : Int × Int}, l[k]? = some x → (ths l)[k * 2]? = some (.int .i64 x.1) ∧ (ths l)[k * 2 + 1]? = some (.int .i64 x.2) := by
  induction l with
  | nil => intro k x h; simp at h
  | cons a l ih =>
    intro k x h
    cases k with
    | zero =>
      obtain rfl : a = x := by simpa using h
      exact ⟨rfl, rfl⟩
    | succ k =>
      obtain ⟨h1, h2⟩ := ih (by simpa using h)
      rw [show (k + 1) * 2 = (k * 2) + 2 by omega]
      exact ⟨h1, h2⟩
def keyAt (l : List (Int × Int)) (j : Nat) : Int := (l.getD j (0, 0)).1
/-- Among the first k: r is the first of the least. -/
def Bst (l : List (Int × Int)) (k : Nat) (r : Int) : Prop := (k = 0 ∧ r = -1) ∨ ∃ b : Nat, r = (b : Int) ∧ b < k ∧ ∀ j, j < k → keyAt l b ≤ keyAt l j ∧ (j < b → keyAt l b < keyAt l j)
theorem Bst.take {l : List (Int × Int)} {k : Nat} {r : Int} (h : Bst l k r) (hn : r < 0 ∨ ∀ b : Nat, r = (b : Int) → keyAt l k < keyAt l b) : Bst l (k + 1) (k : Int) := by
  refine .inr ⟨k, rfl, by omega, fun j hj => ?_⟩
  rcases h with ⟨rfl, _⟩ | ⟨b, rfl, hb, hall⟩
  · obtain rfl : j = 0 := by omega
    exact ⟨Int.le_refl _, fun h => by omega⟩
  · have hlt : keyAt l k < keyAt l b := by
      rcases hn with hn | hn
      · omega
      · exact hn b rfl
    rcases Nat.lt_or_ge j k with h | h
    · have := (hall j h).1
      exact ⟨by omega, fun _ => by omega⟩
    · obtain rfl : j = k := by omega
      exact ⟨Int.le_refl _, fun h => by omega⟩
theorem Bst.keep {l : List (Int × Int)} {k b : Nat} (h : Bst l k (b : Int)) (hn : keyAt l b ≤ keyAt l k) : Bst l (k + 1) (b : Int) := by
  rcases h with ⟨_, h⟩ | ⟨b', e, hb, hall⟩
  · omega
  · obtain rfl : b = b' := by omega
    refine .inr ⟨b, rfl, by omega, fun j hj => ?_⟩
    rcases Nat.lt_or_ge j k with h | h
    · exact hall j h
    · obtain rfl : j = k := by omega
      exact ⟨hn, fun h => by omega⟩

set_option maxRecDepth 100000 in
set_option maxHeartbeats 1600000 in
theorem least_any {w : World} {v : Value} {l : List (Int × Int)} (h : Row w 2 v l.length (ths l)) (hl : l.length < 100000) :
    Calls Try.prog 54 #[v] w fun e w' => ∃ r, e = .returned (.int .i64 r) ∧ Bst l l.length r ∧ Drew w w' := by
  obtain ⟨hln, hsh⟩ := h
  have HSH := Lib.hid hsh
  obtain ⟨aa, ca, rfl⟩ : ∃ a c, v = .slice a l.length c := by
    rcases hsh with ⟨rfl, e⟩ | ⟨b, off, cap, rfl, _⟩
    · exact ⟨_, _, by rw [e]⟩
    · exact ⟨_, _, rfl⟩
  have hat : ∀ k, k < l.length → ∃ b off, aa = some ⟨b, off, none⟩ ∧ w.cell? ⟨b, off + k * 2, none⟩ = some (.int .i64 (keyAt l k)) := fun k hk => by
    rcases hsh with ⟨_, e⟩ | ⟨b, off, cap, e, _, _, _, h6⟩
    · omega
    · simp only [Value.slice.injEq] at e
      refine ⟨b, off, e.1, ?_⟩
      have := (ths_at (List.getElem?_eq_getElem hk)).1
      rw [h6 _ _ this]
      simp [keyAt, List.getD, hk]
  have HAT := Lib.hid hat
  have HL := Lib.hid hl
  clear hsh HSH hat hln hl
  go_enter Try.func54, Try.ntmps54
  go_wp2_with fail
  go_loopw [3, 4] (fun v3 v4 wr => ∃ (r : Int) (k m : Nat), v3 = .int .i64 r ∧ v4 = .int .i64 (k : Int) ∧ k ≤ l.length ∧ Bst l k r ∧ wr = w.drewN m) (fun _ v4 _ => l.length - (intOf v4).toNat)
  case atStart => exact ⟨-1, 0, 0, rfl, rfl, Nat.zero_le _, .inl ⟨rfl, rfl⟩, rfl⟩
  case round =>
    obtain ⟨r, k, m, rfl, rfl, hk, hb, rfl⟩ := hrel
    have HB := Lib.hid hb
    clear hb
    by_cases hlt : k < l.length
    · obtain ⟨b1, o1, rfl, c1⟩ := HAT.out k hlt
      have hk0 : (0 : Int) ≤ (k : Int) := by omega
      have hk1 : (k : Int) < (l.length : Int) := by omega
      have HLT := Lib.hid hlt
      have hw1 : wrap64 ((k : Int) + 1) = ((k + 1 : Nat) : Int) := by have := HL.out; unfold wrap64; omega
      have HW1 := Lib.hid hw1
      clear hlt hw1
      go_upto_region 5 with fail
      go_cut [25] from 5 to 26 (fun s wx => ∃ b m', s = .bool b ∧ (b = true → r < 0 ∨ ∀ b : Nat, r = (b : Int) → keyAt l k < keyAt l b) ∧ (b = false → ∃ c : Nat, r = (c : Int) ∧ keyAt l c ≤ keyAt l k) ∧ wx = w.drewN m')
      case first =>
        by_cases hr : r < 0
        · have HR := Lib.hid hr
          have hd : decide (r < 0) = true := decide_eq_true hr
          clear hr
          go_quiet (fail)
          go_wp2_with fail
          go_meet
          exact ⟨_, _, rfl, fun _ => .inl HR.out, fun h => absurd h (by decide), by first | rfl | rw [World.drewN_drewN]⟩
        · obtain ⟨c, rfl, hck⟩ : ∃ c : Nat, r = (c : Int) ∧ c < k := by
            rcases HB.out with ⟨_, e⟩ | ⟨c, e, h, _⟩
            · omega
            · exact ⟨c, e, h⟩
          obtain ⟨b2, o2, e2, c2⟩ := HAT.out c (by have := HLT.out; omega)
          simp only [Option.some.injEq, Addr.mk.injEq, and_true] at e2
          obtain ⟨rfl, rfl⟩ := e2
          have hc0 : (0 : Int) ≤ (c : Int) := by omega
          have hc1 : (c : Int) < (l.length : Int) := by have := HLT.out; omega
          have hd : decide ((c : Int) < 0) = false := decide_eq_false (by omega)
          clear hck hr
          obtain ⟨x, hx⟩ : ∃ x, x = keyAt l k := ⟨_, rfl⟩
          obtain ⟨y, hy⟩ : ∃ y, y = keyAt l c := ⟨_, rfl⟩
          rw [← hx] at c1
          rw [← hy] at c2
          have HX := Lib.hid hx
          have HY := Lib.hid hy
          clear hx hy
          obtain ⟨q, hq⟩ : ∃ q, q = decide (x < y) := ⟨_, rfl⟩
          have HQ := Lib.hid hq
          have hq' := hq.symm
          clear hq
          go_quiet (fail)
          go_wp2_with fail
          go_meet
          refine ⟨_, _, rfl, fun h => .inr fun b hb => ?_, fun h => ⟨c, rfl, ?_⟩, by first | rfl | rw [World.drewN_drewN]⟩
          · obtain rfl : c = b := by omega
            have e := HQ.out
            rw [h] at e
            have := of_decide_eq_true e.symm
            rw [← HX.out, ← HY.out]; exact this
          · have e := HQ.out
            rw [h] at e
            have := of_decide_eq_false e.symm
            rw [← HX.out, ← HY.out]; omega
      case rest =>
        obtain ⟨q, m', rfl, g1, g2, rfl⟩ := hcut
        have G1 := Lib.hid g1
        have G2 := Lib.hid g2
        clear g1 g2 HAT c1
        cases q with
        | true =>
          go_wp2_with fail
          go_roundw
          case rel => exact ⟨(k : Int), k + 1, m', rfl, by rw [HW1.out], HLT.out, HB.out.take (G1.out rfl), rfl⟩
          case measure => rw [HW1.out]; have := HLT.out; simp only [intOf, Int.toNat_natCast]; omega
        | false =>
          obtain ⟨c, e, hcc⟩ := G2.out rfl
          subst e
          have HCC := Lib.hid hcc
          clear hcc
          go_wp2_with fail
          go_roundw
          case rel => exact ⟨(c : Int), k + 1, m', rfl, by rw [HW1.out], HLT.out, HB.out.keep HCC.out, rfl⟩
          case measure => rw [HW1.out]; have := HLT.out; simp only [intOf, Int.toNat_natCast]; omega
    · go_wp2_with fail
      go_returns
      obtain rfl : k = l.length := by omega
      exact ⟨r, rfl, HB.out, _, rfl⟩
end Go.Proofs.Ytmbaedldikobcaa
