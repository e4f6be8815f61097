/-
  A heap in memory: the child of a thing that is ahead of the other.
-/
import Derived.Test.YtmbaedldikobcaaKHeapR
namespace Go.Proofs.Ytmbaedldikobcaa
open Go.RowKit
set_option linter.unusedVariables false

/-- The first child. -/
def fch (f : Int → Int) (g : Nat → Hp) (n i : Nat) : Nat := if 2 * i + 2 < n ∧ Ahd f (g (2 * i + 2)) (g (2 * i + 1)) then 2 * i + 2 else 2 * i + 1
section
variable {f : Int → Int} {g : Nat → Hp} {n i : Nat}
theorem fch_two : fch f g n i = 2 * i + 2 ∨ fch f g n i = 2 * i + 1 := by unfold fch; split; exact .inl rfl; exact .inr rfl
theorem fch_pos : i < fch f g n i := by rcases fch_two (f := f) (g := g) (n := n) (i := i) with h | h <;> omega
theorem fch_par : par (fch f g n i) = i := by unfold par; rcases fch_two (f := f) (g := g) (n := n) (i := i) with h | h <;> omega
theorem par_two {j : Nat} (h0 : 0 < j) (h : par j = i) : j = 2 * i + 1 ∨ j = 2 * i + 2 := by unfold par at h; omega
theorem fch_least : ∀ j, 0 < j → j < n → par j = i → ¬ Ahd f (g j) (g (fch f g n i)) := by
  intro j j0 jn jp
  unfold fch
  split
  · rename_i h
    rcases par_two j0 jp with rfl | rfl
    · exact ahd_nahd h.2
    · exact nahd_self _
  · rename_i h
    rcases par_two j0 jp with rfl | rfl
    · exact nahd_self _
    · exact fun a => h ⟨jn, a⟩
theorem fch_none (h : ¬ fch f g n i < n) : ∀ j, 0 < j → j < n → par j = i → False := by
  intro j j0 jn jp
  unfold fch at h
  split at h
  · rename_i h'
    exact h h'.1
  · rcases par_two j0 jp with rfl | rfl <;> omega
end

set_option maxRecDepth 100000 in
set_option maxHeartbeats 4000000 in
theorem child_any {f : Int → Int} {fl : Nat} (hF : Less f fl) {w : World} {hb g n cap : Nat} {t : Int} (h0 : w.heap[hb]? = some (Obj.cells #[.func (.func fl) #[] #[], .slice (some ⟨g, 0, none⟩) n cap, .int .i64 t] HeT))
    {L : List Hp} (hL : Laid3 w g cap L) (hln : L.length = n) (hks : KeysIn L) {i : Nat} (hz : i < 1000000) :
    Calls Try.prog 140 #[.pointer (some ⟨hb, 0, none⟩), .int .i64 (i : Int)] w fun e w' => e = .returned (.int .i64 ((fch f (atH L) n i : Nat) : Int)) ∧ Below w.heap.size w w' := by
  have e1 : ((2 * i + 1 : Nat) : Int) = 2 * (i : Int) + 1 := by omega
  have e2 : ((2 * i + 2 : Nat) : Int) = 2 * (i : Int) + 2 := by omega
  have z1 := cellB (j := 1) h0 rfl
  have hw0 : wrap64 (2 * (i : Int)) = 2 * (i : Int) := by unfold wrap64; omega
  have hw1 : wrap64 (2 * (i : Int) + 1) = 2 * (i : Int) + 1 := by unfold wrap64; omega
  have hw2 : wrap64 (2 * (i : Int) + 2) = 2 * (i : Int) + 2 := by unfold wrap64; omega
  have HZ := Lib.hid hz
  have E1 := Lib.hid e1
  have E2 := Lib.hid e2
  clear hz e1 e2
  by_cases hr : 2 * i + 2 < n
  · have hx := hL.at3 (atH_some (show 2 * i + 2 < L.length by rw [hln]; exact hr))
    have hy := hL.at3 (atH_some (show 2 * i + 1 < L.length by rw [hln]; omega))
    have kx : InI (atH L (2 * i + 2)).key := hks _ (List.mem_of_getElem? (atH_some (show 2 * i + 2 < L.length by rw [hln]; exact hr)))
    have ky : InI (atH L (2 * i + 1)).key := hks _ (List.mem_of_getElem? (atH_some (show 2 * i + 1 < L.length by rw [hln]; omega)))
    have hr2 : 2 * (i : Int) + 2 < (n : Int) := by omega
    by_cases ha : Ahd f (atH L (2 * i + 2)) (atH L (2 * i + 1))
    · have hc := ahead_yes hF h0 hr (show 2 * i + 1 < n by omega) hx hy kx ky ha
      rw [E1.out, E2.out] at hc
      have HC := Lib.hid hc
      have HV : Hid (fch f (atH L) n i = 2 * i + 2) := Lib.hid (by unfold fch; rw [if_pos ⟨hr, ha⟩])
      clear hc hx hy kx ky ha hr hL hks hF h0 hln
      go_enter Try.func140, Try.ntmps140
      go_wp2_with fail
      refine HC.out.mono ?_
      rintro e w2 ⟨rfl, u2⟩
      have HU2 := Lib.hid u2
      clear u2
      go_wp2_with fail
      go_returns
      exact ⟨by rw [HV.out, E2.out]; rfl, HU2.out⟩
    · have hc := ahead_no hF h0 hr (show 2 * i + 1 < n by omega) hx hy kx ky ha
      rw [E1.out, E2.out] at hc
      have HC := Lib.hid hc
      have HV : Hid (fch f (atH L) n i = 2 * i + 1) := Lib.hid (by unfold fch; rw [if_neg (fun h => ha h.2)])
      clear hc hx hy kx ky ha hr hL hks hF h0 hln
      go_enter Try.func140, Try.ntmps140
      go_wp2_with fail
      refine HC.out.mono ?_
      rintro e w2 ⟨rfl, u2⟩
      have HU2 := Lib.hid u2
      clear u2
      go_wp2_with fail
      go_returns
      exact ⟨by rw [HV.out, E1.out]; rfl, HU2.out⟩
  · have hr2 : decide (2 * (i : Int) + 2 < (n : Int)) = false := decide_eq_false (by omega)
    have HV : Hid (fch f (atH L) n i = 2 * i + 1) := Lib.hid (by unfold fch; rw [if_neg (fun h => hr h.1)])
    clear hr hL hks hF h0 hln
    go_enter Try.func140, Try.ntmps140
    go_wp2_with fail
    go_returns
    exact ⟨by rw [HV.out, E1.out]; show Ending.returned (.int .i64 (wrap64 (2 * (i : Int) + 1))) = _; rw [hw1], Below.refl _ _⟩
end Go.Proofs.Ytmbaedldikobcaa
