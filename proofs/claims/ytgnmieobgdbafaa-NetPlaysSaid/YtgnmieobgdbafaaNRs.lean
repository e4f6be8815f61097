/-
  The document's small functions, Cut, Sent, Came, Hold, Tick, out.
-/
import Derived.Test.YtgnmieobgdbafaaNRm
import Derived.Test.YtgnmieobgdbafaaNBd
namespace Go.Proofs.Ytgnmieobgdbafaa
open Go.RowKit
set_option linter.unusedVariables false
set_option maxRecDepth 20000 in
theorem link_any (w : World) (a b : Int) : Calls Try.prog 49 #[.int .i64 a, .int .i64 b] w fun e w' => e = .returned (.bool (areB a b)) ∧ w = w' := by
  have HE := Lib.hid (show areB a b = (((decide (0 ≤ a) && decide (a < 3)) && (decide (0 ≤ b) && decide (b < 3))) && decide (a ≠ b)) from rfl)
  generalize areB a b = r at *
  by_cases h0 : 0 ≤ a
  · by_cases h1 : a < 3
    · by_cases h2 : 0 ≤ b
      · by_cases h3 : b < 3
        · by_cases h4 : a = b
          · subst h4
            go_enter Try.func49, Try.ntmps49
            go_wp2_with fail
            go_returns
            have := HE.out; simp_all <;> (intros; omega)
          · go_enter Try.func49, Try.ntmps49
            go_wp2_with fail
            go_returns
            have := HE.out; simp_all <;> (intros; omega)
        · go_enter Try.func49, Try.ntmps49
          go_wp2_with fail
          go_returns
          have := HE.out; simp_all <;> (intros; omega)
      · go_enter Try.func49, Try.ntmps49
        go_wp2_with fail
        go_returns
        have := HE.out; simp_all <;> (intros; omega)
    · go_enter Try.func49, Try.ntmps49
      go_wp2_with fail
      go_returns
      have := HE.out; simp_all <;> (intros; omega)
  · go_enter Try.func49, Try.ntmps49
    go_wp2_with fail
    go_returns
    have := HE.out; simp_all <;> (intros; omega)
set_option maxRecDepth 20000 in
theorem rplace_any {w : World} {B a : Nat} {F H : Value} {x : Nt} (h : IsM w B a F H x) (i : Int) : Calls Try.prog 53 #[.pointer (some ⟨a, 0, none⟩), .int .i64 i] w fun e w' => e = .returned (.bool (getP x.fl i).isSome) ∧ w = w' := by
  have c1 := h.c0.2.1
  obtain ⟨fa, fc, hF⟩ := slice_of h.rowF
  subst hF
  have HE := Lib.hid (@getP_none x.fl i)
  clear h
  generalize getP x.fl i = r at *
  by_cases h0 : 0 ≤ i <;> by_cases h1 : i < (x.fl.length : Int)
  all_goals
    go_enter Try.func53, Try.ntmps53
    go_wp2_with fail
    go_returns
    have := HE.out
    cases r <;> simp_all
    try omega
def mayP (x : Nt) (i : Int) : Int := match getP x.fl i with
  | none => 7
  | some p => stopP x p
set_option maxRecDepth 20000 in
set_option maxHeartbeats 1600000 in
theorem may_any {w : World} {B a : Nat} {F H : Value} {x : Nt} (h : IsM w B a F H x) (hn : ∀ p ∈ x.fl, p.fr < 3 ∧ p.tt < 3) (i : Int) : Calls Try.prog 51 #[.pointer (some ⟨a, 0, none⟩), .int .i64 i] w fun e w' => e = .returned (.int .i64 (mayP x i)) ∧ Below w.heap.size w w' := by
  have hh := rplace_any h i
  rcases hg : getP x.fl i with _ | p
  · rw [hg] at hh
    rw [show mayP x i = 7 by unfold mayP; rw [hg]]
    clear h hg
    go_enter Try.func51, Try.ntmps51
    go_wp2_with fail
    refine hh.mono ?_
    rintro e w1 ⟨rfl, rfl⟩
    go_wp2_with fail
    go_returns
    exact ⟨rfl, Below.refl _ _⟩
  rw [hg] at hh
  rw [show mayP x i = stopP x p by unfold mayP; rw [hg]]
  obtain ⟨k, rfl, hk, hkl, _⟩ := getP_some hg
  have hp := hn p (List.mem_of_getElem? hk)
  obtain ⟨gg, gc, rfl⟩ := own_slice h.rowF (by omega)
  have c1 := h.c0.2.1
  have hla := (laid_of_own (h.rowF)).1
  obtain ⟨_, t1, t2, _, t4⟩ := hla.at5 hk
  obtain ⟨l0, _, _⟩ := h.link (lk_lt hp.1 hp.2)
  obtain ⟨a1, a2, _, _⟩ := arrM
  unfold lk at l0
  rw [show 3 + (p.fr * 3 + p.tt) = 3 + p.fr * 3 + p.tt by omega] at l0
  have HE := Lib.hid (show stopP x p = if 0 < p.hl then 152 else if x.cut (p.fr * 3 + p.tt) then 151 else 0 from rfl)
  generalize stopP x p = r at *
  generalize x.cut (p.fr * 3 + p.tt) = c at *
  have i0 : (0 : Int) ≤ (k : Int) := by omega
  have i1 : (k : Int) < (x.fl.length : Int) := by omega
  have f0 : (0 : Int) ≤ (p.fr : Int) := by omega
  have f1 : (p.fr : Int) < 3 := by omega
  have f2 : (0 : Int) ≤ (p.tt : Int) := by omega
  have f3 : (p.tt : Int) < 3 := by omega
  clear h hg hk hp hla hn
  by_cases h0 : 0 < p.hl
  · go_enter Try.func51, Try.ntmps51
    go_wp2_with fail
    refine hh.mono ?_
    rintro e w1 ⟨rfl, rfl⟩
    go_wp2_with fail
    go_returns
    have := HE.out
    rw [if_pos h0] at this
    subst this
    exact ⟨rfl, Below.refl _ _⟩
  · go_enter Try.func51, Try.ntmps51
    go_wp2_with fail
    refine hh.mono ?_
    rintro e w1 ⟨rfl, rfl⟩
    go_wp2_with fail
    go_quiet (fail)
    cases c
    · go_wp2_with fail
      go_returns
      have := HE.out
      rw [if_neg (by omega), if_neg (by simp)] at this
      subst this
      exact ⟨rfl, bdn _ _⟩
    · go_wp2_with fail
      go_returns
      have := HE.out
      rw [if_neg (by omega), if_pos trivial] at this
      subst this
      exact ⟨rfl, bdn _ _⟩
set_option maxRecDepth 20000 in
theorem rcut_any {w : World} {B a : Nat} {F H : Value} {x : Nt} (h : IsM w B a F H x) (f t : Int) (c : Bool) : Calls Try.prog 35 #[.pointer (some ⟨a, 0, none⟩), .int .i64 f, .int .i64 t, .bool c] w fun e w' =>
    e = .returned (.int .i64 (cutP x f t c).2) ∧ WentM B a F H (cutP x f t c).1 w w' := by
  have hA := link_any w f t
  have HX := Lib.hid h
  unfold cutP
  cases hb : areB f t
  · rw [hb] at hA
    rw [if_pos rfl]
    clear h hb
    go_enter Try.func35, Try.ntmps35
    go_wp2_with fail
    refine hA.mono ?_
    rintro e w1 ⟨rfl, rfl⟩
    go_wp2_with fail
    go_returns
    exact ⟨rfl, WentM.same HX.out (Below.refl _ _)⟩
  · rw [hb] at hA
    rw [if_neg (by simp)]
    obtain ⟨g0, g1, g2, g3, g4⟩ := areB_nodes hb
    obtain ⟨i, rfl⟩ : ∃ i : Nat, f = (i : Int) := ⟨f.toNat, by omega⟩
    obtain ⟨j, rfl⟩ : ∃ j : Nat, t = (j : Int) := ⟨t.toNat, by omega⟩
    obtain ⟨a1, a2, _, _⟩ := arrM
    have h1 := h.set (y := { x with cut := upd x.cut (lk i j) c }) (3 + lk i j) (.bool c) rfl rfl (fun cur hc => hc.setC (lk_lt (by omega) (by omega)) c)
    obtain ⟨l0, _, _⟩ := h.link (lk_lt (a := i) (b := j) (by omega) (by omega))
    obtain ⟨l1, _, _⟩ := h1.link (lk_lt (a := j) (b := i) (by omega) (by omega))
    have q0 := h.frz (3 + i * 3 + j)
    have q1 := h1.frz (3 + j * 3 + i)
    have H2 := Lib.hid (h1.set (y := { x with cut := upd (upd x.cut (lk i j) c) (lk j i) c }) (3 + lk j i) (.bool c) rfl rfl (fun cur hc => hc.setC (lk_lt (by omega) (by omega)) c))
    unfold lk at l0 l1 q1 H2
    rw [show 3 + (i * 3 + j) = 3 + i * 3 + j by omega] at l0 l1 q1 H2
    rw [show 3 + (j * 3 + i) = 3 + j * 3 + i by omega] at l1 H2
    clear h h1 hb
    go_enter Try.func35, Try.ntmps35
    go_wp2_with fail
    refine hA.mono ?_
    rintro e w1 ⟨rfl, rfl⟩
    go_wp2_with fail
    go_returns
    exact ⟨rfl, F, H, H2.out, ((touch_set _ _ _ _ _ (.inl rfl)).trans (touch_set _ _ _ _ _ (.inl rfl))), fun k hk => .inl hk⟩
set_option maxRecDepth 20000 in
theorem rsent_any {w : World} {B a : Nat} {F H : Value} {x : Nt} (h : IsM w B a F H x) (f t : Int) : Calls Try.prog 39 #[.pointer (some ⟨a, 0, none⟩), .int .i64 f, .int .i64 t] w fun e w' => e = .returned (.int .i64 (sentP x f t)) ∧ w = w' := by
  have hA := link_any w f t
  unfold sentP
  cases hb : areB f t
  · rw [hb] at hA
    clear h hb
    go_enter Try.func39, Try.ntmps39
    go_wp2_with fail
    refine hA.mono ?_
    rintro e w1 ⟨rfl, rfl⟩
    go_wp2_with fail
    go_returns
    exact ⟨rfl, rfl⟩
  · rw [hb] at hA
    obtain ⟨g0, g1, g2, g3, g4⟩ := areB_nodes hb
    obtain ⟨i, rfl⟩ : ∃ i : Nat, f = (i : Int) := ⟨f.toNat, by omega⟩
    obtain ⟨j, rfl⟩ : ∃ j : Nat, t = (j : Int) := ⟨t.toNat, by omega⟩
    obtain ⟨_, _, a1, a2⟩ := arrM
    obtain ⟨_, l0, _⟩ := h.link (lk_lt (a := i) (b := j) (by omega) (by omega))
    unfold lk at l0
    rw [show 12 + (i * 3 + j) = 12 + i * 3 + j by omega] at l0
    clear h hb
    go_enter Try.func39, Try.ntmps39
    go_wp2_with fail
    refine hA.mono ?_
    rintro e w1 ⟨rfl, rfl⟩
    go_wp2_with fail
    go_returns
    exact ⟨rfl, rfl⟩
set_option maxRecDepth 20000 in
theorem rcame_any {w : World} {B a : Nat} {F H : Value} {x : Nt} (h : IsM w B a F H x) (f t : Int) : Calls Try.prog 40 #[.pointer (some ⟨a, 0, none⟩), .int .i64 f, .int .i64 t] w fun e w' => e = .returned (.int .i64 (cameP x f t)) ∧ w = w' := by
  have hA := link_any w f t
  unfold cameP
  cases hb : areB f t
  · rw [hb] at hA
    clear h hb
    go_enter Try.func40, Try.ntmps40
    go_wp2_with fail
    refine hA.mono ?_
    rintro e w1 ⟨rfl, rfl⟩
    go_wp2_with fail
    go_returns
    exact ⟨rfl, rfl⟩
  · rw [hb] at hA
    obtain ⟨g0, g1, g2, g3, g4⟩ := areB_nodes hb
    obtain ⟨i, rfl⟩ : ∃ i : Nat, f = (i : Int) := ⟨f.toNat, by omega⟩
    obtain ⟨j, rfl⟩ : ∃ j : Nat, t = (j : Int) := ⟨t.toNat, by omega⟩
    obtain ⟨_, _, a1, a2⟩ := arrM
    obtain ⟨_, _, l0⟩ := h.link (lk_lt (a := i) (b := j) (by omega) (by omega))
    unfold lk at l0
    rw [show 21 + (i * 3 + j) = 21 + i * 3 + j by omega] at l0
    clear h hb
    go_enter Try.func40, Try.ntmps40
    go_wp2_with fail
    refine hA.mono ?_
    rintro e w1 ⟨rfl, rfl⟩
    go_wp2_with fail
    go_returns
    exact ⟨rfl, rfl⟩
end Go.Proofs.Ytgnmieobgdbafaa
