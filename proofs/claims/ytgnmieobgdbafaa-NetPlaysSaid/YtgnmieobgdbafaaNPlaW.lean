/-
  NetPlays: every list of acts. The walk.
-/
import Derived.Test.YtgnmieobgdbafaaNSta
import Derived.Test.YtgnmieobgdbafaaNBd
import Derived.LoopN
namespace Go.Proofs.Ytgnmieobgdbafaa
open Go.RowKit
set_option linter.unusedVariables false
theorem rowat_lt {w : World} {B : Nat} {F H : Value} {a : Nat} {x : Nt} (h : IsN w B a F H x) : ∀ j, OwnN a F H j → j < w.heap.size := fun j hj => (h.own_lt hj).2
/-- Two nets, one behind the other. -/
theorem duo_new {w w1 w2 : World} {F H L E : Value} {x : Nt} (h1 : IsN w1 w.heap.size w.heap.size F H x) (b1 : Below w.heap.size w w1) (h2 : IsM w2 w1.heap.size w1.heap.size L E x) (b2 : Below w1.heap.size w1 w2) :
    Duo w2 w.heap.size w.heap.size w1.heap.size F H L E x :=
  ⟨h1.below b2, ⟨h2.lay, own_mono h2.rowF b1.size, own_mono h2.rowH b1.size, h2.ne, b1.size⟩, fun j hj e => by
    have := (h1.own_lt hj).2
    have := (h2.own_lt e).1
    omega⟩
set_option maxRecDepth 20000 in
set_option maxHeartbeats 3200000 in
theorem plays_long {w : World} {v : Value} {l : List Ac} (h : Row w 5 v l.length (acs l)) (hl : 200 < l.length) :
    Calls Try.prog 3 #[v] w fun e w' => e = .returned (.bool true) ∧ Below w.heap.size w w' := by
  have HA := Lib.hid h
  clear h
  go_enter Try.func3, Try.ntmps3
  go_wp2_with fail
  refine (huge_long HA.out HA.out.small hl).mono ?_
  rintro e w1 ⟨rfl, rfl⟩
  go_wp2_with fail
  refine (live15 w).mono ?_
  rintro e w2 ⟨rfl, b2⟩
  have B2 := Lib.hid b2
  clear b2
  go_wp2_with fail
  go_returns
  exact ⟨rfl, B2.out⟩
set_option maxRecDepth 100000 in
set_option maxHeartbeats 3200000 in
theorem plays_walk {w : World} {v : Value} {l : List Ac} (h : Row w 5 v l.length (acs l)) (hl : l.length ≤ 200) :
    Calls Try.prog 3 #[v] w fun e w' => e = .returned (.bool true) ∧ Below w.heap.size w w' := by
  have HL := Lib.hid hl
  have hlong := huge_any h hl
  obtain ⟨aa, ca, rfl, xa⟩ := h.at2
  have XA := Lib.hid xa
  clear h hl xa
  go_enter Try.func3, Try.ntmps3
  go_wp2_with fail
  refine hlong.mono ?_
  clear hlong
  rintro e w1 ⟨rfl | rfl, rfl⟩
  · go_wp2_with fail
    refine (live15 w).mono ?_
    rintro e w2 ⟨rfl, b2⟩
    have B2 := Lib.hid b2
    clear b2
    go_wp2_with fail
    go_returns
    exact ⟨rfl, B2.out⟩
  · go_wp2_with fail
    refine (new_any w).mono ?_
    rintro e w1 ⟨rfl, h1, b1⟩
    have I1 := Lib.hid h1
    have B1 := Lib.hid b1
    clear h1 b1
    go_wp2_with fail
    refine (rnew_any w1).mono ?_
    rintro e w2 ⟨rfl, h2, b2⟩
    have D2 := Lib.hid (duo_new I1.out B1.out h2 b2)
    have B2 := Lib.hid (bmore B1.out b2)
    clear h2 b2 I1
    generalize w1.heap.size = r at *
    go_wp2_with fail
    go_loopw [5] (fun v wr => ∃ (k : Nat) (x : Nt) (F H L E : Value), v = .int .i64 (k : Int) ∧ k ≤ l.length ∧ Duo wr w.heap.size w.heap.size r F H L E x ∧ Bd k x ∧ Below w.heap.size w wr) (fun v _ => 202 - (intOf v).toNat)
    case atStart => exact ⟨0, newNt, _, _, _, _, rfl, Nat.zero_le _, D2.out, Bd.new, B2.out⟩
    case round =>
      obtain ⟨k, x, F, H, L, E, rfl, hk, hD, hbd, hb⟩ := hrel
      have HD := Lib.hid hD
      have HBD := Lib.hid hbd
      have HB := Lib.hid hb
      clear hD hbd hb
      by_cases hlt : k < l.length
      · obtain ⟨b, o, rfl, q1⟩ := XA.out (by omega)
        have q2 := acs_at l k hlt
        have d0 := bcellAt HB.out (q1 _ _ q2.1)
        have d1 := bcellAt HB.out (q1 _ _ q2.2.1)
        have d2 := bcellAt HB.out (q1 _ _ q2.2.2.1)
        have d3 := bcellAt HB.out (q1 _ _ q2.2.2.2.1)
        have d4 := bcellAt HB.out (q1 _ _ q2.2.2.2.2)
        rw [← Nat.add_assoc] at d1 d2 d3 d4
        clear q1 q2 XA
        generalize l[k] = c at *
        have hlt1 : decide ((k : Int) < (l.length : Int)) = true := by simpa using hlt
        have hk0 : (0 : Int) ≤ (k : Int) := by omega
        have hk1 : (k : Int) < (l.length : Int) := by omega
        have hwk : IntKind.i64.wrap ((k : Int) + 1) = (k : Int) + 1 := IntWalk.i64_in _ (by have := HL.out; omega)
        have hdo := does_any HD.out HB.out.size HBD.out (by have := HL.out; omega) c
        have HLT := Lib.hid hlt
        have HBD2 := Lib.hid (HBD.out.step c)
        clear hk hlt
        go_wp2_with fail
        refine hdo.mono ?_
        rintro e w3 ⟨rfl, F3, H3, L3, E3, h3, b3⟩
        have D3 := Lib.hid h3
        have B3 := Lib.hid (HB.out.trans b3)
        clear hdo h3 b3 d0 d1 d2 d3 d4
        have hst := stands_any D3.out HBD2.out (by have := HLT.out; have := HL.out; omega)
        go_wp2_with fail
        refine hst.mono ?_
        rintro e w4 ⟨rfl, b4⟩
        have D4 := Lib.hid (D3.out.below b4)
        have B4 := Lib.hid (bmore B3.out b4)
        clear hst b4
        go_wp2_with fail
        go_roundw
        case rel => exact ⟨k + 1, _, F3, H3, L3, E3, by simp, HLT.out, D4.out, HBD2.out, B4.out⟩
        case measure => have := HLT.out; have := HL.out; simp [intOf]; omega
      · obtain rfl : k = l.length := by omega
        have hlt1 : decide ((l.length : Int) < (l.length : Int)) = false := by simp
        clear hk hlt XA
        go_wp2_with fail
        refine (live15 wr).mono ?_
        rintro e w5 ⟨rfl, b5⟩
        have B5 := Lib.hid (bmore HB.out b5)
        clear b5
        go_wp2_with fail
        go_returns
        exact ⟨rfl, B5.out⟩
theorem nplays_all {w : World} {v : Value} {l : List Ac} (h : Row w 5 v l.length (acs l)) (hok : ∀ c ∈ l, AcOk c) :
    Calls Try.prog 3 #[v] w fun e w' => e = .returned (.bool true) ∧ Below w.heap.size w w' := by
  by_cases hl : l.length ≤ 200
  · exact plays_walk h hl
  · exact plays_long h (by omega)
end Go.Proofs.Ytgnmieobgdbafaa
