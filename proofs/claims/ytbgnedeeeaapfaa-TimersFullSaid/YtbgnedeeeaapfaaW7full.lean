/-
  TimersFull: as many timers as may be. The walk and the statement.
-/
import Derived.Test.YtbgnedeeeaapfaaW6S
import Derived.Test.YtbgnedeeeaapfaaW3N
import Derived.Test.YtbgnedeeeaapfaaW5N
import Derived.JoinedOf
import Derived.ChangeMaps5
namespace Go.Proofs.Ytbgnedeeeaapfaa
open Go.ChangeShapes Go.WideShapes Go.ChangeAt Go.RowKit Go.Maps
set_option linter.unusedVariables false
def fullTs : Nat → List Tm
  | 0 => []
  | n + 1 => ⟨n, maxI - n, n, .int .i64 n⟩ :: fullTs n
def fullW (n : Nat) : Wh := ⟨0, n, n, fullTs n⟩
theorem fullTs_len (n : Nat) : (fullTs n).length = n := by
  induction n with
  | zero => rfl
  | succ n ih => simp [fullTs, ih]
theorem fullTs_tk (n : Nat) : ∀ t ∈ fullTs n, maxI - n < t.tk := by
  induction n with
  | zero => intro t ht; cases ht
  | succ n ih =>
    intro t ht
    rcases List.mem_cons.1 ht with rfl | ht
    · simp only; omega
    · have := ih t ht; omega
theorem full_set (n : Nat) (h : n < 4096) : setP (fullW n) (maxI - n) (.int .i64 n) = (fullW (n + 1), (n : Int), 0) := by
  have h1 : ¬ maxI - n ≤ (fullW n).now := by simp only [fullW, maxI]; omega
  have h2 : ¬ 4096 ≤ (fullW n).ts.length := by simp only [fullW, fullTs_len]; omega
  rw [setP_ok h1 h2]
  have e : ins (fullTs n) ⟨n, maxI - n, n, .int .i64 n⟩ = fullTs (n + 1) := by
    unfold ins
    rw [filter_none (fun a ha => by have := fullTs_tk n a ha; simp; omega), filter_all (fun a ha => by have := fullTs_tk n a ha; simp; omega)]
    rfl
  simp only [layP, fullW, e]
  push_cast
  rfl
theorem full_many (k : Nat) (h : 4096 ≤ k) (hk : k ≤ 4100) : setP (fullW 4096) (maxI - k) (.int .i64 k) = (fullW 4096, 0, 6) :=
  setP_many (by simp only [fullW, maxI]; omega) (by simp only [fullW, fullTs_len]; omega)
theorem full_due (m n : Nat) (h : m ≤ n) : (dueL (fullTs n) (maxI - m)).length = n - m ∧ restL (fullTs n) (maxI - m) = fullTs m := by
  induction n with
  | zero =>
    obtain rfl : m = 0 := by omega
    exact ⟨rfl, rfl⟩
  | succ n ih =>
    by_cases e : m = n + 1
    · subst e
      have hd : dueL (fullTs (n + 1)) (maxI - ((n + 1 : Nat) : Int)) = [] := filter_none fun a ha => by have := fullTs_tk (n + 1) a ha; simp; omega
      have hr : restL (fullTs (n + 1)) (maxI - ((n + 1 : Nat) : Int)) = fullTs (n + 1) := filter_all fun a ha => by have := fullTs_tk (n + 1) a ha; simp; omega
      rw [hd, hr]; simp
    · obtain ⟨h1, h2⟩ := ih (by omega)
      unfold dueL restL at *
      rw [fullTs, List.filter_cons_of_pos (by simp; omega), List.filter_cons_of_neg (by simp; omega)]
      exact ⟨by rw [List.length_cons, h1]; omega, h2⟩
theorem full_head (m n : Nat) (h : m ≤ n) : ∃ l, (dueL (fullTs (n + 1)) (maxI - m)).map (·.v) = .int .i64 (n : Int) :: l := by
  have e : dueL (fullTs (n + 1)) (maxI - m) = ⟨n, maxI - n, n, .int .i64 n⟩ :: (fullTs n).filter fun t => decide (t.tk ≤ maxI - m) := by
    unfold dueL
    rw [fullTs, List.filter_cons_of_pos (by simp; omega)]
  exact ⟨_, by rw [e]; rfl⟩
set_option maxRecDepth 100000 in
set_option maxHeartbeats 3200000 in
theorem full_far (w : World) (n : Int) (hn : n < 0 ∨ 3 < n) : Calls Try.prog 7 #[.int .i64 n] w fun e w' => e = .returned (.bool true) ∧ Below w.heap.size w w' := by
  by_cases h1 : n < 0
  · have hd : decide (n < 0) = true := by simpa using h1
    clear hn h1
    go_enter Try.func7, Try.ntmps7
    go_wp2_with fail
    refine (live14 _).mono ?_
    rintro e w1 ⟨rfl, u1⟩
    have U := Lib.hid u1
    clear u1
    go_wp2_with fail
    go_returns
    exact ⟨rfl, U.out⟩
  · have hd : decide (n < 0) = false := by simpa using h1
    have hd2 : decide (3 < n) = true := by simpa using hn.resolve_left h1
    clear hn h1
    go_enter Try.func7, Try.ntmps7
    go_wp2_with fail
    refine (live14 _).mono ?_
    rintro e w1 ⟨rfl, u1⟩
    have U := Lib.hid u1
    clear u1
    go_wp2_with fail
    go_returns
    exact ⟨rfl, U.out⟩
set_option maxRecDepth 100000 in
set_option maxHeartbeats 6400000 in
theorem full_main (w : World) (n : Nat) (hn : n ≤ 3) : Calls Try.prog 7 #[.int .i64 (n : Int)] w fun e w' => e = .returned (.bool true) ∧ Below w.heap.size w w' := by
  have hd1 : decide ((n : Int) < 0) = false := by simp
  have hd2 : decide (3 < (n : Int)) = false := by simp; omega
  have hw0 : IntKind.i64.wrap (4096 + (n : Int)) = 4096 + (n : Int) := IntWalk.i64_in _ (by omega)
  have HN := Lib.hid hn
  clear hn
  go_enter Try.func7, Try.ntmps7
  go_wp2_with fail
  refine (newN w).mono ?_
  rintro e w1 ⟨rfl, h1, u1⟩
  have H1 : Hid (IsWN w1 (w.heap.size + 1) w.heap.size (.slice none 0 0) false (fullW 0)) := Lib.hid h1
  have U1 := Lib.hid u1
  clear h1 u1
  go_wp2_with fail
  go_loopw [4] (fun v wr => ∃ k : Nat, v = .int .i64 (k : Int) ∧ k ≤ 4096 + n ∧ IsWN wr (w.heap.size + 1) w.heap.size (.slice none 0 0) false (fullW (min k 4096)) ∧ Touch (OwnW (w.heap.size + 1) w.heap.size) w1 wr) (fun v _ => 4100 - (intOf v).toNat)
  case atStart => exact ⟨0, rfl, by omega, H1.out, Touch.refl _ _⟩
  case round =>
    obtain ⟨k, rfl, hk, hx, ht⟩ := hrel
    have HX := Lib.hid hx
    have HT := Lib.hid ht
    clear hx ht
    by_cases hlt : k < 4096 + n
    · have hlt' : decide ((k : Int) < 4096 + (n : Int)) = true := by simp; omega
      have hws : IntKind.i64.wrap (9223372036854775807 - (k : Int)) = 9223372036854775807 - (k : Int) := IntWalk.i64_in _ (by have := HN.out; omega)
      have hwk : IntKind.i64.wrap ((k : Int) + 1) = (k : Int) + 1 := IntWalk.i64_in _ (by have := HN.out; omega)
      have HK := Lib.hid (show k < 4096 + n from hlt)
      by_cases h4 : k < 4096
      · have hc : decide ((k : Int) < 4096) = true := by simp; omega
        have hc2 : decide ((4096 : Int) ≤ (k : Int)) = false := by simp; omega
        have HS := Lib.hid (full_set k h4)
        have HX2 : Hid (IsWN wr (w.heap.size + 1) w.heap.size (.slice none 0 0) false (fullW k)) := Lib.hid (by have := HX.out; rwa [Nat.min_eq_left (by omega)] at this)
        have HM : Hid (min (k + 1) 4096 = k + 1) := Lib.hid (by omega)
        have H4 := Lib.hid h4
        clear HX hlt h4
        go_wp2_with fail
        refine (setN HX2.out (maxI - k) (k : Int) (by have := H4.out; simp only [fullW]; omega) (by have := H4.out; simp only [fullW]; omega) (by omega)).mono ?_
        rw [HS.out]
        rintro e w2 ⟨rfl, h2, t2⟩
        have H2 := Lib.hid h2
        have T2 := Lib.hid (HT.out.trans t2)
        clear h2 t2
        go_wp2_with fail
        refine (num14 _ _).mono ?_
        rintro e w3 ⟨rfl, rfl⟩
        go_wp2_with fail
        go_roundw
        case rel => exact ⟨k + 1, by push_cast; rfl, by have := HK.out; omega, by rw [HM.out]; exact H2.out, T2.out⟩
        case measure => have := HK.out; have := HN.out; simp [intOf]; omega
      · have hc : decide ((k : Int) < 4096) = false := by simp; omega
        have hc2 : decide ((4096 : Int) ≤ (k : Int)) = true := by simp; omega
        have HS := Lib.hid (full_many k (by omega) (by have := HN.out; omega))
        have HX2 : Hid (IsWN wr (w.heap.size + 1) w.heap.size (.slice none 0 0) false (fullW 4096)) := Lib.hid (by have := HX.out; rwa [Nat.min_eq_right (by omega)] at this)
        have HM : Hid (min (k + 1) 4096 = 4096) := Lib.hid (by omega)
        clear HX hlt h4
        go_wp2_with fail
        refine (setN HX2.out (maxI - k) (k : Int) (by simp only [fullW]; omega) (by simp only [fullW]; omega) (by omega)).mono ?_
        rw [HS.out]
        rintro e w2 ⟨rfl, h2, t2⟩
        have H2 := Lib.hid h2
        have T2 := Lib.hid (HT.out.trans t2)
        clear h2 t2
        go_wp2_with fail
        refine (num14 _ _).mono ?_
        rintro e w3 ⟨rfl, rfl⟩
        go_wp2_with fail
        refine (num14 _ _).mono ?_
        rintro e w3 ⟨rfl, rfl⟩
        go_wp2_with fail
        go_roundw
        case rel => exact ⟨k + 1, by push_cast; rfl, by have := HK.out; omega, by rw [HM.out]; exact H2.out, T2.out⟩
        case measure => have := HK.out; have := HN.out; simp [intOf]; omega
    · have hlt' : decide ((k : Int) < 4096 + (n : Int)) = false := by simp; omega
      have HX2 : Hid (∃ X : Wh, X.now = 0 ∧ IsWN wr (w.heap.size + 1) w.heap.size (.slice none 0 0) false X ∧ (dueL X.ts 9223372036854775805).length = 4094 ∧ restL X.ts 9223372036854775805 = fullTs 2 ∧ ∃ l, (dueL X.ts 9223372036854775805).map (·.v) = .int .i64 4095 :: l) := Lib.hid (by
        have h := HX.out
        rw [Nat.min_eq_right (by omega)] at h
        have f1 := full_due 2 4096 (by omega)
        have f2 := full_head 2 4095 (by omega)
        exact ⟨_, rfl, h, f1.1, f1.2, f2⟩)
      clear HX hlt hk
      obtain ⟨X, hX0, hX1, hX2, hX3, hX4⟩ := HX2.out
      clear HX2
      have HX1 := Lib.hid hX1
      have HE := Lib.hid (show X.now + 9223372036854775805 = 9223372036854775805 by rw [hX0]; rfl)
      have HX0 := Lib.hid hX0
      have HX2 := Lib.hid hX2
      have HX3 := Lib.hid hX3
      have HX4 := Lib.hid hX4
      clear hX0 hX1 hX2 hX3 hX4
      go_wp2_with fail
      refine (turnN HX1.out (n := 9223372036854775805) (by decide) (by rw [HX0.out]; decide)).mono ?_
      rw [HE.out, HX2.out, HX3.out]
      rintro e w2 ⟨u, rfl, o2, h2, t2⟩
      obtain ⟨l, hl⟩ := HX4.out
      rw [hl] at o2
      have o2' := row_of_own o2
      obtain ⟨a2, c2, rfl, q2⟩ := o2'.at
      obtain ⟨b2, f2, rfl, q2'⟩ := q2 (by decide)
      have e0 : w2.cell? ⟨b2, f2, none⟩ = some (.int .i64 4095) := q2' 0 _ rfl
      have T2 := Lib.hid (HT.out.trans t2)
      have H2 : Hid (IsWN w2 (w.heap.size + 1) w.heap.size (.slice none 0 0) false ⟨9223372036854775805, X.ids, X.pls, fullTs 2⟩) := Lib.hid h2
      clear o2 o2' q2 q2' h2 t2 hl
      go_wp2_with fail
      refine (num14 _ _).mono ?_
      rintro e w3 ⟨rfl, rfl⟩
      go_wp2_with fail
      clear e0
      refine (tickN H2.out (show (9223372036854775805 : Int) < maxI by decide)).mono ?_
      rintro e w3 ⟨u3, rfl, o3, h3, t3⟩
      have O3 : Hid (w3.ownsRow w2.heap.size ElTN 1 u3 1 [.int .i64 1]) := Lib.hid o3
      have H3 : Hid (IsWN w3 (w.heap.size + 1) w.heap.size (.slice none 0 0) false ⟨9223372036854775806, X.ids, X.pls, fullTs 1⟩) := Lib.hid h3
      have T3 := Lib.hid (T2.out.trans t3)
      have L2 : Hid (w.heap.size + 1 < w2.heap.size) := Lib.hid H2.out.lt
      have L3 : Hid (w.heap.size + 1 < w3.heap.size) := Lib.hid H3.out.lt
      clear o3 h3 t3
      go_wp2_with fail
      refine (tickN H3.out (show (9223372036854775806 : Int) < maxI by decide)).mono ?_
      rintro e w4 ⟨u4, rfl, o4, h4, t4⟩
      have O4 : Hid (w4.ownsRow w3.heap.size ElTN 1 u4 1 [.int .i64 0]) := Lib.hid o4
      have H4 : Hid (IsWN w4 (w.heap.size + 1) w.heap.size (.slice none 0 0) false ⟨9223372036854775807, X.ids, X.pls, []⟩) := Lib.hid h4
      have O3b := Lib.hid (own_keep O3.out t4 (fun k hk e => by have := (own_from O3.out hk).1; have := L2.out; rcases e with e | e <;> omega))
      have T4 := Lib.hid (T3.out.trans t4)
      clear o4 h4 t4
      go_wp2_with fail
      refine (tick_noN H4.out rfl).mono ?_
      rintro e w5 ⟨rfl, u5⟩
      have r3 := row_of_own (own_hold O3b.out (Hold.below u5))
      have r4 := row_of_own (own_hold O4.out (Hold.below u5))
      obtain ⟨a3, c3, rfl, q3⟩ := r3.at
      obtain ⟨b3, f3, rfl, q3'⟩ := q3 (by decide)
      have e3 : w5.cell? ⟨b3, f3, none⟩ = some (.int .i64 1) := q3' 0 _ rfl
      obtain ⟨a4, c4, rfl, q4⟩ := r4.at
      obtain ⟨b4, f4, rfl, q4'⟩ := q4 (by decide)
      have e4 : w5.cell? ⟨b4, f4, none⟩ = some (.int .i64 0) := q4' 0 _ rfl
      have H5 := Lib.hid (H4.out.below u5)
      have T5 := Lib.hid (T4.out.trans (touch_of_below u5 _))
      clear r3 r4 q3 q4 q3' q4' u5
      go_wp2_with fail
      refine (nowN H5.out).mono ?_
      rintro e w6 ⟨rfl, rfl⟩
      go_wp2_with fail
      refine (live14 _).mono ?_
      rintro e w6 ⟨rfl, u6⟩
      have U6 := Lib.hid u6
      clear u6 e3 e4
      go_wp2_with fail
      go_returns
      refine ⟨rfl, ?_⟩
      have hb : Below w.heap.size w1 w5 := T5.out.below U1.out.size (fun k hk => by rcases hk with rfl | rfl <;> omega)
      exact (U1.out.trans hb).trans (U6.out.mono (Nat.le_trans U1.out.size hb.size))
theorem full_all (w : World) (n : Int) : Calls Try.prog 7 #[.int .i64 n] w fun e w' => e = .returned (.bool true) ∧ Below w.heap.size w w' := by
  by_cases h : n < 0 ∨ 3 < n
  · exact full_far w n h
  · obtain ⟨m, rfl⟩ : ∃ m : Nat, n = (m : Int) := ⟨n.toNat, by omega⟩
    exact full_main w m (by omega)
set_option maxRecDepth 100000 in
/-- What the walk gives, for every argument. -/
theorem full_contract (H : Type) (enc : TypeId × Value → H) (W : World) (base : Nat) (args : Array Value) (ds gs : List (DataW H)) (before : List MemPlace)
    (hval0 : ∀ (j : Nat) t v, Try.f7.params[j]? = some t → args[j]? = some v → Value.okWide Try.prog W .any base t v)
    (hW : DataW.Whole enc Try.prog Try.f7.params.toList Rows.timersFullSpec.vars false W args.toList ds gs before) :
    Calls Try.prog 7 args W fun e W' => ∃ v, e = .returned v ∧ Rows.timersFullSpec.post enc Try.prog Try.f7 false true false false W args v W' := by
  have hval : ∀ (j : Nat) t v, Try.f7.params[j]? = some t → args[j]? = some v → Value.okWide Try.prog W .any base t v := hval0
  have hW' := hW
  obtain ⟨p, q, hA0, hV, rfl, hfz, hnd⟩ := hW
  have hA : DataW.TrodAll enc Try.prog W 0 (fun _ => true) true Try.f7.params.toList args.toList ds p := hA0
  rw [Try.params7] at hA hval
  obtain ⟨v0, vs0, d0, ds0, p0, q0, hargs0, rfl, rfl, h0, r0⟩ := trodAll_cons hA
  obtain ⟨rfl, rfl, rfl⟩ := trodAll_nil r0
  obtain rfl : args = #[v0] := by cases args; simp_all
  obtain ⟨rfl, rfl⟩ := trodVars_none hV
  obtain ⟨a0, rfl, rfl, rfl, w0⟩ := open_int Try.underlying3 (hval 0 3 v0 rfl rfl) h0
  clear hA0 hval0
  simp only [List.append_nil] at hW'
  refine (full_all _ _).mono fun e W' ⟨he, bel⟩ => ?_
  subst he
  exact ⟨_, rfl, _, _, _, [], _, [], hW', trodAll_mk1 (shut_bool Try.underlying4 _), (trodAll_cons_mk (shut_int Try.underlying3 w0) trodAll_mk0), rfl, bel.frame _, fun h => by cases h⟩
set_option maxRecDepth 100000 in
theorem full_lifted (os : Os) (started : os.Started) (H : Type) (enc : TypeId × Value → H) :
    ReturnsInHanded {} Try.checked os 7 .any (Rows.timersFullSpec.pre6 enc Try.prog Try.f7 Rows.timersFullRow.domain false) (Rows.timersFullSpec.post enc Try.prog Try.f7 false true false false) := by
  refine returnsInHanded_of_change (C := Try.checked) own started (by kernel_rfl) Try.func7
    (ChangeSpec.witness6 (enc := enc) (C := Try.checked) false ⟨#[], #[.int .i64 0], []⟩ 8 (by kernel_rfl) (by kernel_rfl) (by kernel_rfl) (by kernel_rfl)) ?_
  intro W base args ds gs before hval hW _ _
  exact full_contract H enc W base args ds gs before hval hW
/-- The statement. -/
theorem full_holds : Rows.TimersFullSaid :=
  OpenClaim.holds_of_wide 7 Try.f7 rfl rfl rfl rfl rfl rfl rfl ⟨rfl, rfl, rfl, rfl, rfl⟩ rfl rfl rfl rfl rfl (by kernel_rfl) Try.func7 (by kernel_rfl)
    (of_decide_eq_true (by kernel_rfl)) (by unfold Func.isWrapper; first | (rw [if_pos (by decide +kernel)]; kernel_rfl) | (rw [if_neg (by decide +kernel)]; exact ⟨rfl, rfl⟩))
    (fun os started H enc _ => full_lifted os started H enc)
set_option maxRecDepth 100000 in
theorem full_upto_lifted (os : Os) (started : os.Started) (H : Type) (enc : TypeId × Value → H) (F : Stop.Interp) :
    ReturnsInHanded {} Try.checked os 7 .any ((Rows.OpenSpec.upto Rows.timersFullSpec).pre6 enc Try.prog Try.f7 Rows.timersFullUptoRow.domain false) (((Rows.OpenSpec.upto Rows.timersFullSpec).at F).post enc Try.prog Try.f7 false true false false) := by
  refine returnsInHanded_of_cond (C := Try.checked) (s := Rows.OpenSpec.upto Rows.timersFullSpec) (k := Rows.uptoSmall) rfl own started (by kernel_rfl) Try.func7
    (OpenSpec.witness (enc := enc) (C := Try.checked) (s := Rows.OpenSpec.upto Rows.timersFullSpec) (k := Rows.uptoSmall) rfl false ⟨#[], #[.int .i64 0], []⟩ 8 (by kernel_rfl) (by kernel_rfl) (by kernel_rfl)
      (x := ([.lit (.int .i64 0)], [], [])) (by kernel_rfl) rfl (by kernel_rfl)) ?_
  intro W base args ds gs before hval hW _ hk _
  exact full_contract H enc W base args ds gs before hval hW
/-- The statement, second form. -/
theorem full_upto_holds : Rows.TimersFullUptoSaid :=
  OpenClaim.holds_of_cond 7 Try.f7 rfl rfl rfl rfl rfl rfl rfl ⟨rfl, rfl, rfl, rfl, rfl⟩ rfl rfl rfl rfl rfl (by kernel_rfl) Try.func7 (by kernel_rfl)
    (of_decide_eq_true (by kernel_rfl)) (by unfold Func.isWrapper; first | (rw [if_pos (by decide +kernel)]; kernel_rfl) | (rw [if_neg (by decide +kernel)]; exact ⟨rfl, rfl⟩))
    (fun os started H enc _ F => full_upto_lifted os started H enc F)
#print axioms full_holds
#print axioms full_upto_holds
end Go.Proofs.Ytbgnedeeeaapfaa
