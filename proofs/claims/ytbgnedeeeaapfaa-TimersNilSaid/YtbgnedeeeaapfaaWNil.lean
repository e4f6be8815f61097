/-
  TimersNil: a nil wheel.
-/
import Derived.Test.YtbgnedeeeaapfaaW6S
import Derived.Test.YtbgnedeeeaapfaaW5N
namespace Go.Proofs.Ytbgnedeeeaapfaa
open Go.ChangeShapes Go.WideShapes Go.ChangeAt Go.RowKit Go.Maps
set_option linter.unusedVariables false
set_option maxHeartbeats 800000 in
theorem nset (w : World) : Calls Try.prog 28 #[.pointer none, .int .i64 1, .int .i64 1] w fun e w' => e = .returned (.tuple #[.int .i64 0, .int .i64 7]) ∧ w = w' := by
  go_enter Try.func28, Try.ntmps28
  go_wp2
  go_returns
  exact ⟨rfl, rfl⟩
set_option maxHeartbeats 800000 in
theorem nafter (w : World) : Calls Try.prog 36 #[.pointer none, .int .i64 1, .int .i64 1] w fun e w' => e = .returned (.tuple #[.int .i64 0, .int .i64 7]) ∧ w = w' := by
  go_enter Try.func36, Try.ntmps36
  go_wp2
  go_returns
  exact ⟨rfl, rfl⟩
set_option maxHeartbeats 800000 in
theorem nnext (w : World) : Calls Try.prog 30 #[.pointer none] w fun e w' => e = .returned (.tuple #[.int .i64 0, .bool false]) ∧ w = w' := by
  go_enter Try.func30, Try.ntmps30
  go_wp2
  go_returns
  exact ⟨rfl, rfl⟩
set_option maxHeartbeats 800000 in
theorem nnow (w : World) : Calls Try.prog 35 #[.pointer none] w fun e w' => e = .returned (.int .i64 0) ∧ w = w' := by
  go_enter Try.func35, Try.ntmps35
  go_wp2
  go_ret
  exact ⟨rfl, rfl⟩
set_option maxHeartbeats 800000 in
theorem nlen (w : World) : Calls Try.prog 32 #[.pointer none] w fun e w' => e = .returned (.int .i64 0) ∧ w = w' := by
  go_enter Try.func32, Try.ntmps32
  go_wp2
  go_ret
  exact ⟨rfl, rfl⟩
set_option maxHeartbeats 800000 in
theorem non (w : World) : Calls Try.prog 37 #[.pointer none, .nilFunc] w fun e w' => e = .returned (.tuple #[]) ∧ w = w' := by
  go_enter Try.func37, Try.ntmps37
  go_wp2
  go_end0
  exact ⟨rfl, rfl⟩
set_option maxHeartbeats 800000 in
theorem nlist (w : World) : Calls Try.prog 39 #[.pointer none] w fun e w' => e = .returned (.slice none 0 0) ∧ Below w.heap.size w w' := by
  have b0 : Below w.heap.size w (w.alloc (.cells #[.pointer none] PtTN)) := (Below.refl _ _).alloc (Nat.le_refl _) _
  go_enter Try.func39, Try.ntmps39
  go_wp2_with fail
  go_returns
  exact ⟨rfl, b0⟩
set_option maxHeartbeats 800000 in
theorem nfind (w : World) (i : Int) : Calls Try.prog 63 #[.pointer none, .int .i64 i] w fun e w' => e = .returned (.tuple #[ZN, .bool false]) ∧ Below w.heap.size w w' := by
  have b0 : Below w.heap.size w (w.alloc (.cells #[.int .i64 0, .int .i64 0, .int .i64 0] TmTN)) := (Below.refl _ _).alloc (Nat.le_refl _) _
  have z := heap_alloc_new w (.cells #[.int .i64 0, .int .i64 0, .int .i64 0] TmTN)
  have z0 := cellB (j := 0) z rfl
  have z1 := cellB (j := 1) z rfl
  have z2 := cellB (j := 2) z rfl
  go_enter Try.func63, Try.ntmps63
  go_wp2_with fail
  refine bodyPost_ret (v := .tuple #[ZN, .bool false]) (by simp [results, Try.results63, go_sem, z0, z1, z2]) rfl ?_
  exact ⟨rfl, b0⟩
set_option maxHeartbeats 800000 in
theorem ncancel (w : World) : Calls Try.prog 29 #[.pointer none, .int .i64 0] w fun e w' => e = .returned (.tuple #[.int .i64 0, .bool false]) ∧ Below w.heap.size w w' := by
  go_enter Try.func29, Try.ntmps29
  go_wp2_with fail
  refine (nfind w 0).mono ?_
  rintro e w1 ⟨rfl, u1⟩
  have b0 := Lib.hid (u1.alloc u1.size (.cells #[.int .i64 0, .int .i64 0, .int .i64 0] TmTN))
  clear u1
  go_wp2_with fail
  go_returns
  exact ⟨rfl, b0.out⟩
set_option maxHeartbeats 800000 in
theorem ndue (w : World) : Calls Try.prog 31 #[.pointer none, .int .i64 0] w fun e w' => e = .returned (.tuple #[.int .i64 0, .bool false]) ∧ Below w.heap.size w w' := by
  go_enter Try.func31, Try.ntmps31
  go_wp2_with fail
  refine (nfind w 0).mono ?_
  rintro e w1 ⟨rfl, u1⟩
  have b0 := Lib.hid (u1.alloc u1.size (.cells #[.int .i64 0, .int .i64 0, .int .i64 0] TmTN))
  clear u1
  go_wp2_with fail
  go_returns
  exact ⟨rfl, b0.out⟩
set_option maxHeartbeats 800000 in
theorem nmove (w : World) : Calls Try.prog 38 #[.pointer none, .int .i64 0, .int .i64 1] w fun e w' => e = .returned (.int .i64 7) ∧ Below w.heap.size w w' := by
  go_enter Try.func38, Try.ntmps38
  go_wp2_with fail
  refine (nfind w 0).mono ?_
  rintro e w1 ⟨rfl, u1⟩
  have b0 := Lib.hid (u1.alloc u1.size (.cells #[.int .i64 0, .int .i64 0, .int .i64 0] TmTN))
  clear u1
  go_wp2_with fail
  go_returns
  exact ⟨rfl, b0.out⟩
set_option maxHeartbeats 800000 in
theorem nturn (w : World) : Calls Try.prog 33 #[.pointer none, .int .i64 1] w fun e w' => e = .returned (.tuple #[.slice none 0 0, .int .i64 7]) ∧ Below w.heap.size w w' := by
  have b0 : Below w.heap.size w (w.alloc (.cells #[.pointer none] PtTN)) := (Below.refl _ _).alloc (Nat.le_refl _) _
  have HB := Lib.hid b0
  clear b0
  go_enter_defers Try.func33, Try.ntmps33
  go_wp2_with fail
  simp [bodyPostD, Leaves, results, Try.results33, go_sem]
  exact HB.out
set_option maxHeartbeats 800000 in
theorem ntick (w : World) : Calls Try.prog 34 #[.pointer none] w fun e w' => e = .returned (.slice none 0 0) ∧ Below w.heap.size w w' := by
  go_enter Try.func34, Try.ntmps34
  go_wp2_with fail
  refine (nturn w).mono ?_
  rintro e w1 ⟨rfl, u1⟩
  have b0 := Lib.hid u1
  clear u1
  go_wp2_with fail
  go_returns
  exact ⟨rfl, b0.out⟩
set_option maxRecDepth 100000 in
set_option maxHeartbeats 3200000 in
theorem tnil_walk (w : World) : Calls Try.prog 8 #[] w fun e w' => e = .returned (.bool true) ∧ Below w.heap.size w w' := by
  go_enter Try.func8, Try.ntmps8
  go_wp2_with fail
  refine (nset _).mono ?_
  rintro e wz ⟨rfl, rfl⟩
  go_wp2_with fail
  refine (nafter _).mono ?_
  rintro e wz ⟨rfl, rfl⟩
  go_wp2_with fail
  refine (ncancel _).mono ?_
  rintro e w1 ⟨rfl, u⟩
  have B1 := Lib.hid (u)
  clear u
  go_wp2_with fail
  refine (ndue _).mono ?_
  rintro e w2 ⟨rfl, u⟩
  have B2 := Lib.hid (bmore B1.out u)
  clear u
  go_wp2_with fail
  refine (nnext _).mono ?_
  rintro e wz ⟨rfl, rfl⟩
  go_wp2_with fail
  refine (nturn _).mono ?_
  rintro e w3 ⟨rfl, u⟩
  have B3 := Lib.hid (bmore B2.out u)
  clear u
  go_wp2_with fail
  refine (non _).mono ?_
  rintro e wz ⟨rfl, rfl⟩
  go_wp2_with fail
  refine (live14 _).mono ?_
  rintro e w4 ⟨rfl, u⟩
  have B4 := Lib.hid (bmore B3.out u)
  clear u
  go_wp2_with fail
  refine (num14 _ _).mono ?_
  rintro e wz ⟨rfl, rfl⟩
  go_wp2_with fail
  refine (num14 _ _).mono ?_
  rintro e wz ⟨rfl, rfl⟩
  go_wp2_with fail
  refine (num14 _ _).mono ?_
  rintro e wz ⟨rfl, rfl⟩
  go_wp2_with fail
  refine (nmove _).mono ?_
  rintro e w5 ⟨rfl, u⟩
  have B5 := Lib.hid (bmore B4.out u)
  clear u
  go_wp2_with fail
  refine (num14 _ _).mono ?_
  rintro e wz ⟨rfl, rfl⟩
  go_wp2_with fail
  refine (nnow _).mono ?_
  rintro e wz ⟨rfl, rfl⟩
  go_wp2_with fail
  refine (ntick _).mono ?_
  rintro e w6 ⟨rfl, u⟩
  have B6 := Lib.hid (bmore B5.out u)
  clear u
  go_wp2_with fail
  refine (nlen _).mono ?_
  rintro e wz ⟨rfl, rfl⟩
  go_wp2_with fail
  refine (nlist _).mono ?_
  rintro e w7 ⟨rfl, u⟩
  have B7 := Lib.hid (bmore B6.out u)
  clear u
  go_wp2_with fail
  go_returns
  exact ⟨rfl, B7.out⟩
set_option maxRecDepth 100000 in
/-- What the walk gives. -/
theorem tnil_contract (H : Type) (enc : TypeId × Value → H) (W : World) (base : Nat) (args : Array Value) (ds gs : List (DataW H)) (before : List MemPlace)
    (hW : DataW.Whole enc Try.prog Try.f8.params.toList Rows.timersNilSpec.vars false W args.toList ds gs before) :
    Calls Try.prog 8 args W fun e W' => ∃ v, e = .returned v ∧ Rows.timersNilSpec.post enc Try.prog Try.f8 false true false false W args v W' := by
  have hW' := hW
  obtain ⟨p, q, hA0, hV, rfl, hfz, hnd⟩ := hW
  have hA : DataW.TrodAll enc Try.prog W 0 (fun _ => true) true Try.f8.params.toList args.toList ds p := hA0
  rw [Try.params8] at hA
  obtain ⟨hargs, rfl, rfl⟩ := trodAll_nil hA
  obtain rfl : args = #[] := by cases args; simp_all
  obtain ⟨rfl, rfl⟩ := trodVars_none hV
  clear hA0
  simp only [List.append_nil] at hW'
  refine (tnil_walk W).mono fun e W' ⟨he, bel⟩ => ?_
  subst he
  exact ⟨_, rfl, _, _, _, [], _, [], hW', trodAll_mk1 (shut_bool Try.underlying4 _), trodAll_mk0, rfl, bel.frame _, fun h => by cases h⟩
set_option maxRecDepth 100000 in
theorem tnil_lifted (os : Os) (started : os.Started) (H : Type) (enc : TypeId × Value → H) :
    ReturnsInHanded {} Try.checked os 8 .any (Rows.timersNilSpec.pre6 enc Try.prog Try.f8 Rows.timersNilRow.domain false) (Rows.timersNilSpec.post enc Try.prog Try.f8 false true false false) := by
  refine returnsInHanded_of_change (C := Try.checked) own started (by kernel_rfl) Try.func8
    (ChangeSpec.witness6 (enc := enc) (C := Try.checked) false ⟨#[], #[], []⟩ 8 (by kernel_rfl) (by kernel_rfl) (by kernel_rfl) (by kernel_rfl)) ?_
  intro W base args ds gs before hval hW _ _
  exact tnil_contract H enc W base args ds gs before hW
/-- The statement. -/
theorem tnil_holds : Rows.TimersNilSaid :=
  OpenClaim.holds_of_wide 8 Try.f8 rfl rfl rfl rfl rfl rfl rfl ⟨rfl, rfl, rfl, rfl, rfl⟩ rfl rfl rfl rfl rfl (by kernel_rfl) Try.func8 (by kernel_rfl)
    (of_decide_eq_true (by kernel_rfl)) (by unfold Func.isWrapper; first | (rw [if_pos (by decide +kernel)]; kernel_rfl) | (rw [if_neg (by decide +kernel)]; exact ⟨rfl, rfl⟩))
    (fun os started H enc _ => tnil_lifted os started H enc)
#print axioms tnil_holds
end Go.Proofs.Ytbgnedeeeaapfaa
