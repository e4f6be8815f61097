/-
  The statement KeepAlgebra: of any three sets the laws of sets hold. No condition.
-/
import Derived.Test.YtkobiimkaimbaaaKAlgW
import Derived.Test.YtkobiimkaimbaaaKArgN
import Derived.JoinedOf
import Derived.ChangeMaps5
namespace Go.Proofs.Ytkobiimkaimbaaa
open Go.ChangeShapes Go.WideShapes Go.ChangeAt Go.RowKit
set_option linter.unusedVariables false

theorem alg_all {w : World} {va vb vc : Value} {l m n : List Int} (ha : Row w 1 va l.length (ints l)) (hb : Row w 1 vb m.length (ints m)) (hc : Row w 1 vc n.length (ints n)) :
    Calls Try.prog 7 #[va, vb, vc] w fun e w' => e = .returned (.bool true) ∧ Below w.heap.size w w' := by
  by_cases hl : 80 < l.length ∨ 80 < m.length ∨ 80 < n.length
  · exact alg_long ha hb hc hl
  · exact alg_walk ha hb hc (by omega) (by omega) (by omega)

set_option maxRecDepth 100000 in
/-- What the walk gives, for every argument. -/
theorem alg_contract (H : Type) (enc : TypeId × Value → H) (W : World) (base : Nat) (args : Array Value) (ds gs : List (DataW H)) (before : List MemPlace)
    (hval0 : ∀ (j : Nat) t v, Try.f7.params[j]? = some t → args[j]? = some v → Value.okWide Try.prog W .any base t v)
    (hW : DataW.Whole enc Try.prog Try.f7.params.toList Rows.keepAlgebraSpec.vars false W args.toList ds gs before) :
    Calls Try.prog 7 args W fun e W' => ∃ v, e = .returned v ∧ Rows.keepAlgebraSpec.post enc Try.prog Try.f7 false true false false W args v W' := by
  have hval : ∀ (j : Nat) t v, Try.f7.params[j]? = some t → args[j]? = some v → Value.okWide Try.prog W .any base t v := hval0
  have hW' := hW
  obtain ⟨p, q, hA0, hV, rfl, hfz, hnd⟩ := hW
  have hA : DataW.TrodAll enc Try.prog W 0 (fun _ => true) true Try.f7.params.toList args.toList ds p := hA0
  rw [Try.params7] at hA hval
  obtain ⟨v0, vs0, d0, ds0, p0, q0, hargs0, rfl, rfl, h0, r0⟩ := trodAll_cons hA
  obtain ⟨v1, vs1, d1, ds1, p1, q1, hargs1, rfl, rfl, h1, r1⟩ := trodAll_cons r0
  obtain ⟨v2, vs2, d2, ds2, p2, q2, hargs2, rfl, rfl, h2, r2⟩ := trodAll_cons r1
  obtain ⟨rfl, rfl, rfl⟩ := trodAll_nil r2
  subst hargs1
  subst hargs2
  obtain rfl : args = #[v0, v1, v2] := by cases args; simp_all
  obtain ⟨rfl, rfl⟩ := trodVars_none hV
  have hv0 := hval 0 50 v0 rfl rfl
  have hc0 : Cell.okWide Try.prog W .any base 50 v0 := by simpa only [Value.okWide, Try.underlying50] using hv0
  obtain ⟨a0, c0, n0, e0⟩ := okWide_slice Try.underlying50 hv0
  obtain ⟨fuel0, hf0⟩ := id h0
  rw [show v0.cells.toList = [v0] by rw [e0]; rfl] at hf0
  obtain ⟨l0, rl0, hs0⟩ := open_nums hc0 hf0
  have hv1 := hval 1 50 v1 rfl rfl
  have hc1 : Cell.okWide Try.prog W .any base 50 v1 := by simpa only [Value.okWide, Try.underlying50] using hv1
  obtain ⟨a1, c1, n1, e1⟩ := okWide_slice Try.underlying50 hv1
  obtain ⟨fuel1, hf1⟩ := id h1
  rw [show v1.cells.toList = [v1] by rw [e1]; rfl] at hf1
  obtain ⟨l1, rl1, hs1⟩ := open_nums hc1 hf1
  have hv2 := hval 2 50 v2 rfl rfl
  have hc2 : Cell.okWide Try.prog W .any base 50 v2 := by simpa only [Value.okWide, Try.underlying50] using hv2
  obtain ⟨a2, c2, n2, e2⟩ := okWide_slice Try.underlying50 hv2
  obtain ⟨fuel2, hf2⟩ := id h2
  rw [show v2.cells.toList = [v2] by rw [e2]; rfl] at hf2
  obtain ⟨l2, rl2, hs2⟩ := open_nums hc2 hf2
  clear hA0 hval0
  simp only [List.append_nil] at hW'
  refine (alg_all rl0 rl1 rl2).mono fun e W' ⟨he, bel⟩ => ?_
  subst he
  exact ⟨_, rfl, _, _, _, [], _, [], hW', trodAll_mk1 (shut_bool Try.underlying4 _), (trodAll_cons_mk (Below.trod laidOut (by kernel_rfl) (of_decide_eq_true (by kernel_rfl)) h0 bel (places_lt h0)) (trodAll_cons_mk (Below.trod laidOut (by kernel_rfl) (of_decide_eq_true (by kernel_rfl)) h1 bel (places_lt h1)) (trodAll_cons_mk (Below.trod laidOut (by kernel_rfl) (of_decide_eq_true (by kernel_rfl)) h2 bel (places_lt h2)) trodAll_mk0))), rfl, bel.frame _, fun h => by cases h⟩

set_option maxRecDepth 100000 in
theorem alg_lifted (os : Os) (started : os.Started) (H : Type) (enc : TypeId × Value → H) :
    ReturnsInHanded {} Try.checked os 7 .any (Rows.keepAlgebraSpec.pre6 enc Try.prog Try.f7 Rows.keepAlgebraRow.domain false) (Rows.keepAlgebraSpec.post enc Try.prog Try.f7 false true false false) := by
  refine returnsInHanded_of_change (C := Try.checked) own started (by kernel_rfl) Try.func7
    (ChangeSpec.witness6 (enc := enc) (C := Try.checked) false ⟨#[], #[.slice none 0 0, .slice none 0 0, .slice none 0 0], []⟩ 8 (by kernel_rfl) (by kernel_rfl) (by kernel_rfl) (by kernel_rfl)) ?_
  intro W base args ds gs before hval hW _ _
  exact alg_contract H enc W base args ds gs before hval hW

/-- The statement. -/
theorem alg_holds : Rows.KeepAlgebraSaid :=
  OpenClaim.holds_of_wide 7 Try.f7 rfl rfl rfl rfl rfl rfl rfl ⟨rfl, rfl, rfl, rfl, rfl⟩ rfl rfl rfl rfl rfl (by kernel_rfl) Try.func7 (by kernel_rfl)
    (of_decide_eq_true (by kernel_rfl)) (by unfold Func.isWrapper; first | (rw [if_pos (by decide +kernel)]; kernel_rfl) | (rw [if_neg (by decide +kernel)]; exact ⟨rfl, rfl⟩))
    (fun os started H enc _ => alg_lifted os started H enc)

set_option maxRecDepth 100000 in
theorem alg_upto_lifted (os : Os) (started : os.Started) (H : Type) (enc : TypeId × Value → H) (F : Stop.Interp) :
    ReturnsInHanded {} Try.checked os 7 .any ((Rows.OpenSpec.upto Rows.keepAlgebraSpec).pre6 enc Try.prog Try.f7 Rows.keepAlgebraUptoRow.domain false) (((Rows.OpenSpec.upto Rows.keepAlgebraSpec).at F).post enc Try.prog Try.f7 false true false false) := by
  refine returnsInHanded_of_cond (C := Try.checked) (s := Rows.OpenSpec.upto Rows.keepAlgebraSpec) (k := Rows.uptoSmall) rfl own started (by kernel_rfl) Try.func7
    (OpenSpec.witness (enc := enc) (C := Try.checked) (s := Rows.OpenSpec.upto Rows.keepAlgebraSpec) (k := Rows.uptoSmall) rfl false ⟨#[], #[.slice none 0 0, .slice none 0 0, .slice none 0 0], []⟩ 8 (by kernel_rfl) (by kernel_rfl) (by kernel_rfl)
      (x := ([.nil, .nil, .nil], [], [])) (by kernel_rfl) rfl (by kernel_rfl)) ?_
  intro W base args ds gs before hval hW _ hk _
  exact alg_contract H enc W base args ds gs before hval hW

/-- The statement, second form. -/
theorem alg_upto_holds : Rows.KeepAlgebraUptoSaid :=
  OpenClaim.holds_of_cond 7 Try.f7 rfl rfl rfl rfl rfl rfl rfl ⟨rfl, rfl, rfl, rfl, rfl⟩ rfl rfl rfl rfl rfl (by kernel_rfl) Try.func7 (by kernel_rfl)
    (of_decide_eq_true (by kernel_rfl)) (by unfold Func.isWrapper; first | (rw [if_pos (by decide +kernel)]; kernel_rfl) | (rw [if_neg (by decide +kernel)]; exact ⟨rfl, rfl⟩))
    (fun os started H enc _ F => alg_upto_lifted os started H enc F)

#print axioms alg_holds
#print axioms alg_upto_holds

end Go.Proofs.Ytkobiimkaimbaaa
