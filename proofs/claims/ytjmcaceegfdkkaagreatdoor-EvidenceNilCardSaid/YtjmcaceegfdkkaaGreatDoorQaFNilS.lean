/-
  What the row's condition gives the walks: the table of the letters' kinds.
  The statement EvidenceNil, as a tied card. No condition.
-/
import Derived.Test.YtjmcaceegfdkkaaGreatDoorCards
import Derived.Test.YtjmcaceegfdkkaaGreatDoorTie
import Derived.JoinedOf
import Derived.ChangeMaps5
import Derived.SevenTiedAt
import Derived.Test.YtjmcaceegfdkkaaGreatDoorQaTLaidL
import Derived.Test.YtjmcaceegfdkkaaGreatDoorQaLKind
namespace Go.Proofs.YtjmcaceegfdkkaaGreatDoor
open Go.ChangeShapes Go.WideShapes Go.ChangeAt Go.WideMaps Go.WideElems Go.RowKit
set_option linter.unusedVariables false
def kdV (k : Nat) : DataW Unit := .agg [.lit (.string (kdW k).data.toList), .lit (.string (kdD k).data.toList), .lit (.int .i64 (kdBy k)), .lit (.int .i64 (kdTo k)), .lit (.bool (fromB (k : Int))), .lit (.bool (textB (k : Int))), .lit (.bool (fakeB (k : Int)))]
theorem datumK_eq : (Rows.laid_escrow_letter_kinds (H := Unit)) = .agg ((List.range 8).map kdV) := by kernel_rfl
theorem gKinds : Tryz.prog.globalNamed "escrow/letter.kinds" = some 0 := by kernel_rfl
theorem tKinds : (Tryz.prog.globals[0]?).map (·.type) = some KdsT := by kernel_rfl
theorem data_inj {a b : ByteArray} (h : a.data.toList = b.data.toList) : a = b := by
  cases a; cases b
  simpa using h
set_option maxRecDepth 100000 in
theorem trod_kind {H : Type} {enc : TypeId × Value → H} {W : World} {base fuel : Nat} {sp : Nat → Bool} {held : Bool} {cs' : List Value} {x : DataW H × List MemPlace} {s0 s1 : ByteArray} {b4 b5 b6 : Bool} {m2 m3 : Int}
    (ht : DataW.trod enc Tryz.prog W base sp held fuel KdT cs' = some x) (hx : x.1 = .agg [.lit (.string s0.data.toList), .lit (.string s1.data.toList), .lit (.int .i64 m2), .lit (.int .i64 m3), .lit (.bool b4), .lit (.bool b5), .lit (.bool b6)]) :
    cs' = [.string s0, .string s1, .int .i64 m2, .int .i64 m3, .bool b4, .bool b5, .bool b6] := by
  obtain ⟨ys, k, _, hxx, hl, hyl, hfld⟩ := DataW.trod_struct (fs := Tryz.prog.fieldsOf KdT) (by kernel_rfl) ht
  rw [hxx] at hx
  have c7 : Tryz.prog.cellsOf KdT = 7 := by kernel_rfl
  have cs : Tryz.prog.cellsOf 9 = 1 := by kernel_rfl
  have cb : Tryz.prog.cellsOf 4 = 1 := by kernel_rfl
  have ci : Tryz.prog.cellsOf 3 = 1 := by kernel_rfl
  have h7 : (Tryz.prog.fieldsOf KdT).size = 7 := by kernel_rfl
  rw [c7] at hl
  rw [h7] at hyl
  match cs', hl with
  | [u0, u1, u2, u3, u4, u5, u6], _ =>
    have f0 : DataW.trod enc Tryz.prog W base sp held k 9 (([u0, u1, u2, u3, u4, u5, u6].drop 0).take (Tryz.prog.cellsOf 9)) = ys[0]? := hfld 0 _ rfl
    have f1 : DataW.trod enc Tryz.prog W base sp held k 9 (([u0, u1, u2, u3, u4, u5, u6].drop 1).take (Tryz.prog.cellsOf 9)) = ys[1]? := hfld 1 _ rfl
    have f2 : DataW.trod enc Tryz.prog W base sp held k 3 (([u0, u1, u2, u3, u4, u5, u6].drop 2).take (Tryz.prog.cellsOf 3)) = ys[2]? := hfld 2 _ rfl
    have f3 : DataW.trod enc Tryz.prog W base sp held k 3 (([u0, u1, u2, u3, u4, u5, u6].drop 3).take (Tryz.prog.cellsOf 3)) = ys[3]? := hfld 3 _ rfl
    have f4 : DataW.trod enc Tryz.prog W base sp held k 4 (([u0, u1, u2, u3, u4, u5, u6].drop 4).take (Tryz.prog.cellsOf 4)) = ys[4]? := hfld 4 _ rfl
    have f5 : DataW.trod enc Tryz.prog W base sp held k 4 (([u0, u1, u2, u3, u4, u5, u6].drop 5).take (Tryz.prog.cellsOf 4)) = ys[5]? := hfld 5 _ rfl
    have f6 : DataW.trod enc Tryz.prog W base sp held k 4 (([u0, u1, u2, u3, u4, u5, u6].drop 6).take (Tryz.prog.cellsOf 4)) = ys[6]? := hfld 6 _ rfl
    rw [cs] at f0
    rw [cs] at f1
    rw [ci] at f2
    rw [ci] at f3
    rw [cb] at f4
    rw [cb] at f5
    rw [cb] at f6
    simp only [List.drop_zero, List.drop_succ_cons, List.take_succ_cons, List.take_zero] at f0 f1 f2 f3 f4 f5 f6
    match ys, hyl with
    | [y0, y1, y2, y3, y4, y5, y6], _ =>
      simp only [List.map_cons, List.map_nil, DataW.agg.injEq, List.cons.injEq, and_true] at hx
      obtain ⟨h0, h1, h2, h3, h4, h5, h6⟩ := hx
      obtain ⟨v0, e0, w0, _⟩ := DataW.trod_string Tryz.underlying9 (show DataW.trod enc Tryz.prog W base sp held k 9 [u0] = some y0 from f0)
      obtain ⟨v1, e1, w1, _⟩ := DataW.trod_string Tryz.underlying9 (show DataW.trod enc Tryz.prog W base sp held k 9 [u1] = some y1 from f1)
      obtain ⟨v2, e2, w2, _⟩ := DataW.trod_int Tryz.underlying3 (show DataW.trod enc Tryz.prog W base sp held k 3 [u2] = some y2 from f2)
      obtain ⟨v3, e3, w3, _⟩ := DataW.trod_int Tryz.underlying3 (show DataW.trod enc Tryz.prog W base sp held k 3 [u3] = some y3 from f3)
      obtain ⟨v4, e4, w4⟩ := DataW.trod_bool Tryz.underlying4 (show DataW.trod enc Tryz.prog W base sp held k 4 [u4] = some y4 from f4)
      obtain ⟨v5, e5, w5⟩ := DataW.trod_bool Tryz.underlying4 (show DataW.trod enc Tryz.prog W base sp held k 4 [u5] = some y5 from f5)
      obtain ⟨v6, e6, w6⟩ := DataW.trod_bool Tryz.underlying4 (show DataW.trod enc Tryz.prog W base sp held k 4 [u6] = some y6 from f6)
      rw [w0] at h0
      rw [w1] at h1
      rw [w2] at h2
      rw [w3] at h3
      rw [w4] at h4
      rw [w5] at h5
      rw [w6] at h6
      simp only [DataW.lit.injEq, Lit.bool.injEq, Lit.int.injEq, Lit.string.injEq, true_and] at h0 h1 h2 h3 h4 h5 h6
      simp only [List.cons.injEq, and_true] at e0 e1 e2 e3 e4 e5 e6
      rw [e0, e1, e2, e3, e4, e5, e6, data_inj h0, data_inj h1, h2, h3, h4, h5, h6]
set_option maxRecDepth 100000 in
theorem of_laidK {W : World} (h : laidMetH Tryz.prog laidL W) : LaidK W := by
  rw [MakeChecks.laidMetH_plain _ _ _ (by kernel_rfl)] at h
  obtain ⟨ps, ⟨_, _, _, _, _, _, _, _, _, _, ⟨g0, t0, cs0, f0, p0, q0, hg0, ht0, hv0, hd0, _, _⟩, _⟩, _⟩ := h
  obtain rfl := Option.some.inj (gKinds.symm.trans hg0)
  obtain rfl := Option.some.inj (tKinds.symm.trans ht0)
  rw [datumK_eq] at hd0
  obtain ⟨xs, m, _, hx, hlen, hn, hel⟩ := DataW.trod_array underKds hd0
  have c7 : Tryz.prog.cellsOf KdT = 7 := by kernel_rfl
  simp only [Prod.mk.injEq, DataW.agg.injEq] at hx
  have hk : ∀ k, k < 8 → (cs0.toList.drop (k * 7)).take 7 = kindA k := by
    intro k hk
    have hek := hel k hk
    rw [c7] at hek
    have hxk : xs[k]? = some (xs[k]'(by omega)) := List.getElem?_eq_getElem (by omega)
    rw [hxk] at hek
    have hd : (xs[k]'(by omega)).1 = kdV k := by
      have := congrArg (fun l => l[k]?) hx.1
      simp only [List.getElem?_map, hxk, Option.map_some, List.getElem?_range hk] at this
      exact (Option.some.inj this).symm
    exact trod_kind hek hd
  intro j v hj
  have hj56 : j < 56 := (List.getElem?_eq_some_iff.1 hj).1
  rw [World.var?_cell hg0 hv0]
  have e := congrArg (fun l => l[j % 7]?) (hk (j / 7) (by omega))
  simp only [List.getElem?_take, List.getElem?_drop] at e
  rw [if_pos (by omega), show j / 7 * 7 + j % 7 = j from by omega] at e
  have e2 : (kindA (j / 7))[j % 7]? = kindsL[j]? := by
    have hz : ∀ k, k < 8 → ∀ i, i < 7 → (kindA k)[i]? = kindsL[k * 7 + i]? := by
      intro k hk i hi
      have h : k = 0 ∨ k = 1 ∨ k = 2 ∨ k = 3 ∨ k = 4 ∨ k = 5 ∨ k = 6 ∨ k = 7 := by omega
      have h' : i = 0 ∨ i = 1 ∨ i = 2 ∨ i = 3 ∨ i = 4 ∨ i = 5 ∨ i = 6 := by omega
      rcases h with rfl | rfl | rfl | rfl | rfl | rfl | rfl | rfl <;> rcases h' with rfl | rfl | rfl | rfl | rfl | rfl | rfl <;> rfl
    rw [hz _ (by omega) _ (by omega), show j / 7 * 7 + j % 7 = j from by omega]
  rw [e2, hj] at e
  simpa using e
end Go.Proofs.YtjmcaceegfdkkaaGreatDoor
namespace Go.Proofs.YtjmcaceegfdkkaaGreatDoor
open Go Go.ChangeShapes Go.WideShapes Go.ChangeAt Go.RowKit
set_option linter.unusedVariables false
set_option maxRecDepth 100000 in
/-- What the walk gives, for every argument. -/
theorem fnil_contract (H : Type) (enc : TypeId × Value → H) (W : World) (base : Nat) (args : Array Value) (ds gs : List (DataW H)) (before : List MemPlace)
    (hval0 : ∀ (j : Nat) t v, Tryz.f9.params[j]? = some t → args[j]? = some v → Value.okWide Tryz.prog W .any base t v)
    (hW : DataW.Whole enc Tryz.prog Tryz.f9.params.toList Rows.evidenceNilSpec.vars false W args.toList ds gs before) (hL : laidMetH Tryz.prog laidL W) :
    Calls Tryz.prog 9 args W fun e W' => ∃ v, e = .returned v ∧ Rows.evidenceNilSpec.post enc Tryz.prog Tryz.f9 false true false false W args v W' := by
  have hval : ∀ (j : Nat) t v, Tryz.f9.params[j]? = some t → args[j]? = some v → Value.okWide Tryz.prog W .any base t v := hval0
  have hW' := hW
  obtain ⟨p, q, hA0, hV, rfl, hfz, hnd⟩ := hW
  have hA : DataW.TrodAll enc Tryz.prog W 0 (fun _ => true) true Tryz.f9.params.toList args.toList ds p := hA0
  rw [Tryz.params9] at hA hval
  obtain ⟨hargs, rfl, rfl⟩ := trodAll_nil hA
  obtain rfl : args = #[] := by cases args; simp_all
  obtain ⟨rfl, rfl⟩ := trodVars_none hV
  have HL := of_laid hL
  have HK := of_laidK hL
  clear hA0 hval0 hL
  simp only [List.append_nil] at hW'
  refine (nil_walk HL HK).mono fun e W' ⟨he, bel⟩ => ?_
  subst he
  exact ⟨_, rfl, _, _, _, [], _, [], hW', trodAll_mk1 (shut_bool Tryz.underlying4 _), trodAll_mk0, rfl, bel.frame _, fun h => by cases h⟩
set_option maxRecDepth 100000 in
theorem fnil_lifted (os : Os) (started : os.Started) (H : Type) (enc : TypeId × Value → H) :
    ReturnsInHanded {} Tryz.checked os 9 .any (fun w args => (Rows.evidenceNilSpec.pre enc Tryz.prog Tryz.f9 [] false w args ∧ laidMetH Tryz.prog laidL w) ∧ sizedMet enc Tryz.prog Tryz.f9 (OpenSpec.ofChange Rows.evidenceNilSpec) false w args)
      (Rows.evidenceNilSpec.post enc Tryz.prog Tryz.f9 false true false false) := by
  refine returnsInHanded_of_change_and (C := Tryz.checked) (X := fun w _ => laidMetH Tryz.prog laidL w) (fun _ _ _ hh h => h.of_heap hh) own started (by kernel_rfl) Tryz.func9
    (ChangeSpec.witness_shaped (enc := enc) (C := Tryz.checked) (os := os) (X := fun w _ => laidMetH Tryz.prog laidL w) false (World.doorLaid Tryz.prog 400 os) #[] 8 rfl (World.shaped_of_RefB (by kernel_rfl) (by kernel_rfl)) (by kernel_rfl) (by kernel_rfl) (by kernel_rfl) (door_met os _)) ?_
  intro W base args ds gs before hval hW _ _ hL _
  exact fnil_contract H enc W base args ds gs before hval hW hL
/-- The row's statement. -/
theorem fnil_holds : Rows.EvidenceNilSaid :=
  OpenClaim.holds_of_wide 9 Tryz.f9 rfl rfl rfl rfl rfl rfl rfl ⟨rfl, rfl, rfl, rfl, rfl⟩ rfl rfl rfl rfl rfl (by kernel_rfl) Tryz.func9 (by kernel_rfl)
    (of_decide_eq_true (by kernel_rfl)) (by unfold Func.isWrapper; first | (rw [if_pos (by decide +kernel)]; kernel_rfl) | (rw [if_neg (by decide +kernel)]; exact ⟨rfl, rfl⟩))
    (fun os started H enc _ => fnil_lifted os started H enc)
/-- The card. -/
theorem fnil_card : Rows.EvidenceNilCardSaid :=
  Claim7.holds_tied_plain_at .later [] [.data, .data] true _ false
    fnil_holds (fun _ h => by cases h) (by kernel_rfl) (fun _ h => by cases h) evidenceNil_row_tie rfl ⟨rfl, rfl⟩ (by kernel_rfl) rfl
    (fun f fn hf hfn => by
      obtain rfl : f = 9 := Option.some.inj ((show Tryz.prog.funcNamed "escrow/escrowlaw12.EvidenceNil" = some 9 by kernel_rfl).symm.trans hf) |>.symm
      obtain rfl : fn = Tryz.f9 := (Option.some.inj (Tryz.func9.symm.trans hfn)).symm
      exact ⟨by kernel_rfl, fun j t ht => by
        rw [Tryz.params9] at ht
        exact absurd ht (by simp)⟩)
    (by kernel_rfl)
#print axioms fnil_card
end Go.Proofs.YtjmcaceegfdkkaaGreatDoor
