/-
  The document's own Same: are two trees the same?
  The table of the kinds of letters; in which kind a datum stands ahead.
-/
import Derived.Laws.Rows
import Derived.Test.YtjmcaceegfdkkaaGreatDoorQbLRead
import Derived.Test.YtjmcaceegfdkkaaGreatDoorQbTCmp
import Derived.Test.YtjmcaceegfdkkaaGreatDoorQbLProm
namespace Go.Proofs.YtjmcaceegfdkkaaGreatDoor
open Go.RowKit Go.Maps
set_option linter.unusedVariables false
theorem sne_of {x y : ByteArray} : (x.toList == y.toList) = decide (x = y) := by
  by_cases h : x = y
  · subst h; simp
  · rw [decide_eq_false h]; exact ne_bytes h
section
variable {G G' : Nat → Prop}
end
end Go.Proofs.YtjmcaceegfdkkaaGreatDoor
namespace Go.Proofs.YtjmcaceegfdkkaaGreatDoor
open Go.RowKit Go.Maps
set_option linter.unusedVariables false
abbrev KdT : TypeId := 159
abbrev KdsT : TypeId := 160
def promiseS : ByteArray := ⟨#[112, 114, 111, 109, 105, 115, 101]⟩
def signS : ByteArray := ⟨#[115, 105, 103, 110]⟩
def tokenS : ByteArray := ⟨#[116, 111, 107, 101, 110]⟩
def kdW (k : Nat) : ByteArray := [emptyS, promiseS, signS, abortS, resolveS, tokenS, insteadS, fullS].getD k emptyS
def kdD (k : Nat) : ByteArray := [emptyS, emptyS, dealS, abortS, resolveS, abortedS, insteadS, fullS].getD k emptyS
def kdBy (k : Nat) : Int := [0, -4, -3, 0, -3, 2, 2, -4].getD k 0
def kdTo (k : Nat) : Int := [0, -2, -2, 2, 2, -1, -1, -1].getD k 0
def kindA (k : Nat) : List Value := [.string (kdW k), .string (kdD k), .int .i64 (kdBy k), .int .i64 (kdTo k), .bool (fromB (k : Int)), .bool (textB (k : Int)), .bool (fakeB (k : Int))]
def kindsL : List Value := (List.range 8).flatMap kindA
/-- The table reads as it is laid. -/
def LaidK (w : World) : Prop := ∀ j v, kindsL[j]? = some v → w.cell? ⟨0, j, none⟩ = some v
theorem LaidK.below {w w' : World} (h : LaidK w) (hb : Below w.heap.size w w') : LaidK w' := fun j v hj => bcellAt hb (h j v hj)
theorem kindsL_at {k : Nat} (hk : k < 8) : kindsL[k * 7]? = some (.string (kdW k)) ∧ kindsL[k * 7 + 1]? = some (.string (kdD k)) ∧ kindsL[k * 7 + 2]? = some (.int .i64 (kdBy k)) ∧ kindsL[k * 7 + 3]? = some (.int .i64 (kdTo k)) ∧ kindsL[k * 7 + 4]? = some (.bool (fromB (k : Int))) ∧ kindsL[k * 7 + 5]? = some (.bool (textB (k : Int))) ∧ kindsL[k * 7 + 6]? = some (.bool (fakeB (k : Int))) := by
  have h : k = 0 ∨ k = 1 ∨ k = 2 ∨ k = 3 ∨ k = 4 ∨ k = 5 ∨ k = 6 ∨ k = 7 := by omega
  rcases h with rfl | rfl | rfl | rfl | rfl | rfl | rfl | rfl <;> exact ⟨rfl, rfl, rfl, rfl, rfl, rfl, rfl⟩
theorem LaidK.at {w : World} (h : LaidK w) {k : Nat} (hk : k < 8) : w.cell? ⟨0, k * 7, none⟩ = some (.string (kdW k)) ∧ w.cell? ⟨0, k * 7 + 1, none⟩ = some (.string (kdD k)) ∧ w.cell? ⟨0, k * 7 + 2, none⟩ = some (.int .i64 (kdBy k)) ∧ w.cell? ⟨0, k * 7 + 3, none⟩ = some (.int .i64 (kdTo k)) ∧ w.cell? ⟨0, k * 7 + 4, none⟩ = some (.bool (fromB (k : Int))) ∧ w.cell? ⟨0, k * 7 + 5, none⟩ = some (.bool (textB (k : Int))) ∧ w.cell? ⟨0, k * 7 + 6, none⟩ = some (.bool (fakeB (k : Int))) := by
  obtain ⟨a0, a1, a2, a3, a4, a5, a6⟩ := kindsL_at hk
  exact ⟨h _ _ a0, h _ _ a1, h _ _ a2, h _ _ a3, h _ _ a4, h _ _ a5, h _ _ a6⟩
/-- A variable that is read whole, told by its cells. -/
theorem run_loadVar_cells {P : Program} (w : World) (g : Nat) (ty : TypeId) (cs : Array Value) (d : TypeDesc) (h : ∀ j v, cs.toList[j]? = some v → w.cell? ⟨g, j, none⟩ = some v)
    (hu : P.underlying ty = some d) (hd : (match d with | .struct _ | .array _ _ => true | _ => false) = true) (hi : (P.info? ty).map (·.size) = some cs.size) :
    (loadVar ty ⟨g, 0, none⟩).run P w = .ok (.agg cs) w := by
  have hl : (loadCells ⟨g, 0, none⟩ cs.toList.length).run P w = .ok cs.toList.toArray w :=
    run_loadCells_list (P := P) w ⟨g, 0, none⟩ cs.toList (fun j v hv => by
      have hadd : (⟨g, 0, none⟩ : Addr).add j = ⟨g, j, none⟩ := by unfold Addr.add; split <;> simp_all
      rw [hadd]
      exact h j v hv)
  cases hq : P.info? ty with
  | none => simp [hq] at hi
  | some i =>
    have hs : i.size = cs.size := by simpa [hq] using hi
    have hagg : (isAgg ty).run P w = .ok true w := by
      unfold isAgg
      rw [Sem.run_bind, run_underlying hu w]
      cases d <;> simp_all
    simp only [Array.length_toList, Array.toArray_toList] at hl
    simp [loadVar, Sem.run_bind, hagg, sizeOf, typeInfo, hq, hs, hl]
theorem wpList_load_cells {P : Program} {ops : Array Oper} {rest : List Oper} {o : Oper} {a : Act} {w : World} {Q : Exit → Act → World → Prop} (hgd : o.guard = none) (ty : TypeId) (x : Operand) (ho : o.op = .load ty x)
    (g : Nat) (hx : a.eval x = .pointer (some ⟨g, 0, none⟩)) (cs : Array Value) (d : TypeDesc) (hc : ∀ j v, cs.toList[j]? = some v → w.cell? ⟨g, j, none⟩ = some v)
    (hu : P.underlying ty = some d) (hd : (match d with | .struct _ | .array _ _ => true | _ => false) = true) (hi : (P.info? ty).map (·.size) = some cs.size)
    (h : wpList P ops Q rest (a.put o.dst (.agg cs)) w) : wpList P ops Q (o :: rest) a w :=
  wpList_plain hgd fun _ hK => by
    unfold Oper.wp execOp
    simp only [ho, hx, Instr.loadAt, Instr.sureAddr, Sem.run_bind, Sem.run_pure, Result.andThen_ok, run_loadVar_cells w g ty cs d hc hu hd hi]
    exact hK _ _ h
theorem underKds : Tryz.prog.underlying KdsT = some (.array 8 KdT) := by kernel_rfl
theorem infoKds : (Tryz.prog.info? KdsT).map (·.size) = some 56 := by kernel_rfl
theorem index_kinds {j : Nat} (hj : j < 8) (W : World) : (Instr.index KdsT (.agg kindsL.toArray) (.int .i64 (j : Int))).run Tryz.prog W = .ok (.agg #[.string (kdW j), .string (kdD j), .int .i64 (kdBy j), .int .i64 (kdTo j), .bool (fromB (j : Int)), .bool (textB (j : Int)), .bool (fakeB (j : Int))]) W := by
  have h : j = 0 ∨ j = 1 ∨ j = 2 ∨ j = 3 ∨ j = 4 ∨ j = 5 ∨ j = 6 ∨ j = 7 := by omega
  rcases h with rfl | rfl | rfl | rfl | rfl | rfl | rfl | rfl
  · show _ = _; kernel_rfl
  · show _ = _; kernel_rfl
  · show _ = _; kernel_rfl
  · show _ = _; kernel_rfl
  · show _ = _; kernel_rfl
  · show _ = _; kernel_rfl
  · show _ = _; kernel_rfl
  · show _ = _; kernel_rfl
/-- In which kind a datum stands ahead; 0: in none. -/
def kfP (d : ByteArray) : Int := if d = dealS then 2 else if d = abortS then 3 else if d = resolveS then 4 else if d = abortedS then 5 else if d = insteadS then 6 else if d = fullS then 7 else 0
theorem kf_at {d : ByteArray} {i : Nat} (hi : i < 8) (he : kdD i = d) (hn : ∀ j, j < i → kdD j ≠ d) : kfP d = (i : Int) := by
  have h : i = 0 ∨ i = 1 ∨ i = 2 ∨ i = 3 ∨ i = 4 ∨ i = 5 ∨ i = 6 ∨ i = 7 := by omega
  subst he
  rcases h with rfl | rfl | rfl | rfl | rfl | rfl | rfl | rfl
  · decide
  · exact absurd rfl (hn 0 (by omega))
  · decide
  · decide
  · decide
  · decide
  · decide
  · decide
theorem kf_no {d : ByteArray} (hn : ∀ j, j < 8 → kdD j ≠ d) : kfP d = 0 := by
  unfold kfP
  rw [if_neg (fun h => hn 2 (by omega) h.symm), if_neg (fun h => hn 3 (by omega) h.symm), if_neg (fun h => hn 4 (by omega) h.symm), if_neg (fun h => hn 5 (by omega) h.symm), if_neg (fun h => hn 6 (by omega) h.symm), if_neg (fun h => hn 7 (by omega) h.symm)]
set_option maxRecDepth 100000 in
set_option maxHeartbeats 1600000 in
theorem kindOf_any {w : World} (hl : LaidK w) (d : ByteArray) : Calls Tryz.prog 95 #[.string d] w fun e w' => e = .returned (.int .i64 (kfP d)) ∧ Below w.heap.size w w' := by
  have HLK := Lib.hid hl
  clear hl
  obtain ⟨rr, hrr⟩ : ∃ rr, rr = kfP d := ⟨_, rfl⟩
  rw [← hrr]
  have HR := Lib.hid hrr
  clear hrr
  go_enter Tryz.func95, Tryz.ntmps95
  go_wp2_with ((refine wpList_load_cells rfl _ _ rfl 0 rfl kindsL.toArray _ HLK.out underKds rfl infoKds ?_))
  go_loopw [6] (fun v6 wr => ∃ i : Nat, v6 = .int .i64 (i : Int) ∧ i ≤ 8 ∧ (∀ j, j < i → kdD j ≠ d) ∧ Below w.heap.size w wr) (fun v _ => 8 - (intOf v).toNat)
  case atStart => exact ⟨0, rfl, by omega, fun j h => absurd h (Nat.not_lt_zero _), Below.refl _ _⟩
  case round =>
    obtain ⟨i, rfl, hi, hn, hb⟩ := hrel
    have HB := Lib.hid hb
    have HN := Lib.hid hn
    clear hb hn
    by_cases hlt : i < 8
    · have hi0 : (0 : Int) ≤ (i : Int) := by omega
      have hi1 : (i : Int) < 8 := by omega
      have hix := index_kinds hlt
      have hN := heap_alloc_new wr (.cells #[.string (kdW i), .string (kdD i), .int .i64 (kdBy i), .int .i64 (kdTo i), .bool (fromB (i : Int)), .bool (textB (i : Int)), .bool (fakeB (i : Int))] KdT)
      have c1 := cellB (j := 1) hN rfl
      have HB2 := Lib.hid (bmore HB.out (bZ wr (.cells #[.string (kdW i), .string (kdD i), .int .i64 (kdBy i), .int .i64 (kdTo i), .bool (fromB (i : Int)), .bool (textB (i : Int)), .bool (fakeB (i : Int))] KdT)))
      have HE := Lib.hid (fun h : kdD i = d => kf_at hlt h HN.out)
      have HM := Lib.hid (fun h : kdD i ≠ d => (fun j (hj : j < i + 1) => by
        rcases Nat.lt_succ_iff_lt_or_eq.1 hj with h1 | h1
        · exact HN.out j h1
        · subst h1; exact h : ∀ j, j < i + 1 → kdD j ≠ d))
      have hsq : ((kdD i).toList == d.toList) = decide (kdD i = d) := sne_of
      clear hN
      generalize kdD i = di at *
      generalize kdW i = wi at *
      generalize kdBy i = bi at *
      generalize kdTo i = ti at *
      generalize fromB (i : Int) = xi at *
      generalize textB (i : Int) = yi at *
      generalize fakeB (i : Int) = zi at *
      by_cases hd : di = d
      · have hsq2 : (di.toList == d.toList) = true := by rw [hsq]; exact decide_eq_true hd
        have HE2 := Lib.hid (HE.out hd)
        clear hsq hd
        go_wp2_with fail
        go_returns
        exact ⟨by rw [HR.out, HE2.out]; rfl, HB2.out⟩
      · have hsq2 : (di.toList == d.toList) = false := by rw [hsq]; exact decide_eq_false hd
        have HM2 := Lib.hid (HM.out hd)
        clear hsq hd
        go_wp2_with fail
        go_roundw
        case rel => exact ⟨i + 1, by go_num, by omega, HM2.out, HB2.out⟩
        case measure => simp [intOf]; omega
    · obtain rfl : i = 8 := by omega
      go_wp2_with fail
      go_returns
      exact ⟨by rw [HR.out, kf_no HN.out]; rfl, HB.out⟩
end Go.Proofs.YtjmcaceegfdkkaaGreatDoor
