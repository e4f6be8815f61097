/-
  The table of the operations' codes in memory: a map from codes to functions.
-/
import Derived.Test.YtjpkeoenajlmeaaDoorYOpM
namespace Go.Proofs.YtjpkeoenajlmeaaDoor
open Go.RowKit Go.Maps
set_option linter.unusedVariables false

abbrev CodeT : TypeId := 145
abbrev CodesT : TypeId := 137
/-- A function that captures nothing. -/
def fnV (f : Nat) : Value := .func (.func f) #[] #[]
/-- A function, or none. -/
def fnO : Option Nat → Value
  | none => .nilFunc
  | some f => fnV f
def fnD : Option Nat → DataW Unit
  | none => .nil
  | some f => .lit (.int .i64 (f : Int))
abbrev Code3 := Option Nat × Option Nat × Option Nat
def codeV (z : Code3) : Value := .agg #[fnO z.1, fnO z.2.1, fnO z.2.2]
def codeD (z : Code3) : DataW Unit := .agg [fnD z.1, fnD z.2.1, fnD z.2.2]
def fnR : Value → Option (DataW Unit)
  | .nilFunc => some .nil
  | .func (.func f) a b => if a.size = 0 ∧ b.size = 0 then some (.lit (.int .i64 (f : Int))) else none
  | _ => none
def codeElem : Value → Option (DataW Unit × List MemPlace)
  | .agg cs => match cs.toList with
    | [x, y, z] => match fnR x, fnR y, fnR z with
      | some a, some b, some c => some (.agg [a, b, c], [])
      | _, _, _ => none
    | _ => none
  | _ => none
theorem fnR_mk (x : Option Nat) : fnR (fnO x) = some (fnD x) := by cases x <;> rfl
theorem codeElem_mk (z : Code3) : codeElem (codeV z) = some (codeD z, []) := by
  unfold codeElem codeV
  simp [fnR_mk, codeD]
theorem fnR_inv {v : Value} {d : DataW Unit} (h : fnR v = some d) : ∃ x, v = fnO x ∧ d = fnD x := by
  unfold fnR at h
  split at h
  · cases h; exact ⟨none, rfl, rfl⟩
  · rename_i f a b
    split at h
    · rename_i hs
      cases h
      refine ⟨some f, ?_, rfl⟩
      unfold fnO fnV
      rw [Array.eq_empty_of_size_eq_zero hs.1, Array.eq_empty_of_size_eq_zero hs.2]
    · cases h
  · cases h
theorem codeElem_inv {v : Value} {x : DataW Unit × List MemPlace} (h : codeElem v = some x) : ∃ z, v = codeV z ∧ x = (codeD z, []) := by
  unfold codeElem at h
  split at h
  · rename_i cs
    split at h
    · rename_i x y z e
      split at h
      · rename_i a b c h1 h2 h3
        cases h
        obtain ⟨x', rfl, rfl⟩ := fnR_inv h1
        obtain ⟨y', rfl, rfl⟩ := fnR_inv h2
        obtain ⟨z', rfl, rfl⟩ := fnR_inv h3
        exact ⟨(x', y', z'), by unfold codeV; congr 1; exact Array.toList_inj.1 e, rfl⟩
      · cases h
    · cases h
  · cases h
theorem fnD_inj {x y : Option Nat} (h : fnD x = fnD y) : x = y := by
  cases x <;> cases y
  · rfl
  · cases h
  · cases h
  · simp only [fnD, DataW.lit.injEq, Lit.int.injEq, true_and] at h
    congr 1; omega
theorem codeD_inj {x y : Code3} (h : codeD x = codeD y) : x = y := by
  simp only [codeD, DataW.agg.injEq, List.cons.injEq, and_true] at h
  exact Prod.ext (fnD_inj h.1) (Prod.ext (fnD_inj h.2.1) (fnD_inj h.2.2))
theorem zeroCode (w : World) : (zeroValue CodeT).run Tryd.prog w = .ok (codeV (none, none, none)) w := by kernel_rfl
theorem lawI : Keyed Tryd.prog 3 := int_keyed Tryd.underlying3
theorem keyI {x : Int} (h : i64R x) : keyOf Tryd.prog 3 (.int .i64 x) = some (.int .i64 x) := keyOf_int_mk Tryd.underlying3 (wf_i64 h)
/-- The functions of a code: what A and B must lead to, what is made. -/
def tabP (c : Int) : Code3 :=
  if c = 0 then (none, none, some 85)
  else if c = 1 then (none, none, some 87)
  else if c = 2 then (none, none, some 88)
  else if c = 3 then (none, none, some 90)
  else if c = 4 then (some 91, some 91, some 92)
  else if c = 5 then (some 91, none, some 93)
  else if c = 6 then (some 95, none, some 96)
  else if c = 7 then (some 95, none, some 98)
  else if c = 8 then (some 99, none, some 100)
  else if c = 9 then (some 91, some 101, some 102)
  else if c = 10 then (some 91, some 101, some 104)
  else if c = 11 then (some 91, some 101, some 107)
  else (none, none, none)
/-- At block mb stands a table of codes. -/
def CodesP (w : World) (mb n : Nat) (m : Int → Code3) : Prop := ∃ D : DataW Unit, w.ownsMap Tryd.prog 3 codeElem mb n D ∧ ∀ x, i64R x → D.atKey (.int .i64 x) (codeD (none, none, none)) = codeD (m x)
theorem CodesP.new (w : World) : CodesP (w.alloc (.map #[] 0)) w.heap.size 0 (fun _ => (none, none, none)) := ⟨_, World.ownsMap_made w _ _ _, fun x _ => rfl⟩
theorem CodesP.put {w w' : World} {mb n : Nat} {m : Int → Code3} {D : DataW Unit} {u : Int} {s : Code3} (hm : IsMap D) (hD : ∀ x, i64R x → D.atKey (.int .i64 x) (codeD (none, none, none)) = codeD (m x)) (hu : i64R u)
    (h : w'.ownsMap Tryd.prog 3 codeElem mb (n + 1) (D.put (.int .i64 u) (codeD s))) : CodesP w' mb (n + 1) (fun x => if x = u then s else m x) := by
  refine ⟨_, h, fun x hx => ?_⟩
  by_cases e : x = u
  · subst e
    rw [atKey_put_same hm (lawI.key (keyI hx))]; simp
  · rw [atKey_put_other (fun e' => e (by simpa using e')), hD x hx]; simp [e]
theorem CodesP.look {w : World} {mb n : Nat} {m : Int → Code3} (h : CodesP w mb n m) {x : Int} (hx : i64R x) : (Instr.lookup CodesT (.map (some mb)) (.int .i64 x) false).run Tryd.prog w = .ok (codeV (m x)) w := by
  obtain ⟨D, h1, h2⟩ := h
  obtain ⟨v, ps, hr, hv⟩ := h1.lookup lawI Tryd.underlying137 (zeroCode w) (codeElem_mk (none, none, none)) (keyI hx)
  obtain ⟨z, rfl, hz⟩ := codeElem_inv hv
  have hz' := (Prod.mk.inj hz).1
  rw [h2 x hx] at hz'
  rw [hr, ← codeD_inj hz']
theorem wpList_insert_own {H : Type} {P : Program} (w : World) {ops : Array Oper} {rest : List Oper} {o : Oper} {a : Act} {Q : Exit → Act → World → Prop}
    (hg : o.guard = none) (m x v : Operand) (t : TypeId) (hop : o.op = Op.insert t m x v)
    (k e : TypeId) (K : Keyed P k) (ht : P.underlying t = some (.map k e)) (R : Value → Option (DataW H × List MemPlace)) (b n : Nat) (D : DataW H)
    (hm : a.eval m = .map (some b)) (hown : w.ownsMap P k R b n D) (hn : n < maxLen) (key val : Value) (kl : Lit) (hx : a.eval x = key) (hv : a.eval v = val) (hkey : keyOf P k key = some kl)
    (d : DataW H) (ps : List MemPlace) (hval : R val = some (d, ps))
    (hK : ∀ w', w'.ownsMap P k R b (n + 1) (D.put kl d) → w.grownBy w' (some b) → wpList P ops Q rest (a.put o.dst undef) w') :
    wpList P ops Q (o :: rest) a w := by
  refine wpList_plain hg fun K' hK' => ?_
  obtain ⟨w', hrun, r1, r2⟩ := hown.update K ht hn hkey hval
  unfold Oper.wp
  simp [execOp, hop, hm, hx, hv, hrun, Result.andThen]
  exact hK' _ _ (hK w' r1 r2)
/-- The table that codes makes. -/
def tb0 : Int → Code3 := (fun _ => (none, none, none))
def tb1 : Int → Code3 := fun x => if x = 0 then (none, none, some 85) else tb0 x
def tb2 : Int → Code3 := fun x => if x = 1 then (none, none, some 87) else tb1 x
def tb3 : Int → Code3 := fun x => if x = 2 then (none, none, some 88) else tb2 x
def tb4 : Int → Code3 := fun x => if x = 3 then (none, none, some 90) else tb3 x
def tb5 : Int → Code3 := fun x => if x = 4 then (some 91, some 91, some 92) else tb4 x
def tb6 : Int → Code3 := fun x => if x = 5 then (some 91, none, some 93) else tb5 x
def tb7 : Int → Code3 := fun x => if x = 6 then (some 95, none, some 96) else tb6 x
def tb8 : Int → Code3 := fun x => if x = 7 then (some 95, none, some 98) else tb7 x
def tb9 : Int → Code3 := fun x => if x = 8 then (some 99, none, some 100) else tb8 x
def tb10 : Int → Code3 := fun x => if x = 9 then (some 91, some 101, some 102) else tb9 x
def tb11 : Int → Code3 := fun x => if x = 10 then (some 91, some 101, some 104) else tb10 x
def tb12 : Int → Code3 := fun x => if x = 11 then (some 91, some 101, some 107) else tb11 x
theorem tb_all (x : Int) : tb12 x = tabP x := by
  unfold tb12 tb11 tb10 tb9 tb8 tb7 tb6 tb5 tb4 tb3 tb2 tb1 tb0 tabP
  rcases (by omega : x = 0 ∨ x = 1 ∨ x = 2 ∨ x = 3 ∨ x = 4 ∨ x = 5 ∨ x = 6 ∨ x = 7 ∨ x = 8 ∨ x = 9 ∨ x = 10 ∨ x = 11 ∨ x < 0 ∨ 11 < x) with e | e | e | e | e | e | e | e | e | e | e | e | e | e
  iterate 12 (subst e; rfl)
  all_goals
    rw [if_neg (by omega), if_neg (by omega), if_neg (by omega), if_neg (by omega), if_neg (by omega), if_neg (by omega), if_neg (by omega), if_neg (by omega), if_neg (by omega), if_neg (by omega), if_neg (by omega), if_neg (by omega)]
    rw [if_neg (by omega), if_neg (by omega), if_neg (by omega), if_neg (by omega), if_neg (by omega), if_neg (by omega), if_neg (by omega), if_neg (by omega), if_neg (by omega), if_neg (by omega), if_neg (by omega), if_neg (by omega)]
set_option maxRecDepth 100000 in
set_option maxHeartbeats 6400000 in
theorem codes_any (w : World) : Calls Tryd.prog 74 #[] w fun e w' => e = .returned (.map (some w.heap.size)) ∧ CodesP w' w.heap.size 12 tabP ∧ Below w.heap.size w w' := by
  have hmm := @run_makeMap Tryd.prog
  have HC0 : Hid (CodesP (w.alloc (.map #[] 0)) w.heap.size 0 tb0) := Lib.hid (CodesP.new w)
  have HB0 := Lib.hid (bZ w (.map #[] 0))
  obtain ⟨w0, hw0⟩ : ∃ w0, w0 = w.alloc (.map #[] 0) := ⟨_, rfl⟩
  rw [← hw0] at HC0 HB0
  obtain ⟨D0, ho0, hD0⟩ := HC0.out
  obtain ⟨w1, hr0, h1, hg⟩ := ho0.update (t := 137) (e := CodeT) (key := .int .i64 0) (val := .agg #[.nilFunc, .nilFunc, .func (.func 85) #[] #[]]) (d := codeD (none, none, some 85)) (ps := []) lawI Tryd.underlying137 (by decide) (keyI (by unfold i64R; omega)) rfl
  have HC1 : Hid (CodesP w1 w.heap.size 1 tb1) := Lib.hid (CodesP.put (w := w0) ho0.isMap hD0 (by unfold i64R; omega) h1)
  have HB1 := Lib.hid (HB0.out.trans (grown_below hg HB0.out.size (fun j e => by cases e; exact Nat.le_refl _)))
  clear h1 hg hD0 ho0 HC0 HB0
  obtain ⟨D1, ho1, hD1⟩ := HC1.out
  obtain ⟨w2, hr1, h1, hg⟩ := ho1.update (t := 137) (e := CodeT) (key := .int .i64 1) (val := .agg #[.nilFunc, .nilFunc, .func (.func 87) #[] #[]]) (d := codeD (none, none, some 87)) (ps := []) lawI Tryd.underlying137 (by decide) (keyI (by unfold i64R; omega)) rfl
  have HC2 : Hid (CodesP w2 w.heap.size 2 tb2) := Lib.hid (CodesP.put (w := w0) ho1.isMap hD1 (by unfold i64R; omega) h1)
  have HB2 := Lib.hid (HB1.out.trans (grown_below hg HB1.out.size (fun j e => by cases e; exact Nat.le_refl _)))
  clear h1 hg hD1 ho1 HC1 HB1
  obtain ⟨D2, ho2, hD2⟩ := HC2.out
  obtain ⟨w3, hr2, h1, hg⟩ := ho2.update (t := 137) (e := CodeT) (key := .int .i64 2) (val := .agg #[.nilFunc, .nilFunc, .func (.func 88) #[] #[]]) (d := codeD (none, none, some 88)) (ps := []) lawI Tryd.underlying137 (by decide) (keyI (by unfold i64R; omega)) rfl
  have HC3 : Hid (CodesP w3 w.heap.size 3 tb3) := Lib.hid (CodesP.put (w := w0) ho2.isMap hD2 (by unfold i64R; omega) h1)
  have HB3 := Lib.hid (HB2.out.trans (grown_below hg HB2.out.size (fun j e => by cases e; exact Nat.le_refl _)))
  clear h1 hg hD2 ho2 HC2 HB2
  obtain ⟨D3, ho3, hD3⟩ := HC3.out
  obtain ⟨w4, hr3, h1, hg⟩ := ho3.update (t := 137) (e := CodeT) (key := .int .i64 3) (val := .agg #[.nilFunc, .nilFunc, .func (.func 90) #[] #[]]) (d := codeD (none, none, some 90)) (ps := []) lawI Tryd.underlying137 (by decide) (keyI (by unfold i64R; omega)) rfl
  have HC4 : Hid (CodesP w4 w.heap.size 4 tb4) := Lib.hid (CodesP.put (w := w0) ho3.isMap hD3 (by unfold i64R; omega) h1)
  have HB4 := Lib.hid (HB3.out.trans (grown_below hg HB3.out.size (fun j e => by cases e; exact Nat.le_refl _)))
  clear h1 hg hD3 ho3 HC3 HB3
  obtain ⟨D4, ho4, hD4⟩ := HC4.out
  obtain ⟨w5, hr4, h1, hg⟩ := ho4.update (t := 137) (e := CodeT) (key := .int .i64 4) (val := .agg #[.func (.func 91) #[] #[], .func (.func 91) #[] #[], .func (.func 92) #[] #[]]) (d := codeD (some 91, some 91, some 92)) (ps := []) lawI Tryd.underlying137 (by decide) (keyI (by unfold i64R; omega)) rfl
  have HC5 : Hid (CodesP w5 w.heap.size 5 tb5) := Lib.hid (CodesP.put (w := w0) ho4.isMap hD4 (by unfold i64R; omega) h1)
  have HB5 := Lib.hid (HB4.out.trans (grown_below hg HB4.out.size (fun j e => by cases e; exact Nat.le_refl _)))
  clear h1 hg hD4 ho4 HC4 HB4
  obtain ⟨D5, ho5, hD5⟩ := HC5.out
  obtain ⟨w6, hr5, h1, hg⟩ := ho5.update (t := 137) (e := CodeT) (key := .int .i64 5) (val := .agg #[.func (.func 91) #[] #[], .nilFunc, .func (.func 93) #[] #[]]) (d := codeD (some 91, none, some 93)) (ps := []) lawI Tryd.underlying137 (by decide) (keyI (by unfold i64R; omega)) rfl
  have HC6 : Hid (CodesP w6 w.heap.size 6 tb6) := Lib.hid (CodesP.put (w := w0) ho5.isMap hD5 (by unfold i64R; omega) h1)
  have HB6 := Lib.hid (HB5.out.trans (grown_below hg HB5.out.size (fun j e => by cases e; exact Nat.le_refl _)))
  clear h1 hg hD5 ho5 HC5 HB5
  obtain ⟨D6, ho6, hD6⟩ := HC6.out
  obtain ⟨w7, hr6, h1, hg⟩ := ho6.update (t := 137) (e := CodeT) (key := .int .i64 6) (val := .agg #[.func (.func 95) #[] #[], .nilFunc, .func (.func 96) #[] #[]]) (d := codeD (some 95, none, some 96)) (ps := []) lawI Tryd.underlying137 (by decide) (keyI (by unfold i64R; omega)) rfl
  have HC7 : Hid (CodesP w7 w.heap.size 7 tb7) := Lib.hid (CodesP.put (w := w0) ho6.isMap hD6 (by unfold i64R; omega) h1)
  have HB7 := Lib.hid (HB6.out.trans (grown_below hg HB6.out.size (fun j e => by cases e; exact Nat.le_refl _)))
  clear h1 hg hD6 ho6 HC6 HB6
  obtain ⟨D7, ho7, hD7⟩ := HC7.out
  obtain ⟨w8, hr7, h1, hg⟩ := ho7.update (t := 137) (e := CodeT) (key := .int .i64 7) (val := .agg #[.func (.func 95) #[] #[], .nilFunc, .func (.func 98) #[] #[]]) (d := codeD (some 95, none, some 98)) (ps := []) lawI Tryd.underlying137 (by decide) (keyI (by unfold i64R; omega)) rfl
  have HC8 : Hid (CodesP w8 w.heap.size 8 tb8) := Lib.hid (CodesP.put (w := w0) ho7.isMap hD7 (by unfold i64R; omega) h1)
  have HB8 := Lib.hid (HB7.out.trans (grown_below hg HB7.out.size (fun j e => by cases e; exact Nat.le_refl _)))
  clear h1 hg hD7 ho7 HC7 HB7
  obtain ⟨D8, ho8, hD8⟩ := HC8.out
  obtain ⟨w9, hr8, h1, hg⟩ := ho8.update (t := 137) (e := CodeT) (key := .int .i64 8) (val := .agg #[.func (.func 99) #[] #[], .nilFunc, .func (.func 100) #[] #[]]) (d := codeD (some 99, none, some 100)) (ps := []) lawI Tryd.underlying137 (by decide) (keyI (by unfold i64R; omega)) rfl
  have HC9 : Hid (CodesP w9 w.heap.size 9 tb9) := Lib.hid (CodesP.put (w := w0) ho8.isMap hD8 (by unfold i64R; omega) h1)
  have HB9 := Lib.hid (HB8.out.trans (grown_below hg HB8.out.size (fun j e => by cases e; exact Nat.le_refl _)))
  clear h1 hg hD8 ho8 HC8 HB8
  obtain ⟨D9, ho9, hD9⟩ := HC9.out
  obtain ⟨w10, hr9, h1, hg⟩ := ho9.update (t := 137) (e := CodeT) (key := .int .i64 9) (val := .agg #[.func (.func 91) #[] #[], .func (.func 101) #[] #[], .func (.func 102) #[] #[]]) (d := codeD (some 91, some 101, some 102)) (ps := []) lawI Tryd.underlying137 (by decide) (keyI (by unfold i64R; omega)) rfl
  have HC10 : Hid (CodesP w10 w.heap.size 10 tb10) := Lib.hid (CodesP.put (w := w0) ho9.isMap hD9 (by unfold i64R; omega) h1)
  have HB10 := Lib.hid (HB9.out.trans (grown_below hg HB9.out.size (fun j e => by cases e; exact Nat.le_refl _)))
  clear h1 hg hD9 ho9 HC9 HB9
  obtain ⟨D10, ho10, hD10⟩ := HC10.out
  obtain ⟨w11, hr10, h1, hg⟩ := ho10.update (t := 137) (e := CodeT) (key := .int .i64 10) (val := .agg #[.func (.func 91) #[] #[], .func (.func 101) #[] #[], .func (.func 104) #[] #[]]) (d := codeD (some 91, some 101, some 104)) (ps := []) lawI Tryd.underlying137 (by decide) (keyI (by unfold i64R; omega)) rfl
  have HC11 : Hid (CodesP w11 w.heap.size 11 tb11) := Lib.hid (CodesP.put (w := w0) ho10.isMap hD10 (by unfold i64R; omega) h1)
  have HB11 := Lib.hid (HB10.out.trans (grown_below hg HB10.out.size (fun j e => by cases e; exact Nat.le_refl _)))
  clear h1 hg hD10 ho10 HC10 HB10
  obtain ⟨D11, ho11, hD11⟩ := HC11.out
  obtain ⟨w12, hr11, h1, hg⟩ := ho11.update (t := 137) (e := CodeT) (key := .int .i64 11) (val := .agg #[.func (.func 91) #[] #[], .func (.func 101) #[] #[], .func (.func 107) #[] #[]]) (d := codeD (some 91, some 101, some 107)) (ps := []) lawI Tryd.underlying137 (by decide) (keyI (by unfold i64R; omega)) rfl
  have HC12 : Hid (CodesP w12 w.heap.size 12 tb12) := Lib.hid (CodesP.put (w := w0) ho11.isMap hD11 (by unfold i64R; omega) h1)
  have HB12 := Lib.hid (HB11.out.trans (grown_below hg HB11.out.size (fun j e => by cases e; exact Nat.le_refl _)))
  clear h1 hg hD11 ho11 HC11 HB11
  subst hw0
  go_enter Tryd.func74, Tryd.ntmps74
  go_wp2_with fail
  go_returns
  refine ⟨rfl, ?_, HB12.out⟩
  obtain ⟨D, h1, h2⟩ := HC12.out
  exact ⟨D, h1, fun x hx => by rw [h2 x hx, tb_all]⟩
end Go.Proofs.YtjpkeoenajlmeaaDoor
