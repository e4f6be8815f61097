/-
  The document's own Same: are two trees the same?
  The table of the kinds of letters; in which kind a datum stands ahead.
  Read in memory: both promises of a wish; who signed.
-/
import Derived.Laws.Rows
import Derived.Test.YtjmcaceegfdkkaaGreatDoorQcLProm
import Derived.Test.YtjmcaceegfdkkaaGreatDoorQcTRefP
namespace Go.Proofs.YtjmcaceegfdkkaaGreatDoor
open Go.RowKit Go.Maps
set_option linter.unusedVariables false
theorem sne_of {x y : ByteArray} : (x.toList == y.toList) = decide (x = y) := by
 by_cases h : x = y
 ·subst h; simp
 ·rw [decide_eq_false h]; exact ne_bytes h
section
variable {G G' : Nat → Prop}
end
end Go.Proofs.YtjmcaceegfdkkaaGreatDoor
namespace Go.Proofs.YtjmcaceegfdkkaaGreatDoor
open Go.RowKit Go.Maps
set_option linter.unusedVariables false
abbrev KdT : TypeId := 159
abbrev KdsT : TypeId := 160
def promiseS : ByteArray := ⟨#[112, 114, 111, 109, 105, 115, 101]⟩
def signS : ByteArray := ⟨#[115, 105, 103, 110]⟩
def tokenS : ByteArray := ⟨#[116, 111, 107, 101, 110]⟩
def kdW (k : Nat) : ByteArray := [emptyS, promiseS, signS, abortS, resolveS, tokenS, insteadS, fullS].getD k emptyS
def kdD (k : Nat) : ByteArray := [emptyS, emptyS, dealS, abortS, resolveS, abortedS, insteadS, fullS].getD k emptyS
def kdBy (k : Nat) : Int := [0, -4, -3, 0, -3, 2, 2, -4].getD k 0
def kdTo (k : Nat) : Int := [0, -2, -2, 2, 2, -1, -1, -1].getD k 0
def kindA (k : Nat) : List Value := [.string (kdW k), .string (kdD k), .int .i64 (kdBy k), .int .i64 (kdTo k), .bool (fromB (k : Int)), .bool (textB (k : Int)), .bool (fakeB (k : Int))]
def kindsL : List Value := (List.range 8).flatMap kindA
def LaidK (w : World) : Prop := ∀ j v, kindsL[j]? = some v → w.cell? ⟨0, j, none⟩ = some v
theorem LaidK.below {w w' : World} (h : LaidK w) (hb : Below w.heap.size w w') : LaidK w' := fun j v hj => bcellAt hb (h j v hj)
theorem kindsL_at {k : Nat} (hk : k < 8) : kindsL[k * 7]? = some (.string (kdW k)) ∧ kindsL[k * 7 + 1]? = some (.string (kdD k)) ∧ kindsL[k * 7 + 2]? = some (.int .i64 (kdBy k)) ∧ kindsL[k * 7 + 3]? = some (.int .i64 (kdTo k)) ∧ kindsL[k * 7 + 4]? = some (.bool (fromB (k : Int))) ∧ kindsL[k * 7 + 5]? = some (.bool (textB (k : Int))) ∧ kindsL[k * 7 + 6]? = some (.bool (fakeB (k : Int))) := by
 have h : k = 0 ∨ k = 1 ∨ k = 2 ∨ k = 3 ∨ k = 4 ∨ k = 5 ∨ k = 6 ∨ k = 7 := by omega
 rcases h with rfl | rfl | rfl | rfl | rfl | rfl | rfl | rfl <;> exact ⟨rfl, rfl, rfl, rfl, rfl, rfl, rfl⟩
theorem LaidK.at {w : World} (h : LaidK w) {k : Nat} (hk : k < 8) : w.cell? ⟨0, k * 7, none⟩ = some (.string (kdW k)) ∧ w.cell? ⟨0, k * 7 + 1, none⟩ = some (.string (kdD k)) ∧ w.cell? ⟨0, k * 7 + 2, none⟩ = some (.int .i64 (kdBy k)) ∧ w.cell? ⟨0, k * 7 + 3, none⟩ = some (.int .i64 (kdTo k)) ∧ w.cell? ⟨0, k * 7 + 4, none⟩ = some (.bool (fromB (k : Int))) ∧ w.cell? ⟨0, k * 7 + 5, none⟩ = some (.bool (textB (k : Int))) ∧ w.cell? ⟨0, k * 7 + 6, none⟩ = some (.bool (fakeB (k : Int))) := by
 obtain ⟨a0, a1, a2, a3, a4, a5, a6⟩ := kindsL_at hk
 exact ⟨h _ _ a0, h _ _ a1, h _ _ a2, h _ _ a3, h _ _ a4, h _ _ a5, h _ _ a6⟩
theorem run_loadVar_cells {P : Program} (w : World) (g : Nat) (ty : TypeId) (cs : Array Value) (d : TypeDesc) (h : ∀ j v, cs.toList[j]? = some v → w.cell? ⟨g, j, none⟩ = some v)
  (hu : P.underlying ty = some d) (hd : (match d with | .struct _ | .array _ _ => true | _ => false) = true) (hi : (P.info? ty).map (·.size) = some cs.size) :
  (loadVar ty ⟨g, 0, none⟩).run P w = .ok (.agg cs) w := by
 have hl : (loadCells ⟨g, 0, none⟩ cs.toList.length).run P w = .ok cs.toList.toArray w :=
  run_loadCells_list (P := P) w ⟨g, 0, none⟩ cs.toList (fun j v hv => by
   have hadd : (⟨g, 0, none⟩ : Addr).add j = ⟨g, j, none⟩ := by unfold Addr.add; split <;> simp_all
   rw [hadd]
   exact h j v hv)
 cases hq : P.info? ty with
 | none => simp [hq] at hi
 | some i =>
  have hs : i.size = cs.size := by simpa [hq] using hi
  have hagg : (isAgg ty).run P w = .ok true w := by
   unfold isAgg
   rw [Sem.run_bind, run_underlying hu w]
   cases d <;> simp_all
  simp only [Array.length_toList, Array.toArray_toList] at hl
  simp [loadVar, Sem.run_bind, hagg, sizeOf, typeInfo, hq, hs, hl]
theorem wpList_load_cells {P : Program} {ops : Array Oper} {rest : List Oper} {o : Oper} {a : Act} {w : World} {Q : Exit → Act → World → Prop} (hgd : o.guard = none) (ty : TypeId) (x : Operand) (ho : o.op = .load ty x)
  (g : Nat) (hx : a.eval x = .pointer (some ⟨g, 0, none⟩)) (cs : Array Value) (d : TypeDesc) (hc : ∀ j v, cs.toList[j]? = some v → w.cell? ⟨g, j, none⟩ = some v)
  (hu : P.underlying ty = some d) (hd : (match d with | .struct _ | .array _ _ => true | _ => false) = true) (hi : (P.info? ty).map (·.size) = some cs.size)
  (h : wpList P ops Q rest (a.put o.dst (.agg cs)) w) : wpList P ops Q (o :: rest) a w :=
 wpList_plain hgd fun _ hK => by
  unfold Oper.wp execOp
  simp only [ho, hx, Instr.loadAt, Instr.sureAddr, Sem.run_bind, Sem.run_pure, Result.andThen_ok, run_loadVar_cells w g ty cs d hc hu hd hi]
  exact hK _ _ h
theorem underKds : Tryz.prog.underlying KdsT = some (.array 8 KdT) := by kernel_rfl
theorem infoKds : (Tryz.prog.info? KdsT).map (·.size) = some 56 := by kernel_rfl
theorem index_kinds {j : Nat} (hj : j < 8) (W : World) : (Instr.index KdsT (.agg kindsL.toArray) (.int .i64 (j : Int))).run Tryz.prog W = .ok (.agg #[.string (kdW j), .string (kdD j), .int .i64 (kdBy j), .int .i64 (kdTo j), .bool (fromB (j : Int)), .bool (textB (j : Int)), .bool (fakeB (j : Int))]) W := by
 have h : j = 0 ∨ j = 1 ∨ j = 2 ∨ j = 3 ∨ j = 4 ∨ j = 5 ∨ j = 6 ∨ j = 7 := by omega
 rcases h with rfl | rfl | rfl | rfl | rfl | rfl | rfl | rfl
 ·show _ = _; kernel_rfl
 ·show _ = _; kernel_rfl
 ·show _ = _; kernel_rfl
 ·show _ = _; kernel_rfl
 ·show _ = _; kernel_rfl
 ·show _ = _; kernel_rfl
 ·show _ = _; kernel_rfl
 ·show _ = _; kernel_rfl
def kfP (d : ByteArray) : Int := if d = dealS then 2 else if d = abortS then 3 else if d = resolveS then 4 else if d = abortedS then 5 else if d = insteadS then 6 else if d = fullS then 7 else 0
theorem kf_at {d : ByteArray} {i : Nat} (hi : i < 8) (he : kdD i = d) (hn : ∀ j, j < i → kdD j ≠ d) : kfP d = (i : Int) := by
 have h : i = 0 ∨ i = 1 ∨ i = 2 ∨ i = 3 ∨ i = 4 ∨ i = 5 ∨ i = 6 ∨ i = 7 := by omega
 subst he
 rcases h with rfl | rfl | rfl | rfl | rfl | rfl | rfl | rfl
 ·decide
 ·exact absurd rfl (hn 0 (by omega))
 ·decide
 ·decide
 ·decide
 ·decide
 ·decide
 ·decide
theorem kf_no {d : ByteArray} (hn : ∀ j, j < 8 → kdD j ≠ d) : kfP d = 0 := by
 unfold kfP
 rw [if_neg (fun h => hn 2 (by omega) h.symm), if_neg (fun h => hn 3 (by omega) h.symm), if_neg (fun h => hn 4 (by omega) h.symm), if_neg (fun h => hn 5 (by omega) h.symm), if_neg (fun h => hn 6 (by omega) h.symm), if_neg (fun h => hn 7 (by omega) h.symm)]
set_option maxRecDepth 100000 in
set_option maxHeartbeats 1600000 in
theorem kindOf_any {w : World} (hl : LaidK w) (d : ByteArray) : Calls Tryz.prog 95 #[.string d] w fun e w' => e = .returned (.int .i64 (kfP d)) ∧ Below w.heap.size w w' := by
 have HLK := Lib.hid hl
 clear hl
 obtain ⟨rr, hrr⟩ : ∃ rr, rr = kfP d := ⟨_, rfl⟩
 rw [← hrr]
 have HR := Lib.hid hrr
 clear hrr
 go_enter Tryz.func95, Tryz.ntmps95
 go_wp2_with ((refine wpList_load_cells rfl _ _ rfl 0 rfl kindsL.toArray _ HLK.out underKds rfl infoKds ?_))
 go_loopw [6] (fun v6 wr => ∃ i : Nat, v6 = .int .i64 (i : Int) ∧ i ≤ 8 ∧ (∀ j, j < i → kdD j ≠ d) ∧ Below w.heap.size w wr) (fun v _ => 8 - (intOf v).toNat)
 case atStart => exact ⟨0, rfl, by omega, fun j h => absurd h (Nat.not_lt_zero _), Below.refl _ _⟩
 case round =>
  obtain ⟨i, rfl, hi, hn, hb⟩ := hrel
  have HB := Lib.hid hb
  have HN := Lib.hid hn
  clear hb hn
  by_cases hlt : i < 8
  ·have hi0 : (0 : Int) ≤ (i : Int) := by omega
   have hi1 : (i : Int) < 8 := by omega
   have hix := index_kinds hlt
   have hN := heap_alloc_new wr (.cells #[.string (kdW i), .string (kdD i), .int .i64 (kdBy i), .int .i64 (kdTo i), .bool (fromB (i : Int)), .bool (textB (i : Int)), .bool (fakeB (i : Int))] KdT)
   have c1 := cellB (j := 1) hN rfl
   have HB2 := Lib.hid (bmore HB.out (bZ wr (.cells #[.string (kdW i), .string (kdD i), .int .i64 (kdBy i), .int .i64 (kdTo i), .bool (fromB (i : Int)), .bool (textB (i : Int)), .bool (fakeB (i : Int))] KdT)))
   have HE := Lib.hid (fun h : kdD i = d => kf_at hlt h HN.out)
   have HM := Lib.hid (fun h : kdD i ≠ d => (fun j (hj : j < i + 1) => by
    rcases Nat.lt_succ_iff_lt_or_eq.1 hj with h1 | h1
    ·exact HN.out j h1
    ·subst h1; exact h : ∀ j, j < i + 1 → kdD j ≠ d))
   have hsq : ((kdD i).toList == d.toList) = decide (kdD i = d) := sne_of
   clear hN
   generalize kdD i = di at *
   generalize kdW i = wi at *
   generalize kdBy i = bi at *
   generalize kdTo i = ti at *
   generalize fromB (i : Int) = xi at *
   generalize textB (i : Int) = yi at *
   generalize fakeB (i : Int) = zi at *
   by_cases hd : di = d
   ·have hsq2 : (di.toList == d.toList) = true := by rw [hsq]; exact decide_eq_true hd
    have HE2 := Lib.hid (HE.out hd)
    clear hsq hd
    go_wp2_with fail
    go_returns
    exact ⟨by rw [HR.out, HE2.out]; rfl, HB2.out⟩
   ·have hsq2 : (di.toList == d.toList) = false := by rw [hsq]; exact decide_eq_false hd
    have HM2 := Lib.hid (HM.out hd)
    clear hsq hd
    go_wp2_with fail
    go_roundw
    case rel => exact ⟨i + 1, by go_num, by omega, HM2.out, HB2.out⟩
    case measure => simp [intOf]; omega
  ·obtain rfl : i = 8 := by omega
   go_wp2_with fail
   go_returns
   exact ⟨by rw [HR.out, kf_no HN.out]; rfl, HB.out⟩
end Go.Proofs.YtjmcaceegfdkkaaGreatDoor
namespace Go.Proofs.YtjmcaceegfdkkaaGreatDoor
open Go.RowKit Go.Maps
set_option linter.unusedVariables false
def boV (o : Option (Int × ByteArray × Bool)) : Value := match o with | some (c, s, f) => .tuple #[.int .u64 c, .string s, .bool f, .bool true] | none => .tuple #[.int .u64 0, .string emptyS, .bool false, .bool false]
section
variable {w : World} {pv : Value} {p : Pl}
set_option maxRecDepth 100000 in
set_option maxHeartbeats 3200000 in
theorem signer_any (n : Nd) (t : Int) (w : World) : Calls Tryz.prog 93 #[.agg (nodeA n), .int .i64 t] w fun e w' => e = .returned (.tuple #[.int .i64 (if n.kind = 7 then n.frm else -4), .int .i64 (if n.kind = 7 then n.a else t)]) ∧ Below w.heap.size w w' := by
 obtain ⟨k1, f1, t1, n1, s1, x1, y1⟩ := n
 simp only [nodeA]
 have h2 := heap_alloc_new w (.cells #[.int .i64 k1, .int .i64 f1, .int .i64 t1, .int .u64 n1, .string s1, .int .i64 x1, .int .i64 y1] NodeT)
 have HB := Lib.hid (bZ w (.cells #[.int .i64 k1, .int .i64 f1, .int .i64 t1, .int .u64 n1, .string s1, .int .i64 x1, .int .i64 y1] NodeT))
 have c0 := cellB (j := 0) h2 rfl
 have c1 := cellB (j := 1) h2 rfl
 have c5 := cellB (j := 5) h2 rfl
 clear h2
 by_cases h : k1 = 7
 ·have hb : (k1 == 7) = true := by simpa using h
  rw [if_pos h, if_pos h]
  clear h
  go_enter Tryz.func93, Tryz.ntmps93
  go_wp2_with fail
  generalize (w.alloc (.cells #[.int .i64 k1, .int .i64 f1, .int .i64 t1, .int .u64 n1, .string s1, .int .i64 x1, .int .i64 y1] NodeT)) = w1 at *
  go_quiet (fail)
  go_wp2_with fail
  go_returns
  exact ⟨rfl, bmore HB.out (bdn _ _)⟩
 ·have hb : (k1 == 7) = false := by simpa using h
  rw [if_neg h, if_neg h]
  clear h
  go_enter Tryz.func93, Tryz.ntmps93
  go_wp2_with fail
  go_returns
  exact ⟨rfl, HB.out⟩
set_option maxRecDepth 100000 in
set_option maxHeartbeats 6400000 in
theorem rboth_any (h : Nodes w pv p) (t : Int) : Calls Tryz.prog 98 #[pv, .int .i64 t] w fun e w' => e = .returned (boV (boP p t)) ∧ Below w.heap.size w w' := by
 have F1 := Lib.hid (h w (Below.refl _ _) t)
 have R1 := Lib.hid (fun (W : World) (hb : Below w.heap.size w W) => rprom_any (h.below hb) (atP p t).1.a)
 have R2 := Lib.hid (fun (W : World) (hb : Below w.heap.size w W) => rprom_any (h.below hb) (atP p t).1.b)
 clear h
 obtain ⟨rr, hrr⟩ : ∃ rr, rr = boV (boP p t) := ⟨_, rfl⟩
 rw [← hrr]
 unfold boP at hrr
 generalize (atP p t).1 = n at *
 obtain ⟨k1, f1, t1, n1, s1, x1, y1⟩ := n
 dsimp only at *
 generalize prP p x1 = ox at *
 generalize prP p y1 = oy at *
 have HR := Lib.hid hrr
 clear hrr
 obtain ⟨xk, xf, xc, xs, xx, hox⟩ : ∃ xk xf xc xs xx, ltV ox = .tuple #[.agg #[.int .i64 xk, .int .i64 xf, .int .u64 xc, .string xs, .bool xx], .bool ox.isSome] ∧ (∀ l, ox = some l → l = ⟨xk, xf, xc, xs, xx⟩) := by
  cases ox with
  | none => exact ⟨_, _, _, _, _, rfl, fun l h => by cases h⟩
  | some l => exact ⟨l.kind, l.frm, l.c, l.text, l.fake, rfl, fun l' h => by cases h; rfl⟩
 obtain ⟨yk, yf, yc, ys, yx, hoy⟩ : ∃ yk yf yc ys yx, ltV oy = .tuple #[.agg #[.int .i64 yk, .int .i64 yf, .int .u64 yc, .string ys, .bool yx], .bool oy.isSome] ∧ (∀ l, oy = some l → l = ⟨yk, yf, yc, ys, yx⟩) := by
  cases oy with
  | none => exact ⟨_, _, _, _, _, rfl, fun l h => by cases h⟩
  | some l => exact ⟨l.kind, l.frm, l.c, l.text, l.fake, rfl, fun l' h => by cases h; rfl⟩
 have HX := Lib.hid hox.2
 have HY := Lib.hid hoy.2
 rw [hox.1] at R1
 rw [hoy.1] at R2
 clear hox hoy
 have HXY : Hid ((ox.isSome = false ∨ oy.isSome = false ∨ xf ≠ 0 ∨ yf ≠ 1 ∨ xc ≠ yc ∨ xs ≠ ys → rr = boV none) ∧ (ox.isSome = true ∧ oy.isSome = true ∧ xf = 0 ∧ yf = 1 ∧ xc = yc ∧ xs = ys → rr = boV (some (xc, xs, xx || yx)))) := Lib.hid (by
  rw [HR.out]
  cases ox with
  | none => exact ⟨fun _ => rfl, fun h => by cases h.1⟩
  | some l =>
   cases oy with
   | none => exact ⟨fun _ => rfl, fun h => by cases h.2.1⟩
   | some m =>
    obtain rfl := HX.out l rfl
    obtain rfl := HY.out m rfl
    simp only
    constructor
    ·intro h
     rw [if_neg]
     rintro ⟨h1, h2, h3, h4⟩
     rcases h with h | h | h | h | h | h
     ·cases h
     ·cases h
     ·exact h h1
     ·exact h h2
     ·exact h h3
     ·exact h h4
    ·rintro ⟨_, _, h1, h2, h3, h4⟩
     rw [if_pos ⟨h1, h2, h3, h4⟩])
 clear HX HY HR
 generalize ox.isSome = bx at *
 generalize oy.isSome = by' at *
 simp only [nodeA] at *
 go_enter Tryz.func98, Tryz.ntmps98
 go_wp2_with fail
 refine F1.out.mono ?_
 rintro e w1 ⟨b1, rfl, u1⟩
 have b2 := bmore u1 (bZ w1 (.cells #[.int .i64 k1, .int .i64 f1, .int .i64 t1, .int .u64 n1, .string s1, .int .i64 x1, .int .i64 y1] NodeT))
 have h2 := heap_alloc_new w1 (.cells #[.int .i64 k1, .int .i64 f1, .int .i64 t1, .int .u64 n1, .string s1, .int .i64 x1, .int .i64 y1] NodeT)
 have HB2 := Lib.hid b2
 have HH2 := Lib.hid h2
 have c5 := cellB (j := 5) h2 rfl
 clear u1 b2 h2 F1
 go_wp2_with fail
 generalize (w1.alloc (.cells #[.int .i64 k1, .int .i64 f1, .int .i64 t1, .int .u64 n1, .string s1, .int .i64 x1, .int .i64 y1] NodeT)) = w2 at *
 generalize w1.heap.size = nb at *
 refine (R1.out _ HB2.out).mono ?_
 rintro e w3 ⟨rfl, u3⟩
 have b4 := bmore HB2.out (bmore u3 (bZ w3 (.cells #[.int .i64 xk, .int .i64 xf, .int .u64 xc, .string xs, .bool xx] LtT)))
 have h4 := heap_alloc_new w3 (.cells #[.int .i64 xk, .int .i64 xf, .int .u64 xc, .string xs, .bool xx] LtT)
 have HB4 := Lib.hid b4
 have HH4 := Lib.hid h4
 have HN4 := Lib.hid (Hold.below (bmore u3 (bZ w3 (.cells #[.int .i64 xk, .int .i64 xf, .int .u64 xc, .string xs, .bool xx] LtT))) _ _ HH2.out)
 have d6 := cellB (j := 6) HN4.out rfl
 clear u3 b4 h4 c5 HH2 R1
 go_wp2_with fail
 generalize (w3.alloc (.cells #[.int .i64 xk, .int .i64 xf, .int .u64 xc, .string xs, .bool xx] LtT)) = w4 at *
 generalize w3.heap.size = xb at *
 refine (R2.out _ HB4.out).mono ?_
 rintro e w5 ⟨rfl, u5⟩
 have b6 := bmore u5 (bZ w5 (.cells #[.int .i64 yk, .int .i64 yf, .int .u64 yc, .string ys, .bool yx] LtT))
 have h6 := heap_alloc_new w5 (.cells #[.int .i64 yk, .int .i64 yf, .int .u64 yc, .string ys, .bool yx] LtT)
 have HB6 := Lib.hid (bmore HB4.out b6)
 have hx6 := Hold.below b6 _ _ HH4.out
 have x1 := cellB (j := 1) hx6 rfl
 have x2 := cellB (j := 2) hx6 rfl
 have x3 := cellB (j := 3) hx6 rfl
 have x4 := cellB (j := 4) hx6 rfl
 have y1' := cellB (j := 1) h6 rfl
 have y2 := cellB (j := 2) h6 rfl
 have y3 := cellB (j := 3) h6 rfl
 have y4 := cellB (j := 4) h6 rfl
 clear u5 b6 h6 hx6 d6 HH4 HN4 R2
 cases bx with
 | false =>
  go_wp2_with fail
  refine bodyPost_ret (v := .tuple #[.int .u64 0, .string ⟨#[]⟩, .bool false, .bool false]) (by simp [results, Tryz.results98, go_sem]) rfl ⟨by rw [HXY.out.1 (by simp)]; rfl, HB6.out⟩
 | true =>
 cases by' with
 | false =>
  go_wp2_with fail
  refine bodyPost_ret (v := .tuple #[.int .u64 0, .string ⟨#[]⟩, .bool false, .bool false]) (by simp [results, Tryz.results98, go_sem]) rfl ⟨by rw [HXY.out.1 (by simp)]; rfl, HB6.out⟩
 | true =>
 by_cases h1 : xf = 0
 case neg =>
  have h1b : (xf != 0) = true := by simpa using h1
  go_wp2_with fail
  refine bodyPost_ret (v := .tuple #[.int .u64 0, .string ⟨#[]⟩, .bool false, .bool false]) (by simp [results, Tryz.results98, go_sem]) rfl ⟨by rw [HXY.out.1 (.inr (.inr (.inl h1)))]; rfl, HB6.out⟩
 have h1b : (xf != 0) = false := by simpa using h1
 have H1 := Lib.hid h1
 clear h1
 by_cases h2 : yf = 1
 case neg =>
  have h2b : (yf != 1) = true := by simpa using h2
  go_wp2_with fail
  refine bodyPost_ret (v := .tuple #[.int .u64 0, .string ⟨#[]⟩, .bool false, .bool false]) (by simp [results, Tryz.results98, go_sem]) rfl ⟨by rw [HXY.out.1 (.inr (.inr (.inr (.inl h2))))]; rfl, HB6.out⟩
 have h2b : (yf != 1) = false := by simpa using h2
 have H2 := Lib.hid h2
 clear h2
 by_cases h3 : xc = yc
 case neg =>
  have h3b : (xc != yc) = true := by simpa using h3
  have H3 := Lib.hid h3
  clear h3
  go_wp2_with fail
  refine bodyPost_ret (v := .tuple #[.int .u64 0, .string ⟨#[]⟩, .bool false, .bool false]) (by simp [results, Tryz.results98, go_sem]) rfl ⟨by rw [HXY.out.1 (.inr (.inr (.inr (.inr (.inl H3.out)))))]; rfl, HB6.out⟩
 have h3b : (xc != yc) = false := by simpa using h3
 have H3 := Lib.hid h3
 clear h3
 have hsq : (xs.toList == ys.toList) = decide (xs = ys) := sne_of
 by_cases h4 : xs = ys
 case neg =>
  have h4b : (xs.toList == ys.toList) = false := by rw [hsq]; exact decide_eq_false h4
  have H4 := Lib.hid h4
  clear h4 hsq
  go_wp2_with fail
  refine bodyPost_ret (v := .tuple #[.int .u64 0, .string ⟨#[]⟩, .bool false, .bool false]) (by simp [results, Tryz.results98, go_sem]) rfl ⟨by rw [HXY.out.1 (.inr (.inr (.inr (.inr (.inr H4.out)))))]; rfl, HB6.out⟩
 have h4b : (xs.toList == ys.toList) = true := by rw [hsq]; exact decide_eq_true h4
 have H4 := Lib.hid h4
 clear h4 hsq
 have HRR := Lib.hid (HXY.out.2 ⟨rfl, rfl, H1.out, H2.out, H3.out, H4.out⟩)
 clear HXY H1 H2 H3 H4
 cases xx with
 | true =>
  go_wp2_with fail
  go_quiet (fail)
  go_wp2_with fail
  refine bodyPost_ret (v := .tuple #[.int .u64 xc, .string xs, .bool true, .bool true]) (by simp [results, Tryz.results98, go_sem]) rfl ⟨by rw [HRR.out]; rfl, bmore HB6.out (bdn _ _)⟩
 | false =>
  go_wp2_with fail
  go_quiet (fail)
  go_wp2_with fail
  refine bodyPost_ret (v := .tuple #[.int .u64 xc, .string xs, .bool yx, .bool true]) (by simp [results, Tryz.results98, go_sem]) rfl ⟨by rw [HRR.out]; rfl, bmore HB6.out (bdn _ _)⟩
end
end Go.Proofs.YtjmcaceegfdkkaaGreatDoor
