/-
  slices.Contains, slices.ContainsFunc at facts; Binds.
  slices.Compact at facts: plain steps, a fact stored into a row.
-/
import Derived.Shelf.SlicesQ.Contains
import Derived.Shelf.SlicesQ.IndexFunc
import Derived.Laws.StructEq
import Derived.Ground.SlgqProg
import Derived.Ground.SlgfProg
import Derived.Test.YtjmcaceegfdkkaaGreatDoorQcFBon
namespace Go.Proofs
open Go.RowKit Go.Shelf Go.Lib
def Tryz.containsF_ren : Go.Shelf.Ren := ⟨fun | 7 => 71 | 6 => 123 | n => n, fun | 22 => 33 | 24 => 45 | 4 => 4 | 0 => 0 | 3 => 3 | n => n, fun | n => n⟩
theorem Tryz.containsF : Go.Proofs.SlLaysQ.n7 Tryz.prog Tryz.containsF_ren := {
 mixed := by kernel_rfl
 f6 := ⟨Tryz.f123.name, by decide, Tryz.func123.trans (congrArg some (by kernel_rfl))⟩
 f7 := ⟨Tryz.f71.name, by decide, Tryz.func71.trans (congrArg some (by kernel_rfl))⟩
 t0 := Tryz.underlying0
 a0 := Tryz.isAgg0
 z0 := Tryz.sizeOf0
 v0 := Tryz.zeroValue0
 t3 := Tryz.underlying3
 a3 := Tryz.isAgg3
 z3 := Tryz.sizeOf3
 v3 := Tryz.zeroValue3
 t4 := Tryz.underlying4
 a4 := Tryz.isAgg4
 z4 := Tryz.sizeOf4
 v4 := Tryz.zeroValue4
 t22 := Tryz.underlying33
 a22 := Tryz.isAgg33
 z22 := Tryz.sizeOf33
 v22 := Tryz.zeroValue33 }
def Tryz.containsFF_ren : Go.Shelf.Ren := ⟨fun | 8 => 70 | 6 => 122 | n => n, fun | 22 => 33 | 23 => 45 | 25 => 122 | 4 => 4 | 3 => 3 | 0 => 0 | n => n, fun | n => n⟩
theorem Tryz.containsFF : Go.Proofs.SlLaysH0.n8 Tryz.prog Tryz.containsFF_ren := {
 mixed := by kernel_rfl
 f6 := ⟨Tryz.f122.name, by decide, Tryz.func122.trans (congrArg some (by kernel_rfl))⟩
 f8 := ⟨Tryz.f70.name, by decide, Tryz.func70.trans (congrArg some (by kernel_rfl))⟩
 t0 := Tryz.underlying0
 a0 := Tryz.isAgg0
 z0 := Tryz.sizeOf0
 v0 := Tryz.zeroValue0
 t3 := Tryz.underlying3
 a3 := Tryz.isAgg3
 z3 := Tryz.sizeOf3
 v3 := Tryz.zeroValue3
 t4 := Tryz.underlying4
 a4 := Tryz.isAgg4
 z4 := Tryz.sizeOf4
 v4 := Tryz.zeroValue4
 t22 := Tryz.underlying33
 a22 := Tryz.isAgg33
 z22 := Tryz.sizeOf33
 v22 := Tryz.zeroValue33
 t25 := Tryz.underlying122
 a25 := Tryz.isAgg122
 z25 := Tryz.sizeOf122
 v25 := Tryz.zeroValue122 }
namespace YtjmcaceegfdkkaaGreatDoor
open Go.RowKit Go.Maps
set_option linter.unusedVariables false
instance : Inhabited Fc := ⟨⟨0, 0, 0, ⟨#[]⟩⟩⟩
theorem fcC_length (x : Fc) : (fcC x).length = 4 := rfl
def eqF (x y : Fc) : Bool := x.kind == y.kind && (x.who == y.who && (x.c == y.c && x.text.toList == y.text.toList))
theorem eqF_iff (x y : Fc) : eqF x y = true ↔ x = y := by
 unfold eqF
 constructor
 ·intro h
  simp only [Bool.and_eq_true, beq_iff_eq] at h
  exact Fc.eq_of h.1 h.2.1 h.2.2.1 (toList_inj h.2.2.2)
 ·rintro rfl
  simp
theorem eq_fc : EqlAt Tryz.prog FacT (fun x => .agg (fcC x).toArray) eqF := by
 refine ⟨fun x y w => ?_, GuardAt.agg _ (by kernel_rfl)⟩
 have u3 := Tryz.underlying3
 have u4 := Tryz.underlying24
 have u5 := Tryz.underlying9
 have a3 := Tryz.isAgg3
 have z3 := Tryz.sizeOf3
 have a4 := Tryz.isAgg24
 have z4 := Tryz.sizeOf24
 have a5 := Tryz.isAgg9
 have z5 := Tryz.sizeOf9
 have hS : Tryz.prog.underlying FacT = some (.struct (Tryz.prog.fieldsOf FacT)) := by kernel_rfl
 have hp : Tryz.prog.stoodInHeld FacT = false := by kernel_rfl
 obtain ⟨k, ww, c, s⟩ := x
 obtain ⟨k', w', c', s'⟩ := y
 simp only [fcC, eqF]
 rw [run_eql_struct, show (10000 : Nat) = 9999 + 1 from rfl, run_equalIn_agg w 9999 FacT _ _ hS hp]
 simp only [Program.fieldsOf, Tryz.underlying45]
 go_simp
 by_cases h1 : k = k' <;> by_cases h2 : ww = w' <;> by_cases h3 : c = c' <;> by_cases h4 : s.toList = s'.toList <;> simp [h1, h2, h3, h4]
theorem fcs_get (l : List Fc) : ∀ (j i : Nat) (h : j < l.length), i < 4 → (fcs l)[j * 4 + i]? = (fcC (l[j]))[i]? := by
 intro j i h hi
 obtain ⟨g0, g1, g2, g3⟩ := fcs_at l j h
 match i, hi with
 | 0, _ => exact g0
 | 1, _ => exact g1
 | 2, _ => exact g2
 | 3, _ => exact g3
theorem fcs_cells {w : World} {b off : Nat} {l : List Fc} (h : ∀ j u, (fcs l)[j]? = some u → w.cell? ⟨b, off + j, none⟩ = some u) : ∀ j, j < l.length → ∀ i v, (fcC l[j]!)[i]? = some v → w.cell? ⟨b, off + j * 4 + i, none⟩ = some v := by
 intro j hj i v hv
 have hi : i < 4 := by have := (List.getElem?_eq_some_iff.1 hv).1; rwa [fcC_length] at this
 rw [Nat.add_assoc]
 refine h _ _ ?_
 rw [fcs_get l j i hj hi, ← hv, getElem!_pos l j hj]
theorem any_eqF (l : List Fc) (x : Fc) : (l.any fun y => eqF x y) = decide (x ∈ l) := by
 rw [Bool.eq_iff_iff]
 simp only [List.any_eq_true, eqF_iff, decide_eq_true_eq]
 exact ⟨fun ⟨y, h1, h2⟩ => h2 ▸ h1, fun h => ⟨x, h, rfl⟩⟩
section
variable {w : World} {v : Value} {l : List Fc}
set_option maxRecDepth 100000 in
set_option maxHeartbeats 1600000 in
theorem index_nil (x : Fc) (w : World) : Calls Tryz.prog 123 #[.slice none 0 0, .agg (fcA x)] w fun e w' => e = .returned (.int .i64 (-1)) ∧ Below w.heap.size w w' := by
 obtain ⟨k, ww, c, s⟩ := x
 simp only [fcA]
 have HB := Lib.hid (bZ w (.cells #[.int .i64 k, .int .i64 ww, .int .u64 c, .string s] FacT))
 go_enter Tryz.func123, Tryz.ntmps123
 go_wp2_with fail
 go_loopw [8] (fun v8 wr => v8 = .int .i64 0 ∧ Below w.heap.size w wr) (fun _ _ => 0)
 case atStart => exact ⟨rfl, HB.out⟩
 case round =>
  obtain ⟨rfl, hb⟩ := hrel
  have HBR := Lib.hid hb
  clear hb
  go_wp2_with fail
  go_returns
  exact ⟨rfl, HBR.out⟩
set_option maxRecDepth 100000 in
set_option maxHeartbeats 1600000 in
theorem indexf_nil (w : World) : Calls Tryz.prog 122 #[.slice none 0 0, .func (.func 69) #[] #[]] w fun e w' => e = .returned (.int .i64 (-1)) ∧ Below w.heap.size w w' := by
 have HB := Lib.hid (Below.refl w.heap.size w)
 go_enter Tryz.func122, Tryz.ntmps122
 go_wp2_with fail
 go_loopw [8] (fun v8 wr => v8 = .int .i64 0 ∧ Below w.heap.size w wr) (fun _ _ => 0)
 case atStart => exact ⟨rfl, HB.out⟩
 case round =>
  obtain ⟨rfl, hb⟩ := hrel
  have HBR := Lib.hid hb
  clear hb
  go_wp2_with fail
  go_returns
  exact ⟨rfl, HBR.out⟩
set_option maxRecDepth 100000 in
set_option maxHeartbeats 1600000 in
theorem contains_any (h : Row w 4 v l.length (fcs l)) (x : Fc) : Calls Tryz.prog 71 #[v, .agg (fcA x)] w fun e w' => e = .returned (.bool (decide (x ∈ l))) ∧ Below w.heap.size w w' := by
 rcases h with ⟨hl, ⟨rfl, h0⟩ | ⟨b, off, cap, rfl, h1, h2, h3, h4⟩⟩
 ·obtain rfl : l = [] := List.eq_nil_of_length_eq_zero h0
  rw [show (decide (x ∈ ([] : List Fc))) = false from by simp]
  have IX := Lib.hid (fun W => index_nil x W)
  have HB := Lib.hid (bZ w (.cells (fcA x) FacT))
  have hz := heap_alloc_new w (.cells (fcA x) FacT)
  obtain ⟨k, ww, c, s⟩ := x
  simp only [fcA] at *
  obtain ⟨z0, z1, z2, z3⟩ := cs4 hz rfl rfl rfl rfl
  clear hz hl h0
  go_enter Tryz.func71, Tryz.ntmps71
  go_wp2_with fail
  refine (IX.out _).mono ?_
  rintro e w1 ⟨rfl, u1⟩
  have HU := Lib.hid (bmore HB.out u1)
  clear u1
  go_wp2_with fail
  go_returns
  exact ⟨rfl, HU.out⟩
 ·have hc := AnyQ.slices_Contains (P := Tryz.prog) Tryz.containsF 4 Tryz.isAgg45 Tryz.sizeOf45 fcC fcC_length eqF eq_fc b off l.length cap l x w (Nat.le_refl _) (by unfold maxLen at h3; omega) (fcs_cells h4)
  change Calls Tryz.prog 71 _ _ _ at hc
  rw [List.take_length, any_eqF] at hc
  exact hc
set_option maxRecDepth 100000 in
set_option maxHeartbeats 1600000 in
theorem any_bnd (h : Row w 4 v l.length (fcs l)) : Calls Tryz.prog 70 #[v, .func (.func 69) #[] #[]] w fun e w' => e = .returned (.bool (l.any bndB)) ∧ Below w.heap.size w w' := by
 rcases h with ⟨hl, ⟨rfl, h0⟩ | ⟨b, off, cap, rfl, h1, h2, h3, h4⟩⟩
 ·obtain rfl : l = [] := List.eq_nil_of_length_eq_zero h0
  rw [show ([] : List Fc).any bndB = false from rfl]
  have IX := Lib.hid (fun W => indexf_nil W)
  clear hl h0
  have HB := Lib.hid (Below.refl w.heap.size w)
  go_enter Tryz.func70, Tryz.ntmps70
  go_wp2_with fail
  refine (IX.out _).mono ?_
  rintro e w1 ⟨rfl, u1⟩
  have HU := Lib.hid (bmore HB.out u1)
  clear u1
  go_wp2_with fail
  go_returns
  exact ⟨rfl, HU.out⟩
 ·have eg : ∀ args w, (callFunc 69 args).run Tryz.prog w = .ok (.enter 69 args) w := enters_of Tryz.func69 (by kernel_rfl) rfl
  have hp : PredBelow Tryz.prog 69 #[] (fun x => .agg (fcC x).toArray) bndB w := fun W x hb => (isBond_any x W).mono fun _ _ ⟨e1, e2⟩ => ⟨e1, bmore hb e2⟩
  have hc := AnyQ.slices_ContainsFunc (P := Tryz.prog) Tryz.containsFF 4 Tryz.isAgg45 Tryz.sizeOf45 fcC fcC_length bndB 69 #[] eg b off l.length cap l w hp (Nat.le_refl _) (by unfold maxLen at h3; omega) h1 (fcs_cells h4)
  change Calls Tryz.prog 70 _ _ _ at hc
  rw [List.take_length] at hc
  exact hc
end
section
variable {w : World} {pv : Value} {p : Pl}
set_option maxRecDepth 100000 in
set_option maxHeartbeats 6400000 in
theorem binds_any (h : Nodes w pv p) (hok : Ok p) (hl : LaidK w) (t who c : Int) (s : ByteArray) : Calls Tryz.prog 24 #[pv, .int .i64 t, .int .i64 who, .int .u64 c, .string s] w fun e w' => e = .returned (.bool (decide ((⟨2, who, c, s⟩ : Fc) ∈ ofR p t))) ∧ Below w.heap.size w w' := by
 have HB := Lib.hid (bZ w (.cells (fcA ⟨2, who, c, s⟩) FacT))
 have hz := heap_alloc_new w (.cells (fcA ⟨2, who, c, s⟩) FacT)
 have OF := Lib.hid (fun (W : World) (hb : Below w.heap.size w W) => of_any (h.below hb) hok (hl.below hb) t)
 have CO := Lib.hid (fun (W : World) (v : Value) (hr : Row W 4 v (ofR p t).length (fcs (ofR p t))) => contains_any hr ⟨2, who, c, s⟩)
 generalize decide ((⟨2, who, c, s⟩ : Fc) ∈ ofR p t) = bb at *
 generalize ofR p t = L at *
 simp only [fcA] at *
 obtain ⟨z0, z1, z2, z3⟩ := cs4 hz rfl rfl rfl rfl
 clear hz h hok hl
 go_enter Tryz.func24, Tryz.ntmps24
 go_upto_region 2 with fail
 generalize (w.alloc (.cells #[.int .i64 2, .int .i64 who, .int .u64 c, .string s] FacT)) = wz at *
 have HKP := Lib.hid (fun (V : World) (hb : Below wz.heap.size wz V) => (show V.cell? ⟨w.heap.size, 0, none⟩ = some (.int .i64 2) ∧ V.cell? ⟨w.heap.size, 1, none⟩ = some (.int .i64 who) ∧ V.cell? ⟨w.heap.size, 2, none⟩ = some (.int .u64 c) ∧ V.cell? ⟨w.heap.size, 3, none⟩ = some (.string s) from ⟨bcellAt hb z0, bcellAt hb z1, bcellAt hb z2, bcellAt hb z3⟩))
 go_region_held3 (fun V => V.cell? ⟨w.heap.size, 0, none⟩ = some (.int .i64 2) ∧ V.cell? ⟨w.heap.size, 1, none⟩ = some (.int .i64 who) ∧ V.cell? ⟨w.heap.size, 2, none⟩ = some (.int .u64 c) ∧ V.cell? ⟨w.heap.size, 3, none⟩ = some (.string s)) ((refine HKP.out _ ?_; first | exact bd _ | exact bmore (bd _) u3 | exact bmore (bmore (bd _) u3) u4))
  ((first
   | ((with_reducible refine (OF.out _ (bmore HB.out (bd _))).mono ?_); rintro e w3 ⟨v3, rfl, hrow, u3⟩)
   | ((with_reducible refine (CO.out _ _ (row_of_own hrow)).mono ?_); rintro e w4 ⟨rfl, u4⟩)))
 have HU := Lib.hid (bmore HB.out (bmore (bmore (bd wz) u3) u4))
 go_wp2_with fail
 go_returns
 exact ⟨rfl, HU.out⟩
set_option maxRecDepth 100000 in
set_option maxHeartbeats 6400000 in
theorem why_any (h : Nodes w pv p) (hok : Ok p) (hl : LaidK w) (t who c : Int) (s : ByteArray) : Calls Tryz.prog 23 #[pv, .int .i64 t, .int .i64 who, .int .u64 c, .string s] w fun e w' => e = .returned (.int .i64 (whyP p t who c s)) ∧ Below w.heap.size w w' := by
 have BI := Lib.hid (binds_any h hok hl t who c s)
 have RD := Lib.hid (fun (W : World) (hb : Below w.heap.size w W) => read_any (h.below hb) hok (hl.below hb) t)
 have OF := Lib.hid (fun (W : World) (hb : Below w.heap.size w W) => of_any (h.below hb) hok (hl.below hb) t)
 have BO := Lib.hid (fun (W : World) (v : Value) (hr : Row W 4 v (ofR p t).length (fcs (ofR p t))) => bonds_any hr (Nat.le_trans (ofL_len _) (by omega)) who)
 have AB := Lib.hid (fun (W : World) (v : Value) (hr : Row W 4 v (ofR p t).length (fcs (ofR p t))) => any_bnd hr)
 have hv : ∃ x, ltV (rdP p t) = .tuple #[.agg (ltA x), .bool (rdP p t).isSome] := by
  cases rdP p t with
  | none => exact ⟨_, rfl⟩
  | some l => exact ⟨_, rfl⟩
 obtain ⟨x, hx⟩ := hv
 rw [hx] at RD
 clear hx h hok hl
 obtain ⟨wy, hwy⟩ : ∃ wy, wy = whyP p t who c s := ⟨_, rfl⟩
 rw [← hwy]
 have HW : Hid (wy = if decide ((⟨2, who, c, s⟩ : Fc) ∈ ofR p t) = true then 0 else if (rdP p t).isSome = false then 1 else if ((ofR p t).any bndB) = false then 2 else match bonP (ofR p t) who with | [] => 3 | f :: _ => if f.c ≠ c then 4 else 5) := Lib.hid (by rw [hwy]; unfold whyP; simp only [decide_eq_true_eq]; cases bonP (ofR p t) who <;> rfl)
 clear hwy
 generalize decide ((⟨2, who, c, s⟩ : Fc) ∈ ofR p t) = bb at *
 generalize (rdP p t).isSome = ok at *
 generalize bonP (ofR p t) who = bn at *
 generalize (ofR p t).any bndB = ab at *
 generalize ofR p t = L at *
 obtain ⟨lk, lf, lc, ls, lx⟩ := x
 simp only [ltA] at *
 go_enter Tryz.func23, Tryz.ntmps23
 go_wp2_with fail
 refine BI.out.mono ?_
 rintro e w1 ⟨rfl, u1⟩
 have HU1 := Lib.hid u1
 clear u1 BI
 cases bb with
 | true =>
  obtain rfl : wy = 0 := HW.out
  go_wp2_with fail
  go_returns
  exact ⟨rfl, HU1.out⟩
 | false =>
  go_wp2_with fail
  refine (RD.out _ HU1.out).mono ?_
  rintro e w2 ⟨rfl, u2⟩
  have HU2 := Lib.hid (bmore HU1.out (bmore u2 (bZ _ (.cells #[.int .i64 lk, .int .i64 lf, .int .u64 lc, .string ls, .bool lx] LtT))))
  clear u2 RD HU1
  go_upto_region 4 with fail
  generalize (w2.alloc (.cells #[.int .i64 lk, .int .i64 lf, .int .u64 lc, .string ls, .bool lx] LtT)) = w3 at *
  go_wp2_with fail
  refine (OF.out _ HU2.out).mono ?_
  rintro e w4 ⟨v4, rfl, hrow, u4⟩
  have HR := Lib.hid (row_of_own hrow)
  have HU4 := Lib.hid (bmore HU2.out u4)
  clear hrow u4 OF HU2
  go_wp2_with fail
  refine (BO.out _ _ HR.out).mono ?_
  rintro e w5 ⟨v5, rfl, hown, u5⟩
  have HR5 := Lib.hid (HR.out.below u5)
  have HO := Lib.hid (row_of_own hown)
  have HU5 := Lib.hid (bmore HU4.out u5)
  clear hown u5 BO HU4 HR
  cases ok with
  | false =>
   obtain rfl : wy = 1 := HW.out
   go_wp2_with fail
   go_returns
   exact ⟨rfl, HU5.out⟩
  | true =>
   obtain ⟨oa, oc, rfl, hat⟩ := HO.out.at4
   have HAT := Lib.hid hat
   clear hat
   go_wp2_with fail
   refine (AB.out _ _ HR5.out).mono ?_
   rintro e w6 ⟨rfl, u6⟩
   have HU6 := Lib.hid (bmore HU5.out u6)
   have HB6 := Lib.hid u6
   clear u6 AB HR5 HU5
   cases ab with
   | false =>
    obtain rfl : wy = 2 := HW.out
    go_wp2_with fail
    go_returns
    exact ⟨rfl, HU6.out⟩
   | true =>
    cases bn with
    | nil =>
     obtain rfl : wy = 3 := HW.out
     simp only [List.length_nil] at *
     go_wp2_with fail
     go_returns
     exact ⟨rfl, HU6.out⟩
    | cons f r =>
     obtain ⟨b, off, rfl, hc⟩ := HAT.out (by simp)
     have x2 := bcellAt HB6.out (hc 2 (.int .u64 f.c) rfl)
     have hn : ∃ n, (f :: r).length = n ∧ 0 < n := ⟨_, rfl, by simp⟩
     obtain ⟨n, hn, hn0⟩ := hn
     rw [hn] at *
     have hn1 : ((n : Int) == 0) = false := by simp; omega
     have hn2 : (0 : Int) < (n : Int) := by omega
     clear hc HAT HO hn hn0
     by_cases hcc : f.c = c
     ·obtain rfl : wy = 5 := HW.out.trans (by simp [hcc])
      have hce : (f.c == c) = true := by simpa using hcc
      have hcn : (f.c != c) = false := by simpa using hcc
      clear HW
      generalize f.c = fc at *
      clear hcc
      go_wp2_with fail
      go_returns
      exact ⟨rfl, HU6.out⟩
     ·obtain rfl : wy = 4 := HW.out.trans (by simp [hcc])
      have hce : (f.c == c) = false := by simpa using hcc
      have hcn : (f.c != c) = true := by simpa using hcc
      clear HW hcc
      generalize f.c = fc at *
      go_wp2_with fail
      go_returns
      exact ⟨rfl, HU6.out⟩
end
end YtjmcaceegfdkkaaGreatDoor
end Go.Proofs
namespace Go.Proofs.YtjmcaceegfdkkaaGreatDoor
open Go.RowKit Go.Maps
set_option linter.unusedVariables false
theorem cptF_snoc (y : Fc) : ∀ (l : List Fc) (hl : l ≠ []), cptF (l ++ [y]) = if l.getLast hl = y then cptF l else cptF l ++ [y]
 | [x], _ => by simp [cptF]; split <;> simp_all
 | x :: z :: r, _ => by
  have ih := cptF_snoc y (z :: r) (by simp)
  have e : (x :: z :: r) ++ [y] = x :: z :: (r ++ [y]) := rfl
  have e2 : cptF (z :: (r ++ [y])) = cptF ((z :: r) ++ [y]) := rfl
  rw [List.getLast_cons (by simp), e]
  by_cases h1 : x = z
  ·rw [show cptF (x :: z :: (r ++ [y])) = cptF (z :: (r ++ [y])) from by rw [cptF, if_pos h1], e2, ih, show cptF (x :: z :: r) = cptF (z :: r) from by rw [cptF, if_pos h1]]
  ·rw [show cptF (x :: z :: (r ++ [y])) = x :: cptF (z :: (r ++ [y])) from by rw [cptF, if_neg h1], e2, ih, show cptF (x :: z :: r) = x :: cptF (z :: r) from by rw [cptF, if_neg h1]]
   split <;> rfl
theorem cptF_take {l : List Fc} {i : Nat} (h0 : 0 < i) (h : i < l.length) : cptF (l.take (i + 1)) = if l[i - 1]'(by omega) = l[i] then cptF (l.take i) else cptF (l.take i) ++ [l[i]] := by
 rw [show l.take (i + 1) = l.take i ++ [l[i]] from by rw [List.take_add_one, List.getElem?_eq_getElem h, Option.toList_some]]
 have hne : l.take i ≠ [] := by
  intro e
  have := congrArg List.length e
  rw [List.length_take] at this
  simp only [List.length_nil] at this; omega
 rw [cptF_snoc _ _ hne]
 have hg : (l.take i).getLast hne = l[i - 1]'(by omega) := by
  rw [List.getLast_eq_getElem, List.getElem_take]
  exact getElem_congr_idx (by rw [List.length_take]; omega)
 rw [hg]
def set4 (w : World) (b o : Nat) (x : Fc) : World := (((w.setCell ⟨b, o, none⟩ (.int .i64 x.kind)).setCell ⟨b, o + 1, none⟩ (.int .i64 x.who)).setCell ⟨b, o + 2, none⟩ (.int .u64 x.c)).setCell ⟨b, o + 3, none⟩ (.string x.text)
def set4L (l : List Value) (o : Nat) (x : Fc) : List Value := (((l.set o (.int .i64 x.kind)).set (o + 1) (.int .i64 x.who)).set (o + 2) (.int .u64 x.c)).set (o + 3) (.string x.text)
theorem fcs_set (x : Fc) : ∀ (l : List Fc) (j : Nat), j < l.length → set4L (fcs l) (j * 4) x = fcs (l.set j x)
 | m :: l, 0, _ => rfl
 | m :: l, j + 1, h => by
  have ih := fcs_set x l j (by simpa using h)
  have e : ∀ (n : Nat) (v : Value) (r : List Value), (fcC m ++ r).set (n + 4) v = fcC m ++ r.set n v := fun n v r => rfl
  show set4L (fcC m ++ fcs l) ((j + 1) * 4) x = fcC m ++ fcs (l.set j x)
  rw [← ih]
  unfold set4L
  rw [show (j + 1) * 4 = j * 4 + 4 from by omega, e, show j * 4 + 4 + 1 = j * 4 + 1 + 4 from by omega, e, show j * 4 + 4 + 2 = j * 4 + 2 + 4 from by omega, e, show j * 4 + 4 + 3 = j * 4 + 3 + 4 from by omega, e]
theorem own_set4 {w : World} {base g cap n j : Nat} {l : List Fc} (h : w.ownsRow base FacT 4 (.slice (some ⟨g, 0, none⟩) n cap) n (fcs l)) (hj : j < n) (x : Fc) : (set4 w g (j * 4) x).ownsRow base FacT 4 (.slice (some ⟨g, 0, none⟩) n cap) n (fcs (l.set j x)) := by
 obtain ⟨h1, h2⟩ := h
 have hl : l.length = n := by rw [fcs_length] at h1; omega
 refine ⟨by rw [fcs_length, List.length_set, hl], ?_⟩
 rcases h2 with ⟨e, _⟩ | ⟨g', cap', cur, e, hb, hg, hle, hm, hc, ht⟩
 ·simp at e
 ·simp only [Value.slice.injEq, Option.some.injEq, Addr.mk.injEq, true_and, and_true] at e
  obtain ⟨rfl, rfl⟩ := e
  refine .inr ⟨g, cap, (((cur.setIfInBounds (j * 4) (.int .i64 x.kind)).setIfInBounds (j * 4 + 1) (.int .i64 x.who)).setIfInBounds (j * 4 + 2) (.int .u64 x.c)).setIfInBounds (j * 4 + 3) (.string x.text), rfl, hb, setCellB (setCellB (setCellB (setCellB hg))), hle, hm, by simpa using hc, ?_⟩
  simp only [Array.toList_setIfInBounds, List.take_set, ht]
  exact fcs_set x l j (by omega)
theorem set4_below {n : Nat} {w w' : World} {b : Nat} (h : Below n w w') (hb : n ≤ b) (o : Nat) (x : Fc) : Below n w (set4 w' b o x) :=
 (((h.setCell (p := ⟨b, o, none⟩) hb _).setCell (p := ⟨b, o + 1, none⟩) hb _).setCell (p := ⟨b, o + 2, none⟩) hb _).setCell (p := ⟨b, o + 3, none⟩) hb _
end Go.Proofs.YtjmcaceegfdkkaaGreatDoor
