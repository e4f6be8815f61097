/-
  slices.Sort of a row of terms of the call's own.
  Promises: the promises to somebody in a term.
-/
import Derived.Shelf.SlIterI.Nil
import Derived.Shelf.SortM.Plain
import Derived.Shelf.SortM.SortNone
import Derived.Ground.SlgmProg
import Derived.Test.YtgaklaajbepfaaaGreatDoorVBase
import Derived.Test.YtgaklaajbepfaaaGreatDoorVView
import Derived.Test.YtgaklaajbepfaaaGreatDoorTSubsI
import Derived.Test.YtgaklaajbepfaaaGreatDoorTGoT
import Derived.RangeFuncBox
import Derived.RangeFuncFrom
import Derived.RangeFuncBound
import Derived.RangeFuncCalls
import Derived.RangeFuncLeaves
import Derived.OwnWalkIn
import Derived.TacticsInMore
namespace Go.Proofs
open Go.RowKit Go.Maps Go.Sort Go.Shelf

def Tryz.vsortT_ren : Go.Shelf.Ren := ⟨fun | 5 => 72 | 8 => 105 | 7 => 104 | 19 => 135 | 20 => 136 | 10 => 126 | 11 => 127 | 12 => 128 | 13 => 129 | 14 => 130 | 15 => 131 | 16 => 132 | 17 => 133 | 18 => 134 | 30 => 144 | 31 => 145 | 32 => 146 | 33 => 147 | 34 => 148 | 35 => 149 | 40 => 157 | n => n, fun | 23 => 23 | 25 => 39 | 3 => 3 | 32 => 160 | 22 => 23 | 0 => 0 | 44 => 187 | 46 => 60 | 4 => 4 | 36 => 181 | 35 => 180 | 41 => 130 | 5 => 5 | 9 => 9 | 53 => 192 | 57 => 176 | 63 => 197 | 64 => 198 | n => n, fun | n => n⟩
theorem Tryz.vsortT : Go.Proofs.SlLaysM.n5 Tryz.prog Tryz.vsortT_ren := {
  mixed := by kernel_rfl
  f5 := ⟨Tryz.f72.name, by decide, Tryz.func72.trans (congrArg some (by kernel_rfl))⟩
  f7 := ⟨Tryz.f104.name, by decide, Tryz.func104.trans (congrArg some (by kernel_rfl))⟩
  f8 := Tryz.func105.trans (congrArg some (by kernel_rfl))
  f10 := ⟨Tryz.f126.name, by decide, Tryz.func126.trans (congrArg some (by kernel_rfl))⟩
  f11 := ⟨Tryz.f127.name, by decide, Tryz.func127.trans (congrArg some (by kernel_rfl))⟩
  f12 := ⟨Tryz.f128.name, by decide, Tryz.func128.trans (congrArg some (by kernel_rfl))⟩
  f13 := ⟨Tryz.f129.name, by decide, Tryz.func129.trans (congrArg some (by kernel_rfl))⟩
  f14 := ⟨Tryz.f130.name, by decide, Tryz.func130.trans (congrArg some (by kernel_rfl))⟩
  f15 := ⟨Tryz.f131.name, by decide, Tryz.func131.trans (congrArg some (by kernel_rfl))⟩
  f16 := ⟨Tryz.f132.name, by decide, Tryz.func132.trans (congrArg some (by kernel_rfl))⟩
  f17 := ⟨Tryz.f133.name, by decide, Tryz.func133.trans (congrArg some (by kernel_rfl))⟩
  f18 := ⟨Tryz.f134.name, by decide, Tryz.func134.trans (congrArg some (by kernel_rfl))⟩
  f19 := Tryz.func135.trans (congrArg some (by kernel_rfl))
  f20 := Tryz.func136.trans (congrArg some (by kernel_rfl))
  f30 := ⟨Tryz.f144.name, by decide, Tryz.func144.trans (congrArg some (by kernel_rfl))⟩
  f31 := Tryz.func145.trans (congrArg some (by kernel_rfl))
  f32 := Tryz.func146.trans (congrArg some (by kernel_rfl))
  f33 := ⟨Tryz.f147.name, by decide, Tryz.func147.trans (congrArg some (by kernel_rfl))⟩
  f34 := ⟨Tryz.f148.name, by decide, Tryz.func148.trans (congrArg some (by kernel_rfl))⟩
  f35 := ⟨Tryz.f149.name, by decide, Tryz.func149.trans (congrArg some (by kernel_rfl))⟩
  f40 := ⟨Tryz.f157.name, by decide, Tryz.func157.trans (congrArg some (by kernel_rfl))⟩
  t0 := Tryz.underlying0
  a0 := Tryz.isAgg0
  z0 := Tryz.sizeOf0
  v0 := Tryz.zeroValue0
  t3 := Tryz.underlying3
  a3 := Tryz.isAgg3
  z3 := Tryz.sizeOf3
  v3 := Tryz.zeroValue3
  t4 := Tryz.underlying4
  a4 := Tryz.isAgg4
  z4 := Tryz.sizeOf4
  v4 := Tryz.zeroValue4
  t5 := Tryz.underlying5
  a5 := Tryz.isAgg5
  z5 := Tryz.sizeOf5
  v5 := Tryz.zeroValue5
  t9 := Tryz.underlying9
  a9 := Tryz.isAgg9
  z9 := Tryz.sizeOf9
  v9 := Tryz.zeroValue9
  t22 := Tryz.underlying23
  a22 := Tryz.isAgg23
  z22 := Tryz.sizeOf23
  v22 := Tryz.zeroValue23
  t23 := Tryz.underlying23
  a23 := Tryz.isAgg23
  z23 := Tryz.sizeOf23
  v23 := Tryz.zeroValue23
  t25 := Tryz.underlying39
  a25 := Tryz.isAgg39
  z25 := Tryz.sizeOf39
  v25 := Tryz.zeroValue39
  t32 := Tryz.underlying160
  a32 := Tryz.isAgg160
  z32 := Tryz.sizeOf160
  v32 := Tryz.zeroValue160
  t35 := Tryz.underlying180
  a35 := Tryz.isAgg180
  z35 := Tryz.sizeOf180
  v35 := Tryz.zeroValue180
  t36 := Tryz.underlying181
  a36 := Tryz.isAgg181
  z36 := Tryz.sizeOf181
  v36 := Tryz.zeroValue181
  t41 := Tryz.underlying130
  a41 := Tryz.isAgg130
  z41 := Tryz.sizeOf130
  v41 := Tryz.zeroValue130
  t44 := Tryz.underlying187
  a44 := Tryz.isAgg187
  z44 := Tryz.sizeOf187
  v44 := Tryz.zeroValue187
  t46 := Tryz.underlying60
  a46 := Tryz.isAgg60
  z46 := Tryz.sizeOf60
  v46 := Tryz.zeroValue60
  t53 := Tryz.underlying192
  a53 := Tryz.isAgg192
  z53 := Tryz.sizeOf192
  v53 := Tryz.zeroValue192
  t57 := Tryz.underlying176
  a57 := Tryz.isAgg176
  z57 := Tryz.sizeOf176
  v57 := Tryz.zeroValue176
  t63 := Tryz.underlying197
  a63 := Tryz.isAgg197
  z63 := Tryz.sizeOf197
  v63 := Tryz.zeroValue197
  t64 := Tryz.underlying198
  a64 := Tryz.isAgg198
  z64 := Tryz.sizeOf198
  v64 := Tryz.zeroValue198 }
namespace YtgaklaajbepfaaaGreatDoor
/-- Rising. -/
def riseL (xs : List Int) : List Int := xs.mergeSort fun x y => decide (x ≤ y)
theorem vsort_call {w : World} {base : Nat} {v : Value} {xs : List Int} (h : w.ownsRow base TermT 1 v xs.length (ints xs)) (hl : xs.length ≤ 1000000) : Calls Tryz.prog 72 #[v] w fun e w' => e = .returned (.tuple #[]) ∧ w'.ownsRow base TermT 1 v xs.length (ints (riseL xs)) ∧ w.grownBy w' v.ownBlock := by
  rcases h.2 with ⟨rfl, hz⟩ | ⟨gb, cap, cur, rfl, hbase, hgb, r1, r2, r3, r4⟩
  · have hss : xs = [] := List.eq_nil_of_length_eq_zero hz
    subst hss
    refine (AnyM.slices_Sort_int_none Tryz.vsortT none 0 w).mono ?_
    rintro e w' ⟨rfl, rfl⟩
    exact ⟨rfl, by simpa [riseL] using h, ⟨rfl, rfl, rfl, Nat.le_refl _, fun _ _ _ => rfl⟩⟩
  · have hH : Holds encZ w gb 0 xs.toArray := holds_of_block_i hgb (by have h9 := r4; rw [Nat.mul_one] at h9; exact h9)
    have hgl : gb < w.heap.size := (Array.getElem?_eq_some_iff.1 hgb).1
    refine (AnyM.slices_Sort_int Tryz.vsortT gb 0 cap xs w hH hgl (by omega)).mono ?_
    rintro e w' ⟨rfl, nn, os, rfl⟩
    exact ⟨rfl, ownsRow_sorted_i (by simp) hbase hgb r1 r2 r3, grownBy_sorted_i _⟩
end YtgaklaajbepfaaaGreatDoor
end Go.Proofs
namespace Go.Proofs.YtgaklaajbepfaaaGreatDoor
open Go.RowKit Go.Maps Go.Shelf
attribute [local go_sem] Oper.semAt_some
set_option linter.unusedVariables false

abbrev SlVT : TypeId := 23
def promL (p : Pl) (at' : Int) (L : List Int) : List Int := L.filter fun x => promB (atP p x).1 at'
theorem promL_snoc (p : Pl) (at' : Int) (L : List Int) (x : Int) : promL p at' (L ++ [x]) = promL p at' L ++ (if promB (atP p x).1 at' = true then [x] else []) := by
  unfold promL
  rw [List.filter_append]
  simp [List.filter_cons]
theorem promL_len (p : Pl) (at' : Int) (L : List Int) : (promL p at' L).length ≤ L.length := List.length_filter_le _ _
/-- What holds between two rounds. -/
structure PrAt (n0 lb pb wb a : Nat) (at' : Int) (p : Pl) (w1 : World) (pre : List (InT p)) (W : World) : Prop where
  row : ∃ lv, Boxed W lb SlVT lv ∧ W.ownsRow n0 TermT 1 lv (promL p at' (pre.map (·.1))).length (ints (promL p at' (pre.map (·.1))))
  pl : Boxed W pb VPoolT (.pointer (some ⟨a, 0, none⟩))
  wh : Boxed W wb WhoT (.int .i64 at')
  low : Below n0 w1 W
theorem PrAt.own (n0 lb pb wb a : Nat) (at' : Int) (p : Pl) (w1 : World) {n : Nat} (hn : n0 ≤ n) (hw : n0 ≤ w1.heap.size) : OwnFrom n (PrAt n0 lb pb wb a at' p w1) := by
  rintro s X Y row ⟨⟨lv, hb, hr'⟩, h1, h2, h3⟩ hg hr
  refine ⟨⟨lv, box_kept hb hg hr, own_kept hr' hg (fun r e e' => ?_)⟩, box_kept h1 hg hr, box_kept h2 hg hr, h3.grown hg (Nat.le_trans hw h3.size) fun q e => Nat.le_trans hn (hr q e).1⟩
  obtain ⟨_, cur, hc⟩ := own_type hr' e'
  obtain ⟨_, o, ho, hn⟩ := hr r e
  rw [hc] at ho
  cases ho
  simp [Obj.isCells] at hn
section
variable {w : World} {B a b : Nat} {v : Value} {p : Pl}
set_option maxRecDepth 100000 in
set_option maxHeartbeats 25600000 in
theorem promises_in (h : IsPool w B a b v p) (at' t : Int) :
    CallsIn Fence.wide 3 Tryz.prog 21 #[.pointer (some ⟨a, 0, none⟩), .int .i64 at', .int .i64 t] w fun e w' => ∃ lv, e = .returned lv ∧ w'.ownsRow w.heap.size TermT 1 lv (promL p at' (subs p t)).length (ints (riseL (promL p at' (subs p t)))) ∧ Below w.heap.size w w' := by
  have s1 : (w.alloc (.cells #[.pointer (some ⟨a, 0, none⟩)] VPoolT)).heap.size = w.heap.size + 1 := by simp [World.size_alloc]
  have s2 : ((w.alloc (.cells #[.pointer (some ⟨a, 0, none⟩)] VPoolT)).alloc (.cells #[.int .i64 at'] WhoT)).heap.size = w.heap.size + 1 + 1 := by simp [World.size_alloc]
  have b1 := bA0 w (.cells #[.pointer (some ⟨a, 0, none⟩)] VPoolT)
  have b2 := bA0 (w.alloc (.cells #[.pointer (some ⟨a, 0, none⟩)] VPoolT)) (.cells #[.int .i64 at'] WhoT)
  have b3 := bA0 ((w.alloc (.cells #[.pointer (some ⟨a, 0, none⟩)] VPoolT)).alloc (.cells #[.int .i64 at'] WhoT)) (.cells #[.slice none 0 0] SlVT)
  have hpb : Boxed (((w.alloc (.cells #[.pointer (some ⟨a, 0, none⟩)] VPoolT)).alloc (.cells #[.int .i64 at'] WhoT)).alloc (.cells #[.slice none 0 0] SlVT)) w.heap.size VPoolT (.pointer (some ⟨a, 0, none⟩)) := Hold.below (bmore b2 b3) _ _ (heap_alloc_new _ _)
  have hwb : Boxed (((w.alloc (.cells #[.pointer (some ⟨a, 0, none⟩)] VPoolT)).alloc (.cells #[.int .i64 at'] WhoT)).alloc (.cells #[.slice none 0 0] SlVT)) (w.heap.size + 1) WhoT (.int .i64 at') := Hold.below b3 _ _ (by rw [← s1]; exact heap_alloc_new _ _)
  have hlb : Boxed (((w.alloc (.cells #[.pointer (some ⟨a, 0, none⟩)] VPoolT)).alloc (.cells #[.int .i64 at'] WhoT)).alloc (.cells #[.slice none 0 0] SlVT)) (w.heap.size + 1 + 1) SlVT (.slice none 0 0) := by
    show _ = _
    rw [← s2]; exact heap_alloc_new _ _
  have HU := Lib.hid (bmore (bmore b1 b2) b3)
  have HPB := Lib.hid hpb
  have HWB := Lib.hid hwb
  have HLB := Lib.hid hlb
  have HP := Lib.hid h
  have c0 := hpb.cell
  clear h s1 s2 b1 b2 b3 hpb hwb hlb
  refine callsIn_of_wp_marks Tryz.func21 rfl trivial ?_ rfl
  simp only [Tryz.ntmps21, List.size_toArray, List.length_cons, List.length_nil, Nat.reduceAdd, Nat.reduceSub, Array.replicate_succ, Array.replicate_zero, List.push_toArray, List.append_toArray, List.nil_append, List.cons_append]
  refine wpIn_wide.2 ?_
  go_wp2_with fail
  generalize (((w.alloc (.cells #[.pointer (some ⟨a, 0, none⟩)] VPoolT)).alloc (.cells #[.int .i64 at'] WhoT)).alloc (.cells #[.slice none 0 0] SlVT)) = w3 at *
  refine (psubs (HP.out.below HU.out) t).mono ?_
  rintro e w4 ⟨rfl, k0, k1, u4⟩
  have hal := HP.out.lt
  have hbl : b < w.heap.size := by obtain ⟨D, ho, _⟩ := HP.out.dict; exact ho.lt
  have hvl : ∀ g, v.ownBlock = some g → g < w.heap.size := fun g e => ((HP.out.apart).2 g e).2.2.1
  have hst := stopsI (w := w4) 2 (KpT w.heap.size) (fun _ _ hk hp => hp.low hal hbl hvl hk.low) (fun _ _ hk => hk.nodes) (fun _ _ k es c hk _ hm => hk.walks.same k _ hm rfl) (HP.out.below (bmore HU.out u4)) k0 k1 (termIn_or p t)
  rw [subs_termIn] at hst
  have HST := Lib.hid hst
  have HU4 := Lib.hid (bmore HU.out u4)
  have HP4 := Lib.hid (HP.out.below (bmore HU.out u4))
  have HLW := Lib.hid (fun (W : World) (hW : Below w.heap.size w4 W) => (HP.out.below (bmore HU.out u4)).low hal hbl hvl hW)
  have H0 : Hid (PrAt w.heap.size (w.heap.size + 1 + 1) w.heap.size (w.heap.size + 1) a at' p w4 [] w4) := Lib.hid ⟨⟨.slice none 0 0, boxed_below (boxed_below HLB.out (Below.refl _ _)) u4, World.ownsRow_nil _ _ _ 1⟩, boxed_below HPB.out u4, boxed_below HWB.out u4, Below.refl _ _⟩
  have HSL : Hid ((subs p t).length ≤ 65536) := Lib.hid (Nat.le_trans (subs_len HP.out.ok t) HP.out.ok.len)
  clear hst hal hbl hvl k0 k1 u4 HPB HWB HLB
  go_wp2_with fail
  refine (wpIn_wide (n := 3)).1 ?_
  refine range_H rfl (by decide) (gf := 102) (lb := #[.pointer (some ⟨w3.heap.size, 0, none⟩), .pointer (some ⟨w3.heap.size + 1, 0, none⟩)]) rfl trivial (enters_of Tryz.func102 (by kernel_rfl) rfl)
    HST.out HU4.out.size (fun _ => rfl)
    (PrAt w.heap.size (w.heap.size + 1 + 1) w.heap.size (w.heap.size + 1) a at' p w4) (fun _ _ _ => False) (PrAt.own _ _ _ _ _ _ _ _ HU4.out.size HU4.out.size) (fun c pre X Y row h => h.elim) H0.out ?a1c ?assignc ?bodyc ?donec ?stopc
  case assignc =>
    intro lb x W' K hK
    simp only [encI]
    gi_wp2
    exact hK
  case stopc =>
    rintro D c pre W hD hS hx
    exact hx.elim
  case bodyc =>
    rintro lb pre x X hlb hrec hc hlt
    obtain ⟨lv, hlb', hrow⟩ := hc.row
    have hsn := promL_snoc p at' (pre.map (·.1)) x.1
    have hln : (promL p at' (pre.map (·.1))).length ≤ 65536 := by have := promL_len p at' (pre.map (·.1)); have := HSL.out; simp at *; omega
    have HC := Lib.hid hc
    generalize promL p at' (pre.map (·.1)) = L at hrow hsn hln
    have HLBX := Lib.hid hlb'
    have HROW := Lib.hid hrow
    obtain ⟨la, lc, rfl⟩ := (row_of_own hrow).shape
    have x1 := hc.pl.cell
    have HPN := Lib.hid (pnode (HLW.out X hc.low) x.1)
    have HXS : Hid (w.heap.size ≤ X.heap.size) := Lib.hid (Nat.le_trans HU4.out.size hc.low.size)
    have HLN := Lib.hid hln
    have HSN := Lib.hid hsn
    clear hsn hln
    clear hc hlb' hrow hlt hrec hlb
    gi_wp2
    refine ⟨trivial, ((callsIn_wide (n := 0)).2 HPN.out).mono ?_⟩
    rintro e W3 ⟨rfl, u3⟩
    have VP := Lib.hid (fun W => vprom_any at' (atP p x.1).1 W)
    generalize promB (atP p x.1).1 at' = pb at *
    generalize hnn : (atP p x.1).1 = nn at *
    clear hnn
    obtain ⟨kk, ff, tt, uu, ss, xa, xb⟩ := nn
    simp only [nodeA] at *
    obtain ⟨bN, hN⟩ := node_box W3 kk ff tt uu xa xb ss
    have HU5 := Lib.hid (bmore u3 bN)
    have HN4 := Lib.hid hN
    clear u3 bN hN x1 HPN
    have y0 : (W3.alloc (.cells #[.int .i64 kk, .int .i64 ff, .int .i64 tt, .int .u64 uu, .string ss, .int .i64 xa, .int .i64 xb] NodeT)).cell? ⟨W3.heap.size, 0, none⟩ = some (.int .i64 kk) := cellB (j := 0) HN4.out rfl
    have y1 : (W3.alloc (.cells #[.int .i64 kk, .int .i64 ff, .int .i64 tt, .int .u64 uu, .string ss, .int .i64 xa, .int .i64 xb] NodeT)).cell? ⟨W3.heap.size, 1, none⟩ = some (.int .i64 ff) := cellB (j := 1) HN4.out rfl
    have y2 : (W3.alloc (.cells #[.int .i64 kk, .int .i64 ff, .int .i64 tt, .int .u64 uu, .string ss, .int .i64 xa, .int .i64 xb] NodeT)).cell? ⟨W3.heap.size, 2, none⟩ = some (.int .i64 tt) := cellB (j := 2) HN4.out rfl
    have y3 : (W3.alloc (.cells #[.int .i64 kk, .int .i64 ff, .int .i64 tt, .int .u64 uu, .string ss, .int .i64 xa, .int .i64 xb] NodeT)).cell? ⟨W3.heap.size, 3, none⟩ = some (.int .u64 uu) := cellB (j := 3) HN4.out rfl
    have y4 : (W3.alloc (.cells #[.int .i64 kk, .int .i64 ff, .int .i64 tt, .int .u64 uu, .string ss, .int .i64 xa, .int .i64 xb] NodeT)).cell? ⟨W3.heap.size, 4, none⟩ = some (.string ss) := cellB (j := 4) HN4.out rfl
    have y5 : (W3.alloc (.cells #[.int .i64 kk, .int .i64 ff, .int .i64 tt, .int .u64 uu, .string ss, .int .i64 xa, .int .i64 xb] NodeT)).cell? ⟨W3.heap.size, 5, none⟩ = some (.int .i64 xa) := cellB (j := 5) HN4.out rfl
    have y6 : (W3.alloc (.cells #[.int .i64 kk, .int .i64 ff, .int .i64 tt, .int .u64 uu, .string ss, .int .i64 xa, .int .i64 xb] NodeT)).cell? ⟨W3.heap.size, 6, none⟩ = some (.int .i64 xb) := cellB (j := 6) HN4.out rfl
    have x2 : (W3.alloc (.cells #[.int .i64 kk, .int .i64 ff, .int .i64 tt, .int .u64 uu, .string ss, .int .i64 xa, .int .i64 xb] NodeT)).cell? ⟨w.heap.size + 1, 0, none⟩ = some (.int .i64 at') := (boxed_below HC.out.wh HU5.out).cell
    gi_wp2
    refine ⟨trivial, ((callsIn_wide (n := 0)).2 (VP.out _)).mono ?_⟩
    rintro e W5 ⟨rfl, u5⟩
    have HU6 := Lib.hid (bmore HU5.out u5)
    clear u5 HU5 HN4 VP y0 y1 y2 y3 y4 y5 y6 x2
    cases pb with
    | false =>
      gi_wp2
      refine ⟨keeps_of HU6.out, KpT.of HU6.out HXS.out, ?_⟩
      have e9 : promL p at' ((pre ++ [x]).map (·.1)) = L := by rw [List.map_append]; exact HSN.out.trans (by simp)
      exact ⟨⟨_, boxed_below HLBX.out HU6.out, by rw [e9]; exact own_hold HROW.out (Hold.below HU6.out)⟩, boxed_below HC.out.pl HU6.out, boxed_below HC.out.wh HU6.out, HC.out.low.trans (HU6.out.mono HXS.out)⟩
    | true =>
      have e9 : promL p at' ((pre ++ [x]).map (·.1)) = L ++ [x.1] := by rw [List.map_append]; exact HSN.out.trans (by simp)
      have HE9 := Lib.hid e9
      have hl5 := boxed_below HLBX.out HU6.out
      have z0 := hl5.cell
      have hr5 := own_hold HROW.out (Hold.below HU6.out)
      have HL5 := Lib.hid hl5
      have HR5 := Lib.hid hr5
      have HN5 : Hid (w.heap.size ≤ W5.heap.size) := Lib.hid (Nat.le_trans HXS.out HU6.out.size)
      have HNW : Hid ((W5.alloc (.cells #[.int .i64 x.1] TermT)).cell? ⟨W5.heap.size, 0, none⟩ = some (.int .i64 x.1)) := Lib.hid (cellB (j := 0) (heap_alloc_new _ _) rfl)
      have HRA := Lib.hid (own_hold hr5 (Hold.below (bA0 W5 (.cells #[.int .i64 x.1] TermT))))
      obtain ⟨i0, hi, hz0, hz1, hz2⟩ := info_parts rowTK
      clear e9 hl5 hr5
      gi_wp2_with (gi_at_builtin; refine wpListIn_append_own _ rfl _ _ SlVT rfl w.heap.size TermT i0 (.int .i64 0) 1 8 Tryz.underlying23 hi hz0 hz1 hz2 rfl (by decide) (.slice la L.length lc) _ _ rfl HRA.out ⟨W5.heap.size, 0, none⟩ 1 1 [.int .i64 x.1] rfl rfl (by intro j u hj; cases j with | zero => (simp at hj; subst hj; exact HNW.out) | succ j => (simp at hj)) (by simp; rfl) (by have := HLN.out; unfold maxLen; omega) (by have := HLN.out; omega) (Nat.le_trans HN5.out (bA0 _ _).size) ?_; intro v7 w7 hown7 hg7 _; obtain ⟨g7, cap7, rfl⟩ := ownsRow_succ hown7; have AP := Lib.hid (Boxed.appended (tmp := .cells #[.int .i64 x.1] TermT) HL5.out (by decide) HR5.out HN5.out (by omega) hown7 hg7); have q7 := AP.out.1.cell; have q8 := AP.out.1.frozen)
      have hl9 : (L ++ [x.1]).length = L.length + 1 := by simp
      have hN7 : Hold NodeT W5 (w7.setCell ⟨w.heap.size + 1 + 1, 0, none⟩ (.slice (some ⟨g7, 0, none⟩) (L.length + 1) cap7)) := ((Hold.below (bA0 W5 (.cells #[.int .i64 x.1] TermT))).trans (hold_rowK HRA.out hg7 (by decide))).trans (Hold.setCell (T' := SlVT) AP.out.1 (by decide))
      have hbx : ∀ (T : TypeId) (bb : Nat) (u : Value), T ≠ TermT → T ≠ SlVT → Boxed X bb T u → Boxed (w7.setCell ⟨w.heap.size + 1 + 1, 0, none⟩ (.slice (some ⟨g7, 0, none⟩) (L.length + 1) cap7)) bb T u := fun T bb u h1 h2 hb => Hold.setCell (T' := SlVT) AP.out.1 (fun e => h2 e.symm) _ _ (hold_rowK HRA.out hg7 h1 _ _ (Hold.below (bA0 W5 (.cells #[.int .i64 x.1] TermT)) _ _ (boxed_below hb HU6.out)))
      refine ⟨(keeps_of HU6.out).trans (AP.out.2.2.2.1.from _), (KpT.of HU6.out HXS.out).trans ⟨AP.out.2.2.2.2, ⟨AP.out.2.2.2.1.size, fun k o hk hw => AP.out.2.2.2.1.same k o hk (walk_cells hw)⟩, hN7⟩, ?_⟩
      exact ⟨⟨_, AP.out.2.1, by rw [HE9.out, hl9, show ints (L ++ [x.1]) = ints L ++ [.int .i64 x.1] by simp [ints]]; exact AP.out.2.2.1⟩, hbx _ _ _ (by decide) (by decide) HC.out.pl, hbx _ _ _ (by decide) (by decide) HC.out.wh, HC.out.low.trans ((HU6.out.mono HXS.out).trans AP.out.2.2.2.2)⟩
  case donec =>
    rintro D xs W hD hS hc hK
    obtain ⟨lv, hlb, hrow⟩ := hc.row
    rw [hS] at hrow
    obtain ⟨la, lc, rfl⟩ := (row_of_own hrow).shape
    have hll : (promL p at' (subs p t)).length ≤ 65536 := Nat.le_trans (promL_len _ _ _) HSL.out
    have SC := Lib.hid (vsort_call hrow (by omega))
    have HLB := Lib.hid hlb
    have HLOW := Lib.hid hc.low
    have HKD := Lib.hid hK
    have HRW := Lib.hid hrow
    have z0 := hlb.cell
    generalize hLL : promL p at' (subs p t) = L at hrow SC HRW hll hlb HLB z0
    have HLL := Lib.hid hLL
    have hDw : w.heap.size ≤ D := Nat.le_trans HU4.out.size hD
    clear hLL hc hlb hrow hK hS hD
    go_wp2_with fail
    refine SC.out.mono ?_
    rintro e W2 ⟨rfl, r2, g2⟩
    have HR2 := Lib.hid r2
    have hl2 : Boxed W2 (w.heap.size + 1 + 1) SlVT (.slice la L.length lc) := hold_rowK HRW.out g2 (by decide) _ _ HLB.out
    have z1 := hl2.cell
    clear r2
    have hkD : W2.heap[D]? = some (.deferred (some [])) := (g2.block D (Array.getElem?_eq_some_iff.1 HKD.out).1 (fun e => by
      obtain ⟨_, cur, hc⟩ := own_type HRW.out e.symm
      rw [HKD.out] at hc; cases hc)).trans HKD.out
    have hb2 : Below w.heap.size w W2 := ((HU4.out.trans (HLOW.out.mono (Nat.le_refl _))).trans (grown_below g2 (Nat.le_trans HU4.out.size HLOW.out.size) (fun q e => (own_type HRW.out e).1)))
    have HKD2 := Lib.hid hkD
    have HB2 := Lib.hid hb2
    clear g2 hkD hb2 HKD
    go_wp2_with fail
    refine ⟨by simp, .inl ⟨_, _, rfl, run_takeDeferred HKD2.out, ?_⟩⟩
    refine ⟨.slice la L.length lc, ?_, _, rfl, ?_⟩
    · simp [results, Tryz.f21, go_sem]
    · rw [HLL.out]
      exact ⟨ownsRow_putObj HR2.out _ HKD2.out rfl, HB2.out.grown (grownBy_putObj' _ D (.deferred none)) HB2.out.size (fun k e => by cases e; exact hDw)⟩
end
/-- Promises, of every term. -/
theorem Promises_any {w : World} {B a b : Nat} {v : Value} {p : Pl} (h : IsPool w B a b v p) (at' t : Int) : Calls Tryz.prog 21 #[.pointer (some ⟨a, 0, none⟩), .int .i64 at', .int .i64 t] w fun e w' => ∃ lv, e = .returned lv ∧ w'.ownsRow w.heap.size TermT 1 lv (promL p at' (subs p t)).length (ints (riseL (promL p at' (subs p t)))) ∧ Below w.heap.size w w' :=
  callsIn_wide.1 (promises_in h at' t)
end Go.Proofs.YtgaklaajbepfaaaGreatDoor
