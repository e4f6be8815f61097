/-
  Request.
-/
import Derived.Deep.RegionHeld3
import Derived.Deep.DeepCutAuto
import Derived.Test.YtjmcaceegfdkkaaGreatDoorQcFCon
import Derived.Test.YtjmcaceegfdkkaaGreatDoorQcFRqp
import Derived.Test.YtjmcaceegfdkkaaGreatDoorQcTPTree
namespace Go.Proofs.YtjmcaceegfdkkaaGreatDoor
open Go.RowKit Go.Maps
set_option linter.unusedVariables false
def reqE (who : Int) (q : Lt × Lt × Int) : Int := if who ≠ 0 ∧ who ≠ 1 then 2 else if q.2.2 ≠ 0 then q.2.2 else if blgB q.1 q.2.1 = false then 122 else 0
def ReqOk (w : World) (B a b : Nat) (vv : Value) (p : Pl) (who s t : Int) (e : Ending) (w' : World) : Prop := ∃ Ta Tb : Tr, RT p s Ta ∧ RT p t Tb ∧ Bare (one Ta) ∧ Bare (one Tb) ∧ OfPost w B a b vv (ofP (signT who (pairT (dataT resolveS) (pairT Ta Tb))).1 (signT who (pairT (dataT resolveS) (pairT Ta Tb))).2 p) e w'
def ReqPost (w : World) (B a b : Nat) (vv : Value) (p : Pl) (who s t : Int) (e : Ending) (w' : World) : Prop :=
 (reqE who (prmL p s t) ≠ 0 ∧ e = .returned (.tuple #[.int .i64 0, .int .i64 (reqE who (prmL p s t))]) ∧ Below w.heap.size w w') ∨ (reqE who (prmL p s t) = 0 ∧ ReqOk w B a b vv p who s t e w')
section
variable {w : World} {B a b : Nat} {vv : Value} {p : Pl}
set_option maxRecDepth 100000 in
set_option maxHeartbeats 6400000 in
theorem req_any (hB : 1 < B) (hL : Laid w) (hl : LaidK w) (hp : IsPool w B a b vv p) (hr : p.length + 50 ≤ 65536) (who s t : Int) : Calls Tryz.prog 35 #[.pointer (some ⟨a, 0, none⟩), .int .i64 who, .int .i64 s, .int .i64 t] w (ReqPost w B a b vv p who s t) := by
 have PR := Lib.hid (prm_any hp hl s t)
 have HIN := Lib.hid (fun (h0 : (prmL p s t).2.2 = 0) => by
  obtain ⟨x, y, h1, h2, _, _, _, h6, h7⟩ := prm_ok h0
  exact (⟨h6, h7, fun Ta hr hb => rd_size hp.ok h1 hr hb, fun Tb hr hb => rd_size hp.ok h2 hr hb⟩ : inP p s = true ∧ inP p t = true ∧ (∀ Ta, RT p s Ta → Bare (one Ta) → (one Ta).size ≤ 20) ∧ (∀ Tb, RT p t Tb → Bare (one Tb) → (one Tb).size ≤ 20)))
 have ROF := Lib.hid (fun (W : World) (hb : Below w.heap.size w W) (hw : who = 0 ∨ who = 1) (Ta Tb : Tr) (r1 : RT p s Ta) (r2 : RT p t Tb) (o1 : OkT Ta) (o2 : OkT Tb) (s1 : (one Ta).size ≤ 20) (s2 : (one Tb).size ≤ 20) (v : Value) (hk : IsK W (Safe W B) v (one (pairT (dataT resolveS) (pairT Ta Tb)))) => req_of hB hL hp hb hw r1 r2 o1 o2 s1 s2 hr hk)
 have HPO := Lib.hid hp.ok
 have HPP := Lib.hid hp
 have BG := Lib.hid (fun (x y : Lt) (W : World) => blg_any x y W)
 have HP := Lib.hid hp
 have HLL := Lib.hid hL
 have TA := Lib.hid (fun (W : World) (hb : Below w.heap.size w W) => ptree (hL.below hb) (hp.below hb) s)
 have TB := Lib.hid (fun (W : World) (hb : Below w.heap.size w W) => ptree (hL.below hb) (hp.below hb) t)
 clear hB hL hl hp hr
 unfold ReqPost
 generalize prmL p s t = q at *
 obtain ⟨x, y, er⟩ := q
 obtain ⟨ce, hce⟩ : ∃ ce, ce = reqE who (x, y, er) := ⟨_, rfl⟩
 rw [← hce]
 have HC : Hid (ce = if who ≠ 0 ∧ who ≠ 1 then 2 else if er ≠ 0 then er else if blgB x y = false then 122 else 0) := Lib.hid hce
 clear hce
 simp only [prmV] at *
 have BG1 := Lib.hid (BG.out x y)
 generalize blgB x y = bl at *
 obtain ⟨xk, xf, xc, xs, xx⟩ := x
 obtain ⟨yk, yf, yc, ys, yx⟩ := y
 simp only [ltA] at *
 clear BG
 by_cases hw : who ≠ 0 ∧ who ≠ 1
 case pos =>
  obtain rfl : ce = 2 := HC.out.trans (if_pos hw)
  have q0 : (who != 0) = true := by simpa using hw.1
  have q1 : (who != 1) = true := by simpa using hw.2
  clear HC hw
  go_enter Tryz.func35, Tryz.ntmps35
  go_wp2_with fail
  go_returns
  first | exact ⟨rfl, Below.refl _ _⟩ | exact .inl ⟨by decide, rfl, Below.refl _ _⟩
 have HC1 := Lib.hid (HC.out.trans (if_neg hw))
 have hg : who = 0 ∨ who = 1 := by omega
 clear HC hw
 have hq : ((who != 0) = false) ∨ ((who != 0) = true ∧ (who != 1) = false) := by
  rcases hg with rfl | rfl
  ·exact .inl rfl
  ·exact .inr ⟨rfl, rfl⟩
 have HG := Lib.hid hg
 clear hg
 rcases hq with hq0 | ⟨hq0, hq1⟩
 all_goals
  go_enter Tryz.func35, Tryz.ntmps35
  go_wp2_with fail
  refine PR.out.mono ?_
  rintro e w1 ⟨rfl, u1⟩
  have b1 := bmore u1 (bZ w1 (.cells #[.int .i64 xk, .int .i64 xf, .int .u64 xc, .string xs, .bool xx] LtT))
  have h1 := heap_alloc_new w1 (.cells #[.int .i64 xk, .int .i64 xf, .int .u64 xc, .string xs, .bool xx] LtT)
  have b2 := bZ (w1.alloc (.cells #[.int .i64 xk, .int .i64 xf, .int .u64 xc, .string xs, .bool xx] LtT)) (.cells #[.int .i64 yk, .int .i64 yf, .int .u64 yc, .string ys, .bool yx] LtT)
  have h2 := heap_alloc_new (w1.alloc (.cells #[.int .i64 xk, .int .i64 xf, .int .u64 xc, .string xs, .bool xx] LtT)) (.cells #[.int .i64 yk, .int .i64 yf, .int .u64 yc, .string ys, .bool yx] LtT)
  have h1' := Hold.below b2 _ _ h1
  have HB2 := Lib.hid (bmore b1 b2)
  rw [show (w1.alloc (.cells #[.int .i64 xk, .int .i64 xf, .int .u64 xc, .string xs, .bool xx] LtT)).heap.size = w1.heap.size + 1 from by simp] at h2
  have HH0 := Lib.hid h1'
  have HH1 := Lib.hid h2
  clear b1 b2 h1 h1' h2 u1 PR
  go_upto_region 4 with fail
  generalize ((w1.alloc (.cells #[.int .i64 xk, .int .i64 xf, .int .u64 xc, .string xs, .bool xx] LtT)).alloc (.cells #[.int .i64 yk, .int .i64 yf, .int .u64 yc, .string ys, .bool yx] LtT)) = w2 at *
  generalize w1.heap.size + 1 = m1 at *
  generalize w1.heap.size = m0 at *
  have x0 := cellB (j := 0) HH0.out rfl
  have y0 := cellB (j := 0) HH1.out rfl
  have x1 := cellB (j := 1) HH0.out rfl
  have y1 := cellB (j := 1) HH1.out rfl
  have x2 := cellB (j := 2) HH0.out rfl
  have y2 := cellB (j := 2) HH1.out rfl
  have x3 := cellB (j := 3) HH0.out rfl
  have y3 := cellB (j := 3) HH1.out rfl
  have x4 := cellB (j := 4) HH0.out rfl
  have y4 := cellB (j := 4) HH1.out rfl
  by_cases e0 : er = 0
  case neg =>
   have q1 : (er != 0) = true := by simpa using e0
   obtain rfl : ce = er := HC1.out.trans (if_pos e0)
   have E0 := Lib.hid e0
   clear e0 HC1
   go_wp2_with fail
   go_returns
   exact .inl ⟨E0.out, rfl, HB2.out⟩
  subst e0
  have HIN1 := Lib.hid (HIN.out rfl)
  clear HIN
  have HC2 := Lib.hid (HC1.out.trans (if_neg (by simp)))
  clear HC1
  go_wp2_with fail
  refine (BG1.out _).mono ?_
  rintro e w3 ⟨rfl, u3⟩
  have HB3 := Lib.hid (bmore HB2.out u3)
  clear u3 HB2 HH0 HH1 x0 x1 x2 x3 x4 y0 y1 y2 y3 y4
  cases bl with
  | false =>
   obtain rfl : ce = 122 := HC2.out.trans (if_pos rfl)
   go_wp2_with fail
   go_returns
   first | exact ⟨rfl, HB3.out⟩ | exact .inl ⟨by decide, rfl, HB3.out⟩
  | true =>
   obtain rfl : ce = 0 := HC2.out.trans (if_neg (by simp))
   clear HC2 BG1
   go_upto_region 9 with fail
   have hW := heap_alloc_new w3 (.cells #[.int .i64 3, .int .i64 0, .int .i64 0, .int .u64 0, .string ⟨#[114, 101, 115, 111, 108, 118, 101]⟩, .slice none 0 0] TrT)
   have HBW := Lib.hid (bmore HB3.out (bZ w3 (.cells #[.int .i64 3, .int .i64 0, .int .i64 0, .int .u64 0, .string ⟨#[114, 101, 115, 111, 108, 118, 101]⟩, .slice none 0 0] TrT)))
   have HP4 := Lib.hid (HP.out.below HBW.out)
   have HL4 := Lib.hid (HLL.out.below HBW.out)
   have TA4 := Lib.hid (fun (W : World) (hb : Below (w3.alloc (.cells #[.int .i64 3, .int .i64 0, .int .i64 0, .int .u64 0, .string ⟨#[114, 101, 115, 111, 108, 118, 101]⟩, .slice none 0 0] TrT)).heap.size (w3.alloc (.cells #[.int .i64 3, .int .i64 0, .int .i64 0, .int .u64 0, .string ⟨#[114, 101, 115, 111, 108, 118, 101]⟩, .slice none 0 0] TrT)) W) => TA.out W (bmore HBW.out hb))
   have TB4 := Lib.hid (fun (W : World) (hb : Below (w3.alloc (.cells #[.int .i64 3, .int .i64 0, .int .i64 0, .int .u64 0, .string ⟨#[114, 101, 115, 111, 108, 118, 101]⟩, .slice none 0 0] TrT)).heap.size (w3.alloc (.cells #[.int .i64 3, .int .i64 0, .int .i64 0, .int .u64 0, .string ⟨#[114, 101, 115, 111, 108, 118, 101]⟩, .slice none 0 0] TrT)) W) => TB.out W (bmore HBW.out hb))
   clear TA TB HLL HP
   generalize (w3.alloc (.cells #[.int .i64 3, .int .i64 0, .int .i64 0, .int .u64 0, .string ⟨#[114, 101, 115, 111, 108, 118, 101]⟩, .slice none 0 0] TrT)) = w4 at *
   generalize w3.heap.size = mw at *
   obtain ⟨c0, c1, c2, c3, c4, c5⟩ := cs6 hW rfl rfl rfl rfl rfl rfl
   have HKP := Lib.hid (fun (W : World) (hb : Below w4.heap.size w4 W) => (⟨bcellAt hb c0, bcellAt hb c1, bcellAt hb c2, bcellAt hb c3, bcellAt hb c4, bcellAt hb c5, hb⟩ : W.cell? ⟨mw, 0, none⟩ = some (.int .i64 3) ∧ W.cell? ⟨mw, 1, none⟩ = some (.int .i64 0) ∧ W.cell? ⟨mw, 2, none⟩ = some (.int .i64 0) ∧ W.cell? ⟨mw, 3, none⟩ = some (.int .u64 0) ∧ W.cell? ⟨mw, 4, none⟩ = some (.string ⟨#[114, 101, 115, 111, 108, 118, 101]⟩) ∧ W.cell? ⟨mw, 5, none⟩ = some (.slice none 0 0) ∧ Below w4.heap.size w4 W))
   have EP := Lib.hid (fun (W : World) (hb : Below w4.heap.size w4 W) (n1 : Nd) (k1 : Fo) (v1 : Value) (n2 : Nd) (k2 : Fo) (v2 : Value) (hx : IsK W (NewE w4 (fun _ => True) W) v1 k1) (hy : IsK W (NewE w4 (fun _ => True) W) v2 k2) => (show Calls Tryz.prog 91 #[.agg (treeA n1 v1), .agg (treeA n2 v2)] W (TP w4 (fun _ => True) W (pairT (n1, k1) (n2, k2))) from epair_any (x := (n1, k1)) (y := (n2, k2)) hb.size (fun _ _ => trivial) hx hy))
   have EQ := Lib.hid (fun (W : World) (hb : Below w4.heap.size w4 W) (T : Tr) (v3 : Value) (hy : IsK W (NewE w4 (fun _ => True) W) v3 T.2) => (show Calls Tryz.prog 91 #[.agg #[.int .i64 3, .int .i64 0, .int .i64 0, .int .u64 0, .string ⟨#[114, 101, 115, 111, 108, 118, 101]⟩, .slice none 0 0], .agg (treeA T.1 v3)] W (TP w4 (fun _ => True) W (pairT (dataT resolveS) T)) from epair_any (x := dataT resolveS) (y := T) hb.size (fun _ _ => trivial) (IsK.nils _ _ _ _ (by decide)) hy))
   clear hW
   go_region_held3 (fun W => W.cell? ⟨mw, 0, none⟩ = some (.int .i64 3) ∧ W.cell? ⟨mw, 1, none⟩ = some (.int .i64 0) ∧ W.cell? ⟨mw, 2, none⟩ = some (.int .i64 0) ∧ W.cell? ⟨mw, 3, none⟩ = some (.int .u64 0) ∧ W.cell? ⟨mw, 4, none⟩ = some (.string ⟨#[114, 101, 115, 111, 108, 118, 101]⟩) ∧ W.cell? ⟨mw, 5, none⟩ = some (.slice none 0 0) ∧ Below w4.heap.size w4 W) ((refine HKP.out _ ?_; with_reducible (first | exact hb9 | exact b8 | exact b7 | exact b6 | exact b5 | exact bd _ | exact bmore b8 (bZ _ _) | exact bmore b7 (bZ _ _) | exact bmore b6 (bZ _ _) | exact bmore b5 (bZ _ _) | exact bmore (bd _) (bZ _ _))))
    ((first
     | ((with_reducible refine (TA4.out _ (by first | exact bd _ | exact bmore (bd _) (bZ _ _))).mono ?_); rintro e w5 ⟨n1, k1, v1, rfl, hk1, ok1, u1, re1, _⟩; have q1 := toE (w0 := w4) hk1 (Below.size (by first | exact bd _ | exact bmore (bd _) (bZ _ _))); have b5 : Below w4.heap.size w4 w5 := (by first | exact bmore (bd _) u1 | exact bmore (bmore (bd _) (bZ _ _)) u1))
     | ((with_reducible refine (TB4.out _ (by first | exact b5 | exact bmore b5 (bZ _ _))).mono ?_); rintro e w6 ⟨n2, k2, v2, rfl, hk2, ok2, u2, re2, _⟩; have q2 := toE (w0 := w4) hk2 (Below.size (by first | exact b5 | exact bmore b5 (bZ _ _))); have b6 : Below w4.heap.size w4 w6 := (by first | exact bmore b5 u2 | exact bmore (bmore b5 (bZ _ _)) u2))
     | ((with_reducible refine (EP.out _ (by first | exact b6 | exact bmore b6 (bZ _ _)) n1 k1 v1 n2 k2 v2 (q1.newE (by first | exact u2 | exact bmore (bZ _ _) u2 | exact bmore u2 (bZ _ _))) (by first | exact q2 | exact q2.newE (bZ _ _))).mono ?_); rintro e w7 ⟨v3, rfl, q3, u3⟩; have b7 : Below w4.heap.size w4 w7 := (by first | exact bmore b6 u3 | exact bmore (bmore b6 (bZ _ _)) u3))
     | ((with_reducible refine (EQ.out _ (by first | exact b7 | exact bmore b7 (bZ _ _)) (pairT (n1, k1) (n2, k2)) v3 (by first | exact q3 | exact q3.newE (bZ _ _))).mono ?_); intro e w8 h8; obtain ⟨va, vn, vc, rfl, q4, u4⟩ := h8.out rfl; have b8 : Below w4.heap.size w4 w8 := (by first | exact bmore b7 u4 | exact bmore (bmore b7 (bZ _ _)) u4); (first | (have hz : w8.heap[w4.heap.size]? = some zbx := Hold.below (bmore u1 (bmore u2 (bmore u3 u4))) _ _ (heap_alloc_new w4.drew zbx); have hm : w4.heap.size ≤ w4.heap.size := Nat.le_refl _; clear hk1 hk2 q1 q2 q3 u1 u2 u3 u4 b5 b6 b7) | (have hz : w8.heap[w5.heap.size]? = some zbx := Hold.below (bmore u2 (bmore u3 u4)) _ _ (heap_alloc_new w5 zbx); have hm := b5.size; clear hk1 hk2 q1 q2 q3 u1 u2 u3 u4 b5 b6 b7; generalize w5.heap.size = m at *) | (have hz : w8.heap[w6.heap.size]? = some zbx := Hold.below (bmore u3 u4) _ _ (heap_alloc_new w6 zbx); have hm := b6.size; clear hk1 hk2 q1 q2 q3 u1 u2 u3 u4 b5 b6 b7; generalize w6.heap.size = m at *) | (have hz : w8.heap[w7.heap.size]? = some zbx := Hold.below u4 _ _ (heap_alloc_new w7 zbx); have hm := b7.size; clear hk1 hk2 q1 q2 q3 u1 u2 u3 u4 b5 b6 b7; generalize w7.heap.size = m at *) | (have hz : (w8.alloc zbx).heap[w8.heap.size]? = some zbx := heap_alloc_new w8 zbx; have hm := b8.size; clear hk1 hk2 q1 q2 q3 u1 u2 u3 u4 b5 b6 b7)); obtain ⟨⟨z0, z1, z2, z3, z4, z5⟩, ⟨zf0, zf1, zf2, zf3, zf4, zf5⟩⟩ := zbx_all hz; have hb9 := set6_belw (v0 := .int .i64 4) (v1 := .int .i64 0) (v2 := .int .i64 0) (v3 := .int .u64 0) (v4 := .string emptyS) (v5 := .slice va vn vc) b8 hm)))
   all_goals
    obtain ⟨i1, i2, i3, i4⟩ := HIN1.out
    have r1 : RT p s (n1, k1) := re1 i1
    have r2 : RT p t (n2, k2) := re2 i2
    have g1 := i3 _ r1 (OkF.bare ok1)
    have g2 := i4 _ r2 (OkF.bare ok2)
    have nzz : NzF (pairT (dataT resolveS) (pairT (n1, k1) (n2, k2))).2 := by
     have a1 := RepF.nzf HPO.out r1
     have a2 := RepF.nzf HPO.out r2
     exact ⟨show (3 : Int) ≠ 0 by decide, trivial, show (4 : Int) ≠ 0 by decide, ⟨a1.1, a1.2.1, a2.1, a2.2.1, trivial⟩, trivial⟩
    have RO := Lib.hid (fun (W : World) (hb : Below w.heap.size w W) (v : Value) (hk : IsK W (Safe W B) v (one (pairT (dataT resolveS) (pairT (n1, k1) (n2, k2))))) => ROF.out W hb HG.out (n1, k1) (n2, k2) r1 r2 ok1 ok2 g1 g2 v hk)
    have HR1 := Lib.hid (And.intro r1 (And.intro r2 (And.intro (OkF.bare ok1) (OkF.bare ok2))))
    obtain ⟨qq, hqq⟩ : ∃ qq, qq = ofP (signT who (pairT (dataT resolveS) (pairT (n1, k1) (n2, k2)))).1 (signT who (pairT (dataT resolveS) (pairT (n1, k1) (n2, k2)))).2 p := ⟨_, rfl⟩
    rw [← hqq] at RO
    have HQQ := Lib.hid hqq
    clear i1 i2 i3 i4 re1 re2 g1 g2 r1 r2 ok1 ok2 hqq ROF HIN1 h8 z0 z1 z2 z3 z4 z5 zf0 zf1 zf2 zf3 zf4 zf5 TA4 TB4 EP EQ HKP HP4 HL4 c0 c1 c2 c3 c4 c5
    first
     | (generalize hw9 : ((((((w8.setCell ⟨m, 0, none⟩ (.int .i64 4)).setCell ⟨m, 1, none⟩ (.int .i64 0)).setCell ⟨m, 2, none⟩ (.int .i64 0)).setCell ⟨m, 3, none⟩ (.int .u64 0)).setCell ⟨m, 4, none⟩ (.string emptyS)).setCell ⟨m, 5, none⟩ (.slice va vn vc)) = w9 at *; have hbx := req_box (w4 := w4) (w8 := w8) (w9 := w9) (m := m) nzz q4 (.inl ⟨hz, hw9.symm⟩); have hb10 := hb9; clear hw9)
     | (generalize hw9 : ((((((w8.setCell ⟨w4.heap.size, 0, none⟩ (.int .i64 4)).setCell ⟨w4.heap.size, 1, none⟩ (.int .i64 0)).setCell ⟨w4.heap.size, 2, none⟩ (.int .i64 0)).setCell ⟨w4.heap.size, 3, none⟩ (.int .u64 0)).setCell ⟨w4.heap.size, 4, none⟩ (.string emptyS)).setCell ⟨w4.heap.size, 5, none⟩ (.slice va vn vc)) = w9 at *; have hbx := req_box (w4 := w4) (w8 := w8) (w9 := w9) (m := w4.heap.size) nzz q4 (.inl ⟨hz, hw9.symm⟩); have hb10 := hb9; clear hw9; clear hb9 hm hz b8 q4; obtain ⟨m, hmm⟩ : ∃ m, m = w4.heap.size := ⟨_, rfl⟩)
     | (generalize hw9 : w8.alloc (.cells #[.int .i64 4, .int .i64 0, .int .i64 0, .int .u64 0, .string emptyS, .slice va vn vc] TrT) = w9 at *; have hbx := req_box (w4 := w4) (w8 := w8) (w9 := w9) (m := w8.heap.size) nzz q4 (.inr ⟨rfl, hw9.symm⟩); have hb10 : Below w4.heap.size w4 w9 := (by rw [← hw9]; exact bmore b8 (bZ _ _)); clear hw9; clear hb9 hm hz b8 q4)
    obtain ⟨hx, hk9⟩ := hbx
    have HK10 := Lib.hid (req_kids (B := B) hk9)
    have HB10 := Lib.hid (bmore (bmore HBW.out hb10) (bZ w9 (.cells #[.int .i64 4, .int .i64 0, .int .i64 0, .int .u64 0, .string emptyS, .slice va vn vc] TrT)))
    have RC := Lib.hid (RO.out _ HB10.out _ HK10.out)
    obtain ⟨x0, x1, x2, x3, x4, x5⟩ := box6 hx
    clear hx hk9 nzz HK10 RO HBW hb10
    go_wp2_with fail
    refine RC.out.mono ?_
    rintro e w11 ⟨rfl, g11⟩
    have HGG := Lib.hid (Grew.after HPP.out HB10.out g11)
    clear g11
    go_wp2_with fail
    go_returns
    have hr1 := HR1.out
    have hg1 := HGG.out
    rw [HQQ.out] at hg1
    rw [HQQ.out]
    have hok : ReqOk w B a b vv p who s t _ _ := ⟨(n1, k1), (n2, k2), hr1.1, hr1.2.1, hr1.2.2.1, hr1.2.2.2, rfl, hg1⟩
    first
     | exact hok
     | exact .inr ⟨rfl, hok⟩
end
end Go.Proofs.YtjmcaceegfdkkaaGreatDoor
