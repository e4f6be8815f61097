/-
  Build in memory.
  belong; Convert.
-/
import Derived.Deep.DeepCutAuto
import Derived.Test.YtjmcaceegfdkkaaGreatDoorQcLChk
import Derived.Test.YtjmcaceegfdkkaaGreatDoorQcFPro
import Derived.Test.YtjmcaceegfdkkaaGreatDoorQcTAlike
namespace Go.Proofs.YtjmcaceegfdkkaaGreatDoor
open Go.RowKit Go.Maps
set_option linter.unusedVariables false
theorem tree_any {w : World} (hl : LaidK w) {l : Lt} (hc : chkP l = 0) {w0 : World} {E : Nat → Prop} (hB : w0.heap.size ≤ w.heap.size) (hE : ∀ b, w.heap.size ≤ b → E b) : Calls Tryz.prog 114 #[.agg (ltA l)] w (TP w0 E w (letT l true true)) := by
 obtain ⟨⟨k1, k2⟩, hfr, _, _, _⟩ := chk_ok.1 hc
 obtain ⟨lk, lf, lc, ls, lx⟩ := l
 simp only at k1 k2 hfr
 have hf : lf = 0 ∨ lf = 1 := by rcases hfr with h | h; exact .inl h; exact .inr h.1
 have hk : lk = 1 ∨ lk = 2 ∨ lk = 3 ∨ lk = 4 ∨ lk = 5 ∨ lk = 6 ∨ lk = 7 := by omega
 rcases hk with rfl | rfl | rfl | rfl | rfl | rfl | rfl
 ·exact tree_1 hl hB hE hf
 ·exact tree_2 hl hB hE hf
 ·exact tree_3 hl hB hE hf
 ·exact tree_4 hl hB hE hf
 ·exact tree_5 hl hB hE hf
 ·exact tree_6 hl hB hE hf
 ·exact tree_7 hl hB hE hf
theorem small_i64 {n : Int} (h : -1000 ≤ n ∧ n ≤ 1000) : i64R n := by unfold i64R; omega
theorem size_le {s : ByteArray} (h : s.size ≤ 64) : s.size ≤ maxLen := by unfold maxLen; omega
theorem ndok_mk {k f t n : Int} {s : ByteArray} (hk : -1000 ≤ k ∧ k ≤ 1000) (hf : -1000 ≤ f ∧ f ≤ 1000) (ht : -1000 ≤ t ∧ t ≤ 1000) (hn : 0 ≤ n ∧ n ≤ 18446744073709551615) (hs : s.size ≤ 64) : NdOk ⟨k, f, t, n, s, 0, 0⟩ :=
 ⟨small_i64 hk, small_i64 hf, small_i64 ht, hn, size_le hs, small_i64 (by simp), small_i64 (by simp)⟩
def OkT (x : Tr) : Prop := OkF (one x)
theorem okt_data {s : ByteArray} (h : s.size ≤ 64) : OkT (dataT s) := ⟨ndok_mk (by omega) (by omega) (by omega) (by omega) h, rfl, rfl, trivial, trivial⟩
theorem okt_num {n : Int} (h : 0 ≤ n ∧ n ≤ 18446744073709551615) : OkT (numT n) := ⟨ndok_mk (by omega) (by omega) (by omega) h (by decide), rfl, rfl, trivial, trivial⟩
theorem okt_pair {x y : Tr} (hx : OkT x) (hy : OkT y) : OkT (pairT x y) := ⟨ndok_mk (by omega) (by omega) (by omega) (by omega) (by decide), rfl, rfl, ⟨hx.1, hx.2.1, hx.2.2.1, hx.2.2.2.1, hy⟩, trivial⟩
theorem okt_sign {x : Tr} {who : Int} (hw : -1000 ≤ who ∧ who ≤ 1000) (hx : OkT x) : OkT (signT who x) := ⟨ndok_mk (by omega) hw (by omega) (by omega) (by decide), rfl, rfl, hx, trivial⟩
theorem okt_prom {x : Tr} {who : Int} (hw : 0 ≤ who ∧ who ≤ 1) (hx : OkT x) (f : Bool) : OkT (promT who x f) := ⟨ndok_mk (by cases f <;> simp) (by omega) (by omega) (by omega) (by decide), rfl, rfl, hx, trivial⟩
theorem okt_deal {c : Int} {s : ByteArray} (hc : 0 ≤ c ∧ c ≤ 18446744073709551615) (hs : s.size ≤ 64) : OkT (dealT c s) := okt_pair (okt_data (by decide)) (okt_pair (okt_num hc) (okt_data hs))
theorem okt_let {l : Lt} (h : chkP l = 0) (hc : 0 ≤ l.c ∧ l.c ≤ 18446744073709551615) (f1 f2 : Bool) : OkT (letT l f1 f2) := by
 obtain ⟨_, hfr, _, _, hs⟩ := chk_ok.1 h
 have hf : l.frm = 0 ∨ l.frm = 1 := by rcases hfr with h | h; exact .inl h; exact .inr h.1
 have hd := okt_deal hc hs
 unfold letT
 split
 ·exact okt_prom (by omega) hd _
 split
 ·exact okt_sign (by omega) hd
 split
 ·exact okt_sign (by omega) (okt_pair (okt_data (by decide)) (okt_num hc))
 split
 ·exact okt_sign (by omega) (okt_pair (okt_data (by decide)) (okt_pair (okt_prom (by omega) hd _) (okt_prom (by omega) hd _)))
 split
 ·exact okt_sign (by omega) (okt_pair (okt_data (by decide)) (okt_num hc))
 split
 ·exact okt_sign (by omega) (okt_pair (okt_data (by decide)) hd)
 ·exact okt_pair (okt_data (by decide)) (okt_num hc)
theorem let_of {l : Lt} (h : chkP l = 0) (f1 f2 : Bool) {p : Pl} (hp : Ok p) (hr : p.length + 20 ≤ 65536) (hb : Bare (one (letT l f1 f2))) : (lkT (letT l f1 f2).1 (letT l f1 f2).2 0 0).2 = 0 ∧ (grT (letT l f1 f2).1 (letT l f1 f2).2 p).2.1 = 0 ∧ ofP (letT l f1 f2).1 (letT l f1 f2).2 p = grT (letT l f1 f2).1 (letT l f1 f2).2 p ∧ RT (grT (letT l f1 f2).1 (letT l f1 f2).2 p).2.2 (grT (letT l f1 f2).1 (letT l f1 f2).2 p).1 (letT l f1 f2) ∧ Ok (grT (letT l f1 f2).1 (letT l f1 f2).2 p).2.2 ∧ ∃ e, (grT (letT l f1 f2).1 (letT l f1 f2).2 p).2.2 = p ++ e ∧ e.length ≤ 20 := by
 obtain ⟨g1, g2, g3⟩ := gd_let h f1 f2
 have hl := good_lkT g1 (Nat.le_trans g2 (by decide)) (Nat.le_trans g3 (by decide))
 have hs : (Fo.cons (letT l f1 f2).1 (letT l f1 f2).2 .nil).size ≤ 20 := g2
 rcases ofP_ok (letT l f1 f2).1 (letT l f1 f2).2 p hp hb (by omega) with ⟨h0, _⟩ | ⟨h0, h1, h2, h3, h4, e, h5, h6⟩
 ·exact absurd hl h0
 ·exact ⟨h0, h1, h2, h3, h4, e, h5, by omega⟩
def BuildPost (w : World) (B a b : Nat) (vv : Value) (p : Pl) (l : Lt) (e : Ending) (w' : World) : Prop :=
 (chkP l ≠ 0 ∧ e = .returned (.tuple #[.int .i64 0, .int .i64 (chkP l)]) ∧ Below w.heap.size w w') ∨ (chkP l = 0 ∧ OfPost w B a b vv (ofP (letT l true true).1 (letT l true true).2 p) e w')
section
variable {w : World} {B a b : Nat} {vv : Value} {p : Pl}
set_option maxRecDepth 100000 in
set_option maxHeartbeats 3200000 in
theorem build_any (hB : 1 < B) (hL : Laid w) (hl : LaidK w) (hp : IsPool w B a b vv p) {l : Lt} (hc : 0 ≤ l.c ∧ l.c ≤ 18446744073709551615) (hr : p.length + 20 ≤ 65536) : Calls Tryz.prog 62 #[.pointer (some ⟨a, 0, none⟩), .agg (ltA l)] w (BuildPost w B a b vv p l) := by
 have CK := Lib.hid (fun (W : World) (hb : Below w.heap.size w W) => check_any (hl.below hb) l)
 have TR := Lib.hid (fun (h0 : chkP l = 0) (W : World) (hb : Below w.heap.size w W) => tree_any (hl.below hb) h0 (w0 := w) (E := fun _ => True) hb.size (fun _ _ => trivial))
 have OFF := Lib.hid (fun (h0 : chkP l = 0) (W : World) (hb : Below w.heap.size w W) (v : Value) (hk : IsK W (NewE w (fun _ => True) W) v (letT l true true).2) => by
  have ho := okt_let h0 hc true true
  have hg := let_of h0 true true hp.ok hr ho.bare
  exact pof hB (hL.below hb) (hp.below hb) (IsK.newT (w := w) (B := B) (IsK.of (w' := W) hk fun b hg hl => hg.1)) ho.1 ho.2.1 ho.2.2.1 ho.2.2.2.1 (fun _ => hg.2.1))
 have HP := Lib.hid hp
 clear hB hL hl hp hc hr
 obtain ⟨ch, hch⟩ : ∃ ch, ch = chkP l := ⟨_, rfl⟩
 have HC := Lib.hid hch
 rw [← hch] at CK TR OFF
 unfold BuildPost
 rw [← hch]
 clear hch
 generalize letT l true true = T at *
 generalize ofP T.1 T.2 p = q at *
 obtain ⟨⟨k1, f1, t1, n1, s1, xa, xb⟩, kx⟩ := T
 obtain ⟨lk, lf, lc, ls, lx⟩ := l
 simp only [ltA] at *
 have b1 := bZ w (.cells #[.int .i64 lk, .int .i64 lf, .int .u64 lc, .string ls, .bool lx] LtT)
 have h1 := heap_alloc_new w (.cells #[.int .i64 lk, .int .i64 lf, .int .u64 lc, .string ls, .bool lx] LtT)
 have HB1 := Lib.hid b1
 have HH1 := Lib.hid h1
 clear b1 h1
 obtain ⟨l0, l1, l2, l3, l4⟩ := cs5 HH1.out rfl rfl rfl rfl rfl
 go_enter Tryz.func62, Tryz.ntmps62
 go_wp2_with fail
 generalize (w.alloc (.cells #[.int .i64 lk, .int .i64 lf, .int .u64 lc, .string ls, .bool lx] LtT)) = w1 at *
 refine (CK.out _ HB1.out).mono ?_
 rintro e w2 ⟨rfl, u2⟩
 have HB2 := Lib.hid (bmore HB1.out u2)
 have HH2 := Lib.hid (Hold.below u2 _ _ HH1.out)
 clear u2 l0 l1 l2 l3 l4 CK
 by_cases h0 : ch = 0
 case neg =>
  have hne : (ch != 0) = true := by simpa using h0
  have H0 := Lib.hid h0
  clear h0
  go_wp2_with fail
  go_returns
  exact .inl ⟨H0.out, rfl, HB2.out⟩
 have hne : (ch != 0) = false := by rw [h0]; rfl
 obtain ⟨l0, l1, l2, l3, l4⟩ := cs5 HH2.out rfl rfl rfl rfl rfl
 have TR2 := Lib.hid (TR.out h0)
 have OF2 := Lib.hid (OFF.out h0)
 have H0 := Lib.hid h0
 clear h0 TR OFF
 go_wp2_with fail
 refine (TR2.out _ HB2.out).mono ?_
 rintro e w3 ⟨v3, rfl, k3, u3⟩
 have OF3 := Lib.hid (OF2.out _ (bmore HB2.out u3) v3 k3)
 have HB3 := Lib.hid (bmore HB2.out u3)
 clear u3 k3 OF2 TR2 l0 l1 l2 l3 l4
 go_wp2_with fail
 refine OF3.out.mono ?_
 rintro e w4 ⟨rfl, g4⟩
 have HG := Lib.hid (Grew.after HP.out HB3.out g4)
 clear g4
 go_wp2_with fail
 go_returns
 exact .inr ⟨H0.out, rfl, HG.out⟩
end
end Go.Proofs.YtjmcaceegfdkkaaGreatDoor
namespace Go.Proofs.YtjmcaceegfdkkaaGreatDoor
open Go.RowKit Go.Maps
set_option linter.unusedVariables false
section
variable {w : World}
set_option maxRecDepth 100000 in
set_option maxHeartbeats 3200000 in
theorem blg_any (x y : Lt) (w : World) : Calls Tryz.prog 84 #[.agg (ltA x), .agg (ltA y)] w fun e w' => e = .returned (.bool (blgB x y)) ∧ Below w.heap.size w w' := by
 obtain ⟨xk, xf, xc, xs, xx⟩ := x
 obtain ⟨yk, yf, yc, ys, yx⟩ := y
 obtain ⟨rr, hrr⟩ : ∃ rr, rr = blgB ⟨xk, xf, xc, xs, xx⟩ ⟨yk, yf, yc, ys, yx⟩ := ⟨_, rfl⟩
 rw [← hrr]
 have HR : Hid (rr = (xf == 0 && (yf == 1 && (xc == yc && xs.toList == ys.toList)))) := Lib.hid hrr
 clear hrr
 simp only [ltA] at *
 have b0 := bZ w (.cells #[.int .i64 xk, .int .i64 xf, .int .u64 xc, .string xs, .bool xx] LtT)
 have h0 := heap_alloc_new w (.cells #[.int .i64 xk, .int .i64 xf, .int .u64 xc, .string xs, .bool xx] LtT)
 have b1 := bZ (w.alloc (.cells #[.int .i64 xk, .int .i64 xf, .int .u64 xc, .string xs, .bool xx] LtT)) (.cells #[.int .i64 yk, .int .i64 yf, .int .u64 yc, .string ys, .bool yx] LtT)
 have h1 := heap_alloc_new (w.alloc (.cells #[.int .i64 xk, .int .i64 xf, .int .u64 xc, .string xs, .bool xx] LtT)) (.cells #[.int .i64 yk, .int .i64 yf, .int .u64 yc, .string ys, .bool yx] LtT)
 have h0' := Hold.below b1 _ _ h0
 have HB := Lib.hid (bmore b0 b1)
 rw [show (w.alloc (.cells #[.int .i64 xk, .int .i64 xf, .int .u64 xc, .string xs, .bool xx] LtT)).heap.size = w.heap.size + 1 from by simp] at h1
 have HH0 := Lib.hid h0'
 have HH1 := Lib.hid h1
 clear b0 b1 h0 h0' h1
 go_enter Tryz.func84, Tryz.ntmps84
 go_upto_region 1 with fail
 generalize ((w.alloc (.cells #[.int .i64 xk, .int .i64 xf, .int .u64 xc, .string xs, .bool xx] LtT)).alloc (.cells #[.int .i64 yk, .int .i64 yf, .int .u64 yc, .string ys, .bool yx] LtT)) = w2 at *
 generalize w.heap.size + 1 = m1 at *
 have x1 := cellB (j := 1) HH0.out rfl
 have x2 := cellB (j := 2) HH0.out rfl
 have x3 := cellB (j := 3) HH0.out rfl
 have y1 := cellB (j := 1) HH1.out rfl
 have y2 := cellB (j := 2) HH1.out rfl
 have y3 := cellB (j := 3) HH1.out rfl
 by_cases e1 : xf = 0
 case neg =>
  have q1 : (xf == 0) = false := by simpa using e1
  obtain rfl : rr = false := HR.out.trans (by rw [q1]; rfl)
  clear e1 HR
  go_wp2_with fail
  go_returns
  exact ⟨rfl, HB.out⟩
 by_cases e2 : yf = 1
 case neg =>
  have q1 : (xf == 0) = true := by simpa using e1
  have q2 : (yf == 1) = false := by simpa using e2
  obtain rfl : rr = false := HR.out.trans (by rw [q1, q2]; rfl)
  clear e1 e2 HR
  go_wp2_with fail
  go_returns
  exact ⟨rfl, HB.out⟩
 by_cases e3 : xc = yc
 case neg =>
  have q1 : (xf == 0) = true := by simpa using e1
  have q2 : (yf == 1) = true := by simpa using e2
  have q3 : (xc == yc) = false := by simpa using e3
  obtain rfl : rr = false := HR.out.trans (by rw [q1, q2, q3]; rfl)
  clear e1 e2 e3 HR
  go_wp2_with fail
  go_returns
  exact ⟨rfl, HB.out⟩
 have q1 : (xf == 0) = true := by simpa using e1
 have q2 : (yf == 1) = true := by simpa using e2
 have q3 : (xc == yc) = true := by simpa using e3
 obtain rfl : rr = (xs.toList == ys.toList) := HR.out.trans (by rw [q1, q2, q3]; rfl)
 clear e1 e2 e3 HR
 go_wp2_with fail
 go_returns
 exact ⟨rfl, HB.out⟩
end
def cnvE (q : Lt × Lt × Int) : Int := if q.2.2 ≠ 0 then q.2.2 else if (q.1.fake || q.2.1.fake) = true then 121 else if blgB q.1 q.2.1 = false then 122 else 0
def repL (x : Lt) : Lt := ⟨6, 0, x.c, x.text, false⟩
theorem prm_ok {p : Pl} {s t : Int} (h : (prmL p s t).2.2 = 0) : ∃ x y, rdP p s = some x ∧ rdP p t = some y ∧ x.kind = 1 ∧ y.kind = 1 ∧ prmL p s t = (x, y, 0) ∧ inP p s = true ∧ inP p t = true := by
 unfold prmL at h ⊢
 by_cases h1 : inP p s = false ∨ inP p t = false
 ·rw [if_pos h1] at h; simp at h
 rw [if_neg h1] at h ⊢
 by_cases h2 : ((rdP p s).getD zeroL).kind ≠ 1 ∨ ((rdP p t).getD zeroL).kind ≠ 1
 ·rw [if_pos h2] at h; simp at h
 rw [if_neg h2] at h ⊢
 have k1 : ((rdP p s).getD zeroL).kind = 1 := by omega
 have k2 : ((rdP p t).getD zeroL).kind = 1 := by omega
 have i1 : inP p s = true := by cases h : inP p s <;> simp_all
 have i2 : inP p t = true := by cases h : inP p t <;> simp_all
 cases hx : rdP p s with
 | none => rw [hx] at k1; simp [zeroL] at k1
 | some x =>
  cases hy : rdP p t with
  | none => rw [hy] at k2; simp [zeroL] at k2
  | some y =>
   rw [hx] at k1
   rw [hy] at k2
   exact ⟨x, y, rfl, rfl, k1, k2, rfl, i1, i2⟩
theorem prm_c {p : Pl} (hn : ∀ m ∈ p, NdOk m.1) {t : Int} {x : Lt} (h : rdP p t = some x) (hk : x.kind = 1) : 0 ≤ x.c ∧ x.c ≤ 18446744073709551615 := by
 have hp : prP p t = some x := by
  unfold rdP at h
  split at h
  ·exact h
  split at h
  ·exfalso
   unfold rdS at h
   repeat' (split at h)
   all_goals (first | (cases h; done) | (simp only [Option.map_eq_some_iff] at h; obtain ⟨y, _, rfl⟩ := h; simp at hk))
  ·cases h
 unfold prP at hp
 split at hp
 ·rename_i c s' hd
  split at hp
  ·cases hp
   unfold dlP at hd
   split at hd
   ·cases hd
    exact (atP_nok hn _).num
   ·cases hd
  ·cases hp
 ·cases hp
theorem rep_ok {p : Pl} (hp : Ok p) {t : Int} {x : Lt} (h : rdP p t = some x) : chkP (repL x) = 0 := by
 have h2 := (chk_ok.1 ((rd_some hp).1 h).1).2.2.2.2
 exact chk_ok.2 ⟨⟨by simp [repL], by simp [repL]⟩, .inl rfl, .inr rfl, fun h => absurd h (by simp [repL]), h2⟩
def CnvPost (w : World) (B a b : Nat) (vv : Value) (p : Pl) (q : Lt × Lt × Int) (e : Ending) (w' : World) : Prop :=
 (cnvE q ≠ 0 ∧ e = .returned (.tuple #[.int .i64 0, .int .i64 (cnvE q)]) ∧ Below w.heap.size w w') ∨ (cnvE q = 0 ∧ OfPost w B a b vv (ofP (letT (repL q.1) true true).1 (letT (repL q.1) true true).2 p) e w')
section
variable {w : World} {B a b : Nat} {vv : Value} {p : Pl}
set_option maxRecDepth 100000 in
set_option maxHeartbeats 6400000 in
theorem cnv_any (hB : 1 < B) (hL : Laid w) (hl : LaidK w) (hp : IsPool w B a b vv p) (hr : p.length + 20 ≤ 65536) (s t : Int) : Calls Tryz.prog 29 #[.pointer (some ⟨a, 0, none⟩), .int .i64 s, .int .i64 t] w (CnvPost w B a b vv p (prmL p s t)) := by
 have PR := Lib.hid (prm_any hp hl s t)
 have BG := Lib.hid (fun (x y : Lt) (W : World) => blg_any x y W)
 have BD := Lib.hid (fun (W : World) (hb : Below w.heap.size w W) (h0 : (prmL p s t).2.2 = 0) => by
  obtain ⟨x, y, h1, h2, h3, h4, h5, _⟩ := prm_ok h0
  have hc := prm_c hp.nok h1 h3
  have hk := rep_ok hp.ok h1
  have h6 : (prmL p s t).1 = x := by rw [h5]
  rw [← h6] at hc hk
  exact (build_any hB (hL.below hb) (hl.below hb) (hp.below hb) (l := repL (prmL p s t).1) hc hr).mono fun e w' h => (h.resolve_left fun h => h.1 hk).2)
 have HP := Lib.hid hp
 clear hB hL hl hp hr
 generalize prmL p s t = q at *
 obtain ⟨x, y, er⟩ := q
 obtain ⟨ce, hce⟩ : ∃ ce, ce = cnvE (x, y, er) := ⟨_, rfl⟩
 unfold CnvPost
 rw [← hce]
 have HC : Hid (ce = if er ≠ 0 then er else if (x.fake || y.fake) = true then 121 else if blgB x y = false then 122 else 0) := Lib.hid hce
 clear hce
 simp only [prmV] at *
 have BG1 := Lib.hid (BG.out x y)
 generalize blgB x y = bl at *
 generalize ofP (letT (repL x) true true).1 (letT (repL x) true true).2 p = oq at *
 obtain ⟨xk, xf, xc, xs, xx⟩ := x
 obtain ⟨yk, yf, yc, ys, yx⟩ := y
 simp only [ltA, repL] at *
 clear BG
 go_enter Tryz.func29, Tryz.ntmps29
 go_wp2_with fail
 refine PR.out.mono ?_
 rintro e w1 ⟨rfl, u1⟩
 have b1 := bmore u1 (bZ w1 (.cells #[.int .i64 xk, .int .i64 xf, .int .u64 xc, .string xs, .bool xx] LtT))
 have h1 := heap_alloc_new w1 (.cells #[.int .i64 xk, .int .i64 xf, .int .u64 xc, .string xs, .bool xx] LtT)
 have b2 := bZ (w1.alloc (.cells #[.int .i64 xk, .int .i64 xf, .int .u64 xc, .string xs, .bool xx] LtT)) (.cells #[.int .i64 yk, .int .i64 yf, .int .u64 yc, .string ys, .bool yx] LtT)
 have h2 := heap_alloc_new (w1.alloc (.cells #[.int .i64 xk, .int .i64 xf, .int .u64 xc, .string xs, .bool xx] LtT)) (.cells #[.int .i64 yk, .int .i64 yf, .int .u64 yc, .string ys, .bool yx] LtT)
 have h1' := Hold.below b2 _ _ h1
 have HB2 := Lib.hid (bmore b1 b2)
 rw [show (w1.alloc (.cells #[.int .i64 xk, .int .i64 xf, .int .u64 xc, .string xs, .bool xx] LtT)).heap.size = w1.heap.size + 1 from by simp] at h2
 have HH0 := Lib.hid h1'
 have HH1 := Lib.hid h2
 clear b1 b2 h1 h1' h2 u1 PR
 go_upto_region 2 with fail
 generalize ((w1.alloc (.cells #[.int .i64 xk, .int .i64 xf, .int .u64 xc, .string xs, .bool xx] LtT)).alloc (.cells #[.int .i64 yk, .int .i64 yf, .int .u64 yc, .string ys, .bool yx] LtT)) = w2 at *
 generalize w1.heap.size + 1 = m1 at *
 generalize w1.heap.size = m0 at *
 have x0 := cellB (j := 0) HH0.out rfl
 have y0 := cellB (j := 0) HH1.out rfl
 have x1 := cellB (j := 1) HH0.out rfl
 have y1 := cellB (j := 1) HH1.out rfl
 have x2 := cellB (j := 2) HH0.out rfl
 have y2 := cellB (j := 2) HH1.out rfl
 have x3 := cellB (j := 3) HH0.out rfl
 have y3 := cellB (j := 3) HH1.out rfl
 have x4 := cellB (j := 4) HH0.out rfl
 have y4 := cellB (j := 4) HH1.out rfl
 by_cases e0 : er = 0
 case neg =>
  have q1 : (er != 0) = true := by simpa using e0
  obtain rfl : ce = er := HC.out.trans (if_pos e0)
  have E0 := Lib.hid e0
  clear e0 HC
  go_wp2_with fail
  go_returns
  exact .inl ⟨E0.out, rfl, HB2.out⟩
 subst e0
 have HC1 := Lib.hid (HC.out.trans (if_neg (by simp)))
 clear HC
 by_cases e1 : (xx || yx) = true
 case pos =>
  obtain rfl : ce = 121 := HC1.out.trans (if_pos e1)
  have hg : xx = true ∨ (xx = false ∧ yx = true) := by cases xx <;> simp_all
  clear HC1 e1
  rcases hg with rfl | ⟨rfl, rfl⟩
  all_goals
   go_wp2_with fail
   go_returns
   exact ⟨rfl, HB2.out⟩
 have HC2 := Lib.hid (HC1.out.trans (if_neg e1))
 have hxx : xx = false := by cases xx <;> simp_all
 have hyx : yx = false := by cases yx <;> simp_all
 subst hxx hyx
 clear HC1 e1
 go_wp2_with fail
 refine (BG1.out _).mono ?_
 rintro e w3 ⟨rfl, u3⟩
 have HB3 := Lib.hid (bmore HB2.out u3)
 have HH3 := Lib.hid (Hold.below u3 _ _ HH0.out)
 clear u3 HB2 HH0 HH1 x0 x1 x2 x3 x4 y0 y1 y2 y3 y4
 have x2 := cellB (j := 2) HH3.out rfl
 have x3 := cellB (j := 3) HH3.out rfl
 cases bl with
 | false =>
  obtain rfl : ce = 122 := HC2.out.trans (if_pos rfl)
  go_wp2_with fail
  go_returns
  first | exact ⟨rfl, HB3.out⟩ | exact .inl ⟨by decide, rfl, HB3.out⟩
 | true =>
  obtain rfl : ce = 0 := HC2.out.trans (if_neg (by simp))
  have BD3 := Lib.hid (BD.out _ HB3.out trivial)
  clear BD HC2
  go_wp2_with fail
  refine BD3.out.mono ?_
  rintro e w4 ⟨rfl, g4⟩
  have HG := Lib.hid (Grew.after HP.out HB3.out g4)
  clear g4
  go_wp2_with fail
  go_returns
  exact ⟨rfl, HG.out⟩
end
end Go.Proofs.YtjmcaceegfdkkaaGreatDoor
