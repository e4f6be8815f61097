/-
  belong; Convert.
-/
import Derived.Deep.DeepCutAuto
import Derived.Test.YtjmcaceegfdkkaaGreatDoorQaFPro
import Derived.Test.YtjmcaceegfdkkaaGreatDoorQaLBuilM
import Derived.Test.YtjmcaceegfdkkaaGreatDoorQaTLent
namespace Go.Proofs.YtjmcaceegfdkkaaGreatDoor
open Go.RowKit Go.Maps
set_option linter.unusedVariables false
section
variable {w : World}
set_option maxRecDepth 100000 in
set_option maxHeartbeats 3200000 in
theorem blg_any (x y : Lt) (w : World) : Calls Tryz.prog 84 #[.agg (ltA x), .agg (ltA y)] w fun e w' => e = .returned (.bool (blgB x y)) ∧ Below w.heap.size w w' := by
  obtain ⟨xk, xf, xc, xs, xx⟩ := x
  obtain ⟨yk, yf, yc, ys, yx⟩ := y
  obtain ⟨rr, hrr⟩ : ∃ rr, rr = blgB ⟨xk, xf, xc, xs, xx⟩ ⟨yk, yf, yc, ys, yx⟩ := ⟨_, rfl⟩
  rw [← hrr]
  have HR : Hid (rr = (xf == 0 && (yf == 1 && (xc == yc && xs.toList == ys.toList)))) := Lib.hid hrr
  clear hrr
  simp only [ltA] at *
  have b0 := bZ w (.cells #[.int .i64 xk, .int .i64 xf, .int .u64 xc, .string xs, .bool xx] LtT)
  have h0 := heap_alloc_new w (.cells #[.int .i64 xk, .int .i64 xf, .int .u64 xc, .string xs, .bool xx] LtT)
  have b1 := bZ (w.alloc (.cells #[.int .i64 xk, .int .i64 xf, .int .u64 xc, .string xs, .bool xx] LtT)) (.cells #[.int .i64 yk, .int .i64 yf, .int .u64 yc, .string ys, .bool yx] LtT)
  have h1 := heap_alloc_new (w.alloc (.cells #[.int .i64 xk, .int .i64 xf, .int .u64 xc, .string xs, .bool xx] LtT)) (.cells #[.int .i64 yk, .int .i64 yf, .int .u64 yc, .string ys, .bool yx] LtT)
  have h0' := Hold.below b1 _ _ h0
  have HB := Lib.hid (bmore b0 b1)
  rw [show (w.alloc (.cells #[.int .i64 xk, .int .i64 xf, .int .u64 xc, .string xs, .bool xx] LtT)).heap.size = w.heap.size + 1 from by simp] at h1
  have HH0 := Lib.hid h0'
  have HH1 := Lib.hid h1
  clear b0 b1 h0 h0' h1
  go_enter Tryz.func84, Tryz.ntmps84
  go_upto_region 1 with fail
  generalize ((w.alloc (.cells #[.int .i64 xk, .int .i64 xf, .int .u64 xc, .string xs, .bool xx] LtT)).alloc (.cells #[.int .i64 yk, .int .i64 yf, .int .u64 yc, .string ys, .bool yx] LtT)) = w2 at *
  generalize w.heap.size + 1 = m1 at *
  have x1 := cellB (j := 1) HH0.out rfl
  have x2 := cellB (j := 2) HH0.out rfl
  have x3 := cellB (j := 3) HH0.out rfl
  have y1 := cellB (j := 1) HH1.out rfl
  have y2 := cellB (j := 2) HH1.out rfl
  have y3 := cellB (j := 3) HH1.out rfl
  by_cases e1 : xf = 0
  case neg =>
    have q1 : (xf == 0) = false := by simpa using e1
    obtain rfl : rr = false := HR.out.trans (by rw [q1]; rfl)
    clear e1 HR
    go_wp2_with fail
    go_returns
    exact ⟨rfl, HB.out⟩
  by_cases e2 : yf = 1
  case neg =>
    have q1 : (xf == 0) = true := by simpa using e1
    have q2 : (yf == 1) = false := by simpa using e2
    obtain rfl : rr = false := HR.out.trans (by rw [q1, q2]; rfl)
    clear e1 e2 HR
    go_wp2_with fail
    go_returns
    exact ⟨rfl, HB.out⟩
  by_cases e3 : xc = yc
  case neg =>
    have q1 : (xf == 0) = true := by simpa using e1
    have q2 : (yf == 1) = true := by simpa using e2
    have q3 : (xc == yc) = false := by simpa using e3
    obtain rfl : rr = false := HR.out.trans (by rw [q1, q2, q3]; rfl)
    clear e1 e2 e3 HR
    go_wp2_with fail
    go_returns
    exact ⟨rfl, HB.out⟩
  have q1 : (xf == 0) = true := by simpa using e1
  have q2 : (yf == 1) = true := by simpa using e2
  have q3 : (xc == yc) = true := by simpa using e3
  obtain rfl : rr = (xs.toList == ys.toList) := HR.out.trans (by rw [q1, q2, q3]; rfl)
  clear e1 e2 e3 HR
  go_wp2_with fail
  go_returns
  exact ⟨rfl, HB.out⟩
end
/-- What Convert finds wrong with two terms. -/
def cnvE (q : Lt × Lt × Int) : Int := if q.2.2 ≠ 0 then q.2.2 else if (q.1.fake || q.2.1.fake) = true then 121 else if blgB q.1 q.2.1 = false then 122 else 0
def repL (x : Lt) : Lt := ⟨6, 0, x.c, x.text, false⟩
theorem prm_ok {p : Pl} {s t : Int} (h : (prmL p s t).2.2 = 0) : ∃ x y, rdP p s = some x ∧ rdP p t = some y ∧ x.kind = 1 ∧ y.kind = 1 ∧ prmL p s t = (x, y, 0) ∧ inP p s = true ∧ inP p t = true := by
  unfold prmL at h ⊢
  by_cases h1 : inP p s = false ∨ inP p t = false
  · rw [if_pos h1] at h; simp at h
  rw [if_neg h1] at h ⊢
  by_cases h2 : ((rdP p s).getD zeroL).kind ≠ 1 ∨ ((rdP p t).getD zeroL).kind ≠ 1
  · rw [if_pos h2] at h; simp at h
  rw [if_neg h2] at h ⊢
  have k1 : ((rdP p s).getD zeroL).kind = 1 := by omega
  have k2 : ((rdP p t).getD zeroL).kind = 1 := by omega
  have i1 : inP p s = true := by cases h : inP p s <;> simp_all
  have i2 : inP p t = true := by cases h : inP p t <;> simp_all
  cases hx : rdP p s with
  | none => rw [hx] at k1; simp [zeroL] at k1
  | some x =>
    cases hy : rdP p t with
    | none => rw [hy] at k2; simp [zeroL] at k2
    | some y =>
      rw [hx] at k1
      rw [hy] at k2
      exact ⟨x, y, rfl, rfl, k1, k2, rfl, i1, i2⟩
theorem prm_c {p : Pl} (hn : ∀ m ∈ p, NdOk m.1) {t : Int} {x : Lt} (h : rdP p t = some x) (hk : x.kind = 1) : 0 ≤ x.c ∧ x.c ≤ 18446744073709551615 := by
  have hp : prP p t = some x := by
    unfold rdP at h
    split at h
    · exact h
    split at h
    · exfalso
      unfold rdS at h
      repeat' (split at h)
      all_goals (first | (cases h; done) | (simp only [Option.map_eq_some_iff] at h; obtain ⟨y, _, rfl⟩ := h; simp at hk))
    · cases h
  unfold prP at hp
  split at hp
  · rename_i c s' hd
    split at hp
    · cases hp
      unfold dlP at hd
      split at hd
      · cases hd
        exact (atP_nok hn _).num
      · cases hd
    · cases hp
  · cases hp
theorem rep_ok {p : Pl} (hp : Ok p) {t : Int} {x : Lt} (h : rdP p t = some x) : chkP (repL x) = 0 := by
  have h2 := (chk_ok.1 ((rd_some hp).1 h).1).2.2.2.2
  exact chk_ok.2 ⟨⟨by simp [repL], by simp [repL]⟩, .inl rfl, .inr rfl, fun h => absurd h (by simp [repL]), h2⟩
def CnvPost (w : World) (B a b : Nat) (vv : Value) (p : Pl) (q : Lt × Lt × Int) (e : Ending) (w' : World) : Prop :=
  (cnvE q ≠ 0 ∧ e = .returned (.tuple #[.int .i64 0, .int .i64 (cnvE q)]) ∧ Below w.heap.size w w') ∨ (cnvE q = 0 ∧ OfPost w B a b vv (ofP (letT (repL q.1) true true).1 (letT (repL q.1) true true).2 p) e w')
section
variable {w : World} {B a b : Nat} {vv : Value} {p : Pl}
set_option maxRecDepth 100000 in
set_option maxHeartbeats 6400000 in
theorem cnv_any (hB : 1 < B) (hL : Laid w) (hl : LaidK w) (hp : IsPool w B a b vv p) (hr : p.length + 20 ≤ 65536) (s t : Int) : Calls Tryz.prog 29 #[.pointer (some ⟨a, 0, none⟩), .int .i64 s, .int .i64 t] w (CnvPost w B a b vv p (prmL p s t)) := by
  have PR := Lib.hid (prm_any hp hl s t)
  have BG := Lib.hid (fun (x y : Lt) (W : World) => blg_any x y W)
  have BD := Lib.hid (fun (W : World) (hb : Below w.heap.size w W) (h0 : (prmL p s t).2.2 = 0) => by
    obtain ⟨x, y, h1, h2, h3, h4, h5, _⟩ := prm_ok h0
    have hc := prm_c hp.nok h1 h3
    have hk := rep_ok hp.ok h1
    have h6 : (prmL p s t).1 = x := by rw [h5]
    rw [← h6] at hc hk
    exact (build_any hB (hL.below hb) (hl.below hb) (hp.below hb) (l := repL (prmL p s t).1) hc hr).mono fun e w' h => (h.resolve_left fun h => h.1 hk).2)
  have HP := Lib.hid hp
  clear hB hL hl hp hr
  generalize prmL p s t = q at *
  obtain ⟨x, y, er⟩ := q
  obtain ⟨ce, hce⟩ : ∃ ce, ce = cnvE (x, y, er) := ⟨_, rfl⟩
  unfold CnvPost
  rw [← hce]
  have HC : Hid (ce = if er ≠ 0 then er else if (x.fake || y.fake) = true then 121 else if blgB x y = false then 122 else 0) := Lib.hid hce
  clear hce
  simp only [prmV] at *
  have BG1 := Lib.hid (BG.out x y)
  generalize blgB x y = bl at *
  generalize ofP (letT (repL x) true true).1 (letT (repL x) true true).2 p = oq at *
  obtain ⟨xk, xf, xc, xs, xx⟩ := x
  obtain ⟨yk, yf, yc, ys, yx⟩ := y
  simp only [ltA, repL] at *
  clear BG
  go_enter Tryz.func29, Tryz.ntmps29
  go_wp2_with fail
  refine PR.out.mono ?_
  rintro e w1 ⟨rfl, u1⟩
  have b1 := bmore u1 (bZ w1 (.cells #[.int .i64 xk, .int .i64 xf, .int .u64 xc, .string xs, .bool xx] LtT))
  have h1 := heap_alloc_new w1 (.cells #[.int .i64 xk, .int .i64 xf, .int .u64 xc, .string xs, .bool xx] LtT)
  have b2 := bZ (w1.alloc (.cells #[.int .i64 xk, .int .i64 xf, .int .u64 xc, .string xs, .bool xx] LtT)) (.cells #[.int .i64 yk, .int .i64 yf, .int .u64 yc, .string ys, .bool yx] LtT)
  have h2 := heap_alloc_new (w1.alloc (.cells #[.int .i64 xk, .int .i64 xf, .int .u64 xc, .string xs, .bool xx] LtT)) (.cells #[.int .i64 yk, .int .i64 yf, .int .u64 yc, .string ys, .bool yx] LtT)
  have h1' := Hold.below b2 _ _ h1
  have HB2 := Lib.hid (bmore b1 b2)
  rw [show (w1.alloc (.cells #[.int .i64 xk, .int .i64 xf, .int .u64 xc, .string xs, .bool xx] LtT)).heap.size = w1.heap.size + 1 from by simp] at h2
  have HH0 := Lib.hid h1'
  have HH1 := Lib.hid h2
  clear b1 b2 h1 h1' h2 u1 PR
  go_upto_region 2 with fail
  generalize ((w1.alloc (.cells #[.int .i64 xk, .int .i64 xf, .int .u64 xc, .string xs, .bool xx] LtT)).alloc (.cells #[.int .i64 yk, .int .i64 yf, .int .u64 yc, .string ys, .bool yx] LtT)) = w2 at *
  generalize w1.heap.size + 1 = m1 at *
  generalize w1.heap.size = m0 at *
  have x0 := cellB (j := 0) HH0.out rfl
  have y0 := cellB (j := 0) HH1.out rfl
  have x1 := cellB (j := 1) HH0.out rfl
  have y1 := cellB (j := 1) HH1.out rfl
  have x2 := cellB (j := 2) HH0.out rfl
  have y2 := cellB (j := 2) HH1.out rfl
  have x3 := cellB (j := 3) HH0.out rfl
  have y3 := cellB (j := 3) HH1.out rfl
  have x4 := cellB (j := 4) HH0.out rfl
  have y4 := cellB (j := 4) HH1.out rfl
  by_cases e0 : er = 0
  case neg =>
    have q1 : (er != 0) = true := by simpa using e0
    obtain rfl : ce = er := HC.out.trans (if_pos e0)
    have E0 := Lib.hid e0
    clear e0 HC
    go_wp2_with fail
    go_returns
    exact .inl ⟨E0.out, rfl, HB2.out⟩
  subst e0
  have HC1 := Lib.hid (HC.out.trans (if_neg (by simp)))
  clear HC
  by_cases e1 : (xx || yx) = true
  case pos =>
    obtain rfl : ce = 121 := HC1.out.trans (if_pos e1)
    have hg : xx = true ∨ (xx = false ∧ yx = true) := by cases xx <;> simp_all
    clear HC1 e1
    rcases hg with rfl | ⟨rfl, rfl⟩
    all_goals
      go_wp2_with fail
      go_returns
      exact ⟨rfl, HB2.out⟩
  have HC2 := Lib.hid (HC1.out.trans (if_neg e1))
  have hxx : xx = false := by cases xx <;> simp_all
  have hyx : yx = false := by cases yx <;> simp_all
  subst hxx hyx
  clear HC1 e1
  go_wp2_with fail
  refine (BG1.out _).mono ?_
  rintro e w3 ⟨rfl, u3⟩
  have HB3 := Lib.hid (bmore HB2.out u3)
  have HH3 := Lib.hid (Hold.below u3 _ _ HH0.out)
  clear u3 HB2 HH0 HH1 x0 x1 x2 x3 x4 y0 y1 y2 y3 y4
  have x2 := cellB (j := 2) HH3.out rfl
  have x3 := cellB (j := 3) HH3.out rfl
  cases bl with
  | false =>
    obtain rfl : ce = 122 := HC2.out.trans (if_pos rfl)
    go_wp2_with fail
    go_returns
    first | exact ⟨rfl, HB3.out⟩ | exact .inl ⟨by decide, rfl, HB3.out⟩
  | true =>
    obtain rfl : ce = 0 := HC2.out.trans (if_neg (by simp))
    have BD3 := Lib.hid (BD.out _ HB3.out trivial)
    clear BD HC2
    go_wp2_with fail
    refine BD3.out.mono ?_
    rintro e w4 ⟨rfl, g4⟩
    have HG := Lib.hid (Grew.after HP.out HB3.out g4)
    clear g4
    go_wp2_with fail
    go_returns
    exact ⟨rfl, HG.out⟩
set_option maxRecDepth 100000 in
set_option maxHeartbeats 6400000 in
theorem cnv_nil (w : World) (s t : Int) : Calls Tryz.prog 29 #[.pointer none, .int .i64 s, .int .i64 t] w fun e w' => e = .returned (.tuple #[.int .i64 0, .int .i64 7]) ∧ Below w.heap.size w w' := by
  have PR := Lib.hid (prm_nil (w := w) s t)
  simp only [prmV, zeroL, ltA] at PR
  go_enter Tryz.func29, Tryz.ntmps29
  go_wp2_with fail
  refine PR.out.mono ?_
  rintro e w1 ⟨rfl, u1⟩
  have HB2 := Lib.hid (bmore (bmore u1 (bZ w1 (.cells #[.int .i64 0, .int .i64 0, .int .u64 0, .string emptyS, .bool false] LtT))) (bZ _ (.cells #[.int .i64 0, .int .i64 0, .int .u64 0, .string emptyS, .bool false] LtT)))
  clear u1 PR
  go_wp2_with fail
  go_returns
  exact ⟨rfl, HB2.out⟩
set_option maxRecDepth 100000 in
set_option maxHeartbeats 6400000 in
theorem req_nil (w : World) (s t : Int) : Calls Tryz.prog 35 #[.pointer none, .int .i64 0, .int .i64 s, .int .i64 t] w fun e w' => e = .returned (.tuple #[.int .i64 0, .int .i64 7]) ∧ Below w.heap.size w w' := by
  have PR := Lib.hid (prm_nil (w := w) s t)
  simp only [prmV, zeroL, ltA] at PR
  go_enter Tryz.func35, Tryz.ntmps35
  go_wp2_with fail
  refine PR.out.mono ?_
  rintro e w1 ⟨rfl, u1⟩
  have HB2 := Lib.hid (bmore (bmore u1 (bZ w1 (.cells #[.int .i64 0, .int .i64 0, .int .u64 0, .string emptyS, .bool false] LtT))) (bZ _ (.cells #[.int .i64 0, .int .i64 0, .int .u64 0, .string emptyS, .bool false] LtT)))
  clear u1 PR
  go_wp2_with fail
  go_returns
  exact ⟨rfl, HB2.out⟩
end
end Go.Proofs.YtjmcaceegfdkkaaGreatDoor
