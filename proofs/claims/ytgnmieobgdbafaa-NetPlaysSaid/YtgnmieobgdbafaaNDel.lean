/-
  Deliver, Drop, Move, Hold of the program's net.
-/
import Derived.Test.YtgnmieobgdbafaaNSnd
namespace Go.Proofs.Ytgnmieobgdbafaa
open Go.RowKit
set_option linter.unusedVariables false
theorem delP_no {x : Nt} {i : Int} (h : getP x.fl i = none) : delP x i = (x, zeroP, 7) := by unfold delP; rw [h]
theorem delP_stop {x : Nt} {i : Int} {p : Pk} (h : getP x.fl i = some p) (h2 : stopP x p ≠ 0) : delP x i = (x, zeroP, stopP x p) := by unfold delP; rw [h]; simp [h2]
theorem delP_ok {x : Nt} {k : Nat} {p : Pk} (h : getP x.fl (k : Int) = some p) (h2 : stopP x p = 0) : delP x (k : Int) = ({ x with fl := outP x.fl k, cm := upd x.cm (lk p.fr p.tt) (x.cm (lk p.fr p.tt) + 1) }, p, 0) := by unfold delP; rw [h]; simp [h2]
theorem split_at {l : List Pk} {k : Nat} {p : Pk} (h : l[k]? = some p) : l = l.take k ++ p :: l.drop (k + 1) ∧ (l.take k).length = k := by
  obtain ⟨h1, h2⟩ := List.getElem?_eq_some_iff.1 h
  refine ⟨?_, by simp; omega⟩
  rw [← h2, List.getElem_cons_drop, List.take_append_drop]
set_option maxRecDepth 100000 in
set_option maxHeartbeats 3200000 in
theorem deliver_no {w : World} {B a : Nat} {F H : Value} {x : Nt} (h : IsN w B a F H x) (i : Int) (hg : getP x.fl i = none) :
    Calls Try.prog 16 #[.pointer (some ⟨a, 0, none⟩), .int .i64 i] w fun e w' => e = .returned (.tuple #[zeroP.val, .int .i64 7]) ∧ WentN B a F H x w w' := by
  have b1 : Below w.heap.size w (w.alloc (.cells zC PkT)) := (Below.refl _ _).alloc (Nat.le_refl _) _
  have hh := has_any (h.below b1) i
  have H0 := Lib.hid h
  have B1 := Lib.hid b1
  rw [hg] at hh
  clear h hg b1
  go_enter Try.func16, Try.ntmps16
  go_wp2_with fail
  refine hh.mono ?_
  rintro e w1 ⟨rfl, rfl⟩
  go_wp2_with fail
  go_returns
  exact ⟨rfl, WentN.same H0.out B1.out⟩
set_option maxRecDepth 100000 in
set_option maxHeartbeats 3200000 in
theorem deliver_stop {w : World} {B a : Nat} {F H : Value} {x : Nt} (h : IsN w B a F H x) (k : Nat) (p : Pk) (hk : x.fl[k]? = some p) (hf : p.fr < 3) (ht : p.tt < 3) (hs : stopP x p ≠ 0) :
    Calls Try.prog 16 #[.pointer (some ⟨a, 0, none⟩), .int .i64 (k : Int)] w fun e w' => e = .returned (.tuple #[zeroP.val, .int .i64 (stopP x p)]) ∧ WentN B a F H x w w' := by
  have b1 : Below w.heap.size w (w.alloc (.cells zC PkT)) := (Below.refl _ _).alloc (Nat.le_refl _) _
  have z1 := heap_alloc_new w (.cells zC PkT)
  have h1 := h.below b1
  have hh := has_any h1 (k : Int)
  rw [show (getP x.fl (k : Int)).isSome = true by unfold getP; simp [hk]] at hh
  have hkl := (List.getElem?_eq_some_iff.1 hk).1
  obtain ⟨gg, gc, rfl⟩ := own_slice h.rowF (by omega)
  have c1 := h1.c0.2.1
  have hla := (laid_of_own (h1.rowF)).1
  obtain ⟨t0, t1, t2, t3, t4⟩ := hla.at5 hk
  have hst := stops_any h1 p hf ht
  have H0 := Lib.hid h
  have B1 := Lib.hid b1
  have Z1 := Lib.hid z1
  have i0 : (0 : Int) ≤ (k : Int) := by omega
  have i1 : (k : Int) < (x.fl.length : Int) := by omega
  have HLT : Hid (w.heap.size < (w.alloc (.cells zC PkT)).heap.size) := Lib.hid (by simp)
  clear h hk hla b1 h1 z1 hf ht
  generalize stopP x p = s at *
  have hs2 : (s == 0) = false := by simpa using hs
  have hs3 : decide (s = 0) = false := by simpa using hs
  go_enter Try.func16, Try.ntmps16
  go_wp2_with fail
  refine hh.mono ?_
  rintro e w1 ⟨rfl, rfl⟩
  go_wp2_with fail
  refine hst.mono ?_
  rintro e w2 ⟨rfl, b2⟩
  have z2 := (b2.block w.heap.size HLT.out).trans Z1.out
  have B2 := Lib.hid (B1.out.trans (b2.mono B1.out.size))
  have Z2 := Lib.hid z2
  clear hst hh b2 c1 t0 t1 t2 t3 t4
  obtain ⟨q0, q1, q2, q3, q4⟩ := pk5 (p := zeroP) z2
  obtain ⟨f0, f1, f2, f3, f4⟩ := frz5 z2
  clear z2
  go_wp2_with fail
  have hz := setB_is (q := zeroP) (p := zeroP) Z2.out
  rw [show (((((w2.setCell ⟨w.heap.size, 0, none⟩ (.int .i64 0)).setCell ⟨w.heap.size, 1, none⟩ (.int .i64 0)).setCell ⟨w.heap.size, 2, none⟩ (.int .i64 0)).setCell ⟨w.heap.size, 3, none⟩ (.string ⟨#[]⟩)).setCell ⟨w.heap.size, 4, none⟩ (.int .i64 0)) = setB w2 w.heap.size zeroP from rfl]
  have tz := setB_touch w2 w.heap.size zeroP
  generalize setB w2 w.heap.size zeroP = w3 at *
  clear q0 q1 q2 q3 q4 f0 f1 f2 f3 f4
  obtain ⟨q0, q1, q2, q3, q4⟩ := pk5 (p := zeroP) hz
  refine bodyPost_ret (v := .tuple #[zeroP.val, .int .i64 s]) (by simp [results, Try.results16, go_sem, q0, q1, q2, q3, q4]) rfl ⟨rfl, WentN.same H0.out (B2.out.trans (tz.below (by exact B2.out.size) (fun j hj => by omega)))⟩
set_option maxRecDepth 100000 in
set_option maxHeartbeats 3200000 in
theorem deliver_ok {w : World} {B a : Nat} {F H : Value} {x : Nt} (h : IsN w B a F H x) (hl : x.fl.length ≤ 5000) (k : Nat) (p : Pk) (hk : x.fl[k]? = some p) (hf : p.fr < 3) (ht : p.tt < 3) (hs : stopP x p = 0) (hcm : x.cm (lk p.fr p.tt) ≤ 1000000000 ∧ -1000000000 ≤ x.cm (lk p.fr p.tt)) :
    Calls Try.prog 16 #[.pointer (some ⟨a, 0, none⟩), .int .i64 (k : Int)] w fun e w' => e = .returned (.tuple #[p.val, .int .i64 0]) ∧ WentN B a F H { x with fl := outP x.fl k, cm := upd x.cm (lk p.fr p.tt) (x.cm (lk p.fr p.tt) + 1) } w w' := by
  have b1 : Below w.heap.size w (w.alloc (.cells zC PkT)) := (Below.refl _ _).alloc (Nat.le_refl _) _
  have z1 := heap_alloc_new w (.cells zC PkT)
  have h1 := h.below b1
  have hh := has_any h1 (k : Int)
  rw [show (getP x.fl (k : Int)).isSome = true by unfold getP; simp [hk]] at hh
  have hkl := (List.getElem?_eq_some_iff.1 hk).1
  obtain ⟨gg, gc, rfl⟩ := own_slice h.rowF (by omega)
  have c1 := h1.c0.2.1
  have hla := (laid_of_own (h1.rowF)).1
  obtain ⟨t0, t1, t2, t3, t4⟩ := hla.at5 hk
  have hst := stops_any h1 p hf ht
  rw [hs] at hst
  obtain ⟨hsp, hsl⟩ := split_at hk
  have H0 := Lib.hid h
  have H1 := Lib.hid h1
  have B1 := Lib.hid b1
  have Z1 := Lib.hid z1
  have HSP := Lib.hid hsp
  have HSL := Lib.hid hsl
  have HLL := Lib.hid hl
  have HF := Lib.hid (show p.fr < 3 ∧ p.tt < 3 from ⟨hf, ht⟩)
  have HCM := Lib.hid hcm
  have i0 : (0 : Int) ≤ (k : Int) := by omega
  have i1 : (k : Int) < (x.fl.length : Int) := by omega
  have HLT : Hid (w.heap.size < (w.alloc (.cells zC PkT)).heap.size) := Lib.hid (by simp)
  clear h hk hla b1 h1 z1 hf ht hs hsp hsl hl hcm
  go_enter Try.func16, Try.ntmps16
  go_wp2_with fail
  refine hh.mono ?_
  rintro e w1 ⟨rfl, rfl⟩
  go_wp2_with fail
  refine hst.mono ?_
  rintro e w2 ⟨rfl, b2⟩
  have Z2 := Lib.hid ((b2.block w.heap.size HLT.out).trans Z1.out)
  have H2 := Lib.hid (H1.out.below b2)
  have B2 := Lib.hid (B1.out.trans (b2.mono B1.out.size))
  have HL2 := Lib.hid (Nat.lt_of_lt_of_le HLT.out b2.size)
  have htk := takeOut_any H2.out HSP.out HLL.out
  rw [HSL.out] at htk
  clear hst hh b2 c1 t0 t1 t2 t3 t4
  go_wp2_with fail
  refine htk.mono ?_
  rintro e w3 ⟨rfl, h3⟩
  clear htk
  have Z3 := Lib.hid ((WentN.box H0.out h3 (Nat.le_refl _) HL2.out).trans Z2.out)
  obtain ⟨F3, H3, i3, t3, o3⟩ := h3
  have b4 : Below w3.heap.size w3 (w3.alloc (.cells (pkCells p) PkT)) := (Below.refl _ _).alloc (Nat.le_refl _) _
  have I4 := Lib.hid (i3.below b4)
  have Z4 := Lib.hid ((b4.block w.heap.size (by have := HL2.out; have := t3.size; omega)).trans Z3.out)
  have P4 := Lib.hid (show (w3.alloc (.cells (pkCells p) PkT)).heap[w3.heap.size]? = some (.cells (pkCells p) PkT) from heap_alloc_new _ _)
  have T4 := Lib.hid ((touch_of_below B2.out _).trans (t3.trans (touch_of_below b4 _)))
  have O3 := Lib.hid o3
  have S3 := Lib.hid (show w.heap.size ≤ w3.heap.size ∧ w.heap.size < w2.heap.size ∧ a < w3.heap.size from ⟨by have := t3.size; have := HL2.out; omega, HL2.out, i3.lt⟩)
  clear i3 t3 o3 b4
  go_upto_region 7 with fail
  generalize (w3.alloc (.cells (pkCells p) PkT)) = w4 at *
  obtain ⟨a1, a2⟩ := arr3
  have hf := HF.out.1
  have ht := HF.out.2
  obtain ⟨_, _, l1⟩ := I4.out.link (lk_lt hf ht)
  have q1 := I4.out.frz (3 + p.fr * 9 + p.tt * 3 + 2)
  have I5 := Lib.hid ((I4.out.set (y := { x with fl := outP x.fl k, cm := upd x.cm (lk p.fr p.tt) (x.cm (lk p.fr p.tt) + 1) }) (3 + lk p.fr p.tt * 3 + 2) (.int .i64 (x.cm (lk p.fr p.tt) + 1)) rfl rfl (fun cur hc => hc.setM (lk_lt hf ht) _)).below (bd _))
  have T5 := Lib.hid (((touch_set w4 a (3 + lk p.fr p.tt * 3 + 2) (.int .i64 (x.cm (lk p.fr p.tt) + 1)) (fun j => j = a) rfl)).trans (touch_drew _ _))
  have hws : IntKind.i64.wrap (x.cm (lk p.fr p.tt) + 1) = x.cm (lk p.fr p.tt) + 1 := IntWalk.i64_in _ (by have := HCM.out; omega)
  unfold lk at l1 hws I5 T5
  rw [show 3 + (p.fr * 3 + p.tt) * 3 = 3 + p.fr * 9 + p.tt * 3 by omega] at l1 I5 T5
  obtain ⟨r0, r1, r2, r3, r4⟩ := pk5 P4.out
  have u0 : (0 : Int) ≤ (p.fr : Int) := by omega
  have u1 : (0 : Int) ≤ (p.tt : Int) := by omega
  have u2 : (p.fr : Int) < 3 := by omega
  have u3 : (p.tt : Int) < 3 := by omega
  have hz5 := (T5.out.block w.heap.size (Array.getElem?_eq_some_iff.1 Z4.out).1 (fun e => by have := H0.out.lt; omega)).trans Z4.out
  have hp5 := (T5.out.block w3.heap.size (Array.getElem?_eq_some_iff.1 P4.out).1 (fun e => by have := S3.out; omega)).trans P4.out
  go_region
  all_goals
    clear r0 r1 r2 r3 r4 l1 q1
    generalize (w4.setCell ⟨a, 3 + p.fr * 9 + p.tt * 3 + 2, none⟩ (.int .i64 (x.cm (p.fr * 3 + p.tt) + 1))).drew = w5 at *
    obtain ⟨r0, r1, r2, r3, r4⟩ := pk5 hp5
    obtain ⟨q0, q1, q2, q3, q4⟩ := pk5 (p := zeroP) hz5
    obtain ⟨f0, f1, f2, f3, f4⟩ := frz5 hz5
    have hz := setB_is (q := zeroP) (p := p) hz5
    have tz := setB_touch w5 w.heap.size p
    have HZ := Lib.hid hz
    have TZ := Lib.hid tz
    clear hz tz hz5 hp5
    go_wp2_with fail
    rw [show (((((w5.setCell ⟨w.heap.size, 0, none⟩ (.int .i64 p.id)).setCell ⟨w.heap.size, 1, none⟩ (.int .i64 (p.fr : Int))).setCell ⟨w.heap.size, 2, none⟩ (.int .i64 (p.tt : Int))).setCell ⟨w.heap.size, 3, none⟩ (.string p.bd)).setCell ⟨w.heap.size, 4, none⟩ (.int .i64 p.hl)) = setB w5 w.heap.size p from rfl]
    generalize setB w5 w.heap.size p = w6 at *
    clear q0 q1 q2 q3 q4 f0 f1 f2 f3 f4 r0 r1 r2 r3 r4
    obtain ⟨q0, q1, q2, q3, q4⟩ := pk5 HZ.out
    refine bodyPost_ret (v := .tuple #[p.val, .int .i64 0]) (by simp [results, Try.results16, go_sem, q0, q1, q2, q3, q4]) rfl ⟨rfl, F3, H3, I5.out.keep TZ.out (fun j hj e => ?_), ?_, fun j hj => (O3.out j hj).imp id (fun h => by have := S3.out; omega)⟩
    · subst e
      rcases O3.out _ hj with h1 | h1
      · have := (H0.out.own_lt h1).2; omega
      · have := S3.out; omega
    · exact (T4.out.step T5.out (fun j hj => .inl (.inl hj))).step TZ.out (fun j hj => .inr (by omega))
theorem getP_at {l : List Pk} {k : Nat} {p : Pk} (h : l[k]? = some p) : getP l (k : Int) = some p := by unfold getP; simp [h]
/-- Deliver, whichever place. -/
theorem deliver_any {w : World} {B a : Nat} {F H : Value} {x : Nt} (h : IsN w B a F H x) (hl : x.fl.length ≤ 5000) (i : Int) (hn : ∀ p ∈ x.fl, p.fr < 3 ∧ p.tt < 3) (hcm : ∀ k, x.cm k ≤ 1000000000 ∧ -1000000000 ≤ x.cm k) :
    Calls Try.prog 16 #[.pointer (some ⟨a, 0, none⟩), .int .i64 i] w fun e w' => e = .returned (.tuple #[(delP x i).2.1.val, .int .i64 (delP x i).2.2]) ∧ WentN B a F H (delP x i).1 w w' := by
  rcases hg : getP x.fl i with _ | p
  · rw [delP_no hg]; exact deliver_no h i hg
  obtain ⟨k, rfl, hk, hkl, _⟩ := getP_some hg
  have hp := hn p (List.mem_of_getElem? hk)
  by_cases hs : stopP x p = 0
  · rw [delP_ok hg hs]; exact deliver_ok h hl k p hk hp.1 hp.2 hs (hcm _)
  · rw [delP_stop hg hs]; exact deliver_stop h k p hk hp.1 hp.2 hs
set_option maxRecDepth 100000 in
set_option maxHeartbeats 3200000 in
theorem drop_any {w : World} {B a : Nat} {F H : Value} {x : Nt} (h : IsN w B a F H x) (hl : x.fl.length ≤ 5000) (i : Int) :
    Calls Try.prog 18 #[.pointer (some ⟨a, 0, none⟩), .int .i64 i] w fun e w' => e = .returned (.int .i64 (dropP x i).2) ∧ WentN B a F H (dropP x i).1 w w' := by
  have hh := has_any h i
  rcases hg : getP x.fl i with _ | p
  · rw [show dropP x i = (x, 7) by unfold dropP; rw [hg]]
    rw [hg] at hh
    have H0 := Lib.hid h
    clear h hg
    go_enter Try.func18, Try.ntmps18
    go_wp2_with fail
    refine hh.mono ?_
    rintro e w1 ⟨rfl, rfl⟩
    go_wp2_with fail
    go_returns
    exact ⟨rfl, WentN.same H0.out (Below.refl _ _)⟩
  · rw [show dropP x i = ({ x with fl := outP x.fl i.toNat }, 0) by unfold dropP; rw [hg]]
    rw [hg] at hh
    obtain ⟨k, rfl, hk, hkl, hkn⟩ := getP_some hg
    rw [hkn]
    obtain ⟨hsp, hsl⟩ := split_at hk
    have htk := takeOut_any h hsp hl
    rw [hsl] at htk
    clear h hg hsp hk
    go_enter Try.func18, Try.ntmps18
    go_wp2_with fail
    refine hh.mono ?_
    rintro e w1 ⟨rfl, rfl⟩
    go_wp2_with fail
    refine htk.mono ?_
    rintro e w3 ⟨rfl, h3⟩
    have H3 := Lib.hid h3
    clear h3 htk hh
    go_wp2_with fail
    go_returns
    exact ⟨rfl, H3.out⟩
theorem movP_no {x : Nt} {i t : Int} (h : getP x.fl i = none ∨ getP x.fl t = none) : movP x i t = (x, 7) := by
  unfold movP
  rcases hi : getP x.fl i with _ | p
  · rfl
  · rcases ht : getP x.fl t with _ | q
    · rfl
    · rw [hi, ht] at h; simp at h
theorem movP_ok {x : Nt} {i t : Int} {p q : Pk} (h : getP x.fl i = some p) (h2 : getP x.fl t = some q) : movP x i t = ({ x with fl := inP (outP x.fl i.toNat) t.toNat p }, 0) := by unfold movP; rw [h, h2]
set_option maxRecDepth 100000 in
set_option maxHeartbeats 3200000 in
theorem move_any {w : World} {B a : Nat} {F H : Value} {x : Nt} (h : IsN w B a F H x) (hB : B ≤ w.heap.size) (hl : x.fl.length ≤ 5000) (i t : Int) :
    Calls Try.prog 20 #[.pointer (some ⟨a, 0, none⟩), .int .i64 i, .int .i64 t] w fun e w' => e = .returned (.int .i64 (movP x i t).2) ∧ WentN B a F H (movP x i t).1 w w' := by
  have hh := has_any h i
  have hh2 := has_any h t
  have H0 := Lib.hid h
  rcases hg : getP x.fl i with _ | p
  · rw [movP_no (.inl hg)]
    rw [hg] at hh
    clear h hg hh2
    go_enter Try.func20, Try.ntmps20
    go_wp2_with fail
    refine hh.mono ?_
    rintro e w1 ⟨rfl, rfl⟩
    go_wp2_with fail
    go_returns
    exact ⟨rfl, WentN.same H0.out (Below.refl _ _)⟩
  rw [hg] at hh
  rcases hg2 : getP x.fl t with _ | q
  · rw [movP_no (.inr hg2)]
    rw [hg2] at hh2
    clear h hg hg2
    go_enter Try.func20, Try.ntmps20
    go_wp2_with fail
    refine hh.mono ?_
    rintro e w1 ⟨rfl, rfl⟩
    go_wp2_with fail
    refine hh2.mono ?_
    rintro e w1 ⟨rfl, rfl⟩
    go_wp2_with fail
    go_returns
    exact ⟨rfl, WentN.same H0.out (Below.refl _ _)⟩
  rw [movP_ok hg hg2]
  rw [hg2] at hh2
  obtain ⟨k, rfl, hk, hkl, hkn⟩ := getP_some hg
  obtain ⟨m, rfl, hm, hml, hmn⟩ := getP_some hg2
  rw [hkn, hmn]
  obtain ⟨hsp, hsl⟩ := split_at hk
  have htk := takeOut_any h hsp hl
  rw [hsl] at htk
  have HOL := Lib.hid (out_len x.fl k hkl)
  have HLL := Lib.hid hl
  have HBB := Lib.hid hB
  have HML := Lib.hid hml
  clear h hg hg2 hsp hk hm hl hB
  go_enter Try.func20, Try.ntmps20
  go_wp2_with fail
  refine hh.mono ?_
  rintro e w1 ⟨rfl, rfl⟩
  go_wp2_with fail
  refine hh2.mono ?_
  rintro e w1 ⟨rfl, rfl⟩
  go_wp2_with fail
  refine htk.mono ?_
  rintro e w3 ⟨rfl, h3⟩
  clear htk hh hh2
  have HO3 := Lib.hid h3
  obtain ⟨F3, H3, i3, t3, o3⟩ := h3
  have hli := layIn_any i3 (Nat.le_trans HBB.out t3.size) m (by have := HOL.out; have := HML.out; show m ≤ (outP x.fl k).length; omega) (by have := HOL.out; have := HLL.out; show (outP x.fl k).length ≤ 5000; omega) p
  have T3 := Lib.hid t3
  have O3 := Lib.hid o3
  clear i3 t3 o3
  go_wp2_with fail
  refine hli.mono ?_
  rintro e w4 ⟨rfl, h4⟩
  have HE : Hid (WentN B a F H { x with fl := inP (outP x.fl k) m p } w w4) := Lib.hid (by
    obtain ⟨F4, H4, i4, t4, o4⟩ := h4
    exact ⟨F4, H4, i4, T3.out.step t4 O3.out, fun j hj => by
      rcases o4 j hj with h | h
      · exact O3.out j h
      · exact .inr (Nat.le_trans T3.out.size h)⟩)
  clear h4 hli
  go_wp2_with fail
  go_returns
  exact ⟨rfl, HE.out⟩
theorem holdP_no {x : Nt} {i t : Int} (h : getP x.fl i = none) : holdP x i t = (x, 7) := by unfold holdP; rw [h]
theorem holdP_arg {x : Nt} {i t : Int} {p : Pk} (h : getP x.fl i = some p) (h2 : t < 0 ∨ 1000 < t) : holdP x i t = (x, 2) := by unfold holdP; rw [h]; simp [h2]
theorem holdP_ok {x : Nt} {i t : Int} {p : Pk} (h : getP x.fl i = some p) (h2 : ¬ (t < 0 ∨ 1000 < t)) : holdP x i t = ({ x with fl := x.fl.set i.toNat { p with hl := t } }, 0) := by unfold holdP; rw [h]; simp [h2]
set_option maxRecDepth 100000 in
set_option maxHeartbeats 3200000 in
theorem hold_any {w : World} {B a : Nat} {F H : Value} {x : Nt} (h : IsN w B a F H x) (i t : Int) :
    Calls Try.prog 21 #[.pointer (some ⟨a, 0, none⟩), .int .i64 i, .int .i64 t] w fun e w' => e = .returned (.int .i64 (holdP x i t).2) ∧ WentN B a F H (holdP x i t).1 w w' := by
  have hh := has_any h i
  have H0 := Lib.hid h
  rcases hg : getP x.fl i with _ | p
  · rw [holdP_no hg]
    rw [hg] at hh
    clear h hg
    go_enter Try.func21, Try.ntmps21
    go_wp2_with fail
    refine hh.mono ?_
    rintro e w1 ⟨rfl, rfl⟩
    go_wp2_with fail
    go_returns
    exact ⟨rfl, WentN.same H0.out (Below.refl _ _)⟩
  rw [hg] at hh
  by_cases h0 : t < 0
  · rw [holdP_arg hg (.inl h0)]
    clear h hg
    go_enter Try.func21, Try.ntmps21
    go_wp2_with fail
    refine hh.mono ?_
    rintro e w1 ⟨rfl, rfl⟩
    go_wp2_with fail
    go_returns
    exact ⟨rfl, WentN.same H0.out (Below.refl _ _)⟩
  by_cases h1 : 1000 < t
  · rw [holdP_arg hg (.inr h1)]
    clear h hg
    go_enter Try.func21, Try.ntmps21
    go_wp2_with fail
    refine hh.mono ?_
    rintro e w1 ⟨rfl, rfl⟩
    go_wp2_with fail
    go_returns
    exact ⟨rfl, WentN.same H0.out (Below.refl _ _)⟩
  rw [holdP_ok hg (by omega)]
  obtain ⟨k, rfl, hk, hkl, hkn⟩ := getP_some hg
  rw [hkn]
  obtain ⟨gg, gc, rfl⟩ := own_slice h.rowF (by omega)
  have c1 := h.c0.2.1
  have hla := (laid_of_own (h.rowF)).1
  obtain ⟨t0, t1, t2, t3, t4⟩ := hla.at5 hk
  have f4 := hla.frz (k * 5 + 4)
  have HLA := Lib.hid (hla.setH hk t)
  have i0 : (0 : Int) ≤ (k : Int) := by omega
  have i1 : (k : Int) < (x.fl.length : Int) := by omega
  clear h hg hk hla
  go_enter Try.func21, Try.ntmps21
  go_wp2_with fail
  refine hh.mono ?_
  rintro e w1 ⟨rfl, rfl⟩
  go_wp2_with fail
  go_returns
  have ts := touch_set w gg (k * 5 + 4) (.int .i64 t) (fun j => j = gg) rfl
  exact ⟨rfl, _, H, H0.out.wroteF ts HLA.out (by simp), ts.mono (fun j _ hj => .inr (.inl (by rw [hj]; rfl))), fun j hj => .inl hj⟩
theorem tick_step (l : List Pk) (k : Nat) (p : Pk) (h : l[k]? = some p) : (((l.take k).map tick1 ++ l.drop k).set k (tick1 p)) = (l.take (k + 1)).map tick1 ++ l.drop (k + 1) := by
  obtain ⟨h1, h2⟩ := List.getElem?_eq_some_iff.1 h
  have e1 : ((l.take k).map tick1).length = k := by simp; omega
  rw [List.set_append_right _ _ (by omega), e1, Nat.sub_self, ← List.getElem_cons_drop h1, List.set_cons_zero, ← List.take_append_getElem h1, List.map_append, h2]
  simp
theorem tick_at (l : List Pk) (k : Nat) (h : k ≤ l.length) : ((l.take k).map tick1 ++ l.drop k)[k]? = l[k]? := by
  have e1 : ((l.take k).map tick1).length = k := by simp; omega
  rw [List.getElem?_append_right (by omega), e1, Nat.sub_self, List.getElem?_drop]; simp
theorem tick_len (l : List Pk) (k : Nat) : ((l.take k).map tick1 ++ l.drop k).length = l.length := by simp; omega
set_option maxRecDepth 100000 in
set_option maxHeartbeats 3200000 in
theorem tick_any {w : World} {B a : Nat} {F H : Value} {x : Nt} (h : IsN w B a F H x) (hl : x.fl.length ≤ 5000) (hn : ∀ p ∈ x.fl, 0 ≤ p.hl ∧ p.hl ≤ 1000) :
    Calls Try.prog 22 #[.pointer (some ⟨a, 0, none⟩)] w fun e w' => e = .returned (.tuple #[]) ∧ WentN B a F H (tickP x) w w' := by
  have c1 := h.c0.2.1
  have H0 := Lib.hid h
  have HL := Lib.hid hl
  have HN := Lib.hid hn
  obtain ⟨fa, fc, rfl⟩ := slice_of h.rowF
  clear h hl hn
  go_enter Try.func22, Try.ntmps22
  go_wp2_with fail
  go_loopw [10] (fun v wr => ∃ k : Nat, v = .int .i64 (k : Int) ∧ k ≤ x.fl.length ∧ IsN wr B a (.slice fa x.fl.length fc) H { x with fl := (x.fl.take k).map tick1 ++ x.fl.drop k } ∧ Touch (OwnN a (.slice fa x.fl.length fc) H) w wr) (fun v _ => x.fl.length - (intOf v).toNat)
  case atStart => exact ⟨0, rfl, Nat.zero_le _, by simpa using H0.out, Touch.refl _ _⟩
  case round =>
    obtain ⟨k, rfl, hk, hI, hT⟩ := hrel
    have HI := Lib.hid hI
    have HT := Lib.hid hT
    clear hI hT
    by_cases hlt : k < x.fl.length
    · obtain ⟨p, hp⟩ : ∃ p, x.fl[k]? = some p := ⟨_, List.getElem?_eq_getElem hlt⟩
      have hk2 := (tick_at x.fl k hk).trans hp
      obtain ⟨gg, gc, hg⟩ := own_slice HI.out.rowF (by rw [tick_len]; omega)
      have hg2 : fa = some ⟨gg, 0, none⟩ := by
        have := hg; simp only [Value.slice.injEq] at this; exact this.1
      subst hg2
      have ho := HI.out.rowF
      have ho2 : wr.ownsRow B PkT 5 (.slice (some ⟨gg, 0, none⟩) x.fl.length fc) ((x.fl.take k).map tick1 ++ x.fl.drop k).length (pks ((x.fl.take k).map tick1 ++ x.fl.drop k)) := ho
      have hla := (laid_of_own (ho2)).1
      obtain ⟨_, _, _, _, t4⟩ := hla.at5 hk2
      have f4 := hla.frz (k * 5 + 4)
      have hb := HN.out p (List.mem_of_getElem? hp)
      have HLA := Lib.hid (hla.setH hk2 (if 0 < p.hl then p.hl - 1 else 0))
      have HS := Lib.hid (tick_step x.fl k p hp)
      have c1' := HI.out.c0.2.1
      have i0 : (0 : Int) ≤ (k : Int) := by omega
      have i1 : (k : Int) < (x.fl.length : Int) := by omega
      have hw1 : IntKind.i64.wrap (p.hl - 1) = p.hl - 1 := IntWalk.i64_in _ (by omega)
      have hw2 : IntKind.i64.wrap ((k : Int) + 1) = (k : Int) + 1 := IntWalk.i64_in _ (by have := HL.out; omega)
      have hp1 : decide ((k : Int) < (x.fl.length : Int)) = true := by simpa using hlt
      have HLT := Lib.hid hlt
      generalize hm : (if 0 < p.hl then p.hl - 1 else 0) = m at *
      have hmx : (if p.hl - 1 < 0 then 0 else p.hl - 1) = m := by rw [← hm]; split <;> split <;> omega
      have HM := Lib.hid (show tick1 p = { p with hl := m } from by unfold tick1; rw [hm])
      have HMX := Lib.hid hmx
      clear hm hla ho ho2 hg hp hk2 hlt hk c1 hb hmx
      go_wp2_with fail
      go_region
      rw [HMX.out]
      have tq : Touch (fun j => j = gg) wr (wr.setCell ⟨gg, k * 5 + 4, none⟩ (.int .i64 m)).drew := (touch_set wr gg _ _ (fun j => j = gg) rfl).trans (touch_drew _ _)
      have H5 := Lib.hid (HI.out.wroteF (n := x.fl.length) tq (HLA.out.below (bd _)) (by rw [List.length_set, tick_len]))
      have T5 := Lib.hid (HT.out.trans (tq.mono (fun j _ hj => (.inr (.inl (by rw [hj]; rfl)) : OwnN a (.slice (some ⟨gg, 0, none⟩) x.fl.length fc) H j))))
      clear tq t4 f4 c1'
      generalize (wr.setCell ⟨gg, k * 5 + 4, none⟩ (.int .i64 m)).drew = wn at *
      go_wp2_with fail
      go_roundw
      case rel =>
        refine ⟨k + 1, by simp, HLT.out, ?_, T5.out⟩
        have := H5.out
        rw [← HM.out, HS.out] at this
        exact this
      case measure => have := HLT.out; simp [intOf]; omega
    · obtain rfl : k = x.fl.length := by omega
      have hp1 : decide ((x.fl.length : Int) < (x.fl.length : Int)) = false := by simp
      clear hlt hk
      go_wp2_with fail
      go_end0
      have := HI.out
      simp only [List.take_length, List.drop_length, List.append_nil] at this
      exact ⟨rfl, _, H, this, HT.out, fun j hj => .inl hj⟩
end Go.Proofs.Ytgnmieobgdbafaa
