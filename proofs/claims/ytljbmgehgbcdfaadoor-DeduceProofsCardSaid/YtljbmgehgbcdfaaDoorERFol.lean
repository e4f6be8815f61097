/-
  The document's own follows, Check, shows.
-/
import Derived.Test.YtljbmgehgbcdfaaDoorERef
import Derived.Test.YtljbmgehgbcdfaaDoorECheck
namespace Go.Proofs.YtljbmgehgbcdfaaDoor
open Go.RowKit Go.Maps
set_option linter.unusedVariables false

set_option maxRecDepth 100000 in
theorem shows_any (k : Int) (w : World) : Calls Tryd.prog 67 #[.int .i64 k] w fun e w' => e = .returned (.bool (showB k)) ∧ w = w' := by
  unfold showB
  cases h7 : k == 7 with
  | true =>
    go_enter Tryd.func67, Tryd.ntmps67
    go_wp2_with fail
    go_returns
    exact ⟨rfl, rfl⟩
  | false =>
    cases h8 : k == 8 with
    | true =>
      go_enter Tryd.func67, Tryd.ntmps67
      go_wp2_with fail
      go_returns
      exact ⟨rfl, rfl⟩
    | false =>
      cases h9 : k == 9
      all_goals
        go_enter Tryd.func67, Tryd.ntmps67
        go_wp2_with fail
        go_returns
        exact ⟨rfl, rfl⟩

section
variable {w : World} {B ra : Nat} {rl rs rd : Value} {p : Pl}
set_option maxRecDepth 100000 in
set_option maxHeartbeats 25600000 in
theorem rfol_any (hp : IsRef w B ra rl rs rd p) {vg vl : Value} {g : List Int} {l : List St} (hg : Row w 1 vg g.length (ints g)) (hgl : g.length ≤ 1000000) (hr : Row w 4 vl l.length (sts l)) {i : Nat} (hi : i < l.length) : Calls Tryd.prog 50 #[.pointer (some ⟨ra, 0, none⟩), vg, vl, .int .i64 (i : Int)] w fun e w' => e = .returned (.bool (followsP p g (l.take i) l[i])) ∧ Below w.heap.size w w' := by
  obtain ⟨la, lc, rfl, hx⟩ := hr.at2
  obtain ⟨ga, gc, rfl⟩ := hg.shape
  obtain ⟨gb, go, rfl, q⟩ := hx (by omega)
  have c0 := q _ _ (sts_at l i hi).1
  have c1 := q _ _ (sts_at l i hi).2.1
  have c2 := q _ _ (sts_at l i hi).2.2.1
  have c3 := q _ _ (sts_at l i hi).2.2.2
  have HC : Hid (∀ (W : World) (x : Int), Below w.heap.size w W → 0 ≤ x → x < (i : Int) → ∃ m : Nat, x = (m : Int) ∧ m < l.length ∧ W.cell? ⟨gb, go + m * 4 + 3, none⟩ = some (.int .i64 (saidP (l.take i) x))) := Lib.hid (fun W x hW h0 h1 => by
    obtain ⟨m, rfl⟩ := Int.eq_ofNat_of_zero_le h0
    have hm : m < l.length := by omega
    refine ⟨m, rfl, hm, ?_⟩
    rw [said_take (Nat.le_of_lt hi) h0 h1, Int.toNat_natCast, List.getD_eq_getElem?_getD, List.getElem?_eq_getElem hm, Option.getD_some, Nat.add_assoc]
    exact bcellAt hW (q _ _ (sts_at l m hm).2.2.2))
  simp only [← Nat.add_assoc] at c1 c2 c3
  have hi0 : (0 : Int) ≤ (i : Int) := by omega
  have hi1 : (i : Int) < (l.length : Int) := by omega
  have HFF := Lib.hid (fun (W : World) (h : Below w.heap.size w W) => ahead_ff (hr.below h) hi)
  have HTF := Lib.hid (fun (W : World) (h : Below w.heap.size w W) => ahead_tf (hr.below h) hi)
  have HHA := Lib.hid (fun (W : World) (h : Below w.heap.size w W) => rhasL (hg.below h) hgl (l[i]).t)
  have MK := Lib.hid (fun (hin : inP p (l[i]).t = true) (W : World) (h : Below w.heap.size w W) => makes_any (hp.below h) (hr.below h) hi hin)
  have E0 := Lib.hid (fun (hin : inP p (l[i]).t = true) => fol0 (l := l) (i := i) (s := l[i]) (g := g) hin)
  have E1 := Lib.hid (fun (hin : inP p (l[i]).t = true) => fol1 (l := l) (i := i) (s := l[i]) (g := g) hin (Nat.le_of_lt hi))
  have E4 := Lib.hid (fun (hin : inP p (l[i]).t = true) => fol4 (l := l) (i := i) (s := l[i]) (g := g) hin)
  have E5 := Lib.hid (fun (hin : inP p (l[i]).t = true) => fol5 (l := l) (i := i) (s := l[i]) (g := g) hin)
  have EX := Lib.hid (folx (p := p) (l := l) (i := i) (s := l[i]) (g := g))
  have EN := Lib.hid (fun (hin : inP p (l[i]).t = false) => show followsP p g (l.take i) l[i] = false by unfold followsP; rw [hin]; rfl)
  have HR := Lib.hid hp
  clear q hx hr hp hg
  generalize followsP p g (l.take i) l[i] = fo at *
  generalize mkB p l i l[i] = mk at *
  generalize l[i] = sj at *
  obtain ⟨sr, sa, sb, st⟩ := sj
  simp only at c0 c1 c2 c3 HFF HTF HHA MK E0 E1 E4 E5 EX EN
  have b1 := bA0 w (.cells #[.int .i64 sr, .int .i64 sa, .int .i64 sb, .int .i64 st] StT)
  have hs1 : (w.alloc (.cells #[.int .i64 sr, .int .i64 sa, .int .i64 sb, .int .i64 st] StT)).heap[w.heap.size]? = some (Obj.cells #[.int .i64 sr, .int .i64 sa, .int .i64 sb, .int .i64 st] StT) := heap_alloc_new _ _
  have s0 := cellB (j := 0) hs1 rfl
  have s1 := cellB (j := 1) hs1 rfl
  have s2 := cellB (j := 2) hs1 rfl
  have s3 := cellB (j := 3) hs1 rfl
  have H1 := Lib.hid b1
  have RI := Lib.hid (rin (HR.out.below b1) st)
  have RN := Lib.hid (rnode (HR.out.below b1) st)
  clear b1 hs1
  cases hin : inP p st with
  | false =>
    have hfo := EN.out hin
    subst hfo
    rw [hin] at RI
    clear E0 E1 E4 E5 EX EN MK hin
    go_enter Tryd.func50, Tryd.ntmps50
    go_wp2_with fail
    refine RI.out.mono ?_
    rintro e w2 ⟨rfl, rfl⟩
    go_wp2_with fail
    go_returns
    exact ⟨rfl, H1.out⟩
  | true =>
    have HIN := Lib.hid hin
    rw [hin] at RI RN
    have hst := in_neP hin
    have F0 := Lib.hid (E0.out hin)
    have F1 := Lib.hid (E1.out hin)
    have F4 := Lib.hid (E4.out hin)
    have F5 := Lib.hid (E5.out hin)
    have MK2 := Lib.hid (MK.out hin)
    clear E0 E1 E4 E5 EN MK hin
    generalize (atP p st).1 = n at *
    obtain ⟨kk, ff, tt, uu, ss, xa, xb⟩ := n
    simp only [nodeA] at RN
    simp only at F4
    have HST := Lib.hid hst
    clear hst
    go_enter Tryd.func50, Tryd.ntmps50
    go_wp2_with fail
    generalize (w.alloc (.cells #[.int .i64 sr, .int .i64 sa, .int .i64 sb, .int .i64 st] StT)) = W1 at *
    refine RI.out.mono ?_
    rintro e w2 ⟨rfl, rfl⟩
    go_wp2_with fail
    refine RN.out.mono ?_
    rintro e w4 ⟨rfl, u4⟩
    have b5 := bA0 w4 (.cells #[.int .i64 kk, .int .i64 ff, .int .i64 tt, .int .u64 uu, .string ss, .int .i64 xa, .int .i64 xb] NodeT)
    have hn5 : (w4.alloc (.cells #[.int .i64 kk, .int .i64 ff, .int .i64 tt, .int .u64 uu, .string ss, .int .i64 xa, .int .i64 xb] NodeT)).heap[w4.heap.size]? = some (Obj.cells #[.int .i64 kk, .int .i64 ff, .int .i64 tt, .int .u64 uu, .string ss, .int .i64 xa, .int .i64 xb] NodeT) := heap_alloc_new _ _
    have H5 := Lib.hid (bmore H1.out (bmore u4 b5))
    have y0 := cellB (j := 0) hn5 rfl
    replace s0 := bcellAt (bmore u4 b5) s0
    replace s1 := bcellAt (bmore u4 b5) s1
    replace s2 := bcellAt (bmore u4 b5) s2
    replace s3 := bcellAt (bmore u4 b5) s3
    clear u4 b5 hn5 RN RI c0 c1 c2 c3
    go_upto_if 32 with fail
    generalize (w4.alloc (.cells #[.int .i64 kk, .int .i64 ff, .int .i64 tt, .int .u64 uu, .string ss, .int .i64 xa, .int .i64 xb] NodeT)) = W at *
    generalize w4.heap.size = nb at *
    by_cases h0 : sr = 0
    · subst h0
      have hfo := F0.out rfl
      clear F0 F1 F4 F5 EX MK2
      have AH := Lib.hid (HFF.out W H5.out)
      cases ha : aheadB i sa sb false false with
      | false =>
        rw [ha] at AH hfo
        obtain rfl : fo = false := by rw [hfo]; rfl
        clear hfo ha
        go_wp2_with fail
        refine AH.out.mono ?_
        rintro e w6 ⟨rfl, nq, rfl⟩
        go_wp2_with fail
        go_returns
        exact ⟨rfl, bmore H5.out (bdn _ _)⟩
      | true =>
        rw [ha] at AH hfo
        obtain rfl : fo = decide (st ∈ g) := by rw [hfo]; rfl
        clear hfo ha
        go_wp2_with fail
        refine AH.out.mono ?_
        rintro e w6 ⟨rfl, nq, rfl⟩
        have HA2 := Lib.hid (HHA.out _ (bmore H5.out (bdn W nq)))
        replace s3 := bcellAt (bdn W nq) s3
        have H6 := Lib.hid (bmore H5.out (bdn W nq))
        generalize W.drewN nq = W6 at *
        go_wp2_with fail
        refine HA2.out.mono ?_
        rintro e w7 ⟨rfl, rfl⟩
        go_wp2_with fail
        go_returns
        exact ⟨rfl, H6.out⟩
    have h0' := ebF h0
    by_cases h1 : sr = 1
    · subst h1
      have hfo := F1.out (by simp)
      clear F0 F1 F4 F5 EX MK2
      have AH := Lib.hid (HTF.out W H5.out)
      cases ha : aheadB i sa sb true false with
      | false =>
        rw [ha] at AH hfo
        obtain rfl : fo = false := by rw [hfo]; rfl
        clear hfo ha
        go_wp2_with fail
        refine AH.out.mono ?_
        rintro e w6 ⟨rfl, nq, rfl⟩
        go_wp2_with fail
        go_returns
        exact ⟨rfl, bmore H5.out (bdn _ _)⟩
      | true =>
        rw [ha, Bool.true_and, take1 HST.out] at hfo
        rw [ha] at AH
        have hA : 0 ≤ sa ∧ sa < (i : Int) := by
          unfold aheadB at ha
          simp only [if_true, Bool.and_eq_true, decide_eq_true_eq] at ha
          exact ha.1
        obtain ⟨hA0, hA1⟩ := hA
        obtain ⟨mA, rfl, hmA, _⟩ := HC.out W sa H5.out hA0 hA1
        have gA0 : (0 : Int) ≤ (mA : Int) := by omega
        have gA1 : (mA : Int) < (l.length : Int) := by omega
        have RB := Lib.hid (fun (W : World) (h : Below w.heap.size w W) => rnode (HR.out.below h) (saidP (l.take i) (mA : Int)))
        have HDA := Lib.hid (fun (W : World) (h : Below w.heap.size w W) => show W.cell? ⟨gb, go + mA * 4 + 3, none⟩ = some (.int .i64 (saidP (l.take i) (mA : Int))) by
          obtain ⟨m, e, _, h9⟩ := HC.out W (mA : Int) h hA0 hA1
          obtain rfl : m = mA := by omega
          exact h9)
        have HFO := Lib.hid hfo
        generalize (atP p (saidP (l.take i) (mA : Int))).1 = n2 at *
        generalize inP p (saidP (l.take i) (mA : Int)) = i2 at *
        generalize saidP (l.take i) (mA : Int) = tA at *
        obtain ⟨k9, f9, t9, m9, e9, a9, b9⟩ := n2
        simp only [nodeA] at RB
        simp only at HFO
        clear ha HC hA0 hA1 hfo
        go_wp2_with fail
        refine AH.out.mono ?_
        rintro e w6 ⟨rfl, nq, rfl⟩
        have hdn := bdn W nq
        have H6 := Lib.hid (bmore H5.out hdn)
        have dA := HDA.out _ (bmore H5.out hdn)
        replace s0 := bcellAt (hdn) s0
        replace s1 := bcellAt (hdn) s1
        replace s2 := bcellAt (hdn) s2
        replace s3 := bcellAt (hdn) s3
        clear hdn AH HDA
        generalize W.drewN nq = W6 at *
        go_wp2_with fail
        refine (RB.out _ H6.out).mono ?_
        rintro e w7 ⟨rfl, u7⟩
        have b8 := bA0 w7 (.cells #[.int .i64 k9, .int .i64 f9, .int .i64 t9, .int .u64 m9, .string e9, .int .i64 a9, .int .i64 b9] NodeT)
        have hn8 : (w7.alloc (.cells #[.int .i64 k9, .int .i64 f9, .int .i64 t9, .int .u64 m9, .string e9, .int .i64 a9, .int .i64 b9] NodeT)).heap[w7.heap.size]? = some (Obj.cells #[.int .i64 k9, .int .i64 f9, .int .i64 t9, .int .u64 m9, .string e9, .int .i64 a9, .int .i64 b9] NodeT) := heap_alloc_new _ _
        have x0 := cellB (j := 0) hn8 rfl
        have x5 := cellB (j := 5) hn8 rfl
        have x6 := cellB (j := 6) hn8 rfl
        replace s0 := bcellAt (bmore u7 b8) s0
        replace s1 := bcellAt (bmore u7 b8) s1
        replace s2 := bcellAt (bmore u7 b8) s2
        replace s3 := bcellAt (bmore u7 b8) s3
        have H8 := Lib.hid (bmore H6.out (bmore u7 b8))
        clear u7 b8 hn8 RB dA
        cases hk : k9 == 4 with
        | false =>
          obtain rfl : fo = false := by rw [HFO.out, hk]; rfl
          clear HFO
          go_wp2_with fail
          go_returns
          exact ⟨rfl, H8.out⟩
        | true =>
          cases ht : a9 == st with
          | false =>
            obtain rfl : fo = false := by rw [HFO.out, hk, ht]; rfl
            clear HFO
            go_wp2_with fail
            go_returns
            exact ⟨rfl, H8.out⟩
          | true =>
            obtain rfl : fo = true := by rw [HFO.out, hk, ht]; rfl
            clear HFO
            go_wp2_with fail
            go_returns
            exact ⟨rfl, H8.out⟩
    have h1' := ebF h1
    by_cases h2 : sr = 2
    · subst h2
      have hfo := F1.out (by simp)
      clear F0 F1 F4 F5 EX MK2
      have AH := Lib.hid (HTF.out W H5.out)
      cases ha : aheadB i sa sb true false with
      | false =>
        rw [ha] at AH hfo
        obtain rfl : fo = false := by rw [hfo]; rfl
        clear hfo ha
        go_wp2_with fail
        refine AH.out.mono ?_
        rintro e w6 ⟨rfl, nq, rfl⟩
        go_wp2_with fail
        go_returns
        exact ⟨rfl, bmore H5.out (bdn _ _)⟩
      | true =>
        rw [ha, Bool.true_and, take2 HST.out] at hfo
        rw [ha] at AH
        have hA : 0 ≤ sa ∧ sa < (i : Int) := by
          unfold aheadB at ha
          simp only [if_true, Bool.and_eq_true, decide_eq_true_eq] at ha
          exact ha.1
        obtain ⟨hA0, hA1⟩ := hA
        obtain ⟨mA, rfl, hmA, _⟩ := HC.out W sa H5.out hA0 hA1
        have gA0 : (0 : Int) ≤ (mA : Int) := by omega
        have gA1 : (mA : Int) < (l.length : Int) := by omega
        have RB := Lib.hid (fun (W : World) (h : Below w.heap.size w W) => rnode (HR.out.below h) (saidP (l.take i) (mA : Int)))
        have HDA := Lib.hid (fun (W : World) (h : Below w.heap.size w W) => show W.cell? ⟨gb, go + mA * 4 + 3, none⟩ = some (.int .i64 (saidP (l.take i) (mA : Int))) by
          obtain ⟨m, e, _, h9⟩ := HC.out W (mA : Int) h hA0 hA1
          obtain rfl : m = mA := by omega
          exact h9)
        have HFO := Lib.hid hfo
        generalize (atP p (saidP (l.take i) (mA : Int))).1 = n2 at *
        generalize inP p (saidP (l.take i) (mA : Int)) = i2 at *
        generalize saidP (l.take i) (mA : Int) = tA at *
        obtain ⟨k9, f9, t9, m9, e9, a9, b9⟩ := n2
        simp only [nodeA] at RB
        simp only at HFO
        clear ha HC hA0 hA1 hfo
        go_wp2_with fail
        refine AH.out.mono ?_
        rintro e w6 ⟨rfl, nq, rfl⟩
        have hdn := bdn W nq
        have H6 := Lib.hid (bmore H5.out hdn)
        have dA := HDA.out _ (bmore H5.out hdn)
        replace s0 := bcellAt (hdn) s0
        replace s1 := bcellAt (hdn) s1
        replace s2 := bcellAt (hdn) s2
        replace s3 := bcellAt (hdn) s3
        clear hdn AH HDA
        generalize W.drewN nq = W6 at *
        go_wp2_with fail
        refine (RB.out _ H6.out).mono ?_
        rintro e w7 ⟨rfl, u7⟩
        have b8 := bA0 w7 (.cells #[.int .i64 k9, .int .i64 f9, .int .i64 t9, .int .u64 m9, .string e9, .int .i64 a9, .int .i64 b9] NodeT)
        have hn8 : (w7.alloc (.cells #[.int .i64 k9, .int .i64 f9, .int .i64 t9, .int .u64 m9, .string e9, .int .i64 a9, .int .i64 b9] NodeT)).heap[w7.heap.size]? = some (Obj.cells #[.int .i64 k9, .int .i64 f9, .int .i64 t9, .int .u64 m9, .string e9, .int .i64 a9, .int .i64 b9] NodeT) := heap_alloc_new _ _
        have x0 := cellB (j := 0) hn8 rfl
        have x5 := cellB (j := 5) hn8 rfl
        have x6 := cellB (j := 6) hn8 rfl
        replace s0 := bcellAt (bmore u7 b8) s0
        replace s1 := bcellAt (bmore u7 b8) s1
        replace s2 := bcellAt (bmore u7 b8) s2
        replace s3 := bcellAt (bmore u7 b8) s3
        have H8 := Lib.hid (bmore H6.out (bmore u7 b8))
        clear u7 b8 hn8 RB dA
        cases hk : k9 == 4 with
        | false =>
          obtain rfl : fo = false := by rw [HFO.out, hk]; rfl
          clear HFO
          go_wp2_with fail
          go_returns
          exact ⟨rfl, H8.out⟩
        | true =>
          cases ht : b9 == st with
          | false =>
            obtain rfl : fo = false := by rw [HFO.out, hk, ht]; rfl
            clear HFO
            go_wp2_with fail
            go_returns
            exact ⟨rfl, H8.out⟩
          | true =>
            obtain rfl : fo = true := by rw [HFO.out, hk, ht]; rfl
            clear HFO
            go_wp2_with fail
            go_returns
            exact ⟨rfl, H8.out⟩
    have h2' := ebF h2
    by_cases h3 : sr = 3
    · subst h3
      have hfo := F1.out (by simp)
      clear F0 F1 F4 F5 EX MK2
      have AH := Lib.hid (HTF.out W H5.out)
      cases ha : aheadB i sa sb true false with
      | false =>
        rw [ha] at AH hfo
        obtain rfl : fo = false := by rw [hfo]; rfl
        clear hfo ha
        go_wp2_with fail
        refine AH.out.mono ?_
        rintro e w6 ⟨rfl, nq, rfl⟩
        go_wp2_with fail
        go_returns
        exact ⟨rfl, bmore H5.out (bdn _ _)⟩
      | true =>
        rw [ha, Bool.true_and, take3 HST.out] at hfo
        rw [ha] at AH
        have hA : 0 ≤ sa ∧ sa < (i : Int) := by
          unfold aheadB at ha
          simp only [if_true, Bool.and_eq_true, decide_eq_true_eq] at ha
          exact ha.1
        obtain ⟨hA0, hA1⟩ := hA
        obtain ⟨mA, rfl, hmA, _⟩ := HC.out W sa H5.out hA0 hA1
        have gA0 : (0 : Int) ≤ (mA : Int) := by omega
        have gA1 : (mA : Int) < (l.length : Int) := by omega
        have RB := Lib.hid (fun (W : World) (h : Below w.heap.size w W) => rnode (HR.out.below h) (saidP (l.take i) (mA : Int)))
        have HDA := Lib.hid (fun (W : World) (h : Below w.heap.size w W) => show W.cell? ⟨gb, go + mA * 4 + 3, none⟩ = some (.int .i64 (saidP (l.take i) (mA : Int))) by
          obtain ⟨m, e, _, h9⟩ := HC.out W (mA : Int) h hA0 hA1
          obtain rfl : m = mA := by omega
          exact h9)
        have HFO := Lib.hid hfo
        generalize (atP p (saidP (l.take i) (mA : Int))).1 = n2 at *
        generalize inP p (saidP (l.take i) (mA : Int)) = i2 at *
        generalize saidP (l.take i) (mA : Int) = tA at *
        obtain ⟨k9, f9, t9, m9, e9, a9, b9⟩ := n2
        simp only [nodeA] at RB
        simp only at HFO
        clear ha HC hA0 hA1 hfo
        go_wp2_with fail
        refine AH.out.mono ?_
        rintro e w6 ⟨rfl, nq, rfl⟩
        have hdn := bdn W nq
        have H6 := Lib.hid (bmore H5.out hdn)
        have dA := HDA.out _ (bmore H5.out hdn)
        replace s0 := bcellAt (hdn) s0
        replace s1 := bcellAt (hdn) s1
        replace s2 := bcellAt (hdn) s2
        replace s3 := bcellAt (hdn) s3
        clear hdn AH HDA
        generalize W.drewN nq = W6 at *
        go_wp2_with fail
        refine (RB.out _ H6.out).mono ?_
        rintro e w7 ⟨rfl, u7⟩
        have b8 := bA0 w7 (.cells #[.int .i64 k9, .int .i64 f9, .int .i64 t9, .int .u64 m9, .string e9, .int .i64 a9, .int .i64 b9] NodeT)
        have hn8 : (w7.alloc (.cells #[.int .i64 k9, .int .i64 f9, .int .i64 t9, .int .u64 m9, .string e9, .int .i64 a9, .int .i64 b9] NodeT)).heap[w7.heap.size]? = some (Obj.cells #[.int .i64 k9, .int .i64 f9, .int .i64 t9, .int .u64 m9, .string e9, .int .i64 a9, .int .i64 b9] NodeT) := heap_alloc_new _ _
        have x0 := cellB (j := 0) hn8 rfl
        have x5 := cellB (j := 5) hn8 rfl
        have x6 := cellB (j := 6) hn8 rfl
        replace s0 := bcellAt (bmore u7 b8) s0
        replace s1 := bcellAt (bmore u7 b8) s1
        replace s2 := bcellAt (bmore u7 b8) s2
        replace s3 := bcellAt (bmore u7 b8) s3
        have H8 := Lib.hid (bmore H6.out (bmore u7 b8))
        clear u7 b8 hn8 RB dA
        have SH := Lib.hid (fun (W : World) => shows_any k9 W)
        cases hk : showB k9 with
        | false =>
          obtain rfl : fo = false := by rw [HFO.out, hk]; rfl
          rw [hk] at SH
          clear HFO hk
          go_wp2_with fail
          refine (SH.out _).mono ?_
          rintro e w9 ⟨rfl, rfl⟩
          go_wp2_with fail
          go_returns
          exact ⟨rfl, H8.out⟩
        | true =>
          rw [hk] at SH
          cases ht : a9 == st with
          | false =>
            obtain rfl : fo = false := by rw [HFO.out, hk, ht]; rfl
            clear HFO hk
            go_wp2_with fail
            refine (SH.out _).mono ?_
            rintro e w9 ⟨rfl, rfl⟩
            go_wp2_with fail
            go_returns
            exact ⟨rfl, H8.out⟩
          | true =>
            obtain rfl : fo = true := by rw [HFO.out, hk, ht]; rfl
            clear HFO hk
            go_wp2_with fail
            refine (SH.out _).mono ?_
            rintro e w9 ⟨rfl, rfl⟩
            go_wp2_with fail
            go_returns
            exact ⟨rfl, H8.out⟩
    have h3' := ebF h3
    by_cases h4 : sr = 4
    · subst h4
      have hfo := F4.out rfl
      clear F0 F1 F4 F5 EX MK2
      have AH := Lib.hid (HFF.out W H5.out)
      cases ha : aheadB i sa sb false false with
      | false =>
        rw [ha] at AH hfo
        obtain rfl : fo = false := by rw [hfo]; rfl
        clear hfo ha
        go_wp2_with fail
        refine AH.out.mono ?_
        rintro e w6 ⟨rfl, nq, rfl⟩
        go_wp2_with fail
        go_returns
        exact ⟨rfl, bmore H5.out (bdn _ _)⟩
      | true =>
        rw [ha, Bool.true_and] at hfo
        rw [ha] at AH
        unfold freeB at hfo
        have HFO := Lib.hid hfo
        clear hfo ha
        go_wp2_with fail
        refine AH.out.mono ?_
        rintro e w6 ⟨rfl, nq, rfl⟩
        have hdn := bdn W nq
        have H6 := Lib.hid (bmore H5.out hdn)
        replace y0 := bcellAt (hdn) y0
        clear hdn AH
        generalize W.drewN nq = W6 at *
        cases hk1 : kk == 1 with
        | true =>
          obtain rfl : fo = true := by rw [HFO.out, hk1]; rfl
          clear HFO
          go_wp2_with fail
          go_returns
          exact ⟨rfl, H6.out⟩
        | false =>
          cases hk2 : kk == 2 with
          | true =>
            obtain rfl : fo = true := by rw [HFO.out, hk1, hk2]; rfl
            clear HFO
            go_wp2_with fail
            go_returns
            exact ⟨rfl, H6.out⟩
          | false =>
            cases hk3 : kk == 3 with
            | true =>
              obtain rfl : fo = true := by rw [HFO.out, hk1, hk2, hk3]; rfl
              clear HFO
              go_wp2_with fail
              go_returns
              exact ⟨rfl, H6.out⟩
            | false =>
              obtain rfl : fo = false := by rw [HFO.out, hk1, hk2, hk3]; rfl
              clear HFO
              go_wp2_with fail
              go_returns
              exact ⟨rfl, H6.out⟩
    have h4' := ebF h4
    by_cases h5 : sr = 5
    · subst h5
      obtain rfl : fo = mk := F5.out rfl
      clear F0 F1 F4 F5 EX
      go_wp2_with fail
      refine (MK2.out _ H5.out).mono ?_
      rintro e w6 ⟨rfl, u6⟩
      have H6 := Lib.hid (bmore H5.out u6)
      clear u6
      go_wp2_with fail
      go_returns
      exact ⟨rfl, H6.out⟩
    have h5' := ebF h5
    obtain rfl : fo = false := EX.out ⟨h0, h1, h2, h3, h4, h5⟩
    clear F0 F1 F4 F5 EX MK2
    go_wp2_with fail
    go_returns
    exact ⟨rfl, H5.out⟩

set_option maxRecDepth 100000 in
set_option maxHeartbeats 12800000 in
theorem rcheck_any (hp : IsRef w B ra rl rs rd p) {vg vl : Value} {g : List Int} {l : List St} (hg : Row w 1 vg g.length (ints g)) (hgl : g.length ≤ 1000000) (hl : Row w 4 vl l.length (sts l)) (hll : l.length ≤ 1000000) {goal : Int} :
    Calls Tryd.prog 18 #[.pointer (some ⟨ra, 0, none⟩), vg, vl, .int .i64 goal] w fun e w' => e = .returned (.tuple #[.int .i64 (checkP p g l goal).1, .int .i64 (checkP p g l goal).2]) ∧ Below w.heap.size w w' := by
  obtain ⟨la, lc, rfl, hlx⟩ := hl.at2
  have HP := Lib.hid hp
  have HLX := Lib.hid hlx
  have FO := Lib.hid (fun (W : World) (h : Below w.heap.size w W) (j : Nat) (hj : j < l.length) => rfol_any (hp.below h) (hg.below h) hgl (hl.below h) hj)
  clear hp hg hl hlx
  go_enter Tryd.func18, Tryd.ntmps18
  go_wp2_with fail
  go_loopw [10] (fun v10 wj => ∃ i : Nat, v10 = .int .i64 (i : Int) ∧ i ≤ l.length ∧ Below w.heap.size w wj ∧ badP p g l l.length 0 = badP p g l (l.length - i) i) (fun v _ => l.length - (intOf v).toNat)
  case atStart => exact ⟨0, rfl, Nat.zero_le _, Below.refl _ _, rfl⟩
  case round =>
    obtain ⟨j, rfl, hj, hbj, hbad⟩ := hrel
    have HBJ := Lib.hid hbj
    have HBAD := Lib.hid hbad
    clear hbj hbad
    by_cases hlt : j < l.length
    · have HST := Lib.hid (badP_step (p := p) (given := g) hlt)
      have HSP := Lib.hid (badP_stop (p := p) (given := g) hlt)
      have F1 := Lib.hid (FO.out _ HBJ.out j hlt)
      have hj0 : (0 : Int) ≤ (j : Int) := by omega
      have hj1 : (j : Int) < (l.length : Int) := by omega
      generalize hfb : followsP p g (l.take j) l[j] = fb at *
      have HFB := Lib.hid hfb
      clear hfb
      go_wp2_with fail
      refine F1.out.mono ?_
      rintro e w5 ⟨rfl, u5⟩
      have HZ := Lib.hid (bmore HBJ.out u5)
      clear u5 F1
      cases fb with
      | true =>
        go_wp2_with fail
        go_roundw
        case rel => exact ⟨j + 1, by go_num, by omega, HZ.out, HBAD.out.trans (HST.out (by first | trivial | exact HFB.out))⟩
        case measure => simp [intOf]; omega
      | false =>
        have HCK : Hid (checkP p g l goal = (80, (j : Int))) := Lib.hid (by unfold checkP; rw [HBAD.out, HSP.out (by first | trivial | exact HFB.out)])
        go_wp2_with fail
        go_returns
        exact ⟨by rw [HCK.out]; rfl, HZ.out⟩
    · obtain rfl : j = l.length := by omega
      have HBN : Hid (badP p g l l.length 0 = none) := Lib.hid (by rw [HBAD.out, Nat.sub_self]; rfl)
      clear hlt
      by_cases h0 : l.length = 0
      · have HCK : Hid (checkP p g l goal = (81, (l.length : Int))) := Lib.hid (by unfold checkP; rw [HBN.out]; simp only; rw [if_pos (.inl h0)])
        have h0' : (((l.length : Nat) : Int) == 0) = true := by rw [h0]; rfl
        go_wp2_with fail
        go_returns
        exact ⟨by rw [HCK.out, h0]; rfl, HBJ.out⟩
      · have h0' := ebF (show ¬ ((l.length : Nat) : Int) = 0 by omega)
        obtain ⟨m, hm⟩ : ∃ m, l.length = m + 1 := ⟨l.length - 1, by omega⟩
        have hml : m < l.length := by omega
        obtain ⟨lb, lo, rfl, q⟩ := HLX.out (by omega)
        have c3 := bcellAt HBJ.out (q _ _ (sts_at l m hml).2.2.2)
        have hgd : (l.getD (l.length - 1) zeroSt).t = (l[m]).t := by rw [hm, Nat.add_sub_cancel, List.getD_eq_getElem?_getD, List.getElem?_eq_getElem hml, Option.getD_some]
        have HGD := Lib.hid hgd
        generalize (l[m]).t = y at *
        simp only [← Nat.add_assoc] at c3
        have hw1 : wrap64 ((l.length : Int) - 1) = (m : Int) := by unfold wrap64; omega
        have hm0 : (0 : Int) ≤ (m : Int) := by omega
        have hm1 : (m : Int) < (l.length : Int) := by omega
        have hln : ((l.length : Nat) : Int) = (m : Int) + 1 := by omega
        clear q hgd
        cases hq : y != goal with
        | true =>
          have HCK : Hid (checkP p g l goal = (81, (l.length : Int))) := Lib.hid (by unfold checkP; rw [HBN.out]; simp only; rw [if_pos (.inr (by rw [HGD.out]; exact bne_iff_ne.1 hq))])
          go_wp2_with fail
          go_returns
          exact ⟨by rw [HCK.out, hm]; rfl, HBJ.out⟩
        | false =>
          have HCK : Hid (checkP p g l goal = (0, 0)) := Lib.hid (by unfold checkP; rw [HBN.out]; simp only; rw [if_neg (by rintro (h | h); exact h0 h; rw [HGD.out] at h; exact absurd h (by simpa using hq))])
          go_wp2_with fail
          go_returns
          exact ⟨by rw [HCK.out]; rfl, HBJ.out⟩
end
end Go.Proofs.YtljbmgehgbcdfaaDoor
