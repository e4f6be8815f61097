/-
  The document's own Has, ahead, makes, follows.
-/
import Derived.Test.YtljbmgehgbcdfaaDoorERefP
import Derived.Test.YtljbmgehgbcdfaaDoorEChk
import Derived.BigQuiet
namespace Go.Proofs.YtljbmgehgbcdfaaDoor
open Go.RowKit Go.Maps
set_option linter.unusedVariables false

def Told (b : Bool) (w : World) (e : Ending) (w' : World) : Prop := e = .returned (.bool b) ∧ ∃ n, w' = w.drewN n
theorem told_quiet {f : FuncId} {args : Array Value} {w : World} {b : Bool} (h : ∀ n, Calls Tryd.prog f args (w.drewN n) (Told b (w.drewN n))) (n : Nat) :
    Calls Tryd.prog f args (w.drewN n) fun e w' => e = .returned (.bool b) ∧ ∃ m, w' = w.drewN m :=
  Calls.quiet_of ((h n).mono fun _ _ ⟨h1, m, h2⟩ => ⟨h1, m, h2⟩)
set_option maxRecDepth 100000 in
set_option maxHeartbeats 1600000 in
theorem rhasL {w : World} {vg : Value} {g : List Int} (hg : Row w 1 vg g.length (ints g)) (hgl : g.length ≤ 1000000) (t : Int) : Calls Tryd.prog 43 #[vg, .int .i64 t] w fun e w' => e = .returned (.bool (decide (t ∈ g))) ∧ w = w' := by
  obtain ⟨ga, gc, rfl, hx⟩ := hg.at
  have HX := Lib.hid hx
  clear hg hx
  go_enter Tryd.func43, Tryd.ntmps43
  go_wp2_with fail
  go_loop [5] (fun v => ∃ i : Nat, v = .int .i64 (i : Int) ∧ i ≤ g.length ∧ t ∉ g.take i) (fun v => g.length - (intOf v).toNat)
  case atStart => exact ⟨0, rfl, Nat.zero_le _, by simp⟩
  case round =>
    obtain ⟨i, rfl, hi, hn⟩ := hrel
    by_cases hlt : i < g.length
    · obtain ⟨gb, go, rfl, q⟩ := HX.out (by omega)
      have c0 := q i _ (ints_at g i hlt)
      have hi0 : (0 : Int) ≤ (i : Int) := by omega
      have hi1 : (i : Int) < (g.length : Int) := by omega
      have htk : g.take (i + 1) = g.take i ++ [g[i]] := by simp
      have hmem : g[i] ∈ g := List.getElem_mem hlt
      have HN := Lib.hid hn
      have HTK := Lib.hid htk
      have HME := Lib.hid hmem
      generalize g[i] = x at *
      clear q hn htk hmem
      cases hq : x == t with
      | true =>
        go_wp2_with fail
        go_returns
        exact ⟨by rw [decide_eq_true (by rw [← eq_of_beq hq]; exact HME.out)]; rfl, rfl⟩
      | false =>
        go_wp2_with fail
        go_round
        case rel => exact ⟨i + 1, by go_num, by omega, by
          rw [HTK.out, List.mem_append, List.mem_singleton]
          rintro (h | h)
          · exact HN.out h
          · rw [h] at hq; simp at hq⟩
        case measure => simp [intOf]; omega
    · obtain rfl : i = g.length := by omega
      have hn' : t ∉ g := by have h9 := hn; rwa [List.take_of_length_le (Nat.le_refl _)] at h9
      have HD := Lib.hid (decide_eq_false hn')
      clear hn hn' hlt
      go_wp2_with fail
      go_returns
      exact ⟨by rw [HD.out]; rfl, rfl⟩
set_option maxRecDepth 100000 in
set_option maxHeartbeats 3200000 in
theorem ahead_ff {w : World} {vl : Value} {l : List St} (hr : Row w 4 vl l.length (sts l)) {i : Nat} (hi : i < l.length) : Calls Tryd.prog 70 #[vl, .int .i64 (i : Int), .bool false, .bool false] w (Told (aheadB i (l[i]).a (l[i]).b false false) w) := by
  obtain ⟨la, lc, rfl, hx⟩ := hr.at2
  obtain ⟨gb, go, rfl, q⟩ := hx (by omega)
  have c1 := q _ _ (sts_at l i hi).2.1
  have c2 := q _ _ (sts_at l i hi).2.2.1
  simp only [← Nat.add_assoc] at c1 c2
  have hi0 : (0 : Int) ≤ (i : Int) := by omega
  have hi1 : (i : Int) < (l.length : Int) := by omega
  generalize (l[i]).a = x at *
  generalize (l[i]).b = y at *
  clear q hx hr
  unfold aheadB
  simp only [Bool.false_eq_true, if_false]
  by_cases hx0 : x = 0
  case neg =>
    have ex := ebF hx0
    have hx1 : (x != 0) = true := by rw [bne, ex]; rfl
    go_enter Tryd.func70, Tryd.ntmps70
    go_wp2_with fail
    go_quiet (fail)
    go_wp2_with fail
    go_returns
    exact ⟨(by rw [ex]; simp), _, rfl⟩
  have ex : (x == 0) = true := by rw [hx0]; rfl
  have hx1 : (x != 0) = false := by rw [bne, ex]; rfl
  clear hx0
  by_cases hy0 : y = 0
  case neg =>
    have ey := ebF hy0
    have hy1 : (y != 0) = true := by rw [bne, ey]; rfl
    go_enter Tryd.func70, Tryd.ntmps70
    go_wp2_with fail
    go_quiet (fail)
    go_wp2_with fail
    go_returns
    exact ⟨(by rw [ey]; simp), _, rfl⟩
  have ey : (y == 0) = true := by rw [hy0]; rfl
  have hy1 : (y != 0) = false := by rw [bne, ey]; rfl
  clear hy0
  go_enter Tryd.func70, Tryd.ntmps70
  go_wp2_with fail
  go_quiet (fail)
  go_wp2_with fail
  go_returns
  exact ⟨(by rw [ex, ey]; rfl), _, rfl⟩
set_option maxRecDepth 100000 in
set_option maxHeartbeats 3200000 in
theorem ahead_tf {w : World} {vl : Value} {l : List St} (hr : Row w 4 vl l.length (sts l)) {i : Nat} (hi : i < l.length) : Calls Tryd.prog 70 #[vl, .int .i64 (i : Int), .bool true, .bool false] w (Told (aheadB i (l[i]).a (l[i]).b true false) w) := by
  obtain ⟨la, lc, rfl, hx⟩ := hr.at2
  obtain ⟨gb, go, rfl, q⟩ := hx (by omega)
  have c1 := q _ _ (sts_at l i hi).2.1
  have c2 := q _ _ (sts_at l i hi).2.2.1
  simp only [← Nat.add_assoc] at c1 c2
  have hi0 : (0 : Int) ≤ (i : Int) := by omega
  have hi1 : (i : Int) < (l.length : Int) := by omega
  generalize (l[i]).a = x at *
  generalize (l[i]).b = y at *
  clear q hx hr
  unfold aheadB
  simp only [if_true, Bool.false_eq_true, if_false]
  by_cases hx0 : x < 0
  · have ex : (decide (0 ≤ x) && decide (x < (i : Int))) = false := by rw [decide_eq_false (by omega)]; rfl
    go_enter Tryd.func70, Tryd.ntmps70
    go_wp2_with fail
    go_quiet (fail)
    go_wp2_with fail
    go_returns
    exact ⟨(by rw [ex]; simp), _, rfl⟩
  have hx0' : decide (x < 0) = false := decide_eq_false hx0
  by_cases hx1 : (i : Int) ≤ x
  · have ex : (decide (0 ≤ x) && decide (x < (i : Int))) = false := by rw [decide_eq_false (show ¬ x < (i : Int) by omega)]; simp
    go_enter Tryd.func70, Tryd.ntmps70
    go_wp2_with fail
    go_quiet (fail)
    go_wp2_with fail
    go_returns
    exact ⟨(by rw [ex]; simp), _, rfl⟩
  have hx1' : decide ((i : Int) ≤ x) = false := decide_eq_false hx1
  have ex : (decide (0 ≤ x) && decide (x < (i : Int))) = true := by rw [decide_eq_true (by omega), decide_eq_true (by omega)]; rfl
  by_cases hy0 : y = 0
  case neg =>
    have ey := ebF hy0
    have hy1 : (y != 0) = true := by rw [bne, ey]; rfl
    go_enter Tryd.func70, Tryd.ntmps70
    go_wp2_with fail
    go_quiet (fail)
    go_wp2_with fail
    go_returns
    exact ⟨(by rw [ey]; simp), _, rfl⟩
  have ey : (y == 0) = true := by rw [hy0]; rfl
  have hy1 : (y != 0) = false := by rw [bne, ey]; rfl
  clear hy0
  go_enter Tryd.func70, Tryd.ntmps70
  go_wp2_with fail
  go_quiet (fail)
  go_wp2_with fail
  go_returns
  exact ⟨(by rw [ex, ey]; rfl), _, rfl⟩
set_option maxRecDepth 100000 in
set_option maxHeartbeats 3200000 in
theorem ahead_tt {w : World} {vl : Value} {l : List St} (hr : Row w 4 vl l.length (sts l)) {i : Nat} (hi : i < l.length) : Calls Tryd.prog 70 #[vl, .int .i64 (i : Int), .bool true, .bool true] w (Told (aheadB i (l[i]).a (l[i]).b true true) w) := by
  obtain ⟨la, lc, rfl, hx⟩ := hr.at2
  obtain ⟨gb, go, rfl, q⟩ := hx (by omega)
  have c1 := q _ _ (sts_at l i hi).2.1
  have c2 := q _ _ (sts_at l i hi).2.2.1
  simp only [← Nat.add_assoc] at c1 c2
  have hi0 : (0 : Int) ≤ (i : Int) := by omega
  have hi1 : (i : Int) < (l.length : Int) := by omega
  generalize (l[i]).a = x at *
  generalize (l[i]).b = y at *
  clear q hx hr
  unfold aheadB
  simp only [if_true]
  by_cases hx0 : x < 0
  · have ex : (decide (0 ≤ x) && decide (x < (i : Int))) = false := by rw [decide_eq_false (by omega)]; rfl
    go_enter Tryd.func70, Tryd.ntmps70
    go_wp2_with fail
    go_quiet (fail)
    go_wp2_with fail
    go_returns
    exact ⟨(by rw [ex]; simp), _, rfl⟩
  have hx0' : decide (x < 0) = false := decide_eq_false hx0
  by_cases hx1 : (i : Int) ≤ x
  · have ex : (decide (0 ≤ x) && decide (x < (i : Int))) = false := by rw [decide_eq_false (show ¬ x < (i : Int) by omega)]; simp
    go_enter Tryd.func70, Tryd.ntmps70
    go_wp2_with fail
    go_quiet (fail)
    go_wp2_with fail
    go_returns
    exact ⟨(by rw [ex]; simp), _, rfl⟩
  have hx1' : decide ((i : Int) ≤ x) = false := decide_eq_false hx1
  have ex : (decide (0 ≤ x) && decide (x < (i : Int))) = true := by rw [decide_eq_true (by omega), decide_eq_true (by omega)]; rfl
  by_cases hy0 : y < 0
  · have ey : (decide (0 ≤ y) && decide (y < (i : Int))) = false := by rw [decide_eq_false (by omega)]; rfl
    go_enter Tryd.func70, Tryd.ntmps70
    go_wp2_with fail
    go_quiet (fail)
    go_wp2_with fail
    go_returns
    exact ⟨(by rw [ey]; simp), _, rfl⟩
  have hy0' : decide (y < 0) = false := decide_eq_false hy0
  by_cases hy1 : (i : Int) ≤ y
  · have ey : (decide (0 ≤ y) && decide (y < (i : Int))) = false := by rw [decide_eq_false (show ¬ y < (i : Int) by omega)]; simp
    go_enter Tryd.func70, Tryd.ntmps70
    go_wp2_with fail
    go_quiet (fail)
    go_wp2_with fail
    go_returns
    exact ⟨(by rw [ey]; simp), _, rfl⟩
  have hy1' : decide ((i : Int) ≤ y) = false := decide_eq_false hy1
  have ey : (decide (0 ≤ y) && decide (y < (i : Int))) = true := by rw [decide_eq_true (by omega), decide_eq_true (by omega)]; rfl
  go_enter Tryd.func70, Tryd.ntmps70
  go_wp2_with fail
  go_quiet (fail)
  go_wp2_with fail
  go_returns
  exact ⟨(by rw [ex, ey]; rfl), _, rfl⟩

section
variable {w : World} {B ra : Nat} {rl rs rd : Value} {p : Pl}
set_option maxRecDepth 100000 in
set_option maxHeartbeats 12800000 in
theorem makes_any (hp : IsRef w B ra rl rs rd p) {vl : Value} {l : List St} (hr : Row w 4 vl l.length (sts l)) {i : Nat} (hi : i < l.length) (hin : inP p (l[i]).t = true) : Calls Tryd.prog 71 #[.pointer (some ⟨ra, 0, none⟩), vl, .int .i64 (i : Int)] w fun e w' => e = .returned (.bool (mkB p l i l[i])) ∧ Below w.heap.size w w' := by
  obtain ⟨la, lc, rfl, hx⟩ := hr.at2
  obtain ⟨gb, go, rfl, q⟩ := hx (by omega)
  have c1 := q _ _ (sts_at l i hi).2.1
  have c2 := q _ _ (sts_at l i hi).2.2.1
  have c3 := q _ _ (sts_at l i hi).2.2.2
  have HC : Hid (∀ (W : World) (x : Int), Below w.heap.size w W → 0 ≤ x → x < (i : Int) → ∃ m : Nat, x = (m : Int) ∧ m < l.length ∧ W.cell? ⟨gb, go + m * 4 + 3, none⟩ = some (.int .i64 (saidP (l.take i) x))) := Lib.hid (fun W x hW h0 h1 => by
    obtain ⟨m, rfl⟩ := Int.eq_ofNat_of_zero_le h0
    have hm : m < l.length := by omega
    refine ⟨m, rfl, hm, ?_⟩
    rw [said_take (Nat.le_of_lt hi) h0 h1, Int.toNat_natCast, List.getD_eq_getElem?_getD, List.getElem?_eq_getElem hm, Option.getD_some, Nat.add_assoc]
    exact bcellAt hW (q _ _ (sts_at l m hm).2.2.2))
  simp only [← Nat.add_assoc] at c1 c2 c3
  have hi0 : (0 : Int) ≤ (i : Int) := by omega
  have hi1 : (i : Int) < (l.length : Int) := by omega
  have HTF := Lib.hid (fun (W : World) (h : Below w.heap.size w W) (n : Nat) => ahead_tf ((hr.below h).below (bdn W n)) hi)
  have HTT := Lib.hid (fun (W : World) (h : Below w.heap.size w W) (n : Nat) => ahead_tt ((hr.below h).below (bdn W n)) hi)
  have M4 := Lib.hid (fun (h : (atP p (l[i]).t).1.kind = 4) => mk4 (s := l[i]) hp.ok hin (Nat.le_of_lt hi) h)
  have M5 := Lib.hid (fun (h : (atP p (l[i]).t).1.kind = 5) => mk5 (s := l[i]) hp.ok hin (Nat.le_of_lt hi) h)
  have M7 := Lib.hid (fun (h : (atP p (l[i]).t).1.kind = 7 ∨ (atP p (l[i]).t).1.kind = 8 ∨ (atP p (l[i]).t).1.kind = 9) => mk7 (s := l[i]) hp.ok hin (Nat.le_of_lt hi) h)
  have MX := Lib.hid (fun (h : (atP p (l[i]).t).1.kind ≠ 4 ∧ (atP p (l[i]).t).1.kind ≠ 5 ∧ (atP p (l[i]).t).1.kind ≠ 7 ∧ (atP p (l[i]).t).1.kind ≠ 8 ∧ (atP p (l[i]).t).1.kind ≠ 9) => mkx (l := l) (i := i) (s := l[i]) h)
  have RN := Lib.hid (rnode hp (l[i]).t)
  rw [hin] at RN
  have HR := Lib.hid hp
  generalize mkB p l i l[i] = mk at *
  unfold holdN at M7
  generalize (atP p (l[i]).t).1 = n at *
  generalize (l[i]).a = A at *
  generalize (l[i]).b = Bb at *
  generalize (l[i]).t = T at *
  obtain ⟨kk, ff, tt, uu, ss, xa, xb⟩ := n
  simp only [nodeA] at RN
  simp only at M4 M5 M7 MX
  clear q hx hr hp hin
  go_enter Tryd.func71, Tryd.ntmps71
  go_wp2_with fail
  refine RN.out.mono ?_
  rintro e w4 ⟨rfl, u4⟩
  have b5 := bA0 w4 (.cells #[.int .i64 kk, .int .i64 ff, .int .i64 tt, .int .u64 uu, .string ss, .int .i64 xa, .int .i64 xb] NodeT)
  have hn5 : (w4.alloc (.cells #[.int .i64 kk, .int .i64 ff, .int .i64 tt, .int .u64 uu, .string ss, .int .i64 xa, .int .i64 xb] NodeT)).heap[w4.heap.size]? = some (Obj.cells #[.int .i64 kk, .int .i64 ff, .int .i64 tt, .int .u64 uu, .string ss, .int .i64 xa, .int .i64 xb] NodeT) := heap_alloc_new _ _
  have H5 := Lib.hid (bmore u4 b5)
  have y0 := cellB (j := 0) hn5 rfl
  have y1 := cellB (j := 1) hn5 rfl
  have y2 := cellB (j := 2) hn5 rfl
  have y5 := cellB (j := 5) hn5 rfl
  have y6 := cellB (j := 6) hn5 rfl
  have HN5 := Lib.hid hn5
  replace c1 := bcellAt (bmore u4 b5) c1
  replace c2 := bcellAt (bmore u4 b5) c2
  replace c3 := bcellAt (bmore u4 b5) c3
  clear u4 b5 hn5 RN
  go_upto_if 24 with fail
  generalize (w4.alloc (.cells #[.int .i64 kk, .int .i64 ff, .int .i64 tt, .int .u64 uu, .string ss, .int .i64 xa, .int .i64 xb] NodeT)) = W at *
  generalize w4.heap.size = nb at *
  by_cases h4 : kk = 4
  · subst h4
    have M := Lib.hid (M4.out rfl)
    have AH := Lib.hid (HTT.out W H5.out)
    clear M4 M5 M7 MX HTF HTT
    cases ha : aheadB i A Bb true true with
    | false =>
      rw [ha] at AH M
      have hmk : mk = false := by rw [M.out]; rfl
      subst hmk
      clear M ha
      go_wp2_with fail
      go_quiet ((go_at_call 70; exact told_quiet AH.out _))
      go_wp2_with fail
      go_returns
      exact ⟨rfl, bmore H5.out (bdn _ _)⟩
    | true =>
      rw [ha] at AH M
      have hA : 0 ≤ A ∧ A < (i : Int) := by
        unfold aheadB at ha
        simp only [if_true, Bool.and_eq_true, decide_eq_true_eq] at ha
        exact ha.1
      have hB : 0 ≤ Bb ∧ Bb < (i : Int) := by
        unfold aheadB at ha
        simp only [if_true, Bool.and_eq_true, decide_eq_true_eq] at ha
        exact ha.2
      obtain ⟨hA0, hA1⟩ := hA
      obtain ⟨hB0, hB1⟩ := hB
      obtain ⟨mA, rfl, hmA, dA⟩ := HC.out W A H5.out hA0 hA1
      obtain ⟨mB, rfl, hmB, dB⟩ := HC.out W Bb H5.out hB0 hB1
      have gA0 : (0 : Int) ≤ (mA : Int) := by omega
      have gA1 : (mA : Int) < (l.length : Int) := by omega
      have gB0 : (0 : Int) ≤ (mB : Int) := by omega
      have gB1 : (mB : Int) < (l.length : Int) := by omega
      generalize saidP (l.take i) (mA : Int) = tA at *
      generalize saidP (l.take i) (mB : Int) = tB at *
      clear ha HC hA0 hA1 hB0 hB1
      cases h1 : tA == xa with
      | false =>
        have hmk : mk = false := by rw [M.out, h1]; rfl
        subst hmk
        clear M
        go_wp2_with fail
        go_quiet ((go_at_call 70; exact told_quiet AH.out _))
        go_wp2_with fail
        go_returns
        exact ⟨rfl, bmore H5.out (bdn _ _)⟩
      | true =>
        cases h2 : tB == xb with
        | false =>
          have hmk : mk = false := by rw [M.out, h1, h2]; rfl
          subst hmk
          clear M
          go_wp2_with fail
          go_quiet ((go_at_call 70; exact told_quiet AH.out _))
          go_wp2_with fail
          go_returns
          exact ⟨rfl, bmore H5.out (bdn _ _)⟩
        | true =>
          have hmk : mk = true := by rw [M.out, h1, h2]; rfl
          subst hmk
          clear M
          go_wp2_with fail
          go_quiet ((go_at_call 70; exact told_quiet AH.out _))
          go_wp2_with fail
          go_returns
          exact ⟨rfl, bmore H5.out (bdn _ _)⟩
  have h4' := ebF h4
  by_cases h5 : kk = 5
  · subst h5
    have M := Lib.hid (M5.out rfl)
    have AH := Lib.hid (HTF.out W H5.out)
    clear M4 M5 M7 MX HTF HTT
    cases ha : aheadB i A Bb true false with
    | false =>
      rw [ha] at AH M
      have hmk : mk = false := by rw [M.out]; rfl
      subst hmk
      clear M ha
      go_wp2_with fail
      go_quiet ((go_at_call 70; exact told_quiet AH.out _))
      go_wp2_with fail
      go_returns
      exact ⟨rfl, bmore H5.out (bdn _ _)⟩
    | true =>
      rw [ha] at AH M
      have hA : 0 ≤ A ∧ A < (i : Int) := by
        unfold aheadB at ha
        simp only [if_true, Bool.and_eq_true, decide_eq_true_eq] at ha
        exact ha.1
      obtain ⟨hA0, hA1⟩ := hA
      obtain ⟨mA, rfl, hmA, dA⟩ := HC.out W A H5.out hA0 hA1
      have gA0 : (0 : Int) ≤ (mA : Int) := by omega
      have gA1 : (mA : Int) < (l.length : Int) := by omega
      generalize saidP (l.take i) (mA : Int) = tA at *
      clear ha HC hA0 hA1
      cases h1 : tA == xa with
      | false =>
        have hmk : mk = false := by rw [M.out, h1]; rfl
        subst hmk
        clear M
        go_wp2_with fail
        go_quiet ((go_at_call 70; exact told_quiet AH.out _))
        go_wp2_with fail
        go_returns
        exact ⟨rfl, bmore H5.out (bdn _ _)⟩
      | true =>
        have hmk : mk = true := by rw [M.out, h1]; rfl
        subst hmk
        clear M
        go_wp2_with fail
        go_quiet ((go_at_call 70; exact told_quiet AH.out _))
        go_wp2_with fail
        go_returns
        exact ⟨rfl, bmore H5.out (bdn _ _)⟩
  have h5' := ebF h5
  by_cases h7 : kk = 7
  · subst h7
    have M := Lib.hid (M7.out (by simp))
    rw [if_neg (by decide)] at M
    have AH := Lib.hid (HTT.out W H5.out)
    clear M4 M5 M7 MX HTF HTT
    cases ha : aheadB i A Bb true true with
    | false =>
      rw [ha] at AH M
      have hmk : mk = false := by rw [M.out]; rfl
      subst hmk
      clear M ha
      go_wp2_with fail
      go_quiet ((go_at_call 70; exact told_quiet AH.out _))
      go_wp2_with fail
      go_returns
      exact ⟨rfl, bmore H5.out (bdn _ _)⟩
    | true =>
      rw [ha] at AH M
      have hA : 0 ≤ A ∧ A < (i : Int) := by
        unfold aheadB at ha
        simp only [if_true, Bool.and_eq_true, decide_eq_true_eq] at ha
        exact ha.1
      have hB : 0 ≤ Bb ∧ Bb < (i : Int) := by
        unfold aheadB at ha
        simp only [if_true, Bool.and_eq_true, decide_eq_true_eq] at ha
        exact ha.2
      obtain ⟨hA0, hA1⟩ := hA
      obtain ⟨hB0, hB1⟩ := hB
      obtain ⟨mA, rfl, hmA, dA⟩ := HC.out W A H5.out hA0 hA1
      obtain ⟨mB, rfl, hmB, dB⟩ := HC.out W Bb H5.out hB0 hB1
      have gA0 : (0 : Int) ≤ (mA : Int) := by omega
      have gA1 : (mA : Int) < (l.length : Int) := by omega
      have gB0 : (0 : Int) ≤ (mB : Int) := by omega
      have gB1 : (mB : Int) < (l.length : Int) := by omega
      have RB := Lib.hid (fun (n : Nat) => rnode (HR.out.below (bmore H5.out (bdn W n))) (saidP (l.take i) (mB : Int)))
      generalize saidP (l.take i) (mA : Int) = tA at *
      generalize (atP p (saidP (l.take i) (mB : Int))).1 = n2 at *
      generalize inP p (saidP (l.take i) (mB : Int)) = i2 at *
      generalize saidP (l.take i) (mB : Int) = tB at *
      clear ha HC hA0 hA1 hB0 hB1
      cases h1 : tA == xa with
      | false =>
        have hne : (tA != xa) = true := by rw [bne, h1]; rfl
        have hmk : mk = false := by rw [M.out, h1]; rfl
        subst hmk
        clear M
        go_wp2_with fail
        go_quiet ((go_at_call 70; exact told_quiet AH.out _))
        go_wp2_with fail
        go_returns
        exact ⟨rfl, bmore H5.out (bdn _ _)⟩
      | true =>
        have hne : (tA != xa) = false := by rw [bne, h1]; rfl
        rw [h1] at M
        obtain ⟨k9, f9, t9, m9, e9, a9, b9⟩ := n2
        simp only [nodeA] at RB
        simp only at M
        go_wp2_with fail
        go_quiet ((go_at_call 70; exact told_quiet AH.out _))
        go_upto_region 12 with fail
        have hdn := bdn W nq
        have RB2 := Lib.hid (RB.out nq)
        replace c2 := bcellAt hdn c2
        replace dB := bcellAt hdn dB
        replace y0 := bcellAt hdn y0
        replace y1 := bcellAt hdn y1
        replace y2 := bcellAt hdn y2
        have H6 := Lib.hid (bmore H5.out hdn)
        clear hdn RB AH c1 c3 y5 y6 dA
        generalize W.drewN nq = W6 at *
        go_wp2_with fail
        refine RB2.out.mono ?_
        rintro e w7 ⟨rfl, u7⟩
        have b8 := bA0 w7 (.cells #[.int .i64 k9, .int .i64 f9, .int .i64 t9, .int .u64 m9, .string e9, .int .i64 a9, .int .i64 b9] NodeT)
        have hn8 : (w7.alloc (.cells #[.int .i64 k9, .int .i64 f9, .int .i64 t9, .int .u64 m9, .string e9, .int .i64 a9, .int .i64 b9] NodeT)).heap[w7.heap.size]? = some (Obj.cells #[.int .i64 k9, .int .i64 f9, .int .i64 t9, .int .u64 m9, .string e9, .int .i64 a9, .int .i64 b9] NodeT) := heap_alloc_new _ _
        have x0 := cellB (j := 0) hn8 rfl
        have x1 := cellB (j := 1) hn8 rfl
        replace y0 := bcellAt (bmore u7 b8) y0
        replace y1 := bcellAt (bmore u7 b8) y1
        replace y2 := bcellAt (bmore u7 b8) y2
        have H8 := Lib.hid (bmore H6.out (bmore u7 b8))
        clear u7 b8 hn8 RB2 c2 dB
        cases h2 : k9 == 6 with
        | false =>
          have hmk : mk = false := by rw [M.out, h2]; rfl
          subst hmk
          clear M
          go_wp2_with fail
          go_returns
          exact ⟨rfl, H8.out⟩
        | true =>
          cases h3 : f9 == ff with
          | false =>
            have hmk : mk = false := by rw [M.out, h2, h3]; rfl
            subst hmk
            clear M
            go_wp2_with fail
            go_returns
            exact ⟨rfl, H8.out⟩
          | true =>
            have hmk : mk = true := by rw [M.out, h2, h3]; rfl
            subst hmk
            clear M
            go_wp2_with fail
            go_returns
            exact ⟨rfl, H8.out⟩
  have h7' := ebF h7
  by_cases h8 : kk = 8
  · subst h8
    have M := Lib.hid (M7.out (by simp))
    rw [if_neg (by decide)] at M
    have AH := Lib.hid (HTT.out W H5.out)
    clear M4 M5 M7 MX HTF HTT
    cases ha : aheadB i A Bb true true with
    | false =>
      rw [ha] at AH M
      have hmk : mk = false := by rw [M.out]; rfl
      subst hmk
      clear M ha
      go_wp2_with fail
      go_quiet ((go_at_call 70; exact told_quiet AH.out _))
      go_wp2_with fail
      go_returns
      exact ⟨rfl, bmore H5.out (bdn _ _)⟩
    | true =>
      rw [ha] at AH M
      have hA : 0 ≤ A ∧ A < (i : Int) := by
        unfold aheadB at ha
        simp only [if_true, Bool.and_eq_true, decide_eq_true_eq] at ha
        exact ha.1
      have hB : 0 ≤ Bb ∧ Bb < (i : Int) := by
        unfold aheadB at ha
        simp only [if_true, Bool.and_eq_true, decide_eq_true_eq] at ha
        exact ha.2
      obtain ⟨hA0, hA1⟩ := hA
      obtain ⟨hB0, hB1⟩ := hB
      obtain ⟨mA, rfl, hmA, dA⟩ := HC.out W A H5.out hA0 hA1
      obtain ⟨mB, rfl, hmB, dB⟩ := HC.out W Bb H5.out hB0 hB1
      have gA0 : (0 : Int) ≤ (mA : Int) := by omega
      have gA1 : (mA : Int) < (l.length : Int) := by omega
      have gB0 : (0 : Int) ≤ (mB : Int) := by omega
      have gB1 : (mB : Int) < (l.length : Int) := by omega
      have RB := Lib.hid (fun (n : Nat) => rnode (HR.out.below (bmore H5.out (bdn W n))) (saidP (l.take i) (mB : Int)))
      generalize saidP (l.take i) (mA : Int) = tA at *
      generalize (atP p (saidP (l.take i) (mB : Int))).1 = n2 at *
      generalize inP p (saidP (l.take i) (mB : Int)) = i2 at *
      generalize saidP (l.take i) (mB : Int) = tB at *
      clear ha HC hA0 hA1 hB0 hB1
      cases h1 : tA == xa with
      | false =>
        have hne : (tA != xa) = true := by rw [bne, h1]; rfl
        have hmk : mk = false := by rw [M.out, h1]; rfl
        subst hmk
        clear M
        go_wp2_with fail
        go_quiet ((go_at_call 70; exact told_quiet AH.out _))
        go_wp2_with fail
        go_returns
        exact ⟨rfl, bmore H5.out (bdn _ _)⟩
      | true =>
        have hne : (tA != xa) = false := by rw [bne, h1]; rfl
        rw [h1] at M
        obtain ⟨k9, f9, t9, m9, e9, a9, b9⟩ := n2
        simp only [nodeA] at RB
        simp only at M
        go_wp2_with fail
        go_quiet ((go_at_call 70; exact told_quiet AH.out _))
        go_upto_region 12 with fail
        have hdn := bdn W nq
        have RB2 := Lib.hid (RB.out nq)
        replace c2 := bcellAt hdn c2
        replace dB := bcellAt hdn dB
        replace y0 := bcellAt hdn y0
        replace y1 := bcellAt hdn y1
        replace y2 := bcellAt hdn y2
        have H6 := Lib.hid (bmore H5.out hdn)
        clear hdn RB AH c1 c3 y5 y6 dA
        generalize W.drewN nq = W6 at *
        go_wp2_with fail
        refine RB2.out.mono ?_
        rintro e w7 ⟨rfl, u7⟩
        have b8 := bA0 w7 (.cells #[.int .i64 k9, .int .i64 f9, .int .i64 t9, .int .u64 m9, .string e9, .int .i64 a9, .int .i64 b9] NodeT)
        have hn8 : (w7.alloc (.cells #[.int .i64 k9, .int .i64 f9, .int .i64 t9, .int .u64 m9, .string e9, .int .i64 a9, .int .i64 b9] NodeT)).heap[w7.heap.size]? = some (Obj.cells #[.int .i64 k9, .int .i64 f9, .int .i64 t9, .int .u64 m9, .string e9, .int .i64 a9, .int .i64 b9] NodeT) := heap_alloc_new _ _
        have x0 := cellB (j := 0) hn8 rfl
        have x1 := cellB (j := 1) hn8 rfl
        replace y0 := bcellAt (bmore u7 b8) y0
        replace y1 := bcellAt (bmore u7 b8) y1
        replace y2 := bcellAt (bmore u7 b8) y2
        have H8 := Lib.hid (bmore H6.out (bmore u7 b8))
        clear u7 b8 hn8 RB2 c2 dB
        cases h2 : k9 == 6 with
        | false =>
          have hmk : mk = false := by rw [M.out, h2]; rfl
          subst hmk
          clear M
          go_wp2_with fail
          go_returns
          exact ⟨rfl, H8.out⟩
        | true =>
          cases h3 : f9 == ff with
          | false =>
            have hmk : mk = false := by rw [M.out, h2, h3]; rfl
            subst hmk
            clear M
            go_wp2_with fail
            go_returns
            exact ⟨rfl, H8.out⟩
          | true =>
            have hmk : mk = true := by rw [M.out, h2, h3]; rfl
            subst hmk
            clear M
            go_wp2_with fail
            go_returns
            exact ⟨rfl, H8.out⟩
  have h8' := ebF h8
  by_cases h9 : kk = 9
  · subst h9
    have M := Lib.hid (M7.out (by simp))
    rw [if_pos rfl] at M
    have AH := Lib.hid (HTT.out W H5.out)
    clear M4 M5 M7 MX HTF HTT
    cases ha : aheadB i A Bb true true with
    | false =>
      rw [ha] at AH M
      have hmk : mk = false := by rw [M.out]; rfl
      subst hmk
      clear M ha
      go_wp2_with fail
      go_quiet ((go_at_call 70; exact told_quiet AH.out _))
      go_wp2_with fail
      go_returns
      exact ⟨rfl, bmore H5.out (bdn _ _)⟩
    | true =>
      rw [ha] at AH M
      have hA : 0 ≤ A ∧ A < (i : Int) := by
        unfold aheadB at ha
        simp only [if_true, Bool.and_eq_true, decide_eq_true_eq] at ha
        exact ha.1
      have hB : 0 ≤ Bb ∧ Bb < (i : Int) := by
        unfold aheadB at ha
        simp only [if_true, Bool.and_eq_true, decide_eq_true_eq] at ha
        exact ha.2
      obtain ⟨hA0, hA1⟩ := hA
      obtain ⟨hB0, hB1⟩ := hB
      obtain ⟨mA, rfl, hmA, dA⟩ := HC.out W A H5.out hA0 hA1
      obtain ⟨mB, rfl, hmB, dB⟩ := HC.out W Bb H5.out hB0 hB1
      have gA0 : (0 : Int) ≤ (mA : Int) := by omega
      have gA1 : (mA : Int) < (l.length : Int) := by omega
      have gB0 : (0 : Int) ≤ (mB : Int) := by omega
      have gB1 : (mB : Int) < (l.length : Int) := by omega
      have RB := Lib.hid (fun (n : Nat) => rnode (HR.out.below (bmore H5.out (bdn W n))) (saidP (l.take i) (mB : Int)))
      generalize saidP (l.take i) (mA : Int) = tA at *
      generalize (atP p (saidP (l.take i) (mB : Int))).1 = n2 at *
      generalize inP p (saidP (l.take i) (mB : Int)) = i2 at *
      generalize saidP (l.take i) (mB : Int) = tB at *
      clear ha HC hA0 hA1 hB0 hB1
      cases h1 : tA == xa with
      | false =>
        have hne : (tA != xa) = true := by rw [bne, h1]; rfl
        have hmk : mk = false := by rw [M.out, h1]; rfl
        subst hmk
        clear M
        go_wp2_with fail
        go_quiet ((go_at_call 70; exact told_quiet AH.out _))
        go_wp2_with fail
        go_returns
        exact ⟨rfl, bmore H5.out (bdn _ _)⟩
      | true =>
        have hne : (tA != xa) = false := by rw [bne, h1]; rfl
        rw [h1] at M
        obtain ⟨k9, f9, t9, m9, e9, a9, b9⟩ := n2
        simp only [nodeA] at RB
        simp only at M
        go_wp2_with fail
        go_quiet ((go_at_call 70; exact told_quiet AH.out _))
        go_upto_region 12 with fail
        have hdn := bdn W nq
        have RB2 := Lib.hid (RB.out nq)
        replace c2 := bcellAt hdn c2
        replace dB := bcellAt hdn dB
        replace y0 := bcellAt hdn y0
        replace y1 := bcellAt hdn y1
        replace y2 := bcellAt hdn y2
        have H6 := Lib.hid (bmore H5.out hdn)
        clear hdn RB AH c1 c3 y5 y6 dA
        generalize W.drewN nq = W6 at *
        go_wp2_with fail
        refine RB2.out.mono ?_
        rintro e w7 ⟨rfl, u7⟩
        have b8 := bA0 w7 (.cells #[.int .i64 k9, .int .i64 f9, .int .i64 t9, .int .u64 m9, .string e9, .int .i64 a9, .int .i64 b9] NodeT)
        have hn8 : (w7.alloc (.cells #[.int .i64 k9, .int .i64 f9, .int .i64 t9, .int .u64 m9, .string e9, .int .i64 a9, .int .i64 b9] NodeT)).heap[w7.heap.size]? = some (Obj.cells #[.int .i64 k9, .int .i64 f9, .int .i64 t9, .int .u64 m9, .string e9, .int .i64 a9, .int .i64 b9] NodeT) := heap_alloc_new _ _
        have x0 := cellB (j := 0) hn8 rfl
        have x1 := cellB (j := 1) hn8 rfl
        replace y0 := bcellAt (bmore u7 b8) y0
        replace y1 := bcellAt (bmore u7 b8) y1
        replace y2 := bcellAt (bmore u7 b8) y2
        have H8 := Lib.hid (bmore H6.out (bmore u7 b8))
        clear u7 b8 hn8 RB2 c2 dB
        cases h2 : k9 == 6 with
        | false =>
          have hmk : mk = false := by rw [M.out, h2]; rfl
          subst hmk
          clear M
          go_wp2_with fail
          go_returns
          exact ⟨rfl, H8.out⟩
        | true =>
          cases h3 : f9 == tt with
          | false =>
            have hmk : mk = false := by rw [M.out, h2, h3]; rfl
            subst hmk
            clear M
            go_wp2_with fail
            go_returns
            exact ⟨rfl, H8.out⟩
          | true =>
            have hmk : mk = true := by rw [M.out, h2, h3]; rfl
            subst hmk
            clear M
            go_wp2_with fail
            go_returns
            exact ⟨rfl, H8.out⟩
  have h9' := ebF h9
  have hmk : mk = false := MX.out ⟨h4, h5, h7, h8, h9⟩
  subst hmk
  clear M4 M5 M7 MX HTF HTT HC
  go_wp2_with fail
  go_returns
  exact ⟨rfl, H5.out⟩
end
end Go.Proofs.YtljbmgehgbcdfaaDoor
