/-
  The law's num, the document's Texts, and the law's live.
-/
import Derived.Test.YtbgnedeeeaapfaaW3S
import Derived.Test.YtbgnedeeeaapfaaW5S
namespace Go.Proofs.Ytbgnedeeeaapfaa
open Go.RowKit Go.Maps
set_option linter.unusedVariables false
theorem laidOut : laidOutB Try.prog = true := by kernel_rfl
theorem own : ownKnob Try.prog.godebug = none := by kernel_rfl
set_option maxHeartbeats 400000 in
theorem num14 (n : Int) (w : World) : Calls Try.prog 23 #[.int .i64 n] w fun e w' => e = .returned (.int .i64 n) ∧ w = w' := by
  go_enter Try.func23, Try.ntmps23
  go_wp2
  go_ret
  exact ⟨rfl, rfl⟩
def strs (l : List ByteArray) : List Value := l.map Value.string
theorem strs_at (l : List ByteArray) (i : Nat) (h : i < l.length) : (strs l)[i]? = some (.string (l[i])) := by simp [strs, h]
set_option maxRecDepth 100000 in
set_option maxHeartbeats 1600000 in
theorem texts_any {w : World} {va vb : Value} {xs ys : List ByteArray} (ha : Row w 1 va xs.length (strs xs)) (hb : Row w 1 vb ys.length (strs ys)) (hl : xs.length < 1000000) (hl2 : ys.length < 1000000) :
    Calls Try.prog 42 #[va, vb] w fun e w' => e = .returned (.bool (decide (xs = ys))) ∧ Drew w w' := by
  obtain ⟨aa, ca, rfl, xa⟩ := ha.at
  obtain ⟨ab, cb, rfl, xb⟩ := hb.at
  have XA := Lib.hid xa
  have XB := Lib.hid xb
  clear ha hb xa xb
  by_cases hne : xs.length = ys.length
  · go_enter Try.func42, Try.ntmps42
    have hnd : ((xs.length : Int) != (ys.length : Int)) = false := by simp; omega
    go_wp2_with fail
    go_loopw [5] (fun v wr => ∃ k m : Nat, v = .int .i64 (k : Int) ∧ k ≤ xs.length ∧ wr = w.drewN m ∧ xs.take k = ys.take k) (fun v _ => xs.length - (intOf v).toNat)
    case atStart => exact ⟨0, 0, rfl, Nat.zero_le _, rfl, rfl⟩
    case round =>
      obtain ⟨k, m, rfl, hk, rfl, he⟩ := hrel
      have HE := Lib.hid he
      clear he
      by_cases hlt : k < xs.length
      · obtain ⟨b1, o1, rfl, q1⟩ := XA.out (by omega)
        obtain ⟨b2, o2, rfl, q2⟩ := XB.out (by omega)
        have c1 := q1 k _ (strs_at xs k hlt)
        have c2 := q2 k _ (strs_at ys k (by omega))
        have hk0 : (0 : Int) ≤ (k : Int) := by omega
        have hk1 : (k : Int) < (xs.length : Int) := by omega
        have hk2 : (k : Int) < (ys.length : Int) := by omega
        have HX : Hid (xs.take (k + 1) = xs.take k ++ [xs[k]] ∧ ys.take (k + 1) = ys.take k ++ [ys[k]'(by omega)] ∧ xs = xs.take k ++ xs[k] :: xs.drop (k + 1) ∧ ys = ys.take k ++ ys[k]'(by omega) :: ys.drop (k + 1)) := Lib.hid ⟨List.take_succ_eq_append_getElem hlt, List.take_succ_eq_append_getElem (by omega), by rw [← List.drop_eq_getElem_cons hlt, List.take_append_drop], by rw [← List.drop_eq_getElem_cons (by omega), List.take_append_drop]⟩
        clear q1 q2 XA XB
        generalize xs[k] = x at *
        generalize ys[k]'(by omega) = y at *
        by_cases hxy : x = y
        · subst hxy
          have hb1 := beq_self_list x
          go_wp2_with fail
          go_quiet (fail)
          go_wp2_with fail
          go_roundw
          case rel => exact ⟨k + 1, m + nq, by go_num, by omega, by first | rfl | rw [World.drewN_drewN], by rw [HX.out.1, HX.out.2.1, HE.out]⟩
          case measure => simp [intOf]; omega
        · have hb1 : (x.toList == y.toList) = false := by
            cases e : x.toList == y.toList
            · rfl
            · exact absurd (toList_inj (eq_of_beq e)) hxy
          have HN : Hid (decide (xs = ys) = false) := Lib.hid (by
            simp only [decide_eq_false_iff_not]
            intro e
            have h := HX.out.1
            rw [show xs.take (k + 1) = ys.take (k + 1) by rw [e], HX.out.2.1, HE.out] at h
            have h := List.append_cancel_left h
            simp only [List.cons.injEq, and_true] at h
            exact hxy h.symm)
          clear hxy
          go_wp2_with fail
          go_quiet (fail)
          go_wp2_with fail
          go_returns
          refine ⟨(by rw [HN.out]; rfl), m + nq, by first | rfl | rw [World.drewN_drewN]⟩
      · have HY : Hid (decide (xs = ys) = true) := Lib.hid (by
          simp only [decide_eq_true_eq]
          have := HE.out
          rwa [List.take_of_length_le (by omega), List.take_of_length_le (by omega)] at this)
        obtain rfl : k = xs.length := by omega
        go_wp2_with fail
        go_returns
        exact ⟨(by rw [HY.out]; rfl), m, rfl⟩
  · have hnd : ((xs.length : Int) != (ys.length : Int)) = true := by simp; omega
    have HN : Hid (decide (xs = ys) = false) := Lib.hid (by simp only [decide_eq_false_iff_not]; rintro rfl; exact hne rfl)
    clear hne
    go_enter Try.func42, Try.ntmps42
    go_wp2_with fail
    go_returns
    exact ⟨(by rw [HN.out]; rfl), 0, rfl⟩
/-- A list that was just built out of constants. -/
theorem row_alloc (w : World) (T : TypeId) (cs : Array Value) (n : Nat) (hn : n = cs.size) (h0 : n < 1000) : Row (w.alloc (.cells cs T)) 1 (.slice (some ⟨w.heap.size, 0, none⟩) n n) n cs.toList := by
  subst hn
  refine ⟨by simp, .inr ⟨w.heap.size, 0, cs.size, rfl, by simp, Nat.le_refl _, by unfold maxLen; omega, fun j u hj => ?_⟩⟩
  rw [Nat.zero_add]
  exact cellB (heap_alloc_new _ _) (by simpa using hj)
def tA : ByteArray := ⟨#[97]⟩
def tB : ByteArray := ⟨#[98]⟩
def tC : ByteArray := ⟨#[99]⟩
def tD : ByteArray := ⟨#[100]⟩
def lw1 : Wh := ⟨0, 1, 1, [⟨0, 3, 0, .string tA⟩]⟩
def lw2 : Wh := ⟨0, 2, 2, [⟨1, 2, 1, .string tB⟩, ⟨0, 3, 0, .string tA⟩]⟩
def lw3 : Wh := ⟨0, 3, 3, [⟨1, 2, 1, .string tB⟩, ⟨0, 3, 0, .string tA⟩, ⟨2, 3, 2, .string tC⟩]⟩
def lw4 : Wh := ⟨2, 3, 3, [⟨0, 3, 0, .string tA⟩, ⟨2, 3, 2, .string tC⟩]⟩
def lw5 : Wh := ⟨3, 3, 3, []⟩
theorem ls1 : setP ⟨0, 0, 0, []⟩ 3 (.string tA) = (lw1, 0, 0) := by rfl
theorem ls2 : setP lw1 2 (.string tB) = (lw2, 1, 0) := by rfl
theorem ls3 : setP lw2 3 (.string tC) = (lw3, 2, 0) := by rfl
theorem ls4 : setP lw5 3 (.string tD) = (lw5, 0, 140) := by rfl
set_option maxRecDepth 100000 in
set_option maxHeartbeats 3200000 in
theorem live14 (w : World) : Calls Try.prog 10 #[] w fun e w' => e = .returned (.bool true) ∧ Below w.heap.size w w' := by
  go_enter Try.func10, Try.ntmps10
  go_wp2_with fail
  refine (newS w).mono ?_
  rintro e w1 ⟨rfl, h1, u1⟩
  have H1 := Lib.hid h1
  have U1 := Lib.hid u1
  clear h1 u1
  go_wp2_with fail
  refine (setS H1.out 3 tA (by decide) (by decide) (by decide)).mono ?_
  rw [ls1]
  rintro e w2 ⟨rfl, h2, t2⟩
  have H2 := Lib.hid h2
  have T2 := Lib.hid t2
  clear h2 t2
  go_wp2_with fail
  refine (setS H2.out 2 tB (by decide) (by decide) (by decide)).mono ?_
  rw [ls2]
  rintro e w3 ⟨rfl, h3, t3⟩
  have H3 := Lib.hid h3
  have T3 := Lib.hid (T2.out.trans t3)
  clear h3 t3
  go_wp2_with fail
  refine (setS H3.out 3 tC (by decide) (by decide) (by decide)).mono ?_
  rw [ls3]
  rintro e w4 ⟨rfl, h4, t4⟩
  have H4 := Lib.hid h4
  have T4 := Lib.hid (T3.out.trans t4)
  clear h4 t4
  go_wp2_with fail
  refine (nextS H4.out).mono ?_
  rintro e w5 ⟨rfl, u5⟩
  have H5 := Lib.hid (H4.out.below u5)
  have T5 := Lib.hid (T4.out.trans (touch_of_below u5 _))
  clear u5
  rw [show nextP lw3 = 2 from rfl, show (!lw3.ts.isEmpty) = true from rfl]
  go_wp2_with fail
  refine (turnS H5.out (n := 2) (by decide) (by decide)).mono ?_
  rintro e w6 ⟨u, rfl, o6, h6, t6⟩
  have O6 : Hid (Row w6 1 u [tB].length (strs [tB])) := Lib.hid (row_of_own o6)
  have H6 : Hid (IsWS w6 (w.heap.size + 1) w.heap.size (.slice none 0 0) false lw4) := Lib.hid h6
  have T6 := Lib.hid (T5.out.trans t6)
  have OF := Lib.hid (fun k (hk : u.ownBlock = some k) => own_from o6 hk)
  have OO := Lib.hid o6
  clear o6 h6 t6
  go_wp2_with fail
  refine (tickS H6.out (by decide)).mono ?_
  rintro e w7 ⟨v, rfl, o7, h7, t7⟩
  have O7 : Hid (Row w7 1 v [tA, tC].length (strs [tA, tC])) := Lib.hid (row_of_own o7)
  have H7 : Hid (IsWS w7 (w.heap.size + 1) w.heap.size (.slice none 0 0) false lw5) := Lib.hid h7
  have T7 := Lib.hid (T6.out.trans t7)
  have OU7 := Lib.hid (own_keep OO.out t7 (fun k hk e => by have := (OF.out k hk).1; have := H5.out.lt; have := H5.out.map.lt; rcases e with e | e <;> omega))
  have OO7 := Lib.hid o7
  have OF7 := Lib.hid (fun k (hk : v.ownBlock = some k) => own_from o7 hk)
  clear o7 h7 t7
  go_wp2_with fail
  refine (setS H7.out 3 tD (by decide) (by decide) (by decide)).mono ?_
  rw [ls4]
  rintro e w8 ⟨rfl, h8, t8⟩
  have H8 := Lib.hid h8
  have RU : Hid (Row w8 1 u [tB].length (strs [tB])) := Lib.hid (row_of_own (own_keep OU7.out t8 (fun k hk e => by have := (OF.out k hk).1; have := H5.out.lt; have := H5.out.map.lt; rcases e with e | e <;> omega)))
  have RV : Hid (Row w8 1 v [tA, tC].length (strs [tA, tC])) := Lib.hid (row_of_own (own_keep OO7.out t8 (fun k hk e => by have := (OF7.out k hk).1; have := H6.out.lt; have := H6.out.map.lt; rcases e with e | e <;> omega)))
  have T8 := Lib.hid (T7.out.trans t8)
  clear h8 t8
  go_wp2_with fail
  iterate 4
    refine (num14 _ _).mono ?_
    rintro e w9 ⟨rfl, rfl⟩
    go_wp2_with fail
  have b9 : Below w8.heap.size w8 (w8.alloc (.cells #[.string tB] 9)) := (Below.refl _ _).alloc (Nat.le_refl _) _
  have B9 := Lib.hid b9
  refine (texts_any (xs := [tB]) (ys := [tB]) (RU.out.below b9) (row_alloc w8 9 #[.string tB] 1 rfl (by decide)) (by decide) (by decide)).mono ?_
  rintro e w10 ⟨rfl, d10⟩
  have B10 := Lib.hid (bmore B9.out d10.below)
  clear b9 d10
  rw [decide_eq_true (rfl : [tB] = [tB])]
  go_wp2_with fail
  have b11 : Below w10.heap.size w10 (w10.alloc (.cells #[.string tA, .string tC] 9)) := (Below.refl _ _).alloc (Nat.le_refl _) _
  have B11 := Lib.hid (bmore B10.out b11)
  refine (texts_any (xs := [tA, tC]) (ys := [tA, tC]) (RV.out.below B11.out) (row_alloc w10 9 #[.string tA, .string tC] 2 rfl (by decide)) (by decide) (by decide)).mono ?_
  rintro e w12 ⟨rfl, d12⟩
  have B12 := Lib.hid (bmore B11.out d12.below)
  clear b11 d12
  rw [decide_eq_true (rfl : [tA, tC] = [tA, tC])]
  go_wp2_with fail
  refine (nowS (H8.out.below B12.out)).mono ?_
  rintro e w13 ⟨rfl, rfl⟩
  rw [show lw5.now = 3 from rfl]
  go_wp2_with fail
  refine (num14 _ _).mono ?_
  rintro e w13 ⟨rfl, rfl⟩
  go_wp2_with fail
  refine (lenS (H8.out.below B12.out)).mono ?_
  rintro e w13 ⟨rfl, rfl⟩
  rw [show lw5.ts.length = 0 from rfl]
  go_wp2_with fail
  go_returns
  refine ⟨rfl, ?_⟩
  have hb : Below w.heap.size w1 w8 := T8.out.below U1.out.size (fun k hk => by rcases hk with rfl | rfl <;> omega)
  exact (U1.out.trans hb).trans (B12.out.mono (Nat.le_trans U1.out.size hb.size))
end Go.Proofs.Ytbgnedeeeaapfaa
