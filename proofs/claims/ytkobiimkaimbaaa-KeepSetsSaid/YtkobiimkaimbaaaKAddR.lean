/-
  The document's own Has, Only, Add, SetOf on lists of ints, in memory.
-/
import Derived.Test.YtkobiimkaimbaaaKAddP
import Derived.Test.YtkobiimkaimbaaaKList
import Derived.Test.YtkobiimkaimbaaaKBuilt
namespace Go.Proofs.Ytkobiimkaimbaaa
open Go.RowKit
set_option linter.unusedVariables false

set_option maxRecDepth 100000 in
set_option maxHeartbeats 1600000 in
theorem rhas_any {w : World} {v : Value} {l : List Int} (k : Int) (h : Row w 1 v l.length (ints l)) (hl : l.length < 1000000) :
    Calls Try.prog 36 #[v, .int .i64 k] w fun e w' => e = .returned (.bool (decide (k ∈ l))) ∧ w = w' := by
  obtain ⟨aa, ca, rfl, xa⟩ := h.at
  have XA := Lib.hid xa
  clear h xa
  go_enter Try.func36, Try.ntmps36
  go_wp2_with fail
  go_loopw [5] (fun v wr => ∃ n : Nat, v = .int .i64 (n : Int) ∧ n ≤ l.length ∧ Hid (wr = w) ∧ ¬ k ∈ l.take n) (fun v _ => l.length - (intOf v).toNat)
  case atStart => exact ⟨0, rfl, Nat.zero_le _, Lib.hid rfl, by simp⟩
  case round =>
    obtain ⟨n, rfl, hn, hw, hk⟩ := hrel
    have hw' := hw.out
    subst hw'
    clear hw
    by_cases hlt : n < l.length
    · obtain ⟨b1, o1, rfl, q1⟩ := XA.out (by omega)
      have c1 := q1 n _ (ints_at l n hlt)
      have HK := Lib.hid hk
      have HT := Lib.hid (List.take_succ_eq_append_getElem hlt)
      have HM := Lib.hid (List.getElem_mem hlt)
      clear q1 XA hk
      generalize l[n] = y at *
      have hn0 : (0 : Int) ≤ (n : Int) := by omega
      have hn1 : (n : Int) < (l.length : Int) := by omega
      by_cases hy : y = k
      · have h1 : (y == k) = true := by simpa using hy
        have HY := Lib.hid hy
        clear hy
        go_wp2_with fail
        go_ret
        have e : k ∈ l := HY.out ▸ HM.out
        exact ⟨by simp [e], rfl⟩
      · have h1 : (y == k) = false := by simpa using hy
        have HY := Lib.hid hy
        clear hy
        go_wp2_with fail
        go_roundw
        case rel => exact ⟨n + 1, by go_num, by omega, Lib.hid (by first | rfl | trivial), by rw [HT.out]; intro h; rcases List.mem_append.1 h with h | h; exact HK.out h; exact HY.out (List.mem_singleton.1 h).symm⟩
        case measure => simp [intOf]; omega
    · obtain rfl : n = l.length := by omega
      rw [List.take_length] at hk
      have HK := Lib.hid hk
      clear hk
      go_wp2_with fail
      go_ret
      exact ⟨by simp [HK.out], rfl⟩

set_option maxRecDepth 100000 in
set_option maxHeartbeats 3200000 in
theorem ronly_any {w : World} {va vb : Value} {l m : List Int} (b : Bool) (ha : Row w 1 va l.length (ints l)) (hb : Row w 1 vb m.length (ints m)) (hl : l.length ≤ 1000) (hm : m.length ≤ 1000) :
    Calls Try.prog 33 #[va, vb, .bool b] w fun e w' => ∃ u, e = .returned u ∧ w'.ownsRow w.heap.size 3 1 u (ronly l m b).length (ints (ronly l m b)) ∧ Below w.heap.size w w' := by
  obtain ⟨i0, hi0, hz0, hz1, hz2⟩ := info_parts rowI
  obtain ⟨aa, ca, rfl, xa⟩ := ha.at
  have HM := Lib.hid hb
  obtain ⟨ab, cb, rfl⟩ := hb.shape
  have XA := Lib.hid xa
  clear ha hb xa
  go_enter Try.func33, Try.ntmps33
  go_wp2_with fail
  go_loopw [8, 7] (fun i o wr => ∃ n : Nat, i = .int .i64 (n : Int) ∧ n ≤ l.length ∧ wr.ownsRow w.heap.size 3 1 o (ronly (l.take n) m b).length (ints (ronly (l.take n) m b)) ∧ Below w.heap.size w wr) (fun i _ _ => l.length - (intOf i).toNat)
  case atStart => exact ⟨0, rfl, Nat.zero_le _, World.ownsRow_nil _ _ _ 1, Below.refl _ _⟩
  case round =>
    obtain ⟨n, rfl, hn, ho, hb⟩ := hrel
    obtain ⟨au, cu, rfl⟩ := (row_of_own ho).shape
    have hlen : (ronly (l.take n) m b).length ≤ n := Nat.le_trans (ronly_len _ _ _) (by simp; omega)
    by_cases hlt : n < l.length
    · obtain ⟨b1, o1, rfl, q1⟩ := XA.out (by omega)
      have d1 := q1 n _ (ints_at l n hlt)
      have c1 := bcellAt hb d1
      have HST := Lib.hid (ronly_snoc l m b n hlt)
      clear q1 XA
      generalize l[n] = y at *
      generalize ronly (l.take n) m b = oo at *
      have D1 := Lib.hid d1
      have HO := Lib.hid ho
      have HBB := Lib.hid hb
      have HMM := Lib.hid (HM.out.below hb)
      have hn0 : (0 : Int) ≤ (n : Int) := by omega
      have hn1 : (n : Int) < (l.length : Int) := by omega
      clear ho hb d1
      cases hin : (decide (y ∈ m) == b)
      · have HI := Lib.hid hin
        rw [hin] at HST
        clear hin
        go_wp2_with fail
        refine (rhas_any y HMM.out (by omega)).mono ?_
        rintro e w1 ⟨rfl, rfl⟩
        have h2 := HI.out
        go_wp2_with fail
        go_roundw
        case rel => exact ⟨n + 1, by go_num, by omega, by rw [HST.out]; simpa using HO.out, HBB.out⟩
        case measure => simp [intOf]; omega
      · have HI := Lib.hid hin
        rw [hin] at HST
        clear hin
        go_wp2_with fail
        refine (rhas_any y HMM.out (by omega)).mono ?_
        rintro e w1 ⟨rfl, rfl⟩
        have h2 := HI.out
        go_wp2_with (first
          | (at_builtin; refine wpList_append_own _ rfl _ _ 50 rfl w.heap.size 3 i0 (.int .i64 0) 1 8 Try.underlying50 hi0 hz0 hz1 hz2 rfl (by decide) _ _ _ rfl (HO.out.alloc _) ⟨wr.heap.size, 0, none⟩ 1 1 [.int .i64 y] rfl rfl (cell_one_new _ _ _) (by simp [Value.oneCell']) (by unfold maxLen; omega) (by omega) (by have := HBB.out.size; simp; omega) ?_; intro uX wX hownX hgX _; obtain ⟨saX, scX, rfl⟩ := (row_of_own hownX).shape; have hX9 : Below w.heap.size w wX := (HBB.out.trans (((Below.refl wr.heap.size wr).alloc (Nat.le_refl _) (.cells #[.int .i64 y] 3)).mono HBB.out.size)).trans (grown_below hgX (by have := HBB.out.size; simp; omega) (fun k e => (own_type HO.out e).1)); have OX := Lib.hid hownX; have BX := Lib.hid hX9; have hXc := bcellAt hX9 D1.out; clear hownX hgX hX9))
        go_roundw
        case rel => exact ⟨n + 1, by go_num, by omega, by rw [HST.out]; simpa [ints_append, ints] using OX.out, BX.out⟩
        case measure => simp [intOf]; omega
    · obtain rfl : n = l.length := by omega
      rw [List.take_length] at ho ⊢
      have HO := Lib.hid ho
      have HBB := Lib.hid hb
      clear ho hb
      go_wp2_with fail
      go_ret
      exact ⟨_, rfl, HO.out, HBB.out⟩

set_option maxRecDepth 100000 in
set_option maxHeartbeats 6400000 in
theorem radd_any {w : World} {v : Value} {l : List Int} (k : Int) (h : Row w 1 v l.length (ints l)) (hl : l.length ≤ 1000) :
    Calls Try.prog 41 #[v, .int .i64 k] w fun e w' => ∃ u, e = .returned u ∧ w'.ownsRow w.heap.size 3 1 u (radd l k).length (ints (radd l k)) ∧ Below w.heap.size w w' := by
  obtain ⟨i0, hi0, hz0, hz1, hz2⟩ := info_parts rowI
  obtain ⟨aa, ca, rfl, xa⟩ := h.at
  have XA := Lib.hid xa
  clear h xa
  go_enter Try.func41, Try.ntmps41
  go_wp2_with fail
  go_loopw [7, 5, 6] (fun i o d wr => ∃ n : Nat, i = .int .i64 (n : Int) ∧ n ≤ l.length ∧ wr.ownsRow w.heap.size 3 1 o (ast (l.take n) k).1.length (ints (ast (l.take n) k).1) ∧ d = .bool (ast (l.take n) k).2 ∧ Below w.heap.size w wr) (fun i _ _ _ => l.length - (intOf i).toNat)
  case atStart => exact ⟨0, rfl, Nat.zero_le _, World.ownsRow_nil _ _ _ 1, rfl, Below.refl _ _⟩
  case round =>
    obtain ⟨n, rfl, hn, ho, rfl, hb⟩ := hrel
    obtain ⟨au, cu, rfl⟩ := (row_of_own ho).shape
    have hlen : (ast (l.take n) k).1.length ≤ n + 1 := Nat.le_trans (Nat.le_add_right _ _) (ast_len l k n)
    by_cases hlt : n < l.length
    · obtain ⟨b1, o1, rfl, q1⟩ := XA.out (by omega)
      have d1 := q1 n _ (ints_at l n hlt)
      have c1 := bcellAt hb d1
      have HST := Lib.hid (ast_snoc l k n hlt)
      clear q1 XA
      generalize l[n] = y at *
      have D1 := Lib.hid d1
      clear d1
      generalize hst : ast (l.take n) k = st at *
      obtain ⟨oo, dd⟩ := st
      simp only at ho hlen
      clear hst
      have HO := Lib.hid ho
      have HBB := Lib.hid hb
      have hn0 : (0 : Int) ≤ (n : Int) := by omega
      have hn1 : (n : Int) < (l.length : Int) := by omega
      clear ho hb
      cases dd
      · cases hA : KOrd.lt y k
        · cases hC : KOrd.lt k y
          · have HA := Lib.hid hA
            have HC := Lib.hid hC
            have g : y = k := KOrd.tri hA hC
            have h1 : decide (k ≤ y) = true := by simp; omega
            have h2 : (y != k) = false := by simp; omega
            clear hA hC g
            go_wp2_with (first
                      | (at_builtin; refine wpList_append_own _ rfl _ _ 50 rfl w.heap.size 3 i0 (.int .i64 0) 1 8 Try.underlying50 hi0 hz0 hz1 hz2 rfl (by decide) _ _ _ rfl (HO.out.alloc _) ⟨wr.heap.size, 0, none⟩ 1 1 [.int .i64 k] rfl rfl (cell_one_new _ _ _) (by simp [Value.oneCell']) (by unfold maxLen; omega) (by omega) (by have := HBB.out.size; simp; omega) ?_; intro uX wX hownX hgX _; obtain ⟨saX, scX, rfl⟩ := (row_of_own hownX).shape; have hX9 : Below w.heap.size w wX := (HBB.out.trans (((Below.refl wr.heap.size wr).alloc (Nat.le_refl _) (.cells #[.int .i64 k] 3)).mono HBB.out.size)).trans (grown_below hgX (by have := HBB.out.size; simp; omega) (fun k e => (own_type HO.out e).1)); have OX := Lib.hid hownX; have BX := Lib.hid hX9; have c1X := bcellAt hX9 D1.out; clear hownX hgX hX9))
            go_roundw
            case rel => exact ⟨n + 1, by go_num, by omega, by rw [HST.out]; simpa [ast1, HA.out, HC.out, ints_append, ints] using OX.out, by rw [HST.out]; simp [ast1, HA.out, HC.out], BX.out⟩
            case measure => simp [intOf]; omega
          · have HA := Lib.hid hA
            have HC := Lib.hid hC
            have g : k < y := of_decide_eq_true hC
            have h1 : decide (k ≤ y) = true := by simp; omega
            have h2 : (y != k) = true := by simp; omega
            clear hA hC g
            go_wp2_with (first
                      | (at_builtin; refine wpList_append_own _ rfl _ _ 50 rfl w.heap.size 3 i0 (.int .i64 0) 1 8 Try.underlying50 hi0 hz0 hz1 hz2 rfl (by decide) _ _ _ rfl (HO.out.alloc _) ⟨wr.heap.size, 0, none⟩ 1 1 [.int .i64 k] rfl rfl (cell_one_new _ _ _) (by simp [Value.oneCell']) (by unfold maxLen; omega) (by omega) (by have := HBB.out.size; simp; omega) ?_; intro uX wX hownX hgX _; obtain ⟨saX, scX, rfl⟩ := (row_of_own hownX).shape; have hX9 : Below w.heap.size w wX := (HBB.out.trans (((Below.refl wr.heap.size wr).alloc (Nat.le_refl _) (.cells #[.int .i64 k] 3)).mono HBB.out.size)).trans (grown_below hgX (by have := HBB.out.size; simp; omega) (fun k e => (own_type HO.out e).1)); have OX := Lib.hid hownX; have BX := Lib.hid hX9; have c1X := bcellAt hX9 D1.out; clear hownX hgX hX9)
                      | (at_builtin; refine wpList_append_own _ rfl _ _ 50 rfl w.heap.size 3 i0 (.int .i64 0) 1 8 Try.underlying50 hi0 hz0 hz1 hz2 rfl (by decide) _ _ _ rfl (OX.out.alloc _) ⟨wX.heap.size, 0, none⟩ 1 1 [.int .i64 y] rfl rfl (cell_one_new _ _ _) (by simp [Value.oneCell']) (by unfold maxLen; omega) (by omega) (by have := BX.out.size; simp; omega) ?_; intro uY wY hownY hgY _; obtain ⟨saY, scY, rfl⟩ := (row_of_own hownY).shape; have hY9 : Below w.heap.size w wY := (BX.out.trans (((Below.refl wX.heap.size wX).alloc (Nat.le_refl _) (.cells #[.int .i64 y] 3)).mono BX.out.size)).trans (grown_below hgY (by have := BX.out.size; simp; omega) (fun k e => (own_type OX.out e).1)); have OY := Lib.hid hownY; have BY := Lib.hid hY9; have c1Y := bcellAt hY9 D1.out; clear hownY hgY hY9))
            go_roundw
            case rel => exact ⟨n + 1, by go_num, by omega, by rw [HST.out]; simpa [ast1, HA.out, HC.out, ints_append, ints] using OY.out, by rw [HST.out]; simp [ast1, HA.out, HC.out], BY.out⟩
            case measure => simp [intOf]; omega
        · have hC := KOrd.asym hA
          have HA := Lib.hid hA
          have HC := Lib.hid hC
          have g : y < k := of_decide_eq_true hA
          have h1 : decide (k ≤ y) = false := by simp; omega
          have h2 : (y != k) = true := by simp; omega
          clear hA hC g
          go_wp2_with (first
                    | (at_builtin; refine wpList_append_own _ rfl _ _ 50 rfl w.heap.size 3 i0 (.int .i64 0) 1 8 Try.underlying50 hi0 hz0 hz1 hz2 rfl (by decide) _ _ _ rfl (HO.out.alloc _) ⟨wr.heap.size, 0, none⟩ 1 1 [.int .i64 y] rfl rfl (cell_one_new _ _ _) (by simp [Value.oneCell']) (by unfold maxLen; omega) (by omega) (by have := HBB.out.size; simp; omega) ?_; intro uX wX hownX hgX _; obtain ⟨saX, scX, rfl⟩ := (row_of_own hownX).shape; have hX9 : Below w.heap.size w wX := (HBB.out.trans (((Below.refl wr.heap.size wr).alloc (Nat.le_refl _) (.cells #[.int .i64 y] 3)).mono HBB.out.size)).trans (grown_below hgX (by have := HBB.out.size; simp; omega) (fun k e => (own_type HO.out e).1)); have OX := Lib.hid hownX; have BX := Lib.hid hX9; have c1X := bcellAt hX9 D1.out; clear hownX hgX hX9))
          go_roundw
          case rel => exact ⟨n + 1, by go_num, by omega, by rw [HST.out]; simpa [ast1, HA.out, HC.out, ints_append, ints] using OX.out, by rw [HST.out]; simp [ast1, HA.out, HC.out], BX.out⟩
          case measure => simp [intOf]; omega
      · cases hA : KOrd.lt y k
        · cases hC : KOrd.lt k y
          · have HA := Lib.hid hA
            have HC := Lib.hid hC
            have g : y = k := KOrd.tri hA hC
            have h1 : decide (k ≤ y) = true := by simp; omega
            have h2 : (y != k) = false := by simp; omega
            clear hA hC g
            go_wp2_with fail
            go_roundw
            case rel => exact ⟨n + 1, by go_num, by omega, by rw [HST.out]; simpa [ast1, HA.out, HC.out, ints_append, ints] using HO.out, by rw [HST.out]; simp [ast1, HA.out, HC.out], HBB.out⟩
            case measure => simp [intOf]; omega
          · have HA := Lib.hid hA
            have HC := Lib.hid hC
            have g : k < y := of_decide_eq_true hC
            have h1 : decide (k ≤ y) = true := by simp; omega
            have h2 : (y != k) = true := by simp; omega
            clear hA hC g
            go_wp2_with (first
                      | (at_builtin; refine wpList_append_own _ rfl _ _ 50 rfl w.heap.size 3 i0 (.int .i64 0) 1 8 Try.underlying50 hi0 hz0 hz1 hz2 rfl (by decide) _ _ _ rfl (HO.out.alloc _) ⟨wr.heap.size, 0, none⟩ 1 1 [.int .i64 y] rfl rfl (cell_one_new _ _ _) (by simp [Value.oneCell']) (by unfold maxLen; omega) (by omega) (by have := HBB.out.size; simp; omega) ?_; intro uX wX hownX hgX _; obtain ⟨saX, scX, rfl⟩ := (row_of_own hownX).shape; have hX9 : Below w.heap.size w wX := (HBB.out.trans (((Below.refl wr.heap.size wr).alloc (Nat.le_refl _) (.cells #[.int .i64 y] 3)).mono HBB.out.size)).trans (grown_below hgX (by have := HBB.out.size; simp; omega) (fun k e => (own_type HO.out e).1)); have OX := Lib.hid hownX; have BX := Lib.hid hX9; have c1X := bcellAt hX9 D1.out; clear hownX hgX hX9))
            go_roundw
            case rel => exact ⟨n + 1, by go_num, by omega, by rw [HST.out]; simpa [ast1, HA.out, HC.out, ints_append, ints] using OX.out, by rw [HST.out]; simp [ast1, HA.out, HC.out], BX.out⟩
            case measure => simp [intOf]; omega
        · have hC := KOrd.asym hA
          have HA := Lib.hid hA
          have HC := Lib.hid hC
          have g : y < k := of_decide_eq_true hA
          have h1 : decide (k ≤ y) = false := by simp; omega
          have h2 : (y != k) = true := by simp; omega
          clear hA hC g
          go_wp2_with (first
                    | (at_builtin; refine wpList_append_own _ rfl _ _ 50 rfl w.heap.size 3 i0 (.int .i64 0) 1 8 Try.underlying50 hi0 hz0 hz1 hz2 rfl (by decide) _ _ _ rfl (HO.out.alloc _) ⟨wr.heap.size, 0, none⟩ 1 1 [.int .i64 y] rfl rfl (cell_one_new _ _ _) (by simp [Value.oneCell']) (by unfold maxLen; omega) (by omega) (by have := HBB.out.size; simp; omega) ?_; intro uX wX hownX hgX _; obtain ⟨saX, scX, rfl⟩ := (row_of_own hownX).shape; have hX9 : Below w.heap.size w wX := (HBB.out.trans (((Below.refl wr.heap.size wr).alloc (Nat.le_refl _) (.cells #[.int .i64 y] 3)).mono HBB.out.size)).trans (grown_below hgX (by have := HBB.out.size; simp; omega) (fun k e => (own_type HO.out e).1)); have OX := Lib.hid hownX; have BX := Lib.hid hX9; have c1X := bcellAt hX9 D1.out; clear hownX hgX hX9))
          go_roundw
          case rel => exact ⟨n + 1, by go_num, by omega, by rw [HST.out]; simpa [ast1, HA.out, HC.out, ints_append, ints] using OX.out, by rw [HST.out]; simp [ast1, HA.out, HC.out], BX.out⟩
          case measure => simp [intOf]; omega
    · obtain rfl : n = l.length := by omega
      rw [List.take_length] at ho hlen ⊢
      have HE := Lib.hid (show radd l k = afin k (ast l k) from rfl)
      generalize ast l k = st at *
      obtain ⟨oo, dd⟩ := st
      simp only at ho hlen
      have HO := Lib.hid ho
      have HBB := Lib.hid hb
      clear ho hb
      cases dd
      · go_wp2_with (first
          | (at_builtin; refine wpList_append_own _ rfl _ _ 50 rfl w.heap.size 3 i0 (.int .i64 0) 1 8 Try.underlying50 hi0 hz0 hz1 hz2 rfl (by decide) _ _ _ rfl (HO.out.alloc _) ⟨wr.heap.size, 0, none⟩ 1 1 [.int .i64 k] rfl rfl (cell_one_new _ _ _) (by simp [Value.oneCell']) (by unfold maxLen; omega) (by omega) (by have := HBB.out.size; simp; omega) ?_; intro uX wX hownX hgX _; obtain ⟨saX, scX, rfl⟩ := (row_of_own hownX).shape; have hX9 : Below w.heap.size w wX := (HBB.out.trans (((Below.refl wr.heap.size wr).alloc (Nat.le_refl _) (.cells #[.int .i64 k] 3)).mono HBB.out.size)).trans (grown_below hgX (by have := HBB.out.size; simp; omega) (fun k e => (own_type HO.out e).1)); have OX := Lib.hid hownX; have BX := Lib.hid hX9; clear hownX hgX hX9))
        go_ret
        exact ⟨_, rfl, by rw [HE.out]; simpa [afin, ints_append, ints] using OX.out, BX.out⟩
      · go_wp2_with fail
        go_ret
        exact ⟨_, rfl, by rw [HE.out]; exact HO.out, HBB.out⟩

set_option maxRecDepth 100000 in
set_option maxHeartbeats 3200000 in
theorem rsetof_any {w : World} {v : Value} {l : List Int} (h : Row w 1 v l.length (ints l)) (hl : l.length ≤ 1000) :
    Calls Try.prog 32 #[v] w fun e w' => ∃ u, e = .returned u ∧ w'.ownsRow w.heap.size 3 1 u (rsetOf l).length (ints (rsetOf l)) ∧ Below w.heap.size w w' := by
  obtain ⟨aa, ca, rfl, xa⟩ := h.at
  have XA := Lib.hid xa
  clear h xa
  go_enter Try.func32, Try.ntmps32
  go_wp2_with fail
  go_loopw [4, 3] (fun i o wr => ∃ n : Nat, i = .int .i64 (n : Int) ∧ n ≤ l.length ∧ wr.ownsRow w.heap.size 3 1 o (rsetOf (l.take n)).length (ints (rsetOf (l.take n))) ∧ Below w.heap.size w wr) (fun i _ _ => l.length - (intOf i).toNat)
  case atStart => exact ⟨0, rfl, Nat.zero_le _, World.ownsRow_nil _ _ _ 1, Below.refl _ _⟩
  case round =>
    obtain ⟨n, rfl, hn, ho, hb⟩ := hrel
    obtain ⟨au, cu, rfl⟩ := (row_of_own ho).shape
    have hlen := rsetOf_len l n
    by_cases hlt : n < l.length
    · obtain ⟨b1, o1, rfl, q1⟩ := XA.out (by omega)
      have c1 := bcellAt hb (q1 n _ (ints_at l n hlt))
      have HST := Lib.hid (rsetOf_snoc l n hlt)
      clear q1 XA
      generalize l[n] = y at *
      generalize rsetOf (l.take n) = oo at *
      have HO := Lib.hid ho
      have HBB := Lib.hid hb
      have hn0 : (0 : Int) ≤ (n : Int) := by omega
      have hn1 : (n : Int) < (l.length : Int) := by omega
      clear ho hb
      go_wp2_with fail
      refine (radd_any y (row_of_own HO.out) (by omega)).mono ?_
      rintro e w1 ⟨u, rfl, o1', u1⟩
      obtain ⟨sa, sc, rfl⟩ := (row_of_own o1').shape
      have HO1 := Lib.hid (own_base o1' HBB.out.size)
      have HU1 := Lib.hid (HBB.out.trans (u1.mono HBB.out.size))
      clear o1' u1
      go_wp2_with fail
      go_roundw
      case rel => exact ⟨n + 1, by go_num, by omega, by rw [HST.out]; exact HO1.out, HU1.out⟩
      case measure => simp [intOf]; omega
    · obtain rfl : n = l.length := by omega
      rw [List.take_length] at ho ⊢
      have HO := Lib.hid ho
      have HBB := Lib.hid hb
      clear ho hb
      go_wp2_with fail
      go_ret
      exact ⟨_, rfl, HO.out, HBB.out⟩

end Go.Proofs.Ytkobiimkaimbaaa
