/-
  What a rule takes out of a term; what is free; of what a term is made.
-/
import Derived.Test.YtjpkeoenajlmeaaDoorEMem
namespace Go.Proofs.YtjpkeoenajlmeaaDoor
open Go.RowKit Go.Maps
set_option linter.unusedVariables false

theorem bA0 (w : World) (o : Obj) : Below w.heap.size w (w.alloc o) := (Below.refl _ _).alloc (Nat.le_refl _) _
theorem ebF {x y : Int} (h : ¬ x = y) : (x == y) = false := by simpa using h

set_option maxRecDepth 100000 in
set_option maxHeartbeats 1600000 in
theorem taken_any (r : Int) (n : Nd) (w : World) : Calls Tryd.prog 83 #[.int .i64 r, .agg (nodeA n)] w fun e w' => e = .returned (.int .i64 (takeN r n)) ∧ Below w.heap.size w w' := by
  unfold takeN showB
  obtain ⟨kk, ff, tt, uu, ss, xa, xb⟩ := n
  simp only [nodeA] at *
  have bA : Below w.heap.size w (w.alloc (.cells #[.int .i64 kk, .int .i64 ff, .int .i64 tt, .int .u64 uu, .string ss, .int .i64 xa, .int .i64 xb] NodeT)) := bA0 _ _
  have hb : (w.alloc (.cells #[.int .i64 kk, .int .i64 ff, .int .i64 tt, .int .u64 uu, .string ss, .int .i64 xa, .int .i64 xb] NodeT)).heap[w.heap.size]? = some (Obj.cells #[.int .i64 kk, .int .i64 ff, .int .i64 tt, .int .u64 uu, .string ss, .int .i64 xa, .int .i64 xb] NodeT) := heap_alloc_new _ _
  have HA := Lib.hid bA
  have y0 := cellB (j := 0) hb rfl
  have y1 := cellB (j := 1) hb rfl
  have y2 := cellB (j := 2) hb rfl
  have y5 := cellB (j := 5) hb rfl
  have y6 := cellB (j := 6) hb rfl
  clear bA hb
  by_cases h4 : kk = 4
  · subst h4
    rw [if_pos rfl]
    by_cases h1 : r = 1
    · subst h1
      rw [if_pos rfl]
      go_enter Tryd.func83, Tryd.ntmps83
      go_wp2_with fail
      go_returns
      exact ⟨rfl, HA.out⟩
    · rw [if_neg h1]
      have h1' := ebF h1
      by_cases h2 : r = 2
      · subst h2
        rw [if_pos rfl]
        go_enter Tryd.func83, Tryd.ntmps83
        go_wp2_with fail
        go_returns
        exact ⟨rfl, HA.out⟩
      · rw [if_neg h2]
        have h2' := ebF h2
        go_enter Tryd.func83, Tryd.ntmps83
        go_wp2_with fail
        go_returns
        exact ⟨rfl, HA.out⟩
  · rw [if_neg h4]
    have h4' := ebF h4
    by_cases h7 : kk = 7 ∨ kk = 8 ∨ kk = 9
    · rw [if_pos (by simpa [or_assoc] using h7)]
      by_cases h3 : r = 3
      · subst h3
        rw [if_pos rfl]
        rcases h7 with rfl | rfl | rfl
        · go_enter Tryd.func83, Tryd.ntmps83
          go_wp2_with fail
          go_returns
          exact ⟨rfl, HA.out⟩
        · go_enter Tryd.func83, Tryd.ntmps83
          go_wp2_with fail
          go_returns
          exact ⟨rfl, HA.out⟩
        · go_enter Tryd.func83, Tryd.ntmps83
          go_wp2_with fail
          go_returns
          exact ⟨rfl, HA.out⟩
      · rw [if_neg h3]
        have h3' := ebF h3
        rcases h7 with rfl | rfl | rfl
        · go_enter Tryd.func83, Tryd.ntmps83
          go_wp2_with fail
          go_returns
          exact ⟨rfl, HA.out⟩
        · go_enter Tryd.func83, Tryd.ntmps83
          go_wp2_with fail
          go_returns
          exact ⟨rfl, HA.out⟩
        · go_enter Tryd.func83, Tryd.ntmps83
          go_wp2_with fail
          go_returns
          exact ⟨rfl, HA.out⟩
    · rw [if_neg (by simpa [or_assoc] using h7)]
      have h7' := ebF (show ¬ kk = 7 from fun e => h7 (.inl e))
      have h8' := ebF (show ¬ kk = 8 from fun e => h7 (.inr (.inl e)))
      have h9' := ebF (show ¬ kk = 9 from fun e => h7 (.inr (.inr e)))
      go_enter Tryd.func83, Tryd.ntmps83
      go_wp2_with fail
      go_returns
      exact ⟨rfl, HA.out⟩

set_option maxRecDepth 100000 in
set_option maxHeartbeats 1600000 in
theorem free_any (n : Nd) (w : World) : Calls Tryd.prog 50 #[.agg (nodeA n)] w fun e w' => e = .returned (.bool (freeB n.kind)) ∧ Below w.heap.size w w' := by
  unfold freeB
  obtain ⟨kk, ff, tt, uu, ss, xa, xb⟩ := n
  simp only [nodeA] at *
  have bA : Below w.heap.size w (w.alloc (.cells #[.int .i64 kk, .int .i64 ff, .int .i64 tt, .int .u64 uu, .string ss, .int .i64 xa, .int .i64 xb] NodeT)) := bA0 _ _
  have hb : (w.alloc (.cells #[.int .i64 kk, .int .i64 ff, .int .i64 tt, .int .u64 uu, .string ss, .int .i64 xa, .int .i64 xb] NodeT)).heap[w.heap.size]? = some (Obj.cells #[.int .i64 kk, .int .i64 ff, .int .i64 tt, .int .u64 uu, .string ss, .int .i64 xa, .int .i64 xb] NodeT) := heap_alloc_new _ _
  have HA := Lib.hid bA
  have y0 := cellB (j := 0) hb rfl
  have y1 := cellB (j := 1) hb rfl
  have y2 := cellB (j := 2) hb rfl
  have y5 := cellB (j := 5) hb rfl
  have y6 := cellB (j := 6) hb rfl
  clear bA hb
  cases h1 : kk == 1 with
  | true =>
    go_enter Tryd.func50, Tryd.ntmps50
    go_wp2_with fail
    go_returns
    exact ⟨rfl, HA.out⟩
  | false =>
    cases h2 : kk == 2 with
    | true =>
      go_enter Tryd.func50, Tryd.ntmps50
      go_wp2_with fail
      go_returns
      exact ⟨rfl, HA.out⟩
    | false =>
      cases h3 : kk == 3 with
      | true =>
        go_enter Tryd.func50, Tryd.ntmps50
        go_wp2_with fail
        go_returns
        exact ⟨rfl, HA.out⟩
      | false =>
        go_enter Tryd.func50, Tryd.ntmps50
        go_wp2_with fail
        go_returns
        exact ⟨rfl, HA.out⟩

section
variable {w : World} {B a b : Nat} {v : Value} {p : Pl}
theorem nok_key {x : Int} (hx : i64R x) : NdOk (keyNd x) := by
  have z : i64R 0 := i64R_lit (by omega)
  exact ⟨i64R_lit (by simp [keyNd]), hx, z, ⟨by simp [keyNd], by simp [keyNd]⟩, emptyS_le, z, z⟩
set_option maxRecDepth 100000 in
set_option maxHeartbeats 1600000 in
theorem keyOf_any (h : IsPool w B a b v p) {x : Int} (hx : i64R x) : Calls Tryd.prog 70 #[.pointer (some ⟨a, 0, none⟩), .int .i64 x] w fun e w' => e = .returned (.tuple #[.int .i64 (numP p (keyNd x) : Int), .bool (decide (numP p (keyNd x) ≠ 0))]) ∧ Below w.heap.size w w' := by
  have HP := Lib.hid (phas h (nok_key hx))
  clear h
  generalize numP p (keyNd x) = N at *
  generalize decide (N ≠ 0) = nb at *
  simp only [nodeA, keyNd, emptyS] at HP
  go_enter Tryd.func70, Tryd.ntmps70
  go_wp2_with fail
  refine HP.out.mono ?_
  rintro e w1 ⟨rfl, u1⟩
  have HU := Lib.hid u1
  clear u1
  go_wp2_with fail
  go_returns
  exact ⟨rfl, HU.out⟩

set_option maxRecDepth 100000 in
set_option maxHeartbeats 3200000 in
theorem parts_pool (h : IsPool w B a b v p) {n : Nd} (hn : NdOk n) : Calls Tryd.prog 51 #[.pointer (some ⟨a, 0, none⟩), .agg (nodeA n)] w fun e w' => e = .returned (.tuple #[.int .i64 (partP p n).1, .int .i64 (partP p n).2.1, .bool (partP p n).2.2]) ∧ Below w.heap.size w w' := by
  have hf := hn.frm
  have ht := hn.to
  clear hn
  unfold partP keyP holdN showB
  obtain ⟨kk, ff, tt, uu, ss, xa, xb⟩ := n
  simp only [nodeA] at *
  have bA : Below w.heap.size w (w.alloc (.cells #[.int .i64 kk, .int .i64 ff, .int .i64 tt, .int .u64 uu, .string ss, .int .i64 xa, .int .i64 xb] NodeT)) := bA0 _ _
  have hb : (w.alloc (.cells #[.int .i64 kk, .int .i64 ff, .int .i64 tt, .int .u64 uu, .string ss, .int .i64 xa, .int .i64 xb] NodeT)).heap[w.heap.size]? = some (Obj.cells #[.int .i64 kk, .int .i64 ff, .int .i64 tt, .int .u64 uu, .string ss, .int .i64 xa, .int .i64 xb] NodeT) := heap_alloc_new _ _
  have HA := Lib.hid bA
  have y0 := cellB (j := 0) hb rfl
  have y1 := cellB (j := 1) hb rfl
  have y2 := cellB (j := 2) hb rfl
  have y5 := cellB (j := 5) hb rfl
  have y6 := cellB (j := 6) hb rfl
  clear bA hb
  have HP := Lib.hid (h.below HA.out)
  clear h
  by_cases h4 : kk = 4
  · subst h4
    rw [if_pos rfl]
    go_enter Tryd.func51, Tryd.ntmps51
    go_wp2_with fail
    go_quiet (fail)
    go_wp2_with fail
    go_returns
    exact ⟨rfl, bmore HA.out (bdn _ _)⟩
  · rw [if_neg h4]
    have h4' := ebF h4
    by_cases h5 : kk = 5
    · subst h5
      rw [if_pos rfl]
      go_enter Tryd.func51, Tryd.ntmps51
      go_wp2_with fail
      go_returns
      exact ⟨rfl, HA.out⟩
    · rw [if_neg h5]
      have h5' := ebF h5
      by_cases h9 : kk = 9
      · subst h9
        rw [if_pos (by decide), if_pos rfl]
        have HK := Lib.hid (keyOf_any HP.out ht)
        generalize numP p (keyNd tt) = N at *
        generalize decide (N ≠ 0) = nb at *
        go_enter Tryd.func51, Tryd.ntmps51
        go_wp2_with fail
        refine HK.out.mono ?_
        rintro e w1 ⟨rfl, u1⟩
        have HU := Lib.hid (bmore HA.out u1)
        have z5 := bcellAt u1 y5
        clear u1
        go_wp2_with fail
        go_returns
        exact ⟨rfl, HU.out⟩
      · have h9' := ebF h9
        by_cases h7 : kk = 7 ∨ kk = 8
        · rw [if_pos (by rcases h7 with rfl | rfl <;> decide), if_neg h9]
          have HK := Lib.hid (keyOf_any HP.out hf)
          generalize numP p (keyNd ff) = N at *
          generalize decide (N ≠ 0) = nb at *
          rcases h7 with rfl | rfl
          · go_enter Tryd.func51, Tryd.ntmps51
            go_wp2_with fail
            refine HK.out.mono ?_
            rintro e w1 ⟨rfl, u1⟩
            have HU := Lib.hid (bmore HA.out u1)
            have z5 := bcellAt u1 y5
            clear u1
            go_wp2_with fail
            go_returns
            exact ⟨rfl, HU.out⟩
          · go_enter Tryd.func51, Tryd.ntmps51
            go_wp2_with fail
            refine HK.out.mono ?_
            rintro e w1 ⟨rfl, u1⟩
            have HU := Lib.hid (bmore HA.out u1)
            have z5 := bcellAt u1 y5
            clear u1
            go_wp2_with fail
            go_returns
            exact ⟨rfl, HU.out⟩
        · rw [if_neg (by simp only [Bool.or_eq_true, beq_iff_eq]; omega)]
          have h7' := ebF (show ¬ kk = 7 from fun e => h7 (.inl e))
          have h8' := ebF (show ¬ kk = 8 from fun e => h7 (.inr e))
          go_enter Tryd.func51, Tryd.ntmps51
          go_wp2_with fail
          go_returns
          exact ⟨rfl, HA.out⟩
end
end Go.Proofs.YtjpkeoenajlmeaaDoor
