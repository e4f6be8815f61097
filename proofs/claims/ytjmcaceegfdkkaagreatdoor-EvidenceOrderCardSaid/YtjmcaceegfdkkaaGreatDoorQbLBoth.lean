/-
  Read in memory: both promises of a wish; who signed.
-/
import Derived.Test.YtjmcaceegfdkkaaGreatDoorQbLKind
namespace Go.Proofs.YtjmcaceegfdkkaaGreatDoor
open Go.RowKit Go.Maps
set_option linter.unusedVariables false
def boV (o : Option (Int × ByteArray × Bool)) : Value := match o with | some (c, s, f) => .tuple #[.int .u64 c, .string s, .bool f, .bool true] | none => .tuple #[.int .u64 0, .string emptyS, .bool false, .bool false]
section
variable {w : World} {pv : Value} {p : Pl}
set_option maxRecDepth 100000 in
set_option maxHeartbeats 3200000 in
theorem signer_any (n : Nd) (t : Int) (w : World) : Calls Tryz.prog 93 #[.agg (nodeA n), .int .i64 t] w fun e w' => e = .returned (.tuple #[.int .i64 (if n.kind = 7 then n.frm else -4), .int .i64 (if n.kind = 7 then n.a else t)]) ∧ Below w.heap.size w w' := by
  obtain ⟨k1, f1, t1, n1, s1, x1, y1⟩ := n
  simp only [nodeA]
  have h2 := heap_alloc_new w (.cells #[.int .i64 k1, .int .i64 f1, .int .i64 t1, .int .u64 n1, .string s1, .int .i64 x1, .int .i64 y1] NodeT)
  have HB := Lib.hid (bZ w (.cells #[.int .i64 k1, .int .i64 f1, .int .i64 t1, .int .u64 n1, .string s1, .int .i64 x1, .int .i64 y1] NodeT))
  have c0 := cellB (j := 0) h2 rfl
  have c1 := cellB (j := 1) h2 rfl
  have c5 := cellB (j := 5) h2 rfl
  clear h2
  by_cases h : k1 = 7
  · have hb : (k1 == 7) = true := by simpa using h
    rw [if_pos h, if_pos h]
    clear h
    go_enter Tryz.func93, Tryz.ntmps93
    go_wp2_with fail
    generalize (w.alloc (.cells #[.int .i64 k1, .int .i64 f1, .int .i64 t1, .int .u64 n1, .string s1, .int .i64 x1, .int .i64 y1] NodeT)) = w1 at *
    go_quiet (fail)
    go_wp2_with fail
    go_returns
    exact ⟨rfl, bmore HB.out (bdn _ _)⟩
  · have hb : (k1 == 7) = false := by simpa using h
    rw [if_neg h, if_neg h]
    clear h
    go_enter Tryz.func93, Tryz.ntmps93
    go_wp2_with fail
    go_returns
    exact ⟨rfl, HB.out⟩
set_option maxRecDepth 100000 in
set_option maxHeartbeats 6400000 in
theorem rboth_any (h : Nodes w pv p) (t : Int) : Calls Tryz.prog 98 #[pv, .int .i64 t] w fun e w' => e = .returned (boV (boP p t)) ∧ Below w.heap.size w w' := by
  have F1 := Lib.hid (h w (Below.refl _ _) t)
  have R1 := Lib.hid (fun (W : World) (hb : Below w.heap.size w W) => rprom_any (h.below hb) (atP p t).1.a)
  have R2 := Lib.hid (fun (W : World) (hb : Below w.heap.size w W) => rprom_any (h.below hb) (atP p t).1.b)
  clear h
  obtain ⟨rr, hrr⟩ : ∃ rr, rr = boV (boP p t) := ⟨_, rfl⟩
  rw [← hrr]
  unfold boP at hrr
  generalize (atP p t).1 = n at *
  obtain ⟨k1, f1, t1, n1, s1, x1, y1⟩ := n
  dsimp only at *
  generalize prP p x1 = ox at *
  generalize prP p y1 = oy at *
  have HR := Lib.hid hrr
  clear hrr
  obtain ⟨xk, xf, xc, xs, xx, hox⟩ : ∃ xk xf xc xs xx, ltV ox = .tuple #[.agg #[.int .i64 xk, .int .i64 xf, .int .u64 xc, .string xs, .bool xx], .bool ox.isSome] ∧ (∀ l, ox = some l → l = ⟨xk, xf, xc, xs, xx⟩) := by
    cases ox with
    | none => exact ⟨_, _, _, _, _, rfl, fun l h => by cases h⟩
    | some l => exact ⟨l.kind, l.frm, l.c, l.text, l.fake, rfl, fun l' h => by cases h; rfl⟩
  obtain ⟨yk, yf, yc, ys, yx, hoy⟩ : ∃ yk yf yc ys yx, ltV oy = .tuple #[.agg #[.int .i64 yk, .int .i64 yf, .int .u64 yc, .string ys, .bool yx], .bool oy.isSome] ∧ (∀ l, oy = some l → l = ⟨yk, yf, yc, ys, yx⟩) := by
    cases oy with
    | none => exact ⟨_, _, _, _, _, rfl, fun l h => by cases h⟩
    | some l => exact ⟨l.kind, l.frm, l.c, l.text, l.fake, rfl, fun l' h => by cases h; rfl⟩
  have HX := Lib.hid hox.2
  have HY := Lib.hid hoy.2
  rw [hox.1] at R1
  rw [hoy.1] at R2
  clear hox hoy
  have HXY : Hid ((ox.isSome = false ∨ oy.isSome = false ∨ xf ≠ 0 ∨ yf ≠ 1 ∨ xc ≠ yc ∨ xs ≠ ys → rr = boV none) ∧ (ox.isSome = true ∧ oy.isSome = true ∧ xf = 0 ∧ yf = 1 ∧ xc = yc ∧ xs = ys → rr = boV (some (xc, xs, xx || yx)))) := Lib.hid (by
    rw [HR.out]
    cases ox with
    | none => exact ⟨fun _ => rfl, fun h => by cases h.1⟩
    | some l =>
      cases oy with
      | none => exact ⟨fun _ => rfl, fun h => by cases h.2.1⟩
      | some m =>
        obtain rfl := HX.out l rfl
        obtain rfl := HY.out m rfl
        simp only
        constructor
        · intro h
          rw [if_neg]
          rintro ⟨h1, h2, h3, h4⟩
          rcases h with h | h | h | h | h | h
          · cases h
          · cases h
          · exact h h1
          · exact h h2
          · exact h h3
          · exact h h4
        · rintro ⟨_, _, h1, h2, h3, h4⟩
          rw [if_pos ⟨h1, h2, h3, h4⟩])
  clear HX HY HR
  generalize ox.isSome = bx at *
  generalize oy.isSome = by' at *
  simp only [nodeA] at *
  go_enter Tryz.func98, Tryz.ntmps98
  go_wp2_with fail
  refine F1.out.mono ?_
  rintro e w1 ⟨b1, rfl, u1⟩
  have b2 := bmore u1 (bZ w1 (.cells #[.int .i64 k1, .int .i64 f1, .int .i64 t1, .int .u64 n1, .string s1, .int .i64 x1, .int .i64 y1] NodeT))
  have h2 := heap_alloc_new w1 (.cells #[.int .i64 k1, .int .i64 f1, .int .i64 t1, .int .u64 n1, .string s1, .int .i64 x1, .int .i64 y1] NodeT)
  have HB2 := Lib.hid b2
  have HH2 := Lib.hid h2
  have c5 := cellB (j := 5) h2 rfl
  clear u1 b2 h2 F1
  go_wp2_with fail
  generalize (w1.alloc (.cells #[.int .i64 k1, .int .i64 f1, .int .i64 t1, .int .u64 n1, .string s1, .int .i64 x1, .int .i64 y1] NodeT)) = w2 at *
  generalize w1.heap.size = nb at *
  refine (R1.out _ HB2.out).mono ?_
  rintro e w3 ⟨rfl, u3⟩
  have b4 := bmore HB2.out (bmore u3 (bZ w3 (.cells #[.int .i64 xk, .int .i64 xf, .int .u64 xc, .string xs, .bool xx] LtT)))
  have h4 := heap_alloc_new w3 (.cells #[.int .i64 xk, .int .i64 xf, .int .u64 xc, .string xs, .bool xx] LtT)
  have HB4 := Lib.hid b4
  have HH4 := Lib.hid h4
  have HN4 := Lib.hid (Hold.below (bmore u3 (bZ w3 (.cells #[.int .i64 xk, .int .i64 xf, .int .u64 xc, .string xs, .bool xx] LtT))) _ _ HH2.out)
  have d6 := cellB (j := 6) HN4.out rfl
  clear u3 b4 h4 c5 HH2 R1
  go_wp2_with fail
  generalize (w3.alloc (.cells #[.int .i64 xk, .int .i64 xf, .int .u64 xc, .string xs, .bool xx] LtT)) = w4 at *
  generalize w3.heap.size = xb at *
  refine (R2.out _ HB4.out).mono ?_
  rintro e w5 ⟨rfl, u5⟩
  have b6 := bmore u5 (bZ w5 (.cells #[.int .i64 yk, .int .i64 yf, .int .u64 yc, .string ys, .bool yx] LtT))
  have h6 := heap_alloc_new w5 (.cells #[.int .i64 yk, .int .i64 yf, .int .u64 yc, .string ys, .bool yx] LtT)
  have HB6 := Lib.hid (bmore HB4.out b6)
  have hx6 := Hold.below b6 _ _ HH4.out
  have x1 := cellB (j := 1) hx6 rfl
  have x2 := cellB (j := 2) hx6 rfl
  have x3 := cellB (j := 3) hx6 rfl
  have x4 := cellB (j := 4) hx6 rfl
  have y1' := cellB (j := 1) h6 rfl
  have y2 := cellB (j := 2) h6 rfl
  have y3 := cellB (j := 3) h6 rfl
  have y4 := cellB (j := 4) h6 rfl
  clear u5 b6 h6 hx6 d6 HH4 HN4 R2
  cases bx with
  | false =>
    go_wp2_with fail
    refine bodyPost_ret (v := .tuple #[.int .u64 0, .string ⟨#[]⟩, .bool false, .bool false]) (by simp [results, Tryz.results98, go_sem]) rfl ⟨by rw [HXY.out.1 (by simp)]; rfl, HB6.out⟩
  | true =>
  cases by' with
  | false =>
    go_wp2_with fail
    refine bodyPost_ret (v := .tuple #[.int .u64 0, .string ⟨#[]⟩, .bool false, .bool false]) (by simp [results, Tryz.results98, go_sem]) rfl ⟨by rw [HXY.out.1 (by simp)]; rfl, HB6.out⟩
  | true =>
  by_cases h1 : xf = 0
  case neg =>
    have h1b : (xf != 0) = true := by simpa using h1
    go_wp2_with fail
    refine bodyPost_ret (v := .tuple #[.int .u64 0, .string ⟨#[]⟩, .bool false, .bool false]) (by simp [results, Tryz.results98, go_sem]) rfl ⟨by rw [HXY.out.1 (.inr (.inr (.inl h1)))]; rfl, HB6.out⟩
  have h1b : (xf != 0) = false := by simpa using h1
  have H1 := Lib.hid h1
  clear h1
  by_cases h2 : yf = 1
  case neg =>
    have h2b : (yf != 1) = true := by simpa using h2
    go_wp2_with fail
    refine bodyPost_ret (v := .tuple #[.int .u64 0, .string ⟨#[]⟩, .bool false, .bool false]) (by simp [results, Tryz.results98, go_sem]) rfl ⟨by rw [HXY.out.1 (.inr (.inr (.inr (.inl h2))))]; rfl, HB6.out⟩
  have h2b : (yf != 1) = false := by simpa using h2
  have H2 := Lib.hid h2
  clear h2
  by_cases h3 : xc = yc
  case neg =>
    have h3b : (xc != yc) = true := by simpa using h3
    have H3 := Lib.hid h3
    clear h3
    go_wp2_with fail
    refine bodyPost_ret (v := .tuple #[.int .u64 0, .string ⟨#[]⟩, .bool false, .bool false]) (by simp [results, Tryz.results98, go_sem]) rfl ⟨by rw [HXY.out.1 (.inr (.inr (.inr (.inr (.inl H3.out)))))]; rfl, HB6.out⟩
  have h3b : (xc != yc) = false := by simpa using h3
  have H3 := Lib.hid h3
  clear h3
  have hsq : (xs.toList == ys.toList) = decide (xs = ys) := sne_of
  by_cases h4 : xs = ys
  case neg =>
    have h4b : (xs.toList == ys.toList) = false := by rw [hsq]; exact decide_eq_false h4
    have H4 := Lib.hid h4
    clear h4 hsq
    go_wp2_with fail
    refine bodyPost_ret (v := .tuple #[.int .u64 0, .string ⟨#[]⟩, .bool false, .bool false]) (by simp [results, Tryz.results98, go_sem]) rfl ⟨by rw [HXY.out.1 (.inr (.inr (.inr (.inr (.inr H4.out)))))]; rfl, HB6.out⟩
  have h4b : (xs.toList == ys.toList) = true := by rw [hsq]; exact decide_eq_true h4
  have H4 := Lib.hid h4
  clear h4 hsq
  have HRR := Lib.hid (HXY.out.2 ⟨rfl, rfl, H1.out, H2.out, H3.out, H4.out⟩)
  clear HXY H1 H2 H3 H4
  cases xx with
  | true =>
    go_wp2_with fail
    go_quiet (fail)
    go_wp2_with fail
    refine bodyPost_ret (v := .tuple #[.int .u64 xc, .string xs, .bool true, .bool true]) (by simp [results, Tryz.results98, go_sem]) rfl ⟨by rw [HRR.out]; rfl, bmore HB6.out (bdn _ _)⟩
  | false =>
    go_wp2_with fail
    go_quiet (fail)
    go_wp2_with fail
    refine bodyPost_ret (v := .tuple #[.int .u64 xc, .string xs, .bool yx, .bool true]) (by simp [results, Tryz.results98, go_sem]) rfl ⟨by rw [HRR.out]; rfl, bmore HB6.out (bdn _ _)⟩
end
end Go.Proofs.YtjmcaceegfdkkaaGreatDoor
