/-
  Read in memory: promises, both promises of a wish.
-/
import Derived.Test.YtjmcaceegfdkkaaGreatDoorQbLRead
namespace Go.Proofs.YtjmcaceegfdkkaaGreatDoor
open Go.RowKit Go.Maps
set_option linter.unusedVariables false
def ltV (o : Option Lt) : Value := match o with | some l => .tuple #[.agg (ltA l), .bool true] | none => .tuple #[.agg (ltA zeroL), .bool false]
/-- A letter's five cells, each stored anew. -/
def set5 (w : World) (b : Nat) (v0 v1 v2 v3 v4 : Value) : World := ((((w.setCell ⟨b, 0, none⟩ v0).setCell ⟨b, 1, none⟩ v1).setCell ⟨b, 2, none⟩ v2).setCell ⟨b, 3, none⟩ v3).setCell ⟨b, 4, none⟩ v4
theorem set5_at {w : World} {b : Nat} {c0 c1 c2 c3 c4 : Value} (h : w.heap[b]? = some (Obj.cells #[c0, c1, c2, c3, c4] LtT)) (v0 v1 v2 v3 v4 : Value) : (set5 w b v0 v1 v2 v3 v4).heap[b]? = some (Obj.cells #[v0, v1, v2, v3, v4] LtT) := by
  unfold set5
  have h1 := setCellB (j := 0) (u := v0) h
  have h2 := setCellB (j := 1) (u := v1) h1
  have h3 := setCellB (j := 2) (u := v2) h2
  have h4 := setCellB (j := 3) (u := v3) h3
  have h5 := setCellB (j := 4) (u := v4) h4
  exact h5
theorem set5_below {n : Nat} {w w' : World} {b : Nat} (h : Below n w w') (hb : n ≤ b) (v0 v1 v2 v3 v4 : Value) : Below n w (set5 w' b v0 v1 v2 v3 v4) :=
  ((((h.setCell (p := ⟨b, 0, none⟩) hb v0).setCell (p := ⟨b, 1, none⟩) hb v1).setCell (p := ⟨b, 2, none⟩) hb v2).setCell (p := ⟨b, 3, none⟩) hb v3).setCell (p := ⟨b, 4, none⟩) hb v4
section
variable {w : World} {pv : Value} {p : Pl}
set_option maxRecDepth 100000 in
set_option maxHeartbeats 3200000 in
theorem rprom_any (h : Nodes w pv p) (t : Int) : Calls Tryz.prog 92 #[pv, .int .i64 t] w fun e w' => e = .returned (ltV (prP p t)) ∧ Below w.heap.size w w' := by
  have F1 := Lib.hid (fun W hb => h W hb t)
  have RD := Lib.hid (fun (W : World) (hb : Below w.heap.size w W) => readDeal_any (h.below hb) (atP p t).1.a)
  have IP := Lib.hid (fun n W => isParty_any n W)
  clear h
  obtain ⟨rr, hrr⟩ : ∃ rr, rr = ltV (prP p t) := ⟨_, rfl⟩
  rw [← hrr]
  unfold prP at hrr
  generalize (atP p t).1 = n at *
  obtain ⟨k1, f1, t1, n1, s1, x1, y1⟩ := n
  dsimp only at *
  generalize dlP p x1 = od at *
  have HR := Lib.hid hrr
  clear hrr
  simp only [nodeA] at *
  have b0 := bZ w (.cells #[.int .i64 0, .int .i64 0, .int .u64 0, .string ⟨#[]⟩, .bool false] LtT)
  have h0 := heap_alloc_new w (.cells #[.int .i64 0, .int .i64 0, .int .u64 0, .string ⟨#[]⟩, .bool false] LtT)
  have HB0 := Lib.hid b0
  have HH0 := Lib.hid h0
  clear b0 h0
  go_enter Tryz.func92, Tryz.ntmps92
  go_wp2_with fail
  generalize (w.alloc (.cells #[.int .i64 0, .int .i64 0, .int .u64 0, .string ⟨#[]⟩, .bool false] LtT)) = w0 at *
  refine (F1.out _ HB0.out).mono ?_
  rintro e w1 ⟨b1, rfl, u1⟩
  have b2 := bmore u1 (bZ w1 (.cells #[.int .i64 k1, .int .i64 f1, .int .i64 t1, .int .u64 n1, .string s1, .int .i64 x1, .int .i64 y1] NodeT))
  have h2 := heap_alloc_new w1 (.cells #[.int .i64 k1, .int .i64 f1, .int .i64 t1, .int .u64 n1, .string s1, .int .i64 x1, .int .i64 y1] NodeT)
  have HB2 := Lib.hid (bmore HB0.out b2)
  have HH2 := Lib.hid h2
  have HZ2 := Lib.hid (Hold.below b2 _ _ HH0.out)
  have HW2 := Lib.hid b2.size
  have c0 := cellB (j := 0) h2 rfl
  have c5 := cellB (j := 5) h2 rfl
  clear u1 b2 h2 F1 HH0
  go_wp2_with fail
  generalize (w1.alloc (.cells #[.int .i64 k1, .int .i64 f1, .int .i64 t1, .int .u64 n1, .string s1, .int .i64 x1, .int .i64 y1] NodeT)) = w2 at *
  generalize w1.heap.size = nb at *
  refine (RD.out _ HB2.out).mono ?_
  rintro e w3 ⟨rfl, u3⟩
  have HB3 := Lib.hid (bmore HB2.out u3)
  have HH3 := Lib.hid (Hold.below u3 _ _ HH2.out)
  have HZ3 := Lib.hid (Hold.below u3 _ _ HZ2.out)
  clear u3 RD c0 c5 HH2 HZ2
  have c0 := cellB (j := 0) HH3.out rfl
  have c1 := cellB (j := 1) HH3.out rfl
  have c2 := cellB (j := 2) HH3.out rfl
  have z0 := cellB (j := 0) HZ3.out rfl
  have y0 := frozenB (j := 0) HZ3.out
  have y1' := frozenB (j := 1) HZ3.out
  have y2 := frozenB (j := 2) HZ3.out
  have y3 := frozenB (j := 3) HZ3.out
  have y4 := frozenB (j := 4) HZ3.out
  have z1 := cellB (j := 1) HZ3.out rfl
  have z2 := cellB (j := 2) HZ3.out rfl
  have z3 := cellB (j := 3) HZ3.out rfl
  have z4 := cellB (j := 4) HZ3.out rfl
  cases od with
  | none =>
    simp only [dlV]
    go_wp2_with fail
    have hs5 := set5_at HZ3.out (.int .i64 0) (.int .i64 0) (.int .u64 0) (.string ⟨#[]⟩) (.bool false)
    have hw5 := set5_below HB3.out (Nat.le_refl _) (.int .i64 0) (.int .i64 0) (.int .u64 0) (.string ⟨#[]⟩) (.bool false)
    rw [show set5 w3 w.heap.size (.int .i64 0) (.int .i64 0) (.int .u64 0) (.string ⟨#[]⟩) (.bool false) = ((((w3.setCell ⟨w.heap.size, 0, none⟩ (.int .i64 0)).setCell ⟨w.heap.size, 1, none⟩ (.int .i64 0)).setCell ⟨w.heap.size, 2, none⟩ (.int .u64 0)).setCell ⟨w.heap.size, 3, none⟩ (.string ⟨#[]⟩)).setCell ⟨w.heap.size, 4, none⟩ (.bool false) from rfl] at hs5 hw5
    have HW5 := Lib.hid hw5
    clear hw5
    generalize (((((w3.setCell ⟨w.heap.size, 0, none⟩ (.int .i64 0)).setCell ⟨w.heap.size, 1, none⟩ (.int .i64 0)).setCell ⟨w.heap.size, 2, none⟩ (.int .u64 0)).setCell ⟨w.heap.size, 3, none⟩ (.string ⟨#[]⟩)).setCell ⟨w.heap.size, 4, none⟩ (.bool false)) = w9 at *
    have q0 := cellB (j := 0) hs5 rfl
    have q1 := cellB (j := 1) hs5 rfl
    have q2 := cellB (j := 2) hs5 rfl
    have q3 := cellB (j := 3) hs5 rfl
    have q4 := cellB (j := 4) hs5 rfl
    refine bodyPost_ret (v := .tuple #[.agg #[.int .i64 0, .int .i64 0, .int .u64 0, .string ⟨#[]⟩, .bool false], .bool false]) (by simp [results, Tryz.results92, go_sem, q0, q1, q2, q3, q4]) rfl ⟨by rw [HR.out]; rfl, HW5.out⟩
  | some od =>
    obtain ⟨cc, ss⟩ := od
    simp only [dlV]
    by_cases hk : k1 = 8 ∨ k1 = 9
    case neg =>
      have hk8 : (k1 != 8) = true := by simp; omega
      have hk9 : (k1 == 9) = false := by simp; omega
      have HK := Lib.hid hk
      clear hk
      go_wp2_with fail
      have hs5 := set5_at HZ3.out (.int .i64 0) (.int .i64 0) (.int .u64 0) (.string ⟨#[]⟩) (.bool false)
      have hw5 := set5_below HB3.out (Nat.le_refl _) (.int .i64 0) (.int .i64 0) (.int .u64 0) (.string ⟨#[]⟩) (.bool false)
      rw [show set5 w3 w.heap.size (.int .i64 0) (.int .i64 0) (.int .u64 0) (.string ⟨#[]⟩) (.bool false) = ((((w3.setCell ⟨w.heap.size, 0, none⟩ (.int .i64 0)).setCell ⟨w.heap.size, 1, none⟩ (.int .i64 0)).setCell ⟨w.heap.size, 2, none⟩ (.int .u64 0)).setCell ⟨w.heap.size, 3, none⟩ (.string ⟨#[]⟩)).setCell ⟨w.heap.size, 4, none⟩ (.bool false) from rfl] at hs5 hw5
      have HW5 := Lib.hid hw5
      clear hw5
      generalize (((((w3.setCell ⟨w.heap.size, 0, none⟩ (.int .i64 0)).setCell ⟨w.heap.size, 1, none⟩ (.int .i64 0)).setCell ⟨w.heap.size, 2, none⟩ (.int .u64 0)).setCell ⟨w.heap.size, 3, none⟩ (.string ⟨#[]⟩)).setCell ⟨w.heap.size, 4, none⟩ (.bool false)) = w9 at *
      have q0 := cellB (j := 0) hs5 rfl
      have q1 := cellB (j := 1) hs5 rfl
      have q2 := cellB (j := 2) hs5 rfl
      have q3 := cellB (j := 3) hs5 rfl
      have q4 := cellB (j := 4) hs5 rfl
      refine bodyPost_ret (v := .tuple #[.agg #[.int .i64 0, .int .i64 0, .int .u64 0, .string ⟨#[]⟩, .bool false], .bool false]) (by simp [results, Tryz.results92, go_sem, q0, q1, q2, q3, q4]) rfl ⟨by rw [HR.out]; (try simp only); rw [if_neg (fun h => HK.out h.1)]; rfl, HW5.out⟩
    have HK := Lib.hid hk
    have hkk : ((k1 != 8) = false ∧ (k1 == 9) = false) ∨ ((k1 != 8) = true ∧ (k1 == 9) = true) := by
      rcases hk with rfl | rfl
      · exact .inl ⟨rfl, rfl⟩
      · exact .inr ⟨rfl, rfl⟩
    clear hk
    by_cases hf : ptyB f1 = true
    case neg =>
      have hf0 : ptyB f1 = false := by simpa using hf
      rcases hkk with ⟨hk8, hk9⟩ | ⟨hk8, hk9⟩
      all_goals
        go_wp2_with ((refine (IP.out _ _).mono ?_); rintro e w4 ⟨rfl, rfl⟩)
        have hs5 := set5_at HZ3.out (.int .i64 0) (.int .i64 0) (.int .u64 0) (.string ⟨#[]⟩) (.bool false)
        have hw5 := set5_below HB3.out (Nat.le_refl _) (.int .i64 0) (.int .i64 0) (.int .u64 0) (.string ⟨#[]⟩) (.bool false)
        rw [show set5 w3 w.heap.size (.int .i64 0) (.int .i64 0) (.int .u64 0) (.string ⟨#[]⟩) (.bool false) = ((((w3.setCell ⟨w.heap.size, 0, none⟩ (.int .i64 0)).setCell ⟨w.heap.size, 1, none⟩ (.int .i64 0)).setCell ⟨w.heap.size, 2, none⟩ (.int .u64 0)).setCell ⟨w.heap.size, 3, none⟩ (.string ⟨#[]⟩)).setCell ⟨w.heap.size, 4, none⟩ (.bool false) from rfl] at hs5 hw5
        have HW5 := Lib.hid hw5
        clear hw5
        generalize (((((w3.setCell ⟨w.heap.size, 0, none⟩ (.int .i64 0)).setCell ⟨w.heap.size, 1, none⟩ (.int .i64 0)).setCell ⟨w.heap.size, 2, none⟩ (.int .u64 0)).setCell ⟨w.heap.size, 3, none⟩ (.string ⟨#[]⟩)).setCell ⟨w.heap.size, 4, none⟩ (.bool false)) = w9 at *
        have q0 := cellB (j := 0) hs5 rfl
        have q1 := cellB (j := 1) hs5 rfl
        have q2 := cellB (j := 2) hs5 rfl
        have q3 := cellB (j := 3) hs5 rfl
        have q4 := cellB (j := 4) hs5 rfl
        refine bodyPost_ret (v := .tuple #[.agg #[.int .i64 0, .int .i64 0, .int .u64 0, .string ⟨#[]⟩, .bool false], .bool false]) (by simp [results, Tryz.results92, go_sem, q0, q1, q2, q3, q4]) rfl ⟨by rw [HR.out]; (try simp only); rw [if_neg (fun h => hf h.2.1)]; rfl, HW5.out⟩
    by_cases ht : ptyB t1 = true
    case neg =>
      have ht0 : ptyB t1 = false := by simpa using ht
      rcases hkk with ⟨hk8, hk9⟩ | ⟨hk8, hk9⟩
      all_goals
        go_wp2_with ((refine (IP.out _ _).mono ?_); rintro e w4 ⟨rfl, rfl⟩)
        have hs5 := set5_at HZ3.out (.int .i64 0) (.int .i64 0) (.int .u64 0) (.string ⟨#[]⟩) (.bool false)
        have hw5 := set5_below HB3.out (Nat.le_refl _) (.int .i64 0) (.int .i64 0) (.int .u64 0) (.string ⟨#[]⟩) (.bool false)
        rw [show set5 w3 w.heap.size (.int .i64 0) (.int .i64 0) (.int .u64 0) (.string ⟨#[]⟩) (.bool false) = ((((w3.setCell ⟨w.heap.size, 0, none⟩ (.int .i64 0)).setCell ⟨w.heap.size, 1, none⟩ (.int .i64 0)).setCell ⟨w.heap.size, 2, none⟩ (.int .u64 0)).setCell ⟨w.heap.size, 3, none⟩ (.string ⟨#[]⟩)).setCell ⟨w.heap.size, 4, none⟩ (.bool false) from rfl] at hs5 hw5
        have HW5 := Lib.hid hw5
        clear hw5
        generalize (((((w3.setCell ⟨w.heap.size, 0, none⟩ (.int .i64 0)).setCell ⟨w.heap.size, 1, none⟩ (.int .i64 0)).setCell ⟨w.heap.size, 2, none⟩ (.int .u64 0)).setCell ⟨w.heap.size, 3, none⟩ (.string ⟨#[]⟩)).setCell ⟨w.heap.size, 4, none⟩ (.bool false)) = w9 at *
        have q0 := cellB (j := 0) hs5 rfl
        have q1 := cellB (j := 1) hs5 rfl
        have q2 := cellB (j := 2) hs5 rfl
        have q3 := cellB (j := 3) hs5 rfl
        have q4 := cellB (j := 4) hs5 rfl
        refine bodyPost_ret (v := .tuple #[.agg #[.int .i64 0, .int .i64 0, .int .u64 0, .string ⟨#[]⟩, .bool false], .bool false]) (by simp [results, Tryz.results92, go_sem, q0, q1, q2, q3, q4]) rfl ⟨by rw [HR.out]; (try simp only); rw [if_neg (fun h => ht h.2.2)]; rfl, HW5.out⟩
    rcases hkk with ⟨hk8, hk9⟩ | ⟨hk8, hk9⟩
    · go_wp2_with ((refine (IP.out _ _).mono ?_); rintro e w4 ⟨rfl, rfl⟩)
      have hs5 := set5_at HZ3.out (.int .i64 1) (.int .i64 f1) (.int .u64 cc) (.string ss) (.bool false)
      have hw5 := set5_below HB3.out (Nat.le_refl _) (.int .i64 1) (.int .i64 f1) (.int .u64 cc) (.string ss) (.bool false)
      rw [show set5 w3 w.heap.size (.int .i64 1) (.int .i64 f1) (.int .u64 cc) (.string ss) (.bool false) = ((((w3.setCell ⟨w.heap.size, 0, none⟩ (.int .i64 1)).setCell ⟨w.heap.size, 1, none⟩ (.int .i64 f1)).setCell ⟨w.heap.size, 2, none⟩ (.int .u64 cc)).setCell ⟨w.heap.size, 3, none⟩ (.string ss)).setCell ⟨w.heap.size, 4, none⟩ (.bool false) from rfl] at hs5 hw5
      have HW5 := Lib.hid hw5
      clear hw5
      generalize (((((w3.setCell ⟨w.heap.size, 0, none⟩ (.int .i64 1)).setCell ⟨w.heap.size, 1, none⟩ (.int .i64 f1)).setCell ⟨w.heap.size, 2, none⟩ (.int .u64 cc)).setCell ⟨w.heap.size, 3, none⟩ (.string ss)).setCell ⟨w.heap.size, 4, none⟩ (.bool false)) = w9 at *
      have q0 := cellB (j := 0) hs5 rfl
      have q1 := cellB (j := 1) hs5 rfl
      have q2 := cellB (j := 2) hs5 rfl
      have q3 := cellB (j := 3) hs5 rfl
      have q4 := cellB (j := 4) hs5 rfl
      refine bodyPost_ret (v := .tuple #[.agg #[.int .i64 1, .int .i64 f1, .int .u64 cc, .string ss, .bool false], .bool true]) (by simp [results, Tryz.results92, go_sem, q0, q1, q2, q3, q4]) rfl ⟨by rw [HR.out]; (try simp only); rw [if_pos ⟨HK.out, hf, ht⟩, hk9]; rfl, HW5.out⟩
    · go_wp2_with ((refine (IP.out _ _).mono ?_); rintro e w4 ⟨rfl, rfl⟩)
      have hs5 := set5_at HZ3.out (.int .i64 1) (.int .i64 f1) (.int .u64 cc) (.string ss) (.bool true)
      have hw5 := set5_below HB3.out (Nat.le_refl _) (.int .i64 1) (.int .i64 f1) (.int .u64 cc) (.string ss) (.bool true)
      rw [show set5 w3 w.heap.size (.int .i64 1) (.int .i64 f1) (.int .u64 cc) (.string ss) (.bool true) = ((((w3.setCell ⟨w.heap.size, 0, none⟩ (.int .i64 1)).setCell ⟨w.heap.size, 1, none⟩ (.int .i64 f1)).setCell ⟨w.heap.size, 2, none⟩ (.int .u64 cc)).setCell ⟨w.heap.size, 3, none⟩ (.string ss)).setCell ⟨w.heap.size, 4, none⟩ (.bool true) from rfl] at hs5 hw5
      have HW5 := Lib.hid hw5
      clear hw5
      generalize (((((w3.setCell ⟨w.heap.size, 0, none⟩ (.int .i64 1)).setCell ⟨w.heap.size, 1, none⟩ (.int .i64 f1)).setCell ⟨w.heap.size, 2, none⟩ (.int .u64 cc)).setCell ⟨w.heap.size, 3, none⟩ (.string ss)).setCell ⟨w.heap.size, 4, none⟩ (.bool true)) = w9 at *
      have q0 := cellB (j := 0) hs5 rfl
      have q1 := cellB (j := 1) hs5 rfl
      have q2 := cellB (j := 2) hs5 rfl
      have q3 := cellB (j := 3) hs5 rfl
      have q4 := cellB (j := 4) hs5 rfl
      refine bodyPost_ret (v := .tuple #[.agg #[.int .i64 1, .int .i64 f1, .int .u64 cc, .string ss, .bool true], .bool true]) (by simp [results, Tryz.results92, go_sem, q0, q1, q2, q3, q4]) rfl ⟨by rw [HR.out]; (try simp only); rw [if_pos ⟨HK.out, hf, ht⟩, hk9]; rfl, HW5.out⟩
end
end Go.Proofs.YtjmcaceegfdkkaaGreatDoor
