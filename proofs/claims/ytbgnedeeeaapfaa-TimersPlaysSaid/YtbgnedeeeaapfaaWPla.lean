/-
  TimersPlays: every list of acts on a wheel. The walk and the statement.
-/
import Derived.Test.YtbgnedeeeaapfaaWAk
namespace Go.Proofs.Ytbgnedeeeaapfaa
open Go.ChangeShapes Go.WideShapes Go.ChangeAt Go.RowKit Go.Maps
set_option linter.unusedVariables false
theorem act_any {w : World} {N a mb r : Nat} {x : Wh} (h : Two w N a mb r x) (c : Ac) (hc : AcOk c) (hi : x.ids < 400000) (hp : x.pls < 400000) :
    Calls Try.prog 12 #[.pointer (some ⟨a, 0, none⟩), .pointer (some ⟨r, 0, none⟩), actV c] w (ActP N a mb r x w) := by
  by_cases h1 : c.kd = 1
  · exact act_set h c hc h1 hi hp
  by_cases h2 : c.kd = 2
  · exact act_after h c hc h2 hi hp
  by_cases h3 : c.kd = 3
  · exact act_cancel h c hc h3 hi hp
  by_cases h4 : c.kd = 4
  · exact act_move h c hc h4 hi hp
  by_cases h5 : c.kd = 5
  · exact act_tick h c hc h5 hi hp
  by_cases h6 : c.kd = 6
  · exact act_turn h c hc h6 hi hp
  exact act_other h c hc (fun n n1 n2 e => by omega) hi hp
set_option maxRecDepth 20000 in
set_option maxHeartbeats 3200000 in
theorem plays_long {w : World} {v : Value} {l : List Ac} (h : Row w 4 v l.length (tacs l)) (hl : 80 < l.length) :
    Calls Try.prog 3 #[v] w fun e w' => e = .returned (.bool true) ∧ Below w.heap.size w w' := by
  have HA := Lib.hid h
  clear h
  go_enter Try.func3, Try.ntmps3
  go_wp2_with fail
  refine (long_long HA.out HA.out.small hl).mono ?_
  rintro e w1 ⟨rfl, rfl⟩
  go_wp2_with fail
  refine (live14 w).mono ?_
  rintro e w2 ⟨rfl, b2⟩
  have B2 := Lib.hid b2
  clear b2
  go_wp2_with fail
  go_returns
  exact ⟨rfl, B2.out⟩
set_option maxRecDepth 20000 in
set_option maxHeartbeats 3200000 in
theorem plays_walk {w : World} {v : Value} {l : List Ac} (h : Row w 4 v l.length (tacs l)) (hok : ∀ c ∈ l, AcOk c) (hl : l.length ≤ 80) :
    Calls Try.prog 3 #[v] w fun e w' => e = .returned (.bool true) ∧ Below w.heap.size w w' := by
  have HA := Lib.hid h
  have HOK := Lib.hid hok
  have HL := Lib.hid hl
  have hlong := long_any h hl
  obtain ⟨aa, ca, rfl, xa⟩ := h.at2
  have XA := Lib.hid xa
  clear h hok hl xa
  go_enter Try.func3, Try.ntmps3
  go_wp2_with fail
  refine hlong.mono ?_
  clear hlong
  rintro e w1 ⟨rfl | rfl, rfl⟩
  · go_wp2_with fail
    refine (live14 w).mono ?_
    rintro e w2 ⟨rfl, b2⟩
    have B2 := Lib.hid b2
    clear b2
    go_wp2_with fail
    go_returns
    exact ⟨rfl, B2.out⟩
  · go_wp2_with fail
    refine (newS w).mono ?_
    rintro e w1 ⟨rfl, h1, b1⟩
    have bb : Below w1.heap.size w1 (w1.alloc (.cells #[.int .i64 0, .int .i64 0, .slice none 0 0] RwT)) := (Below.refl _ _).alloc (Nat.le_refl _) _
    have hs := b1.size
    have TW := Lib.hid (show Two (w1.alloc (.cells #[.int .i64 0, .int .i64 0, .slice none 0 0] RwT)) w.heap.size (w.heap.size + 1) w.heap.size w1.heap.size ⟨0, 0, 0, []⟩ from
      ⟨h1.below bb, ⟨.slice none 0 0, ⟨heap_alloc_new _ _, World.ownsRow_nil _ _ _ 3, fun t ht => (by cases ht)⟩⟩, by omega, by omega, hs, Nat.le_trans hs bb.size⟩)
    have B1 := Lib.hid (b1.trans (bb.mono hs))
    clear h1 b1 bb hs
    go_wp2_with fail
    generalize (w1.alloc (.cells #[.int .i64 0, .int .i64 0, .slice none 0 0] RwT)) = w2 at *
    go_loopw [5] (fun v wr => ∃ (k : Nat) (x : Wh), v = .int .i64 (k : Int) ∧ k ≤ l.length ∧ Two wr w.heap.size (w.heap.size + 1) w.heap.size w1.heap.size x ∧ x.ids ≤ (k : Int) ∧ x.pls ≤ (k : Int) ∧ Below w.heap.size w wr) (fun v _ => 82 - (intOf v).toNat)
    case atStart => exact ⟨0, _, rfl, by omega, TW.out, by simp, by simp, B1.out⟩
    case round =>
      obtain ⟨k, x, rfl, hk, h2, hi, hp, hb⟩ := hrel
      have H2 := Lib.hid h2
      have HB := Lib.hid hb
      have HI := Lib.hid (show x.ids ≤ (k : Int) ∧ x.pls ≤ (k : Int) from ⟨hi, hp⟩)
      clear h2 hb hi hp
      by_cases hlt : k < l.length
      · obtain ⟨b, o, rfl, q1⟩ := XA.out (by omega)
        have q2 := tacs_at l k hlt
        have d0 := bcellAt HB.out (q1 _ _ q2.1)
        have d1 := bcellAt HB.out (q1 _ _ q2.2.1)
        have d2 := bcellAt HB.out (q1 _ _ q2.2.2.1)
        have d3 := bcellAt HB.out (q1 _ _ q2.2.2.2)
        rw [← Nat.add_assoc] at d1 d2 d3
        have E2 := Lib.hid (fun (W : World) (hW : Below w.heap.size w W) => (show W.cell? ⟨b, o + k * 4 + 2, none⟩ = some (.int .i64 (l[k]).id) from by rw [Nat.add_assoc]; exact bcellAt hW (q1 _ _ q2.2.2.1)))
        have HC := Lib.hid (HOK.out l[k] (List.getElem_mem hlt))
        clear q1 q2 XA
        generalize l[k] = c at *
        have hlt1 : decide ((k : Int) < (l.length : Int)) = true := by simpa using hlt
        have hk0 : (0 : Int) ≤ (k : Int) := by omega
        have hk1 : (k : Int) < (l.length : Int) := by omega
        have hwk : IntKind.i64.wrap ((k : Int) + 1) = (k : Int) + 1 := IntWalk.i64_in _ (by have := HL.out; omega)
        have HLT := Lib.hid hlt
        clear hk hlt
        go_wp2_with fail
        refine (act_any H2.out c HC.out (by have := HI.out.1; have := HL.out; have := HLT.out; omega) (by have := HI.out.2; have := HL.out; have := HLT.out; omega)).mono ?_
        rintro e w3 ⟨rfl, y, h3, gi, gp, b3⟩
        have H3 := Lib.hid h3
        have B3 := Lib.hid (HB.out.trans b3)
        have G3 := Lib.hid (show y.ids ≤ x.ids + 1 ∧ y.pls ≤ x.pls + 1 from ⟨gi, gp⟩)
        clear d0 d1 d2 d3 h3 gi gp b3
        have d2 := E2.out _ B3.out
        obtain ⟨sl3, hr3⟩ := H3.out.r1
        have HR3 := Lib.hid hr3
        clear hr3
        go_wp2_with fail
        refine (tells_any H3.out.w1 HR3.out HC.out.2.2).mono ?_
        rintro e w4 ⟨rfl, b4⟩
        have H4 := Lib.hid (H3.out.below b4)
        have B4 := Lib.hid (B3.out.trans (b4.mono B3.out.size))
        clear b4 d2
        go_wp2_with fail
        go_roundw
        case measure => have := HLT.out; have := HL.out; simp [intOf]; omega
        case rel => exact ⟨k + 1, y, by simp, HLT.out, H4.out, by have := HI.out.1; have := G3.out.1; push_cast; omega, by have := HI.out.2; have := G3.out.2; push_cast; omega, B4.out⟩
      · obtain rfl : k = l.length := by omega
        have hlt1 : decide ((l.length : Int) < (l.length : Int)) = false := by simp
        clear hk hlt XA
        go_wp2_with fail
        refine (live14 wr).mono ?_
        rintro e w5 ⟨rfl, b5⟩
        have B5 := Lib.hid (HB.out.trans (b5.mono HB.out.size))
        clear b5
        go_wp2_with fail
        go_returns
        exact ⟨rfl, B5.out⟩
theorem plays_all {w : World} {v : Value} {l : List Ac} (h : Row w 4 v l.length (tacs l)) (hok : ∀ c ∈ l, AcOk c) :
    Calls Try.prog 3 #[v] w fun e w' => e = .returned (.bool true) ∧ Below w.heap.size w w' := by
  by_cases hl : l.length ≤ 80
  · exact plays_walk h hok hl
  · exact plays_long h (by omega)
end Go.Proofs.Ytbgnedeeeaapfaa
