/-
  The walk of KeepQueues.
-/
import Derived.Test.YtnpamjdccijfcaaKQs
import Derived.Test.YtnpamjdccijfcaaKChain
import Derived.Test.YtnpamjdccijfcaaKLive
import Derived.Deep.DeepCutAuto
namespace Go.Proofs.Ytnpamjdccijfcaa
open Go.RowKit
set_option linter.unusedVariables false

section
variable {P : Program} {md : Region.Mode} {ops : Array Oper} {Q : Exit → Act → World → Prop} {S : World → Prop}
theorem lex_startG (is : List Nat) {l : List Oper} {id : Nat} {a : Act} {w : World} (hm : P.follows .mixedOrders = true) (hs : S w.drew)
    (h : S w.drew → Lex P .any l.toArray (NoPanic Q) S (inOrder l is) l.length (Array.replicate l.length false) a w.drew) : (Code.region id l.toArray true).wp P Q a w :=
  wp_region_noPanic (wp_region_held_drew (S := S) hm hs h)
theorem lex_takeG {i : Nat} {o : Oper} {rest : List Oper} {fuel : Nat} {listed : Array Bool} {a : Act} {w : World} {v : Value} (hi : ops[i]? = some o)
    (hn : Region.noSelect ops = true) (hf : Region.free md ops listed i = true) (hr : (Region.ready md ops listed).contains i = true)
    (hw : Region.wanted o (yielded ops a.tmps) = true) (hS : S w) (hy : ∀ W, S W → (execOp a.eval o).run P W = .ok (.value v) W)
    (h : Lex P md ops (NoPanic Q) S rest fuel (listed.setIfInBounds i true) (a.put o.dst v) w) : Lex P md ops (NoPanic Q) S (o :: rest) (fuel + 1) listed a w :=
  wpAnyH_take hi hn hf hr (fun _ _ _ h => h) (Or.inl ⟨hw, hy⟩) hS h
end

theorem row_one {w : World} {b : Nat} {x : Int} (h : w.cell? ⟨b, 0, none⟩ = some (.int .i64 x)) : Row w 1 (.slice (some ⟨b, 0, none⟩) 1 1) [x].length (ints [x]) :=
  ⟨rfl, .inr ⟨b, 0, 1, rfl, World.block_lt_of_cell? w _ h, Nat.le_refl _, by unfold maxLen; omega, fun j u hj => by
    cases j with
    | zero => simp [ints] at hj; subst hj; simpa using h
    | succ j => simp [ints] at hj⟩⟩
theorem one_new (w : World) (x : Int) : (w.alloc (.cells #[.int .i64 x] 3)).cell? ⟨w.heap.size, 0, none⟩ = some (.int .i64 x) := cellB (heap_alloc_new w _) rfl
theorem cell_grown {w w' : World} {row : Option Nat} {b : Nat} {u : Value} (hg : w.grownBy w' row) (hc : w.cell? ⟨b, 0, none⟩ = some u) (hne : some b ≠ row) : w'.cell? ⟨b, 0, none⟩ = some u := by
  have hb := hg.block b (World.block_lt_of_cell? w _ hc) hne
  unfold World.cell? at hc ⊢
  simpa [hb] using hc

set_option maxRecDepth 100000 in
theorem queues_long {w : World} {v : Value} {l : List KAct} (h : Row w 3 v l.length (kacs l)) (hm : l.length ≤ maxLen) (hl : 80 < l.length) :
    Calls Try.prog 8 #[v] w fun e w' => e = .returned (.bool true) ∧ Below w.heap.size w w' := by
  have H := Lib.hid h
  obtain ⟨aa, ca, rfl⟩ := h.shape
  clear h
  go_enter Try.func8, Try.ntmps8
  go_wp2_with fail
  refine (long_long H.out hm hl).mono ?_
  rintro e w1 ⟨rfl, rfl⟩
  go_wp2_with fail
  refine (live_any _).mono ?_
  rintro e w1 ⟨rfl, u1⟩
  have HU := Lib.hid u1
  clear u1
  go_wp2_with fail
  go_returns
  exact ⟨rfl, HU.out⟩

def queC (n : Nat) : Array Value := madeCells (Value.agg #[.pointer none, .int .i64 0]).cells (n * 2)
def sliC (n : Nat) : Array Value := madeCells (Value.slice none 0 0).cells (n * 1)
theorem queC_size (n : Nat) : (queC n).size = n * 2 := size_madeCells _ _
theorem queC_at (n j : Nat) (h : j < n) : (queC n)[j * 2]? = some (.pointer none) ∧ (queC n)[j * 2 + 1]? = some (.int .i64 0) := by
  unfold queC madeCells
  rw [show (Value.agg #[.pointer none, .int .i64 0]).cells = #[Value.pointer none, .int .i64 0] from rfl]
  have h1 : j * 2 < n * 2 := by omega
  have h2 : j * 2 + 1 < n * 2 := by omega
  have h3 : j * 2 % 2 = 0 := by omega
  have h4 : (j * 2 + 1) % 2 = 1 := by omega
  simp [h1, h2, h3, h4]
theorem sliC_size (n : Nat) : (sliC n).size = n := by rw [sliC, size_madeCells, Nat.mul_one]
theorem sliC_at (n j : Nat) (h : j < n) : (sliC n)[j]? = some (.slice none 0 0) := by
  unfold sliC madeCells
  rw [show (Value.slice none 0 0).cells = #[Value.slice none 0 0] from rfl]
  simp [h, Nat.mod_one]
theorem rowQue : (Try.prog.info? QueT).map (fun i => (i.zero, i.size, i.bytes)) = some (some (.agg #[.pointer none, .int .i64 0]), 2, 16) := by kernel_rfl
theorem rowSlI : (Try.prog.info? SlI).map (fun i => (i.zero, i.size, i.bytes)) = some (some (.slice none 0 0), 1, 24) := by kernel_rfl

set_option maxRecDepth 100000 in
set_option maxHeartbeats 12800000 in
theorem queues_walk {w : World} {v : Value} {l : List KAct} (h : Row w 3 v l.length (kacs l)) (hok : ∀ y ∈ l, KActOk y) (hl : l.length ≤ 80) :
    Calls Try.prog 8 #[v] w fun e w' => e = .returned (.bool true) ∧ Below w.heap.size w w' := by
  have H := Lib.hid h
  obtain ⟨aa, ca, rfl, xa⟩ := h.at2
  have XA := Lib.hid xa
  have HOK := Lib.hid hok
  obtain ⟨i0, hi, hz0, hz1, hz2⟩ := info_parts rowQue
  have hmk : ∀ W : World, (Instr.makeSlice 75 (.int .i64 ((l.length : Int) + 1)) (.int .i64 ((l.length : Int) + 1))).run Try.prog W = .ok (.slice (some ⟨W.heap.size, 0, none⟩) (l.length + 1) (l.length + 1)) (W.alloc (.cells (queC (l.length + 1)) QueT)) := fun W => by
    have := run_make (P := Try.prog) W 75 QueT i0 (.agg #[.pointer none, .int .i64 0]) Try.underlying75 hi hz0 .i64 .i64 (l.length + 1) (l.length + 1) (by omega) (Int.le_refl _) (by rw [hz2]; omega) (by omega)
    rw [hz1] at this
    simpa [queC] using this
  clear hi hz0 hz1 hz2
  obtain ⟨i1, hi, hz0, hz1, hz2⟩ := info_parts rowSlI
  have hmk2 : ∀ W : World, (Instr.makeSlice 76 (.int .i64 ((l.length : Int) + 1)) (.int .i64 ((l.length : Int) + 1))).run Try.prog W = .ok (.slice (some ⟨W.heap.size, 0, none⟩) (l.length + 1) (l.length + 1)) (W.alloc (.cells (sliC (l.length + 1)) SlI)) := fun W => by
    have := run_make (P := Try.prog) W 76 SlI i1 (.slice none 0 0) Try.underlying76 hi hz0 .i64 .i64 (l.length + 1) (l.length + 1) (by omega) (Int.le_refl _) (by rw [hz2]; omega) (by omega)
    rw [hz1] at this
    simpa [sliC] using this
  clear hi hz0 hz1 hz2
  have hlen : (l.length : Int) ≤ 80 := by omega
  clear h xa hok
  go_enter Try.func8, Try.ntmps8
  go_wp2_with fail
  refine (long_any H.out hl).mono ?_
  rintro e w1 ⟨rfl | rfl, rfl⟩
  · go_wp2_with fail
    refine (live_any _).mono ?_
    rintro e w1 ⟨rfl, u1⟩
    have HU := Lib.hid u1
    clear u1
    go_wp2_with fail
    go_returns
    exact ⟨rfl, HU.out⟩
  · go_wp2_with fail
    generalize hW0 : (w.alloc (.cells (queC (l.length + 1)) QueT)).alloc (.cells (sliC (l.length + 1)) SlI) = W0
    have b0 : Below w.heap.size w W0 := hW0 ▸ ((Below.refl _ _).alloc (Nat.le_refl _) _).alloc (by simp) _
    have hk0 : KQ W0 w.heap.size w.heap.size (w.heap.size + 1) (queC (l.length + 1)) (sliC (l.length + 1)) 0 (l.length + 1) := by
      subst hW0
      refine KQ.made ?_ ?_ (queC_size _) (sliC_size _) (Nat.le_refl _) (by omega) (queC_at _) (sliC_at _)
      · rw [(((Below.refl _ _).alloc (Nat.le_refl _) (.cells (sliC (l.length + 1)) SlI) : Below (w.alloc (.cells (queC (l.length + 1)) QueT)).heap.size (w.alloc (.cells (queC (l.length + 1)) QueT)) _)).block _ (by simp)]
        exact heap_alloc_new _ _
      · have e : w.heap.size + 1 = (w.alloc (.cells (queC (l.length + 1)) QueT)).heap.size := by simp
        rw [e]; exact heap_alloc_new _ _
    clear hW0 hmk hmk2
    have HB0 := Lib.hid b0
    have HK0 := Lib.hid hk0
    clear b0 hk0
    go_loopw [5] (fun i wr => ∃ (n : Nat) (cm cl : Array Value), i = .int .i64 (n : Int) ∧ n ≤ l.length ∧ Below w.heap.size w wr ∧ KQ wr w.heap.size w.heap.size (w.heap.size + 1) cm cl n (l.length + 1)) (fun i _ => l.length - (intOf i).toNat)
    case atStart => exact ⟨0, _, _, rfl, Nat.zero_le _, HB0.out, HK0.out⟩
    case round =>
      obtain ⟨n, cm, cl, rfl, hn, hb, hk⟩ := hrel
      clear HB0 HK0
      by_cases hlt : n < l.length
      · obtain ⟨b1, o1, rfl, q1⟩ := XA.out (by omega)
        obtain ⟨⟨k0, k1⟩, hks, n0, n1⟩ := HOK.out (l[n]) (List.getElem_mem hlt)
        have q2 := kacs_at l n hlt
        have c0 := bcellAt hb (q1 _ _ q2.1)
        have cw2 := q1 _ _ q2.2.2
        rw [← Nat.add_assoc] at cw2
        have CW := Lib.hid cw2
        have c2 := bcellAt hb cw2
        clear cw2
        clear q1 q2 XA HOK
        generalize l[n] = y at *
        obtain ⟨kd, ky, nm⟩ := y
        simp only at k0 k1 hks n0 n1 c0 c2 CW
        have HB := Lib.hid hb
        have HK := Lib.hid hk
        have hn0 : (0 : Int) ≤ (n : Int) := by omega
        have hn1 : (n : Int) < (l.length : Int) := by omega
        have hn2 : (n : Int) ≤ 80 := by omega
        have hnn : n ≤ 80 := by omega
        clear hk hb hks
        go_upto_region 9 with fail
        go_cut [45] (fun s wx => wx = wr ∧ ((∃ f : Nat, f < n ∧ kd = (f : Int) + 10 ∧ s = .bool true) ∨ s = .bool false))
        case first =>
          by_cases hk2 : 10 ≤ kd
          · obtain ⟨f, hf⟩ := Int.eq_ofNat_of_zero_le (show 0 ≤ kd - 10 by omega)
            obtain rfl : kd = (f : Int) + 10 := by omega
            clear hf
            by_cases hk3 : f < n
            · have g2 : (f : Int) < (n : Int) := by omega
              have g3 : (0 : Int) ≤ (f : Int) := by omega
              have g4 : (f : Int) ≤ 80 := by omega
              go_wp2_with fail
              go_meet
              exact ⟨rfl, .inl ⟨f, hk3, rfl, by simp; try omega⟩⟩
            · have g2 : decide ((f : Int) < (n : Int)) = false := by simp; omega
              have g3 : (0 : Int) ≤ (f : Int) := by omega
              have g5 : IntKind.i64.wrap ((f : Int) + 10 - 10) = (f : Int) := by rw [show (f : Int) + 10 - 10 = (f : Int) by omega]; exact IntWalk.i64_in _ (by omega)
              go_wp2_with fail
              go_meet
              exact ⟨rfl, .inr (by simp; try omega)⟩
          · have hk3 : decide (10 ≤ kd) = false := by simp; omega
            go_wp2_with fail
            go_meet
            exact ⟨rfl, .inr rfl⟩
        obtain ⟨hwr, hcut⟩ := hcut
        subst hwr
        have HC := Lib.hid hcut
        clear hcut
        go_upto_if 45 with fail
        go_cut [6] (fun s wx => ∃ f : Nat, s = .int .i64 (f : Int) ∧ f ≤ n ∧ wx = wc)
        case first =>
          rcases HC.out with ⟨f, hf, rfl, rfl⟩ | rfl
          · have g2 : (f : Int) < (n : Int) := by omega
            have g3 : (0 : Int) ≤ (f : Int) := by omega
            have g4 : (f : Int) ≤ 80 := by omega
            have g5 : IntKind.i64.wrap ((f : Int) + 10 - 10) = (f : Int) := by rw [show (f : Int) + 10 - 10 = (f : Int) by omega]; exact IntWalk.i64_in _ (by omega)
            go_wp2_with fail
            go_meet
            exact ⟨f, rfl, by omega, rfl⟩
          · go_wp2_with fail
            go_meet
            exact ⟨n, rfl, Nat.le_refl _, rfl⟩
        case rest =>
          obtain ⟨f, rfl, hf, hw⟩ := hcut
          subst hw
          clear HC
          obtain ⟨q, x, vl, lf, e0, e1, e2, hQ, hR, ⟨z1, z2, z3⟩, hfree⟩ := HK.out.each f (by omega)
          obtain ⟨qn, xn, vn, ln, d0, d1, d2, hQn, hRn, hzn, hfn⟩ := HK.out.each (n + 1) (by omega)
          obtain rfl : ln = [] := hfn (by omega)
          obtain ⟨an, cn, rfl⟩ : ∃ a c, vn = .slice a 0 c := hRn.row.shape
          have zq0 : wc.cell? ⟨w.heap.size, f * 2, none⟩ = some (.pointer q) := cellB HK.out.mb e0
          have zq1 : wc.cell? ⟨w.heap.size, f * 2 + 1, none⟩ = some (.int .i64 x) := cellB HK.out.mb e1
          have zl : wc.cell? ⟨w.heap.size + 1, f, none⟩ = some vl := cellB HK.out.lb e2
          have f0 : (0 : Int) ≤ (f : Int) := by omega
          have f1 : (f : Int) < (l.length : Int) + 1 := by omega
          have i2 : IntKind.i64.wrap ((n : Int) + 1) = (n : Int) + 1 := IntWalk.i64_in _ (by omega)
          have i3 : (0 : Int) ≤ (n : Int) + 1 := by omega
          have i4 : (n : Int) + 1 < (l.length : Int) + 1 := by omega
          have i5 : ((n : Int) + 1).toNat = n + 1 := by omega
          have D0 := Lib.hid d0
          have D1 := Lib.hid d1
          have D2 := Lib.hid d2
          have HRN := Lib.hid hRn
          have E0 := Lib.hid e0
          have E1 := Lib.hid e1
          have E2 := Lib.hid e2
          have HQ := Lib.hid hQ
          have HR := Lib.hid hR
          clear e0 e1 e2 d0 d1 d2 hQn hRn hzn hfn hQ hR hfree
          have hrem : IntKind.i64.wrap (Int.tmod kd 2) = Int.tmod kd 2 := IntWalk.i64_in _ (by have := Int.tmod_lt_of_pos kd (show (0 : Int) < 2 by decide); have h2 := Int.tmod_lt_of_pos (-kd) (show (0 : Int) < 2 by decide); rw [Int.neg_tmod] at h2; omega)
          by_cases hp : Int.tmod kd 2 = 1
          · as_aux_lemma =>
              have hp1 : (Int.tmod kd 2 == 1) = true := by simp [hp]
              clear c2
              cases lf with
              | nil =>
                obtain ⟨av, cv, rfl⟩ : ∃ a c, vl = .slice a 0 c := HR.out.row.shape
                have hQ := HQ.out
                go_wp2_with fail
                refine (qpop_no hQ).mono ?_
                rintro e w1 ⟨rfl, u1⟩
                clear hQ
                have bA : Below wc.heap.size wc (w1.alloc (.cells #[.pointer none, .int .i64 0] QueT)) := u1.trans (((Below.refl _ _).alloc (Nat.le_refl _) _).mono u1.size)
                have hm1 := Hold.below bA _ _ HK.out.mb
                have hl1 := Hold.below bA _ _ HK.out.lb
                have xl := bcellAt bA zl
                have xn0 : (w1.alloc (.cells #[.pointer none, .int .i64 0] QueT)).cell? ⟨w.heap.size, (n + 1) * 2, none⟩ = some (.pointer qn) := cellB hm1 D0.out
                have xn1 : (w1.alloc (.cells #[.pointer none, .int .i64 0] QueT)).cell? ⟨w.heap.size, (n + 1) * 2 + 1, none⟩ = some (.int .i64 xn) := cellB hm1 D1.out
                have xf0 : (w1.alloc (.cells #[.pointer none, .int .i64 0] QueT)).frozen? ⟨w.heap.size, (n + 1) * 2, none⟩ = false := frozenB hm1
                have xf1 : (w1.alloc (.cells #[.pointer none, .int .i64 0] QueT)).frozen? ⟨w.heap.size, (n + 1) * 2 + 1, none⟩ = false := frozenB hm1
                have xn2 : (w1.alloc (.cells #[.pointer none, .int .i64 0] QueT)).cell? ⟨w.heap.size + 1, n + 1, none⟩ = some (.slice an 0 cn) := cellB hl1 D2.out
                have xf2 : (w1.alloc (.cells #[.pointer none, .int .i64 0] QueT)).frozen? ⟨w.heap.size + 1, n + 1, none⟩ = false := frozenB hl1
                have hbx : (w1.alloc (.cells #[.pointer none, .int .i64 0] QueT)).heap[w1.heap.size]? = some (Obj.cells #[.pointer none, .int .i64 0] QueT) := heap_alloc_new _ _
                have xb0 : (w1.alloc (.cells #[.pointer none, .int .i64 0] QueT)).cell? ⟨w1.heap.size, 0, none⟩ = some (.pointer none) := cellB hbx rfl
                have xb1 : (w1.alloc (.cells #[.pointer none, .int .i64 0] QueT)).cell? ⟨w1.heap.size, 1, none⟩ = some (.int .i64 0) := cellB hbx rfl
                clear hbx
                have hm2 := setCellB (j := (n + 1) * 2) (u := .pointer none) hm1
                have hm3 := setCellB (j := (n + 1) * 2 + 1) (u := .int .i64 0) hm2
                have hl3 : (((w1.alloc (.cells #[.pointer none, .int .i64 0] QueT)).setCell ⟨w.heap.size, (n + 1) * 2, none⟩ (.pointer none)).setCell ⟨w.heap.size, (n + 1) * 2 + 1, none⟩ (.int .i64 0)).heap[w.heap.size + 1]? = some (Obj.cells cl SlI) := by
                  rw [Below.heap_setCell _ _ _ _ (fun e => HK.out.ne e.symm), Below.heap_setCell _ _ _ _ (fun e => HK.out.ne e.symm)]; exact hl1
                have hN2 : Hold 194 wc (((w1.alloc (.cells #[.pointer none, .int .i64 0] QueT)).setCell ⟨w.heap.size, (n + 1) * 2, none⟩ (.pointer none)).setCell ⟨w.heap.size, (n + 1) * 2 + 1, none⟩ (.int .i64 0)) := ((Hold.below bA).trans (Hold.setCell hm1 (by decide))).trans (Hold.setCell hm2 (by decide))
                have hI2 : Hold 3 wc (((w1.alloc (.cells #[.pointer none, .int .i64 0] QueT)).setCell ⟨w.heap.size, (n + 1) * 2, none⟩ (.pointer none)).setCell ⟨w.heap.size, (n + 1) * 2 + 1, none⟩ (.int .i64 0)) := ((Hold.below bA).trans (Hold.setCell hm1 (by decide))).trans (Hold.setCell hm2 (by decide))
                have hb2 := ((HB.out.trans (bA.mono HB.out.size)).setCell (p := ⟨w.heap.size, (n + 1) * 2, none⟩) (Nat.le_refl _) (.pointer none)).setCell (p := ⟨w.heap.size, (n + 1) * 2 + 1, none⟩) (Nat.le_refl _) (.int .i64 0)
                have hkn := HK.out.next hm3 hl3 HK.out.ls D2.out (fun _ _ => rfl) (by omega) (IsQ.zero _) (HRN.out.hold hI2) (by simp) (by omega) (by omega) hN2 hI2
                have HKE := Lib.hid hkn
                have HBE := Lib.hid hb2
                clear hm1 hl1 hm2 hm3 hl3 hN2 hI2 hb2 hkn bA u1
                go_wp2_with fail
                go_roundw
                case rel => exact ⟨n + 1, _, _, by go_num, by omega, HBE.out, HKE.out⟩
                case measure => simp [intOf]; omega
              | cons a9' l9 =>
                rcases HR.out with ⟨_, h9⟩ | ⟨b9, o9, cap9, cur9, rfl, y1, y2, y3, y4, y5⟩
                · cases h9
                have xa9 : wc.cell? ⟨b9, o9, none⟩ = some (.int .i64 a9') := by simpa using y5 0 _ rfl
                obtain ⟨v9, t9, s9⟩ := rowq_tail HR.out
                obtain ⟨a9, c9, rfl⟩ := t9.row.shape
                simp only [List.length_cons] at s9 zl y3 z1
                have g9 : (0 : Int) < ((l9.length : Int) + 1) := by omega
                have g8 : ((l9.length + 1 : Nat) : Int) = (l9.length : Int) + 1 := by omega
                have HT9 := Lib.hid t9
                have hQ := HQ.out
                clear y1 y2 y4 y5 t9 HR
                go_wp2_with fail
                refine (qpop_yes hQ (by omega)).mono ?_
                rintro e w1 ⟨p, rfl, hq1, u1⟩
                clear hQ
                have xa := bcellAt (u1.trans (((Below.refl _ _).alloc (Nat.le_refl _) (.cells #[.pointer p, .int .i64 x] QueT)).mono u1.size)) xa9
                have bA : Below wc.heap.size wc (w1.alloc (.cells #[.pointer p, .int .i64 x] QueT)) := u1.trans (((Below.refl _ _).alloc (Nat.le_refl _) _).mono u1.size)
                have hm1 := Hold.below bA _ _ HK.out.mb
                have hl1 := Hold.below bA _ _ HK.out.lb
                have xl := bcellAt bA zl
                have xn0 : (w1.alloc (.cells #[.pointer p, .int .i64 x] QueT)).cell? ⟨w.heap.size, (n + 1) * 2, none⟩ = some (.pointer qn) := cellB hm1 D0.out
                have xn1 : (w1.alloc (.cells #[.pointer p, .int .i64 x] QueT)).cell? ⟨w.heap.size, (n + 1) * 2 + 1, none⟩ = some (.int .i64 xn) := cellB hm1 D1.out
                have xf0 : (w1.alloc (.cells #[.pointer p, .int .i64 x] QueT)).frozen? ⟨w.heap.size, (n + 1) * 2, none⟩ = false := frozenB hm1
                have xf1 : (w1.alloc (.cells #[.pointer p, .int .i64 x] QueT)).frozen? ⟨w.heap.size, (n + 1) * 2 + 1, none⟩ = false := frozenB hm1
                have xn2 : (w1.alloc (.cells #[.pointer p, .int .i64 x] QueT)).cell? ⟨w.heap.size + 1, n + 1, none⟩ = some (.slice an 0 cn) := cellB hl1 D2.out
                have xf2 : (w1.alloc (.cells #[.pointer p, .int .i64 x] QueT)).frozen? ⟨w.heap.size + 1, n + 1, none⟩ = false := frozenB hl1
                have hbx : (w1.alloc (.cells #[.pointer p, .int .i64 x] QueT)).heap[w1.heap.size]? = some (Obj.cells #[.pointer p, .int .i64 x] QueT) := heap_alloc_new _ _
                have xb0 : (w1.alloc (.cells #[.pointer p, .int .i64 x] QueT)).cell? ⟨w1.heap.size, 0, none⟩ = some (.pointer p) := cellB hbx rfl
                have xb1 : (w1.alloc (.cells #[.pointer p, .int .i64 x] QueT)).cell? ⟨w1.heap.size, 1, none⟩ = some (.int .i64 x) := cellB hbx rfl
                clear hbx
                have hm2 := setCellB (j := (n + 1) * 2) (u := .pointer p) hm1
                have hm3 := setCellB (j := (n + 1) * 2 + 1) (u := .int .i64 x) hm2
                have hl3 : (((w1.alloc (.cells #[.pointer p, .int .i64 x] QueT)).setCell ⟨w.heap.size, (n + 1) * 2, none⟩ (.pointer p)).setCell ⟨w.heap.size, (n + 1) * 2 + 1, none⟩ (.int .i64 x)).heap[w.heap.size + 1]? = some (Obj.cells cl SlI) := by
                  rw [Below.heap_setCell _ _ _ _ (fun e => HK.out.ne e.symm), Below.heap_setCell _ _ _ _ (fun e => HK.out.ne e.symm)]; exact hl1
                have hN2 : Hold 194 wc (((w1.alloc (.cells #[.pointer p, .int .i64 x] QueT)).setCell ⟨w.heap.size, (n + 1) * 2, none⟩ (.pointer p)).setCell ⟨w.heap.size, (n + 1) * 2 + 1, none⟩ (.int .i64 x)) := ((Hold.below bA).trans (Hold.setCell hm1 (by decide))).trans (Hold.setCell hm2 (by decide))
                have hI2 : Hold 3 wc (((w1.alloc (.cells #[.pointer p, .int .i64 x] QueT)).setCell ⟨w.heap.size, (n + 1) * 2, none⟩ (.pointer p)).setCell ⟨w.heap.size, (n + 1) * 2 + 1, none⟩ (.int .i64 x)) := ((Hold.below bA).trans (Hold.setCell hm1 (by decide))).trans (Hold.setCell hm2 (by decide))
                have hb2 := ((HB.out.trans (bA.mono HB.out.size)).setCell (p := ⟨w.heap.size, (n + 1) * 2, none⟩) (Nat.le_refl _) (.pointer p)).setCell (p := ⟨w.heap.size, (n + 1) * 2 + 1, none⟩) (Nat.le_refl _) (.int .i64 x)
                have hl4 := setCellB (j := n + 1) (u := .slice a9 l9.length c9) hl3
                have hm4 : ((((w1.alloc (.cells #[.pointer p, .int .i64 x] QueT)).setCell ⟨w.heap.size, (n + 1) * 2, none⟩ (.pointer p)).setCell ⟨w.heap.size, (n + 1) * 2 + 1, none⟩ (.int .i64 x)).setCell ⟨w.heap.size + 1, n + 1, none⟩ (.slice a9 l9.length c9)).heap[w.heap.size]? = _ := (Below.heap_setCell _ _ _ _ (fun e => HK.out.ne e)).trans hm3
                have hN3 := hN2.trans (Hold.setCell (o := n + 1) (v := .slice a9 l9.length c9) hl3 (by decide))
                have hI3 := hI2.trans (Hold.setCell (o := n + 1) (v := .slice a9 l9.length c9) hl3 (by decide))
                have hq3 := ((hq1.below ((Below.refl _ _).alloc (Nat.le_refl _) (.cells #[.pointer p, .int .i64 x] QueT))).hold ((Hold.setCell (o := (n + 1) * 2) (v := .pointer p) hm1 (by decide)).trans (Hold.setCell (o := (n + 1) * 2 + 1) (v := .int .i64 x) hm2 (by decide)))).hold (Hold.setCell (o := n + 1) (v := .slice a9 l9.length c9) hl3 (by decide))
                have hkn := HK.out.next hm4 hl4 (by rw [Array.size_setIfInBounds]; exact HK.out.ls) (set_q (by rw [HK.out.ls]; omega)) (fun j hj => by rw [Array.getElem?_setIfInBounds_ne (by omega)]) (by omega) hq3 (HT9.out.hold hI3) (by omega) z2 (by omega) hN3 hI3
                have HKE := Lib.hid hkn
                have HBE := Lib.hid (hb2.setCell (p := ⟨w.heap.size + 1, n + 1, none⟩) (by simp) (.slice a9 l9.length c9))
                clear hm1 hl1 hm2 hm3 hl3 hN2 hI2 hb2 hkn bA u1 hl4 hm4 hN3 hI3 hq3 hq1
                go_wp2_with fail
                go_roundw
                case rel => exact ⟨n + 1, _, _, by go_num, by omega, HBE.out, HKE.out⟩
                case measure => simp [intOf]; omega
          · as_aux_lemma =>
              have hp1 : (Int.tmod kd 2 == 1) = false := by simp [hp]
              obtain ⟨av, cv, rfl⟩ := HR.out.row.shape
              go_wp2_with fail
              refine lex_start [0, 1, 2, 3, 4, 5, 6, 7, 8, 9, 10, 11, 12, 13, 14] (S := fun W => W.cell? ⟨w.heap.size, f * 2, none⟩ = some (.pointer q) ∧ W.cell? ⟨w.heap.size, f * 2 + 1, none⟩ = some (.int .i64 x) ∧ W.cell? ⟨b1, o1 + n * 3 + 2, none⟩ = some (.int .i64 nm)) (by kernel_rfl) ⟨bcellAt (bd _) zq0, bcellAt (bd _) zq1, bcellAt (bd _) c2⟩ (fun hS => ?_)
              simp only [inOrder, List.filterMap, List.getElem?_cons_succ, List.getElem?_cons_zero]
              refine lex_take (i := 0) (v := ?_) rfl (by kernel_rfl) (by kernel_rfl) (by kernel_rfl) (by rfl) hS ?_ ?_
              rotate_left
              · ((intro W hW; obtain ⟨k0, k1, k2⟩ := hW; go_simp) <;> with_reducible rfl)
              simp only [Act.put, List.setIfInBounds_toArray, List.set_cons_zero, List.set_cons_succ]
              refine lex_take (i := 1) (v := ?_) rfl (by kernel_rfl) (by kernel_rfl) (by kernel_rfl) (by rfl) hS ?_ ?_
              rotate_left
              · ((intro W hW; obtain ⟨k0, k1, k2⟩ := hW; go_simp) <;> with_reducible rfl)
              simp only [Act.put, List.setIfInBounds_toArray, List.set_cons_zero, List.set_cons_succ]
              refine lex_take (i := 2) (v := ?_) rfl (by kernel_rfl) (by kernel_rfl) (by kernel_rfl) (by rfl) hS ?_ ?_
              rotate_left
              · ((intro W hW; obtain ⟨k0, k1, k2⟩ := hW; go_simp) <;> with_reducible rfl)
              simp only [Act.put, List.setIfInBounds_toArray, List.set_cons_zero, List.set_cons_succ]
              refine lex_take (i := 3) (v := ?_) rfl (by kernel_rfl) (by kernel_rfl) (by kernel_rfl) (by rfl) hS ?_ ?_
              rotate_left
              · ((intro W hW; obtain ⟨k0, k1, k2⟩ := hW; go_simp) <;> with_reducible rfl)
              simp only [Act.put, List.setIfInBounds_toArray, List.set_cons_zero, List.set_cons_succ]
              refine lex_take (i := 4) (v := ?_) rfl (by kernel_rfl) (by kernel_rfl) (by kernel_rfl) (by rfl) hS ?_ ?_
              rotate_left
              · ((intro W hW; obtain ⟨k0, k1, k2⟩ := hW; go_simp) <;> with_reducible rfl)
              simp only [Act.put, List.setIfInBounds_toArray, List.set_cons_zero, List.set_cons_succ]
              refine lex_take (i := 5) (v := ?_) rfl (by kernel_rfl) (by kernel_rfl) (by kernel_rfl) (by rfl) hS ?_ ?_
              rotate_left
              · ((intro W hW; obtain ⟨k0, k1, k2⟩ := hW; go_simp) <;> with_reducible rfl)
              simp only [Act.put, List.setIfInBounds_toArray, List.set_cons_zero, List.set_cons_succ]
              refine lex_take (i := 6) (v := ?_) rfl (by kernel_rfl) (by kernel_rfl) (by kernel_rfl) (by rfl) hS ?_ ?_
              rotate_left
              · ((intro W hW; obtain ⟨k0, k1, k2⟩ := hW; go_simp) <;> with_reducible rfl)
              simp only [Act.put, List.setIfInBounds_toArray, List.set_cons_zero, List.set_cons_succ]
              refine lex_take (i := 7) (v := ?_) rfl (by kernel_rfl) (by kernel_rfl) (by kernel_rfl) (by rfl) hS ?_ ?_
              rotate_left
              · ((intro W hW; obtain ⟨k0, k1, k2⟩ := hW; go_simp) <;> with_reducible rfl)
              simp only [Act.put, List.setIfInBounds_toArray, List.set_cons_zero, List.set_cons_succ]
              refine lex_take (i := 8) (v := ?_) rfl (by kernel_rfl) (by kernel_rfl) (by kernel_rfl) (by rfl) hS ?_ ?_
              rotate_left
              · ((intro W hW; obtain ⟨k0, k1, k2⟩ := hW; go_simp) <;> with_reducible rfl)
              simp only [Act.put, List.setIfInBounds_toArray, List.set_cons_zero, List.set_cons_succ]
              refine lex_take (i := 9) (v := ?_) rfl (by kernel_rfl) (by kernel_rfl) (by kernel_rfl) (by rfl) hS ?_ ?_
              rotate_left
              · ((intro W hW; obtain ⟨k0, k1, k2⟩ := hW; go_simp) <;> with_reducible rfl)
              simp only [Act.put, List.setIfInBounds_toArray, List.set_cons_zero, List.set_cons_succ]
              refine lex_take (i := 10) (v := ?_) rfl (by kernel_rfl) (by kernel_rfl) (by kernel_rfl) (by rfl) hS ?_ ?_
              rotate_left
              · ((intro W hW; obtain ⟨k0, k1, k2⟩ := hW; go_simp) <;> with_reducible rfl)
              simp only [Act.put, List.setIfInBounds_toArray, List.set_cons_zero, List.set_cons_succ]
              refine lex_take (i := 11) (v := ?_) rfl (by kernel_rfl) (by kernel_rfl) (by kernel_rfl) (by rfl) hS ?_ ?_
              rotate_left
              · ((intro W hW; obtain ⟨k0, k1, k2⟩ := hW; go_simp) <;> with_reducible rfl)
              simp only [Act.put, List.setIfInBounds_toArray, List.set_cons_zero, List.set_cons_succ]
              refine lex_call (i := 12) rfl (by kernel_rfl) (by rfl) ?_ _ (qpush nm (HQ.out.below (bd _)) (by omega) ⟨z2, by omega⟩) ?_
              · go_simp
              rintro e u1 ⟨u, rfl, hq2, b2⟩
              obtain ⟨p2, t2, rfl, ht2⟩ := id hq2
              clear ht2 t2
              have bb := bmore (bd wc) b2
              have hm1 := Hold.below bb _ _ HK.out.mb
              have hl1 := Hold.below bb _ _ HK.out.lb
              have x1 : u1.cell? ⟨w.heap.size, (n + 1) * 2, none⟩ = some (.pointer qn) := cellB hm1 D0.out
              have x2 : u1.frozen? ⟨w.heap.size, (n + 1) * 2, none⟩ = false := frozenB hm1
              have x3 : u1.cell? ⟨w.heap.size, (n + 1) * 2 + 1, none⟩ = some (.int .i64 xn) := cellB hm1 D1.out
              have x4 : u1.frozen? ⟨w.heap.size, (n + 1) * 2 + 1, none⟩ = false := frozenB hm1
              have hS1 : u1.cell? ⟨w.heap.size, f * 2, none⟩ = some (.pointer q) ∧ u1.cell? ⟨w.heap.size, f * 2 + 1, none⟩ = some (.int .i64 x) ∧ u1.cell? ⟨b1, o1 + n * 3 + 2, none⟩ = some (.int .i64 nm) := ⟨bcellAt bb zq0, bcellAt bb zq1, bcellAt bb c2⟩
              refine ⟨_, rfl, fun W => W.cell? ⟨w.heap.size, f * 2, none⟩ = some (.pointer q) ∧ W.cell? ⟨w.heap.size, f * 2 + 1, none⟩ = some (.int .i64 x) ∧ W.cell? ⟨b1, o1 + n * 3 + 2, none⟩ = some (.int .i64 nm), fun W h => h, hS1, ?_⟩
              simp only [Act.put, List.setIfInBounds_toArray, List.set_cons_zero, List.set_cons_succ]
              refine lex_take (i := 13) (v := ?_) rfl (by kernel_rfl) (by kernel_rfl) (by kernel_rfl) (by rfl) hS1 ?_ ?_
              rotate_left
              · ((intro W hW; obtain ⟨k0, k1, k2⟩ := hW; go_simp) <;> with_reducible rfl)
              simp only [Act.put, List.setIfInBounds_toArray, List.set_cons_zero, List.set_cons_succ]
              refine lex_do (i := 14) rfl (by kernel_rfl) (by rfl) (fun K hK => ?_)
              go_simp
              have hm2 := setCellB (j := (n + 1) * 2) (u := .pointer p2) hm1
              have hm3 := setCellB (j := (n + 1) * 2 + 1) (u := .int .i64 (x + 1)) hm2
              have hl3 : ((u1.setCell ⟨w.heap.size, (n + 1) * 2, none⟩ (.pointer p2)).setCell ⟨w.heap.size, (n + 1) * 2 + 1, none⟩ (.int .i64 (x + 1))).heap[w.heap.size + 1]? = some (Obj.cells cl SlI) := by
                rw [Below.heap_setCell _ _ _ _ (fun e => HK.out.ne e.symm), Below.heap_setCell _ _ _ _ (fun e => HK.out.ne e.symm)]; exact hl1
              have hN2 : Hold 194 wc ((u1.setCell ⟨w.heap.size, (n + 1) * 2, none⟩ (.pointer p2)).setCell ⟨w.heap.size, (n + 1) * 2 + 1, none⟩ (.int .i64 (x + 1))) := ((Hold.below bb).trans (Hold.setCell hm1 (by decide))).trans (Hold.setCell hm2 (by decide))
              have hI2 : Hold 3 wc ((u1.setCell ⟨w.heap.size, (n + 1) * 2, none⟩ (.pointer p2)).setCell ⟨w.heap.size, (n + 1) * 2 + 1, none⟩ (.int .i64 (x + 1))) := ((Hold.below bb).trans (Hold.setCell hm1 (by decide))).trans (Hold.setCell hm2 (by decide))
              have hb2 := ((HB.out.trans (bb.mono HB.out.size)).setCell (p := ⟨w.heap.size, (n + 1) * 2, none⟩) (Nat.le_refl _) (.pointer p2)).setCell (p := ⟨w.heap.size, (n + 1) * 2 + 1, none⟩) (Nat.le_refl _) (.int .i64 (x + 1))
              have hq3 := (hq2.hold (Hold.setCell (o := (n + 1) * 2) (v := .pointer p2) hm1 (by decide))).hold (Hold.setCell (o := (n + 1) * 2 + 1) (v := .int .i64 (x + 1)) hm2 (by decide))
              have s0 : ((u1.setCell ⟨w.heap.size, (n + 1) * 2, none⟩ (.pointer p2)).setCell ⟨w.heap.size, (n + 1) * 2 + 1, none⟩ (.int .i64 (x + 1))).cell? ⟨w.heap.size, f * 2, none⟩ = some (.pointer q) := cellB hm3 (by rw [Array.getElem?_setIfInBounds_ne (by omega), Array.getElem?_setIfInBounds_ne (by omega)]; exact E0.out)
              have s1 : ((u1.setCell ⟨w.heap.size, (n + 1) * 2, none⟩ (.pointer p2)).setCell ⟨w.heap.size, (n + 1) * 2 + 1, none⟩ (.int .i64 (x + 1))).cell? ⟨w.heap.size, f * 2 + 1, none⟩ = some (.int .i64 x) := cellB hm3 (by rw [Array.getElem?_setIfInBounds_ne (by omega), Array.getElem?_setIfInBounds_ne (by omega)]; exact E1.out)
              have y2 := bcellAt hb2 CW.out
              have y1 : ((u1.setCell ⟨w.heap.size, (n + 1) * 2, none⟩ (.pointer p2)).setCell ⟨w.heap.size, (n + 1) * 2 + 1, none⟩ (.int .i64 (x + 1))).cell? ⟨w.heap.size + 1, f, none⟩ = some (.slice av lf.length cv) := cellB hl3 E2.out
              have HM3 := Lib.hid hm3
              have HL3 := Lib.hid hl3
              have HN2 := Lib.hid hN2
              have HI2 := Lib.hid hI2
              have HB2 := Lib.hid hb2
              have HQ3 := Lib.hid hq3
              refine hK _ _ ⟨⟨s0, s1, y2⟩, ?_⟩
              clear hK K
              refine lex_done (by kernel_rfl) ?_
              clear hS hS1 s0 s1 hm1 hl1 hm2 hm3 hl3 hN2 hI2 hb2 hq3 hq2 x1 x2 x3 x4 bb b2 zq0 zq1 zl c0 c2
              generalize ((u1.setCell ⟨w.heap.size, (n + 1) * 2, none⟩ (.pointer p2)).setCell ⟨w.heap.size, (n + 1) * 2 + 1, none⟩ (.int .i64 (x + 1))) = V2 at *
              have HR2 := Lib.hid ((HR.out.hold HI2.out).row)
              have hnx : ∀ (w6 : World) (sa : Option Addr) (k sc : Nat), Below V2.heap.size V2 w6 → k = (lf ++ [nm]).length → w6.ownsRow V2.heap.size 3 1 (.slice sa k sc) (lf ++ [nm]).length (ints (lf ++ [nm])) → w6.cell? ⟨w.heap.size + 1, n + 1, none⟩ = some (.slice an 0 cn) ∧ w6.frozen? ⟨w.heap.size + 1, n + 1, none⟩ = false ∧ (∃ cm' cl', KQ (w6.setCell ⟨w.heap.size + 1, n + 1, none⟩ (.slice sa k sc)) w.heap.size w.heap.size (w.heap.size + 1) cm' cl' (n + 1) (l.length + 1)) ∧ Below w.heap.size w (w6.setCell ⟨w.heap.size + 1, n + 1, none⟩ (.slice sa k sc)) := by
                intro w6 sa k sc b6 hk6 o6
                have hl6 := Hold.below b6 _ _ HL3.out
                have hm6 := Hold.below b6 _ _ HM3.out
                have hl7 := setCellB (j := n + 1) (u := .slice sa k sc) hl6
                have hm7 : (w6.setCell ⟨w.heap.size + 1, n + 1, none⟩ (.slice sa k sc)).heap[w.heap.size]? = _ := (Below.heap_setCell _ _ _ _ (fun e => HK.out.ne e)).trans hm6
                have hN3 := (HN2.out.trans (Hold.below b6)).trans (Hold.setCell (o := n + 1) (v := .slice sa k sc) hl6 (by decide))
                have hI3 := (HI2.out.trans (Hold.below b6)).trans (Hold.setCell (o := n + 1) (v := .slice sa k sc) hl6 (by decide))
                have hq7 := (HQ3.out.below b6).hold (Hold.setCell (o := n + 1) (v := .slice sa k sc) hl6 (by decide))
                have hr7 := (RowQ.of_own (own_base o6 HB2.out.size)).hold (Hold.setCell (o := n + 1) (v := .slice sa k sc) hl6 (by decide))
                refine ⟨cellB hl6 D2.out, frozenB hl6, ⟨_, _, HK.out.next hm7 hl7 (by rw [Array.size_setIfInBounds]; exact HK.out.ls) (set_q (by rw [HK.out.ls]; omega)) (fun j hj => by rw [Array.getElem?_setIfInBounds_ne (by omega)]) (by omega) hq7 hr7 (by simp; omega) (by omega) (by omega) hN3 hI3⟩, (HB2.out.trans (b6.mono HB2.out.size)).setCell (p := ⟨w.heap.size + 1, n + 1, none⟩) (by simp) (.slice sa k sc)⟩
              have HNX := Lib.hid hnx
              have HSS := Lib.hid (fun (W : World) (hb : Below V2.heap.size V2 W) => (⟨bcellAt hb y1, bcellAt hb y2⟩ : W.cell? ⟨w.heap.size + 1, f, none⟩ = some (.slice av lf.length cv) ∧ W.cell? ⟨b1, o1 + n * 3 + 2, none⟩ = some (.int .i64 nm)))
              clear hnx y1 y2
              go_wp2_with fail
              refine lex_startG [0, 1, 2, 4, 5, 6, 7, 9, 10, 11, 12, 13, 3, 14, 8, 15, 16, 17] (S := fun W => W.cell? ⟨w.heap.size + 1, f, none⟩ = some (.slice av lf.length cv) ∧ W.cell? ⟨b1, o1 + n * 3 + 2, none⟩ = some (.int .i64 nm)) (by kernel_rfl) (HSS.out _ (bd _)) (fun hS => ?_)
              simp only [inOrder, List.filterMap, List.getElem?_cons_succ, List.getElem?_cons_zero]
              refine lex_takeG (i := 0) (v := ?_) rfl (by kernel_rfl) (by kernel_rfl) (by kernel_rfl) (by rfl) hS ?_ ?_
              rotate_left
              · ((intro W hW; obtain ⟨k0, k1⟩ := hW; go_simp) <;> with_reducible rfl)
              simp only [Act.put, List.setIfInBounds_toArray, List.set_cons_zero, List.set_cons_succ]
              refine lex_takeG (i := 1) (v := ?_) rfl (by kernel_rfl) (by kernel_rfl) (by kernel_rfl) (by rfl) hS ?_ ?_
              rotate_left
              · ((intro W hW; obtain ⟨k0, k1⟩ := hW; go_simp) <;> with_reducible rfl)
              simp only [Act.put, List.setIfInBounds_toArray, List.set_cons_zero, List.set_cons_succ]
              refine lex_takeG (i := 2) (v := ?_) rfl (by kernel_rfl) (by kernel_rfl) (by kernel_rfl) (by rfl) hS ?_ ?_
              rotate_left
              · ((intro W hW; obtain ⟨k0, k1⟩ := hW; go_simp) <;> with_reducible rfl)
              simp only [Act.put, List.setIfInBounds_toArray, List.set_cons_zero, List.set_cons_succ]
              refine lex_takeG (i := 4) (v := ?_) rfl (by kernel_rfl) (by kernel_rfl) (by kernel_rfl) (by rfl) hS ?_ ?_
              rotate_left
              · ((intro W hW; obtain ⟨k0, k1⟩ := hW; go_simp) <;> with_reducible rfl)
              simp only [Act.put, List.setIfInBounds_toArray, List.set_cons_zero, List.set_cons_succ]
              refine lex_takeG (i := 5) (v := ?_) rfl (by kernel_rfl) (by kernel_rfl) (by kernel_rfl) (by rfl) hS ?_ ?_
              rotate_left
              · ((intro W hW; obtain ⟨k0, k1⟩ := hW; go_simp) <;> with_reducible rfl)
              simp only [Act.put, List.setIfInBounds_toArray, List.set_cons_zero, List.set_cons_succ]
              refine lex_takeG (i := 6) (v := ?_) rfl (by kernel_rfl) (by kernel_rfl) (by kernel_rfl) (by rfl) hS ?_ ?_
              rotate_left
              · ((intro W hW; obtain ⟨k0, k1⟩ := hW; go_simp) <;> with_reducible rfl)
              simp only [Act.put, List.setIfInBounds_toArray, List.set_cons_zero, List.set_cons_succ]
              refine lex_takeG (i := 7) (v := ?_) rfl (by kernel_rfl) (by kernel_rfl) (by kernel_rfl) (by rfl) hS ?_ ?_
              rotate_left
              · ((intro W hW; obtain ⟨k0, k1⟩ := hW; go_simp) <;> with_reducible rfl)
              simp only [Act.put, List.setIfInBounds_toArray, List.set_cons_zero, List.set_cons_succ]
              refine lex_takeG (i := 9) (v := ?_) rfl (by kernel_rfl) (by kernel_rfl) (by kernel_rfl) (by rfl) hS ?_ ?_
              rotate_left
              · ((intro W hW; obtain ⟨k0, k1⟩ := hW; go_simp) <;> with_reducible rfl)
              simp only [Act.put, List.setIfInBounds_toArray, List.set_cons_zero, List.set_cons_succ]
              refine lex_takeG (i := 10) (v := ?_) rfl (by kernel_rfl) (by kernel_rfl) (by kernel_rfl) (by rfl) hS ?_ ?_
              rotate_left
              · ((intro W hW; obtain ⟨k0, k1⟩ := hW; go_simp) <;> with_reducible rfl)
              simp only [Act.put, List.setIfInBounds_toArray, List.set_cons_zero, List.set_cons_succ]
              refine lex_takeG (i := 11) (v := ?_) rfl (by kernel_rfl) (by kernel_rfl) (by kernel_rfl) (by rfl) hS ?_ ?_
              rotate_left
              · ((intro W hW; obtain ⟨k0, k1⟩ := hW; go_simp) <;> with_reducible rfl)
              simp only [Act.put, List.setIfInBounds_toArray, List.set_cons_zero, List.set_cons_succ]
              refine lex_takeG (i := 12) (v := ?_) rfl (by kernel_rfl) (by kernel_rfl) (by kernel_rfl) (by rfl) hS ?_ ?_
              rotate_left
              · ((intro W hW; obtain ⟨k0, k1⟩ := hW; go_simp) <;> with_reducible rfl)
              simp only [Act.put, List.setIfInBounds_toArray, List.set_cons_zero, List.set_cons_succ]
              refine lex_takeG (i := 13) (v := ?_) rfl (by kernel_rfl) (by kernel_rfl) (by kernel_rfl) (by rfl) hS ?_ ?_
              rotate_left
              · ((intro W hW; obtain ⟨k0, k1⟩ := hW; go_simp) <;> with_reducible rfl)
              simp only [Act.put, List.setIfInBounds_toArray, List.set_cons_zero, List.set_cons_succ]
              have hV : Below V2.heap.size V2 V2.drew := bd _
              generalize V2.drew = V at *
              have HV := Lib.hid hV
              have hVs := hV.size
              have hVw := HB2.out.size
              clear hV
              refine lex_two (i := 3) (j := 14) rfl rfl (by kernel_rfl) (by rfl) (by rfl) (fun K hK => ?_) (fun K hK => ?_)
              · go_simp
                have b1 := HV.out.trans (((Below.refl _ _).alloc (Nat.le_refl _) (.cells #[] 3) : Below V.heap.size V _).mono HV.out.size)
                have o1 : (V.alloc (.cells #[] 3)).ownsRow V2.heap.size 3 1 (.slice (some ⟨V.heap.size, 0, none⟩) 0 0) ([] : List Int).length (ints []) := World.ownsRow_made V #[] 0 HV.out.size (by unfold maxLen; omega) rfl
                have hs1 := HSS.out _ b1
                refine hK _ _ ⟨hs1, ?_⟩
                clear hK K
                have B1 := Lib.hid b1
                have O1 := Lib.hid o1
                clear b1 o1
                have hLT : V.heap.size < (V.alloc (.cells #[] 3)).heap.size := by simp
                generalize (V.alloc (.cells #[] 3)) = W1 at *
                generalize V.heap.size = BV at *
                refine lex_reorder [8, 14, 15, 16, 17] ?_
                simp only [inOrder, List.filterMap, List.getElem?_cons_succ, List.getElem?_cons_zero]
                refine lex_two (i := 8) (j := 14) rfl rfl (by kernel_rfl) (by rfl) (by rfl) (fun K hK => ?_) (fun K hK => ?_)
                · as_aux_lemma =>
                    refine wp_append_rq _ _ rfl V2.heap.size _ [] rfl O1.out _ lf rfl (HR2.out.below B1.out) (by simp; omega) B1.out.size ?_
                    intro v2 w2 o2 g2
                    have b2 := B1.out.trans (grown_below g2 B1.out.size (fun k e => (own_type O1.out e).1))
                    have hs2 := HSS.out _ b2
                    refine hK _ _ ⟨hs2, ?_⟩
                    clear hK K
                    try simp only [Act.put, List.setIfInBounds_toArray, List.set_cons_zero, List.set_cons_succ]
                    have B2 := Lib.hid b2
                    have O2 := Lib.hid o2
                    clear b2 o2 g2
                    rw [List.nil_append] at O2
                    obtain ⟨sa2, sc2, rfl⟩ := (row_of_own O2.out).shape
                    refine lex_do (i := 14) rfl (by kernel_rfl) (by rfl) (fun K hK => ?_)
                    go_simp
                    have b3 := B2.out.trans (((Below.refl _ _).alloc (Nat.le_refl _) (.cells #[.int .i64 nm] 3) : Below w2.heap.size w2 _).mono B2.out.size)
                    have C3 := Lib.hid (one_new w2 nm)
                    have hs3 := HSS.out _ b3
                    refine hK _ _ ⟨hs3, ?_⟩
                    clear hK K
                    have B3 := Lib.hid b3
                    clear b3
                    have O3 := Lib.hid (own_hold O2.out (Hold.below ((Below.refl _ _).alloc (Nat.le_refl _) (.cells #[.int .i64 nm] 3))))
                    generalize (w2.alloc (.cells #[.int .i64 nm] 3)) = W3 at *
                    generalize w2.heap.size = BW at *
                    refine lex_do (i := 15) rfl (by kernel_rfl) (by rfl) (fun K hK => ?_)
                    refine wp_append_rq _ _ rfl V2.heap.size _ lf rfl O3.out _ [nm] rfl (row_one C3.out) (by simp; omega) B3.out.size ?_
                    intro v9 w9 o9 g9
                    have b9 := B3.out.trans (grown_below g9 B3.out.size (fun k e => (own_type O3.out e).1))
                    have hs9 := HSS.out _ b9
                    refine hK _ _ ⟨hs9, ?_⟩
                    clear hK K
                    try simp only [Act.put, List.setIfInBounds_toArray, List.set_cons_zero, List.set_cons_succ]
                    have B9 := Lib.hid b9
                    have O9 := Lib.hid o9
                    clear b9 o9 g9
                    obtain ⟨sa, sc, rfl⟩ := (row_of_own O9.out).shape
                    obtain ⟨xc, xf, ⟨cm', cl', hkn⟩, hbn⟩ := HNX.out _ _ _ _ B9.out rfl O9.out
                    rw [show (lf ++ [nm]).length = lf.length + 1 by simp] at hkn hbn
                    refine lex_takeG (i := 16) (v := ?_) rfl (by kernel_rfl) (by kernel_rfl) (by kernel_rfl) (by rfl) hs9 ?_ ?_
                    rotate_left
                    · ((intro W hW; obtain ⟨k0, k1⟩ := hW; go_simp) <;> with_reducible rfl)
                    simp only [Act.put, List.setIfInBounds_toArray, List.set_cons_zero, List.set_cons_succ]
                    refine lex_do (i := 17) rfl (by kernel_rfl) (by rfl) (fun K hK => ?_)
                    go_simp
                    have HKE := Lib.hid hkn
                    have HBE := Lib.hid hbn
                    refine hK _ _ ⟨?_, ?_⟩
                    · exact ⟨by rw [World.cell?_setCell_other _ _ _ _ (fun e => by simp only [Addr.mk.injEq] at e; omega)]; exact hs9.1, bcellAt HBE.out CW.out⟩
                    clear hK K hkn hbn
                    refine lex_done (by kernel_rfl) ?_
                    clear xc xf
                    go_wp2_with fail
                    go_roundw
                    case rel => exact ⟨n + 1, _, _, by go_num, by omega, HBE.out, HKE.out⟩
                    case measure => simp [intOf]; omega
                · as_aux_lemma =>
                    go_simp
                    have b2 := B1.out.trans (((Below.refl _ _).alloc (Nat.le_refl _) (.cells #[.int .i64 nm] 3) : Below W1.heap.size W1 _).mono B1.out.size)
                    have C2 := Lib.hid (one_new W1 nm)
                    have hs2 := HSS.out _ b2
                    refine hK _ _ ⟨hs2, ?_⟩
                    clear hK K
                    have B2 := Lib.hid b2
                    clear b2
                    have O2 := Lib.hid (own_hold O1.out (Hold.below ((Below.refl _ _).alloc (Nat.le_refl _) (.cells #[.int .i64 nm] 3))))
                    generalize (W1.alloc (.cells #[.int .i64 nm] 3)) = W2 at *
                    generalize W1.heap.size = BW at *
                    refine lex_reorder [8, 15, 16, 17] ?_
                    simp only [inOrder, List.filterMap, List.getElem?_cons_succ, List.getElem?_cons_zero]
                    refine lex_do (i := 8) rfl (by kernel_rfl) (by rfl) (fun K hK => ?_)
                    refine wp_append_rq _ _ rfl V2.heap.size (.slice (some ⟨BV, 0, none⟩) 0 0) [] rfl O2.out _ lf rfl (HR2.out.below B2.out) (by simp; omega) B2.out.size ?_
                    intro v3 w3 o3 g3
                    have b3 := B2.out.trans (grown_below g3 B2.out.size (fun k e => (own_type O2.out e).1))
                    have hs3 := HSS.out _ b3
                    refine hK _ _ ⟨hs3, ?_⟩
                    clear hK K
                    try simp only [Act.put, List.setIfInBounds_toArray, List.set_cons_zero, List.set_cons_succ]
                    have B3 := Lib.hid b3
                    have O3 := Lib.hid o3
                    have C3 := Lib.hid (cell_grown g3 C2.out (by simp [Value.ownBlock]; omega))
                    clear b3 o3 g3
                    rw [List.nil_append] at O3
                    obtain ⟨sa2, sc2, rfl⟩ := (row_of_own O3.out).shape
                    refine lex_do (i := 15) rfl (by kernel_rfl) (by rfl) (fun K hK => ?_)
                    refine wp_append_rq _ _ rfl V2.heap.size _ lf rfl O3.out _ [nm] rfl (row_one C3.out) (by simp; omega) B3.out.size ?_
                    intro v9 w9 o9 g9
                    have b9 := B3.out.trans (grown_below g9 B3.out.size (fun k e => (own_type O3.out e).1))
                    have hs9 := HSS.out _ b9
                    refine hK _ _ ⟨hs9, ?_⟩
                    clear hK K
                    try simp only [Act.put, List.setIfInBounds_toArray, List.set_cons_zero, List.set_cons_succ]
                    have B9 := Lib.hid b9
                    have O9 := Lib.hid o9
                    clear b9 o9 g9
                    obtain ⟨sa, sc, rfl⟩ := (row_of_own O9.out).shape
                    obtain ⟨xc, xf, ⟨cm', cl', hkn⟩, hbn⟩ := HNX.out _ _ _ _ B9.out rfl O9.out
                    rw [show (lf ++ [nm]).length = lf.length + 1 by simp] at hkn hbn
                    refine lex_takeG (i := 16) (v := ?_) rfl (by kernel_rfl) (by kernel_rfl) (by kernel_rfl) (by rfl) hs9 ?_ ?_
                    rotate_left
                    · ((intro W hW; obtain ⟨k0, k1⟩ := hW; go_simp) <;> with_reducible rfl)
                    simp only [Act.put, List.setIfInBounds_toArray, List.set_cons_zero, List.set_cons_succ]
                    refine lex_do (i := 17) rfl (by kernel_rfl) (by rfl) (fun K hK => ?_)
                    go_simp
                    have HKE := Lib.hid hkn
                    have HBE := Lib.hid hbn
                    refine hK _ _ ⟨?_, ?_⟩
                    · exact ⟨by rw [World.cell?_setCell_other _ _ _ _ (fun e => by simp only [Addr.mk.injEq] at e; omega)]; exact hs9.1, bcellAt HBE.out CW.out⟩
                    clear hK K hkn hbn
                    refine lex_done (by kernel_rfl) ?_
                    clear xc xf
                    go_wp2_with fail
                    go_roundw
                    case rel => exact ⟨n + 1, _, _, by go_num, by omega, HBE.out, HKE.out⟩
                    case measure => simp [intOf]; omega
              · as_aux_lemma =>
                  go_simp
                  have b1 := HV.out.trans (((Below.refl _ _).alloc (Nat.le_refl _) (.cells #[.int .i64 nm] 3) : Below V.heap.size V _).mono HV.out.size)
                  have C1 := Lib.hid (one_new V nm)
                  have hs1 := HSS.out _ b1
                  refine hK _ _ ⟨hs1, ?_⟩
                  clear hK K
                  have B1 := Lib.hid b1
                  clear b1
                  have hLT : V.heap.size < (V.alloc (.cells #[.int .i64 nm] 3)).heap.size := by simp
                  generalize (V.alloc (.cells #[.int .i64 nm] 3)) = W1 at *
                  generalize V.heap.size = BV at *
                  refine lex_reorder [3, 8, 15, 16, 17] ?_
                  simp only [inOrder, List.filterMap, List.getElem?_cons_succ, List.getElem?_cons_zero]
                  refine lex_do (i := 3) rfl (by kernel_rfl) (by rfl) (fun K hK => ?_)
                  go_simp
                  have b2 := B1.out.trans (((Below.refl _ _).alloc (Nat.le_refl _) (.cells #[] 3) : Below W1.heap.size W1 _).mono B1.out.size)
                  have o2 : (W1.alloc (.cells #[] 3)).ownsRow V2.heap.size 3 1 (.slice (some ⟨W1.heap.size, 0, none⟩) 0 0) ([] : List Int).length (ints []) := World.ownsRow_made W1 #[] 0 B1.out.size (by unfold maxLen; omega) rfl
                  have hs2 := HSS.out _ b2
                  refine hK _ _ ⟨hs2, ?_⟩
                  clear hK K
                  have B2 := Lib.hid b2
                  have O2 := Lib.hid o2
                  clear b2 o2
                  have C2 := Lib.hid (bcellAt ((Below.refl _ _).alloc (Nat.le_refl _) (.cells #[] 3)) C1.out)
                  generalize (W1.alloc (.cells #[] 3)) = W2 at *
                  generalize W1.heap.size = BW at *
                  refine lex_do (i := 8) rfl (by kernel_rfl) (by rfl) (fun K hK => ?_)
                  refine wp_append_rq _ _ rfl V2.heap.size (.slice (some ⟨BW, 0, none⟩) 0 0) [] rfl O2.out _ lf rfl (HR2.out.below B2.out) (by simp; omega) B2.out.size ?_
                  intro v3 w3 o3 g3
                  have b3 := B2.out.trans (grown_below g3 B2.out.size (fun k e => (own_type O2.out e).1))
                  have hs3 := HSS.out _ b3
                  refine hK _ _ ⟨hs3, ?_⟩
                  clear hK K
                  try simp only [Act.put, List.setIfInBounds_toArray, List.set_cons_zero, List.set_cons_succ]
                  have B3 := Lib.hid b3
                  have O3 := Lib.hid o3
                  have C3 := Lib.hid (cell_grown g3 C2.out (by simp [Value.ownBlock]; omega))
                  clear b3 o3 g3
                  rw [List.nil_append] at O3
                  obtain ⟨sa2, sc2, rfl⟩ := (row_of_own O3.out).shape
                  refine lex_do (i := 15) rfl (by kernel_rfl) (by rfl) (fun K hK => ?_)
                  refine wp_append_rq _ _ rfl V2.heap.size _ lf rfl O3.out _ [nm] rfl (row_one C3.out) (by simp; omega) B3.out.size ?_
                  intro v9 w9 o9 g9
                  have b9 := B3.out.trans (grown_below g9 B3.out.size (fun k e => (own_type O3.out e).1))
                  have hs9 := HSS.out _ b9
                  refine hK _ _ ⟨hs9, ?_⟩
                  clear hK K
                  try simp only [Act.put, List.setIfInBounds_toArray, List.set_cons_zero, List.set_cons_succ]
                  have B9 := Lib.hid b9
                  have O9 := Lib.hid o9
                  clear b9 o9 g9
                  obtain ⟨sa, sc, rfl⟩ := (row_of_own O9.out).shape
                  obtain ⟨xc, xf, ⟨cm', cl', hkn⟩, hbn⟩ := HNX.out _ _ _ _ B9.out rfl O9.out
                  rw [show (lf ++ [nm]).length = lf.length + 1 by simp] at hkn hbn
                  refine lex_takeG (i := 16) (v := ?_) rfl (by kernel_rfl) (by kernel_rfl) (by kernel_rfl) (by rfl) hs9 ?_ ?_
                  rotate_left
                  · ((intro W hW; obtain ⟨k0, k1⟩ := hW; go_simp) <;> with_reducible rfl)
                  simp only [Act.put, List.setIfInBounds_toArray, List.set_cons_zero, List.set_cons_succ]
                  refine lex_do (i := 17) rfl (by kernel_rfl) (by rfl) (fun K hK => ?_)
                  go_simp
                  have HKE := Lib.hid hkn
                  have HBE := Lib.hid hbn
                  refine hK _ _ ⟨?_, ?_⟩
                  · exact ⟨by rw [World.cell?_setCell_other _ _ _ _ (fun e => by simp only [Addr.mk.injEq] at e; omega)]; exact hs9.1, bcellAt HBE.out CW.out⟩
                  clear hK K hkn hbn
                  refine lex_done (by kernel_rfl) ?_
                  clear xc xf
                  go_wp2_with fail
                  go_roundw
                  case rel => exact ⟨n + 1, _, _, by go_num, by omega, HBE.out, HKE.out⟩
                  case measure => simp [intOf]; omega
      · as_aux_lemma =>
        obtain rfl : n = l.length := by omega
        clear XA HOK H hlt
        have HBN := Lib.hid hb
        have HKN := Lib.hid hk
        clear hb hk
        obtain ⟨wo, rfl⟩ : ∃ wo : World, wo = wr := ⟨_, rfl⟩
        go_wp2_with fail
        go_loopw [11] (fun i wr => ∃ n : Nat, i = .int .i64 (n : Int) ∧ n ≤ l.length + 1 ∧ Below wo.heap.size wo wr) (fun i _ => l.length + 1 - (intOf i).toNat)
        case atStart => exact ⟨0, rfl, by omega, Below.refl _ _⟩
        case round =>
          obtain ⟨j, rfl, hj, hb2⟩ := hrel
          have HB2 := Lib.hid (HBN.out.trans (hb2.mono HBN.out.size))
          have HBJ := Lib.hid hb2
          by_cases hjl : j ≤ l.length
          · have hkj := HKN.out.below hb2
            obtain ⟨q, x, v, lf, e0, e1, e2, hQ, hR, ⟨z1, z2, z3⟩, _⟩ := hkj.each j (by omega)
            obtain ⟨va, vc, rfl⟩ := hR.row.shape
            have zq : wr.cell? ⟨w.heap.size, j * 2, none⟩ = some (.pointer q) := cellB hkj.mb e0
            have zx : wr.cell? ⟨w.heap.size, j * 2 + 1, none⟩ = some (.int .i64 x) := cellB hkj.mb e1
            have zl : wr.cell? ⟨w.heap.size + 1, j, none⟩ = some (.slice va lf.length vc) := cellB hkj.lb e2
            have HQ := Lib.hid hQ
            have HR := Lib.hid hR.row
            have hne : ((lf.length : Int) != (lf.length : Int)) = false := by simp
            have hts : lf.length < 100000 := by omega
            have htl2 : lf.length < 1000000 := by omega
            have j1 : (j : Int) < (l.length : Int) + 1 := by omega
            have j0 : (0 : Int) ≤ (j : Int) := by omega
            have j2 : (j : Int) ≤ (l.length : Int) := by omega
            clear hkj hQ hR e0 e1 e2 hb2
            go_wp2_with fail
            have hk : ∀ w' : World, Below wr.heap.size wr w' → w'.cell? ⟨w.heap.size, j * 2, none⟩ = some (.pointer q) ∧ w'.cell? ⟨w.heap.size, j * 2 + 1, none⟩ = some (.int .i64 x) ∧ w'.cell? ⟨w.heap.size + 1, j, none⟩ = some (.slice va lf.length vc) ∧ Below wr.heap.size wr w' := fun w' hb => ⟨bcellAt hb zq, bcellAt hb zx, bcellAt hb zl, hb⟩
            have HK := Lib.hid hk
            clear hk
            go_region_held3 (fun w' => w'.cell? ⟨w.heap.size, j * 2, none⟩ = some (.pointer q) ∧ w'.cell? ⟨w.heap.size, j * 2 + 1, none⟩ = some (.int .i64 x) ∧ w'.cell? ⟨w.heap.size + 1, j, none⟩ = some (.slice va lf.length vc) ∧ Below wr.heap.size wr w') ((refine HK.out _ ?_; first | exact bdd _ _ | exact bd _ | exact bdn _ _ | exact Below.refl _ _ | exact (bmore (by first | assumption | exact bdn _ _ | exact bd _ | exact Below.refl _ _) u1) | exact (bmore (bmore (by first | assumption | exact bdn _ _ | exact bd _ | exact Below.refl _ _) u1) u2) | exact (bmore (bmore (bmore (by first | assumption | exact bdn _ _ | exact bd _ | exact Below.refl _ _) u1) u2) u3)))
              ((first
                | ((with_reducible refine (qlen (HQ.out.below (by first | assumption | exact bdn _ _ | exact bd _ | exact Below.refl _ _))).mono ?_); rintro e w3 ⟨rfl, u1⟩)
                | ((with_reducible refine (callsIn_wide.1 (qlist (HQ.out.below (bmore (by first | assumption | exact bdn _ _ | exact bd _ | exact Below.refl _ _) u1)) hts)).mono ?_); rintro e w4 ⟨ve, rfl, o4, u2⟩; obtain ⟨ae, ce, rfl⟩ := (row_of_own o4).shape)
                | ((with_reducible refine (ints_same (row_of_own o4) (HR.out.below (bmore (bmore (by first | assumption | exact bdn _ _ | exact bd _ | exact Below.refl _ _) u1) u2)) htl2).mono ?_); rintro e w5 ⟨rfl, dd⟩; have u3 := dd.below)))
            have hb5 : Below wr.heap.size wr w5 := by first | exact bmore (bmore (bmore (bd _) u1) u2) u3 | exact bmore (bmore (bmore (bdn _ _) u1) u2) u3
            have HB5 := Lib.hid (bmore HBJ.out hb5)
            clear hb5 u1 u2 u3 HK zq zx zl o4 dd
            go_wp2_with fail
            go_roundw
            case rel => exact ⟨j + 1, by go_num, by omega, HB5.out⟩
            case measure => simp [intOf]; omega
          · obtain rfl : j = l.length + 1 := by omega
            have j2 : decide ((l.length : Int) + 1 ≤ (l.length : Int)) = false := by simp; omega
            go_wp2_with fail
            refine (live_any _).mono ?_
            rintro e w6 ⟨rfl, u6⟩
            have HU6 := Lib.hid (HB2.out.trans (u6.mono HB2.out.size))
            clear u6
            go_wp2_with fail
            go_returns
            exact ⟨rfl, HU6.out⟩
end Go.Proofs.Ytnpamjdccijfcaa
