/-
  The walk of KeepSorts.
-/
import Derived.Test.YtmbaedldikobcaaKSortP
import Derived.Test.YtmbaedldikobcaaKLive
import Derived.Deep.DeepCutAuto
namespace Go.Proofs.Ytmbaedldikobcaa
open Go.RowKit
set_option linter.unusedVariables false

abbrev BoT : TypeId := 4
def booC (n : Nat) : Array Value := madeCells (Value.bool false).cells (n * 1)
theorem booC_size (n : Nat) : (booC n).size = n := by rw [booC, size_madeCells, Nat.mul_one]
theorem booC_at (n j : Nat) (h : j < n) : (booC n)[j]? = some (.bool false) := by
  unfold booC madeCells
  rw [show (Value.bool false).cells = #[Value.bool false] from rfl]
  simp [h, Nat.mod_one]
theorem rowBo : (Try.prog.info? BoT).map (fun i => (i.zero, i.size, i.bytes)) = some (some (.bool false), 1, 1) := by kernel_rfl

set_option maxRecDepth 100000 in
set_option maxHeartbeats 1600000 in
theorem sorts_long {w : World} {v : Value} {l : List Int} (h : Row w 1 v l.length (ints l)) (hm : l.length ≤ maxLen) (hl : 200 < l.length) :
    Calls Try.prog 10 #[v] w fun e w' => e = .returned (.bool true) ∧ Below w.heap.size w w' := by
  obtain ⟨aa, ca, rfl⟩ := h.shape
  clear h
  have hlen : (200 : Int) < (l.length : Int) := by omega
  clear hl hm
  go_enter Try.func10, Try.ntmps10
  go_wp2_with fail
  refine (live_any _).mono ?_
  rintro e w1 ⟨rfl, u1⟩
  have HU := Lib.hid u1
  clear u1
  go_wp2_with fail
  go_returns
  exact ⟨rfl, HU.out⟩

set_option maxRecDepth 100000 in
set_option maxHeartbeats 12800000 in
theorem sorts_walk {w : World} {v : Value} {l : List Int} (h : Row w 1 v l.length (ints l)) (hok : ∀ x ∈ l, InI x) (hl : l.length ≤ 200) :
    Calls Try.prog 10 #[v] w fun e w' => e = .returned (.bool true) ∧ Below w.heap.size w w' := by
  obtain ⟨aa, ca, rfl, xa⟩ := h.at
  have XA := Lib.hid xa
  have HOK := Lib.hid hok
  obtain ⟨i1, hi, hz0, hz1, hz2⟩ := info_parts rowBo
  have hmk : ∀ W : World, (Instr.makeSlice 95 (.int .i64 (l.length : Int)) (.int .i64 (l.length : Int))).run Try.prog W = .ok (.slice (some ⟨W.heap.size, 0, none⟩) l.length l.length) (W.alloc (.cells (booC l.length) BoT)) := fun W => by
    have := run_make (P := Try.prog) W 95 BoT i1 (.bool false) Try.underlying95 hi hz0 .i64 .i64 l.length l.length (by omega) (Int.le_refl _) (by rw [hz2]; omega) (by omega)
    rw [hz1] at this
    simpa [booC] using this
  clear hi hz0 hz1 hz2
  have hlen : (l.length : Int) ≤ 200 := by omega
  have HL := Lib.hid hl
  have HMK := Lib.hid hmk
  clear h xa hok hmk hl
  go_enter Try.func10, Try.ntmps10
  go_wp2_with fail
  refine (new_heap _).mono ?_
  rintro e w1 ⟨rfl, hp, u1⟩
  have HP := Lib.hid hp
  have HU1 := Lib.hid u1
  clear hp u1
  go_wp2_with fail
  go_loopw [4] (fun i wr => ∃ (n : Nat) (v' : Value) (L : List Hp), i = .int .i64 (n : Int) ∧ n ≤ l.length ∧ Below w.heap.size w wr ∧ IsHp wr w.heap.size w.heap.size 58 v' L (n : Int) ∧ L.length = n ∧ Psh l n L ∧ HeapOk (fun x => -x) (atH L) L.length) (fun i _ => l.length - (intOf i).toNat)
  case atStart => exact ⟨0, _, [], rfl, Nat.zero_le _, HU1.out, HP.out, rfl, Psh.nil l, fun j h1 h2 => by simp at h2⟩
  case round =>
    obtain ⟨n, v', L, rfl, hn, hb, hp, hle, hps, ho⟩ := hrel
    have HB := Lib.hid hb
    have HQ := Lib.hid hp
    have HE := Lib.hid hle
    have HS := Lib.hid hps
    have HO := Lib.hid ho
    clear HP HU1 hb hp hle hps ho
    by_cases hlt : n < l.length
    · obtain ⟨b1, o1, rfl, q1⟩ := XA.out (by omega)
      have c0 := bcellAt HB.out (q1 _ _ (ints_at l n hlt))
      have HX : Hid (l[n] = l.getD n 0) := Lib.hid (by simp [hlt])
      have hk : InI l[n] := HOK.out _ (List.getElem_mem hlt)
      have HK := Lib.hid hk
      clear q1 hk
      generalize l[n] = x at *
      have hn0 : (0 : Int) ≤ (n : Int) := by omega
      have hn1 : (n : Int) < (l.length : Int) := by omega
      have HLT := Lib.hid hlt
      clear hlt
      go_wp2_with fail
      refine (push_any less_down HQ.out (by have := HE.out; have := HL.out; omega) (by omega) (by omega) HK.out (HS.out.keys HOK.out) HO.out).mono ?_
      rintro e w2 ⟨rfl, v2, L2, hp2, hpe, ho2, u2, f2⟩
      have HP2 := Lib.hid hp2
      have HPE := Lib.hid hpe
      have HO2 := Lib.hid ho2
      have HB2 := Lib.hid (HB.out.trans u2)
      clear hp2 hpe ho2 u2 f2
      go_wp2_with fail
      go_roundw
      case rel =>
        have e2 : L2.length = n + 1 := by have := HPE.out.length_eq; have := HE.out; simp at *; omega
        refine ⟨n + 1, v2, L2, rfl, HLT.out, HB2.out, ?_, e2, HS.out.push HLT.out (by rw [← HX.out]; exact HPE.out), ?_⟩
        · exact HP2.out
        · rw [e2, ← HE.out]; exact HO2.out
      case measure => have := HLT.out; simp [intOf]; omega
    · obtain rfl : n = l.length := by omega
      clear hlt
      have hmk2 := HMK.out wr
      clear hlen
      go_wp2_with fail
      have bB : Below wr.heap.size wr ((wr.alloc (.cells (booC l.length) BoT)).alloc (.cells #[.int .i64 0, .int .i64 0] ThT)) := ((Below.refl _ _).alloc (Nat.le_refl _) _).alloc (by simp) _
      have hs0 : ((wr.alloc (.cells (booC l.length) BoT)).alloc (.cells #[.int .i64 0, .int .i64 0] ThT)).heap[wr.heap.size]? = some (Obj.cells (booC l.length) BoT) := by
        rw [(((Below.refl _ _).alloc (Nat.le_refl _) _ : Below (wr.alloc (.cells (booC l.length) BoT)).heap.size (wr.alloc (.cells (booC l.length) BoT)) _)).block _ (by simp)]
        exact heap_alloc_new _ _
      have ht0 : ((wr.alloc (.cells (booC l.length) BoT)).alloc (.cells #[.int .i64 0, .int .i64 0] ThT)).heap[wr.heap.size + 1]? = some (Obj.cells #[.int .i64 0, .int .i64 0] ThT) := by
        have e : wr.heap.size + 1 = (wr.alloc (.cells (booC l.length) BoT)).heap.size := by simp
        rw [e]; exact heap_alloc_new _ _
      generalize (wr.alloc (.cells (booC l.length) BoT)).alloc (.cells #[.int .i64 0, .int .i64 0] ThT) = W0 at *
      have HB0 := Lib.hid (bmore HB.out bB)
      have HP0 : Hid (IsHp W0 w.heap.size w.heap.size 58 v' L (l.length : Int)) := Lib.hid ⟨Hold.below bB _ _ HQ.out.lay, own_hold HQ.out.row (Hold.below bB), HQ.out.gb⟩
      have HZ : Hid (w.heap.size ≤ wr.heap.size) := Lib.hid HB.out.size
      have HS0 := Lib.hid hs0
      have HT0 := Lib.hid ht0
      have HLS := Lib.hid (Left.start HS.out HE.out HO.out (booC_size _) (booC_at _))
      clear bB hs0 ht0 HB HQ HS HE HO hmk2 HMK
      generalize wr.heap.size = sb at *
      clear wr
      go_loopw [7] (fun i wy => ∃ (n : Nat) (v' : Value) (L : List Hp) (sc : Array Value) (lk ln : Int), i = .int .i64 (n : Int) ∧ n ≤ l.length ∧ Below w.heap.size w wy ∧ IsHp wy w.heap.size w.heap.size 58 v' L (l.length : Int) ∧ Left l L sc n lk ln ∧ wy.heap[sb]? = some (Obj.cells sc BoT) ∧ wy.heap[sb + 1]? = some (Obj.cells #[.int .i64 lk, .int .i64 ln] ThT)) (fun i _ => l.length - (intOf i).toNat)
      case atStart => exact ⟨0, v', L, _, 0, 0, rfl, Nat.zero_le _, HB0.out, HP0.out, HLS.out, HS0.out, HT0.out⟩
      case round =>
        obtain ⟨n, v2, L2, sc, lk, ln, rfl, hn2, hb, hp, hls, hs, ht⟩ := hrel
        clear HB0 HP0 HLS HS0 HT0
        have HB := Lib.hid hb
        have HQ := Lib.hid hp
        have HX := Lib.hid hls
        have HS := Lib.hid hs
        have HT := Lib.hid ht
        clear hb hp hls hs ht
        by_cases hlt : n < l.length
        · have hn0 : (0 : Int) ≤ (n : Int) := by omega
          have hn1 : (n : Int) < (l.length : Int) := by omega
          have HLT := Lib.hid hlt
          have h0 : 0 < L2.length := by have := HX.out.len; omega
          have hz : L2.length < 100000 := by have := HX.out.len; have := HL.out; omega
          have H0 := Lib.hid h0
          obtain ⟨j, hj, htop, hsj, hcmp⟩ := HX.out.top h0
          have hkj : l[j] = l.getD j 0 := by simp [hj]
          generalize l.getD j 0 = k0 at *
          have HKJ : Hid (∀ h : j < l.length, l[j]'h = k0) := Lib.hid fun _ => hkj
          clear hkj
          have HPOP := Lib.hid (pop_yes less_down HQ.out h0 hz (HX.out.psh.keys HOK.out) HX.out.ok)
          have HJ := Lib.hid hj
          have HTOP := Lib.hid htop
          have HSJ := Lib.hid hsj
          have HCMP := Lib.hid hcmp
          clear hlt h0 hz hj htop hsj hcmp
          go_wp2_with fail
          refine HPOP.out.mono ?_
          rintro e w1 ⟨rfl, v3, L3, hp3, hpe, ho3, u3, f3⟩
          clear HPOP
          have hs1 := f3 BoT (by decide) (by decide) _ _ HS.out
          have ht1 := f3 ThT (by decide) (by decide) _ _ HT.out
          have HB1 := Lib.hid (HB.out.trans u3)
          have HP3 := Lib.hid hp3
          have HPE := Lib.hid hpe
          have HO3 := Lib.hid ho3
          have hz0 : sb + 1 < w1.heap.size := (Array.getElem?_eq_some_iff.1 ht1).1
          clear u3 f3 hp3 hpe ho3 HB HQ HS HT
          rw [show (atH L2 0).key = k0 by rw [HTOP.out], show (atH L2 0).num = (j : Int) by rw [HTOP.out]]
          have hbA : Below w1.heap.size w1 (w1.alloc (.cells #[.int .i64 k0, .int .i64 (j : Int)] ThT)) := (Below.refl _ _).alloc (Nat.le_refl _) _
          have hs2 := Hold.below hbA _ _ hs1
          have ht2 := Hold.below hbA _ _ ht1
          have hn2 : (w1.alloc (.cells #[.int .i64 k0, .int .i64 (j : Int)] ThT)).heap[w1.heap.size]? = some (Obj.cells #[.int .i64 k0, .int .i64 (j : Int)] ThT) := heap_alloc_new _ _
          obtain ⟨b1, o1, rfl, q1⟩ := XA.out (by have := HJ.out; omega)
          have HBW := Lib.hid (bmore HB1.out hbA)
          have hcl : (w1.alloc (.cells #[.int .i64 k0, .int .i64 (j : Int)] ThT)).cell? ⟨b1, o1 + j, none⟩ = some (.int .i64 k0) := by
            have := bcellAt HBW.out (q1 _ _ (ints_at l j HJ.out))
            rw [this, HKJ.out]
          have HPW : Hid (IsHp (w1.alloc (.cells #[.int .i64 k0, .int .i64 (j : Int)] ThT)) w.heap.size w.heap.size 58 v3 L3 (l.length : Int)) := Lib.hid ⟨Hold.below hbA _ _ HP3.out.lay, own_hold HP3.out.row (Hold.below hbA), HP3.out.gb⟩
          have HS2 := Lib.hid hs2
          have HT2 := Lib.hid ht2
          have HN2 := Lib.hid hn2
          have HCL := Lib.hid hcl
          have HQ1 := Lib.hid q1
          clear hs1 ht1 hbA hs2 ht2 hn2 q1 hcl HP3 HB1
          go_upto_region 16 with fail
          generalize (w1.alloc (.cells #[.int .i64 k0, .int .i64 (j : Int)] ThT)) = W2 at *
          generalize w1.heap.size = nb at *
          clear w1
          have j0 : (0 : Int) ≤ (j : Int) := by omega
          have j1 : (j : Int) < (l.length : Int) := by have := HJ.out; omega
          go_cut [103] from 37 to 108 (fun s wx => s = .bool false ∧ ∃ m, wx = W2.drewN m)
          case first =>
            have c1 := HCL.out
            have c2 := cellB (j := j) HS2.out HSJ.out
            have c3 := cellB (j := 0) HT2.out rfl
            have c4 := cellB (j := 1) HT2.out rfl
            have c5 := cellB (j := 0) HN2.out rfl
            have c6 := cellB (j := 1) HN2.out rfl
            have d1 : decide ((j : Int) < 0) = false := decide_eq_false (by omega)
            have d2 : decide (l.length ≤ j) = false := decide_eq_false (by omega)
            by_cases hn : n = 0
            · subst hn
              go_quiet (fail)
              go_wp2_with fail
              go_meet
              exact ⟨rfl, _, rfl⟩
            · have hc := HCMP.out (by omega)
              have d3 : decide (0 < n) = true := decide_eq_true (by omega)
              have d4 : decide (lk < k0) = false := decide_eq_false (by omega)
              clear hn
              by_cases he : k0 = lk
              · subst he
                have d5 : decide ((j : Int) < ln) = false := decide_eq_false (by have := hc.2 rfl; omega)
                clear hc
                go_quiet (fail)
                go_wp2_with fail
                go_meet
                exact ⟨rfl, _, rfl⟩
              · have d5 : decide (k0 = lk) = false := decide_eq_false he
                clear hc
                go_quiet (fail)
                go_wp2_with fail
                go_meet
                exact ⟨rfl, _, rfl⟩
          case rest =>
            obtain ⟨rfl, m, rfl⟩ := hcut
            have hS3 := Hold.below (bdn W2 m) _ _ HS2.out
            have hT3 := Hold.below (bdn W2 m) _ _ HT2.out
            have hN3 := Hold.below (bdn W2 m) _ _ HN2.out
            have HBX := Lib.hid (bmore HBW.out (bdn W2 m))
            have HPX : Hid (IsHp (W2.drewN m) w.heap.size w.heap.size 58 v3 L3 (l.length : Int)) := Lib.hid ⟨Hold.below (bdn W2 m) _ _ HPW.out.lay, own_hold HPW.out.row (Hold.below (bdn W2 m)), HPW.out.gb⟩
            clear HBW HPW HS2 HT2 HN2 HCL HQ1
            generalize W2.drewN m = W3 at *
            have s1 := cellB (j := j) hS3 HSJ.out
            have s2 := frozenB (j := j) hS3
            have n0 := cellB (j := 0) hN3 rfl
            have n1 := cellB (j := 1) hN3 rfl
            have t0 := cellB (j := 0) hT3 rfl
            have t1 := cellB (j := 1) hT3 rfl
            have f0 := frozenB (j := 0) hT3
            have f1 := frozenB (j := 1) hT3
            have q1 : ¬ sb = nb := by omega
            have q2 : ¬ nb = sb := by omega
            have q3 : ¬ sb = sb + 1 := by omega
            have q4 : ¬ sb + 1 = sb := by omega
            have HS3 := Lib.hid hS3
            have HT3 := Lib.hid hT3
            clear hS3 hT3 hN3
            go_wp2_with fail
            have hT4 : (W3.setCell ⟨sb, j, none⟩ (.bool true)).heap[sb + 1]? = some (Obj.cells #[.int .i64 lk, .int .i64 ln] ThT) := (Below.heap_setCell _ _ _ _ (by omega)).trans HT3.out
            have hT5 := setCellB (j := 0) (u := .int .i64 k0) hT4
            have hT6 := setCellB (j := 1) (u := .int .i64 (j : Int)) hT5
            have hS6 : (((W3.setCell ⟨sb, j, none⟩ (.bool true)).setCell ⟨sb + 1, 0, none⟩ (.int .i64 k0)).setCell ⟨sb + 1, 1, none⟩ (.int .i64 (j : Int))).heap[sb]? = some (Obj.cells (sc.setIfInBounds j (.bool true)) BoT) :=
              ((Below.heap_setCell _ _ _ _ (by omega)).trans (Below.heap_setCell _ _ _ _ (by omega))).trans (setCellB HS3.out)
            have hH : ∀ T, BoT ≠ T → ThT ≠ T → Hold T W3 (((W3.setCell ⟨sb, j, none⟩ (.bool true)).setCell ⟨sb + 1, 0, none⟩ (.int .i64 k0)).setCell ⟨sb + 1, 1, none⟩ (.int .i64 (j : Int))) := fun T e1 e2 =>
              ((Hold.setCell HS3.out e1).trans (Hold.setCell hT4 e2)).trans (Hold.setCell hT5 e2)
            have hz := HZ.out
            refine ⟨⟨n + 1, v3, L3, _, k0, (j : Int), rfl, HLT.out, ?_, ⟨hH _ (by decide) (by decide) _ _ HPX.out.lay, own_hold HPX.out.row (hH _ (by decide) (by decide)), HPX.out.gb⟩, HX.out.step H0.out HJ.out HTOP.out HPE.out HO3.out, hS6, hT6⟩, ?_⟩
            · exact ((HBX.out.setCell (p := ⟨sb, j, none⟩) hz _).setCell (p := ⟨sb + 1, 0, none⟩) (Nat.le_succ_of_le hz) _).setCell (p := ⟨sb + 1, 1, none⟩) (Nat.le_succ_of_le hz) _
            · have := HLT.out; simp [intOf]; omega
        · obtain rfl : n = l.length := by omega
          clear hlt
          have hl0 : L2 = [] := by have := HX.out.len; exact List.eq_nil_of_length_eq_zero (by omega)
          have HPN := Lib.hid (pop_no (hl0 ▸ HQ.out))
          clear HX HQ HS HT
          go_wp2_with fail
          refine HPN.out.mono ?_
          rintro e w1 ⟨rfl, u1⟩
          have HB1 := Lib.hid (bmore HB.out u1)
          clear HPN u1 HB
          go_wp2_with fail
          refine (live_any _).mono ?_
          rintro e w2 ⟨rfl, u2⟩
          have HB2 := Lib.hid (bmore (bmore HB1.out ((Below.refl _ _).alloc (Nat.le_refl _) _)) u2)
          clear u2 HB1
          go_wp2_with fail
          go_returns
          exact ⟨rfl, HB2.out⟩
end Go.Proofs.Ytmbaedldikobcaa
