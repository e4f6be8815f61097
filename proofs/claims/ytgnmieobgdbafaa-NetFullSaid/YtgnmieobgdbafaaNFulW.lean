/-
  NetFull: as many as may fly, and beyond. The walk.
-/
import Derived.Test.YtgnmieobgdbafaaNPlaW
import Derived.LoopN
namespace Go.Proofs.Ytgnmieobgdbafaa
open Go.RowKit
set_option linter.unusedVariables false
def xB : ByteArray := ⟨#[120]⟩
set_option maxRecDepth 100000 in
set_option maxHeartbeats 6400000 in
theorem nfull_all (w : World) (f n : Int) :
    Calls Try.prog 6 #[.int .i64 f, .int .i64 n] w fun e w' => e = .returned (.bool true) ∧ Below w.heap.size w w' := by
  go_enter Try.func6, Try.ntmps6
  by_cases hn0 : n < 0
  · have hd0 : decide (n < 0) = true := by simpa using hn0
    clear hn0
    go_wp2_with fail
    refine (live15 w).mono ?_
    rintro e w2 ⟨rfl, b2⟩
    have B2 := Lib.hid b2
    clear b2
    go_wp2_with fail
    go_returns
    exact ⟨rfl, B2.out⟩
  have hd0 : decide (n < 0) = false := by simpa using hn0
  by_cases hn5 : 5 < n
  · have hd5 : decide (5 < n) = true := by simpa using hn5
    clear hn0 hn5
    go_wp2_with fail
    refine (live15 w).mono ?_
    rintro e w2 ⟨rfl, b2⟩
    have B2 := Lib.hid b2
    clear b2
    go_wp2_with fail
    go_returns
    exact ⟨rfl, B2.out⟩
  have hd5 : decide (5 < n) = false := by simpa using hn5
  have HN := Lib.hid (show 0 ≤ n ∧ n ≤ 5 by omega)
  have hw0 : IntKind.i64.wrap (1024 - n) = 1024 - n := IntWalk.i64_in _ (by have := HN.out; omega)
  clear hn0 hn5
  go_wp2_with fail
  refine (new_any w).mono ?_
  rintro e w1 ⟨rfl, h1, b1⟩
  have I1 := Lib.hid h1
  have B1 := Lib.hid b1
  clear h1 b1
  go_wp2_with fail
  refine (rnew_any w1).mono ?_
  rintro e w2 ⟨rfl, h2, b2⟩
  have D2 := Lib.hid (duo_new I1.out B1.out h2 b2)
  have B2 := Lib.hid (bmore B1.out b2)
  clear h2 b2 I1
  generalize w1.heap.size = r at *
  go_wp2_with fail
  go_loopw [7] (fun v wr => ∃ (k : Nat) (x : Nt) (F H L E : Value), v = .int .i64 (k : Int) ∧ (k : Int) ≤ 1024 - n ∧ Duo wr w.heap.size w.heap.size r F H L E x ∧ Bd k x ∧ Below w.heap.size w wr) (fun v _ => 1026 - (intOf v).toNat)
  case atStart => exact ⟨0, newNt, _, _, _, _, rfl, by have := HN.out; omega, D2.out, Bd.new, B2.out⟩
  case round =>
    obtain ⟨k, x, F, H, L, E, rfl, hk, hD, hbd, hb⟩ := hrel
    have HD := Lib.hid hD
    have HBD := Lib.hid hbd
    have HB := Lib.hid hb
    clear hD hbd hb
    by_cases hlt : (k : Int) < 1024 - n
    · have hlt1 : decide ((k : Int) < 1024 - n) = true := by simpa using hlt
      have HLT := Lib.hid (show k < 1024 by have := HN.out; omega)
      have HLT2 := Lib.hid hlt
      have hwk : IntKind.i64.wrap ((k : Int) + 1) = (k : Int) + 1 := IntWalk.i64_in _ (by have := HLT.out; omega)
      have hsd := send_any HD.out.n HB.out.size (by have := HBD.out.ids; have := HLT.out; omega) 0 1 xB (HBD.out.st9 (by have := HLT.out; omega))
      have HBD2 := Lib.hid (HBD.out.send 0 1 xB)
      clear hk hlt
      go_wp2_with fail
      refine hsd.mono ?_
      rintro e w3 ⟨rfl, g3⟩
      obtain ⟨F3, H3, i3, m3, p3, b3, _⟩ := duo_left HD.out HB.out.size g3
      have I3 := Lib.hid i3
      have M3 := Lib.hid m3
      have P3 := Lib.hid p3
      have B3 := Lib.hid (HB.out.trans b3)
      have hsr := rsend_any M3.out B3.out.size (by have := HBD.out.ids; have := HLT.out; omega) 0 1 xB (HBD.out.st9 (by have := HLT.out; omega))
      clear hsd g3 i3 m3 p3 b3
      go_wp2_with fail
      refine hsr.mono ?_
      rintro e w4 ⟨rfl, g4⟩
      obtain ⟨L4, E4, d4, b4⟩ := duo_right I3.out M3.out P3.out B3.out.size g4
      have D4 := Lib.hid d4
      have B4 := Lib.hid (B3.out.trans b4)
      clear hsr g4 d4 b4
      go_wp2_with fail
      go_roundw
      case rel => exact ⟨k + 1, _, F3, H3, L4, E4, by simp, by have := HLT2.out; omega, D4.out, HBD2.out, B4.out⟩
      case measure => have := HLT.out; simp [intOf]; omega
    · have hlt1 : decide ((k : Int) < 1024 - n) = false := by simpa using hlt
      have HB0 := Lib.hid (HBD.out.more (show k ≤ 1024 by have := HN.out; omega))
      have HD0 := HD
      have HBB := HB
      clear hk hlt HBD
      go_wp2_with fail
      clear hlt1
      generalize wr = wp at *
      go_loopw [8] (fun v wr => ∃ (i : Nat) (x : Nt) (F H L E : Value), v = .int .i64 (i : Int) ∧ i ≤ 4 ∧ Duo wr w.heap.size w.heap.size r F H L E x ∧ Bd (1024 + 2 * i) x ∧ Below w.heap.size w wr) (fun v _ => 6 - (intOf v).toNat)
      case atStart => exact ⟨0, x, F, H, L, E, rfl, by omega, HD0.out, HB0.out, HBB.out⟩
      case round =>
        clear HD0 HB0 HBB HD HB
        clear F H L E x
        obtain ⟨i, x, F, H, L, E, rfl, hi, hD, hbd, hb⟩ := hrel
        have HD := Lib.hid hD
        have HBD := Lib.hid hbd
        have HB := Lib.hid hb
        clear hD hbd hb
        by_cases hlt : i < 4
        · have hlt1 : decide ((i : Int) < 4) = true := by simp; omega
          have HLT := Lib.hid hlt
          have hwk : IntKind.i64.wrap ((i : Int) + 1) = (i : Int) + 1 := IntWalk.i64_in _ (by have := HLT.out; omega)
          have hdo := does_any HD.out HB.out.size HBD.out (by have := HLT.out; omega) ⟨0, f, 2, ⟨#[]⟩, false⟩
          have HBD2 := Lib.hid (HBD.out.step ⟨0, f, 2, ⟨#[]⟩, false⟩)
          clear hi hlt
          go_wp2_with fail
          refine hdo.mono ?_
          rintro e w3 ⟨rfl, F3, H3, L3, E3, h3, b3⟩
          have D3 := Lib.hid h3
          have B3 := Lib.hid (HB.out.trans b3)
          clear hdo h3 b3
          have hdo := does_any D3.out B3.out.size HBD2.out (by have := HLT.out; omega) ⟨3, (i : Int), 0, ⟨#[]⟩, false⟩
          have HBD3 := Lib.hid (HBD2.out.step ⟨3, (i : Int), 0, ⟨#[]⟩, false⟩)
          go_wp2_with fail
          refine hdo.mono ?_
          rintro e w4 ⟨rfl, F4, H4, L4, E4, h4, b4⟩
          have D4 := Lib.hid h4
          have B4 := Lib.hid (B3.out.trans b4)
          clear hdo h4 b4
          go_wp2_with fail
          go_roundw
          case rel => exact ⟨i + 1, _, F4, H4, L4, E4, by simp, HLT.out, D4.out, HBD3.out, B4.out⟩
          case measure => have := HLT.out; simp [intOf]; omega
        · obtain rfl : i = 4 := by omega
          clear hi hlt
          have HFL := Lib.hid (show x.fl.length ≤ 2000 by have := HBD.out.fl; omega)
          obtain ⟨la, lc, rfl⟩ := slice_of HD.out.m.rowF
          go_upto_region 17 with fail
          have SS := Lib.hid (show ∀ V, Below wr.heap.size wr V → V.cell? ⟨r, 0, none⟩ = some (.slice la x.fl.length lc) from fun V hV => (HD.out.below hV).m.c0.2.1)
          have hS0 := SS.out _ (bd wr)
          refine li_start [0, 3, 4, 5, 6, 7, 1, 2, 8, 9, 10, 11, 12] (S := fun V => V.cell? ⟨r, 0, none⟩ = some (.slice la x.fl.length lc)) (by kernel_rfl) hS0 ?_
          simp only [inOrder, List.filterMap, List.getElem?_cons_succ, List.getElem?_cons_zero]
          iterate 6 (refine li_take rfl (by kernel_rfl) (by rfl) hS0 (by (rintro V s0; go_simp) <;> with_reducible rfl) ?_); simp only [Act.put, List.setIfInBounds_toArray, List.set_cons_zero, List.set_cons_succ]
          refine li_do rfl (by kernel_rfl) (by rfl) (fun K hK => ?_)
          go_simp
          refine (flying_any (HD.out.below (bd wr)).n (Nat.le_trans HFL.out (by decide))).mono ?_
          rintro e V1 ⟨⟨v1, rfl, o1⟩, b1⟩
          have C1 := Lib.hid (bmore (bd wr) b1)
          obtain ⟨ga, gc, rfl⟩ := slice_of o1
          refine hK _ _ ⟨SS.out _ C1.out, ?_⟩
          clear hK K b1 o1 hS0
          try simp only [Act.put, List.setIfInBounds_toArray, List.set_cons_zero, List.set_cons_succ]
          have hS1 := SS.out _ C1.out
          iterate 3 (refine li_take rfl (by kernel_rfl) (by rfl) hS1 (by (rintro V s0; go_simp) <;> with_reducible rfl) ?_); simp only [Act.put, List.setIfInBounds_toArray, List.set_cons_zero, List.set_cons_succ]
          refine li_do rfl (by kernel_rfl) (by rfl) (fun K hK => ?_)
          go_simp
          refine (live15 V1).mono ?_
          rintro e V2 ⟨rfl, b2⟩
          have C2 := Lib.hid (bmore C1.out b2)
          refine hK _ _ ⟨SS.out _ C2.out, ?_⟩
          clear hK K b2 hS1
          try simp only [Act.put, List.setIfInBounds_toArray, List.set_cons_zero, List.set_cons_succ]
          have hS2 := SS.out _ C2.out
          iterate 2 (refine li_take rfl (by kernel_rfl) (by rfl) hS2 (by (rintro V s0; go_simp) <;> with_reducible rfl) ?_); simp only [Act.put, List.setIfInBounds_toArray, List.set_cons_zero, List.set_cons_succ]
          refine li_done (by kernel_rfl) ?_
          clear hS2
          have BE := Lib.hid (bmore HB.out C2.out)
          go_wp2_with fail
          go_returns
          exact ⟨rfl, BE.out⟩
end Go.Proofs.Ytgnmieobgdbafaa
